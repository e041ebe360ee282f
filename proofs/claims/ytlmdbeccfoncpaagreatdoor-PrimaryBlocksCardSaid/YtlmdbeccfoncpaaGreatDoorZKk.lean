/- Joined texts. -/
import Derived.Test.YtlmdbeccfoncpaaGreatDoorZKh
import Derived.Test.YtlmdbeccfoncpaaGreatDoorZKj
namespace Go.Proofs.YtlmdbeccfoncpaaGreatDoor
open Go Go.RowKit Go.Shelf
set_option linter.unusedSimpArgs false
set_option linter.unusedVariables false
set_option maxRecDepth 100000

/-- A name: node, service, time, number. -/
structure NmT where
  n : Nat
  m : Nat
  t : Nat
  q : Nat

/-- What fits its types. -/
def NmT.ok (x : NmT) : Prop := (x.n ≤ 4294967295 ∧ x.m ≤ 4294967295) ∧ (x.t < 18446744073709551616 ∧ x.q ≤ 4294967295)
/-- May it be? -/
def NmT.may (x : NmT) : Bool := decide (0 < x.n) && decide (x.t ≤ forever)
def NmT.val (x : NmT) : Value := .agg #[.int .u32 x.n, .int .u32 x.m, .int .u64 x.t, .int .u32 x.q]
/-- Its text, or none. -/
def NmT.txt (x : NmT) : List UInt8 := if x.may = true then txN x.n x.m x.t x.q else []
def NmT.it (x : NmT) : It := if x.may = true then itN x.n x.m x.t x.q else .mk 0 0 [] [] []
/-- Its error. -/
def NmT.er (x : NmT) : Int := if x.may = true then 0 else 2
/-- Which is ahead. -/
def NmT.ord (x y : NmT) : Int := ordN (x.n, x.m, x.t, x.q) (y.n, y.m, y.t, y.q)

theorem NmT.may_iff {x : NmT} : x.may = true ↔ (0 < x.n ∧ x.t ≤ forever) := by simp [NmT.may]

theorem NmT.ext' {x y : NmT} (h0 : x.n = y.n) (h1 : x.m = y.m) (h2 : x.t = y.t) (h3 : x.q = y.q) : x = y := by
  cases x; cases y; simp_all

/-- Unlike names have unlike texts. -/
theorem txt_inj {x y : NmT} (hx : x.ok) (hy : y.ok) (mx : x.may = true) (my : y.may = true) (h : x.txt = y.txt) : x = y := by
  have h1 := NmT.may_iff.1 mx
  have h2 := NmT.may_iff.1 my
  have e1 : x.txt = txN x.n x.m x.t x.q := if_pos mx
  have e2 : y.txt = txN y.n y.m y.t y.q := if_pos my
  have p := nmN_iff.2 ⟨e1, h1.1, hx.1.1, hx.1.2, h1.2, hx.2.2⟩
  have q := nmN_iff.2 ⟨e2, h2.1, hy.1.1, hy.1.2, h2.2, hy.2.2⟩
  rw [h, q] at p
  simp only [Option.some.injEq, Prod.mk.injEq] at p
  exact NmT.ext' p.1.symm p.2.1.symm p.2.2.1.symm p.2.2.2.symm

theorem it_inj {x y : NmT} (mx : x.may = true) (my : y.may = true) (h : x.it = y.it) : x = y := by
  have h1 := NmT.may_iff.1 mx
  have h2 := NmT.may_iff.1 my
  have e1 : x.it = itN x.n x.m x.t x.q := if_pos mx
  have e2 : y.it = itN y.n y.m y.t y.q := if_pos my
  rw [e1, e2] at h
  have g1 : itE x.n x.m = itLs [itU 2, itLs [itU x.n, itU x.m]] := if_neg (by omega)
  have g2 : itE y.n y.m = itLs [itU 2, itLs [itU y.n, itU y.m]] := if_neg (by omega)
  rw [itN, itN, g1, g2] at h
  simp [itLs, itU] at h
  exact NmT.ext' (by omega) (by omega) (by omega) (by omega)

theorem cmpT_swap (x y : Int) : cmpT x y = - cmpT y x := by
  unfold cmpT
  split <;> split <;> first | rfl | omega
theorem cmpT_zero {x y : Int} : cmpT x y = 0 ↔ x = y := by
  unfold cmpT
  split
  · constructor <;> (intro h; omega)
  · split
    · constructor <;> (intro h; omega)
    · constructor <;> (intro h; omega)
theorem cmpT_neg {x y : Int} : cmpT x y < 0 ↔ x < y := by
  unfold cmpT
  split
  · constructor <;> (intro h; omega)
  · split
    · constructor <;> (intro h; omega)
    · constructor <;> (intro h; omega)

theorem ord_swap (x y : NmT) : x.ord y = - y.ord x := by
  have z : ∀ a b : Int, cmpT a b ≠ 0 ↔ cmpT b a ≠ 0 := fun a b => by rw [cmpT_swap a b]; omega
  unfold NmT.ord ordN
  simp only
  by_cases h0 : cmpT (x.n : Int) y.n ≠ 0
  · rw [if_pos h0, if_pos ((z _ _).1 h0)]; exact cmpT_swap _ _
  rw [if_neg h0, if_neg (fun h => h0 ((z _ _).2 h))]
  by_cases h1 : cmpT (x.m : Int) y.m ≠ 0
  · rw [if_pos h1, if_pos ((z _ _).1 h1)]; exact cmpT_swap _ _
  rw [if_neg h1, if_neg (fun h => h1 ((z _ _).2 h))]
  by_cases h2 : cmpT (x.t : Int) y.t ≠ 0
  · rw [if_pos h2, if_pos ((z _ _).1 h2)]; exact cmpT_swap _ _
  rw [if_neg h2, if_neg (fun h => h2 ((z _ _).2 h))]
  exact cmpT_swap _ _

/-- Ahead: by the first part that is unlike. -/
theorem ord_neg {x y : NmT} : x.ord y < 0 ↔ (x.n < y.n ∨ x.n = y.n ∧ (x.m < y.m ∨ x.m = y.m ∧ (x.t < y.t ∨ x.t = y.t ∧ x.q < y.q))) := by
  unfold NmT.ord ordN
  simp only
  by_cases h0 : cmpT (x.n : Int) y.n ≠ 0
  · rw [if_pos h0, cmpT_neg]
    have : ¬ (x.n : Int) = y.n := fun e => h0 (cmpT_zero.2 e)
    omega
  rw [if_neg h0]
  have e0 := cmpT_zero.1 (Decidable.not_not.1 h0)
  by_cases h1 : cmpT (x.m : Int) y.m ≠ 0
  · rw [if_pos h1, cmpT_neg]
    have : ¬ (x.m : Int) = y.m := fun e => h1 (cmpT_zero.2 e)
    omega
  rw [if_neg h1]
  have e1 := cmpT_zero.1 (Decidable.not_not.1 h1)
  by_cases h2 : cmpT (x.t : Int) y.t ≠ 0
  · rw [if_pos h2, cmpT_neg]
    have : ¬ (x.t : Int) = y.t := fun e => h2 (cmpT_zero.2 e)
    omega
  rw [if_neg h2]
  have e2 := cmpT_zero.1 (Decidable.not_not.1 h2)
  rw [cmpT_neg]
  omega

theorem ord_zero {x y : NmT} : x.ord y = 0 ↔ x = y := by
  have h1 := @ord_neg x y
  have h2 := @ord_neg y x
  have h3 := ord_swap x y
  constructor
  · intro h
    have n1 : ¬ x.ord y < 0 := by omega
    have n2 : ¬ y.ord x < 0 := by omega
    rw [h1] at n1
    rw [h2] at n2
    exact NmT.ext' (by omega) (by omega) (by omega) (by omega)
  · rintro rfl
    omega

theorem ord_trans {x y z : NmT} (h : x.ord y < 0) (k : y.ord z < 0) : x.ord z < 0 := by
  rw [ord_neg] at *
  omega

theorem cmpT_bound (x y : Int) : -1 ≤ cmpT x y ∧ cmpT x y ≤ 1 := by
  unfold cmpT
  split
  · decide
  · split <;> decide
theorem ord_bound (x y : NmT) : -1 ≤ x.ord y ∧ x.ord y ≤ 1 := by
  unfold NmT.ord ordN
  simp only
  split
  · exact cmpT_bound _ _
  · split
    · exact cmpT_bound _ _
    · split <;> exact cmpT_bound _ _

/-- Are they the same? -/
def NmT.same (x y : NmT) : Bool := (x.n == y.n && x.m == y.m) && (x.t == y.t && x.q == y.q)
theorem NmT.same_iff {x y : NmT} : x.same y = true ↔ x = y := by
  constructor
  · intro h
    simp only [NmT.same, Bool.and_eq_true, beq_iff_eq] at h
    exact NmT.ext' h.1.1 h.1.2 h.2.1 h.2.2
  · rintro rfl
    simp [NmT.same]
theorem NmT.same_no {x y : NmT} (h : ¬ x = y) : x.same y = false := by
  cases e : x.same y with
  | false => rfl
  | true => exact absurd (NmT.same_iff.1 e) h

theorem eqName_run (a b : NmT) (w : World) : (Op.equalIn 10000 42 (.agg #[.int .u32 a.n, .int .u32 a.m, .int .u64 a.t, .int .u32 a.q]) (.agg #[.int .u32 b.n, .int .u32 b.m, .int .u64 b.t, .int .u32 b.q])).run Tryz.prog w = .ok (a.same b) w := by
  unfold NmT.same
  have e1 : ∀ x y : Nat, ((x : Int) == (y : Int)) = (x == y) := fun x y => by
    rw [Bool.eq_iff_iff, beq_iff_eq, beq_iff_eq]
    omega
  go_simp
  by_cases h0 : a.n = b.n <;> by_cases h1 : a.m = b.m <;> by_cases h2 : a.t = b.t <;> by_cases h3 : a.q = b.q <;> simp [h0, h1, h2, h3]

end Go.Proofs.YtlmdbeccfoncpaaGreatDoor

namespace Go.Proofs.YtlmdbeccfoncpaaGreatDoor
open Go Go.RowKit Go.Shelf
set_option linter.unusedSimpArgs false
set_option linter.unusedVariables false
set_option maxRecDepth 100000

theorem refUint_any (n : Int) (w : World) : Calls Tryz.prog 70 #[.int .u64 n] w fun e w' => e = .returned (.agg #[.int .i64 1, .int .u64 n, .slice none 0 0, .string ⟨#[]⟩, .slice none 0 0]) ∧ Below w.heap.size w w' := by
  go_enter Tryz.func70, Tryz.ntmps70
  go_wp2
  exact bodyPost_ret (v := .agg #[.int .i64 1, .int .u64 n, .slice none 0 0, .string ⟨#[]⟩, .slice none 0 0]) (by simp [results, Tryz.results70, go_sem]) rfl ⟨rfl, below_al (Below.refl _ _) _⟩

theorem refList_any (a : Option Addr) (n c : Nat) (w : World) : Calls Tryz.prog 65 #[.slice a n c] w fun e w' => e = .returned (.agg #[.int .i64 4, .int .u64 0, .slice none 0 0, .string ⟨#[]⟩, .slice a n c]) ∧ Below w.heap.size w w' := by
  go_enter Tryz.func65, Tryz.ntmps65
  go_wp2
  exact bodyPost_ret (v := .agg #[.int .i64 4, .int .u64 0, .slice none 0 0, .string ⟨#[]⟩, .slice a n c]) (by simp [results, Tryz.results65, go_sem]) rfl ⟨rfl, below_al (Below.refl _ _) _⟩

/-- Numbers of 64 bits. -/
def N64 (n : Nat) : Prop := n < 18446744073709551616

theorem dig_text (w : World) (d : Nat) (hd : d < 10) (t : TypeId) :
    (convert 29 9 (.slice (some ⟨w.heap.size, 0, none⟩) 1 1)).run Tryz.prog (w.alloc (.cells #[.int .u8 (48 + (d : Int))] t)) = .ok (.string ⟨#[UInt8.ofNat (48 + d)]⟩) (w.alloc (.cells #[.int .u8 (48 + (d : Int))] t)) := by
  have h := RdB.text (P := Tryz.prog) (w := w.alloc (.cells #[.int .u8 (48 + (d : Int))] t)) (B := w.heap.size + 1) (a := some ⟨w.heap.size, 0, none⟩) (bs := [UInt8.ofNat (48 + d)]) (.inr ⟨w.heap.size, 0, rfl, by omega, fun j hj => by
    simp at hj
    subst hj
    rw [Nat.zero_add, World.cell?_alloc_mark]
    have e := dig_nat d hd
    have e2 : (48 + (d : Int)) % 256 = 48 + d := by omega
    simp [byteAt, e, e2]⟩) 29 9 5 1 1 rfl Tryz.underlying29 Tryz.underlying5 Tryz.underlying9
  exact h

theorem one_cat (c : UInt8) (acc : List UInt8) : (⟨#[c]⟩ : ByteArray) ++ ⟨acc.toArray⟩ = ⟨(c :: acc).toArray⟩ := by
  apply ByteArray.ext
  simp [ByteArray.data_append]

theorem refNobody_any (n m : Nat) (w : World) : Calls Tryz.prog 103 #[.agg #[.int .u32 n, .int .u32 m]] w fun e w' => e = .returned (.bool (decide (n = 0 ∧ m = 0))) ∧ Below w.heap.size w w' := by
  by_cases h0 : n = 0
  · subst h0
    by_cases h1 : m = 0
    · subst h1
      go_enter Tryz.func103, Tryz.ntmps103
      go_wp2
      go_ret
      exact ⟨rfl, below_al (Below.refl _ _) _⟩
    · have h1' : ((m : Int) == 0) = false := by simp; omega
      go_enter Tryz.func103, Tryz.ntmps103
      go_wp2
      go_ret
      exact ⟨by simp [h1], below_al (Below.refl _ _) _⟩
  · have h0' : ((n : Int) == 0) = false := by simp; omega
    go_enter Tryz.func103, Tryz.ntmps103
    go_wp2
    go_ret
    exact ⟨by simp [h0], below_al (Below.refl _ _) _⟩

theorem nmRefRight_any (n m : Nat) (w : World) : Calls Tryz.prog 35 #[.agg #[.int .u32 n, .int .u32 m]] w fun e w' => e = .returned (.bool (decide (0 < n ∨ m = 0))) ∧ Below w.heap.size w w' := by
  by_cases h0 : 0 < n
  · have h0' : (0 : Int) < (n : Int) := by omega
    go_enter Tryz.func35, Tryz.ntmps35
    go_wp2
    go_ret
    exact ⟨by simp [h0], below_al (Below.refl _ _) _⟩
  · obtain rfl : n = 0 := by omega
    by_cases h1 : m = 0
    · subst h1
      go_enter Tryz.func35, Tryz.ntmps35
      go_wp2
      go_ret
      exact ⟨rfl, below_al (Below.refl _ _) _⟩
    · have h1' : ((m : Int) == 0) = false := by simp; omega
      go_enter Tryz.func35, Tryz.ntmps35
      go_wp2
      go_ret
      exact ⟨by simp [h1], below_al (Below.refl _ _) _⟩

theorem refRightName_any (x : NmT) (w : World) : Calls Tryz.prog 15 #[.agg #[.int .u32 x.n, .int .u32 x.m, .int .u64 x.t, .int .u32 x.q]] w fun e w' => e = .returned (.bool x.may) ∧ Below w.heap.size w w' := by
  have ef : forever = 4611686018427387903 := rfl
  by_cases h0 : 0 < x.n
  · have h0' : (0 : Int) < (x.n : Int) := by omega
    by_cases h1 : x.t ≤ forever
    · have h1' : (x.t : Int) ≤ 4611686018427387903 := by omega
      have HM : Hid (x.may = true) := NmT.may_iff.2 ⟨h0, h1⟩
      go_enter Tryz.func15, Tryz.ntmps15
      go_wp2
      go_ret
      exact ⟨by rw [HM.out]; rfl, below_al (Below.refl _ _) _⟩
    · have h1' : ¬ (x.t : Int) ≤ 4611686018427387903 := by omega
      have h1'' : decide ((x.t : Int) ≤ 4611686018427387903) = false := by simpa using h1'
      have HM : Hid (x.may = false) := by simp [Hid, NmT.may, h1]
      go_enter Tryz.func15, Tryz.ntmps15
      go_wp2
      all_goals first | (go_ret; exact ⟨by rw [HM.out]; rfl, below_al (Below.refl _ _) _⟩) | (exfalso; omega)
  · have h0' : ¬ (0 : Int) < (x.n : Int) := by omega
    have h0'' : decide ((0 : Int) < (x.n : Int)) = false := by simpa using h0'
    have h2 : (x.n : Int) ≤ 0 := by omega
    have h3 : (x.n : Int) = 0 := by omega
    have HM : Hid (x.may = false) := by simp [Hid, NmT.may, h0]
    go_enter Tryz.func15, Tryz.ntmps15
    go_wp2
    go_ret
    exact ⟨by rw [HM.out]; rfl, below_al (Below.refl _ _) _⟩

end Go.Proofs.YtlmdbeccfoncpaaGreatDoor

namespace Go.Proofs.YtlmdbeccfoncpaaGreatDoor
open Go Go.RowKit Go.Shelf
set_option linter.unusedSimpArgs false
set_option linter.unusedVariables false
set_option maxRecDepth 100000

theorem refItem_nobody (w : World) :
    Calls Tryz.prog 71 #[.agg #[.int .u32 0, .int .u32 0]] w fun e w' => (∃ v, e = .returned v ∧ ItS w' (newB w w') v (itE 0 0)) ∧ Below w.heap.size w w' := by
  have HC := Lib.hid (fun w => refNobody_any 0 0 w)
  go_enter Tryz.func71, Tryz.ntmps71
  go_wp2_with fail
  refine (HC.out _).mono ?_
  rintro e w1 ⟨rfl, hb1⟩
  have HX := Lib.hid (fun w' (hb : Below w1.heap.size w1 w') => boxes_of rfl (below_on hb1 hb))
  have HB := Lib.hid (below_on (below_al (below_al (Below.refl w.heap.size w) (.cells #[.int .u32 0, .int .u32 0] 25)) (.cells #[.int .i64 0, .int .u64 0, .slice none 0 0, .string ⟨#[]⟩, .slice none 0 0] 84)) hb1)
  have hlt : w.heap.size + 1 < w1.heap.size := by have := hb1.size; simp at this; omega
  clear hb1
  obtain ⟨⟨c0, c1⟩, _⟩ := HX.out w1 (Below.refl _ _)
  go_wp2_with (first
    | (go_at_call 70; refine (refUint_any 1 _).mono ?_; rintro e w2 ⟨rfl, hb2⟩; have H2 := Lib.hid hb2; clear hb2)
    | (go_at_call 70; refine (refUint_any 0 _).mono ?_; rintro e w3 ⟨rfl, hb3⟩; have H3 := Lib.hid hb3; clear hb3))
  obtain ⟨W4, hW4⟩ : ∃ W, W = w3.alloc (.cells #[.int .i64 1, .int .u64 1, .slice none 0 0, .string ⟨#[]⟩, .slice none 0 0, .int .i64 1, .int .u64 0, .slice none 0 0, .string ⟨#[]⟩, .slice none 0 0] 84) := ⟨_, rfl⟩
  rw [← hW4]
  have HB3 := Lib.hid (below_on H2.out H3.out)
  have hs3 : w1.heap.size ≤ w3.heap.size := HB3.out.size
  have HB4 : Hid (Below w1.heap.size w1 W4) := by rw [hW4]; exact below_al HB3.out _
  have hs4 : w3.heap.size < W4.heap.size := by rw [hW4]; simp
  have HC4 : Hid (∀ w' (i : Nat), Below W4.heap.size W4 w' → w'.cell? ⟨w3.heap.size, i, none⟩ = (#[Value.int .i64 1, .int .u64 1, .slice none 0 0, .string ⟨#[]⟩, .slice none 0 0, .int .i64 1, .int .u64 0, .slice none 0 0, .string ⟨#[]⟩, .slice none 0 0])[i]?) := fun w' i hb =>
    (hb.cell (p := ⟨w3.heap.size, i, none⟩) hs4).trans (by rw [hW4, World.cell?_alloc_mark])
  clear hW4
  refine (refList_any _ _ _ _).mono ?_
  rintro e w5 ⟨rfl, hb5⟩
  have HB5 := Lib.hid (below_on HB4.out hb5)
  have L := fun i => HC4.out w5 i hb5
  have hs5 := hb5.size
  clear hb5
  obtain ⟨_, ⟨d0, d1, d2, d3, d4⟩, df⟩ := HX.out w5 HB5.out
  have f0 := df 0
  have f1 := df 1
  have f2 := df 2
  have f3 := df 3
  have f4 := df 4
  have HL := Lib.hid L
  clear df L
  go_wp2
  obtain ⟨q0, q1, q2, q3, q4⟩ := setI_cells d0 d1 d2 d3 d4 (.int .i64 4) (.int .u64 0) (.slice none 0 0) (.string ⟨#[]⟩) (.slice (some ⟨w3.heap.size, 0, none⟩) 2 2)
  have HB6 := Lib.hid (setI_on (g := w.heap.size + 1) (below_on HB.out HB5.out) (by omega) (.int .i64 4) (.int .u64 0) (.slice none 0 0) (.string ⟨#[]⟩) (.slice (some ⟨w3.heap.size, 0, none⟩) 2 2))
  have hz6 : (setI w5 (w.heap.size + 1) (.int .i64 4) (.int .u64 0) (.slice none 0 0) (.string ⟨#[]⟩) (.slice (some ⟨w3.heap.size, 0, none⟩) 2 2)).heap.size = w5.heap.size := by unfold setI; simp only [World.size_setCell]
  have HV : Hid (ItS (setI w5 (w.heap.size + 1) (.int .i64 4) (.int .u64 0) (.slice none 0 0) (.string ⟨#[]⟩) (.slice (some ⟨w3.heap.size, 0, none⟩) 2 2)) (newB w (setI w5 (w.heap.size + 1) (.int .i64 4) (.int .u64 0) (.slice none 0 0) (.string ⟨#[]⟩) (.slice (some ⟨w3.heap.size, 0, none⟩) 2 2))) (listV (some ⟨w3.heap.size, 0, none⟩) 2 2) (itE 0 0)) := by
    have hnew : newB w (setI w5 (w.heap.size + 1) (.int .i64 4) (.int .u64 0) (.slice none 0 0) (.string ⟨#[]⟩) (.slice (some ⟨w3.heap.size, 0, none⟩) 2 2)) w3.heap.size := by
      refine ⟨by omega, ?_⟩
      rw [hz6]
      omega
    have c := fun i : Nat => (setI_cell (w := w5) (g := w.heap.size + 1) (g' := w3.heap.size) (i := i) (by omega) (.int .i64 4) (.int .u64 0) (.slice none 0 0) (.string ⟨#[]⟩) (.slice (some ⟨w3.heap.size, 0, none⟩) 2 2)).trans (HL.out i)
    exact itS_two hnew ⟨_, _, _, _, _, rfl, c 0, c 1, c 2, c 3, c 4⟩ ⟨_, _, _, _, _, rfl, c 5, c 6, c 7, c 8, c 9⟩ (itS_uint _ _ 1 ⟨by decide, by decide⟩) (itS_uint _ _ 0 ⟨by decide, by decide⟩)
  unfold setI at q0 q1 q2 q3 q4 HB6 HV
  exact bodyPost_ret (v := listV (some ⟨w3.heap.size, 0, none⟩) 2 2) (by simp [listV, results, Tryz.results71, go_sem, q0, q1, q2, q3, q4]) rfl ⟨⟨_, rfl, HV.out⟩, HB6.out⟩


set_option maxHeartbeats 4000000 in
theorem refItem_yes (n m : Nat) (h : 0 < n) (hn : n ≤ 4294967295) (hm : m ≤ 4294967295) (w : World) :
    Calls Tryz.prog 71 #[.agg #[.int .u32 n, .int .u32 m]] w fun e w' => (∃ v, e = .returned v ∧ ItS w' (newB w w') v (itE n m)) ∧ Below w.heap.size w w' := by
  have HC := Lib.hid (fun w => refNobody_any n m w)
  have hnb : decide (n = 0 ∧ m = 0) = false := by simp; omega
  rw [hnb] at HC
  clear hnb
  have h3 : ((n : Int) == 0) = false := by simp; omega
  have h4 : ¬ (n : Int) = 0 := by omega
  have hwn : IntKind.u64.wrap (n : Int) = (n : Int) := by rw [IntKind.wrap_u64]; omega
  have hwm : IntKind.u64.wrap (m : Int) = (m : Int) := by rw [IntKind.wrap_u64]; omega
  go_enter Tryz.func71, Tryz.ntmps71
  go_wp2_with fail
  refine (HC.out _).mono ?_
  rintro e w1 ⟨rfl, hb1⟩
  have HX := Lib.hid (fun w' (hb : Below w1.heap.size w1 w') => boxes_of rfl (below_on hb1 hb))
  have HB := Lib.hid (below_on (below_al (below_al (Below.refl w.heap.size w) (.cells #[.int .u32 n, .int .u32 m] 25)) (.cells #[.int .i64 0, .int .u64 0, .slice none 0 0, .string ⟨#[]⟩, .slice none 0 0] 84)) hb1)
  have hlt : w.heap.size + 1 < w1.heap.size := by have := hb1.size; simp at this; omega
  clear hb1
  have HELD : Hid (∀ w', Below w1.heap.size w1 w' → w'.cell? ⟨w.heap.size, 0, none⟩ = some (.int .u32 n) ∧ w'.cell? ⟨w.heap.size, 1, none⟩ = some (.int .u32 m)) := fun w' hb => (HX.out w' hb).1
  obtain ⟨⟨c0, c1⟩, _⟩ := HX.out w1 (Below.refl _ _)
  have F0 : Below w1.heap.size w1 w1.drew := (Below.refl _ _).drew
  go_wp2_with fail
  clear c0 c1
  go_region_held3 (fun w' => w'.cell? ⟨w.heap.size, 0, none⟩ = some (.int .u32 n) ∧ w'.cell? ⟨w.heap.size, 1, none⟩ = some (.int .u32 m))
    (first | (refine HELD.out _ ?_; with_reducible exact F5) | (refine ⟨?_, ?_⟩ <;> (rw [World.cell?_setCell_other _ _ _ _ (by simp), World.cell?_setCell_other _ _ _ _ (by simp), World.cell?_setCell_other _ _ _ _ (by simp), World.cell?_setCell_other _ _ _ _ (by simp), World.cell?_setCell_other _ _ _ _ (by simp)]; first | exact (HELD.out _ F5).1 | exact (HELD.out _ F5).2)) | (refine HELD.out _ ?_; with_reducible exact below_al F4 _) | (refine HELD.out _ ?_; with_reducible exact F4) | (refine HELD.out _ ?_; with_reducible exact below_al F3 _) | (refine HELD.out _ ?_; with_reducible exact F3) | (refine HELD.out _ ?_; with_reducible exact F2) | (refine HELD.out _ ?_; with_reducible exact F1) | (refine HELD.out _ ?_; with_reducible exact F0))
    (first
      | (go_at_call 70; (with_reducible refine (refUint_any 2 _).mono ?_); rintro e w2 ⟨rfl, hb2⟩; have F1 : Below w1.heap.size w1 w2 := below_on F0 hb2)
      | (go_at_call 70; (with_reducible refine (refUint_any (n : Int) _).mono ?_); rintro e w3 ⟨rfl, hb3⟩; have F2 : Below w1.heap.size w1 w3 := below_on F1 hb3)
      | (go_at_call 70; (with_reducible refine (refUint_any (m : Int) _).mono ?_); rintro e w4 ⟨rfl, hb4⟩; have F3 : Below w1.heap.size w1 w4 := below_on F2 hb4)
      | (go_at_call 65; (with_reducible refine (refList_any _ _ _ _).mono ?_); rintro e w6 ⟨rfl, hb6⟩; obtain ⟨⟨b6, hs6⟩, HL6⟩ := new_row hb6; have F5 : Below w1.heap.size w1 w6 := below_on F4 b6; obtain ⟨_, ⟨d0, d1, d2, d3, d4⟩, df⟩ := HX.out w6 F5; have f0 := df 0; have f1 := df 1; have f2 := df 2; have f3 := df 3; have f4 := df 4; clear df)
      | (go_at_call 65; (with_reducible refine (refList_any _ _ _ _).mono ?_); rintro e w5 ⟨rfl, hb5⟩; obtain ⟨⟨b5, hs5⟩, HL5⟩ := new_row hb5; have F4 : Below w1.heap.size w1 w5 := below_on F3 b5))
  clear F0
  rename_i hHeld
  clear hHeld
  go_wp2
  obtain ⟨q0, q1, q2, q3, q4⟩ := setI_cells d0 d1 d2 d3 d4 (.int .i64 4) (.int .u64 0) (.slice none 0 0) (.string ⟨#[]⟩) (.slice (some ⟨w5.heap.size, 0, none⟩) 2 2)
  have HB6 := Lib.hid (setI_on (g := w.heap.size + 1) (below_on HB.out F5) (by omega) (.int .i64 4) (.int .u64 0) (.slice none 0 0) (.string ⟨#[]⟩) (.slice (some ⟨w5.heap.size, 0, none⟩) 2 2))
  have hz6 : (setI w6 (w.heap.size + 1) (.int .i64 4) (.int .u64 0) (.slice none 0 0) (.string ⟨#[]⟩) (.slice (some ⟨w5.heap.size, 0, none⟩) 2 2)).heap.size = w6.heap.size := by unfold setI; simp only [World.size_setCell]
  have hz4 : w1.heap.size ≤ w4.heap.size := F3.size
  have HV : Hid (ItS (setI w6 (w.heap.size + 1) (.int .i64 4) (.int .u64 0) (.slice none 0 0) (.string ⟨#[]⟩) (.slice (some ⟨w5.heap.size, 0, none⟩) 2 2)) (newB w (setI w6 (w.heap.size + 1) (.int .i64 4) (.int .u64 0) (.slice none 0 0) (.string ⟨#[]⟩) (.slice (some ⟨w5.heap.size, 0, none⟩) 2 2))) (listV (some ⟨w5.heap.size, 0, none⟩) 2 2) (itE n m)) := by
    have hnew : ∀ b, w.heap.size ≤ b → b < w6.heap.size → newB w (setI w6 (w.heap.size + 1) (.int .i64 4) (.int .u64 0) (.slice none 0 0) (.string ⟨#[]⟩) (.slice (some ⟨w5.heap.size, 0, none⟩) 2 2)) b := fun b h1 h2 => by
      refine ⟨h1, ?_⟩
      rw [hz6]
      exact h2
    have c := fun i : Nat => (setI_cell (w := w6) (g := w.heap.size + 1) (g' := w5.heap.size) (i := i) (by omega) (.int .i64 4) (.int .u64 0) (.slice none 0 0) (.string ⟨#[]⟩) (.slice (some ⟨w5.heap.size, 0, none⟩) 2 2)).trans (HL6.out w6 (Below.refl _ _) i)
    have d := fun i : Nat => (setI_cell (w := w6) (g := w.heap.size + 1) (g' := w4.heap.size) (i := i) (by omega) (.int .i64 4) (.int .u64 0) (.slice none 0 0) (.string ⟨#[]⟩) (.slice (some ⟨w5.heap.size, 0, none⟩) 2 2)).trans (HL5.out w6 b6 i)
    have e : itE n m = itLs [itU 2, itLs [itU n, itU m]] := if_neg (by omega)
    rw [e]
    exact itS_two (hnew _ (by omega) (by omega)) ⟨_, _, _, _, _, rfl, c 0, c 1, c 2, c 3, c 4⟩ ⟨_, _, _, _, _, rfl, c 5, c 6, c 7, c 8, c 9⟩ (itS_uint _ _ 2 ⟨by decide, by decide⟩)
      (itS_two (hnew _ (by omega) (by omega)) ⟨_, _, _, _, _, rfl, d 0, d 1, d 2, d 3, d 4⟩ ⟨_, _, _, _, _, rfl, d 5, d 6, d 7, d 8, d 9⟩ (itS_uint _ _ n ⟨by omega, by omega⟩) (itS_uint _ _ m ⟨by omega, by omega⟩))
  unfold setI at q0 q1 q2 q3 q4 HB6 HV
  exact bodyPost_ret (v := listV (some ⟨w5.heap.size, 0, none⟩) 2 2) (by simp [listV, results, Tryz.results71, go_sem, q0, q1, q2, q3, q4]) rfl ⟨⟨_, rfl, HV.out⟩, HB6.out⟩


theorem refItem_any (n m : Nat) (h : 0 < n ∨ m = 0) (hn : n ≤ 4294967295) (hm : m ≤ 4294967295) (w : World) :
    Calls Tryz.prog 71 #[.agg #[.int .u32 n, .int .u32 m]] w fun e w' => (∃ v, e = .returned v ∧ ItS w' (newB w w') v (itE n m)) ∧ Below w.heap.size w w' := by
  by_cases h0 : 0 < n
  · exact refItem_yes n m h0 hn hm w
  · obtain rfl : n = 0 := by omega
    obtain rfl : m = 0 := by omega
    exact refItem_nobody w

end Go.Proofs.YtlmdbeccfoncpaaGreatDoor
