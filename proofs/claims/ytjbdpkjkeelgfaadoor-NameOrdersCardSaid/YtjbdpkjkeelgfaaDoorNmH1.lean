/- What NameHolds needs: names as quadruples, their texts, items, order. -/
import Derived.Test.YtjbdpkjkeelgfaaDoorNmI4
import Derived.Test.YtjbdpkjkeelgfaaDoorNmW
namespace Go.Proofs.YtjbdpkjkeelgfaaDoor
open Go Go.RowKit Go.Shelf
set_option linter.unusedSimpArgs false
set_option linter.unusedVariables false
set_option maxRecDepth 100000

/-- A name: node, service, time, number. -/
structure NmT where
  n : Nat
  m : Nat
  t : Nat
  q : Nat

/-- What fits its types. -/
def NmT.ok (x : NmT) : Prop := (x.n ≤ 4294967295 ∧ x.m ≤ 4294967295) ∧ (x.t < 18446744073709551616 ∧ x.q ≤ 4294967295)
/-- May it be? -/
def NmT.may (x : NmT) : Bool := decide (0 < x.n) && decide (x.t ≤ forever)
def NmT.val (x : NmT) : Value := .agg #[.int .u32 x.n, .int .u32 x.m, .int .u64 x.t, .int .u32 x.q]
/-- Its text, or none. -/
def NmT.txt (x : NmT) : List UInt8 := if x.may = true then txN x.n x.m x.t x.q else []
def NmT.it (x : NmT) : It := if x.may = true then itN x.n x.m x.t x.q else .mk 0 0 [] [] []
/-- Its error. -/
def NmT.er (x : NmT) : Int := if x.may = true then 0 else 2
/-- Which is ahead. -/
def NmT.ord (x y : NmT) : Int := ordN (x.n, x.m, x.t, x.q) (y.n, y.m, y.t, y.q)

theorem NmT.may_iff {x : NmT} : x.may = true ↔ (0 < x.n ∧ x.t ≤ forever) := by simp [NmT.may]

theorem NmT.ext' {x y : NmT} (h0 : x.n = y.n) (h1 : x.m = y.m) (h2 : x.t = y.t) (h3 : x.q = y.q) : x = y := by
  cases x; cases y; simp_all

/-- NameText. -/
theorem ntextT_any (x : NmT) (h : x.ok) (w : World) (ht : TabN w) :
    Calls Tryd.prog 20 #[.agg #[.int .u32 x.n, .int .u32 x.m, .int .u64 x.t, .int .u32 x.q]] w fun e w' => e = .returned (.tuple #[.string ⟨x.txt.toArray⟩, .int .i64 x.er]) ∧ Below w.heap.size w w' := by
  unfold NmT.txt NmT.er
  by_cases hm : x.may = true
  · rw [if_pos hm, if_pos hm]
    have h1 := NmT.may_iff.1 hm
    exact ntext_yes _ _ _ _ h1.1 h.1.1 h.1.2 h1.2 h.2.2 w ht
  · rw [if_neg hm, if_neg hm]
    exact ntext_no _ _ _ _ (fun h => hm (NmT.may_iff.2 h)) w

/-- NameItem. -/
theorem nitemT_any (x : NmT) (h : x.ok) (w : World) :
    Calls Tryd.prog 21 #[.agg #[.int .u32 x.n, .int .u32 x.m, .int .u64 x.t, .int .u32 x.q]] w fun e w' => ∃ a c A C, e = .returned (.tuple #[.agg #[.int .i64 x.it.k, .int .u64 x.it.n, .slice a x.it.b.length c, .string ⟨x.it.s.toArray⟩, .slice A x.it.l.length C], .int .i64 x.er]) ∧
      ItS w' (newB w w') (.agg #[.int .i64 x.it.k, .int .u64 x.it.n, .slice a x.it.b.length c, .string ⟨x.it.s.toArray⟩, .slice A x.it.l.length C]) x.it ∧ Below w.heap.size w w' := by
  by_cases hm : x.may = true
  · have h1 := NmT.may_iff.1 hm
    refine (nitem_yes _ _ _ _ h1.1 h.1.1 h.1.2 h1.2 h.2.2 w).mono ?_
    rintro e w' ⟨⟨v, rfl, hv⟩, hb⟩
    have e0 : x.it = itN x.n x.m x.t x.q := if_pos hm
    have e1 : x.er = 0 := if_pos hm
    rw [e0, e1]
    obtain ⟨a, c, A, C, rfl⟩ := hv.form
    exact ⟨a, c, A, C, rfl, hv, hb⟩
  · refine (nitem_no _ _ _ _ (fun h => hm (NmT.may_iff.2 h)) w).mono ?_
    rintro e w' ⟨rfl, hb⟩
    have e0 : x.it = .mk 0 0 [] [] [] := if_neg hm
    have e1 : x.er = 2 := if_neg hm
    rw [e0, e1]
    exact ⟨none, 0, none, 0, rfl, itS_plain w' _ 0 0 [] (by decide) ⟨by decide, by decide⟩ (Nat.zero_le _), hb⟩

theorem nordT_any (x y : NmT) (hx : x.ok) (hy : y.ok) (w : World) :
    Calls Tryd.prog 33 #[.agg #[.int .u32 x.n, .int .u32 x.m, .int .u64 x.t, .int .u32 x.q], .agg #[.int .u32 y.n, .int .u32 y.m, .int .u64 y.t, .int .u32 y.q]] w fun e w' => e = .returned (.int .i64 (x.ord y)) ∧ Below w.heap.size w w' :=
  (nmOrder_any _ _ _ _ _ _ _ _ ⟨⟨by omega, by have := hx.1.1; omega⟩, ⟨by omega, by have := hx.1.2; omega⟩, by omega, by have := hx.2.2; omega⟩ ⟨⟨by omega, by have := hy.1.1; omega⟩, ⟨by omega, by have := hy.1.2; omega⟩, by omega, by have := hy.2.2; omega⟩ w).mono fun e w' h => ⟨h.1, h.2.below⟩

/-- Unlike names have unlike texts. -/
theorem txt_inj {x y : NmT} (hx : x.ok) (hy : y.ok) (mx : x.may = true) (my : y.may = true) (h : x.txt = y.txt) : x = y := by
  have h1 := NmT.may_iff.1 mx
  have h2 := NmT.may_iff.1 my
  have e1 : x.txt = txN x.n x.m x.t x.q := if_pos mx
  have e2 : y.txt = txN y.n y.m y.t y.q := if_pos my
  have p := nmN_iff.2 ⟨e1, h1.1, hx.1.1, hx.1.2, h1.2, hx.2.2⟩
  have q := nmN_iff.2 ⟨e2, h2.1, hy.1.1, hy.1.2, h2.2, hy.2.2⟩
  rw [h, q] at p
  simp only [Option.some.injEq, Prod.mk.injEq] at p
  exact NmT.ext' p.1.symm p.2.1.symm p.2.2.1.symm p.2.2.2.symm

theorem it_inj {x y : NmT} (mx : x.may = true) (my : y.may = true) (h : x.it = y.it) : x = y := by
  have h1 := NmT.may_iff.1 mx
  have h2 := NmT.may_iff.1 my
  have e1 : x.it = itN x.n x.m x.t x.q := if_pos mx
  have e2 : y.it = itN y.n y.m y.t y.q := if_pos my
  rw [e1, e2] at h
  have g1 : itE x.n x.m = itLs [itU 2, itLs [itU x.n, itU x.m]] := if_neg (by omega)
  have g2 : itE y.n y.m = itLs [itU 2, itLs [itU y.n, itU y.m]] := if_neg (by omega)
  rw [itN, itN, g1, g2] at h
  simp [itLs, itU] at h
  exact NmT.ext' (by omega) (by omega) (by omega) (by omega)

theorem cmpT_swap (x y : Int) : cmpT x y = - cmpT y x := by
  unfold cmpT
  split <;> split <;> first | rfl | omega
theorem cmpT_zero {x y : Int} : cmpT x y = 0 ↔ x = y := by
  unfold cmpT
  split
  · constructor <;> (intro h; omega)
  · split
    · constructor <;> (intro h; omega)
    · constructor <;> (intro h; omega)
theorem cmpT_neg {x y : Int} : cmpT x y < 0 ↔ x < y := by
  unfold cmpT
  split
  · constructor <;> (intro h; omega)
  · split
    · constructor <;> (intro h; omega)
    · constructor <;> (intro h; omega)

theorem ord_swap (x y : NmT) : x.ord y = - y.ord x := by
  have z : ∀ a b : Int, cmpT a b ≠ 0 ↔ cmpT b a ≠ 0 := fun a b => by rw [cmpT_swap a b]; omega
  unfold NmT.ord ordN
  simp only
  by_cases h0 : cmpT (x.n : Int) y.n ≠ 0
  · rw [if_pos h0, if_pos ((z _ _).1 h0)]; exact cmpT_swap _ _
  rw [if_neg h0, if_neg (fun h => h0 ((z _ _).2 h))]
  by_cases h1 : cmpT (x.m : Int) y.m ≠ 0
  · rw [if_pos h1, if_pos ((z _ _).1 h1)]; exact cmpT_swap _ _
  rw [if_neg h1, if_neg (fun h => h1 ((z _ _).2 h))]
  by_cases h2 : cmpT (x.t : Int) y.t ≠ 0
  · rw [if_pos h2, if_pos ((z _ _).1 h2)]; exact cmpT_swap _ _
  rw [if_neg h2, if_neg (fun h => h2 ((z _ _).2 h))]
  exact cmpT_swap _ _

/-- Ahead: by the first part that is unlike. -/
theorem ord_neg {x y : NmT} : x.ord y < 0 ↔ (x.n < y.n ∨ x.n = y.n ∧ (x.m < y.m ∨ x.m = y.m ∧ (x.t < y.t ∨ x.t = y.t ∧ x.q < y.q))) := by
  unfold NmT.ord ordN
  simp only
  by_cases h0 : cmpT (x.n : Int) y.n ≠ 0
  · rw [if_pos h0, cmpT_neg]
    have : ¬ (x.n : Int) = y.n := fun e => h0 (cmpT_zero.2 e)
    omega
  rw [if_neg h0]
  have e0 := cmpT_zero.1 (Decidable.not_not.1 h0)
  by_cases h1 : cmpT (x.m : Int) y.m ≠ 0
  · rw [if_pos h1, cmpT_neg]
    have : ¬ (x.m : Int) = y.m := fun e => h1 (cmpT_zero.2 e)
    omega
  rw [if_neg h1]
  have e1 := cmpT_zero.1 (Decidable.not_not.1 h1)
  by_cases h2 : cmpT (x.t : Int) y.t ≠ 0
  · rw [if_pos h2, cmpT_neg]
    have : ¬ (x.t : Int) = y.t := fun e => h2 (cmpT_zero.2 e)
    omega
  rw [if_neg h2]
  have e2 := cmpT_zero.1 (Decidable.not_not.1 h2)
  rw [cmpT_neg]
  omega

theorem ord_zero {x y : NmT} : x.ord y = 0 ↔ x = y := by
  have h1 := @ord_neg x y
  have h2 := @ord_neg y x
  have h3 := ord_swap x y
  constructor
  · intro h
    have n1 : ¬ x.ord y < 0 := by omega
    have n2 : ¬ y.ord x < 0 := by omega
    rw [h1] at n1
    rw [h2] at n2
    exact NmT.ext' (by omega) (by omega) (by omega) (by omega)
  · rintro rfl
    omega

theorem ord_trans {x y z : NmT} (h : x.ord y < 0) (k : y.ord z < 0) : x.ord z < 0 := by
  rw [ord_neg] at *
  omega

theorem cmpT_bound (x y : Int) : -1 ≤ cmpT x y ∧ cmpT x y ≤ 1 := by
  unfold cmpT
  split
  · decide
  · split <;> decide
theorem ord_bound (x y : NmT) : -1 ≤ x.ord y ∧ x.ord y ≤ 1 := by
  unfold NmT.ord ordN
  simp only
  split
  · exact cmpT_bound _ _
  · split
    · exact cmpT_bound _ _
    · split <;> exact cmpT_bound _ _

/-- Are they the same? -/
def NmT.same (x y : NmT) : Bool := (x.n == y.n && x.m == y.m) && (x.t == y.t && x.q == y.q)
theorem NmT.same_iff {x y : NmT} : x.same y = true ↔ x = y := by
  constructor
  · intro h
    simp only [NmT.same, Bool.and_eq_true, beq_iff_eq] at h
    exact NmT.ext' h.1.1 h.1.2 h.2.1 h.2.2
  · rintro rfl
    simp [NmT.same]
theorem NmT.same_no {x y : NmT} (h : ¬ x = y) : x.same y = false := by
  cases e : x.same y with
  | false => rfl
  | true => exact absurd (NmT.same_iff.1 e) h

theorem eqName_run (a b : NmT) (w : World) : (Op.equalIn 10000 47 (.agg #[.int .u32 a.n, .int .u32 a.m, .int .u64 a.t, .int .u32 a.q]) (.agg #[.int .u32 b.n, .int .u32 b.m, .int .u64 b.t, .int .u32 b.q])).run Tryd.prog w = .ok (a.same b) w := by
  unfold NmT.same
  have e1 : ∀ x y : Nat, ((x : Int) == (y : Int)) = (x == y) := fun x y => by
    rw [Bool.eq_iff_iff, beq_iff_eq, beq_iff_eq]
    omega
  go_simp
  by_cases h0 : a.n = b.n <;> by_cases h1 : a.m = b.m <;> by_cases h2 : a.t = b.t <;> by_cases h3 : a.q = b.q <;> simp [h0, h1, h2, h3]

end Go.Proofs.YtjbdpkjkeelgfaaDoor
