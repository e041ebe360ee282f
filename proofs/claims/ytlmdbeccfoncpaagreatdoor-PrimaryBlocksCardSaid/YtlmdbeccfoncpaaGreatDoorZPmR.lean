/- Package primary's read. -/
import Derived.Test.YtlmdbeccfoncpaaGreatDoorZPmQ
import Derived.Deep.RegionHeld3
namespace Go.Proofs.YtlmdbeccfoncpaaGreatDoor
open Go Go.RowKit Go.Shelf
set_option linter.unusedSimpArgs false
set_option linter.unusedVariables false
set_option maxRecDepth 100000

attribute [local go_sem] Oper.semAt_some

/-- A row of cells that may be written. -/
def RowB (w : World) (b : Nat) (vs : List Value) : Prop := (∀ i v, vs[i]? = some v → w.cell? ⟨b, i, none⟩ = some v) ∧ ∀ i, w.frozen? ⟨b, i, none⟩ = false
theorem RowB.on {w w' : World} {b : Nat} {vs : List Value} (h : RowB w b vs) (hb : Below w.heap.size w w') (hlt : b < w.heap.size) : RowB w' b vs :=
  ⟨fun i v hv => (hb.cell (p := ⟨b, i, none⟩) hlt).trans (h.1 i v hv), fun i => (hb.frozen (p := ⟨b, i, none⟩) hlt).trans (h.2 i)⟩
theorem RowB.set {w : World} {b : Nat} {vs : List Value} (h : RowB w b vs) (i : Nat) (v : Value) : RowB (w.setCell ⟨b, i, none⟩ v) b (vs.set i v) := by
  refine ⟨fun j u hj => ?_, fun j => (World.frozen?_setCell ..).trans (h.2 j)⟩
  by_cases e : i = j
  · subst e
    rw [List.getElem?_set] at hj
    simp only [if_true] at hj
    split at hj
    · rename_i hi
      injection hj with hj
      subst hj
      exact World.cell?_setCell_same _ _ _ (h.1 i _ (List.getElem?_eq_getElem hi))
    · cases hj
  · rw [List.getElem?_set_ne e] at hj
    exact (World.cell?_setCell_other _ _ _ _ (by simp <;> omega)).trans (h.1 j u hj)
theorem RowB.other {w : World} {b c i : Nat} {vs : List Value} (h : RowB w b vs) (hne : c ≠ b) (v : Value) : RowB (w.setCell ⟨c, i, none⟩ v) b vs :=
  ⟨fun j u hj => (World.cell?_setCell_other _ _ _ _ (by intro h'; injection h' with h1; exact hne h1)).trans (h.1 j u hj), fun j => (World.frozen?_setCell ..).trans (h.2 j)⟩
theorem RowB.new (w : World) (vs : List Value) (t : TypeId) : RowB (w.alloc (.cells vs.toArray t)) w.heap.size vs :=
  ⟨fun i v hv => by rw [World.cell?_alloc_mark]; simpa using hv, fun i => World.frozen?_alloc_new _ _ _ _⟩

/-- What stands behind the steady items. -/
def bhB (k : Nat) : List It → Bool
  | [] => decide (k = 0)
  | [z] => decide (k ≠ 0) && decide (z.k = 2)
  | _ => false
def rdF (p : Pm) (r : List It) : Option Pm := if p.right = true ∧ bhB p.s.toNat r = true then some p else none
def rdW (y : It) : Option (Nat × Nat) := match y.l with
  | [z0, z1] => (nuP z0).bind fun t => (shP z1).bind fun q => some (t, q)
  | _ => none
def rdZ (y0 y1 y2 y3 y4 y5 y6 y7 : It) (r : List It) : Option Pm := if nuP y0 = some 7 then (shP y1).bind fun f => (shP y2).bind fun k => (epI y3).bind fun a => (epI y4).bind fun b => (epI y5).bind fun c => (rdW y6).bind fun d => (nuP y7).bind fun l =>
  rdF ⟨f, k, a.1, a.2, b.1, b.2, c.1, c.2, d.1, d.2, l⟩ r else none
/-- The primary of an item, but for the sum's bytes. -/
def rdPm (x : It) : Option Pm := match x.l with
  | y0 :: y1 :: y2 :: y3 :: y4 :: y5 :: y6 :: y7 :: r => rdZ y0 y1 y2 y3 y4 y5 y6 y7 r
  | _ => none

theorem rdPm_few {x : It} (h : ¬ 8 ≤ x.l.length) : rdPm x = none := by
  unfold rdPm
  split
  · rename_i hl
    rw [hl] at h
    simp at h
  · rfl
theorem rdPm_eight {x y0 y1 y2 y3 y4 y5 y6 y7 : It} {r : List It} (hl : x.l = y0 :: y1 :: y2 :: y3 :: y4 :: y5 :: y6 :: y7 :: r) : rdPm x = rdZ y0 y1 y2 y3 y4 y5 y6 y7 r := by rw [rdPm, hl]
theorem eight_of {l : List It} (h : 8 ≤ l.length) : ∃ y0 y1 y2 y3 y4 y5 y6 y7 r, l = y0 :: y1 :: y2 :: y3 :: y4 :: y5 :: y6 :: y7 :: r := by
  match l, h with
  | y0 :: y1 :: y2 :: y3 :: y4 :: y5 :: y6 :: y7 :: r, _ => exact ⟨y0, y1, y2, y3, y4, y5, y6, y7, r, rfl⟩
theorem rdW_two {y z0 z1 : It} (hl : y.l = [z0, z1]) : rdW y = (nuP z0).bind fun t => (shP z1).bind fun q => some (t, q) := by rw [rdW, hl]
theorem rdW_no {y : It} (h : y.l.length ≠ 2) : rdW y = none := by
  unfold rdW
  split
  · rename_i hl
    rw [hl] at h
    simp at h
  · rfl
theorem bhB_none (k : Nat) : bhB k [] = decide (k = 0) := rfl
theorem bhB_more {k : Nat} {r : List It} (h : r ≠ []) (hk : k = 0) : bhB k r = false := by
  subst hk
  match r with
  | [] => exact absurd rfl h
  | [z] => rfl
  | _ :: _ :: _ => rfl
theorem bhB_two {k : Nat} {r : List It} (h : r.length ≠ 1) (hk : k ≠ 0) : bhB k r = false := by
  match r with
  | [] => simp [bhB, hk]
  | [z] => simp at h
  | _ :: _ :: _ => rfl
theorem bhB_one {k : Nat} {z : It} (hk : k ≠ 0) : bhB k [z] = decide (z.k = 2) := by simp [bhB, hk]

theorem pwrap64 {n : Nat} (h : n ≤ 4294967295) : IntKind.i64.wrap (n : Int) = n := by
  simp [IntKind.wrap, IntKind.bits, IntKind.signed]
  omega
theorem psize_item (w : World) : (Go.sizeOf 84).run Tryz.prog w = .ok 5 w := by kernel_rfl
/-- 'l[i:]' of items. -/
theorem pcut_l5 (a : Option Addr) (n cap l : Nat) (h1 : l ≤ n) (w : World) :
    (Instr.slice 70 (.slice a n cap) (some (.int .i64 (l : Int))) none none).run Tryz.prog w = .ok (.slice (if cap = l then a else a.map (·.add (l * 5))) (n - l) (cap - l)) w := by
  have ht' : Tryz.prog.underlying 70 = some (.slice (Tryz.prog.elem 70)) := by simp [Program.elem, Tryz.underlying70]
  have he : Tryz.prog.elem 70 = 84 := by simp [Program.elem, Tryz.underlying70]
  rw [run_slice_l w 70 a n cap ht' .i64 l (by omega) (by omega), he, psize_item]
  simp [Result.andThen, sliced]

/-- An item of a list, its cells, in every later world. -/
theorem ItL.pcells {w : World} {B g : Nat} {l : List It} {o i : Nat} {y : It} (hL : ItL w B g o l) (hg : g < B) (hi : l[i]? = some y) : ∃ a0 c0 A0 C0, ∀ w', Below B w w' → ItV w' B (.agg #[.int .i64 y.k, .int .u64 y.n, .slice a0 y.b.length c0, .string ⟨y.s.toArray⟩, .slice A0 y.l.length C0]) y ∧ (w'.cell? ⟨g, o + i * 5, none⟩ = some (.int .i64 y.k) ∧ w'.cell? ⟨g, o + i * 5 + 1, none⟩ = some (.int .u64 y.n) ∧ w'.cell? ⟨g, o + i * 5 + 2, none⟩ = some (.slice a0 y.b.length c0) ∧ w'.cell? ⟨g, o + i * 5 + 3, none⟩ = some (.string ⟨y.s.toArray⟩) ∧ w'.cell? ⟨g, o + i * 5 + 4, none⟩ = some (.slice A0 y.l.length C0)) := by
  obtain ⟨v0, p0, q0⟩ := ItL.at hL hi
  obtain ⟨a0, c0, A0, C0, rfl⟩ := q0.form
  refine ⟨a0, c0, A0, C0, fun w' hb => ⟨ItV.below hb _ q0, ?_⟩⟩
  obtain ⟨u0, u1, u2, u3, u4, e, h0, h1, h2, h3, h4⟩ := p0.below hb hg
  injection e with e
  have e' := congrArg Array.toList e
  simp only [List.cons.injEq, and_true] at e'
  obtain ⟨rfl, rfl, rfl, rfl, rfl⟩ := e'
  exact ⟨h0, h1, h2, h3, h4⟩

theorem epI_ok {x : It} {n m : Nat} (h : epI x = some (n, m)) : n ≤ 4294967295 ∧ m ≤ 4294967295 := by
  have hz : ∀ z0 z1, epZ z0 z1 = some (n, m) → n ≤ 4294967295 ∧ m ≤ 4294967295 := by
    intro z0 z1 hz
    unfold epZ at hz
    split at hz
    · split at hz
      · rename_i hs
        injection hz with hz
        injection hz with h1 h2
        subst h1 h2
        simp [sv] at hs
        exact ⟨hs.2.1, hs.2.2⟩
      · cases hz
    · cases hz
  have hy : ∀ y1, epY y1 = some (n, m) → n ≤ 4294967295 ∧ m ≤ 4294967295 := by
    intro y1 hy
    unfold epY at hy
    split at hy
    · split at hy
      · exact hz _ _ hy
      · cases hy
    · cases hy
  unfold epI at h
  split at h
  · split at h
    · split at h
      · split at h
        · injection h with h
          injection h with h1 h2
          subst h1 h2
          exact ⟨by decide, by decide⟩
        · cases h
      · exact hy _ h
      · cases h
    · cases h
  · cases h

/-- What read answers. -/
def RdR (w : World) (x : It) (e : Ending) (w' : World) : Prop := Below w.heap.size w w' ∧ ((∃ p : Pm, e = .returned (.agg #[.int .u32 p.f, .int .i64 p.s, .int .u32 p.tn, .int .u32 p.tm, .int .u32 p.sn, .int .u32 p.sm, .int .u32 p.rn, .int .u32 p.rm, .int .u64 p.t, .int .u32 p.q, .int .u64 p.l]) ∧ p.ok ∧ p.right = true ∧ rdPm x = some p) ∨ (e = gives 140 ∧ rdPm x = none))

set_option maxHeartbeats 16000000 in
theorem pread_any (x : It) (v : Value) (w : World) (hd : x.depth ≤ 60000) (hlen : x.l.length ≤ 1000000) (hv : ItV w w.heap.size v x) : Calls Tryz.prog 62 #[v] w (RdR w x) := by
  obtain ⟨a, c, A, C, rfl⟩ := hv.form
  obtain ⟨hL, hC⟩ := hv.list
  obtain ⟨n, hn⟩ : ∃ n, n = x.l.length := ⟨_, rfl⟩
  rw [← hn] at hC hlen ⊢
  obtain ⟨W, hW⟩ : ∃ W, W = ((w.alloc (.cells #[.int .i64 x.k, .int .u64 x.n, .slice a x.b.length c, .string ⟨x.s.toArray⟩, .slice A n C] 84)).alloc (.cells #[.int .u32 0, .int .i64 0, .int .u32 0, .int .u32 0, .int .u32 0, .int .u32 0, .int .u32 0, .int .u32 0, .int .u64 0, .int .u32 0, .int .u64 0] 59)).alloc (.cells #[.int .u32 0, .int .i64 0, .int .u32 0, .int .u32 0, .int .u32 0, .int .u32 0, .int .u32 0, .int .u32 0, .int .u64 0, .int .u32 0, .int .u64 0] 59) := ⟨_, rfl⟩
  have HB : Hid (Below w.heap.size w W) := by rw [hW]; exact below_al (below_al (below_al (Below.refl _ _) _) _) _
  have hsW : w.heap.size + 3 ≤ W.heap.size := by rw [hW]; simp
  have hP : RowB W (w.heap.size + 1 + 1) [.int .u32 0, .int .i64 0, .int .u32 0, .int .u32 0, .int .u32 0, .int .u32 0, .int .u32 0, .int .u32 0, .int .u64 0, .int .u32 0, .int .u64 0] := by
    have h := RowB.new ((w.alloc (.cells #[.int .i64 x.k, .int .u64 x.n, .slice a x.b.length c, .string ⟨x.s.toArray⟩, .slice A n C] 84)).alloc (.cells #[.int .u32 0, .int .i64 0, .int .u32 0, .int .u32 0, .int .u32 0, .int .u32 0, .int .u32 0, .int .u32 0, .int .u64 0, .int .u32 0, .int .u64 0] 59)) [.int .u32 0, .int .i64 0, .int .u32 0, .int .u32 0, .int .u32 0, .int .u32 0, .int .u32 0, .int .u32 0, .int .u64 0, .int .u32 0, .int .u64 0] 59
    rw [hW]
    simpa only [World.size_alloc] using h
  have hR : RowB W (w.heap.size + 1) [.int .u32 0, .int .i64 0, .int .u32 0, .int .u32 0, .int .u32 0, .int .u32 0, .int .u32 0, .int .u32 0, .int .u64 0, .int .u32 0, .int .u64 0] := by
    have h := (RowB.new (w.alloc (.cells #[.int .i64 x.k, .int .u64 x.n, .slice a x.b.length c, .string ⟨x.s.toArray⟩, .slice A n C] 84)) [.int .u32 0, .int .i64 0, .int .u32 0, .int .u32 0, .int .u32 0, .int .u32 0, .int .u32 0, .int .u32 0, .int .u64 0, .int .u32 0, .int .u64 0] 59).on (below_al (Below.refl _ _) (.cells #[.int .u32 0, .int .i64 0, .int .u32 0, .int .u32 0, .int .u32 0, .int .u32 0, .int .u32 0, .int .u32 0, .int .u64 0, .int .u32 0, .int .u64 0] 59)) (by simp)
    rw [hW]
    simpa only [World.size_alloc] using h
  have HP := Lib.hid hP
  have HR := Lib.hid hR
  have HW := Lib.hid hW
  have HSW := Lib.hid hsW
  have HL := Lib.hid hL
  have HN := Lib.hid hn
  have HD := Lib.hid hd
  clear hW hP hR hv hsW hL hn hd
  by_cases h8 : 8 ≤ n
  rotate_left
  · have k8 : decide ((8 : Int) ≤ (n : Int)) = false := decide_eq_false (by omega)
    have HX : Hid (rdPm x = none) := rdPm_few (by rw [← HN.out]; exact h8)
    clear h8
    go_enter Tryz.func62, Tryz.ntmps62
    go_wp2_with fail
    rw [← HW.out]
    go_wp2_with fail
    refine (pneed_any false _).mono ?_
    rintro e w1 ⟨rfl, ⟨_, h⟩ | ⟨rfl, _⟩⟩
    · cases h
    rw [gives_def]
    go_wp2_with fail
    exact ⟨rfl, HB.out, .inr ⟨rfl, HX.out⟩⟩
  obtain ⟨y0, y1, y2, y3, y4, y5, y6, y7, r, hl⟩ := eight_of (by rw [← HN.out]; exact h8 : 8 ≤ x.l.length)
  have HZ : Hid (rdPm x = rdZ y0 y1 y2 y3 y4 y5 y6 y7 r) := rdPm_eight hl
  have HLen : Hid (n = 8 + r.length) := by rw [Hid, HN.out, hl]; simp; omega
  have hL := HL.out
  rw [hl] at hL
  obtain ⟨g, o, rfl, hg, hI⟩ : ∃ g o, A = some ⟨g, o, none⟩ ∧ g < w.heap.size ∧ ItL w w.heap.size g o (y0 :: y1 :: y2 :: y3 :: y4 :: y5 :: y6 :: y7 :: r) := by
    rcases hL with h | h
    · cases h
    · exact h
  obtain ⟨a0, c0, A0, C0, k0⟩ := hI.pcells hg (i := 0) (y := y0) rfl
  simp only [Nat.zero_mul, Nat.add_zero] at k0
  have HI0 : Hid (∀ w', Below w.heap.size w w' → ItV w' w.heap.size (.agg #[.int .i64 y0.k, .int .u64 y0.n, .slice a0 y0.b.length c0, .string ⟨y0.s.toArray⟩, .slice A0 y0.l.length C0]) y0 ∧ (w'.cell? ⟨g, o, none⟩ = some (.int .i64 y0.k) ∧ w'.cell? ⟨g, o + 1, none⟩ = some (.int .u64 y0.n) ∧ w'.cell? ⟨g, o + 2, none⟩ = some (.slice a0 y0.b.length c0) ∧ w'.cell? ⟨g, o + 3, none⟩ = some (.string ⟨y0.s.toArray⟩) ∧ w'.cell? ⟨g, o + 4, none⟩ = some (.slice A0 y0.l.length C0))) := k0
  clear k0
  obtain ⟨a1, c1, A1, C1, k1⟩ := hI.pcells hg (i := 1) (y := y1) rfl
  simp only [Nat.one_mul] at k1
  have HI1 : Hid (∀ w', Below w.heap.size w w' → ItV w' w.heap.size (.agg #[.int .i64 y1.k, .int .u64 y1.n, .slice a1 y1.b.length c1, .string ⟨y1.s.toArray⟩, .slice A1 y1.l.length C1]) y1 ∧ (w'.cell? ⟨g, o + 5, none⟩ = some (.int .i64 y1.k) ∧ w'.cell? ⟨g, o + 5 + 1, none⟩ = some (.int .u64 y1.n) ∧ w'.cell? ⟨g, o + 5 + 2, none⟩ = some (.slice a1 y1.b.length c1) ∧ w'.cell? ⟨g, o + 5 + 3, none⟩ = some (.string ⟨y1.s.toArray⟩) ∧ w'.cell? ⟨g, o + 5 + 4, none⟩ = some (.slice A1 y1.l.length C1))) := k1
  clear k1
  obtain ⟨a2, c2, A2, C2, k2⟩ := hI.pcells hg (i := 2) (y := y2) rfl
  simp only [Nat.reduceMul] at k2
  have HI2 : Hid (∀ w', Below w.heap.size w w' → ItV w' w.heap.size (.agg #[.int .i64 y2.k, .int .u64 y2.n, .slice a2 y2.b.length c2, .string ⟨y2.s.toArray⟩, .slice A2 y2.l.length C2]) y2 ∧ (w'.cell? ⟨g, o + 10, none⟩ = some (.int .i64 y2.k) ∧ w'.cell? ⟨g, o + 10 + 1, none⟩ = some (.int .u64 y2.n) ∧ w'.cell? ⟨g, o + 10 + 2, none⟩ = some (.slice a2 y2.b.length c2) ∧ w'.cell? ⟨g, o + 10 + 3, none⟩ = some (.string ⟨y2.s.toArray⟩) ∧ w'.cell? ⟨g, o + 10 + 4, none⟩ = some (.slice A2 y2.l.length C2))) := k2
  clear k2
  obtain ⟨a3, c3, A3, C3, k3⟩ := hI.pcells hg (i := 3) (y := y3) rfl
  simp only [Nat.reduceMul] at k3
  have HI3 : Hid (∀ w', Below w.heap.size w w' → ItV w' w.heap.size (.agg #[.int .i64 y3.k, .int .u64 y3.n, .slice a3 y3.b.length c3, .string ⟨y3.s.toArray⟩, .slice A3 y3.l.length C3]) y3 ∧ (w'.cell? ⟨g, o + 15, none⟩ = some (.int .i64 y3.k) ∧ w'.cell? ⟨g, o + 15 + 1, none⟩ = some (.int .u64 y3.n) ∧ w'.cell? ⟨g, o + 15 + 2, none⟩ = some (.slice a3 y3.b.length c3) ∧ w'.cell? ⟨g, o + 15 + 3, none⟩ = some (.string ⟨y3.s.toArray⟩) ∧ w'.cell? ⟨g, o + 15 + 4, none⟩ = some (.slice A3 y3.l.length C3))) := k3
  clear k3
  obtain ⟨a4, c4, A4, C4, k4⟩ := hI.pcells hg (i := 4) (y := y4) rfl
  simp only [Nat.reduceMul] at k4
  have HI4 : Hid (∀ w', Below w.heap.size w w' → ItV w' w.heap.size (.agg #[.int .i64 y4.k, .int .u64 y4.n, .slice a4 y4.b.length c4, .string ⟨y4.s.toArray⟩, .slice A4 y4.l.length C4]) y4 ∧ (w'.cell? ⟨g, o + 20, none⟩ = some (.int .i64 y4.k) ∧ w'.cell? ⟨g, o + 20 + 1, none⟩ = some (.int .u64 y4.n) ∧ w'.cell? ⟨g, o + 20 + 2, none⟩ = some (.slice a4 y4.b.length c4) ∧ w'.cell? ⟨g, o + 20 + 3, none⟩ = some (.string ⟨y4.s.toArray⟩) ∧ w'.cell? ⟨g, o + 20 + 4, none⟩ = some (.slice A4 y4.l.length C4))) := k4
  clear k4
  obtain ⟨a5, c5, A5, C5, k5⟩ := hI.pcells hg (i := 5) (y := y5) rfl
  simp only [Nat.reduceMul] at k5
  have HI5 : Hid (∀ w', Below w.heap.size w w' → ItV w' w.heap.size (.agg #[.int .i64 y5.k, .int .u64 y5.n, .slice a5 y5.b.length c5, .string ⟨y5.s.toArray⟩, .slice A5 y5.l.length C5]) y5 ∧ (w'.cell? ⟨g, o + 25, none⟩ = some (.int .i64 y5.k) ∧ w'.cell? ⟨g, o + 25 + 1, none⟩ = some (.int .u64 y5.n) ∧ w'.cell? ⟨g, o + 25 + 2, none⟩ = some (.slice a5 y5.b.length c5) ∧ w'.cell? ⟨g, o + 25 + 3, none⟩ = some (.string ⟨y5.s.toArray⟩) ∧ w'.cell? ⟨g, o + 25 + 4, none⟩ = some (.slice A5 y5.l.length C5))) := k5
  clear k5
  obtain ⟨a6, c6, A6, C6, k6⟩ := hI.pcells hg (i := 6) (y := y6) rfl
  simp only [Nat.reduceMul] at k6
  have HI6 : Hid (∀ w', Below w.heap.size w w' → ItV w' w.heap.size (.agg #[.int .i64 y6.k, .int .u64 y6.n, .slice a6 y6.b.length c6, .string ⟨y6.s.toArray⟩, .slice A6 y6.l.length C6]) y6 ∧ (w'.cell? ⟨g, o + 30, none⟩ = some (.int .i64 y6.k) ∧ w'.cell? ⟨g, o + 30 + 1, none⟩ = some (.int .u64 y6.n) ∧ w'.cell? ⟨g, o + 30 + 2, none⟩ = some (.slice a6 y6.b.length c6) ∧ w'.cell? ⟨g, o + 30 + 3, none⟩ = some (.string ⟨y6.s.toArray⟩) ∧ w'.cell? ⟨g, o + 30 + 4, none⟩ = some (.slice A6 y6.l.length C6))) := k6
  clear k6
  obtain ⟨a7, c7, A7, C7, k7⟩ := hI.pcells hg (i := 7) (y := y7) rfl
  simp only [Nat.reduceMul] at k7
  have HI7 : Hid (∀ w', Below w.heap.size w w' → ItV w' w.heap.size (.agg #[.int .i64 y7.k, .int .u64 y7.n, .slice a7 y7.b.length c7, .string ⟨y7.s.toArray⟩, .slice A7 y7.l.length C7]) y7 ∧ (w'.cell? ⟨g, o + 35, none⟩ = some (.int .i64 y7.k) ∧ w'.cell? ⟨g, o + 35 + 1, none⟩ = some (.int .u64 y7.n) ∧ w'.cell? ⟨g, o + 35 + 2, none⟩ = some (.slice a7 y7.b.length c7) ∧ w'.cell? ⟨g, o + 35 + 3, none⟩ = some (.string ⟨y7.s.toArray⟩) ∧ w'.cell? ⟨g, o + 35 + 4, none⟩ = some (.slice A7 y7.l.length C7))) := k7
  clear k7
  have HRest : Hid (∀ z r', r = z :: r' → ∃ a0 c0 A0 C0, ∀ w', Below w.heap.size w w' → ItV w' w.heap.size (.agg #[.int .i64 z.k, .int .u64 z.n, .slice a0 z.b.length c0, .string ⟨z.s.toArray⟩, .slice A0 z.l.length C0]) z ∧ (w'.cell? ⟨g, o + 40, none⟩ = some (.int .i64 z.k) ∧ w'.cell? ⟨g, o + 40 + 1, none⟩ = some (.int .u64 z.n) ∧ w'.cell? ⟨g, o + 40 + 2, none⟩ = some (.slice a0 z.b.length c0) ∧ w'.cell? ⟨g, o + 40 + 3, none⟩ = some (.string ⟨z.s.toArray⟩) ∧ w'.cell? ⟨g, o + 40 + 4, none⟩ = some (.slice A0 z.l.length C0))) := fun z r' hz => by
    obtain ⟨a0, c0, A0, C0, k⟩ := hI.pcells hg (i := 8) (y := z) (by rw [hz]; rfl)
    simp only [Nat.reduceMul] at k
    exact ⟨a0, c0, A0, C0, k⟩
  have HD3 : Hid (y3.depth ≤ 60000) := Nat.le_trans (depth_mem (by rw [hl]; simp)) HD.out
  have HD4 : Hid (y4.depth ≤ 60000) := Nat.le_trans (depth_mem (by rw [hl]; simp)) HD.out
  have HD5 : Hid (y5.depth ≤ 60000) := Nat.le_trans (depth_mem (by rw [hl]; simp)) HD.out
  have k8 : decide ((8 : Int) ≤ (n : Int)) = true := decide_eq_true (by omega)
  have j0 : (0 : Int) < (n : Int) := by omega
  have i0 : 0 < n := by omega
  have j1 : (1 : Int) < (n : Int) := by omega
  have i1 : 1 < n := by omega
  have j2 : (2 : Int) < (n : Int) := by omega
  have i2 : 2 < n := by omega
  have j3 : (3 : Int) < (n : Int) := by omega
  have i3 : 3 < n := by omega
  have j4 : (4 : Int) < (n : Int) := by omega
  have i4 : 4 < n := by omega
  have j5 : (5 : Int) < (n : Int) := by omega
  have i5 : 5 < n := by omega
  have j6 : (6 : Int) < (n : Int) := by omega
  have i6 : 6 < n := by omega
  have j7 : (7 : Int) < (n : Int) := by omega
  have i7 : 7 < n := by omega
  clear hl hL hI h8
  have HN8 := Lib.hid k8
  obtain ⟨_, z0, z1, z2, z3, z4⟩ := HI0.out W HB.out
  rw [HW.out] at z0 z1 z2 z3 z4
  go_enter Tryz.func62, Tryz.ntmps62
  go_wp2_with fail
  clear z0 z1 z2 z3 z4
  rw [← HW.out]
  refine (pnum_any y0 _ W (ItV.mono HB.out.size _ (HI0.out W HB.out).1)).mono ?_
  rintro e w1 ⟨hb1, ⟨u, rfl, hu, _⟩ | ⟨rfl, hu⟩⟩
  rotate_left
  · have HX : Hid (rdPm x = none) := by rw [Hid, HZ.out, rdZ, if_neg (by rw [hu]; simp)]
    have HB1 := Lib.hid (HB.out.trans (hb1.mono HB.out.size))
    rw [gives_def]
    clear hu hb1
    go_wp2_with fail
    exact ⟨rfl, HB1.out, .inr ⟨rfl, HX.out⟩⟩
  have HU := Lib.hid hu
  have HB1 := Lib.hid (HB.out.trans (hb1.mono HB.out.size))
  have HP1 := Lib.hid (HP.out.on hb1 (by have := HSW.out; omega))
  have HR1 := Lib.hid (HR.out.on hb1 (by have := HSW.out; omega))
  have HS1 : Hid (w.heap.size + 3 ≤ w1.heap.size) := Nat.le_trans HSW.out hb1.size
  clear hu hb1
  go_wp2_with fail
  refine (pneed_any ((u : Int) == 7) _).mono ?_
  rintro e w2 ⟨rfl, ⟨rfl, hu7⟩ | ⟨rfl, hu7⟩⟩
  rotate_left
  · have HX : Hid (rdPm x = none) := by
      rw [Hid, HZ.out, rdZ, if_neg]
      rw [HU.out]
      intro h
      injection h with h
      rw [h] at hu7
      cases hu7
    rw [gives_def]
    clear hu7
    go_wp2_with fail
    exact ⟨rfl, HB1.out, .inr ⟨rfl, HX.out⟩⟩
  have HU7 : Hid (nuP y0 = some 7) := by
    have h1 := eq_of_beq hu7
    rw [Hid, HU.out]
    congr 1
    omega
  clear hu7
  obtain ⟨_, z0, z1, z2, z3, z4⟩ := HI1.out w1 HB1.out
  go_wp2_with fail
  clear z0 z1 z2 z3 z4
  refine (pshort_any y1 _ w1 (ItV.mono HB1.out.size _ (HI1.out w1 HB1.out).1)).mono ?_
  rintro e w3 ⟨hb3, ⟨f, rfl, hf, hf32⟩ | ⟨rfl, hf⟩⟩
  rotate_left
  · have HX : Hid (rdPm x = none) := by
      rw [Hid, HZ.out]
      simp [rdZ, HU7.out, hf]
    have HB9 := Lib.hid (HB1.out.trans (hb3.mono HB1.out.size))
    rw [gives_def]
    clear hb3
    go_wp2_with fail
    exact ⟨rfl, HB9.out, .inr ⟨rfl, HX.out⟩⟩
  have HF := Lib.hid hf
  have HF32 := Lib.hid hf32
  have HB2 := Lib.hid (HB1.out.trans (hb3.mono HB1.out.size))
  have HP2 := Lib.hid (HP1.out.on hb3 (by have := HS1.out; omega))
  have HR2 := Lib.hid (HR1.out.on hb3 (by have := HS1.out; omega))
  have HS2 : Hid (w.heap.size + 3 ≤ w3.heap.size) := Nat.le_trans HS1.out hb3.size
  clear hf hf32 hb3
  have q0 := HP2.out.1 0 _ rfl
  have fq0 := HP2.out.2 0
  obtain ⟨w4, hw4⟩ : ∃ W0, W0 = (w3.setCell ⟨w.heap.size + 1 + 1, 0, none⟩ (.int .u32 f)) := ⟨_, rfl⟩
  have HB3 : Hid (Below w.heap.size w w4) := by rw [hw4]; exact (HB2.out.setCell (p := ⟨w.heap.size + 1 + 1, 0, none⟩) (Nat.le_trans (Nat.le_succ _) (Nat.le_succ _)) _)
  have HP3 : Hid (RowB w4 (w.heap.size + 1 + 1) [.int .u32 f, .int .i64 0, .int .u32 0, .int .u32 0, .int .u32 0, .int .u32 0, .int .u32 0, .int .u32 0, .int .u64 0, .int .u32 0, .int .u64 0]) := by rw [hw4]; exact (HP2.out.set 0 (.int .u32 f))
  have HR3 : Hid (RowB w4 (w.heap.size + 1) [.int .u32 0, .int .i64 0, .int .u32 0, .int .u32 0, .int .u32 0, .int .u32 0, .int .u32 0, .int .u32 0, .int .u64 0, .int .u32 0, .int .u64 0]) := by rw [hw4]; exact (HR2.out.other (Nat.succ_ne_self _) _)
  have HS3 : Hid (w.heap.size + 3 ≤ w4.heap.size) := by rw [hw4]; show _ ≤ _; simpa using HS2.out
  have HW3 := Lib.hid hw4
  obtain ⟨_, z0, z1, z2, z3, z4⟩ := HI2.out w4 HB3.out
  rw [hw4] at z0 z1 z2 z3 z4
  clear hw4
  go_wp2_with fail
  rw [← HW3.out]
  clear z0 z1 z2 z3 z4 q0 fq0
  refine (pshort_any y2 _ w4 (ItV.mono HB3.out.size _ (HI2.out w4 HB3.out).1)).mono ?_
  rintro e w5 ⟨hb5, ⟨kd, rfl, hk, hk32⟩ | ⟨rfl, hk⟩⟩
  rotate_left
  · have HX : Hid (rdPm x = none) := by
      rw [Hid, HZ.out]
      simp [rdZ, HU7.out, HF.out, hk]
    have HB9 := Lib.hid (HB3.out.trans (hb5.mono HB3.out.size))
    rw [gives_def]
    clear hb5
    go_wp2_with fail
    exact ⟨rfl, HB9.out, .inr ⟨rfl, HX.out⟩⟩
  have HK := Lib.hid hk
  have HK32 := Lib.hid hk32
  have HB4 := Lib.hid (HB3.out.trans (hb5.mono HB3.out.size))
  have HP4 := Lib.hid (HP3.out.on hb5 (by have := HS3.out; omega))
  have HR4 := Lib.hid (HR3.out.on hb5 (by have := HS3.out; omega))
  have HS4 : Hid (w.heap.size + 3 ≤ w5.heap.size) := Nat.le_trans HS3.out hb5.size
  clear hb5 hk
  have hw64 : IntKind.i64.wrap (kd : Int) = kd := pwrap64 hk32
  clear hk32
  have q1 := HP4.out.1 1 _ rfl
  have fq1 := HP4.out.2 1
  obtain ⟨w6, hw6⟩ : ∃ W0, W0 = (w5.setCell ⟨w.heap.size + 1 + 1, 1, none⟩ (.int .i64 kd)) := ⟨_, rfl⟩
  have HB5 : Hid (Below w.heap.size w w6) := by rw [hw6]; exact (HB4.out.setCell (p := ⟨w.heap.size + 1 + 1, 1, none⟩) (Nat.le_trans (Nat.le_succ _) (Nat.le_succ _)) _)
  have HP5 : Hid (RowB w6 (w.heap.size + 1 + 1) [.int .u32 f, .int .i64 kd, .int .u32 0, .int .u32 0, .int .u32 0, .int .u32 0, .int .u32 0, .int .u32 0, .int .u64 0, .int .u32 0, .int .u64 0]) := by rw [hw6]; exact (HP4.out.set 1 (.int .i64 kd))
  have HR5 : Hid (RowB w6 (w.heap.size + 1) [.int .u32 0, .int .i64 0, .int .u32 0, .int .u32 0, .int .u32 0, .int .u32 0, .int .u32 0, .int .u32 0, .int .u64 0, .int .u32 0, .int .u64 0]) := by rw [hw6]; exact (HR4.out.other (Nat.succ_ne_self _) _)
  have HS5 : Hid (w.heap.size + 3 ≤ w6.heap.size) := by rw [hw6]; show _ ≤ _; simpa using HS4.out
  have HW5 := Lib.hid hw6
  clear hw6
  go_wp2_with fail
  rw [← HW5.out]
  clear q1 fq1 hw64
  have HC : Hid (∀ w', Below w.heap.size w w' → (w'.cell? ⟨g, o + 15, none⟩ = some (.int .i64 y3.k) ∧ w'.cell? ⟨g, o + 15 + 1, none⟩ = some (.int .u64 y3.n) ∧ w'.cell? ⟨g, o + 15 + 2, none⟩ = some (.slice a3 y3.b.length c3) ∧ w'.cell? ⟨g, o + 15 + 3, none⟩ = some (.string ⟨y3.s.toArray⟩) ∧ w'.cell? ⟨g, o + 15 + 4, none⟩ = some (.slice A3 y3.l.length C3)) ∧ (w'.cell? ⟨g, o + 20, none⟩ = some (.int .i64 y4.k) ∧ w'.cell? ⟨g, o + 20 + 1, none⟩ = some (.int .u64 y4.n) ∧ w'.cell? ⟨g, o + 20 + 2, none⟩ = some (.slice a4 y4.b.length c4) ∧ w'.cell? ⟨g, o + 20 + 3, none⟩ = some (.string ⟨y4.s.toArray⟩) ∧ w'.cell? ⟨g, o + 20 + 4, none⟩ = some (.slice A4 y4.l.length C4)) ∧ (w'.cell? ⟨g, o + 25, none⟩ = some (.int .i64 y5.k) ∧ w'.cell? ⟨g, o + 25 + 1, none⟩ = some (.int .u64 y5.n) ∧ w'.cell? ⟨g, o + 25 + 2, none⟩ = some (.slice a5 y5.b.length c5) ∧ w'.cell? ⟨g, o + 25 + 3, none⟩ = some (.string ⟨y5.s.toArray⟩) ∧ w'.cell? ⟨g, o + 25 + 4, none⟩ = some (.slice A5 y5.l.length C5))) := fun w' h => ⟨(HI3.out w' h).2, (HI4.out w' h).2, (HI5.out w' h).2⟩
  have F0 : Below w6.heap.size w6 w6.drew := (Below.refl _ _).drew
  refine wp_region_held_drew (S := fun w' => (w'.cell? ⟨g, o + 15, none⟩ = some (.int .i64 y3.k) ∧ w'.cell? ⟨g, o + 15 + 1, none⟩ = some (.int .u64 y3.n) ∧ w'.cell? ⟨g, o + 15 + 2, none⟩ = some (.slice a3 y3.b.length c3) ∧ w'.cell? ⟨g, o + 15 + 3, none⟩ = some (.string ⟨y3.s.toArray⟩) ∧ w'.cell? ⟨g, o + 15 + 4, none⟩ = some (.slice A3 y3.l.length C3)) ∧ (w'.cell? ⟨g, o + 20, none⟩ = some (.int .i64 y4.k) ∧ w'.cell? ⟨g, o + 20 + 1, none⟩ = some (.int .u64 y4.n) ∧ w'.cell? ⟨g, o + 20 + 2, none⟩ = some (.slice a4 y4.b.length c4) ∧ w'.cell? ⟨g, o + 20 + 3, none⟩ = some (.string ⟨y4.s.toArray⟩) ∧ w'.cell? ⟨g, o + 20 + 4, none⟩ = some (.slice A4 y4.l.length C4)) ∧ (w'.cell? ⟨g, o + 25, none⟩ = some (.int .i64 y5.k) ∧ w'.cell? ⟨g, o + 25 + 1, none⟩ = some (.int .u64 y5.n) ∧ w'.cell? ⟨g, o + 25 + 2, none⟩ = some (.slice a5 y5.b.length c5) ∧ w'.cell? ⟨g, o + 25 + 3, none⟩ = some (.string ⟨y5.s.toArray⟩) ∧ w'.cell? ⟨g, o + 25 + 4, none⟩ = some (.slice A5 y5.l.length C5))) (by kernel_rfl) (HC.out _ (below_on HB5.out F0)) (fun hHeld => ?_)
  refine take_listed (i := 0) (v := ?_) rfl (by kernel_rfl) (by kernel_rfl) (by kernel_rfl) (fun _ _ _ h => h) (Or.inl ⟨by rfl, ?_⟩) (by assumption) ?_
  rotate_left
  · intro w hSw
    (try dsimp only at hSw)
    go_simp
    all_goals with_reducible rfl
  simp only [Act.put, List.setIfInBounds_toArray, List.set_cons_zero, List.set_cons_succ]
  refine take_listed (i := 1) (v := ?_) rfl (by kernel_rfl) (by kernel_rfl) (by kernel_rfl) (fun _ _ _ h => h) (Or.inl ⟨by rfl, ?_⟩) (by assumption) ?_
  rotate_left
  · intro w hSw
    (try dsimp only at hSw)
    go_simp
    all_goals with_reducible rfl
  simp only [Act.put, List.setIfInBounds_toArray, List.set_cons_zero, List.set_cons_succ]
  refine take_listed (i := 2) (v := ?_) rfl (by kernel_rfl) (by kernel_rfl) (by kernel_rfl) (fun _ _ _ h => h) (Or.inl ⟨by rfl, ?_⟩) (by assumption) ?_
  rotate_left
  · intro w hSw
    (try dsimp only at hSw)
    go_simp
    all_goals with_reducible rfl
  simp only [Act.put, List.setIfInBounds_toArray, List.set_cons_zero, List.set_cons_succ]
  refine take_listed (i := 4) (v := ?_) rfl (by kernel_rfl) (by kernel_rfl) (by kernel_rfl) (fun _ _ _ h => h) (Or.inl ⟨by rfl, ?_⟩) (by assumption) ?_
  rotate_left
  · intro w hSw
    (try dsimp only at hSw)
    go_simp
    all_goals with_reducible rfl
  simp only [Act.put, List.setIfInBounds_toArray, List.set_cons_zero, List.set_cons_succ]
  refine take_listed (i := 5) (v := ?_) rfl (by kernel_rfl) (by kernel_rfl) (by kernel_rfl) (fun _ _ _ h => h) (Or.inl ⟨by rfl, ?_⟩) (by assumption) ?_
  rotate_left
  · intro w hSw
    (try dsimp only at hSw)
    go_simp
    all_goals with_reducible rfl
  simp only [Act.put, List.setIfInBounds_toArray, List.set_cons_zero, List.set_cons_succ]
  refine take_listed (i := 6) (v := ?_) rfl (by kernel_rfl) (by kernel_rfl) (by kernel_rfl) (fun _ _ _ h => h) (Or.inl ⟨by rfl, ?_⟩) (by assumption) ?_
  rotate_left
  · intro w hSw
    (try dsimp only at hSw)
    go_simp
    all_goals with_reducible rfl
  simp only [Act.put, List.setIfInBounds_toArray, List.set_cons_zero, List.set_cons_succ]
  refine take_listed (i := 8) (v := ?_) rfl (by kernel_rfl) (by kernel_rfl) (by kernel_rfl) (fun _ _ _ h => h) (Or.inl ⟨by rfl, ?_⟩) (by assumption) ?_
  rotate_left
  · intro w hSw
    (try dsimp only at hSw)
    go_simp
    all_goals with_reducible rfl
  simp only [Act.put, List.setIfInBounds_toArray, List.set_cons_zero, List.set_cons_succ]
  refine take_listed (i := 9) (v := ?_) rfl (by kernel_rfl) (by kernel_rfl) (by kernel_rfl) (fun _ _ _ h => h) (Or.inl ⟨by rfl, ?_⟩) (by assumption) ?_
  rotate_left
  · intro w hSw
    (try dsimp only at hSw)
    go_simp
    all_goals with_reducible rfl
  simp only [Act.put, List.setIfInBounds_toArray, List.set_cons_zero, List.set_cons_succ]
  refine take_listed (i := 10) (v := ?_) rfl (by kernel_rfl) (by kernel_rfl) (by kernel_rfl) (fun _ _ _ h => h) (Or.inl ⟨by rfl, ?_⟩) (by assumption) ?_
  rotate_left
  · intro w hSw
    (try dsimp only at hSw)
    go_simp
    all_goals with_reducible rfl
  simp only [Act.put, List.setIfInBounds_toArray, List.set_cons_zero, List.set_cons_succ]
  refine wpAnyH_ready (rs := [3]) (by kernel_rfl) (by simp) ?_
  refine AllReadyH.cons rfl (fun K hK => ?_) AllReadyH.nil
  go_simp
  refine (pend_any y3 _ _ HD3.out (ItV.mono (below_on HB5.out F0).size _ (HI3.out _ (below_on HB5.out F0)).1)).mono ?_
  rintro e w7 ⟨hb, ⟨tn, tm, rfl, he3⟩ | ⟨rfl, he3⟩⟩
  rotate_left
  · rw [gives_def]
    exact ⟨rfl, below_on HB5.out (below_on F0 hb), .inr ⟨rfl, by
      rw [HZ.out]
      simp [rdZ, HU7.out, HF.out, HK.out, he3]⟩⟩
  have HE3 := Lib.hid he3
  have F1 : Below w6.heap.size w6 w7 := below_on F0 hb
  clear he3 hb
  refine hK.out _ _ (HC.out _ (below_on HB5.out F1)) (fun hHeld => ?_)
  clear hK K
  try simp only [Act.put, List.setIfInBounds_toArray, List.set_cons_zero, List.set_cons_succ]
  refine take_listed (i := 12) (v := ?_) rfl (by kernel_rfl) (by kernel_rfl) (by kernel_rfl) (fun _ _ _ h => h) (Or.inl ⟨by rfl, ?_⟩) (by assumption) ?_
  rotate_left
  · intro w hSw
    (try dsimp only at hSw)
    go_simp
    all_goals with_reducible rfl
  simp only [Act.put, List.setIfInBounds_toArray, List.set_cons_zero, List.set_cons_succ]
  refine take_listed (i := 13) (v := ?_) rfl (by kernel_rfl) (by kernel_rfl) (by kernel_rfl) (fun _ _ _ h => h) (Or.inl ⟨by rfl, ?_⟩) (by assumption) ?_
  rotate_left
  · intro w hSw
    (try dsimp only at hSw)
    go_simp
    all_goals with_reducible rfl
  simp only [Act.put, List.setIfInBounds_toArray, List.set_cons_zero, List.set_cons_succ]
  refine wpAnyH_ready (rs := [7]) (by kernel_rfl) (by simp) ?_
  refine AllReadyH.cons rfl (fun K hK => ?_) AllReadyH.nil
  go_simp
  refine (pend_any y4 _ _ HD4.out (ItV.mono (below_on HB5.out F1).size _ (HI4.out _ (below_on HB5.out F1)).1)).mono ?_
  rintro e w8 ⟨hb, ⟨sn, sm, rfl, he4⟩ | ⟨rfl, he4⟩⟩
  rotate_left
  · rw [gives_def]
    exact ⟨rfl, below_on HB5.out (below_on F1 hb), .inr ⟨rfl, by
      rw [HZ.out]
      simp [rdZ, HU7.out, HF.out, HK.out, HE3.out, he4]⟩⟩
  have HE4 := Lib.hid he4
  have F2 : Below w6.heap.size w6 w8 := below_on F1 hb
  clear he4 hb
  refine hK.out _ _ (HC.out _ (below_on HB5.out F2)) (fun hHeld => ?_)
  clear hK K
  try simp only [Act.put, List.setIfInBounds_toArray, List.set_cons_zero, List.set_cons_succ]
  refine wpAnyH_ready (rs := [11]) (by kernel_rfl) (by simp) ?_
  refine AllReadyH.cons rfl (fun K hK => ?_) AllReadyH.nil
  go_simp
  refine (pend_any y5 _ _ HD5.out (ItV.mono (below_on HB5.out F2).size _ (HI5.out _ (below_on HB5.out F2)).1)).mono ?_
  rintro e w9 ⟨hb, ⟨rn, rm, rfl, he5⟩ | ⟨rfl, he5⟩⟩
  rotate_left
  · rw [gives_def]
    exact ⟨rfl, below_on HB5.out (below_on F2 hb), .inr ⟨rfl, by
      rw [HZ.out]
      simp [rdZ, HU7.out, HF.out, HK.out, HE3.out, HE4.out, he5]⟩⟩
  have HE5 := Lib.hid he5
  have F3 : Below w6.heap.size w6 w9 := below_on F2 hb
  clear he5 hb
  have HP6 := Lib.hid (HP5.out.on F3 (by have := HS5.out; omega))
  have HR6 := Lib.hid (HR5.out.on F3 (by have := HS5.out; omega))
  have HS6 : Hid (w.heap.size + 3 ≤ w9.heap.size) := Nat.le_trans HS5.out F3.size
  have HB6 := Lib.hid (below_on HB5.out F3)
  have q2 := HP6.out.1 2 _ rfl
  have fq2 := HP6.out.2 2
  have q3 := HP6.out.1 3 _ rfl
  have fq3 := HP6.out.2 3
  have q4 := HP6.out.1 4 _ rfl
  have fq4 := HP6.out.2 4
  have q5 := HP6.out.1 5 _ rfl
  have fq5 := HP6.out.2 5
  have q6 := HP6.out.1 6 _ rfl
  have fq6 := HP6.out.2 6
  have q7 := HP6.out.1 7 _ rfl
  have fq7 := HP6.out.2 7
  refine hK.out _ _ (HC.out _ (below_on HB5.out F3)) (fun hHeld => ?_)
  clear hK K
  try simp only [Act.put, List.setIfInBounds_toArray, List.set_cons_zero, List.set_cons_succ]
  refine wpAnyH_ready (rs := [14]) (by kernel_rfl) (by simp) ?_
  refine AllReadyH.cons rfl (fun K hK => ?_) AllReadyH.nil
  go_simp
  refine hK.out _ _ (HC.out _ ((HB6.out.setCell (p := ⟨w.heap.size + 1 + 1, 2, none⟩) (Nat.le_trans (Nat.le_succ _) (Nat.le_succ _)) _).setCell (p := ⟨w.heap.size + 1 + 1, 3, none⟩) (Nat.le_trans (Nat.le_succ _) (Nat.le_succ _)) _)) (fun hHeld => ?_)
  clear hK K
  try simp only [Act.put, List.setIfInBounds_toArray, List.set_cons_zero, List.set_cons_succ]
  refine take_listed (i := 15) (v := ?_) rfl (by kernel_rfl) (by kernel_rfl) (by kernel_rfl) (fun _ _ _ h => h) (Or.inl ⟨by rfl, ?_⟩) (by assumption) ?_
  rotate_left
  · intro w hSw
    (try dsimp only at hSw)
    go_simp
    all_goals with_reducible rfl
  simp only [Act.put, List.setIfInBounds_toArray, List.set_cons_zero, List.set_cons_succ]
  refine take_listed (i := 16) (v := ?_) rfl (by kernel_rfl) (by kernel_rfl) (by kernel_rfl) (fun _ _ _ h => h) (Or.inl ⟨by rfl, ?_⟩) (by assumption) ?_
  rotate_left
  · intro w hSw
    (try dsimp only at hSw)
    go_simp
    all_goals with_reducible rfl
  simp only [Act.put, List.setIfInBounds_toArray, List.set_cons_zero, List.set_cons_succ]
  refine wpAnyH_ready (rs := [17]) (by kernel_rfl) (by simp) ?_
  refine AllReadyH.cons rfl (fun K hK => ?_) AllReadyH.nil
  go_simp
  refine hK.out _ _ (HC.out _ ((((HB6.out.setCell (p := ⟨w.heap.size + 1 + 1, 2, none⟩) (Nat.le_trans (Nat.le_succ _) (Nat.le_succ _)) _).setCell (p := ⟨w.heap.size + 1 + 1, 3, none⟩) (Nat.le_trans (Nat.le_succ _) (Nat.le_succ _)) _).setCell (p := ⟨w.heap.size + 1 + 1, 4, none⟩) (Nat.le_trans (Nat.le_succ _) (Nat.le_succ _)) _).setCell (p := ⟨w.heap.size + 1 + 1, 5, none⟩) (Nat.le_trans (Nat.le_succ _) (Nat.le_succ _)) _)) (fun hHeld => ?_)
  clear hK K
  try simp only [Act.put, List.setIfInBounds_toArray, List.set_cons_zero, List.set_cons_succ]
  refine take_listed (i := 18) (v := ?_) rfl (by kernel_rfl) (by kernel_rfl) (by kernel_rfl) (fun _ _ _ h => h) (Or.inl ⟨by rfl, ?_⟩) (by assumption) ?_
  rotate_left
  · intro w hSw
    (try dsimp only at hSw)
    go_simp
    all_goals with_reducible rfl
  simp only [Act.put, List.setIfInBounds_toArray, List.set_cons_zero, List.set_cons_succ]
  refine take_listed (i := 19) (v := ?_) rfl (by kernel_rfl) (by kernel_rfl) (by kernel_rfl) (fun _ _ _ h => h) (Or.inl ⟨by rfl, ?_⟩) (by assumption) ?_
  rotate_left
  · intro w hSw
    (try dsimp only at hSw)
    go_simp
    all_goals with_reducible rfl
  simp only [Act.put, List.setIfInBounds_toArray, List.set_cons_zero, List.set_cons_succ]
  refine wpAnyH_ready (rs := [20]) (by kernel_rfl) (by simp) ?_
  refine AllReadyH.cons rfl (fun K hK => ?_) AllReadyH.nil
  go_simp
  refine hK.out _ _ (HC.out _ ((((((HB6.out.setCell (p := ⟨w.heap.size + 1 + 1, 2, none⟩) (Nat.le_trans (Nat.le_succ _) (Nat.le_succ _)) _).setCell (p := ⟨w.heap.size + 1 + 1, 3, none⟩) (Nat.le_trans (Nat.le_succ _) (Nat.le_succ _)) _).setCell (p := ⟨w.heap.size + 1 + 1, 4, none⟩) (Nat.le_trans (Nat.le_succ _) (Nat.le_succ _)) _).setCell (p := ⟨w.heap.size + 1 + 1, 5, none⟩) (Nat.le_trans (Nat.le_succ _) (Nat.le_succ _)) _).setCell (p := ⟨w.heap.size + 1 + 1, 6, none⟩) (Nat.le_trans (Nat.le_succ _) (Nat.le_succ _)) _).setCell (p := ⟨w.heap.size + 1 + 1, 7, none⟩) (Nat.le_trans (Nat.le_succ _) (Nat.le_succ _)) _)) (fun hHeld => ?_)
  clear hK K
  try simp only [Act.put, List.setIfInBounds_toArray, List.set_cons_zero, List.set_cons_succ]
  clear hHeld
  refine wpAnyH_done (by kernel_rfl) ?_ _
  clear F0 F1 F2 F3
  obtain ⟨w10, hw10⟩ : ∃ W0, W0 = ((((((w9.setCell ⟨w.heap.size + 1 + 1, 2, none⟩ (.int .u32 (tn : Int))).setCell ⟨w.heap.size + 1 + 1, 3, none⟩ (.int .u32 (tm : Int))).setCell ⟨w.heap.size + 1 + 1, 4, none⟩ (.int .u32 (sn : Int))).setCell ⟨w.heap.size + 1 + 1, 5, none⟩ (.int .u32 (sm : Int))).setCell ⟨w.heap.size + 1 + 1, 6, none⟩ (.int .u32 (rn : Int))).setCell ⟨w.heap.size + 1 + 1, 7, none⟩ (.int .u32 (rm : Int))) := ⟨_, rfl⟩
  have HB7 : Hid (Below w.heap.size w w10) := by rw [hw10]; exact ((((((HB6.out.setCell (p := ⟨w.heap.size + 1 + 1, 2, none⟩) (Nat.le_trans (Nat.le_succ _) (Nat.le_succ _)) _).setCell (p := ⟨w.heap.size + 1 + 1, 3, none⟩) (Nat.le_trans (Nat.le_succ _) (Nat.le_succ _)) _).setCell (p := ⟨w.heap.size + 1 + 1, 4, none⟩) (Nat.le_trans (Nat.le_succ _) (Nat.le_succ _)) _).setCell (p := ⟨w.heap.size + 1 + 1, 5, none⟩) (Nat.le_trans (Nat.le_succ _) (Nat.le_succ _)) _).setCell (p := ⟨w.heap.size + 1 + 1, 6, none⟩) (Nat.le_trans (Nat.le_succ _) (Nat.le_succ _)) _).setCell (p := ⟨w.heap.size + 1 + 1, 7, none⟩) (Nat.le_trans (Nat.le_succ _) (Nat.le_succ _)) _)
  have HP7 : Hid (RowB w10 (w.heap.size + 1 + 1) [.int .u32 f, .int .i64 kd, .int .u32 (tn : Int), .int .u32 (tm : Int), .int .u32 (sn : Int), .int .u32 (sm : Int), .int .u32 (rn : Int), .int .u32 (rm : Int), .int .u64 0, .int .u32 0, .int .u64 0]) := by rw [hw10]; exact ((((((HP6.out.set 2 (.int .u32 (tn : Int))).set 3 (.int .u32 (tm : Int))).set 4 (.int .u32 (sn : Int))).set 5 (.int .u32 (sm : Int))).set 6 (.int .u32 (rn : Int))).set 7 (.int .u32 (rm : Int)))
  have HR7 : Hid (RowB w10 (w.heap.size + 1) [.int .u32 0, .int .i64 0, .int .u32 0, .int .u32 0, .int .u32 0, .int .u32 0, .int .u32 0, .int .u32 0, .int .u64 0, .int .u32 0, .int .u64 0]) := by rw [hw10]; exact ((((((HR6.out.other (Nat.succ_ne_self _) _).other (Nat.succ_ne_self _) _).other (Nat.succ_ne_self _) _).other (Nat.succ_ne_self _) _).other (Nat.succ_ne_self _) _).other (Nat.succ_ne_self _) _)
  have HS7 : Hid (w.heap.size + 3 ≤ w10.heap.size) := by rw [hw10]; show _ ≤ _; simpa using HS6.out
  have HW7 := Lib.hid hw10
  obtain ⟨_, z0, z1, z2, z3, z4⟩ := HI6.out w10 HB7.out
  rw [hw10] at z0 z1 z2 z3 z4
  clear hw10
  go_wp2_with fail
  rw [← HW7.out]
  clear z0 z1 z2 z3 z4 q2 fq2 q3 fq3 q4 fq4 q5 fq5 q6 fq6 q7 fq7
  refine (pneed_any ((y6.l.length : Int) == 2) _).mono ?_
  rintro e w11 ⟨rfl, ⟨rfl, h2⟩ | ⟨rfl, h2⟩⟩
  rotate_left
  · have HX : Hid (rdPm x = none) := by
      have hw6 := rdW_no (y := y6) (fun h => by rw [h] at h2; cases h2)
      rw [Hid, HZ.out]
      simp [rdZ, HU7.out, HF.out, HK.out, HE3.out, HE4.out, HE5.out, hw6]
    rw [gives_def]
    clear h2
    go_wp2_with fail
    exact ⟨rfl, HB7.out, .inr ⟨rfl, HX.out⟩⟩
  have hl6 : y6.l.length = 2 := by have := eq_of_beq h2; omega
  obtain ⟨v0, v1, hv6⟩ : ∃ v0 v1, y6.l = [v0, v1] := by
    match hq : y6.l, hl6 with
    | [v0, v1], _ => exact ⟨v0, v1, rfl⟩
  obtain ⟨g6, o6, rfl, hg6, hI6⟩ : ∃ g o, A6 = some ⟨g, o, none⟩ ∧ g < w.heap.size ∧ ItL w w.heap.size g o y6.l := by
    rcases ((HI6.out w (Below.refl _ _)).1).list.1 with h | h
    · rw [h] at hl6
      cases hl6
    · exact h
  obtain ⟨va0, vc0, vA0, vC0, kv0⟩ := hI6.pcells hg6 (i := 0) (y := v0) (by rw [hv6]; rfl)
  simp only [Nat.zero_mul, Nat.add_zero] at kv0
  have HV0 : Hid (∀ w', Below w.heap.size w w' → ItV w' w.heap.size (.agg #[.int .i64 v0.k, .int .u64 v0.n, .slice va0 v0.b.length vc0, .string ⟨v0.s.toArray⟩, .slice vA0 v0.l.length vC0]) v0 ∧ (w'.cell? ⟨g6, o6, none⟩ = some (.int .i64 v0.k) ∧ w'.cell? ⟨g6, o6 + 1, none⟩ = some (.int .u64 v0.n) ∧ w'.cell? ⟨g6, o6 + 2, none⟩ = some (.slice va0 v0.b.length vc0) ∧ w'.cell? ⟨g6, o6 + 3, none⟩ = some (.string ⟨v0.s.toArray⟩) ∧ w'.cell? ⟨g6, o6 + 4, none⟩ = some (.slice vA0 v0.l.length vC0))) := kv0
  obtain ⟨va1, vc1, vA1, vC1, kv1⟩ := hI6.pcells hg6 (i := 1) (y := v1) (by rw [hv6]; rfl)
  simp only [Nat.one_mul] at kv1
  have HV1 : Hid (∀ w', Below w.heap.size w w' → ItV w' w.heap.size (.agg #[.int .i64 v1.k, .int .u64 v1.n, .slice va1 v1.b.length vc1, .string ⟨v1.s.toArray⟩, .slice vA1 v1.l.length vC1]) v1 ∧ (w'.cell? ⟨g6, o6 + 5, none⟩ = some (.int .i64 v1.k) ∧ w'.cell? ⟨g6, o6 + 5 + 1, none⟩ = some (.int .u64 v1.n) ∧ w'.cell? ⟨g6, o6 + 5 + 2, none⟩ = some (.slice va1 v1.b.length vc1) ∧ w'.cell? ⟨g6, o6 + 5 + 3, none⟩ = some (.string ⟨v1.s.toArray⟩) ∧ w'.cell? ⟨g6, o6 + 5 + 4, none⟩ = some (.slice vA1 v1.l.length vC1))) := kv1
  have HW6 := Lib.hid (rdW_two hv6)
  rw [hl6]
  clear h2 hl6 hv6 hI6 hg6 kv0 kv1
  have HC6 : Hid (∀ w', Below w.heap.size w w' → (w'.cell? ⟨g6, o6, none⟩ = some (.int .i64 v0.k) ∧ w'.cell? ⟨g6, o6 + 1, none⟩ = some (.int .u64 v0.n) ∧ w'.cell? ⟨g6, o6 + 2, none⟩ = some (.slice va0 v0.b.length vc0) ∧ w'.cell? ⟨g6, o6 + 3, none⟩ = some (.string ⟨v0.s.toArray⟩) ∧ w'.cell? ⟨g6, o6 + 4, none⟩ = some (.slice vA0 v0.l.length vC0)) ∧ (w'.cell? ⟨g6, o6 + 5, none⟩ = some (.int .i64 v1.k) ∧ w'.cell? ⟨g6, o6 + 5 + 1, none⟩ = some (.int .u64 v1.n) ∧ w'.cell? ⟨g6, o6 + 5 + 2, none⟩ = some (.slice va1 v1.b.length vc1) ∧ w'.cell? ⟨g6, o6 + 5 + 3, none⟩ = some (.string ⟨v1.s.toArray⟩) ∧ w'.cell? ⟨g6, o6 + 5 + 4, none⟩ = some (.slice vA1 v1.l.length vC1))) := fun w' h => ⟨(HV0.out w' h).2, (HV1.out w' h).2⟩
  have F0 : Below w10.heap.size w10 w10.drew := (Below.refl _ _).drew
  go_wp2_with fail
  refine wp_region_held_drew (S := fun w' => (w'.cell? ⟨g6, o6, none⟩ = some (.int .i64 v0.k) ∧ w'.cell? ⟨g6, o6 + 1, none⟩ = some (.int .u64 v0.n) ∧ w'.cell? ⟨g6, o6 + 2, none⟩ = some (.slice va0 v0.b.length vc0) ∧ w'.cell? ⟨g6, o6 + 3, none⟩ = some (.string ⟨v0.s.toArray⟩) ∧ w'.cell? ⟨g6, o6 + 4, none⟩ = some (.slice vA0 v0.l.length vC0)) ∧ (w'.cell? ⟨g6, o6 + 5, none⟩ = some (.int .i64 v1.k) ∧ w'.cell? ⟨g6, o6 + 5 + 1, none⟩ = some (.int .u64 v1.n) ∧ w'.cell? ⟨g6, o6 + 5 + 2, none⟩ = some (.slice va1 v1.b.length vc1) ∧ w'.cell? ⟨g6, o6 + 5 + 3, none⟩ = some (.string ⟨v1.s.toArray⟩) ∧ w'.cell? ⟨g6, o6 + 5 + 4, none⟩ = some (.slice vA1 v1.l.length vC1))) (by kernel_rfl) (HC6.out _ (below_on HB7.out F0)) (fun hHeld => ?_)
  refine take_listed (i := 0) (v := ?_) rfl (by kernel_rfl) (by kernel_rfl) (by kernel_rfl) (fun _ _ _ h => h) (Or.inl ⟨by rfl, ?_⟩) (by assumption) ?_
  rotate_left
  · intro w hSw
    (try dsimp only at hSw)
    go_simp
    all_goals with_reducible rfl
  simp only [Act.put, List.setIfInBounds_toArray, List.set_cons_zero, List.set_cons_succ]
  refine take_listed (i := 1) (v := ?_) rfl (by kernel_rfl) (by kernel_rfl) (by kernel_rfl) (fun _ _ _ h => h) (Or.inl ⟨by rfl, ?_⟩) (by assumption) ?_
  rotate_left
  · intro w hSw
    (try dsimp only at hSw)
    go_simp
    all_goals with_reducible rfl
  simp only [Act.put, List.setIfInBounds_toArray, List.set_cons_zero, List.set_cons_succ]
  refine take_listed (i := 2) (v := ?_) rfl (by kernel_rfl) (by kernel_rfl) (by kernel_rfl) (fun _ _ _ h => h) (Or.inl ⟨by rfl, ?_⟩) (by assumption) ?_
  rotate_left
  · intro w hSw
    (try dsimp only at hSw)
    go_simp
    all_goals with_reducible rfl
  simp only [Act.put, List.setIfInBounds_toArray, List.set_cons_zero, List.set_cons_succ]
  refine take_listed (i := 4) (v := ?_) rfl (by kernel_rfl) (by kernel_rfl) (by kernel_rfl) (fun _ _ _ h => h) (Or.inl ⟨by rfl, ?_⟩) (by assumption) ?_
  rotate_left
  · intro w hSw
    (try dsimp only at hSw)
    go_simp
    all_goals with_reducible rfl
  simp only [Act.put, List.setIfInBounds_toArray, List.set_cons_zero, List.set_cons_succ]
  refine take_listed (i := 5) (v := ?_) rfl (by kernel_rfl) (by kernel_rfl) (by kernel_rfl) (fun _ _ _ h => h) (Or.inl ⟨by rfl, ?_⟩) (by assumption) ?_
  rotate_left
  · intro w hSw
    (try dsimp only at hSw)
    go_simp
    all_goals with_reducible rfl
  simp only [Act.put, List.setIfInBounds_toArray, List.set_cons_zero, List.set_cons_succ]
  refine take_listed (i := 6) (v := ?_) rfl (by kernel_rfl) (by kernel_rfl) (by kernel_rfl) (fun _ _ _ h => h) (Or.inl ⟨by rfl, ?_⟩) (by assumption) ?_
  rotate_left
  · intro w hSw
    (try dsimp only at hSw)
    go_simp
    all_goals with_reducible rfl
  simp only [Act.put, List.setIfInBounds_toArray, List.set_cons_zero, List.set_cons_succ]
  refine wpAnyH_ready (rs := [3]) (by kernel_rfl) (by simp) ?_
  refine AllReadyH.cons rfl (fun K hK => ?_) AllReadyH.nil
  go_simp
  refine (pnum_any v0 _ _ (ItV.mono (below_on HB7.out F0).size _ (HV0.out _ (below_on HB7.out F0)).1)).mono ?_
  rintro e w12 ⟨hb, ⟨tt, rfl, ht1, ht2⟩ | ⟨rfl, ht1⟩⟩
  rotate_left
  · rw [gives_def]
    exact ⟨rfl, below_on HB7.out (below_on F0 hb), .inr ⟨rfl, by
      rw [HZ.out]
      simp [rdZ, HU7.out, HF.out, HK.out, HE3.out, HE4.out, HE5.out, HW6.out, ht1]⟩⟩
  have HT1 := Lib.hid ht1
  have HT2 := Lib.hid ht2
  have F1 : Below w10.heap.size w10 w12 := below_on F0 hb
  clear ht1 ht2 hb
  refine hK.out _ _ (HC6.out _ (below_on HB7.out F1)) (fun hHeld => ?_)
  clear hK K
  try simp only [Act.put, List.setIfInBounds_toArray, List.set_cons_zero, List.set_cons_succ]
  refine take_listed (i := 8) (v := ?_) rfl (by kernel_rfl) (by kernel_rfl) (by kernel_rfl) (fun _ _ _ h => h) (Or.inl ⟨by rfl, ?_⟩) (by assumption) ?_
  rotate_left
  · intro w hSw
    (try dsimp only at hSw)
    go_simp
    all_goals with_reducible rfl
  simp only [Act.put, List.setIfInBounds_toArray, List.set_cons_zero, List.set_cons_succ]
  refine take_listed (i := 9) (v := ?_) rfl (by kernel_rfl) (by kernel_rfl) (by kernel_rfl) (fun _ _ _ h => h) (Or.inl ⟨by rfl, ?_⟩) (by assumption) ?_
  rotate_left
  · intro w hSw
    (try dsimp only at hSw)
    go_simp
    all_goals with_reducible rfl
  simp only [Act.put, List.setIfInBounds_toArray, List.set_cons_zero, List.set_cons_succ]
  refine wpAnyH_ready (rs := [7]) (by kernel_rfl) (by simp) ?_
  refine AllReadyH.cons rfl (fun K hK => ?_) AllReadyH.nil
  go_simp
  refine (pshort_any v1 _ _ (ItV.mono (below_on HB7.out F1).size _ (HV1.out _ (below_on HB7.out F1)).1)).mono ?_
  rintro e w13 ⟨hb, ⟨qq, rfl, hq1, hq2⟩ | ⟨rfl, hq1⟩⟩
  rotate_left
  · rw [gives_def]
    exact ⟨rfl, below_on HB7.out (below_on F1 hb), .inr ⟨rfl, by
      rw [HZ.out]
      simp [rdZ, HU7.out, HF.out, HK.out, HE3.out, HE4.out, HE5.out, HW6.out, HT1.out, hq1]⟩⟩
  have HQ1 := Lib.hid hq1
  have HQ2 := Lib.hid hq2
  have F2 : Below w10.heap.size w10 w13 := below_on F1 hb
  clear hq1 hq2 hb
  have HP8 := Lib.hid (HP7.out.on F2 (by have := HS7.out; omega))
  have HR8 := Lib.hid (HR7.out.on F2 (by have := HS7.out; omega))
  have HS8 : Hid (w.heap.size + 3 ≤ w13.heap.size) := Nat.le_trans HS7.out F2.size
  have HB8 := Lib.hid (below_on HB7.out F2)
  have q8 := HP8.out.1 8 _ rfl
  have fq8 := HP8.out.2 8
  have q9 := HP8.out.1 9 _ rfl
  have fq9 := HP8.out.2 9
  refine hK.out _ _ (HC6.out _ (below_on HB7.out F2)) (fun hHeld => ?_)
  clear hK K
  try simp only [Act.put, List.setIfInBounds_toArray, List.set_cons_zero, List.set_cons_succ]
  refine wpAnyH_ready (rs := [10]) (by kernel_rfl) (by simp) ?_
  refine AllReadyH.cons rfl (fun K hK => ?_) AllReadyH.nil
  go_simp
  refine hK.out _ _ (HC6.out _ (HB8.out.setCell (p := ⟨w.heap.size + 1 + 1, 8, none⟩) (Nat.le_trans (Nat.le_succ _) (Nat.le_succ _)) _)) (fun hHeld => ?_)
  clear hK K
  try simp only [Act.put, List.setIfInBounds_toArray, List.set_cons_zero, List.set_cons_succ]
  refine take_listed (i := 11) (v := ?_) rfl (by kernel_rfl) (by kernel_rfl) (by kernel_rfl) (fun _ _ _ h => h) (Or.inl ⟨by rfl, ?_⟩) (by assumption) ?_
  rotate_left
  · intro w hSw
    (try dsimp only at hSw)
    go_simp
    all_goals with_reducible rfl
  simp only [Act.put, List.setIfInBounds_toArray, List.set_cons_zero, List.set_cons_succ]
  refine take_listed (i := 12) (v := ?_) rfl (by kernel_rfl) (by kernel_rfl) (by kernel_rfl) (fun _ _ _ h => h) (Or.inl ⟨by rfl, ?_⟩) (by assumption) ?_
  rotate_left
  · intro w hSw
    (try dsimp only at hSw)
    go_simp
    all_goals with_reducible rfl
  simp only [Act.put, List.setIfInBounds_toArray, List.set_cons_zero, List.set_cons_succ]
  refine wpAnyH_ready (rs := [13]) (by kernel_rfl) (by simp) ?_
  refine AllReadyH.cons rfl (fun K hK => ?_) AllReadyH.nil
  go_simp
  refine hK.out _ _ (HC6.out _ ((HB8.out.setCell (p := ⟨w.heap.size + 1 + 1, 8, none⟩) (Nat.le_trans (Nat.le_succ _) (Nat.le_succ _)) _).setCell (p := ⟨w.heap.size + 1 + 1, 9, none⟩) (Nat.le_trans (Nat.le_succ _) (Nat.le_succ _)) _)) (fun hHeld => ?_)
  clear hK K
  try simp only [Act.put, List.setIfInBounds_toArray, List.set_cons_zero, List.set_cons_succ]
  clear hHeld
  refine wpAnyH_done (by kernel_rfl) ?_ _
  clear F0 F1 F2
  obtain ⟨w14, hw14⟩ : ∃ W0, W0 = ((w13.setCell ⟨w.heap.size + 1 + 1, 8, none⟩ (.int .u64 (tt : Int))).setCell ⟨w.heap.size + 1 + 1, 9, none⟩ (.int .u32 (qq : Int))) := ⟨_, rfl⟩
  have HB9 : Hid (Below w.heap.size w w14) := by rw [hw14]; exact ((HB8.out.setCell (p := ⟨w.heap.size + 1 + 1, 8, none⟩) (Nat.le_trans (Nat.le_succ _) (Nat.le_succ _)) _).setCell (p := ⟨w.heap.size + 1 + 1, 9, none⟩) (Nat.le_trans (Nat.le_succ _) (Nat.le_succ _)) _)
  have HP9 : Hid (RowB w14 (w.heap.size + 1 + 1) [.int .u32 f, .int .i64 kd, .int .u32 (tn : Int), .int .u32 (tm : Int), .int .u32 (sn : Int), .int .u32 (sm : Int), .int .u32 (rn : Int), .int .u32 (rm : Int), .int .u64 (tt : Int), .int .u32 (qq : Int), .int .u64 0]) := by rw [hw14]; exact ((HP8.out.set 8 (.int .u64 (tt : Int))).set 9 (.int .u32 (qq : Int)))
  have HR9 : Hid (RowB w14 (w.heap.size + 1) [.int .u32 0, .int .i64 0, .int .u32 0, .int .u32 0, .int .u32 0, .int .u32 0, .int .u32 0, .int .u32 0, .int .u64 0, .int .u32 0, .int .u64 0]) := by rw [hw14]; exact ((HR8.out.other (Nat.succ_ne_self _) _).other (Nat.succ_ne_self _) _)
  have HS9 : Hid (w.heap.size + 3 ≤ w14.heap.size) := by rw [hw14]; show _ ≤ _; simpa using HS8.out
  have HW9 := Lib.hid hw14
  obtain ⟨_, z0, z1, z2, z3, z4⟩ := HI7.out w14 HB9.out
  rw [hw14] at z0 z1 z2 z3 z4
  clear hw14
  go_wp2_with fail
  rw [← HW9.out]
  clear z0 z1 z2 z3 z4 q8 fq8 q9 fq9
  refine (pnum_any y7 _ w14 (ItV.mono HB9.out.size _ (HI7.out w14 HB9.out).1)).mono ?_
  rintro e w15 ⟨hb15, ⟨ll, rfl, hl1, hl2⟩ | ⟨rfl, hl1⟩⟩
  rotate_left
  · have HX : Hid (rdPm x = none) := by
      rw [Hid, HZ.out]
      simp [rdZ, HU7.out, HF.out, HK.out, HE3.out, HE4.out, HE5.out, HW6.out, HT1.out, HQ1.out, hl1]
    have HB9 := Lib.hid (HB9.out.trans (hb15.mono HB9.out.size))
    rw [gives_def]
    clear hb15
    go_wp2_with fail
    exact ⟨rfl, HB9.out, .inr ⟨rfl, HX.out⟩⟩
  have HL1 := Lib.hid hl1
  have HB10 := Lib.hid (HB9.out.trans (hb15.mono HB9.out.size))
  have HP10 := Lib.hid (HP9.out.on hb15 (by have := HS9.out; omega))
  have HR10 := Lib.hid (HR9.out.on hb15 (by have := HS9.out; omega))
  have HS10 : Hid (w.heap.size + 3 ≤ w15.heap.size) := Nat.le_trans HS9.out hb15.size
  clear hb15 hl1
  have q10 := HP10.out.1 10 _ rfl
  have fq10 := HP10.out.2 10
  obtain ⟨w16, hw16⟩ : ∃ W0, W0 = (w15.setCell ⟨w.heap.size + 1 + 1, 10, none⟩ (.int .u64 (ll : Int))) := ⟨_, rfl⟩
  have HB11 : Hid (Below w.heap.size w w16) := by rw [hw16]; exact (HB10.out.setCell (p := ⟨w.heap.size + 1 + 1, 10, none⟩) (Nat.le_trans (Nat.le_succ _) (Nat.le_succ _)) _)
  have HP11 : Hid (RowB w16 (w.heap.size + 1 + 1) [.int .u32 f, .int .i64 kd, .int .u32 (tn : Int), .int .u32 (tm : Int), .int .u32 (sn : Int), .int .u32 (sm : Int), .int .u32 (rn : Int), .int .u32 (rm : Int), .int .u64 (tt : Int), .int .u32 (qq : Int), .int .u64 (ll : Int)]) := by rw [hw16]; exact (HP10.out.set 10 (.int .u64 (ll : Int)))
  have HR11 : Hid (RowB w16 (w.heap.size + 1) [.int .u32 0, .int .i64 0, .int .u32 0, .int .u32 0, .int .u32 0, .int .u32 0, .int .u32 0, .int .u32 0, .int .u64 0, .int .u32 0, .int .u64 0]) := by rw [hw16]; exact (HR10.out.other (Nat.succ_ne_self _) _)
  have HS11 : Hid (w.heap.size + 3 ≤ w16.heap.size) := by rw [hw16]; show _ ≤ _; simpa using HS10.out
  have HW11 := Lib.hid hw16
  obtain ⟨p, hp⟩ : ∃ p : Pm, p = ⟨f, kd, tn, tm, sn, sm, rn, rm, tt, qq, ll⟩ := ⟨_, rfl⟩
  have HOk : Hid p.ok := by
    rw [hp]
    exact ⟨HF32.out, (epI_ok HE3.out).1, (epI_ok HE3.out).2, (epI_ok HE4.out).1, (epI_ok HE4.out).2, (epI_ok HE5.out).1, (epI_ok HE5.out).2, HT2.out, HQ2.out, hl2⟩
  have HPs : Hid (p.s = (kd : Int)) := by rw [hp]; exact rfl
  have HRd : Hid (rdPm x = rdF p r) := by
    rw [Hid, HZ.out, hp]
    simp [rdZ, HU7.out, HF.out, HK.out, HE3.out, HE4.out, HE5.out, HW6.out, HT1.out, HQ1.out, HL1.out]
  have HPP : Hid (RowB w16 (w.heap.size + 1 + 1) [.int .u32 p.f, .int .i64 p.s, .int .u32 p.tn, .int .u32 p.tm, .int .u32 p.sn, .int .u32 p.sm, .int .u32 p.rn, .int .u32 p.rm, .int .u64 p.t, .int .u32 p.q, .int .u64 p.l]) := by rw [hp]; exact HP11.out
  clear hp hl2
  have p0 := HPP.out.1 0 _ rfl
  have p1 := HPP.out.1 1 _ rfl
  have p2 := HPP.out.1 2 _ rfl
  have p3 := HPP.out.1 3 _ rfl
  have p4 := HPP.out.1 4 _ rfl
  have p5 := HPP.out.1 5 _ rfl
  have p6 := HPP.out.1 6 _ rfl
  have p7 := HPP.out.1 7 _ rfl
  have p8 := HPP.out.1 8 _ rfl
  have p9 := HPP.out.1 9 _ rfl
  have p10 := HPP.out.1 10 _ rfl
  rw [hw16] at p0 p1 p2 p3 p4 p5 p6 p7 p8 p9 p10
  clear hw16
  go_wp2_with fail
  rw [← HW11.out]
  clear q10 fq10 p0 p1 p2 p3 p4 p5 p6 p7 p8 p9 p10
  refine (prcheck_any p HOk.out w16).mono ?_
  rintro e w17 ⟨rfl, hb17⟩
  have HB12 := Lib.hid (HB11.out.trans (hb17.mono HB11.out.size))
  have HP12 := Lib.hid (HPP.out.on hb17 (by have := HS11.out; omega))
  have HR12 := Lib.hid (HR11.out.on hb17 (by have := HS11.out; omega))
  have HS12 : Hid (w.heap.size + 3 ≤ w17.heap.size) := Nat.le_trans HS11.out hb17.size
  clear hb17
  obtain ⟨er, her⟩ : ∃ er, er = p.er := ⟨_, rfl⟩
  rw [← her]
  have HER : Hid (er = if p.right = true then 0 else 2) := her
  clear her
  go_wp2_with fail
  refine (pneed_any (er == 0) _).mono ?_
  rintro e w18 ⟨rfl, ⟨rfl, h0⟩ | ⟨rfl, h0⟩⟩
  rotate_left
  · have HX : Hid (rdPm x = none) := by
      have hr : ¬ p.right = true := fun h => by rw [HER.out, if_pos h] at h0; cases h0
      rw [Hid, HRd.out, rdF, if_neg (fun h => hr h.1)]
    rw [gives_def]
    clear h0
    go_wp2_with fail
    exact ⟨rfl, HB12.out, .inr ⟨rfl, HX.out⟩⟩
  have HRi : Hid (p.right = true) := by
    cases hr : p.right with
    | true => rfl
    | false => rw [HER.out, hr] at h0; cases h0
  clear h0
  obtain ⟨A8, hcut⟩ : ∃ A8, A8 = (if C = 8 then (some (⟨g, o, none⟩ : Addr)) else (some (⟨g, o, none⟩ : Addr)).map (·.add (8 * 5))) := ⟨_, rfl⟩
  have hct : ∀ w : World, (Instr.slice 70 (.slice (some ⟨g, o, none⟩) n C) (some (.int .i64 8)) none none).run Tryz.prog w = .ok (.slice A8 (n - 8) (C - 8)) w := fun w => by
    rw [hcut]
    exact pcut_l5 (some ⟨g, o, none⟩) n C 8 (by omega) w
  have HCut := Lib.hid hcut
  obtain ⟨m, hm⟩ : ∃ m, m = n - 8 := ⟨_, rfl⟩
  rw [← hm] at hct
  have HM : Hid (m = r.length) := by have := HLen.out; rw [Hid, hm]; omega
  have hm9 : m ≤ 1000000 := by omega
  have HNM : Hid (n = 8 + m) := by have := HLen.out; have := HM.out; rw [Hid]; omega
  clear hcut hm
  have p1 := HP12.out.1 1 _ rfl
  by_cases hs0 : p.s = 0
  · have hd0 : (p.s == 0) = true := by rw [hs0]; rfl
    have HS0 := Lib.hid hs0
    clear hs0
    go_wp2_with fail
    refine (pneed_any ((m : Int) == 0) _).mono ?_
    rintro e w19 ⟨rfl, ⟨rfl, h0⟩ | ⟨rfl, h0⟩⟩
    rotate_left
    · have HX : Hid (rdPm x = none) := by
        have hb := bhB_more (k := p.s.toNat) (r := r) (fun h => by rw [HM.out, h] at h0; cases h0) (by rw [HS0.out]; rfl)
        rw [Hid, HRd.out, rdF, if_neg (fun h => by rw [hb] at h; cases h.2)]
      rw [gives_def]
      clear h0
      go_wp2_with fail
      exact ⟨rfl, HB12.out, .inr ⟨rfl, HX.out⟩⟩
    have HX : Hid (rdPm x = some p) := by
      have h1 := eq_of_beq h0
      have hr : r = [] := List.eq_nil_of_length_eq_zero (by rw [← HM.out]; omega)
      have hb : bhB p.s.toNat r = true := by rw [hr, HS0.out]; rfl
      rw [Hid, HRd.out, rdF, if_pos ⟨HRi.out, hb⟩]
    clear h0 hct p1
    have p0 := HP12.out.1 0 _ rfl
    have p1 := HP12.out.1 1 _ rfl
    have p2 := HP12.out.1 2 _ rfl
    have p3 := HP12.out.1 3 _ rfl
    have p4 := HP12.out.1 4 _ rfl
    have p5 := HP12.out.1 5 _ rfl
    have p6 := HP12.out.1 6 _ rfl
    have p7 := HP12.out.1 7 _ rfl
    have p8 := HP12.out.1 8 _ rfl
    have p9 := HP12.out.1 9 _ rfl
    have p10 := HP12.out.1 10 _ rfl
    have r0 := HR12.out.1 0 _ rfl
    have fr0 := HR12.out.2 0
    have r1 := HR12.out.1 1 _ rfl
    have fr1 := HR12.out.2 1
    have r2 := HR12.out.1 2 _ rfl
    have fr2 := HR12.out.2 2
    have r3 := HR12.out.1 3 _ rfl
    have fr3 := HR12.out.2 3
    have r4 := HR12.out.1 4 _ rfl
    have fr4 := HR12.out.2 4
    have r5 := HR12.out.1 5 _ rfl
    have fr5 := HR12.out.2 5
    have r6 := HR12.out.1 6 _ rfl
    have fr6 := HR12.out.2 6
    have r7 := HR12.out.1 7 _ rfl
    have fr7 := HR12.out.2 7
    have r8 := HR12.out.1 8 _ rfl
    have fr8 := HR12.out.2 8
    have r9 := HR12.out.1 9 _ rfl
    have fr9 := HR12.out.2 9
    have r10 := HR12.out.1 10 _ rfl
    have fr10 := HR12.out.2 10
    go_wp2_with fail
    change bodyPost _ _ _ _ _ (put11 w17 (w.heap.size + 1) p)
    obtain ⟨s0, s1, s2, s3, s4, s5, s6, s7, s8, s9, s10⟩ := put11_cells r0 r1 r2 r3 r4 r5 r6 r7 r8 r9 r10 p
    have hbk : Below w.heap.size w (put11 w17 (w.heap.size + 1) p) := put11_on HB12.out (Nat.le_succ _) p
    generalize put11 w17 (w.heap.size + 1) p = w30 at *
    refine bodyPost_ret (v := .agg #[.int .u32 p.f, .int .i64 p.s, .int .u32 p.tn, .int .u32 p.tm, .int .u32 p.sn, .int .u32 p.sm, .int .u32 p.rn, .int .u32 p.rm, .int .u64 p.t, .int .u32 p.q, .int .u64 p.l]) (by simp [results, Tryz.results62, go_sem, s0, s1, s2, s3, s4, s5, s6, s7, s8, s9, s10]) rfl ⟨hbk, .inl ⟨p, rfl, HOk.out, HRi.out, HX.out⟩⟩
  · have hd0 : (p.s == 0) = false := by simp [hs0]
    have HS0 : Hid (p.s.toNat ≠ 0) := by
      have := HPs.out
      rw [Hid]
      omega
    clear hs0
    by_cases hm1 : m = 1
    rotate_left
    · have k1 : ((m : Int) == 1) = false := by simp; omega
      have HX : Hid (rdPm x = none) := by
        have hb := bhB_two (k := p.s.toNat) (r := r) (by rw [← HM.out]; exact hm1) HS0.out
        rw [Hid, HRd.out, rdF, if_neg (fun h => by rw [hb] at h; cases h.2)]
      clear hm1
      go_wp2_with fail
      refine (pneed_any false _).mono ?_
      rintro e w19 ⟨rfl, ⟨_, h⟩ | ⟨rfl, _⟩⟩
      · cases h
      rw [gives_def]
      go_wp2_with fail
      exact ⟨rfl, HB12.out, .inr ⟨rfl, HX.out⟩⟩
    · obtain ⟨z, hz⟩ : ∃ z, r = [z] := by
        match r, HM.out with
        | [], h => exact absurd h (by rw [hm1]; simp)
        | [z], _ => exact ⟨z, rfl⟩
        | _ :: _ :: _, h => exact absurd h (by rw [hm1]; simp)
      obtain ⟨za, zc, zA, zC, kz⟩ := HRest.out z [] hz
      have hA8 : A8 = some ⟨g, o + 40, none⟩ := by
        have h1 := HNM.out
        rw [HCut.out, if_neg (by omega)]
        simp [Addr.add]
      subst hA8
      have HZZ : Hid (rdPm x = if z.k = 2 then some p else none) := by
        rw [Hid, HRd.out, rdF, hz, bhB_one HS0.out, HRi.out]
        by_cases h : z.k = 2 <;> simp [h]
      subst hm1
      obtain ⟨_, z0, z1, z2, z3, z4⟩ := kz w17 HB12.out
      clear kz hz
      go_wp2_with fail
      clear z0 z1 z2 z3 z4
      refine (pneed_any (z.k == 2) _).mono ?_
      rintro e w19 ⟨rfl, ⟨rfl, h0⟩ | ⟨rfl, h0⟩⟩
      rotate_left
      · have HX : Hid (rdPm x = none) := by
          rw [Hid, HZZ.out, if_neg]
          intro h
          rw [h] at h0
          cases h0
        rw [gives_def]
        clear h0
        go_wp2_with fail
        exact ⟨rfl, HB12.out, .inr ⟨rfl, HX.out⟩⟩
      have HX : Hid (rdPm x = some p) := by
        rw [Hid, HZZ.out, if_pos (eq_of_beq h0)]
      clear h0 hct p1
      have p0 := HP12.out.1 0 _ rfl
      have p1 := HP12.out.1 1 _ rfl
      have p2 := HP12.out.1 2 _ rfl
      have p3 := HP12.out.1 3 _ rfl
      have p4 := HP12.out.1 4 _ rfl
      have p5 := HP12.out.1 5 _ rfl
      have p6 := HP12.out.1 6 _ rfl
      have p7 := HP12.out.1 7 _ rfl
      have p8 := HP12.out.1 8 _ rfl
      have p9 := HP12.out.1 9 _ rfl
      have p10 := HP12.out.1 10 _ rfl
      have r0 := HR12.out.1 0 _ rfl
      have fr0 := HR12.out.2 0
      have r1 := HR12.out.1 1 _ rfl
      have fr1 := HR12.out.2 1
      have r2 := HR12.out.1 2 _ rfl
      have fr2 := HR12.out.2 2
      have r3 := HR12.out.1 3 _ rfl
      have fr3 := HR12.out.2 3
      have r4 := HR12.out.1 4 _ rfl
      have fr4 := HR12.out.2 4
      have r5 := HR12.out.1 5 _ rfl
      have fr5 := HR12.out.2 5
      have r6 := HR12.out.1 6 _ rfl
      have fr6 := HR12.out.2 6
      have r7 := HR12.out.1 7 _ rfl
      have fr7 := HR12.out.2 7
      have r8 := HR12.out.1 8 _ rfl
      have fr8 := HR12.out.2 8
      have r9 := HR12.out.1 9 _ rfl
      have fr9 := HR12.out.2 9
      have r10 := HR12.out.1 10 _ rfl
      have fr10 := HR12.out.2 10
      go_wp2_with fail
      change bodyPost _ _ _ _ _ (put11 w17 (w.heap.size + 1) p)
      obtain ⟨s0, s1, s2, s3, s4, s5, s6, s7, s8, s9, s10⟩ := put11_cells r0 r1 r2 r3 r4 r5 r6 r7 r8 r9 r10 p
      have hbk : Below w.heap.size w (put11 w17 (w.heap.size + 1) p) := put11_on HB12.out (Nat.le_succ _) p
      generalize put11 w17 (w.heap.size + 1) p = w30 at *
      refine bodyPost_ret (v := .agg #[.int .u32 p.f, .int .i64 p.s, .int .u32 p.tn, .int .u32 p.tm, .int .u32 p.sn, .int .u32 p.sm, .int .u32 p.rn, .int .u32 p.rm, .int .u64 p.t, .int .u32 p.q, .int .u64 p.l]) (by simp [results, Tryz.results62, go_sem, s0, s1, s2, s3, s4, s5, s6, s7, s8, s9, s10]) rfl ⟨hbk, .inl ⟨p, rfl, HOk.out, HRi.out, HX.out⟩⟩

end Go.Proofs.YtlmdbeccfoncpaaGreatDoor
