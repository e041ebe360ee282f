/- Package name's order of names. -/
import Derived.Test.YtjbdpkjkeelgfaaDoorBase
import Derived.Deep.RegionHeld3
import Derived.Sort.Grow
import Derived.Lib.Hide
namespace Go.Proofs.YtjbdpkjkeelgfaaDoor
open Go Go.RowKit Go.Shelf Go.Sort
set_option linter.unusedSimpArgs false
set_option linter.unusedVariables false

/-- What cmp.Compare answers. -/
def cmpT (x y : Int) : Int := if x < y then -1 else if y < x then 1 else 0

set_option maxHeartbeats 1000000 in
theorem isNaN_any (x : Int) (w : World) :
    Calls Tryd.prog 92 #[.int .u64 x] w fun e w' => e = .returned (.bool false) ∧ w = w' := by
  go_enter Tryd.func92, Tryd.ntmps92
  go_wp2
  go_ret
  exact ⟨rfl, rfl⟩

set_option maxHeartbeats 1000000 in
theorem cmp_any (x y : Int) (w : World) :
    Calls Tryd.prog 82 #[.int .u64 x, .int .u64 y] w fun e w' => e = .returned (.int .i64 (cmpT x y)) ∧ w = w' := by
  unfold cmpT
  by_cases h1 : x < y
  · go_enter Tryd.func82, Tryd.ntmps82
    go_wp2_with (go_at_call 92; refine (isNaN_any _ _).mono ?_; rintro e w' ⟨rfl, rfl⟩)
    go_ret
    exact ⟨by simp [h1], rfl⟩
  · by_cases h2 : y < x
    · go_enter Tryd.func82, Tryd.ntmps82
      go_wp2_with (go_at_call 92; refine (isNaN_any _ _).mono ?_; rintro e w' ⟨rfl, rfl⟩)
      go_ret
      exact ⟨by simp [h1, h2], rfl⟩
    · go_enter Tryd.func82, Tryd.ntmps82
      go_wp2_with (go_at_call 92; refine (isNaN_any _ _).mono ?_; rintro e w' ⟨rfl, rfl⟩)
      go_ret
      exact ⟨by simp [h1, h2], rfl⟩

/-- What has come of w by draws and new blocks alone. -/
def GrownQ (w w' : World) : Prop := ∃ q os, w' = grow (w.drewN q) os

theorem drewN_grow (w : World) (os : Array Obj) (q : Nat) : (grow w os).drewN q = grow (w.drewN q) os := rfl

theorem GrownQ.refl (w : World) : GrownQ w w := ⟨0, #[], by rw [grow_empty]; rfl⟩
theorem GrownQ.drew {w w' : World} (h : GrownQ w w') (n : Nat) : GrownQ w (w'.drewN n) := by
  obtain ⟨q, os, rfl⟩ := h
  exact ⟨q + n, os, by rw [drewN_grow, World.drewN_drewN]⟩
theorem GrownQ.drew1 {w w' : World} (h : GrownQ w w') : GrownQ w w'.drew := h.drew 1
theorem GrownQ.alloc {w w' : World} (h : GrownQ w w') (o : Obj) : GrownQ w (w'.alloc o) := by
  obtain ⟨q, os, rfl⟩ := h
  exact ⟨q, os ++ #[o], by rw [alloc_eq_grow, grow_grow]⟩

theorem GrownQ.trans {a b c : World} (h : GrownQ a b) (k : GrownQ b c) : GrownQ a c := by
  obtain ⟨q, os, rfl⟩ := h
  obtain ⟨p, os', rfl⟩ := k
  exact ⟨q + p, os ++ os', by rw [drewN_grow, grow_grow, World.drewN_drewN]⟩
theorem GrownQ.cell {w w' : World} (h : GrownQ w w') {a : Addr} (ha : a.block < w.heap.size) : w'.cell? a = w.cell? a := by
  obtain ⟨q, os, rfl⟩ := h
  refine World.cell?_of_block ?_
  show ((w.drewN q).heap ++ os)[a.block]? = _
  rw [Array.getElem?_append_left (by simpa using ha)]
  rfl
theorem GrownQ.below {w w' : World} (h : GrownQ w w') : Below w.heap.size w w' := by
  obtain ⟨q, os, rfl⟩ := h
  refine ⟨rfl, rfl, rfl, by simp [grow], fun b hb => ?_⟩
  show ((w.drewN q).heap ++ os)[b]? = w.heap[b]?
  exact Array.getElem?_append_left hb

/-- Which name is ahead. -/
def ordN (x y : Int × Int × Int × Int) : Int :=
  if cmpT x.1 y.1 ≠ 0 then cmpT x.1 y.1 else if cmpT x.2.1 y.2.1 ≠ 0 then cmpT x.2.1 y.2.1 else if cmpT x.2.2.1 y.2.2.1 ≠ 0 then cmpT x.2.2.1 y.2.2.1 else cmpT x.2.2.2 y.2.2.2

/-- Numbers of 32 bits. -/
def N32 (n : Int) : Prop := 0 ≤ n ∧ n ≤ 4294967295

theorem part0_any (x0 x1 x2 x3 : Int) (h : N32 x0) (w : World) :
    Calls Tryd.prog 60 #[.agg #[.int .u32 x0, .int .u32 x1, .int .u64 x2, .int .u32 x3]] w fun e w' => e = .returned (.int .u64 x0) ∧ w' = w.alloc (.cells #[.int .u32 x0, .int .u32 x1, .int .u64 x2, .int .u32 x3] 101) := by
  have hw : IntKind.u64.wrap x0 = x0 := by rw [IntKind.wrap_u64]; have h1 := h.1; have h2 := h.2; omega
  clear h
  go_enter Tryd.func60, Tryd.ntmps60
  go_wp2
  go_ret
  exact ⟨rfl, rfl⟩

theorem part1_any (x0 x1 x2 x3 : Int) (h : N32 x1) (w : World) :
    Calls Tryd.prog 61 #[.agg #[.int .u32 x0, .int .u32 x1, .int .u64 x2, .int .u32 x3]] w fun e w' => e = .returned (.int .u64 x1) ∧ w' = w.alloc (.cells #[.int .u32 x0, .int .u32 x1, .int .u64 x2, .int .u32 x3] 101) := by
  have hw : IntKind.u64.wrap x1 = x1 := by rw [IntKind.wrap_u64]; have h1 := h.1; have h2 := h.2; omega
  clear h
  go_enter Tryd.func61, Tryd.ntmps61
  go_wp2
  go_ret
  exact ⟨rfl, rfl⟩

theorem part2_any (x0 x1 x2 x3 : Int) (w : World) :
    Calls Tryd.prog 62 #[.agg #[.int .u32 x0, .int .u32 x1, .int .u64 x2, .int .u32 x3]] w fun e w' => e = .returned (.int .u64 x2) ∧ w' = w.alloc (.cells #[.int .u32 x0, .int .u32 x1, .int .u64 x2, .int .u32 x3] 101) := by
  go_enter Tryd.func62, Tryd.ntmps62
  go_wp2
  go_ret
  exact ⟨rfl, rfl⟩

theorem part3_any (x0 x1 x2 x3 : Int) (h : N32 x3) (w : World) :
    Calls Tryd.prog 63 #[.agg #[.int .u32 x0, .int .u32 x1, .int .u64 x2, .int .u32 x3]] w fun e w' => e = .returned (.int .u64 x3) ∧ w' = w.alloc (.cells #[.int .u32 x0, .int .u32 x1, .int .u64 x2, .int .u32 x3] 101) := by
  have hw : IntKind.u64.wrap x3 = x3 := by rw [IntKind.wrap_u64]; have h1 := h.1; have h2 := h.2; omega
  clear h
  go_enter Tryd.func63, Tryd.ntmps63
  go_wp2
  go_ret
  exact ⟨rfl, rfl⟩

set_option maxRecDepth 100000 in
set_option maxHeartbeats 8000000 in
theorem orderf_any (a0 a1 a2 a3 b0 b1 b2 b3 : Int) (ha : N32 a0 ∧ N32 a1 ∧ N32 a3) (hb : N32 b0 ∧ N32 b1 ∧ N32 b3) (g : Nat) (w : World) (hg : g < w.heap.size) (hf : ∀ w', w' = w → w'.cell? ⟨g, 0, none⟩ = some (.func (.func 60) #[] #[]) ∧ w'.cell? ⟨g, 1, none⟩ = some (.func (.func 61) #[] #[]) ∧ w'.cell? ⟨g, 2, none⟩ = some (.func (.func 62) #[] #[]) ∧ w'.cell? ⟨g, 3, none⟩ = some (.func (.func 63) #[] #[])) :
    Calls Tryd.prog 59 #[.agg #[.int .u32 a0, .int .u32 a1, .int .u64 a2, .int .u32 a3], .agg #[.int .u32 b0, .int .u32 b1, .int .u64 b2, .int .u32 b3], .slice (some ⟨g, 0, none⟩) 4 4] w fun e w' => e = .returned (.int .i64 (ordN (a0, a1, a2, a3) (b0, b1, b2, b3))) ∧ GrownQ w w' := by
  obtain ⟨W0, hW0⟩ : ∃ W0, W0 = (w.alloc (.cells #[.int .u32 a0, .int .u32 a1, .int .u64 a2, .int .u32 a3] 101)).alloc (.cells #[.int .u32 b0, .int .u32 b1, .int .u64 b2, .int .u32 b3] 101) := ⟨_, rfl⟩
  have HG0 : Hid (GrownQ w W0) := by rw [hW0]; exact ((GrownQ.refl w).alloc _).alloc _
  have hs0 : W0.heap.size = w.heap.size + 2 := by rw [hW0]; simp
  have c0 : W0.cell? ⟨w.heap.size, 0, none⟩ = some (.int .u32 a0) := by rw [hW0]; simp
  have c1 : W0.cell? ⟨w.heap.size, 1, none⟩ = some (.int .u32 a1) := by rw [hW0]; simp
  have c2 : W0.cell? ⟨w.heap.size, 2, none⟩ = some (.int .u64 a2) := by rw [hW0]; simp
  have c3 : W0.cell? ⟨w.heap.size, 3, none⟩ = some (.int .u32 a3) := by rw [hW0]; simp
  have d0 : W0.cell? ⟨w.heap.size + 1, 0, none⟩ = some (.int .u32 b0) := by rw [hW0]; simp
  have d1 : W0.cell? ⟨w.heap.size + 1, 1, none⟩ = some (.int .u32 b1) := by rw [hW0]; simp
  have d2 : W0.cell? ⟨w.heap.size + 1, 2, none⟩ = some (.int .u64 b2) := by rw [hW0]; simp
  have d3 : W0.cell? ⟨w.heap.size + 1, 3, none⟩ = some (.int .u32 b3) := by rw [hW0]; simp
  have HELD : Hid (∀ w', GrownQ W0 w' → ((w'.cell? ⟨w.heap.size, 0, none⟩ = some (.int .u32 a0) ∧ w'.cell? ⟨w.heap.size, 1, none⟩ = some (.int .u32 a1) ∧ w'.cell? ⟨w.heap.size, 2, none⟩ = some (.int .u64 a2) ∧ w'.cell? ⟨w.heap.size, 3, none⟩ = some (.int .u32 a3)) ∧ (w'.cell? ⟨w.heap.size + 1, 0, none⟩ = some (.int .u32 b0) ∧ w'.cell? ⟨w.heap.size + 1, 1, none⟩ = some (.int .u32 b1) ∧ w'.cell? ⟨w.heap.size + 1, 2, none⟩ = some (.int .u64 b2) ∧ w'.cell? ⟨w.heap.size + 1, 3, none⟩ = some (.int .u32 b3))) ∧ GrownQ W0 w') :=
    fun w' h => ⟨⟨⟨(h.cell (by simp; omega)).trans c0, (h.cell (by simp; omega)).trans c1, (h.cell (by simp; omega)).trans c2, (h.cell (by simp; omega)).trans c3⟩, (h.cell (by simp; omega)).trans d0, (h.cell (by simp; omega)).trans d1, (h.cell (by simp; omega)).trans d2, (h.cell (by simp; omega)).trans d3⟩, h⟩
  obtain ⟨g0, g1, g2, g3⟩ := hf w rfl
  have HFN : Hid (∀ w', GrownQ W0 w' → w'.cell? ⟨g, 0, none⟩ = some (.func (.func 60) #[] #[]) ∧ w'.cell? ⟨g, 1, none⟩ = some (.func (.func 61) #[] #[]) ∧ w'.cell? ⟨g, 2, none⟩ = some (.func (.func 62) #[] #[]) ∧ w'.cell? ⟨g, 3, none⟩ = some (.func (.func 63) #[] #[])) := fun w' h => by
    have hh : ∀ i, w'.cell? ⟨g, i, none⟩ = w.cell? ⟨g, i, none⟩ := fun i => (h.cell (by simp; omega)).trans (HG0.out.cell (by simp; omega))
    exact ⟨(hh 0).trans g0, (hh 1).trans g1, (hh 2).trans g2, (hh 3).trans g3⟩
  have HW0 := Lib.hid hW0
  obtain ⟨ha0, ha1, ha3⟩ := ha
  obtain ⟨hb0, hb1, hb3⟩ := hb
  have Pa0 := Lib.hid (part0_any a0 a1 a2 a3 ha0)
  have Pb0 := Lib.hid (part0_any b0 b1 b2 b3 hb0)
  have Pa1 := Lib.hid (part1_any a0 a1 a2 a3 ha1)
  have Pb1 := Lib.hid (part1_any b0 b1 b2 b3 hb1)
  have Pa2 := Lib.hid (part2_any a0 a1 a2 a3)
  have Pb2 := Lib.hid (part2_any b0 b1 b2 b3)
  have Pa3 := Lib.hid (part3_any a0 a1 a2 a3 ha3)
  have Pb3 := Lib.hid (part3_any b0 b1 b2 b3 hb3)
  obtain ⟨r0, hr0⟩ : ∃ r, r = cmpT a0 b0 := ⟨_, rfl⟩
  have HR0 := Lib.hid hr0
  have HCm0 : Hid (∀ w, Calls Tryd.prog 82 #[.int .u64 a0, .int .u64 b0] w fun e w' => e = .returned (.int .i64 r0) ∧ w = w') := by rw [hr0]; exact fun w => cmp_any a0 b0 w
  obtain ⟨r1, hr1⟩ : ∃ r, r = cmpT a1 b1 := ⟨_, rfl⟩
  have HR1 := Lib.hid hr1
  have HCm1 : Hid (∀ w, Calls Tryd.prog 82 #[.int .u64 a1, .int .u64 b1] w fun e w' => e = .returned (.int .i64 r1) ∧ w = w') := by rw [hr1]; exact fun w => cmp_any a1 b1 w
  obtain ⟨r2, hr2⟩ : ∃ r, r = cmpT a2 b2 := ⟨_, rfl⟩
  have HR2 := Lib.hid hr2
  have HCm2 : Hid (∀ w, Calls Tryd.prog 82 #[.int .u64 a2, .int .u64 b2] w fun e w' => e = .returned (.int .i64 r2) ∧ w = w') := by rw [hr2]; exact fun w => cmp_any a2 b2 w
  obtain ⟨r3, hr3⟩ : ∃ r, r = cmpT a3 b3 := ⟨_, rfl⟩
  have HR3 := Lib.hid hr3
  have HCm3 : Hid (∀ w, Calls Tryd.prog 82 #[.int .u64 a3, .int .u64 b3] w fun e w' => e = .returned (.int .i64 r3) ∧ w = w') := by rw [hr3]; exact fun w => cmp_any a3 b3 w
  clear hW0 c0 c1 c2 c3 d0 d1 d2 d3 g0 g1 g2 g3 ha0 ha1 ha3 hb0 hb1 hb3 hr0 hr1 hr2 hr3 hf
  go_enter Tryd.func59, Tryd.ntmps59
  go_wp2_with fail
  rw [← HW0.out]
  refine wp_loop_rounds 5 ?_
  have GW := Lib.hid (GrownQ.refl W0)
  have WW : W0.heap.size = W0.heap.size := rfl
  clear WW
  rw [rounds_succ]
  obtain ⟨y0, y1, y2, y3⟩ := HFN.out W0 GW.out
  have F0 : GrownQ W0 W0.drew := GW.out.drew1
  go_wp2_with fail
  clear y0 y1 y2 y3
  go_region_held3 (fun w' => ((w'.cell? ⟨w.heap.size, 0, none⟩ = some (.int .u32 a0) ∧ w'.cell? ⟨w.heap.size, 1, none⟩ = some (.int .u32 a1) ∧ w'.cell? ⟨w.heap.size, 2, none⟩ = some (.int .u64 a2) ∧ w'.cell? ⟨w.heap.size, 3, none⟩ = some (.int .u32 a3)) ∧ (w'.cell? ⟨w.heap.size + 1, 0, none⟩ = some (.int .u32 b0) ∧ w'.cell? ⟨w.heap.size + 1, 1, none⟩ = some (.int .u32 b1) ∧ w'.cell? ⟨w.heap.size + 1, 2, none⟩ = some (.int .u64 b2) ∧ w'.cell? ⟨w.heap.size + 1, 3, none⟩ = some (.int .u32 b3))) ∧ GrownQ W0 w')
    (first | (refine HELD.out _ ?_; with_reducible exact F0) | (refine HELD.out _ ?_; with_reducible exact F1) | (refine HELD.out _ ?_; with_reducible exact F2) | (refine HELD.out _ ?_; with_reducible exact F3))
    (first
      | (go_at_call 60; (with_reducible refine (Pa0.out _).mono ?_); rintro e w2 ⟨rfl, hw2⟩; have F1 : GrownQ W0 w2 := hw2 ▸ F0.alloc _; clear hw2)
      | (go_at_call 60; (with_reducible refine (Pb0.out _).mono ?_); rintro e w3 ⟨rfl, hw3⟩; have F2 : GrownQ W0 w3 := hw3 ▸ F1.alloc _; clear hw3)
      | (go_at_call 82; (with_reducible refine (HCm0.out _).mono ?_); rintro e w4 ⟨rfl, rfl⟩))
  rename_i hHeld
  have HG1 := Lib.hid hHeld.2
  clear hHeld F0 F1 F2
  by_cases h0 : r0 = 0
  · subst h0
    go_wp2_with fail
    rw [rounds_succ]
    obtain ⟨y0, y1, y2, y3⟩ := HFN.out w3 HG1.out
    have F0 : GrownQ W0 w3.drew := HG1.out.drew1
    go_wp2_with fail
    clear y0 y1 y2 y3
    go_region_held3 (fun w' => ((w'.cell? ⟨w.heap.size, 0, none⟩ = some (.int .u32 a0) ∧ w'.cell? ⟨w.heap.size, 1, none⟩ = some (.int .u32 a1) ∧ w'.cell? ⟨w.heap.size, 2, none⟩ = some (.int .u64 a2) ∧ w'.cell? ⟨w.heap.size, 3, none⟩ = some (.int .u32 a3)) ∧ (w'.cell? ⟨w.heap.size + 1, 0, none⟩ = some (.int .u32 b0) ∧ w'.cell? ⟨w.heap.size + 1, 1, none⟩ = some (.int .u32 b1) ∧ w'.cell? ⟨w.heap.size + 1, 2, none⟩ = some (.int .u64 b2) ∧ w'.cell? ⟨w.heap.size + 1, 3, none⟩ = some (.int .u32 b3))) ∧ GrownQ W0 w')
      (first | (refine HELD.out _ ?_; with_reducible exact F0) | (refine HELD.out _ ?_; with_reducible exact F1) | (refine HELD.out _ ?_; with_reducible exact F2) | (refine HELD.out _ ?_; with_reducible exact F3))
      (first
        | (go_at_call 61; (with_reducible refine (Pa1.out _).mono ?_); rintro e w2 ⟨rfl, hw2⟩; have F1 : GrownQ W0 w2 := hw2 ▸ F0.alloc _; clear hw2)
        | (go_at_call 61; (with_reducible refine (Pb1.out _).mono ?_); rintro e w3 ⟨rfl, hw3⟩; have F2 : GrownQ W0 w3 := hw3 ▸ F1.alloc _; clear hw3)
        | (go_at_call 82; (with_reducible refine (HCm1.out _).mono ?_); rintro e w4 ⟨rfl, rfl⟩))
    rename_i hHeld
    have HG2 := Lib.hid hHeld.2
    clear hHeld F0 F1 F2
    by_cases h1 : r1 = 0
    · subst h1
      go_wp2_with fail
      rw [rounds_succ]
      obtain ⟨y0, y1, y2, y3⟩ := HFN.out w3 HG2.out
      have F0 : GrownQ W0 w3.drew := HG2.out.drew1
      go_wp2_with fail
      clear y0 y1 y2 y3
      go_region_held3 (fun w' => ((w'.cell? ⟨w.heap.size, 0, none⟩ = some (.int .u32 a0) ∧ w'.cell? ⟨w.heap.size, 1, none⟩ = some (.int .u32 a1) ∧ w'.cell? ⟨w.heap.size, 2, none⟩ = some (.int .u64 a2) ∧ w'.cell? ⟨w.heap.size, 3, none⟩ = some (.int .u32 a3)) ∧ (w'.cell? ⟨w.heap.size + 1, 0, none⟩ = some (.int .u32 b0) ∧ w'.cell? ⟨w.heap.size + 1, 1, none⟩ = some (.int .u32 b1) ∧ w'.cell? ⟨w.heap.size + 1, 2, none⟩ = some (.int .u64 b2) ∧ w'.cell? ⟨w.heap.size + 1, 3, none⟩ = some (.int .u32 b3))) ∧ GrownQ W0 w')
        (first | (refine HELD.out _ ?_; with_reducible exact F0) | (refine HELD.out _ ?_; with_reducible exact F1) | (refine HELD.out _ ?_; with_reducible exact F2) | (refine HELD.out _ ?_; with_reducible exact F3))
        (first
          | (go_at_call 62; (with_reducible refine (Pa2.out _).mono ?_); rintro e w2 ⟨rfl, hw2⟩; have F1 : GrownQ W0 w2 := hw2 ▸ F0.alloc _; clear hw2)
          | (go_at_call 62; (with_reducible refine (Pb2.out _).mono ?_); rintro e w3 ⟨rfl, hw3⟩; have F2 : GrownQ W0 w3 := hw3 ▸ F1.alloc _; clear hw3)
          | (go_at_call 82; (with_reducible refine (HCm2.out _).mono ?_); rintro e w4 ⟨rfl, rfl⟩))
      rename_i hHeld
      have HG3 := Lib.hid hHeld.2
      clear hHeld F0 F1 F2
      by_cases h2 : r2 = 0
      · subst h2
        go_wp2_with fail
        rw [rounds_succ]
        obtain ⟨y0, y1, y2, y3⟩ := HFN.out w3 HG3.out
        have F0 : GrownQ W0 w3.drew := HG3.out.drew1
        go_wp2_with fail
        clear y0 y1 y2 y3
        go_region_held3 (fun w' => ((w'.cell? ⟨w.heap.size, 0, none⟩ = some (.int .u32 a0) ∧ w'.cell? ⟨w.heap.size, 1, none⟩ = some (.int .u32 a1) ∧ w'.cell? ⟨w.heap.size, 2, none⟩ = some (.int .u64 a2) ∧ w'.cell? ⟨w.heap.size, 3, none⟩ = some (.int .u32 a3)) ∧ (w'.cell? ⟨w.heap.size + 1, 0, none⟩ = some (.int .u32 b0) ∧ w'.cell? ⟨w.heap.size + 1, 1, none⟩ = some (.int .u32 b1) ∧ w'.cell? ⟨w.heap.size + 1, 2, none⟩ = some (.int .u64 b2) ∧ w'.cell? ⟨w.heap.size + 1, 3, none⟩ = some (.int .u32 b3))) ∧ GrownQ W0 w')
          (first | (refine HELD.out _ ?_; with_reducible exact F0) | (refine HELD.out _ ?_; with_reducible exact F1) | (refine HELD.out _ ?_; with_reducible exact F2) | (refine HELD.out _ ?_; with_reducible exact F3))
          (first
            | (go_at_call 63; (with_reducible refine (Pa3.out _).mono ?_); rintro e w2 ⟨rfl, hw2⟩; have F1 : GrownQ W0 w2 := hw2 ▸ F0.alloc _; clear hw2)
            | (go_at_call 63; (with_reducible refine (Pb3.out _).mono ?_); rintro e w3 ⟨rfl, hw3⟩; have F2 : GrownQ W0 w3 := hw3 ▸ F1.alloc _; clear hw3)
            | (go_at_call 82; (with_reducible refine (HCm3.out _).mono ?_); rintro e w4 ⟨rfl, rfl⟩))
        rename_i hHeld
        have HG4 := Lib.hid hHeld.2
        clear hHeld F0 F1 F2
        by_cases h3 : r3 = 0
        · subst h3
          go_wp2_with fail
          rw [rounds_succ]
          go_wp2_with fail
          go_ret
          exact ⟨by simp [ordN, ← HR0.out, ← HR1.out, ← HR2.out, ← HR3.out], HG0.out.trans HG4.out⟩
        · go_wp2_with fail
          go_ret
          exact ⟨by simp [ordN, ← HR0.out, ← HR1.out, ← HR2.out, ← HR3.out, h3], HG0.out.trans HG4.out⟩
      · go_wp2_with fail
        go_ret
        exact ⟨by simp [ordN, ← HR0.out, ← HR1.out, ← HR2.out, h2], HG0.out.trans HG3.out⟩
    · go_wp2_with fail
      go_ret
      exact ⟨by simp [ordN, ← HR0.out, ← HR1.out, h1], HG0.out.trans HG2.out⟩
  · go_wp2_with fail
    go_ret
    exact ⟨by simp [ordN, ← HR0.out, h0], HG0.out.trans HG1.out⟩

end Go.Proofs.YtjbdpkjkeelgfaaDoor
