/- Package clock and its document's answers: which spans may be, which times they have. -/
import Derived.Test.YteldifnkeekafaaGreatDoorZJe
set_option maxHeartbeats 1000000
namespace Go.Proofs.YteldifnkeekafaaGreatDoor
open Go.RowKit Go.Shelf

theorem ret_bool {a b : Bool} (h : a = b) : Ending.returned (.bool a) = .returned (.bool b) := by rw [h]

def rightT (f u : Int) : Bool := decide (f ≤ u) && decide (u ≤ 4611686018427387903)

theorem ends_any (f u : Int) (w : World) :
  Calls Tryz.prog 141 #[.agg #[.int .u64 f, .int .u64 u]] w fun e w' => e = .returned (.agg #[.int .u64 f, .int .u64 u]) ∧ w' = (w.alloc (.cells #[.int .u64 f, .int .u64 u] 162)).alloc (.cells #[.int .u64 f, .int .u64 u] 185) := by
 go_enter Tryz.func141, Tryz.ntmps141
 go_wp2
 exact bodyPost_ret (v := .agg #[.int .u64 f, .int .u64 u]) (by simp [results, Tryz.results141, go_sem]) rfl ⟨rfl, rfl⟩

theorem all_two (a b : Int) : allT [a, b] 2 ↔ (isT a = true ∧ isT b = true) := by
 constructor
 ·intro h
  exact ⟨h 0 (by omega), h 1 (by omega)⟩
 ·rintro ⟨h0, h1⟩ j hj
  have : j = 0 ∨ j = 1 := by omega
  rcases this with rfl | rfl
  ·exact h0
  ·exact h1

theorem rightT_of {f u : Int} (h : allT [f, u] 2) (h2 : f ≤ u) : rightT f u = true := by
 have := ((all_two f u).1 h).2
 unfold isT at this
 unfold rightT
 simp at this ⊢
 omega

theorem rightT_not {f u : Int} (h : ¬ allT [f, u] 2) : rightT f u = false := by
 rw [all_two] at h
 unfold isT at h
 unfold rightT
 simp at h ⊢
 omega

theorem rightT_ord {f u : Int} (h : u < f) : rightT f u = false := by
 unfold rightT
 simp
 omega

theorem rdU_lit (w : World) (x y : Int) (t : TypeId) (B : Nat) (hB : w.heap.size < B) : RdU (w.alloc (.cells #[.int .u64 x, .int .u64 y] t)) B (some ⟨w.heap.size, 0, none⟩) [x, y] := by
 refine .inr ⟨w.heap.size, 0, rfl, hB, fun j hj => ?_⟩
 have : j = 0 ∨ j = 1 := by simp at hj; omega
 rcases this with rfl | rfl
 ·simp
 ·simp

theorem right_worlds (f u : Int) (w : World) (s t : TypeId) : ∃ W, W = (((w.alloc (.cells #[.int .u64 f, .int .u64 u] s)).alloc (.cells #[.int .u64 f, .int .u64 u] s)).alloc (.cells #[.int .u64 f, .int .u64 u] t)).alloc (.cells #[.int .u64 f, .int .u64 u] t) ∧
  Below w.heap.size w W ∧ W.heap.size = w.heap.size + 4 ∧ RdU W (w.heap.size + 4) (some ⟨w.heap.size + 1 + 1 + 1, 0, none⟩) [f, u] := by
 refine ⟨_, rfl, (((bR.alloc (Nat.le_refl _) _).alloc (by simp) _).alloc (by simp; omega) _).alloc (by simp; omega) _, by simp, ?_⟩
 have h := rdU_lit (((w.alloc (.cells #[.int .u64 f, .int .u64 u] s)).alloc (.cells #[.int .u64 f, .int .u64 u] s)).alloc (.cells #[.int .u64 f, .int .u64 u] t)) f u t (w.heap.size + 4) (by simp)
 simpa using h

theorem spanRight_any (f u : Int) (w : World) :
  Calls Tryz.prog 122 #[.agg #[.int .u64 f, .int .u64 u]] w fun e w' => e = .returned (.bool (rightT f u)) ∧ Below w.heap.size w w' := by
 obtain ⟨W, hW, hB, hs, hr⟩ := right_worlds f u w 162 185
 rcases hr with hr | ⟨g, o, hA, hg, hcs⟩
 ·cases hr
 cases hA
 have c0 := hcs 0 (by simp)
 have c1 := hcs 1 (by simp)
 have H := h_ (withinT_any (some ⟨w.heap.size + 1 + 1 + 1, 0, none⟩) 2 (w.heap.size + 4) [f, u] W (by simp) (.inr ⟨_, _, rfl, hg, hcs⟩))
 have HW := h_ hW
 have HB := h_ hB
 simp at c0 c1
 clear hcs hW hB hs hg
 by_cases h : f ≤ u
 ·go_enter Tryz.func122, Tryz.ntmps122
  go_wp2_with (go_at_call 141; refine (ends_any _ _ _).mono ?_; rintro e w' ⟨rfl, rfl⟩)
  rw [← HW.out]
  refine H.out.mono ?_
  rintro e w' ⟨⟨rfl, ha⟩ | ⟨rfl, ha⟩, rfl⟩
  ·have HA := h_ ha
   clear ha
   go_wp2
   go_ret
   exact ⟨ret_bool (rightT_of HA.out h).symm, HB.out⟩
  ·have HA := h_ ha
   clear ha
   go_wp2
   go_ret
   exact ⟨ret_bool (rightT_not HA.out).symm, HB.out⟩
 ·go_enter Tryz.func122, Tryz.ntmps122
  go_wp2_with (go_at_call 141; refine (ends_any _ _ _).mono ?_; rintro e w' ⟨rfl, rfl⟩)
  rw [← HW.out]
  refine H.out.mono ?_
  rintro e w' ⟨⟨rfl, ha⟩ | ⟨rfl, ha⟩, rfl⟩
  ·have HA := h_ ha
   clear ha
   go_wp2
   go_ret
   exact ⟨ret_bool (by rw [rightT_ord h]; simp; omega), HB.out⟩
  ·have HA := h_ ha
   clear ha
   go_wp2
   go_ret
   exact ⟨ret_bool (rightT_not HA.out).symm, HB.out⟩

theorem cright_any (f u : Int) (w : World) :
  Calls Tryz.prog 103 #[.agg #[.int .u64 f, .int .u64 u]] w fun e w' => e = .returned (.bool (rightT f u)) ∧ Below w.heap.size w w' := by
 go_enter Tryz.func103, Tryz.ntmps103
 go_wp2_with (go_at_call 122; refine (spanRight_any _ _ _).mono ?_; rintro e w' ⟨rfl, hb⟩)
 go_ret
 exact ⟨rfl, (bR.alloc (Nat.le_refl _) _).trans (hb.mono (by simp))⟩

end Go.Proofs.YteldifnkeekafaaGreatDoor

