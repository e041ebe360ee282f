/- CborItems, walked. -/
import Derived.Test.YteldifnkeekafaaGreatDoorZCbH1
import Derived.Test.YteldifnkeekafaaGreatDoorZCa
import Derived.Deep.RegionHeld3
set_option maxHeartbeats 4000000
set_option linter.unusedSimpArgs false
namespace Go.Proofs.YteldifnkeekafaaGreatDoor
open Go.RowKit Go.Shelf

set_option maxRecDepth 100000 in
theorem refCheck_any (x : It) (v0 v1 v2 v3 v4 : Value) (w : World) (hv : ItV w w.heap.size (.agg #[v0, v1, v2, v3, v4]) x) (hd : x.depth ≤ 60000) (hl : x.bytes.length ≤ 1000000000) :
  Calls Tryz.prog 13 #[.agg #[v0, v1, v2, v3, v4]] w fun e w' => e = .returned (.int .i64 x.err) ∧ Below w.heap.size w w' := by
 obtain ⟨W0, hW0⟩ : ∃ W0, W0 = w.alloc (.cells #[v0, v1, v2, v3, v4] 45) := ⟨_, rfl⟩
 have HB0 : Hid (Below w.heap.size w W0) := by rw [hW0]; exact below_al bR _
 have HX : Hid (∀ w', Below W0.heap.size W0 w' → Box5 w' w.heap.size v0 v1 v2 v3 v4) := by
  intro w' h
  rw [hW0] at h
  exact box1_later w v0 v1 v2 v3 v4 _ w' h
 have HV : Hid (∀ w', Below W0.heap.size W0 w' → ItV w' w'.heap.size (.agg #[v0, v1, v2, v3, v4]) x) := fun w' h => (hv.on HB0.out).on h
 have HW0 := h_ hW0
 have HE : Hid (x.err = if x.right = true then (if 8 < x.depth then 120 else if 65536 < x.bytes.length then 3 else 0) else 2) := rfl
 have HBy := h_ (fun (h : x.right = true) w' (hb : Below W0.heap.size W0 w') => refBytes_any x (.agg #[v0, v1, v2, v3, v4]) w' h hl (HV.out w' hb))
 clear hW0 hv
 cases hr : x.right
 ·have HR := h_ hr
  have e9 : x.err = 2 := by rw [HE.out, HR.out]; rfl
  rw [e9]
  clear hr e9
  go_enter Tryz.func13, Tryz.ntmps13
  go_wp2_with fail
  rw [← HW0.out]
  refine (refRight_any x _ _ (HV.out _ bR)).mono ?_
  rintro e w1 ⟨rfl, hb1⟩
  rw [HR.out]
  go_wp2_with fail
  go_ret
  exact ⟨rfl, HB0.out.trans (hb1.mono HB0.out.size)⟩
 ·have HR := h_ hr
  rw [hr] at HE
  clear hr
  go_enter Tryz.func13, Tryz.ntmps13
  go_wp2_with fail
  rw [← HW0.out]
  refine (refRight_any x _ _ (HV.out _ bR)).mono ?_
  rintro e w1 ⟨rfl, hb1⟩
  rw [HR.out]
  have B1 := h_ hb1
  obtain ⟨d0, d1, d2, d3, d4⟩ := HX.out _ hb1
  clear hb1
  go_wp2_with fail
  refine (depth_any x _ _ (by omega) (HV.out _ B1.out)).mono ?_
  rintro e w2 ⟨rfl, hb2⟩
  have B2 := h_ (below_on B1.out hb2)
  clear d0 d1 d2 d3 d4 hb2
  obtain ⟨d0, d1, d2, d3, d4⟩ := HX.out _ B2.out
  by_cases h8 : (8 : Int) < x.depth
  ·have e9 : x.err = 120 := by rw [HE.out, if_pos trivial, if_pos (by omega)]
   have HE9 := h_ e9
   clear e9
   go_wp2_with fail
   go_ret
   exact ⟨by rw [HE9.out]; rfl, HB0.out.trans (B2.out.mono HB0.out.size)⟩
  ·go_wp2_with fail
   refine (HBy.out HR.out _ B2.out).mono ?_
   rintro e w3 ⟨v9, rfl, ho, hb3⟩
   obtain ⟨A9, C9, rfl, hC9, hr9, _⟩ := ho.bytes
   have B3 := h_ (below_on B2.out hb3)
   clear d0 d1 d2 d3 d4 hb3 ho hr9
   by_cases hx : (65536 : Int) < x.bytes.length
   ·have e9 : x.err = 3 := by rw [HE.out, if_pos trivial, if_neg (by omega), if_pos (by omega)]
    have HE9 := h_ e9
    clear e9
    go_wp2_with fail
    go_ret
    exact ⟨by rw [HE9.out]; rfl, HB0.out.trans (B3.out.mono HB0.out.size)⟩
   ·have e9 : x.err = 0 := by rw [HE.out, if_pos trivial, if_neg (by omega), if_neg (by omega)]
    have HE9 := h_ e9
    clear e9
    go_wp2_with fail
    go_ret
    exact ⟨by rw [HE9.out]; rfl, HB0.out.trans (B3.out.mono HB0.out.size)⟩

end Go.Proofs.YteldifnkeekafaaGreatDoor

