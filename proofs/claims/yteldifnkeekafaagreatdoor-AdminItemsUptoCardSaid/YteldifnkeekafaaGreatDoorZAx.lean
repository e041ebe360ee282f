/- Joined texts. -/
import Derived.Test.YteldifnkeekafaaGreatDoorZAz
import Derived.Test.YteldifnkeekafaaGreatDoorZAs
import Derived.Test.YteldifnkeekafaaGreatDoorZAc
import Derived.Test.YteldifnkeekafaaGreatDoorZCa
set_option linter.unusedSimpArgs false
set_option linter.unusedVariables false
set_option maxRecDepth 100000
namespace Go.Proofs.YteldifnkeekafaaGreatDoor
open Go Go.RowKit Go.Shelf

attribute [local go_sem] Oper.semAt_some

theorem right_parts {r : Rc} (h : rightR r = true) : (1 ≤ r.k ∧ r.k ≤ 5) ∧ (r.k = 1 → r.name.may = true) := by
 simp only [rightR, rightRc, tailR, Bool.and_eq_true, decide_eq_true_eq] at h
 refine ⟨⟨h.1, h.2.1⟩, fun hk => ?_⟩
 have := h.2.2.2.2.2.2
 rw [if_pos hk] at this
 simp only [Bool.and_eq_true] at this
 exact this.1

theorem right_item {r : Rc} (hok : r.ok) (h : rightR r = true) : itemR r = some (layR r.k.toNat r) := by
 have h1 := itemR_right r hok
 rw [h] at h1
 obtain ⟨x, hx⟩ := Option.isSome_iff_exists.1 h1
 have hx0 := hx
 unfold itemR at hx
 split at hx
 ·split at hx
  ·injection hx with hx
   rw [hx0, ← hx]
  ·cases hx
 ·cases hx

theorem err_right {x : It} (h : x.err = 0) : x.right = true := by
 rw [It.err] at h
 split at h
 ·assumption
 ·cases h

end Go.Proofs.YteldifnkeekafaaGreatDoor
