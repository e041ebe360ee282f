/- Joined texts. -/
import Derived.Test.YtekeooeapiodmaaZDkM
import Derived.Test.YtekeooeapiodmaaZDkVl
import Derived.Test.YtekeooeapiodmaaZDkK
import Derived.Test.YtekeooeapiodmaaZDkE
import Derived.Test.YtekeooeapiodmaaZDkVs
import Derived.Test.YtekeooeapiodmaaZKf
namespace Go.Proofs.Ytekeooeapiodmaa
open Go Go.RowKit Go.Shelf
set_option linter.unusedSimpArgs false
set_option linter.unusedVariables false
set_option maxRecDepth 100000

attribute [local go_sem] Oper.semAt_some

end Go.Proofs.Ytekeooeapiodmaa

namespace Go.Proofs.Ytekeooeapiodmaa
open Go Go.RowKit Go.Shelf
set_option linter.unusedSimpArgs false
set_option linter.unusedVariables false
set_option maxRecDepth 100000

attribute [local go_sem] Oper.semAt_some

end Go.Proofs.Ytekeooeapiodmaa

namespace Go.Proofs.Ytekeooeapiodmaa
open Go Go.RowKit Go.Shelf
set_option linter.unusedSimpArgs false
set_option linter.unusedVariables false
set_option maxRecDepth 100000

attribute [local go_sem] Oper.semAt_some

/-- Of two, of which one is no disk, both must be none. -/
theorem same_gone (u v : Value) (n m : Nat) (w : World) (h : DkN w u n) (h2 : DkN w v m) (hz : n = 0 ∨ m = 0) :
    Calls Try.prog 18 #[u, v] w fun e w' => e = .returned (.bool ((n == 0) && (m == 0))) ∧ Below w.heap.size w w' := by
  have HU := Lib.hid h
  have HV := Lib.hid h2
  clear h h2
  by_cases hn : n = 0
  · subst hn
    go_enter Try.func18, Try.ntmps18
    go_wp2_with fail
    refine (dnone_any _ _ w HU.out).mono ?_
    rintro e w1 ⟨rfl, hw1⟩
    rw [← hw1, show ((0 : Nat) == 0) = true from rfl]
    clear hw1 w1
    go_wp2_with fail
    refine (dnone_any _ _ w HU.out).mono ?_
    rintro e w1 ⟨rfl, hw1⟩
    rw [← hw1, show ((0 : Nat) == 0) = true from rfl]
    clear hw1 w1
    go_wp2_with fail
    refine (dnone_any _ _ w HV.out).mono ?_
    rintro e w1 ⟨rfl, hw1⟩
    rw [← hw1]
    clear hw1 w1
    go_wp2_with fail
    go_ret
    exact ⟨by cases (m == 0) <;> rfl, Below.refl _ _⟩
  · have hm : m = 0 := by omega
    subst hm
    have hnb : (n == 0) = false := by simpa using hn
    have HNb := Lib.hid hnb
    clear hnb hn
    go_enter Try.func18, Try.ntmps18
    go_wp2_with fail
    refine (dnone_any _ _ w HU.out).mono ?_
    rintro e w1 ⟨rfl, hw1⟩
    rw [← hw1, HNb.out]
    clear hw1 w1
    go_wp2_with fail
    refine (dnone_any _ _ w HV.out).mono ?_
    rintro e w1 ⟨rfl, hw1⟩
    rw [← hw1, show ((0 : Nat) == 0) = true from rfl]
    clear hw1 w1
    go_wp2_with fail
    refine (dnone_any _ _ w HU.out).mono ?_
    rintro e w1 ⟨rfl, hw1⟩
    rw [← hw1, HNb.out]
    clear hw1 w1
    go_wp2_with fail
    go_ret
    exact ⟨by rw [HNb.out]; rfl, Below.refl _ _⟩

end Go.Proofs.Ytekeooeapiodmaa
