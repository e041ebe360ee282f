/- bytes.Equal. -/
import Derived.Test.YtjbdpkjkeelgfaaDoorBase
namespace Go.Proofs.YtjbdpkjkeelgfaaDoor
open Go.RowKit Go.Shelf

set_option maxHeartbeats 1000000 in
theorem equal_any (a1 a2 : Option Addr) (n1 n2 c1 c2 : Nat) (xs ys : List UInt8) (hn1 : n1 = xs.length) (hn2 : n2 = ys.length) (w : World) (B : Nat) (h1 : RdB w B a1 xs) (h2 : RdB w B a2 ys) :
    Calls Tryd.prog 125 #[.slice a1 n1 c1, .slice a2 n2 c2] w fun e w' => e = .returned (.bool (xs == ys)) ∧ w' = w := by
  have k1 := h1.text (P := Tryd.prog) 30 9 5 n1 c1 hn1 Tryd.underlying30 Tryd.underlying5 Tryd.underlying9
  have k2 := h2.text (P := Tryd.prog) 30 9 5 n2 c2 hn2 Tryd.underlying30 Tryd.underlying5 Tryd.underlying9
  clear h1 h2 hn1 hn2
  go_enter Tryd.func125, Tryd.ntmps125
  go_wp2
  go_ret
  exact ⟨rfl, rfl⟩

end Go.Proofs.YtjbdpkjkeelgfaaDoor
