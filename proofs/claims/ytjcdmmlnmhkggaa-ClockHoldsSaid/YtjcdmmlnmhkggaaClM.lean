/- Clock's statements: the walk of the stage's theorem, all cases. -/
import Derived.Test.YtjcdmmlnmhkggaaClKL1
import Derived.Test.YtjcdmmlnmhkggaaClKL2
import Derived.Test.YtjcdmmlnmhkggaaClKL3
import Derived.Test.YtjcdmmlnmhkggaaClKL4
import Derived.Test.YtjcdmmlnmhkggaaClKL5
namespace Go.Proofs.Ytjcdmmlnmhkggaa
open Go.RowKit Go.Shelf

theorem walk_clockHolds (n0 n1 n2 f u r : Int) (w : World) (hn0 : 0 ≤ n0) (hn1 : 0 ≤ n1) (hn2 : 0 ≤ n2) (hf : W64 f) (hr : W64 r) :
    Calls Try.prog 6 #[.agg #[.int .u64 n0, .int .u64 n1, .int .u64 n2], .agg #[.int .u64 f, .int .u64 u], .int .u64 r] w fun e w' => e = .returned (.bool true) ∧ Below w.heap.size w w' := by
  cases hR : rightT f u
  · by_cases hlt : addT n0 n1 < 4611686018427387903
    · exact holds_ltR n0 n1 n2 f u r w hn0 hn1 hn2 hf hr hlt hR
    · exact holds_geR n0 n1 n2 f u r w hn0 hn1 hn2 hf hr hlt hR
  · have hu := (rightT_iff hR).2
    rcases car_cases f u r hf hr hR with hc | ⟨hfu, h1⟩ | ⟨hfu, h1, h2, h3, o1, h4, O1⟩ | ⟨hfu, h1, h2, h3, o1, o2, h4, h5, O1, O2⟩
    · by_cases hfu : f < u
      · by_cases hlt : addT n0 n1 < 4611686018427387903
        · exact holds_ltZ n0 n1 n2 f u r w hn0 hn1 hn2 hf hr hlt hR hfu hc
        · exact holds_geZ n0 n1 n2 f u r w hn0 hn1 hn2 hf hr hlt hR hfu hc
      · by_cases hlt : addT n0 n1 < 4611686018427387903
        · exact holds_ltE n0 n1 n2 f u r w hn0 hn1 hn2 hf hr hlt hR hfu hc
        · exact holds_geE n0 n1 n2 f u r w hn0 hn1 hn2 hf hr hlt hR hfu hc
    · by_cases hlt : addT n0 n1 < 4611686018427387903
      · exact holds_ltT n0 n1 n2 f u r w hn0 hn1 hn2 hf hr hlt hR hfu h1
      · exact holds_geT n0 n1 n2 f u r w hn0 hn1 hn2 hf hr hlt hR hfu h1
    · by_cases hlt : addT n0 n1 < 4611686018427387903
      · exact holds_ltU n0 n1 n2 f u r w hn0 hn1 hn2 hf hr hlt hR hfu h1 h2 (by omega) o1 h4 O1
      · exact holds_geU n0 n1 n2 f u r w hn0 hn1 hn2 hf hr hlt hR hfu h1 h2 (by omega) o1 h4 O1
    · by_cases hlt : addT n0 n1 < 4611686018427387903
      · exact holds_ltV n0 n1 n2 f u r w hn0 hn1 hn2 hf hr hlt hR hfu h1 h2 h3 o1 o2 h4 h5 O1 O2
      · exact holds_geV n0 n1 n2 f u r w hn0 hn1 hn2 hf hr hlt hR hfu h1 h2 h3 o1 o2 h4 h5 O1 O2

end Go.Proofs.Ytjcdmmlnmhkggaa
