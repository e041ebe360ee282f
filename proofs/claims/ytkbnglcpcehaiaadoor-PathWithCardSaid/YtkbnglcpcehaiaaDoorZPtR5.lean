/- PathWith, walked. -/
import Derived.Test.YtkbnglcpcehaiaaDoorZPtR2
import Derived.Test.YtkbnglcpcehaiaaDoorZPtR3
import Derived.Test.YtkbnglcpcehaiaaDoorZPtR4
namespace Go.Proofs.YtkbnglcpcehaiaaDoor
open Go Go.RowKit Go.Shelf

theorem walk_pathWith (bk : Bool) (a : Option Addr) (c : Nat) (xs : List Cr) (x : Cr) (w : World) (hcap : xs.length ≤ c) (hbig : xs.length ≤ 140737488351232) (hr : RdX w w.heap.size a xs) (ht : TabW w) :
    Calls Tryd.prog 3 #[.agg #[.bool bk, .slice a xs.length c], .agg #[.int .u32 x.1.toNat, .bool x.2]] w fun e w' => e = .returned (.bool true) ∧ Below w.heap.size w w' := by
  by_cases h100 : 100 < xs.length
  · exact pathWith_long bk a c xs x w hcap hr ht hbig h100
  · have h : xs.length ≤ 100 := by omega
    cases hq : rightX xs
    · exact pathWith_badno bk a c xs x w hcap hr ht h hq
    · by_cases hE : wiE xs x = 0
      · exact pathWith_goodyes bk a c xs x w hcap hr ht h hq hE
      · exact pathWith_goodno bk a c xs x w hcap hr ht h hq _ rfl hE

end Go.Proofs.YtkbnglcpcehaiaaDoor
