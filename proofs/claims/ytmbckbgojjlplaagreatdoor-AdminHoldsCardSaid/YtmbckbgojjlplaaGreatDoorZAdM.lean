/- AdminHolds, walked. -/
import Derived.Test.YtmbckbgojjlplaaGreatDoorZAdM1
import Derived.Test.YtmbckbgojjlplaaGreatDoorZAdM2
import Derived.Test.YtmbckbgojjlplaaGreatDoorZAdM3
set_option linter.unusedSimpArgs false
set_option linter.unusedVariables false
set_option maxRecDepth 100000
namespace Go.Proofs.YtmbckbgojjlplaaGreatDoor
open Go Go.RowKit Go.Shelf

attribute [local go_sem] Oper.semAt_some

theorem walk_aholds (x y : Rc) (hx : x.ok) (hy : y.ok) (w : World) (ht : TabW w) : Calls Tryz.prog 8 #[.agg #[.int .i64 x.k, .int .u32 x.n, .int .u32 x.m, .int .u64 x.t, .int .u32 x.q, .int .i64 x.wh, .int .i64 x.wy, .int .u64 x.at0, .int .u64 x.no, .int .u32 x.nd, .int .u32 x.rg, .bool x.ys, .int .u64 x.fr, .int .u64 x.un, .int .u8 x.lv], .agg #[.int .i64 y.k, .int .u32 y.n, .int .u32 y.m, .int .u64 y.t, .int .u32 y.q, .int .i64 y.wh, .int .i64 y.wy, .int .u64 y.at0, .int .u64 y.no, .int .u32 y.nd, .int .u32 y.rg, .bool y.ys, .int .u64 y.fr, .int .u64 y.un, .int .u8 y.lv]] w fun e w' => e = .returned (.bool true) ∧ Below w.heap.size w w' := by
 cases h1 : itemR x with
 | none => exact walk_ah1 x y hx hy h1 w ht
 | some z => cases h2 : itemR y with
  | none => exact walk_ah2 x y hx hy ⟨z, h1⟩ h2 w ht
  | some z2 => exact walk_ah3 x y hx hy ⟨z, h1⟩ ⟨z2, h2⟩ w ht

end Go.Proofs.YtmbckbgojjlplaaGreatDoor

