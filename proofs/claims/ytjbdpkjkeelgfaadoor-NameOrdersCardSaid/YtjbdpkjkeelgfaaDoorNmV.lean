/- The library's variables, as the rows of names list them; and what every card of names needs of the program. -/
import Derived.Test.YtjbdpkjkeelgfaaDoorNmC
import Derived.Test.YtjbdpkjkeelgfaaDoorTie
import Derived.Test.YtjbdpkjkeelgfaaDoorCards
import Derived.ProofKit
import Derived.LaidMore
import Derived.OpenShut
import Derived.Stop.Joined
import Derived.Stop.LaidErr
namespace Go.Proofs.YtjbdpkjkeelgfaaDoor
open Go.ChangeShapes Go.WideShapes Go.ChangeAt Go.RowKit

set_option maxRecDepth 100000

theorem nmOwn : ownKnob Tryd.prog.godebug = none := by kernel_rfl
theorem nmLaidOut : laidOutB Tryd.prog = true := by kernel_rfl

/-- The listed variables. -/
def nmList : List (String × DataW Unit) := Rows.nameTextsRow.laid

theorem vg0 : Tryd.prog.globalNamed "internal/strconv.uint64pow10" = some 0 := by kernel_rfl
theorem vg1 : Tryd.prog.globalNamed "strconv.ErrSyntax" = some 1 := by kernel_rfl
theorem vg2 : Tryd.prog.globalNamed "strconv.ErrRange" = some 2 := by kernel_rfl
theorem vt0 : (Tryd.prog.globals[0]?).map (·.type) = some 156 := by kernel_rfl
theorem vt1 : (Tryd.prog.globals[1]?).map (·.type) = some 128 := by kernel_rfl
theorem vt2 : (Tryd.prog.globals[2]?).map (·.type) = some 128 := by kernel_rfl
theorem vstar : "*" ++ "errors.errorString" = "*errors.errorString" := by decide
theorem vrow (u : TypeId) (h : Tryd.prog.typeName? 3 u = some "*errors.errorString") : u = 176 :=
  typeName_ptr_named (nm := "errors.errorString") (by rw [vstar]; kernel_rfl) (by kernel_rfl) (by decide) u (by rw [vstar]; exact h)

/-- The door's own heap meets the condition. -/
theorem nm_door_met (os : Os) (args : Array Value) : laidMetH Tryd.prog nmList ((World.doorLaid Tryd.prog 62 os).forCall (fun _ _ => 0) ⟨#[], args, []⟩).memory :=
  laidMetH_of_parts3 (fuel := 8) (laidMet_of_run' 8 (by kernel_rfl) (by kernel_rfl)) (by kernel_rfl) (by kernel_rfl)

theorem vtab : Rows.laid_internal_strconv_uint64pow10 (H := Unit) = Lib.tabData .u64 Lib.pow10Tab := by kernel_rfl

/-- What the condition gives the walks. -/
theorem nm_of_laid {W : World} (h : laidMetH Tryd.prog nmList W) : TabN W := by
  rw [MakeChecks.laidMetH_plain _ _ _ (by kernel_rfl)] at h
  have h3 : laidMet Tryd.prog (("internal/strconv.uint64pow10", Lib.tabData .u64 Lib.pow10Tab) :: ("strconv.ErrRange", Rows.laid_strconv_ErrRange) :: ("strconv.ErrSyntax", Rows.laid_strconv_ErrSyntax) :: []) W := by
    rw [← vtab]
    exact (laidMet.tail (laidMet.tail h))
  have h4 := laidMet.tail h3
  have h5 := laidMet.tail h4
  have c1 : Tryd.prog.cellsOf 29 = 1 := by kernel_rfl
  have c20 : Tryd.prog.cellsOf 156 = 20 := by kernel_rfl
  have ce : Tryd.prog.cellsOf 178 = 1 := by kernel_rfl
  have cs : Tryd.prog.cellsOf 9 = 1 := by kernel_rfl
  obtain ⟨a0, s0, hr, _, _, _⟩ := laid_sentinel h4 vg2 vt2 Tryd.underlying128 vrow Tryd.underlying176 Tryd.underlying178 rfl rfl Tryd.underlying9 ce cs
  obtain ⟨a1, s1, hs, _, _, _⟩ := laid_sentinel h5 vg1 vt1 Tryd.underlying128 vrow Tryd.underlying176 Tryd.underlying178 rfl rfl Tryd.underlying9 ce cs
  exact ⟨Lib.tabIs_of_head vg0 vt0 Tryd.underlying156 Tryd.underlying29 c1 c20 h3, ⟨_, _, hs⟩, ⟨_, _, hr⟩⟩

end Go.Proofs.YtjbdpkjkeelgfaaDoor
