/- The table of ranks, as the row lists it; and what the card needs of the program. -/
import Derived.Test.YthfndphngeaihaaDoorRkK
import Derived.Test.YthfndphngeaihaaDoorTie
import Derived.Test.YthfndphngeaihaaDoorCards
import Derived.ProofKit
import Derived.LaidMore
import Derived.OpenShut
import Derived.Stop.Joined
namespace Go.Proofs.YthfndphngeaihaaDoor
open Go.ChangeShapes Go.WideShapes Go.ChangeAt Go.RowKit

set_option maxRecDepth 100000

theorem lawLaid : laidOutB Tryd.prog = true := by kernel_rfl
theorem cbOwn : ownKnob Tryd.prog.godebug = none := by kernel_rfl

/-- The listed variable. -/
def laidList : List (String × DataW Unit) := Rows.rankHoldsRow.laid

theorem grk : Tryd.prog.globalNamed ((Rows.rankHoldsRow.laid.map (·.1)).getD 0 Rows.rankHoldsRow.func) = some 0 := by kernel_rfl
theorem trk : (Tryd.prog.globals[0]?).map (·.type) = some 97 := by kernel_rfl

/-- The door's own heap meets the condition. -/
theorem door_met (os : Os) (args : Array Value) : laidMetH Tryd.prog laidList ((World.doorLaid Tryd.prog 19 os).forCall (fun _ _ => 0) ⟨#[], args, []⟩).memory :=
  laidMetH_of_parts3 (fuel := 8) (laidMet_of_run' 8 (by kernel_rfl) (by kernel_rfl)) (by kernel_rfl) (by kernel_rfl)

/-- What the condition gives the walks. -/
theorem of_laid {W : World} (h : laidMetH Tryd.prog laidList W) : TabR W := by
  rw [MakeChecks.laidMetH_plain _ _ _ (by kernel_rfl)] at h
  obtain ⟨ps, ⟨g1, t1, cs1, f1, p1, q1, hg1, ht1, hv1, hd1, _, _⟩, _, _⟩ := h
  obtain rfl := Option.some.inj (grk.symm.trans hg1)
  obtain rfl := Option.some.inj (trk.symm.trans ht1)
  obtain ⟨xs, m1, rfl, hx1, hlen, hn, hel⟩ := DataW.trod_array Tryd.underlying97 hd1
  have c1 : Tryd.prog.cellsOf 3 = 1 := by kernel_rfl
  simp only [Prod.mk.injEq] at hx1
  have cell : ∀ (i : Nat) (k : Int), i < 3 → (match Rows.laid_packsaddle_rank_ranks (H := Unit) with | .agg l => l[i]? | _ => none) = some (.lit (.int .i64 k)) → W.cell? ⟨0, i, none⟩ = some (.int .i64 k) := by
    intro i k hi hk
    rw [hx1.1] at hk
    simp only [List.getElem?_map, Option.map_eq_some_iff] at hk
    obtain ⟨x, hxi, hxk⟩ := hk
    have h := hel i hi
    rw [hxi, c1, Nat.mul_one] at h
    obtain ⟨n, e1, e2, _⟩ := DataW.trod_int Tryd.underlying3 h
    rw [e2] at hxk
    simp only [DataW.lit.injEq, Lit.int.injEq, true_and] at hxk
    subst hxk
    have hc := World.var?_cell hg1 hv1 i
    rw [hc]
    have hh : (cs1.toList.drop i).head? = some (.int .i64 n) := by
      cases hd : cs1.toList.drop i with
      | nil => rw [hd] at e1; simp at e1
      | cons a l => rw [hd] at e1; simp at e1; simp [e1]
    rw [List.head?_drop] at hh
    simpa using hh
  exact ⟨cell 0 2 (by decide) (by kernel_rfl), cell 1 1 (by decide) (by kernel_rfl), cell 2 0 (by decide) (by kernel_rfl)⟩

end Go.Proofs.YthfndphngeaihaaDoor
