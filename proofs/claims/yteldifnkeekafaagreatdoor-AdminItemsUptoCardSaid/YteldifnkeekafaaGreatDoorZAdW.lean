/- The library's table, as the rows list it; and what every card needs of the program. -/
import Derived.Test.YteldifnkeekafaaGreatDoorZJf
import Derived.Test.YteldifnkeekafaaGreatDoorTie
import Derived.Test.YteldifnkeekafaaGreatDoorCards
import Derived.ProofKit
import Derived.LaidMore
import Derived.OpenShut
import Derived.Stop.Joined
set_option maxRecDepth 100000
namespace Go.Proofs.YteldifnkeekafaaGreatDoor
open Go.ChangeShapes Go.WideShapes Go.ChangeAt Go.RowKit


theorem cbOwn : ownKnob Tryz.prog.godebug = none := by kernel_rfl

def laidList : List (String × DataW Unit) := Rows.adminHoldsRow.laid

theorem g64 : Tryz.prog.globalNamed ((Rows.adminHoldsRow.laid.map (·.1)).getD 1 Rows.adminHoldsRow.func) = some 1 := by kernel_rfl
theorem t64 : (Tryz.prog.globals[1]?).map (·.type) = some 189 := by kernel_rfl

theorem door_met (os : Os) (args : Array Value) : laidMetH Tryz.prog laidList ((World.doorLaid Tryz.prog 19 os).forCall (fun _ _ => 0) ⟨#[], args, []⟩).memory :=
 laidMetH_of_parts3 (fuel := 8) (laidMet_of_run' 8 (by kernel_rfl) (by kernel_rfl)) (by kernel_rfl) (by kernel_rfl)

theorem of_laid {W : World} (h : laidMetH Tryz.prog laidList W) : TabW W := by
 rw [MakeChecks.laidMetH_plain _ _ _ (by kernel_rfl)] at h
 obtain ⟨ps, ⟨g0, t0, cs0, f0, p0, q0, hg0, ht0, hv0, hd0, ⟨g1, t1, cs1, f1, p1, q1, hg1, ht1, hv1, hd1, _, _⟩, _⟩, _, _⟩ := h
 clear hg0 ht0 hv0 hd0
 obtain rfl := Option.some.inj (g64.symm.trans hg1)
 obtain rfl := Option.some.inj (t64.symm.trans ht1)
 obtain ⟨xs, m1, rfl, hx1, hlen, hn, hel⟩ := DataW.trod_array Tryz.underlying189 hd1
 have c1 : Tryz.prog.cellsOf 5 = 1 := by kernel_rfl
 simp only [Prod.mk.injEq] at hx1
 have cell : ∀ (i : Nat) (k : Int), i < 64 → (match Rows.laid_math_bits_deBruijn64tab (H := Unit) with | .agg l => l[i]? | _ => none) = some (.lit (.int .u8 k)) → W.cell? ⟨1, i, none⟩ = some (.int .u8 k) := by
  intro i k hi hk
  rw [hx1.1] at hk
  simp only [List.getElem?_map, Option.map_eq_some_iff] at hk
  obtain ⟨x, hxi, hxk⟩ := hk
  have h := hel i hi
  rw [hxi, c1, Nat.mul_one] at h
  obtain ⟨n, e1, e2, _⟩ := DataW.trod_int Tryz.underlying5 h
  rw [e2] at hxk
  simp only [DataW.lit.injEq, Lit.int.injEq, true_and] at hxk
  subst hxk
  have hc := World.var?_cell hg1 hv1 i
  rw [hc]
  have hh : (cs1.toList.drop i).head? = some (.int .u8 n) := by
   cases hd : cs1.toList.drop i with
   | nil => rw [hd] at e1; simp at e1
   | cons a l => rw [hd] at e1; simp at e1; simp [e1]
  rw [List.head?_drop] at hh
  simpa using hh
 have h0 := cell 0 0 (by decide) (by kernel_rfl)
 exact ⟨⟨World.block_lt_of_cell? W _ h0, h0⟩, cell 1 1 (by decide) (by kernel_rfl), cell 3 2 (by decide) (by kernel_rfl), cell 7 3 (by decide) (by kernel_rfl)⟩

end Go.Proofs.YteldifnkeekafaaGreatDoor

