/- Joined texts. -/
import Derived.Test.YteldifnkeekafaaGreatDoorZJa
import Derived.ProofKit
import Derived.OpenShut
import Derived.ChangeOld
import Derived.SizedLaws
import Derived.Test.YteldifnkeekafaaGreatDoorZKv
set_option maxRecDepth 100000
namespace Go.Proofs.YteldifnkeekafaaGreatDoor
open Go.ChangeShapes Go.WideShapes Go.ChangeAt Go.RowKit

theorem lawLaid : laidOutB Tryz.prog = true := by kernel_rfl
theorem bytes_u8 : Tryz.prog.bytesOf 5 = 1 := by kernel_rfl

theorem wf_u8 {n : Int} (h : (Lit.int .u8 n).wf = true) : 0 ≤ n ∧ n < 256 := by
 simp [Lit.wf, IntKind.min, IntKind.max, IntKind.signed, IntKind.bits] at h
 omega

def ofNums (zs : List Int) : List UInt8 := zs.map fun z => UInt8.ofNat z.toNat

theorem byteAt_ofNums (zs : List Int) (hz : ∀ z ∈ zs, 0 ≤ z ∧ z < 256) (j : Nat) (hj : j < zs.length) : byteAt (ofNums zs) j = zs.getD j 0 := by
 have h := hz zs[j] (List.getElem_mem hj)
 simp only [byteAt, ofNums, List.getElem?_map, List.getElem?_eq_getElem hj, Option.map_some, Option.getD_some, UInt8.toNat_ofNat', List.getD]
 omega

section
variable {H : Type} {enc : TypeId × Value → H} {W : World} {base : Nat}

end

end Go.Proofs.YteldifnkeekafaaGreatDoor

namespace Go.Proofs.YteldifnkeekafaaGreatDoor
open Go.ChangeShapes Go.WideShapes Go.ChangeAt Go.RowKit


section
variable {H : Type} {enc : TypeId × Value → H} {W : World}

theorem itL_of {w : World} {B g : Nat} : ∀ (l : List It) (o : Nat), (∀ i (h : i < l.length), ∃ v, At5 w g (o + i * 5) v ∧ ItV w B v l[i]) → ItL w B g o l
 | [], _, _ => by simp only [ItL]
 | x :: xs, o, h => by
  simp only [ItL]
  refine ⟨by have := h 0 (by simp); rw [show o + 0 * 5 = o by omega] at this; exact this, itL_of xs (o + 5) fun i hi => ?_⟩
  have := h (i + 1) (by simpa using hi)
  rw [show o + 5 + i * 5 = o + (i + 1) * 5 by omega]
  simpa using this

theorem weights_all_mem {P : Program} {e : TypeId} : ∀ {ds : List (DataW H)} {d : DataW H}, d ∈ ds → ∀ n ∈ d.weights P e, n ∈ DataW.weightsAll P e ds
 | d0 :: ds, d, hd, n, hn => by
  simp only [DataW.weightsAll, List.mem_append]
  rcases List.mem_cons.1 hd with rfl | h
  ·exact .inl hn
  ·exact .inr (weights_all_mem h n hn)

end
end Go.Proofs.YteldifnkeekafaaGreatDoor
