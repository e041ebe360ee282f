/- Joined texts. -/
import Derived.Test.YtiahakbkagipkaaGreatDoorZMe
import Derived.Test.YtiahakbkagipkaaGreatDoorZKs
import Derived.ProofKit
import Derived.OpenShut
import Derived.ChangeOld
import Derived.SizedLaws
import Derived.Test.YtiahakbkagipkaaGreatDoorZBp
set_option linter.unusedSimpArgs false
set_option linter.unusedVariables false
set_option maxRecDepth 100000
namespace Go.Proofs.YtiahakbkagipkaaGreatDoor
open Go Go.RowKit Go.Shelf

attribute [local go_sem] Oper.semAt_some

attribute [local go_sem] Oper.semAt_some

attribute [local go_sem] Oper.semAt_some

def RdU3 (w : World) (B : Nat) (a : Option Addr) (zs : List Nat) : Prop :=
 zs = [] ∨ ∃ b o, a = some ⟨b, o, none⟩ ∧ b < B ∧ ∀ j, j < zs.length → w.cell? ⟨b, o + j, none⟩ = some (.int .u32 ((zs[j]?.getD 0 : Nat) : Int))

theorem RdU3.below {w w' : World} {B : Nat} {a : Option Addr} {zs : List Nat} (h : RdU3 w B a zs) (hb : Below B w w') : RdU3 w' B a zs := by
 rcases h with h | ⟨b, o, e, hlt, hc⟩
 ·exact .inl h
 ·exact .inr ⟨b, o, e, hlt, fun j hj => (hb.cell (p := ⟨b, o + j, none⟩) hlt).trans (hc j hj)⟩

theorem RdU3.mono {w : World} {B B' : Nat} {a : Option Addr} {zs : List Nat} (h : RdU3 w B a zs) (hB : B ≤ B') : RdU3 w B' a zs := by
 rcases h with h | ⟨b, o, e, hlt, hc⟩
 ·exact .inl h
 ·exact .inr ⟨b, o, e, Nat.lt_of_lt_of_le hlt hB, hc⟩

theorem RdU3.at {w : World} {B : Nat} {a : Option Addr} {zs : List Nat} (h : RdU3 w B a zs) (k : Nat) (hk : k < zs.length) :
  ∃ b o, a = some ⟨b, o, none⟩ ∧ b < B ∧ w.cell? ⟨b, o + k, none⟩ = some (.int .u32 ((zs[k]?.getD 0 : Nat) : Int)) := by
 rcases h with rfl | ⟨b, o, e, hlt, hc⟩
 ·simp at hk
 ·exact ⟨b, o, e, hlt, hc k hk⟩

end Go.Proofs.YtiahakbkagipkaaGreatDoor

namespace Go.Proofs.YtiahakbkagipkaaGreatDoor
open Go.ChangeShapes Go.WideShapes Go.ChangeAt Go.RowKit


section
variable {H : Type} {enc : TypeId × Value → H} {W : World}
theorem fit_n64 {n : Int} (h : (Lit.int .u64 n).wf = true) : ∃ k : Nat, n = k ∧ k < 18446744073709551616 := by
 simp [Lit.wf, IntKind.min, IntKind.max, IntKind.signed, IntKind.bits] at h
 exact ⟨n.toNat, by omega, by omega⟩

end
end Go.Proofs.YtiahakbkagipkaaGreatDoor

namespace Go.Proofs.YtiahakbkagipkaaGreatDoor
open Go.ChangeShapes Go.WideShapes Go.ChangeAt Go.RowKit


section
variable {H : Type} {enc : TypeId × Value → H} {W : World}

end
end Go.Proofs.YtiahakbkagipkaaGreatDoor
