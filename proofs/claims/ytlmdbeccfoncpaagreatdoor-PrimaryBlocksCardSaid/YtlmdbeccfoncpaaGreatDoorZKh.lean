/- Joined texts. -/
import Derived.Test.YtlmdbeccfoncpaaGreatDoorZNmI2
import Derived.Test.YtlmdbeccfoncpaaGreatDoorZJg
namespace Go.Proofs.YtlmdbeccfoncpaaGreatDoor
open Go Go.RowKit Go.Shelf
set_option linter.unusedSimpArgs false
set_option linter.unusedVariables false
set_option maxRecDepth 100000

end Go.Proofs.YtlmdbeccfoncpaaGreatDoor

namespace Go.Proofs.YtlmdbeccfoncpaaGreatDoor
open Go Go.RowKit Go.Shelf
set_option linter.unusedSimpArgs false
set_option linter.unusedVariables false
set_option maxRecDepth 100000

/-- A name's item. -/
def itN (n m t q : Nat) : It := itLs [itE n m, itU t, itU q]

end Go.Proofs.YtlmdbeccfoncpaaGreatDoor

namespace Go.Proofs.YtlmdbeccfoncpaaGreatDoor
open Go Go.RowKit Go.Shelf
set_option linter.unusedSimpArgs false
set_option linter.unusedVariables false

/-- What endpoint answers. -/
def EndP (w : World) (R : Nat) (s : List UInt8) (e : Ending) (w' : World) : Prop :=
  Bt R w w' ∧ match epN s with
    | some (n, m) => e = .returned (.agg #[.int .u32 n, .int .u32 m])
    | none => e = nmGives 130

theorem endP_no {w w' : World} {R : Nat} {s : List UInt8} (hb : Bt R w w') (h : epN s = none) : EndP w R s (nmGives 130) w' := ⟨hb, by rw [h]⟩
theorem endP_yes {w w' : World} {R n m : Nat} {s : List UInt8} (hb : Bt R w w') (h : epN s = some (n, m)) : EndP w R s (.returned (.agg #[.int .u32 n, .int .u32 m])) w' := ⟨hb, by rw [h]⟩

theorem ep_cut {s : List UInt8} (h : cutL 58 s = none) : epN s = none := by simp [epN, h]
theorem ep_dtn {s b : List UInt8} (h : cutL 58 s = some (wDtn, b)) : epN s = if b = wNone then some (0, 0) else none := by simp [epN, h]
theorem ep_else {s a b : List UInt8} (h : cutL 58 s = some (a, b)) (h1 : a ≠ wDtn) (h2 : a ≠ wIpn) : epN s = none := by simp [epN, h, h1, h2]
theorem ep_ipn {s b : List UInt8} (h : cutL 58 s = some (wIpn, b)) : epN s = match cutL 46 b with
      | none => none
      | some (x, y) => match nmNumN x, nmNumN y with
        | some n, some m => if sv n m = true then some (n, m) else none
        | _, _ => none := by
  have h1 : ¬ wIpn = wDtn := by decide
  simp only [epN, h, h1, if_false, if_true]
  cases cutL 46 b with
  | none => rfl
  | some p =>
    obtain ⟨x, y⟩ := p
    simp only []
    cases nmNumN x with
    | none => rfl
    | some n =>
      cases nmNumN y with
      | none => rfl
      | some m => simp [sv]

theorem cut_len {c : UInt8} {s a b : List UInt8} (h : cutL c s = some (a, b)) : a.length ≤ s.length ∧ b.length ≤ s.length := by
  obtain ⟨rfl, _⟩ := cutL_iff.1 h
  simp
  omega

theorem Bt.put {R : Nat} {w w' : World} (h : Bt R w w') {p : Addr} (hp : w.heap.size ≤ p.block) (v : Value) : Bt R w (w'.setCell p v) :=
  ⟨h.os, h.tape, h.output, by rw [World.size_setCell]; exact h.size, fun k hk hne => (Below.heap_setCell w' _ _ k (by omega)).trans (h.block k hk hne)⟩

theorem Bt.drew {R : Nat} {w w' : World} (h : Bt R w w') : Bt R w w'.drew := ⟨h.os, h.tape, h.output, h.size, h.block⟩

theorem put2 {w : World} {b : Nat} {a0 a1 : Value} (v0 v1 : Value) (h0 : w.cell? ⟨b, 0, none⟩ = some a0) (h1 : w.cell? ⟨b, 1, none⟩ = some a1) :
    ((w.setCell ⟨b, 0, none⟩ v0).setCell ⟨b, 1, none⟩ v1).cell? ⟨b, 0, none⟩ = some v0 ∧ ((w.setCell ⟨b, 0, none⟩ v0).setCell ⟨b, 1, none⟩ v1).cell? ⟨b, 1, none⟩ = some v1 :=
  ⟨(World.cell?_setCell_other _ _ _ _ (by simp)).trans (World.cell?_setCell_same _ _ _ h0), World.cell?_setCell_same _ _ _ ((World.cell?_setCell_other _ _ _ _ (by simp)).trans h1)⟩

/-- One operation alone may come up now. -/
theorem wpAny_one {P : Program} {md : Region.Mode} {ops : Array Oper} {Q : Exit → Act → World → Prop} {fuel : Nat} {listed : Array Bool} {a : Act} {w : World} {i : Nat} {o : Oper} (hr : Region.ready md ops listed = [i]) (ho : ops[i]? = some o)
    (h : ∀ K' : Act → World → Prop, (∀ a w, wpAny P md ops Q fuel (listed.setIfInBounds i true) a w → K' a w) → if Region.wanted o (yielded ops a.tmps) = true then Oper.wp P o a w K' Q else K' (a.put o.dst undef) w) : wpAny P md ops Q (fuel + 1) listed a w :=
  wpAny_ready hr (by simp) (AllReady.cons ho h AllReady.nil)

/-- A giving up, written out. -/
def givesW (c : Int) : Ending := .panicked [{ v := .iface 30 (.int .i64 c), recovered := false }]

end Go.Proofs.YtlmdbeccfoncpaaGreatDoor
