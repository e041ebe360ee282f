/- Joined texts. -/
import Derived.Test.YtlmdbeccfoncpaaGreatDoorZJa
import Derived.Deep.RegionHeld3
import Derived.Sort.Grow
import Derived.Lib.Hide
import Derived.Test.YtlmdbeccfoncpaaGreatDoorZKi
import Derived.Test.YtlmdbeccfoncpaaGreatDoorZJg
namespace Go.Proofs.YtlmdbeccfoncpaaGreatDoor
open Go Go.RowKit Go.Shelf Go.Sort
set_option linter.unusedSimpArgs false
set_option linter.unusedVariables false

/-- What cmp.Compare answers. -/
def cmpT (x y : Int) : Int := if x < y then -1 else if y < x then 1 else 0

/-- What has come of w by draws and new blocks alone. -/
def GrownQ (w w' : World) : Prop := ∃ q os, w' = grow (w.drewN q) os

theorem drewN_grow (w : World) (os : Array Obj) (q : Nat) : (grow w os).drewN q = grow (w.drewN q) os := rfl

theorem GrownQ.refl (w : World) : GrownQ w w := ⟨0, #[], by rw [grow_empty]; rfl⟩
theorem GrownQ.drew {w w' : World} (h : GrownQ w w') (n : Nat) : GrownQ w (w'.drewN n) := by
  obtain ⟨q, os, rfl⟩ := h
  exact ⟨q + n, os, by rw [drewN_grow, World.drewN_drewN]⟩
theorem GrownQ.drew1 {w w' : World} (h : GrownQ w w') : GrownQ w w'.drew := h.drew 1
theorem GrownQ.alloc {w w' : World} (h : GrownQ w w') (o : Obj) : GrownQ w (w'.alloc o) := by
  obtain ⟨q, os, rfl⟩ := h
  exact ⟨q, os ++ #[o], by rw [alloc_eq_grow, grow_grow]⟩

theorem GrownQ.trans {a b c : World} (h : GrownQ a b) (k : GrownQ b c) : GrownQ a c := by
  obtain ⟨q, os, rfl⟩ := h
  obtain ⟨p, os', rfl⟩ := k
  exact ⟨q + p, os ++ os', by rw [drewN_grow, grow_grow, World.drewN_drewN]⟩
theorem GrownQ.cell {w w' : World} (h : GrownQ w w') {a : Addr} (ha : a.block < w.heap.size) : w'.cell? a = w.cell? a := by
  obtain ⟨q, os, rfl⟩ := h
  refine World.cell?_of_block ?_
  show ((w.drewN q).heap ++ os)[a.block]? = _
  rw [Array.getElem?_append_left (by simpa using ha)]
  rfl
theorem GrownQ.below {w w' : World} (h : GrownQ w w') : Below w.heap.size w w' := by
  obtain ⟨q, os, rfl⟩ := h
  refine ⟨rfl, rfl, rfl, by simp [grow], fun b hb => ?_⟩
  show ((w.drewN q).heap ++ os)[b]? = w.heap[b]?
  exact Array.getElem?_append_left hb

/-- Which name is ahead. -/
def ordN (x y : Int × Int × Int × Int) : Int :=
  if cmpT x.1 y.1 ≠ 0 then cmpT x.1 y.1 else if cmpT x.2.1 y.2.1 ≠ 0 then cmpT x.2.1 y.2.1 else if cmpT x.2.2.1 y.2.2.1 ≠ 0 then cmpT x.2.2.1 y.2.2.1 else cmpT x.2.2.2 y.2.2.2

/-- Numbers of 32 bits. -/
def N32 (n : Int) : Prop := 0 ≤ n ∧ n ≤ 4294967295

end Go.Proofs.YtlmdbeccfoncpaaGreatDoor

namespace Go.Proofs.YtlmdbeccfoncpaaGreatDoor
open Go Go.RowKit Go.Shelf Go.Sort
set_option linter.unusedSimpArgs false
set_option linter.unusedVariables false

end Go.Proofs.YtlmdbeccfoncpaaGreatDoor

namespace Go.Proofs.YtlmdbeccfoncpaaGreatDoor
open Go Go.RowKit Go.Shelf
set_option linter.unusedSimpArgs false
set_option linter.unusedVariables false

theorem d3 : Lib.decDigits 3 = [51] := by rw [dd_small (by decide)]; decide
theorem d5 : Lib.decDigits 5 = [53] := by rw [dd_small (by decide)]; decide
theorem d7 : Lib.decDigits 7 = [55] := by rw [dd_small (by decide)]; decide
theorem d9 : Lib.decDigits 9 = [57] := by rw [dd_small (by decide)]; decide

def t35 : List UInt8 := [105, 112, 110, 58, 51, 46, 53]
theorem t35_eq : txE 3 5 = t35 := by simp [txE, d3, d5, wIpn, t35]
theorem t3579_eq : txN 3 5 7 9 = [105, 112, 110, 58, 51, 46, 53, 32, 55, 32, 57] := by rw [txN, t35_eq, d7, d9]; rfl

theorem rd35 : rdE t35 = .ok (3, 5) := by
  have h : epN t35 = some (3, 5) := epN_iff.2 ⟨t35_eq.symm, by decide⟩
  rw [rdE, if_neg (by decide), h]

theorem rd035 : rdE [105, 112, 110, 58, 48, 51, 46, 53] = .error 130 := by
  have h1 : cutL 58 [105, 112, 110, 58, 48, 51, 46, 53] = some (wIpn, [48, 51, 46, 53]) := by decide
  have h2 : cutL 46 [48, 51, 46, 53] = some ([48, 51], [53]) := by decide
  have h3 : nmNumN [48, 51] = none := by
    have e : Lib.parseUintB 64 [48, 51] = .ok 3 := by decide +kernel
    rw [nmNumN, e]
    simp [d3]
  have h : epN [105, 112, 110, 58, 48, 51, 46, 53] = none := by
    rw [ep_ipn h1, h2]
    simp only []
    rw [h3]
  rw [rdE, if_neg (by decide), h]

theorem rdNone : rdE [100, 116, 110, 58, 110, 111, 110, 101] = .ok (0, 0) := by
  have h : epN [100, 116, 110, 58, 110, 111, 110, 101] = some (0, 0) := epN_iff.2 ⟨by decide, by decide⟩
  rw [rdE, if_neg (by decide), h]

theorem rdShort : rdN [105, 112, 110, 58, 51, 46, 53, 32, 55] = .error 130 := by
  have h1 : cutL 32 [105, 112, 110, 58, 51, 46, 53, 32, 55] = some (t35, [55]) := by decide
  have h2 : cutL 32 [55] = none := by decide
  have h : nmN [105, 112, 110, 58, 51, 46, 53, 32, 55] = none := by simp only [nmN, h1, h2]
  rw [rdN, if_neg (by decide), h]

end Go.Proofs.YtlmdbeccfoncpaaGreatDoor
