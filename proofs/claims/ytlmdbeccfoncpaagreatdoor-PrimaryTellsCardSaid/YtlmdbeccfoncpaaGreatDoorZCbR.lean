/- Items that are the same: ref Same. -/
import Derived.Test.YtlmdbeccfoncpaaGreatDoorZCbC
import Derived.StillTailTactics
namespace Go.Proofs.YtlmdbeccfoncpaaGreatDoor
open Go.RowKit Go.Shelf
set_option linter.unusedSimpArgs false

mutual
/-- The same items, part by part? -/
def It.same : It → It → Bool
  | .mk k n b s l, .mk k' n' b' s' l' => decide (k = k') && (decide (n = n') && (decide (b = b') && (decide (s = s') && sameL l l')))
def sameL : List It → List It → Bool
  | [], l => l.isEmpty
  | _ :: _, [] => false
  | x :: xs, y :: ys => x.same y && sameL xs ys
end

mutual
theorem It.same_iff : ∀ x y : It, x.same y = true ↔ x = y
  | .mk k n b s l, .mk k' n' b' s' l' => by
    simp only [It.same, Bool.and_eq_true, decide_eq_true_eq, sameL_iff l l', It.mk.injEq]
theorem sameL_iff : ∀ l m : List It, sameL l m = true ↔ l = m
  | [], m => by cases m <;> simp [sameL]
  | x :: xs, [] => by simp [sameL]
  | x :: xs, y :: ys => by simp only [sameL, Bool.and_eq_true, It.same_iff x y, sameL_iff xs ys, List.cons.injEq]
end

theorem sameL_len {l m : List It} (h : l.length ≠ m.length) : sameL l m = false := by
  cases hs : sameL l m with
  | false => rfl
  | true =>
    rw [(sameL_iff l m).1 hs] at h
    exact absurd rfl h

theorem sameL_step {l m : List It} {j : Nat} (hl : j < l.length) (hm : j < m.length) (h : sameL (l.take j) (m.take j) = true) : sameL (l.take (j + 1)) (m.take (j + 1)) = l[j].same m[j] := by
  have h1 := (sameL_iff _ _).1 h
  have e1 := List.take_succ_eq_append_getElem hl
  have e2 := List.take_succ_eq_append_getElem hm
  rw [Bool.eq_iff_iff, sameL_iff, It.same_iff, e1, e2, h1, List.append_right_inj]
  simp only [List.cons.injEq, and_true]

theorem sameL_no {l m : List It} {j : Nat} (hl : j < l.length) (hm : j < m.length) (h : l[j].same m[j] = false) : sameL l m = false := by
  cases hs : sameL l m with
  | false => rfl
  | true =>
    have e := (sameL_iff l m).1 hs
    subst e
    rw [(It.same_iff _ _).2 rfl] at h
    cases h

theorem same_self (x : It) : x.same x = true := (It.same_iff x x).2 rfl

end Go.Proofs.YtlmdbeccfoncpaaGreatDoor
