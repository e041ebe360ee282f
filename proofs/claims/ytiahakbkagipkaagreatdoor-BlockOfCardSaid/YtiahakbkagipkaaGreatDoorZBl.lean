/- Joined texts. -/
import Derived.Test.YtiahakbkagipkaaGreatDoorZBg
import Derived.Test.YtiahakbkagipkaaGreatDoorZKq
set_option linter.unusedSimpArgs false
set_option linter.unusedVariables false
set_option maxRecDepth 100000
namespace Go.Proofs.YtiahakbkagipkaaGreatDoor
open Go Go.RowKit Go.Shelf

theorem bitX_back (x : Cr) : crG (itX x) = x := by
 obtain ⟨g, b⟩ := x
 have h : shX (itX (g, b)).l = true := rfl
 rw [crG_yes (x := itX (g, b)) (y := itU g.toNat) (z := itB b) h rfl]
 have e1 : UInt32.ofNat ((itU g.toNat).n.toNat) = g := by
  show UInt32.ofNat (((g.toNat : Nat) : Int).toNat) = g
  rw [Int.toNat_natCast]
  exact UInt32.ofNat_toNat
 have e2 : ((itB b).n == 1) = b := by cases b <;> rfl
 rw [e1, e2]

theorem bguP_back (bk : Bool) (xs : List Cr) (h : xs.length ≤ 64) : guP (itP bk xs) = (bk, xs) := by
 have hl : (itP bk xs).l = itB bk :: xs.map itX := rfl
 unfold guP
 rw [hl, if_neg (by simp; omega)]
 have e2 : ((itB bk).n == 1) = bk := by cases bk <;> rfl
 simp only [List.drop_succ_cons, List.drop_zero, List.map_map, e2, Prod.mk.injEq, true_and]
 have e3 : (crG ∘ itX) = id := funext bitX_back
 rw [e3, List.map_id]

theorem bisP_back (bk : Bool) (xs : List Cr) (h : rightX xs = true) : isP (itP bk xs) = true ∧ guP (itP bk xs) = (bk, xs) := by
 have h64 : xs.length ≤ 64 := by
  unfold rightX at h
  simp only [Bool.and_eq_true, decide_eq_true_eq] at h
  exact h.1
 have h1 := bguP_back bk xs h64
 refine ⟨?_, h1⟩
 unfold isP
 rw [h1, h, same_self]
 rfl

def rightEx (x : Ex) : Bool := isT x.g && (rightX x.xs && (noEnd x.n x.m || decide (0 < x.n)))
def tailB (x : Ex) (k : Int) (n : Nat) : List Bl := [⟨7, n, k, dataO (itU x.g)⟩, ⟨10, n + 1, k, dataO (itLs [itU x.l, itU x.c])⟩, ⟨200, n + 2, k, dataO (itP x.b x.xs)⟩]
def listB (x : Ex) (k : Int) : List Bl := if noEnd x.n x.m = true then tailB x k 2 else ⟨6, 2, k, dataO (itE x.n x.m)⟩ :: tailB x k 3

theorem blocksE_yes {x : Ex} (k : Int) (h : rightEx x = true) : blocksE x k = .ok (listB x k) := by
 simp only [rightEx, Bool.and_eq_true, Bool.or_eq_true, decide_eq_true_eq] at h
 obtain ⟨h1, h2, h3⟩ := h
 have e1 : ageR x.g = .ok (itU x.g) := by rw [ageR, if_pos h1]
 have e2 : pathR x.b x.xs = .ok (itP x.b x.xs) := by rw [pathR, if_pos h2]
 unfold blocksE listB
 by_cases h0 : noEnd x.n x.m = true
 ·rw [if_pos h0, if_pos h0]
  simp [addE, e1, e2, hopR, tailB]
 ·rw [if_neg h0, if_neg h0]
  have e3 : endR x.n x.m = .ok (itE x.n x.m) := by
   rw [endR, if_neg]
   rcases h3 with h3 | h3
   ·exact absurd h3 h0
   ·omega
  simp [addE, e1, e2, e3, hopR, tailB]

theorem blocksE_no {x : Ex} (k : Int) (h : rightEx x = false) : blocksE x k = .error 2 := by
 cases hb : blocksE x k with
 | error c => rw [blocksE_err hb]
 | ok l =>
  exfalso
  have h1 : isT x.g = true := by
   cases hg : isT x.g with
   | true => rfl
   | false =>
    exfalso
    have e1 : ageR x.g = .error 2 := by rw [ageR, if_neg (by rw [hg]; decide)]
    unfold blocksE at hb
    split at hb
    ·cases hb
    ·simp [addE, e1] at hb
  have h2 : rightX x.xs = true := by
   cases hg : rightX x.xs with
   | true => rfl
   | false =>
    exfalso
    have e1 : pathR x.b x.xs = .error 2 := by rw [pathR, if_neg (by rw [hg]; decide)]
    unfold blocksE at hb
    split at hb
    ·cases hb
    ·split at hb
     ·cases hb
     ·split at hb
      ·cases hb
      ·simp [addE, e1] at hb
  have h3 : (noEnd x.n x.m || decide (0 < x.n)) = true := by
   cases hn : noEnd x.n x.m with
   | true => rfl
   | false =>
    cases hz : decide (0 < x.n) with
    | true => rfl
    | false =>
     exfalso
     have h0 : x.n = 0 := by simpa using hz
     have hm : x.m ≠ 0 := by
      intro hm
      rw [h0, hm] at hn
      cases hn
     have e1 : endR x.n x.m = .error 2 := by rw [endR, if_pos ⟨h0, hm⟩]
     unfold blocksE at hb
     rw [if_neg (by rw [hn]; decide)] at hb
     simp [addE, e1] at hb
  rw [rightEx, h1, h2, h3] at h
  cases h

theorem kinB_self (t n : Nat) (s s' : Int) (d : List UInt8) : kinB ⟨t, n, s, d⟩ ⟨t, n, s', d⟩ = true := by
 rw [kinB, sameB_iff]

end Go.Proofs.YtiahakbkagipkaaGreatDoor
