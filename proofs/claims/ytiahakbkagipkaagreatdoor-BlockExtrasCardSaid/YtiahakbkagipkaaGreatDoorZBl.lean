/- Joined texts. -/
import Derived.Test.YtiahakbkagipkaaGreatDoorZBg
import Derived.Test.YtiahakbkagipkaaGreatDoorZKq
set_option linter.unusedSimpArgs false
set_option linter.unusedVariables false
set_option maxRecDepth 100000
namespace Go.Proofs.YtiahakbkagipkaaGreatDoor
open Go Go.RowKit Go.Shelf

theorem berr_of {x : It} (h : x.right = true) (hd : x.depth ≤ 8) (hl : x.bytes.length ≤ 65536) : x.err = 0 := by
 rw [It.err, if_pos h, if_neg (by omega), if_neg (by omega)]

theorem decode_dataO {x : It} (he : x.err = 0) (hf : x.fit) : decodeN (dataO x) = .ok x := by
 have hl := berr_len he
 have h := firstN_of x [] he hf (by rw [List.append_nil]; exact hl)
 rw [List.append_nil] at h
 rw [dataO, if_pos he, decodeN, h]
 simp

theorem bitU_err (g : Nat) : (itU g).err = 0 := by
 have h := (head_length 0 g).2
 refine berr_of ?_ ?_ ?_
 ·simp [itU, It.right, rightL, rightN]
 ·simp [itU, It.depth, It.depth.depthL]
 ·simp [itU, It.bytes, bytesL, ownB1]
  omega
theorem ageD_back {g : Nat} (h : isT g = true) : datD ageI (dataO (itU g)) = some g := by
 have h4 : g ≤ 4611686018427387903 := by
  simp [isT] at h
  omega
 rw [datD_ok (decode_dataO (bitU_err g) (by simp [itU, It.fit, fitL, U64]; omega))]
 have hn : nuP (itU g) = some g := by simp [nuP, itU, It.k, It.n]
 rw [ageI, hn]
 simp [h]

theorem bitH_err (p q : Nat) : (itLs [itU p, itU q]).err = 0 := by
 have h := fun a b => (head_length a b).2
 have h1 := h 4 (2 : Nat)
 have h2 := h 0 p
 have h3 := h 0 q
 refine berr_of ?_ ?_ ?_
 ·simp [itLs, itU, It.right, rightL, rightN]
 ·simp [itLs, itU, It.depth, It.depth.depthL]
 ·simp [itLs, itU, It.bytes, bytesL, ownB1, ownB4] at *
  omega
theorem hopD_back {p q : Nat} (hp : p ≤ 255) (hq : q ≤ 255) : datD hopI (dataO (itLs [itU p, itU q])) = some (p, q) := by
 rw [datD_ok (decode_dataO (bitH_err p q) (by simp [itLs, itU, It.fit, fitL, U64]; omega))]
 have hn : ∀ g : Nat, nuP (itU g) = some g := fun g => by simp [nuP, itU, It.k, It.n]
 have hl : (itLs [itU p, itU q]).l = [itU p, itU q] := rfl
 simp [hopI, hl, hn, hp, hq]

theorem bitE_err (n m : Nat) : (itE n m).err = 0 := by
 have h := fun a b => (head_length a b).2
 refine berr_of ?_ ?_ ?_
 ·unfold itE
  split <;> simp [itLs, itU, It.right, rightL, rightN]
 ·unfold itE
  split <;> simp [itLs, itU, It.depth, It.depth.depthL]
 ·unfold itE
  split
  ·have h1 := h 4 (2 : Nat)
   have h2 := h 0 1
   have h3 := h 0 0
   simp [itLs, itU, It.bytes, bytesL, ownB1, ownB4] at *
   omega
  ·have h1 := h 4 (2 : Nat)
   have h2 := h 0 2
   have h3 := h 0 n
   have h4 := h 0 m
   simp [itLs, itU, It.bytes, bytesL, ownB1, ownB4] at *
   omega
theorem endD_back {n m : Nat} (h0 : 0 < n) (hn : n ≤ 4294967295) (hm : m ≤ 4294967295) : datD befI (dataO (itE n m)) = some (n, m) := by
 rw [datD_ok (decode_dataO (bitE_err n m) (by
  unfold itE
  split
  ·simp [itLs, itU, It.fit, fitL, U64]
  ·simp [itLs, itU, It.fit, fitL, U64]
   omega))]
 rw [befI, epI_itE n m (.inl h0) hn hm]
 simp [h0]

theorem bitX_back (x : Cr) : crG (itX x) = x := by
 obtain ⟨g, b⟩ := x
 have h : shX (itX (g, b)).l = true := rfl
 rw [crG_yes (x := itX (g, b)) (y := itU g.toNat) (z := itB b) h rfl]
 have e1 : UInt32.ofNat ((itU g.toNat).n.toNat) = g := by
  show UInt32.ofNat (((g.toNat : Nat) : Int).toNat) = g
  rw [Int.toNat_natCast]
  exact UInt32.ofNat_toNat
 have e2 : ((itB b).n == 1) = b := by cases b <;> rfl
 rw [e1, e2]

theorem bguP_back (bk : Bool) (xs : List Cr) (h : xs.length ≤ 64) : guP (itP bk xs) = (bk, xs) := by
 have hl : (itP bk xs).l = itB bk :: xs.map itX := rfl
 unfold guP
 rw [hl, if_neg (by simp; omega)]
 have e2 : ((itB bk).n == 1) = bk := by cases bk <;> rfl
 simp only [List.drop_succ_cons, List.drop_zero, List.map_map, e2, Prod.mk.injEq, true_and]
 have e3 : (crG ∘ itX) = id := funext bitX_back
 rw [e3, List.map_id]

theorem bisP_back (bk : Bool) (xs : List Cr) (h : rightX xs = true) : isP (itP bk xs) = true ∧ guP (itP bk xs) = (bk, xs) := by
 have h64 : xs.length ≤ 64 := by
  unfold rightX at h
  simp only [Bool.and_eq_true, decide_eq_true_eq] at h
  exact h.1
 have h1 := bguP_back bk xs h64
 refine ⟨?_, h1⟩
 unfold isP
 rw [h1, h, same_self]
 rfl


theorem bN_in (q : Bool) : 0 ≤ bN q ∧ bN q ≤ 1 := by cases q <;> decide
theorem rightL_mapX : ∀ xs : List Cr, rightL (xs.map itX) = true
 | [] => by simp [rightL]
 | x :: r => by
  have := rightL_mapX r
  have hb := bN_in x.2
  simp [rightL, itX, itLs, itU, itB, It.right, rightN, this]
  omega
theorem fitL_mapX : ∀ xs : List Cr, fitL (xs.map itX)
 | [] => by simp [fitL]
 | x :: r => by
  have := fitL_mapX r
  have h := x.1.toNat_lt
  simp [fitL, itX, itLs, itU, itB, It.fit, U64, this]
  have hb := bN_in x.2
  omega
theorem bytesL_mapX : ∀ xs : List Cr, (bytesL (xs.map itX)).length ≤ 30 * xs.length
 | [] => by simp [bytesL]
 | x :: r => by
  have := bytesL_mapX r
  have h := fun a b => (head_length a b).2
  have h1 := h 4 (2 : Nat)
  have h2 := h 0 (x.1.toNat : Int)
  have h3 := h 7 (20 + (itB x.2).n)
  simp [bytesL, itX, itLs, itU, itB, It.bytes, ownB, It.n] at *
  omega
theorem bitP_err {bk : Bool} {xs : List Cr} (h : xs.length ≤ 64) : (itP bk xs).err = 0 := by
 have hh := fun a b => (head_length a b).2
 refine berr_of ?_ ?_ ?_
 ·have := rightL_mapX xs
  have hb := bN_in bk
  simp [itP, itLs, itB, It.right, rightL, rightN, this]
  omega
 ·have := depthL_map xs
  simp only [itP, itLs, It.depth, It.depth.depthL, itB]
  omega
 ·have h0 := bytesL_mapX xs
  have h1 := hh 4 ((xs.length + 1 : Nat) : Int)
  have h2 := hh 7 (20 + (itB bk).n)
  simp [itP, itLs, itB, It.bytes, bytesL, ownB, It.n] at *
  omega
theorem patD_back {bk : Bool} {xs : List Cr} (h : rightX xs = true) : datD patI (dataO (itP bk xs)) = some (bk, xs) := by
 have h64 : xs.length ≤ 64 := by
  unfold rightX at h
  simp only [Bool.and_eq_true, decide_eq_true_eq] at h
  exact h.1
 have hf : (itP bk xs).fit := by
  have := fitL_mapX xs
  simp [itP, itLs, itB, It.fit, fitL, U64, this]
  have hb := bN_in bk
  omega
 have hb := bisP_back bk xs h
 rw [datD_ok (decode_dataO (bitP_err h64) hf), patI, if_pos hb.1, hb.2]

def rightEx (x : Ex) : Bool := isT x.g && (rightX x.xs && (noEnd x.n x.m || decide (0 < x.n)))
def tailB (x : Ex) (k : Int) (n : Nat) : List Bl := [⟨7, n, k, dataO (itU x.g)⟩, ⟨10, n + 1, k, dataO (itLs [itU x.l, itU x.c])⟩, ⟨200, n + 2, k, dataO (itP x.b x.xs)⟩]
def listB (x : Ex) (k : Int) : List Bl := if noEnd x.n x.m = true then tailB x k 2 else ⟨6, 2, k, dataO (itE x.n x.m)⟩ :: tailB x k 3

theorem blocksE_yes {x : Ex} (k : Int) (h : rightEx x = true) : blocksE x k = .ok (listB x k) := by
 simp only [rightEx, Bool.and_eq_true, Bool.or_eq_true, decide_eq_true_eq] at h
 obtain ⟨h1, h2, h3⟩ := h
 have e1 : ageR x.g = .ok (itU x.g) := by rw [ageR, if_pos h1]
 have e2 : pathR x.b x.xs = .ok (itP x.b x.xs) := by rw [pathR, if_pos h2]
 unfold blocksE listB
 by_cases h0 : noEnd x.n x.m = true
 ·rw [if_pos h0, if_pos h0]
  simp [addE, e1, e2, hopR, tailB]
 ·rw [if_neg h0, if_neg h0]
  have e3 : endR x.n x.m = .ok (itE x.n x.m) := by
   rw [endR, if_neg]
   rcases h3 with h3 | h3
   ·exact absurd h3 h0
   ·omega
  simp [addE, e1, e2, e3, hopR, tailB]

theorem blocksE_no {x : Ex} (k : Int) (h : rightEx x = false) : blocksE x k = .error 2 := by
 cases hb : blocksE x k with
 | error c => rw [blocksE_err hb]
 | ok l =>
  exfalso
  have h1 : isT x.g = true := by
   cases hg : isT x.g with
   | true => rfl
   | false =>
    exfalso
    have e1 : ageR x.g = .error 2 := by rw [ageR, if_neg (by rw [hg]; decide)]
    unfold blocksE at hb
    split at hb
    ·cases hb
    ·simp [addE, e1] at hb
  have h2 : rightX x.xs = true := by
   cases hg : rightX x.xs with
   | true => rfl
   | false =>
    exfalso
    have e1 : pathR x.b x.xs = .error 2 := by rw [pathR, if_neg (by rw [hg]; decide)]
    unfold blocksE at hb
    split at hb
    ·cases hb
    ·split at hb
     ·cases hb
     ·split at hb
      ·cases hb
      ·simp [addE, e1] at hb
  have h3 : (noEnd x.n x.m || decide (0 < x.n)) = true := by
   cases hn : noEnd x.n x.m with
   | true => rfl
   | false =>
    cases hz : decide (0 < x.n) with
    | true => rfl
    | false =>
     exfalso
     have h0 : x.n = 0 := by simpa using hz
     have hm : x.m ≠ 0 := by
      intro hm
      rw [h0, hm] at hn
      cases hn
     have e1 : endR x.n x.m = .error 2 := by rw [endR, if_pos ⟨h0, hm⟩]
     unfold blocksE at hb
     rw [if_neg (by rw [hn]; decide)] at hb
     simp [addE, e1] at hb
  rw [rightEx, h1, h2, h3] at h
  cases h

theorem look_of {x : Ex} {t n : Nat} {k : Int} {d : List UInt8} (hk : isK k = true) (ht : t = 6 ∨ t = 7 ∨ t = 10 ∨ t = 200) (hn : 2 ≤ n ∧ n ≤ 255) : lookE x ⟨t, n, k, d⟩ = tellE x t d := by
 have h1 : knB t = true := by
  simp only [knB, decide_eq_true_eq]
  omega
 have h2 : numB t n = true := by
  rw [numB, if_neg (by omega)]
  simp [hn.1, hn.2]
 rw [lookE]
 simp only [h1, h2, hk, Bool.and_self, if_true]

theorem tail_back (x y : Ex) {k : Int} (hk : isK k = true) {n : Nat} (hn : 2 ≤ n ∧ n ≤ 200) (hx : x.fit) (h : rightEx x = true) : gathE y (tailB x k n) = some ⟨y.n, y.m, x.g, x.l, x.c, x.b, x.xs⟩ := by
 simp only [rightEx, Bool.and_eq_true] at h
 unfold tailB
 simp only [gathE]
 rw [look_of hk (.inr (.inl rfl)) ⟨hn.1, by omega⟩]
 simp only [tellE, ageD_back h.1, Option.map_some, Option.bind_some]
 simp only [show ¬ (7 : Nat) = 1 by decide, show ¬ (7 : Nat) = 6 by decide, if_false, if_true, Option.bind_some]
 rw [look_of hk (.inr (.inr (.inl rfl))) ⟨by omega, by omega⟩]
 simp only [tellE, hopD_back hx.l hx.c, Option.map_some]
 simp only [show ¬ (10 : Nat) = 1 by decide, show ¬ (10 : Nat) = 6 by decide, show ¬ (10 : Nat) = 7 by decide, if_false, if_true, Option.bind_some]
 rw [look_of hk (.inr (.inr (.inr rfl))) ⟨by omega, by omega⟩]
 simp only [tellE, patD_back h.2.1, Option.map_some]
 simp only [show ¬ (200 : Nat) = 1 by decide, show ¬ (200 : Nat) = 6 by decide, show ¬ (200 : Nat) = 7 by decide, show ¬ (200 : Nat) = 10 by decide, if_false, if_true, Option.bind_some]

theorem gath_back (x : Ex) {k : Int} (hk : isK k = true) (hx : x.fit) (h : rightEx x = true) : gathE ex0 (listB x k) = some x := by
 unfold listB
 by_cases h0 : noEnd x.n x.m = true
 ·rw [if_pos h0, tail_back x ex0 hk ⟨by decide, by decide⟩ hx h]
  simp [noEnd] at h0
  obtain ⟨n, m, g, l, c, b, xs⟩ := x
  obtain ⟨rfl, rfl⟩ : n = 0 ∧ m = 0 := h0
  rfl
 ·rw [if_neg h0]
  have hn : 0 < x.n := by
   simp only [rightEx, Bool.and_eq_true, Bool.or_eq_true, decide_eq_true_eq] at h
   rcases h.2.2 with h3 | h3
   ·exact absurd h3 h0
   ·exact h3
  simp only [gathE]
  rw [look_of hk (.inl rfl) ⟨by decide, by decide⟩]
  simp only [tellE, endD_back hn hx.n hx.m, Option.map_some]
  simp only [show ¬ (6 : Nat) = 1 by decide, if_false, if_true, Option.bind_some]
  rw [tail_back x _ hk ⟨by decide, by decide⟩ hx h]

theorem kinB_self (t n : Nat) (s s' : Int) (d : List UInt8) : kinB ⟨t, n, s, d⟩ ⟨t, n, s', d⟩ = true := by
 rw [kinB, sameB_iff]
theorem sameK_list (x : Ex) (k j : Int) : sameK (listB x k) (listB x j) = true := by
 unfold listB tailB
 split <;> simp [sameK, kinB_self]

theorem of_back (x : Ex) {k : Int} (hk : isK k = true) (hx : x.fit) (h : rightEx x = true) : ofE (listB x k) = .ok x := by
 rw [ofE, gathered_ok (gath_back x hk hx h) (blocksE_yes 0 h), if_pos (sameK_list x k 0)]

end Go.Proofs.YtiahakbkagipkaaGreatDoor
