/- Joined texts. -/
import Derived.Test.YteldifnkeekafaaGreatDoorZKp
import Derived.Test.YteldifnkeekafaaGreatDoorZJd
import Derived.Test.YteldifnkeekafaaGreatDoorZBu
set_option linter.unusedSimpArgs false
set_option linter.unusedVariables false
set_option maxRecDepth 100000
namespace Go.Proofs.YteldifnkeekafaaGreatDoor
open Go.RowKit Go.Shelf

theorem lg_pow {W : Nat} (h : isW (W : Int) = true) : 2 ^ lg W = W := by
 have := isW_cases h
 have h4 : W = 1 ∨ W = 2 ∨ W = 4 ∨ W = 8 := by omega
 rcases h4 with rfl | rfl | rfl | rfl <;> decide

theorem begins_self' (h r : List UInt8) : begins (h ++ r) h = true := by
 simp [begins]

theorem headN_headB (m : Nat) (n : Int) (r : List UInt8) (hm : m < 8) (hn : U64 n) : headN (headB m n ++ r) = some (m, n, r) := by
 by_cases h : n < 24
 ·obtain ⟨k, rfl⟩ := Int.eq_ofNat_of_zero_le hn.1
  rw [headB_small m k h]
  have hk : k < 24 := by omega
  have e : (UInt8.ofNat (32 * m + ((k : Int)).toNat)).toNat = 32 * m + k := by
   rw [UInt8.toNat_ofNat', Int.toNat_natCast]
   exact Nat.mod_eq_of_lt (by omega)
  simp only [List.singleton_append, headN, e]
  have e1 : (32 * m + k) % 32 = k := by omega
  have e2 : (32 * m + k) / 32 = m := by omega
  rw [e1, e2, if_pos hk]
 ·obtain ⟨W, hW, hx, hf⟩ := least_good n
  have hb := headB_wide m n h W hW
  have hl := lg_le W
  have hp := lg_pow hx
  have e : (UInt8.ofNat (32 * m + 24 + lg W)).toNat = 32 * m + 24 + lg W := by
   rw [UInt8.toNat_ofNat']
   exact Nat.mod_eq_of_lt (by omega)
  have hc : headB m n ++ r = UInt8.ofNat (32 * m + 24 + lg W) :: (beB W n ++ r) := by rw [hb]; rfl
  have ht : (beB W n ++ r).take W = beB W n := by
   rw [List.take_append_of_le_length (by rw [beB_length]; exact Nat.le_refl _)]
   exact List.take_of_length_le (by rw [beB_length]; exact Nat.le_refl _)
  have hd : (beB W n ++ r).drop W = r := by
   have := List.drop_left (l₁ := beB W n) (l₂ := r)
   rwa [beB_length] at this
  have e1 : (32 * m + 24 + lg W) / 32 = m := by omega
  have hnum : numN (beB W n ++ r) W = n := by
   rw [numN, if_pos hx, ht]
   exact valB_put W n hx hn hf
  rw [hc, headN_wide _ _ W (by rw [e, show (32 * m + 24 + lg W) % 32 - 24 = lg W by omega, hp]) (by rw [e]; omega), e, e1, hnum, hd, ← hc, begins_self', if_pos rfl, if_pos (by rw [List.length_append, beB_length]; omega)]

mutual
def It.fit : It → Prop
 | .mk _ n b s l => (U64 n ∧ b.length < 18446744073709551616 ∧ s.length < 18446744073709551616 ∧ l.length < 18446744073709551616) ∧ fitL l
def fitL : List It → Prop
 | [] => True
 | x :: xs => x.fit ∧ fitL xs
end

mutual
theorem ItV.fit {w : World} {B : Nat} : ∀ (x : It) {v : Value}, ItV w B v x → x.fit
 | .mk k n b s l, v, h => by
  simp only [ItV] at h
  obtain ⟨A, ⟨a, c, C, _, _, _, hn, _, h1, h2, h3⟩, hl⟩ := h
  simp only [Sz] at h1 h2 h3
  simp only [It.fit]
  refine ⟨⟨hn, by omega, by omega, by omega⟩, ?_⟩
  rcases hl with rfl | ⟨g, o, _, _, hl⟩
  ·simp only [fitL]
  ·exact ItL.fit l hl
theorem ItL.fit {w : World} {B g : Nat} : ∀ (l : List It) {o : Nat}, ItL w B g o l → fitL l
 | [], _, _ => by simp only [fitL]
 | x :: xs, o, h => by
  simp only [ItL] at h
  obtain ⟨⟨v, _, hv⟩, hr⟩ := h
  simp only [fitL]
  exact ⟨ItV.fit x hv, ItL.fit xs hr⟩
end

theorem ownB1 (n : Int) (b s : List UInt8) (m : Nat) : ownB 1 n b s m = headB 0 n := by simp [ownB]
theorem ownB2 (n : Int) (b s : List UInt8) (m : Nat) : ownB 2 n b s m = headB 2 b.length ++ b := by simp [ownB]
theorem ownB3 (n : Int) (b s : List UInt8) (m : Nat) : ownB 3 n b s m = headB 3 s.length ++ s := by simp [ownB]
theorem ownB4 (n : Int) (b s : List UInt8) (m : Nat) : ownB 4 n b s m = headB 4 m := by simp [ownB]
theorem ownB5 (n : Int) (b s : List UInt8) (m : Nat) : ownB 5 n b s m = headB 7 (20 + n) := by simp [ownB]
theorem ownB6 (n : Int) (b s : List UInt8) (m : Nat) : ownB 6 n b s m = headB 7 22 := by simp [ownB]

theorem u64_nat {n : Nat} (h : n < 18446744073709551616) : U64 (n : Int) := ⟨by omega, by omega⟩

mutual
theorem itemN_of : ∀ (x : It) (k : Nat) (r : List UInt8), x.right = true → x.fit → x.depth ≤ k → itemN k (x.bytes ++ r) = .ok (x, r)
 | .mk k n b s l, 0, r, _, _, hd => by simp [It.depth] at hd
 | .mk k n b s l, j + 1, r, hr, hf, hd => by
  simp only [It.fit] at hf
  obtain ⟨⟨hn, hb, hs, hl⟩, hfl⟩ := hf
  simp only [It.right, Bool.and_eq_true] at hr
  obtain ⟨hr, hrl⟩ := hr
  simp only [It.depth] at hd
  simp only [rightN, Bool.and_eq_true, decide_eq_true_eq] at hr
  obtain ⟨h0, h1, h2, h3, h4⟩ := hr
  simp only [It.bytes]
  rw [itemN]
  by_cases k1 : k = 1
  ·subst k1
   obtain rfl : b = [] := by simpa using h2
   obtain rfl : s = [] := by simpa using h3
   obtain rfl : l = [] := List.eq_nil_of_length_eq_zero (by simpa using h4)
   rw [ownB1, bytesL, List.append_nil, headN_headB 0 n r (by decide) hn]
   simp
  by_cases k2 : k = 2
  ·subst k2
   obtain rfl : n = 0 := by simpa using h1
   obtain rfl : s = [] := by simpa using h3
   obtain rfl : l = [] := List.eq_nil_of_length_eq_zero (by simpa using h4)
   rw [ownB2, bytesL, List.append_nil, List.append_assoc, headN_headB 2 (b.length : Int) (b ++ r) (by decide) (u64_nat hb)]
   simp
  by_cases k3 : k = 3
  ·subst k3
   obtain rfl : n = 0 := by simpa using h1
   obtain rfl : b = [] := by simpa using h2
   obtain rfl : l = [] := List.eq_nil_of_length_eq_zero (by simpa using h4)
   have hu : (runesL s).2 = true := by simpa using h0
   rw [ownB3, bytesL, List.append_nil, List.append_assoc, headN_headB 3 (s.length : Int) (s ++ r) (by decide) (u64_nat hs)]
   simp [textN, hu]
  by_cases k4 : k = 4
  ·subst k4
   obtain rfl : n = 0 := by simpa using h1
   obtain rfl : b = [] := by simpa using h2
   obtain rfl : s = [] := by simpa using h3
   have h := listN_of l j r hrl hfl (by omega)
   rw [ownB4, List.append_assoc, headN_headB 4 (l.length : Int) (bytesL l ++ r) (by decide) (u64_nat hl)]
   simp [h]
  have h4' : l.length = 0 := by simpa [k4] using h4
  obtain rfl : b = [] := by simpa [k2] using h2
  obtain rfl : s = [] := by simpa [k3] using h3
  obtain rfl : l = [] := List.eq_nil_of_length_eq_zero h4'
  by_cases k5 : k = 5
  ·subst k5
   have hn1 : n ≤ 1 := by simpa using h0
   have hn0 : 0 ≤ n := hn.1
   have hc : n = 0 ∨ n = 1 := by omega
   rw [ownB5, bytesL, List.append_nil, headN_headB 7 (20 + n) r (by decide) ⟨by omega, by omega⟩]
   rcases hc with rfl | rfl <;> simp [bareN]
  ·have k6 : k = 6 := by simpa [k1, k2, k3, k4, k5] using h0
   subst k6
   obtain rfl : n = 0 := by simpa using h1
   rw [ownB6, bytesL, List.append_nil, headN_headB 7 22 r (by decide) ⟨by decide, by decide⟩]
   simp [bareN]
theorem listN_of : ∀ (l : List It) (k : Nat) (r : List UInt8), rightL l = true → fitL l → It.depth.depthL l ≤ k → listN (itemN k) l.length (bytesL l ++ r) = .ok (l, r)
 | [], k, r, _, _, _ => by simp [listN, bytesL]
 | x :: xs, k, r, hr, hf, hd => by
  simp only [rightL, Bool.and_eq_true] at hr
  simp only [fitL] at hf
  simp only [It.depth.depthL] at hd
  have h1 := itemN_of x k (bytesL xs ++ r) hr.1 hf.1 (by omega)
  have h2 := listN_of xs k r hr.2 hf.2 (by omega)
  simp only [bytesL, List.length_cons, listN, List.append_assoc]
  rw [h1]
  simp only []
  rw [h2]
end

theorem begins_split {b a : List UInt8} (h : begins b a = true) : b = a ++ b.drop a.length := by
 simp only [begins, Bool.and_eq_true, decide_eq_true_eq, beq_iff_eq] at h
 have h2 := List.take_append_drop a.length b
 rw [h.2] at h2
 exact h2.symm

theorem headN_back {bs r : List UInt8} {m : Nat} {n : Int} (h : headN bs = some (m, n, r)) : bs = headB m n ++ r := by
 have hu := headN_u64 h
 cases bs with
 | nil => simp [headN] at h
 | cons f t =>
  have hf := f.toNat_lt
  by_cases h24 : f.toNat % 32 < 24
  ·simp only [headN, if_pos h24, Option.some.injEq, Prod.mk.injEq] at h
   obtain ⟨rfl, rfl, rfl⟩ := h
   rw [headB_small _ _ (by omega)]
   have e : UInt8.ofNat (32 * (f.toNat / 32) + ((f.toNat % 32 : Nat) : Int).toNat) = f := by
    rw [Int.toNat_natCast, show 32 * (f.toNat / 32) + f.toNat % 32 = f.toNat by omega]
    exact UInt8.ofNat_toNat
   rw [e]
   rfl
  ·rw [headN_wide f t (2 ^ (f.toNat % 32 - 24)) rfl h24] at h
   generalize hN : numN t (2 ^ (f.toNat % 32 - 24)) = N at h
   split at h
   ·split at h
    ·rename_i hlen hbeg
     simp only [Option.some.injEq, Prod.mk.injEq] at h
     obtain ⟨rfl, rfl, rfl⟩ := h
     have hs := begins_split hbeg
     by_cases hn24 : N < 24
     ·exfalso
      obtain ⟨k, rfl⟩ := Int.eq_ofNat_of_zero_le hu.1.1
      rw [headB_small _ k hn24] at hs
      simp only [List.singleton_append, List.cons.injEq] at hs
      have e := congrArg UInt8.toNat hs.1
      rw [UInt8.toNat_ofNat', Int.toNat_natCast, Nat.mod_eq_of_lt (by omega)] at e
      omega
     ·obtain ⟨W, hW, hx, _⟩ := least_good N
      have hb := headB_wide (f.toNat / 32) N hn24 W hW
      have hl := lg_le W
      have hp := lg_pow hx
      rw [hb] at hs ⊢
      simp only [List.cons_append, List.nil_append, List.cons.injEq, List.length_cons, beB_length, List.drop_succ_cons] at hs
      have e := congrArg UInt8.toNat hs.1
      rw [UInt8.toNat_ofNat', Nat.mod_eq_of_lt (by omega)] at e
      have e2 : 2 ^ (f.toNat % 32 - 24) = W := by
       rw [show f.toNat % 32 - 24 = lg W by omega, hp]
      rw [e2, List.cons_append, List.nil_append, List.cons_append, ← hs.1, ← hs.2]
    ·cases h
   ·cases h

theorem listN_back {g : List UInt8 → Except Nat (It × List UInt8)} {k : Nat} (hg : ∀ r x r1, g r = .ok (x, r1) → x.right = true ∧ x.depth ≤ k ∧ r = x.bytes ++ r1) :
  ∀ (c : Nat) (r : List UInt8) (l : List It) (r2 : List UInt8), listN g c r = .ok (l, r2) → l.length = c ∧ rightL l = true ∧ It.depth.depthL l ≤ k ∧ r = bytesL l ++ r2
 | 0, r, l, r2, h => by
  simp only [listN, Except.ok.injEq, Prod.mk.injEq] at h
  obtain ⟨rfl, rfl⟩ := h
  exact ⟨rfl, by simp [rightL], by simp [It.depth.depthL], by simp [bytesL]⟩
 | c + 1, r, l, r2, h => by
  simp only [listN] at h
  split at h
  ·cases h
  ·rename_i x r1 hx
   split at h
   ·cases h
   ·rename_i l' r3 hl
    simp only [Except.ok.injEq, Prod.mk.injEq] at h
    obtain ⟨rfl, rfl⟩ := h
    obtain ⟨h1, h2, h3⟩ := hg _ _ _ hx
    obtain ⟨k1, k2, k3, k4⟩ := listN_back hg c _ _ _ hl
    refine ⟨by simp [k1], by simp [rightL, h1, k2], by simp only [It.depth.depthL]; omega, ?_⟩
    rw [h3, k4, bytesL, List.append_assoc]

theorem itemN_back : ∀ (k : Nat) (bs : List UInt8) (x : It) (r : List UInt8), itemN k bs = .ok (x, r) → x.right = true ∧ x.depth ≤ k ∧ bs = x.bytes ++ r
 | 0, bs, x, r, h => by simp [itemN] at h
 | k + 1, bs, x, r, h => by
  rw [itemN] at h
  split at h
  ·cases h
  ·rename_i m n r0 hh
   have hb := headN_back hh
   have hu := (headN_u64 hh).1
   have hnn : ((n.toNat : Nat) : Int) = n := Int.toNat_of_nonneg hu.1
   split at h
   ·rename_i hm
    subst hm
    simp only [Except.ok.injEq, Prod.mk.injEq] at h
    obtain ⟨rfl, rfl⟩ := h
    refine ⟨by simp [It.right, rightN, rightL], by simp [It.depth, It.depth.depthL], ?_⟩
    rw [hb, It.bytes, ownB1, bytesL, List.append_nil]
   split at h
   ·rename_i hm
    subst hm
    split at h
    ·rename_i hle
     simp only [Except.ok.injEq, Prod.mk.injEq] at h
     obtain ⟨rfl, rfl⟩ := h
     refine ⟨by simp [It.right, rightN, rightL], by simp [It.depth, It.depth.depthL], ?_⟩
     rw [hb, It.bytes, ownB2, bytesL, List.append_nil, List.length_take, Nat.min_eq_left hle, hnn, List.append_assoc, List.take_append_drop]
    ·cases h
   split at h
   ·rename_i hm
    subst hm
    rw [textN] at h
    split at h
    ·rename_i hle
     split at h
     ·rename_i hru
      simp only [Except.ok.injEq, Prod.mk.injEq] at h
      obtain ⟨rfl, rfl⟩ := h
      refine ⟨by simp [It.right, rightN, rightL, hru], by simp [It.depth, It.depth.depthL], ?_⟩
      rw [hb, It.bytes, ownB3, bytesL, List.append_nil, List.length_take, Nat.min_eq_left hle, hnn, List.append_assoc, List.take_append_drop]
     ·cases h
    ·cases h
   split at h
   ·rename_i hm
    subst hm
    split at h
    ·cases h
    ·rename_i l r' hl
     simp only [Except.ok.injEq, Prod.mk.injEq] at h
     obtain ⟨rfl, rfl⟩ := h
     obtain ⟨h1, h2, h3, h4⟩ := listN_back (itemN_back k) _ _ _ _ hl
     refine ⟨by simp [It.right, rightN, h2], by simp only [It.depth]; omega, ?_⟩
     rw [hb, It.bytes, ownB4, h1, hnn, List.append_assoc, ← h4]
   split at h
   ·rename_i hm
    subst hm
    rw [bareN] at h
    split at h
    ·rename_i hn
     simp only [Except.ok.injEq, Prod.mk.injEq] at h
     obtain ⟨rfl, rfl⟩ := h
     refine ⟨by rcases hn with rfl | rfl <;> simp [It.right, rightN, rightL], by simp [It.depth, It.depth.depthL], ?_⟩
     rw [hb, It.bytes, ownB5, bytesL, List.append_nil, show 20 + (n - 20) = n by omega]
    ·split at h
     ·rename_i hn
      subst hn
      simp only [Except.ok.injEq, Prod.mk.injEq] at h
      obtain ⟨rfl, rfl⟩ := h
      refine ⟨by simp [It.right, rightN, rightL], by simp [It.depth, It.depth.depthL], ?_⟩
      rw [hb, It.bytes, ownB6, bytesL, List.append_nil]
     ·cases h
   ·cases h

theorem firstN_back {bs : List UInt8} {x : It} {n : Nat} (h : firstN bs = .ok (x, n)) : x.err = 0 ∧ n ≤ bs.length ∧ x.bytes = bs.take n ∧ x.bytes.length = n := by
 rw [firstN] at h
 split at h
 ·cases h
 ·rename_i hlo
  split at h
  ·cases h
  ·rename_i y r hi
   simp only [Except.ok.injEq, Prod.mk.injEq] at h
   obtain ⟨rfl, rfl⟩ := h
   obtain ⟨h1, h2, rfl⟩ := itemN_back 8 _ _ _ hi
   rw [List.length_append] at hlo ⊢
   have e : y.bytes.length + r.length - r.length = y.bytes.length := by omega
   rw [e]
   refine ⟨?_, by omega, by simp, rfl⟩
   rw [It.err, if_pos h1, if_neg (by omega), if_neg (by omega)]

theorem firstN_of (x : It) (r : List UInt8) (he : x.err = 0) (hf : x.fit) (hl : (x.bytes ++ r).length ≤ 65536) : firstN (x.bytes ++ r) = .ok (x, x.bytes.length) := by
 have h1 : x.right = true := by
  cases hr : x.right
  ·simp [It.err, hr] at he
  ·rfl
 have h2 : x.depth ≤ 8 := by
  by_cases h : 8 < x.depth
  ·simp [It.err, h1, h] at he
  ·omega
 rw [firstN, if_neg (by omega), itemN_of x 8 r h1 hf h2]
 simp

end Go.Proofs.YteldifnkeekafaaGreatDoor

namespace Go.Proofs.YteldifnkeekafaaGreatDoor
open Go Go.RowKit Go.Shelf

theorem decodeN_err {bs : List UInt8} {c : Nat} (h : decodeN bs = .error c) : c = 3 ∨ c = 120 ∨ c = 121 := by
 unfold decodeN at h
 split at h
 ·rename_i q hq
  injection h with h
  subst h
  exact firstN_err hq
 ·split at h
  ·injection h with h
   exact .inr (.inr h.symm)
  ·cases h

end Go.Proofs.YteldifnkeekafaaGreatDoor
