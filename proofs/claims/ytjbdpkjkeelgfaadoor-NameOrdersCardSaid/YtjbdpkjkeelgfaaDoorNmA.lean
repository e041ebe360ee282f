/- Numbers' texts: digits; which text is a number's. Plain mathematics. -/
import Derived.Lib.ItoaNum
import Derived.Lib.ParseIntBCases
namespace Go.Proofs.YtjbdpkjkeelgfaaDoor
open Go

theorem dd_small {n : Nat} (h : n < 10) : Lib.decDigits n = [UInt8.ofNat (48 + n)] := Lib.decDigits_one h
theorem dd_big {n : Nat} (h : ¬ n < 10) : Lib.decDigits n = Lib.decDigits (n / 10) ++ [UInt8.ofNat (48 + n % 10)] := by rw [Lib.decDigits, dif_neg h]

theorem dig_nat (d : Nat) (h : d < 10) : (UInt8.ofNat (48 + d)).toNat = 48 + d := by
  simp only [UInt8.toNat_ofNat']
  omega

/-- The number whose text it is, among those of 64 bits. -/
def numN (s : List UInt8) : Option Nat :=
  match Lib.parseUintB 64 s with
  | .ok u => if Lib.decDigits u = s then some u else none
  | _ => none

theorem p10_step (acc d : Nat) (r : List UInt8) (hd : d < 10) (h : acc * 10 + d < 18446744073709551616) : Lib.parseUint10 acc (UInt8.ofNat (48 + d) :: r) = Lib.parseUint10 (acc * 10 + d) r := by
  have e := dig_nat d hd
  rw [Lib.parseUint10, e, if_pos (by omega), if_neg (by omega), if_neg (by omega)]
  congr 1
  omega

theorem p10_dd (n : Nat) : ∀ r : List UInt8, n < 18446744073709551616 → Lib.parseUint10 0 (Lib.decDigits n ++ r) = Lib.parseUint10 n r := by
  induction n using Nat.strongRecOn with
  | _ n ih =>
    intro r hn
    by_cases h : n < 10
    · rw [dd_small h, List.singleton_append, p10_step 0 n r h (by omega)]
      congr 1
      omega
    · rw [dd_big h, List.append_assoc, ih (n / 10) (by omega) _ (by omega), List.singleton_append, p10_step _ _ r (by omega) (by omega)]
      congr 1
      omega

theorem dd_ne (n : Nat) : Lib.decDigits n ≠ [] := by
  by_cases h : n < 10
  · rw [dd_small h]; simp
  · rw [dd_big h]; simp

theorem pu_dd (n : Nat) (h : n < 18446744073709551616) : Lib.parseUintB 64 (Lib.decDigits n) = .ok n := by
  have h1 := p10_dd n [] h
  rw [List.append_nil] at h1
  have e : (2 : Nat) ^ 64 - 1 = 18446744073709551615 := by decide
  rw [Lib.parseUintB, if_neg (dd_ne n), e, Lib.parseUintM_64, h1]
  rfl

theorem numN_dd (n : Nat) (h : n < 18446744073709551616) : numN (Lib.decDigits n) = some n := by
  rw [numN, pu_dd n h]
  simp

theorem numN_some {s : List UInt8} {n : Nat} (h : numN s = some n) : n < 18446744073709551616 ∧ s = Lib.decDigits n := by
  unfold numN at h
  split at h
  · rename_i u hu
    split at h
    · rename_i hd
      simp at h
      subst h
      have h2 := Lib.parseUintB_le hu
      have e : (2 : Nat) ^ 64 - 1 = 18446744073709551615 := by decide
      exact ⟨by omega, hd.symm⟩
    · simp at h
  · simp at h

/-! ### Digits, byte by byte. -/

def isDg (c : UInt8) : Bool := decide (48 ≤ c.toNat) && decide (c.toNat ≤ 57)
def dval (l : List UInt8) : Nat := l.foldl (fun n c => 10 * n + (c.toNat - 48)) 0

theorem dval_snoc (l : List UInt8) (c : UInt8) : dval (l ++ [c]) = 10 * dval l + (c.toNat - 48) := by simp [dval]

theorem dd_digits (n : Nat) : ∀ c ∈ Lib.decDigits n, isDg c = true := by
  induction n using Nat.strongRecOn with
  | _ n ih =>
    intro c hc
    by_cases h : n < 10
    · rw [dd_small h, List.mem_singleton] at hc
      subst hc
      unfold isDg
      rw [dig_nat n h]
      simp
      omega
    · rw [dd_big h] at hc
      rcases List.mem_append.1 hc with hc | hc
      · exact ih _ (by omega) c hc
      · rw [List.mem_singleton] at hc
        subst hc
        unfold isDg
        rw [dig_nat (n % 10) (by omega)]
        simp
        omega

theorem dval_dd (n : Nat) : dval (Lib.decDigits n) = n := by
  induction n using Nat.strongRecOn with
  | _ n ih =>
    by_cases h : n < 10
    · rw [dd_small h]
      unfold dval
      simp only [List.foldl_cons, List.foldl_nil]
      rw [dig_nat n h]
      omega
    · rw [dd_big h, dval_snoc, ih _ (by omega), dig_nat _ (by omega)]
      omega

theorem dd_inj {a b : Nat} (h : Lib.decDigits a = Lib.decDigits b) : a = b := by
  rw [← dval_dd a, ← dval_dd b, h]

theorem dd_len (k : Nat) : ∀ n, n < 10 ^ (k + 1) → (Lib.decDigits n).length ≤ k + 1 := by
  induction k with
  | zero =>
    intro n h
    rw [dd_small (by simpa using h)]
    simp
  | succ k ih =>
    intro n h
    by_cases h1 : n < 10
    · rw [dd_small h1]; simp
    · rw [dd_big h1, List.length_append]
      have := ih (n / 10) (by rw [Nat.pow_succ] at h; omega)
      simp
      omega

theorem head_app {a b : List UInt8} (h : a ≠ []) : (a ++ b).head? = a.head? := by
  cases a with
  | nil => exact absurd rfl h
  | cons x r => rfl

theorem dd_head (n : Nat) : (Lib.decDigits n).length = 1 ∨ (Lib.decDigits n).head? ≠ some 48 := by
  induction n using Nat.strongRecOn with
  | _ n ih =>
    by_cases h : n < 10
    · rw [dd_small h]; simp
    · right
      rw [dd_big h]
      by_cases h2 : n / 10 < 10
      · rw [dd_small h2]
        show ¬ (some (UInt8.ofNat (48 + n / 10)) = some 48)
        intro e
        have h3 := dig_nat (n / 10) h2
        have h4 := congrArg UInt8.toNat (Option.some.inj e)
        rw [h3] at h4
        have h5 : (48 : UInt8).toNat = 48 := rfl
        omega
      · have h1 := ih (n / 10) (by omega)
        rw [head_app (dd_ne _)]
        rcases h1 with h1 | h1
        · exfalso
          rw [dd_big h2, List.length_append] at h1
          have := dd_ne (n / 10 / 10)
          have := List.length_pos_iff.2 this
          simp only [List.length_cons, List.length_nil] at h1
          omega
        · exact h1

theorem isDg_eq {c : UInt8} (h : isDg c = true) : 48 ≤ c.toNat ∧ c.toNat ≤ 57 := by simpa [isDg] using h

theorem of_nat_back {c : UInt8} (h : isDg c = true) : UInt8.ofNat (48 + (c.toNat - 48)) = c := by
  have := isDg_eq h
  rw [show 48 + (c.toNat - 48) = c.toNat by omega]
  simp

/-- Digits with no nought ahead are the text of what they are. -/
theorem dd_back_rev : ∀ l : List UInt8, l ≠ [] → (∀ c ∈ l.reverse, isDg c = true) → (l.length = 1 ∨ l.reverse.head? ≠ some 48) → Lib.decDigits (dval l.reverse) = l.reverse
  | [], h, _, _ => absurd rfl h
  | [c], _, hd, _ => by
    have h1 := hd c (by simp)
    have := isDg_eq h1
    have e : dval ([c] : List UInt8).reverse = c.toNat - 48 := by simp [dval]
    rw [e, dd_small (by omega), of_nat_back h1]
    rfl
  | c :: x :: r, _, hd, hh => by
    have hh' : (x :: r).reverse.head? ≠ some 48 := by
      rcases hh with hh | hh
      · simp at hh
      · rw [List.reverse_cons, head_app (by simp)] at hh
        exact hh
    have ih := dd_back_rev (x :: r) (by simp) (fun d hd' => hd d (by rw [List.reverse_cons]; exact List.mem_append_left _ hd')) (.inr hh')
    have h1 := hd c (by simp)
    have hc := isDg_eq h1
    rw [List.reverse_cons, dval_snoc]
    have hpos : 1 ≤ dval (x :: r).reverse := by
      rcases Nat.eq_zero_or_pos (dval (x :: r).reverse) with h0 | h0
      · exfalso
        rw [h0, dd_small (by omega)] at ih
        rw [← ih] at hh'
        exact hh' rfl
      · exact h0
    rw [dd_big (by omega), show (10 * dval (x :: r).reverse + (c.toNat - 48)) / 10 = dval (x :: r).reverse by omega, ih, show (10 * dval (x :: r).reverse + (c.toNat - 48)) % 10 = c.toNat - 48 by omega, of_nat_back h1]

theorem dd_back {l : List UInt8} (h : l ≠ []) (hd : ∀ c ∈ l, isDg c = true) (hh : l.length = 1 ∨ l.head? ≠ some 48) : Lib.decDigits (dval l) = l := by
  have := dd_back_rev l.reverse (by simpa using h) (by simpa using hd) (by simpa using hh)
  simpa using this

/-- The document's number of a text. -/
def tnum (l : List UInt8) (bound : Nat) : Option Nat :=
  if l = [] ∨ 19 < l.length ∨ (1 < l.length ∧ l.head? = some 48) then none
  else if l.all isDg then (if dval l ≤ bound then some (dval l) else none) else none

theorem tnum_iff {l : List UInt8} {bound n : Nat} (hb : bound < 10 ^ 19) : tnum l bound = some n ↔ (l = Lib.decDigits n ∧ n ≤ bound) := by
  unfold tnum
  constructor
  · intro h
    split at h
    · simp at h
    · rename_i h1
      split at h
      · rename_i h2
        split at h
        · rename_i h3
          simp at h
          subst h
          simp only [not_or, not_and] at h1
          refine ⟨(dd_back h1.1 (by simpa using h2) ?_).symm, h3⟩
          have := List.length_pos_iff.2 h1.1
          by_cases h4 : 1 < l.length
          · exact .inr (h1.2.2 h4)
          · exact .inl (by omega)
        · simp at h
      · simp at h
  · rintro ⟨rfl, hn⟩
    have h0 := dd_head n
    have h1 := dd_len 18 n (by omega)
    rw [if_neg, if_pos, dval_dd, if_pos hn]
    · simpa using dd_digits n
    · simp only [not_or, not_and]
      refine ⟨dd_ne n, by omega, fun h => ?_⟩
      rcases h0 with h0 | h0
      · omega
      · exact h0

theorem tnum_numN {l : List UInt8} {bound : Nat} (hb : bound < 10 ^ 19) : tnum l bound = (numN l).filter (fun n => decide (n ≤ bound)) := by
  cases h : numN l with
  | none =>
    cases h2 : tnum l bound with
    | none => rfl
    | some n =>
      obtain ⟨rfl, h3⟩ := (tnum_iff hb).1 h2
      have e : (10 : Nat) ^ 19 = 10000000000000000000 := by decide
      rw [numN_dd n (by omega)] at h
      simp at h
  | some n =>
    obtain ⟨_, rfl⟩ := numN_some h
    by_cases h3 : n ≤ bound
    · rw [(tnum_iff hb).2 ⟨rfl, h3⟩]
      show some n = if decide (n ≤ bound) = true then some n else none
      rw [if_pos (by simpa using h3)]
    · cases h2 : tnum (Lib.decDigits n) bound with
      | none =>
        show none = if decide (n ≤ bound) = true then some n else none
        rw [if_neg (by simpa using h3)]
      | some m =>
        obtain ⟨e, h4⟩ := (tnum_iff hb).1 h2
        have := dd_inj e
        omega

end Go.Proofs.YtjbdpkjkeelgfaaDoor
