/- Joined texts. -/
import Derived.Lib.ItoaNum
import Derived.Lib.ParseIntBCases
import Derived.Test.YtlmdbeccfoncpaaGreatDoorZJa
import Derived.Shelf.Strconv.Itoa1
import Derived.Shelf.Strconv.Itoa2
import Derived.Lib.ItoaMem
import Derived.Shelf.Pu.ErrVarParseUint
import Derived.Lib.Hide
import Derived.Recover
import Derived.Laws.RangeAny
import Derived.Lib.OthersKept
import Derived.Deep.RegionHeld3
import Derived.Deep.QuietTactic
import Derived.BigQuiet
namespace Go.Proofs.YtlmdbeccfoncpaaGreatDoor
open Go

theorem dd_small {n : Nat} (h : n < 10) : Lib.decDigits n = [UInt8.ofNat (48 + n)] := Lib.decDigits_one h
theorem dd_big {n : Nat} (h : ¬ n < 10) : Lib.decDigits n = Lib.decDigits (n / 10) ++ [UInt8.ofNat (48 + n % 10)] := by rw [Lib.decDigits, dif_neg h]

theorem dig_nat (d : Nat) (h : d < 10) : (UInt8.ofNat (48 + d)).toNat = 48 + d := by
  simp only [UInt8.toNat_ofNat']
  omega

/-- The number whose text it is, among those of 64 bits. -/
def nmNumN (s : List UInt8) : Option Nat :=
  match Lib.parseUintB 64 s with
  | .ok u => if Lib.decDigits u = s then some u else none
  | _ => none

theorem p10_step (acc d : Nat) (r : List UInt8) (hd : d < 10) (h : acc * 10 + d < 18446744073709551616) : Lib.parseUint10 acc (UInt8.ofNat (48 + d) :: r) = Lib.parseUint10 (acc * 10 + d) r := by
  have e := dig_nat d hd
  rw [Lib.parseUint10, e, if_pos (by omega), if_neg (by omega), if_neg (by omega)]
  congr 1
  omega

theorem p10_dd (n : Nat) : ∀ r : List UInt8, n < 18446744073709551616 → Lib.parseUint10 0 (Lib.decDigits n ++ r) = Lib.parseUint10 n r := by
  induction n using Nat.strongRecOn with
  | _ n ih =>
    intro r hn
    by_cases h : n < 10
    · rw [dd_small h, List.singleton_append, p10_step 0 n r h (by omega)]
      congr 1
      omega
    · rw [dd_big h, List.append_assoc, ih (n / 10) (by omega) _ (by omega), List.singleton_append, p10_step _ _ r (by omega) (by omega)]
      congr 1
      omega

theorem dd_ne (n : Nat) : Lib.decDigits n ≠ [] := by
  by_cases h : n < 10
  · rw [dd_small h]; simp
  · rw [dd_big h]; simp

theorem pu_dd (n : Nat) (h : n < 18446744073709551616) : Lib.parseUintB 64 (Lib.decDigits n) = .ok n := by
  have h1 := p10_dd n [] h
  rw [List.append_nil] at h1
  have e : (2 : Nat) ^ 64 - 1 = 18446744073709551615 := by decide
  rw [Lib.parseUintB, if_neg (dd_ne n), e, Lib.parseUintM_64, h1]
  rfl

theorem numN_dd (n : Nat) (h : n < 18446744073709551616) : nmNumN (Lib.decDigits n) = some n := by
  rw [nmNumN, pu_dd n h]
  simp

theorem numN_some {s : List UInt8} {n : Nat} (h : nmNumN s = some n) : n < 18446744073709551616 ∧ s = Lib.decDigits n := by
  unfold nmNumN at h
  split at h
  · rename_i u hu
    split at h
    · rename_i hd
      simp at h
      subst h
      have h2 := Lib.parseUintB_le hu
      have e : (2 : Nat) ^ 64 - 1 = 18446744073709551615 := by decide
      exact ⟨by omega, hd.symm⟩
    · simp at h
  · simp at h

/-! ### Digits, byte by byte. -/

def isDg (c : UInt8) : Bool := decide (48 ≤ c.toNat) && decide (c.toNat ≤ 57)
def dval (l : List UInt8) : Nat := l.foldl (fun n c => 10 * n + (c.toNat - 48)) 0

theorem dval_snoc (l : List UInt8) (c : UInt8) : dval (l ++ [c]) = 10 * dval l + (c.toNat - 48) := by simp [dval]

theorem dd_digits (n : Nat) : ∀ c ∈ Lib.decDigits n, isDg c = true := by
  induction n using Nat.strongRecOn with
  | _ n ih =>
    intro c hc
    by_cases h : n < 10
    · rw [dd_small h, List.mem_singleton] at hc
      subst hc
      unfold isDg
      rw [dig_nat n h]
      simp
      omega
    · rw [dd_big h] at hc
      rcases List.mem_append.1 hc with hc | hc
      · exact ih _ (by omega) c hc
      · rw [List.mem_singleton] at hc
        subst hc
        unfold isDg
        rw [dig_nat (n % 10) (by omega)]
        simp
        omega

theorem dval_dd (n : Nat) : dval (Lib.decDigits n) = n := by
  induction n using Nat.strongRecOn with
  | _ n ih =>
    by_cases h : n < 10
    · rw [dd_small h]
      unfold dval
      simp only [List.foldl_cons, List.foldl_nil]
      rw [dig_nat n h]
      omega
    · rw [dd_big h, dval_snoc, ih _ (by omega), dig_nat _ (by omega)]
      omega

theorem dd_inj {a b : Nat} (h : Lib.decDigits a = Lib.decDigits b) : a = b := by
  rw [← dval_dd a, ← dval_dd b, h]

theorem dd_len (k : Nat) : ∀ n, n < 10 ^ (k + 1) → (Lib.decDigits n).length ≤ k + 1 := by
  induction k with
  | zero =>
    intro n h
    rw [dd_small (by simpa using h)]
    simp
  | succ k ih =>
    intro n h
    by_cases h1 : n < 10
    · rw [dd_small h1]; simp
    · rw [dd_big h1, List.length_append]
      have := ih (n / 10) (by rw [Nat.pow_succ] at h; omega)
      simp
      omega

theorem head_app {a b : List UInt8} (h : a ≠ []) : (a ++ b).head? = a.head? := by
  cases a with
  | nil => exact absurd rfl h
  | cons x r => rfl

theorem dd_head (n : Nat) : (Lib.decDigits n).length = 1 ∨ (Lib.decDigits n).head? ≠ some 48 := by
  induction n using Nat.strongRecOn with
  | _ n ih =>
    by_cases h : n < 10
    · rw [dd_small h]; simp
    · right
      rw [dd_big h]
      by_cases h2 : n / 10 < 10
      · rw [dd_small h2]
        show ¬ (some (UInt8.ofNat (48 + n / 10)) = some 48)
        intro e
        have h3 := dig_nat (n / 10) h2
        have h4 := congrArg UInt8.toNat (Option.some.inj e)
        rw [h3] at h4
        have h5 : (48 : UInt8).toNat = 48 := rfl
        omega
      · have h1 := ih (n / 10) (by omega)
        rw [head_app (dd_ne _)]
        rcases h1 with h1 | h1
        · exfalso
          rw [dd_big h2, List.length_append] at h1
          have := dd_ne (n / 10 / 10)
          have := List.length_pos_iff.2 this
          simp only [List.length_cons, List.length_nil] at h1
          omega
        · exact h1

theorem isDg_eq {c : UInt8} (h : isDg c = true) : 48 ≤ c.toNat ∧ c.toNat ≤ 57 := by simpa [isDg] using h

theorem of_nat_back {c : UInt8} (h : isDg c = true) : UInt8.ofNat (48 + (c.toNat - 48)) = c := by
  have := isDg_eq h
  rw [show 48 + (c.toNat - 48) = c.toNat by omega]
  simp

/-- Digits with no nought ahead are the text of what they are. -/
theorem dd_back_rev : ∀ l : List UInt8, l ≠ [] → (∀ c ∈ l.reverse, isDg c = true) → (l.length = 1 ∨ l.reverse.head? ≠ some 48) → Lib.decDigits (dval l.reverse) = l.reverse
  | [], h, _, _ => absurd rfl h
  | [c], _, hd, _ => by
    have h1 := hd c (by simp)
    have := isDg_eq h1
    have e : dval ([c] : List UInt8).reverse = c.toNat - 48 := by simp [dval]
    rw [e, dd_small (by omega), of_nat_back h1]
    rfl
  | c :: x :: r, _, hd, hh => by
    have hh' : (x :: r).reverse.head? ≠ some 48 := by
      rcases hh with hh | hh
      · simp at hh
      · rw [List.reverse_cons, head_app (by simp)] at hh
        exact hh
    have ih := dd_back_rev (x :: r) (by simp) (fun d hd' => hd d (by rw [List.reverse_cons]; exact List.mem_append_left _ hd')) (.inr hh')
    have h1 := hd c (by simp)
    have hc := isDg_eq h1
    rw [List.reverse_cons, dval_snoc]
    have hpos : 1 ≤ dval (x :: r).reverse := by
      rcases Nat.eq_zero_or_pos (dval (x :: r).reverse) with h0 | h0
      · exfalso
        rw [h0, dd_small (by omega)] at ih
        rw [← ih] at hh'
        exact hh' rfl
      · exact h0
    rw [dd_big (by omega), show (10 * dval (x :: r).reverse + (c.toNat - 48)) / 10 = dval (x :: r).reverse by omega, ih, show (10 * dval (x :: r).reverse + (c.toNat - 48)) % 10 = c.toNat - 48 by omega, of_nat_back h1]

theorem dd_back {l : List UInt8} (h : l ≠ []) (hd : ∀ c ∈ l, isDg c = true) (hh : l.length = 1 ∨ l.head? ≠ some 48) : Lib.decDigits (dval l) = l := by
  have := dd_back_rev l.reverse (by simpa using h) (by simpa using hd) (by simpa using hh)
  simpa using this

/-- The document's number of a text. -/
def tnum (l : List UInt8) (bound : Nat) : Option Nat :=
  if l = [] ∨ 19 < l.length ∨ (1 < l.length ∧ l.head? = some 48) then none
  else if l.all isDg then (if dval l ≤ bound then some (dval l) else none) else none

theorem tnum_iff {l : List UInt8} {bound n : Nat} (hb : bound < 10 ^ 19) : tnum l bound = some n ↔ (l = Lib.decDigits n ∧ n ≤ bound) := by
  unfold tnum
  constructor
  · intro h
    split at h
    · simp at h
    · rename_i h1
      split at h
      · rename_i h2
        split at h
        · rename_i h3
          simp at h
          subst h
          simp only [not_or, not_and] at h1
          refine ⟨(dd_back h1.1 (by simpa using h2) ?_).symm, h3⟩
          have := List.length_pos_iff.2 h1.1
          by_cases h4 : 1 < l.length
          · exact .inr (h1.2.2 h4)
          · exact .inl (by omega)
        · simp at h
      · simp at h
  · rintro ⟨rfl, hn⟩
    have h0 := dd_head n
    have h1 := dd_len 18 n (by omega)
    rw [if_neg, if_pos, dval_dd, if_pos hn]
    · simpa using dd_digits n
    · simp only [not_or, not_and]
      refine ⟨dd_ne n, by omega, fun h => ?_⟩
      rcases h0 with h0 | h0
      · omega
      · exact h0

theorem tnum_numN {l : List UInt8} {bound : Nat} (hb : bound < 10 ^ 19) : tnum l bound = (nmNumN l).filter (fun n => decide (n ≤ bound)) := by
  cases h : nmNumN l with
  | none =>
    cases h2 : tnum l bound with
    | none => rfl
    | some n =>
      obtain ⟨rfl, h3⟩ := (tnum_iff hb).1 h2
      have e : (10 : Nat) ^ 19 = 10000000000000000000 := by decide
      rw [numN_dd n (by omega)] at h
      simp at h
  | some n =>
    obtain ⟨_, rfl⟩ := numN_some h
    by_cases h3 : n ≤ bound
    · rw [(tnum_iff hb).2 ⟨rfl, h3⟩]
      show some n = if decide (n ≤ bound) = true then some n else none
      rw [if_pos (by simpa using h3)]
    · cases h2 : tnum (Lib.decDigits n) bound with
      | none =>
        show none = if decide (n ≤ bound) = true then some n else none
        rw [if_neg (by simpa using h3)]
      | some m =>
        obtain ⟨e, h4⟩ := (tnum_iff hb).1 h2
        have := dd_inj e
        omega

end Go.Proofs.YtlmdbeccfoncpaaGreatDoor

namespace Go.Proofs.YtlmdbeccfoncpaaGreatDoor
open Go

/-- What is ahead of, and behind the first such byte. -/
def cutL (c : UInt8) : List UInt8 → Option (List UInt8 × List UInt8)
  | [] => none
  | x :: r => if x = c then some ([], r) else (cutL c r).map fun p => (x :: p.1, p.2)

theorem cutL_iff {c : UInt8} : ∀ {l a b : List UInt8}, cutL c l = some (a, b) ↔ (l = a ++ c :: b ∧ c ∉ a)
  | [], a, b => by simp [cutL]
  | x :: r, a, b => by
    by_cases h : x = c
    · subst h
      simp only [cutL, if_pos]
      constructor
      · intro h
        simp at h
        obtain ⟨rfl, rfl⟩ := h
        simp
      · rintro ⟨h1, h2⟩
        cases a with
        | nil => simp at h1; simp [h1]
        | cons y a => simp at h1; simp [h1.1] at h2
    · simp only [cutL, if_neg h]
      constructor
      · intro h1
        cases hc : cutL c r with
        | none => simp [hc] at h1
        | some p =>
          obtain ⟨p1, p2⟩ := p
          simp [hc] at h1
          obtain ⟨rfl, rfl⟩ := h1
          obtain ⟨h2, h3⟩ := cutL_iff.1 hc
          simp [h2, h3]
          exact fun e => h e.symm
      · rintro ⟨h1, h2⟩
        cases a with
        | nil => simp at h1; exact absurd h1.1 h
        | cons y a =>
          simp at h1
          obtain ⟨rfl, rfl⟩ := h1
          have := (cutL_iff (c := c) (l := a ++ c :: b) (a := a) (b := b)).2 ⟨rfl, fun h3 => h2 (List.mem_cons_of_mem _ h3)⟩
          rw [this]
          rfl

theorem cutL_none {c : UInt8} {l : List UInt8} : cutL c l = none ↔ c ∉ l := by
  induction l with
  | nil => simp [cutL]
  | cons x r ih =>
    by_cases h : x = c
    · subst h
      simp [cutL]
    · have h' : ¬ c = x := fun e => h e.symm
      simp [cutL, h, h', ih]

theorem cutL_app {c : UInt8} {a b : List UInt8} (h : c ∉ a) : cutL c (a ++ c :: b) = some (a, b) := cutL_iff.2 ⟨rfl, h⟩

def wIpn : List UInt8 := [105, 112, 110]
def wDtn : List UInt8 := [100, 116, 110]
def wNone : List UInt8 := [110, 111, 110, 101]

/-- The endpoint of a text. -/
def epN (s : List UInt8) : Option (Nat × Nat) :=
  match cutL 58 s with
  | none => none
  | some (h, r) =>
    if h = wDtn then (if r = wNone then some (0, 0) else none)
    else if h = wIpn then
      match cutL 46 r with
      | none => none
      | some (a, b) =>
        match nmNumN a, nmNumN b with
        | some n, some m => if 0 < n ∧ n ≤ 4294967295 ∧ m ≤ 4294967295 then some (n, m) else none
        | _, _ => none
    else none

def forever : Nat := 4611686018427387903

/-- The name of a text. -/
def nmN (s : List UInt8) : Option (Nat × Nat × Nat × Nat) :=
  match cutL 32 s with
  | none => none
  | some (a, r) =>
    match cutL 32 r with
    | none => none
    | some (b, c) =>
      match epN a, nmNumN b, nmNumN c with
      | some (n, m), some t, some q => if 0 < n ∧ t ≤ forever ∧ q ≤ 4294967295 then some (n, m, t, q) else none
      | _, _, _ => none

/-- An endpoint's text. -/
def txE (n m : Nat) : List UInt8 := if n = 0 then wDtn ++ 58 :: wNone else wIpn ++ 58 :: (Lib.decDigits n ++ 46 :: Lib.decDigits m)
/-- A name's. -/
def txN (n m t q : Nat) : List UInt8 := txE n m ++ 32 :: (Lib.decDigits t ++ 32 :: Lib.decDigits q)

theorem dd_no {c : UInt8} (h : isDg c = false) (n : Nat) : c ∉ Lib.decDigits n := fun hc => by
  have := dd_digits n c hc
  rw [h] at this
  cases this

theorem epN_iff {s : List UInt8} {n m : Nat} : epN s = some (n, m) ↔ (s = txE n m ∧ (0 < n ∨ m = 0) ∧ n ≤ 4294967295 ∧ m ≤ 4294967295) := by
  constructor
  · intro h
    unfold epN at h
    split at h
    · simp at h
    · rename_i hd r hc
      obtain ⟨rfl, h1⟩ := cutL_iff.1 hc
      split at h
      · rename_i e
        subst e
        split at h
        · rename_i e
          subst e
          simp at h
          obtain ⟨rfl, rfl⟩ := h
          exact ⟨rfl, by decide⟩
        · simp at h
      · split at h
        · rename_i e
          subst e
          split at h
          · simp at h
          · rename_i a b hc2
            obtain ⟨rfl, h2⟩ := cutL_iff.1 hc2
            split at h
            · rename_i n' m' hn hm
              split at h
              · rename_i hb
                simp at h
                obtain ⟨rfl, rfl⟩ := h
                obtain ⟨_, rfl⟩ := numN_some hn
                obtain ⟨_, rfl⟩ := numN_some hm
                refine ⟨?_, .inl hb.1, hb.2⟩
                rw [txE, if_neg (by omega)]
              · simp at h
            · simp at h
        · simp at h
  · rintro ⟨rfl, h1, h2, h3⟩
    by_cases h0 : n = 0
    · subst h0
      obtain rfl : m = 0 := by omega
      decide +kernel
    · rw [txE, if_neg h0, epN, cutL_app (by decide)]
      simp only [show ¬ wIpn = wDtn by decide, if_false, if_true]
      rw [cutL_app (dd_no (by decide) n)]
      simp only []
      rw [numN_dd n (by omega), numN_dd m (by omega)]
      simp
      omega

theorem txE_no {c : UInt8} (h : isDg c = false) (h1 : c ∉ wDtn ++ 58 :: wNone) (h2 : c ∉ wIpn) (h3 : c ≠ 58) (h4 : c ≠ 46) (n m : Nat) : c ∉ txE n m := by
  unfold txE
  split
  · exact h1
  · simp [h2, h3, h4, dd_no h]

theorem txE_no32 (n m : Nat) : (32 : UInt8) ∉ txE n m := txE_no (by decide) (by decide) (by decide) (by decide) (by decide) n m

theorem nmN_iff {s : List UInt8} {n m t q : Nat} : nmN s = some (n, m, t, q) ↔ (s = txN n m t q ∧ 0 < n ∧ n ≤ 4294967295 ∧ m ≤ 4294967295 ∧ t ≤ forever ∧ q ≤ 4294967295) := by
  constructor
  · intro h
    unfold nmN at h
    split at h
    · simp at h
    · rename_i a r hc
      obtain ⟨rfl, h1⟩ := cutL_iff.1 hc
      split at h
      · simp at h
      · rename_i b c hc2
        obtain ⟨rfl, h2⟩ := cutL_iff.1 hc2
        split at h
        · rename_i n' m' t' q' he ht hq
          split at h
          · rename_i hb
            simp at h
            obtain ⟨rfl, rfl, rfl, rfl⟩ := h
            obtain ⟨rfl, h3, h4, h5⟩ := epN_iff.1 he
            obtain ⟨_, rfl⟩ := numN_some ht
            obtain ⟨_, rfl⟩ := numN_some hq
            exact ⟨rfl, hb.1, h4, h5, hb.2⟩
          · simp at h
        · simp at h
  · rintro ⟨rfl, h1, h2, h3, h4, h5⟩
    have hf : forever < 18446744073709551616 := by decide
    rw [txN, nmN, cutL_app (txE_no32 n m)]
    simp only []
    rw [cutL_app (dd_no (by decide) t)]
    simp only []
    rw [epN_iff.2 ⟨rfl, .inl h1, h2, h3⟩, numN_dd t (by omega), numN_dd q (by omega)]
    simp
    omega

/-- The document's cut: what it tells where there is no such byte, too. -/
def cutD (c : UInt8) (l : List UInt8) : List UInt8 × List UInt8 × Bool :=
  match cutL c l with
  | none => (l, [], false)
  | some (a, b) => (a, b, true)

/-- The document's endpoint of a text. -/
def epR (s : List UInt8) : Option (Nat × Nat) :=
  if s = wDtn ++ 58 :: wNone then some (0, 0)
  else if s.length < 4 ∨ s.take 4 ≠ wIpn ++ [58] then none
  else match cutL 46 (s.drop 4) with
    | none => none
    | some (a, b) => match tnum a 4294967295, tnum b 4294967295 with
      | some n, some m => if n = 0 then none else some (n, m)
      | _, _ => none

theorem epR_eq (s : List UInt8) : epR s = epN s := by
  apply Option.ext
  rintro ⟨n, m⟩
  rw [epN_iff]
  unfold epR
  constructor
  · intro h
    split at h
    · rename_i e
      simp at h
      obtain ⟨rfl, rfl⟩ := h
      exact ⟨e, by decide⟩
    · split at h
      · simp at h
      · rename_i h1
        simp only [not_or, Nat.not_lt, ne_eq, Classical.not_not] at h1
        have hs : s = wIpn ++ 58 :: s.drop 4 := by
          have := (List.take_append_drop 4 s).symm
          rw [h1.2] at this
          simpa using this
        split at h
        · simp at h
        · rename_i a b hc
          obtain ⟨h2, h3⟩ := cutL_iff.1 hc
          split at h
          · rename_i n' m' hn hm
            obtain ⟨rfl, hn1⟩ := (tnum_iff (by decide)).1 hn
            obtain ⟨rfl, hm1⟩ := (tnum_iff (by decide)).1 hm
            split at h
            · simp at h
            · rename_i h0
              simp at h
              obtain ⟨rfl, rfl⟩ := h
              rw [h2] at hs
              exact ⟨by rw [txE, if_neg h0]; exact hs, .inl (by omega), hn1, hm1⟩
          · simp at h
  · rintro ⟨rfl, h1, h2, h3⟩
    by_cases h0 : n = 0
    · subst h0
      obtain rfl : m = 0 := by omega
      decide +kernel
    · have e : txE n m = wIpn ++ 58 :: (Lib.decDigits n ++ 46 :: Lib.decDigits m) := by rw [txE, if_neg h0]
      rw [e, if_neg (by intro h; simp [wIpn, wDtn] at h), if_neg (by simp [wIpn])]
      have e2 : (wIpn ++ 58 :: (Lib.decDigits n ++ 46 :: Lib.decDigits m)).drop 4 = Lib.decDigits n ++ 46 :: Lib.decDigits m := rfl
      rw [e2, cutL_app (dd_no (by decide) n)]
      simp only []
      rw [(tnum_iff (bound := 4294967295) (by decide)).2 ⟨rfl, h2⟩, (tnum_iff (bound := 4294967295) (by decide)).2 ⟨rfl, h3⟩]
      simp [h0]

/-- The document's name of a text. -/
def nmR (s : List UInt8) : Option (Nat × Nat × Nat × Nat) :=
  match cutL 32 s with
  | none => none
  | some (a, r) => match cutL 32 r with
    | none => none
    | some (b, c) => match epR a, tnum b forever, tnum c 4294967295 with
      | some (n, m), some t, some q => if n = 0 ∧ m = 0 then none else some (n, m, t, q)
      | _, _, _ => none

theorem nmR_eq (s : List UInt8) : nmR s = nmN s := by
  unfold nmR nmN
  cases cutL 32 s with
  | none => rfl
  | some p =>
    obtain ⟨a, r⟩ := p
    simp only []
    cases cutL 32 r with
    | none => rfl
    | some p =>
      obtain ⟨b, c⟩ := p
      simp only []
      rw [epR_eq, tnum_numN (by decide), tnum_numN (by decide)]
      cases he : epN a with
      | none => rfl
      | some p =>
        obtain ⟨n, m⟩ := p
        obtain ⟨_, h1, h2, h3⟩ := epN_iff.1 he
        cases nmNumN b with
        | none => rfl
        | some t =>
          cases nmNumN c with
          | none => by_cases ht : t ≤ forever <;> simp [Option.filter, ht]
          | some q =>
            by_cases ht : t ≤ forever <;> by_cases hq : q ≤ 4294967295 <;> by_cases h0 : n = 0 <;> simp [Option.filter, ht, hq, h0] <;> omega

theorem txN_inj {n m t q n' m' t' q' : Nat} (h1 : 0 < n ∧ n ≤ 4294967295 ∧ m ≤ 4294967295 ∧ t ≤ forever ∧ q ≤ 4294967295) (h2 : 0 < n' ∧ n' ≤ 4294967295 ∧ m' ≤ 4294967295 ∧ t' ≤ forever ∧ q' ≤ 4294967295) (h : txN n m t q = txN n' m' t' q') : n = n' ∧ m = m' ∧ t = t' ∧ q = q' := by
  have e1 := nmN_iff.2 ⟨rfl, h1⟩
  have e2 := nmN_iff.2 ⟨rfl, h2⟩
  rw [h, e2] at e1
  simp at e1
  omega

theorem txE_len (n m : Nat) (hn : n ≤ 4294967295) (hm : m ≤ 4294967295) : (txE n m).length ≤ 25 := by
  have h1 := dd_len 9 n (by omega)
  have h2 := dd_len 9 m (by omega)
  unfold txE
  split <;> simp [wDtn, wNone, wIpn] <;> omega

theorem txN_len (n m t q : Nat) (hn : n ≤ 4294967295) (hm : m ≤ 4294967295) (ht : t ≤ forever) (hq : q ≤ 4294967295) : (txN n m t q).length ≤ 60 := by
  have h0 := txE_len n m hn hm
  have hf : forever = 4611686018427387903 := rfl
  have h1 := dd_len 18 t (by omega)
  have h2 := dd_len 9 q (by omega)
  unfold txN
  simp
  omega

end Go.Proofs.YtlmdbeccfoncpaaGreatDoor

namespace Go.Proofs.YtlmdbeccfoncpaaGreatDoor
open Go Go.RowKit Go.Shelf Go.Sort
set_option linter.unusedSimpArgs false
set_option linter.unusedVariables false

/-- What the walks need of the library's variables. -/
def TabN (w : World) : Prop :=
  Lib.TabIs Tryz.prog w "internal/strconv.uint64pow10" .u64 Lib.pow10Tab ∧ (∃ tp p, w.var? Tryz.prog "strconv.ErrSyntax" = some #[.iface tp p]) ∧ (∃ tp p, w.var? Tryz.prog "strconv.ErrRange" = some #[.iface tp p])

theorem var_below {P : Program} {w w' : World} {name : String} {cs : Array Value} (h : w.var? P name = some cs) (hb : Below w.heap.size w w') : w'.var? P name = some cs := by
  unfold World.var? at h ⊢
  cases hg : P.globalNamed name with
  | none => simp [hg] at h
  | some g =>
    simp only [hg, Option.bind_some] at h ⊢
    cases hc : w.heap[g]? with
    | none => simp [hc] at h
    | some o =>
      have hlt : g < w.heap.size := (Array.getElem?_eq_some_iff.1 hc).1
      rw [hb.block g hlt]
      exact h

theorem TabN.on {w w' : World} (h : TabN w) (hb : Below w.heap.size w w') : TabN w' := by
  obtain ⟨h1, ⟨t2, p2, h2⟩, ⟨t3, p3, h3⟩⟩ := h
  exact ⟨var_below h1 hb, ⟨t2, p2, var_below h2 hb⟩, ⟨t3, p3, var_below h3 hb⟩⟩

/-- The new block's bytes are a row of noughts. -/
theorem holds_zero0 (w : World) (T : TypeId) (nd : Nat) (hs : nd ≤ 24) : Holds (fun (b : UInt8) => Value.int .u8 (b.toNat : Int)) (w.alloc (.cells Lib.zeros24 T)) w.heap.size 0 (Array.replicate nd (0 : UInt8)) := fun j hj => by
  have hj' : j < nd := by simpa using hj
  refine ⟨?_, World.frozen?_alloc_new _ _ _ _⟩
  rw [World.cell?_alloc_new, Lib.zeros24_at _ (by omega), getElem!_pos _ j hj]
  simp

theorem fin_pos0 (w : World) (o : Obj) (dk : Array UInt8) (k : Nat) : ∃ os, (putRow (fun (b : UInt8) => Value.int .u8 (b.toNat : Int)) (w.alloc o) w.heap.size 0 dk).drewN k = grow (w.drewN k) os := by
  rw [alloc_eq_grow]
  obtain ⟨os', _, e⟩ := putRow_grow_new (fun (b : UInt8) => Value.int .u8 (b.toNat : Int)) w #[o] w.heap.size 0 dk (Nat.le_refl _)
  exact ⟨os', by rw [e]; rfl⟩

theorem below_grow (w : World) (k : Nat) (os : Array Obj) : Below w.heap.size w (grow (w.drewN k) os) := by
  refine ⟨rfl, rfl, rfl, by simp [grow], fun b hb => ?_⟩
  show ((w.drewN k).heap ++ os)[b]? = w.heap[b]?
  exact Array.getElem?_append_left hb

/-- Who reads nmGives up. -/
def nmGives (c : Int) : Ending := .panicked [{ v := .iface 30 (.int .i64 c), recovered := false }]
theorem nmGives_def (c : Int) : nmGives c = .panicked [{ v := .iface 30 (.int .i64 c), recovered := false }] := rfl

theorem need_yes (w : World) : Calls Tryz.prog 152 #[.bool true] w fun e w' => e = .returned (.tuple #[]) ∧ w' = w := by
  go_enter Tryz.func152, Tryz.ntmps152
  go_wp2_with fail
  first | go_end0 | skip
  exact ⟨rfl, rfl⟩

theorem need_no (w : World) : Calls Tryz.prog 152 #[.bool false] w fun e w' => e = nmGives 130 ∧ w' = w := by
  go_enter Tryz.func152, Tryz.ntmps152
  go_wp2_with fail
  exact ⟨rfl, rfl, rfl⟩

/-- What ParseUint answers: a number and none, or an error. -/
def ParseP (w : World) (s : List UInt8) (e : Ending) (w' : World) : Prop :=
  Below w.heap.size w w' ∧ ((∃ u : Nat, Lib.parseUintB 64 s = .ok u ∧ u < 18446744073709551616 ∧ e = .returned (.tuple #[.int .u64 u, .nilIface])) ∨
    (nmNumN s = none ∧ ∃ (u : Int) (t : TypeId) (v : Value), (0 ≤ u ∧ u ≤ 18446744073709551615) ∧ e = .returned (.tuple #[.int .u64 u, .iface t v])))

theorem bytes_eq (s : ByteArray) : (⟨s.data.toList.toArray⟩ : ByteArray) = s := by cases s; simp

/-- What number answers. -/
def NumP (w : World) (s : List UInt8) (e : Ending) (w' : World) : Prop :=
  Below w.heap.size w w' ∧ match nmNumN s with
    | some n => e = .returned (.int .u64 n)
    | none => e = nmGives 130

theorem numP_none {w w' : World} {s : List UInt8} (hb : Below w.heap.size w w') (h : nmNumN s = none) : NumP w s (nmGives 130) w' := ⟨hb, by rw [h]⟩
theorem numP_some {w w' : World} {s : List UInt8} {n : Nat} (hb : Below w.heap.size w w') (h : nmNumN s = some n) : NumP w s (.returned (.int .u64 n)) w' := ⟨hb, by rw [h]⟩

end Go.Proofs.YtlmdbeccfoncpaaGreatDoor

namespace Go.Proofs.YtlmdbeccfoncpaaGreatDoor
open Go Go.RowKit Go.Shelf
set_option linter.unusedSimpArgs false
set_option linter.unusedVariables false

/-- All lies as it lay but block R, and what is new. -/
structure Bt (R : Nat) (w w' : World) : Prop where
  os : w'.os = w.os
  tape : w'.tape = w.tape
  output : w'.output = w.output
  size : w.heap.size ≤ w'.heap.size
  block : ∀ k, k < w.heap.size → k ≠ R → w'.heap[k]? = w.heap[k]?

theorem Bt.refl (R : Nat) (w : World) : Bt R w w := ⟨rfl, rfl, rfl, Nat.le_refl _, fun _ _ _ => rfl⟩
theorem Bt.trans {R : Nat} {a b c : World} (h : Bt R a b) (k : Bt R b c) : Bt R a c :=
  ⟨k.os.trans h.os, k.tape.trans h.tape, k.output.trans h.output, Nat.le_trans h.size k.size, fun i hi hne => (k.block i (Nat.lt_of_lt_of_le hi h.size) hne).trans (h.block i hi hne)⟩
theorem Bt.of_below {R : Nat} {w w' : World} (h : Below w.heap.size w w') : Bt R w w' := ⟨h.os, h.tape, h.output, h.size, fun k hk _ => h.block k hk⟩
theorem Bt.set {R o : Nat} (w : World) (v : Value) : Bt R w (w.setCell ⟨R, o, none⟩ v) :=
  ⟨rfl, rfl, rfl, by rw [World.size_setCell]; exact Nat.le_refl _, fun k _ hne => Below.heap_setCell w _ _ k hne⟩
theorem Bt.below {R B : Nat} {w w' : World} (h : Bt R w w') (hR : B ≤ R) (hB : B ≤ w.heap.size) : Below B w w' :=
  ⟨h.os, h.tape, h.output, h.size, fun k hk => h.block k (Nat.lt_of_lt_of_le hk hB) (by omega)⟩
theorem Bt.cell {R b o : Nat} {w w' : World} (h : Bt R w w') (hb : b < w.heap.size) (hne : b ≠ R) : w'.cell? ⟨b, o, none⟩ = w.cell? ⟨b, o, none⟩ :=
  World.cell?_of_block (w := w) (h.block b hb hne)
theorem Bt.frozen {R b o : Nat} {w w' : World} (h : Bt R w w') (hb : b < w.heap.size) (hne : b ≠ R) : w'.frozen? ⟨b, o, none⟩ = w.frozen? ⟨b, o, none⟩ :=
  World.frozen?_of_block (w := w) (h.block b hb hne)

/-- A text in block R. -/
def TS (w : World) (R : Nat) (s : List UInt8) : Prop := w.cell? ⟨R, 0, none⟩ = some (.string ⟨s.toArray⟩) ∧ w.frozen? ⟨R, 0, none⟩ = false ∧ R < w.heap.size

theorem TS.on {w w' : World} {R : Nat} {s : List UInt8} (h : TS w R s) (hb : Below w.heap.size w w') : TS w' R s :=
  ⟨(hb.cell (p := ⟨R, 0, none⟩) h.2.2).trans h.1, (hb.frozen (p := ⟨R, 0, none⟩) h.2.2).trans h.2.1, Nat.lt_of_lt_of_le h.2.2 hb.size⟩

theorem TS.set {w : World} {R : Nat} {s t : List UInt8} (h : TS w R s) : TS (w.setCell ⟨R, 0, none⟩ (.string ⟨t.toArray⟩)) R t :=
  ⟨World.cell?_setCell_same _ _ _ h.1, by rw [World.frozen?_setCell]; exact h.2.1, by rw [World.size_setCell]; exact h.2.2⟩

/-- Of a rune of many bytes each byte is above the plain ones. -/
theorem decode_wide (s : ByteArray) (pos : Nat) (h : pos < s.size) (ha : 128 ≤ (s[pos]'h).toNat) : ∀ k, k < (Utf8.decode s pos).2 → pos + k < s.size ∧ 128 ≤ (s.get! (pos + k)).toNat := by
  have hn : ¬ (s[pos]'h).toNat < 128 := by omega
  have e0 := get_at s pos h
  have h0 : pos + 0 < s.size ∧ 128 ≤ (s.get! (pos + 0)).toNat := ⟨by omega, by rw [e0]; omega⟩
  simp only [Utf8.decode, e0, hn, if_false]
  intro k hk
  have hc : ∀ j, (decide (pos + j < s.size) && (s.get! (pos + j)).toNat / 64 == 2) = true → pos + j < s.size ∧ 128 ≤ (s.get! (pos + j)).toNat := fun j hj => by
    simp only [Bool.and_eq_true, decide_eq_true_eq, beq_iff_eq] at hj
    omega
  rcases Nat.eq_zero_or_pos k with rfl | hk0
  · exact h0
  · repeat' split at hk
    all_goals (first | (exfalso; simp at hk; omega) | skip)
    all_goals simp only [Bool.and_eq_true] at *
    · have h1 := hc 1 (by simp_all)
      obtain rfl : k = 1 := by omega
      exact h1
    · have h1 := hc 1 (by simp_all)
      have h2 := hc 2 (by simp_all)
      rcases (show k = 1 ∨ k = 2 by omega) with rfl | rfl
      · exact h1
      · exact h2
    · have h1 := hc 1 (by simp_all)
      have h2 := hc 2 (by simp_all)
      have h3 := hc 3 (by simp_all)
      rcases (show k = 1 ∨ k = 2 ∨ k = 3 by omega) with rfl | rfl | rfl
      · exact h1
      · exact h2
      · exact h3

theorem take_more {c : UInt8} {l : List UInt8} {p n : Nat} (h : c ∉ l.take p) (hn : ∀ k, k < n → l[p + k]? ≠ some c) : c ∉ l.take (p + n) := fun hc => by
  rw [List.mem_iff_getElem?] at hc
  obtain ⟨i, hi⟩ := hc
  rw [List.getElem?_take] at hi
  split at hi
  · by_cases hp : i < p
    · exact h (List.mem_iff_getElem?.2 ⟨i, by rw [List.getElem?_take, if_pos hp]; exact hi⟩)
    · exact hn (i - p) (by omega) (by rw [show p + (i - p) = i by omega]; exact hi)
  · cases hi

theorem cut_here {c : UInt8} {l : List UInt8} {p : Nat} (h : c ∉ l.take p) (hp : l[p]? = some c) : cutL c l = some (l.take p, l.drop (p + 1)) := by
  refine cutL_iff.2 ⟨?_, h⟩
  obtain ⟨hlt, e⟩ := List.getElem?_eq_some_iff.1 hp
  have := (List.take_append_drop p l).symm
  rw [List.drop_eq_getElem_cons hlt, e] at this
  exact this

theorem cut_never {c : UInt8} {l : List UInt8} {p : Nat} (h : c ∉ l.take p) (hp : l.length ≤ p) : cutL c l = none := by
  rw [List.take_of_length_le hp] at h
  exact cutL_none.2 h

/-- What until answers. -/
def UntilP (w : World) (R : Nat) (c : UInt8) (s : List UInt8) (e : Ending) (w' : World) : Prop :=
  Bt R w w' ∧ match cutL c s with
    | some (a, b) => e = .returned (.string ⟨a.toArray⟩) ∧ TS w' R b
    | none => e = nmGives 130

theorem untilP_no {w w' : World} {R : Nat} {c : UInt8} {s : List UInt8} (hb : Bt R w w') (h : cutL c s = none) : UntilP w R c s (nmGives 130) w' := ⟨hb, by rw [h]⟩
theorem untilP_yes {w w' : World} {R : Nat} {c : UInt8} {s a b : List UInt8} (hb : Bt R w w') (h : cutL c s = some (a, b)) (ht : TS w' R b) : UntilP w R c s (.returned (.string ⟨a.toArray⟩)) w' := ⟨hb, by rw [h]; exact ⟨rfl, ht⟩⟩

theorem run_from (s : List UInt8) (hs : s.length ≤ 140737488355328) (p : Nat) (hp : p ≤ s.length) (w : World) : (Instr.slice 9 (.string ⟨s.toArray⟩) (some (.int .i64 (p : Int))) none none).run Tryz.prog w = .ok (.string ⟨(s.drop p).toArray⟩) w := by
  have hsz : (⟨s.toArray⟩ : ByteArray).size = s.length := by simp [ByteArray.size]
  rw [run_slice_string_from_if w 9 _ .i64 (p : Int) Tryz.underlying9, if_pos (by rw [hsz]; omega)]
  have e : (⟨s.toArray⟩ : ByteArray).extract ((p : Int).toNat) (⟨s.toArray⟩ : ByteArray).size = ⟨(s.drop p).toArray⟩ := by
    apply ByteArray.ext
    rw [ByteArray.data_extract]
    apply Array.toList_inj.1
    rw [Array.toList_extract]
    simp [hsz]
    rw [List.take_of_length_le (by simp)]
  rw [e]

theorem run_to (s : List UInt8) (hs : s.length ≤ 140737488355328) (p : Nat) (hp : p ≤ s.length) (w : World) : (Instr.slice 9 (.string ⟨s.toArray⟩) none (some (.int .i64 (p : Int))) none).run Tryz.prog w = .ok (.string ⟨(s.take p).toArray⟩) w := by
  have hsz : (⟨s.toArray⟩ : ByteArray).size = s.length := by simp [ByteArray.size]
  rw [run_slice_string_to_if w 9 _ .i64 (p : Int) Tryz.underlying9, if_pos (by rw [hsz]; omega)]
  have e : (⟨s.toArray⟩ : ByteArray).extract 0 ((p : Int).toNat) = ⟨(s.take p).toArray⟩ := by
    apply ByteArray.ext
    rw [ByteArray.data_extract]
    apply Array.toList_inj.1
    rw [Array.toList_extract]
    simp
  rw [e]

end Go.Proofs.YtlmdbeccfoncpaaGreatDoor

namespace Go.Proofs.YtlmdbeccfoncpaaGreatDoor
open Go Go.RowKit Go.Shelf
set_option linter.unusedSimpArgs false
set_option linter.unusedVariables false

theorem var_lt {P : Program} {w : World} {name : String} {cs : Array Value} {g : Nat} (h : w.var? P name = some cs) (hg : P.globalNamed name = some g) : g < w.heap.size := by
  unfold World.var? at h
  simp only [hg, Option.bind_some] at h
  cases hc : w.heap[g]? with
  | none => simp [hc] at h
  | some o => exact (Array.getElem?_eq_some_iff.1 hc).1

theorem var_keep {P : Program} {w w' : World} {name : String} {cs : Array Value} {g : Nat} (h : w.var? P name = some cs) (hg : P.globalNamed name = some g) (hk : w'.heap[g]? = w.heap[g]?) : w'.var? P name = some cs := by
  unfold World.var? at h ⊢
  simp only [hg, Option.bind_some] at h ⊢
  rw [hk]
  exact h

/-- A number that has room in 32 bits. -/
theorem short_yes (n : Nat) (h : n ≤ 4294967295) (w : World) : Calls Tryz.prog 159 #[.int .u64 n] w fun e w' => e = .returned (.int .u32 n) ∧ w' = w := by
  have h1 : (n : Int) ≤ 4294967295 := by omega
  have hw : IntKind.u32.wrap (n : Int) = (n : Int) := by rw [IntKind.wrap_u32]; omega
  go_enter Tryz.func159, Tryz.ntmps159
  go_wp2_with fail
  refine (need_yes _).mono ?_
  rintro e w3 ⟨rfl, rfl⟩
  go_wp2
  go_ret
  exact ⟨rfl, rfl⟩

theorem short_no (n : Nat) (h : ¬ n ≤ 4294967295) (w : World) : Calls Tryz.prog 159 #[.int .u64 n] w fun e w' => e = nmGives 130 ∧ w' = w := by
  have h1 : decide ((n : Int) ≤ 4294967295) = false := by simp; omega
  have h2 : ¬ (n : Int) ≤ 4294967295 := by omega
  have h3 : (4294967295 : Int) < (n : Int) := by omega
  go_enter Tryz.func159, Tryz.ntmps159
  go_wp2_with fail
  refine (need_no _).mono ?_
  rintro e w3 ⟨rfl, rfl⟩
  rw [nmGives_def]
  go_wp2_with fail
  exact ⟨rfl, rfl, rfl⟩

/-- May these two be an endpoint of a node? -/
def sv (n m : Nat) : Bool := decide (0 < n) && (decide (n ≤ 4294967295) && decide (m ≤ 4294967295))

theorem served_yes (n m : Nat) (h : sv n m = true) (w : World) : Calls Tryz.prog 153 #[.int .u64 n, .int .u64 m] w fun e w' => e = .returned (.agg #[.int .u32 n, .int .u32 m]) ∧ Below w.heap.size w w' := by
  simp [sv] at h
  obtain ⟨h0, h1, h2⟩ := h
  have hz : (0 : Int) < (n : Int) := by omega
  have HS1 := Lib.hid (fun w => short_yes n h1 w)
  have HS2 := Lib.hid (fun w => short_yes m h2 w)
  clear h1 h2
  go_enter Tryz.func153, Tryz.ntmps153
  go_wp2_with fail
  refine (need_yes _).mono ?_
  rintro e w3 ⟨rfl, rfl⟩
  go_wp2_with fail
  refine (HS1.out _).mono ?_
  rintro e w3 ⟨rfl, rfl⟩
  go_wp2_with fail
  refine (HS2.out _).mono ?_
  rintro e w3 ⟨rfl, rfl⟩
  go_wp2
  refine bodyPost_ret (v := .agg #[.int .u32 n, .int .u32 m]) (by simp [results, Tryz.results153, go_sem]) rfl ⟨rfl, ?_⟩
  exact (Below.refl _ _).alloc (Nat.le_refl _) _

theorem served_no (n m : Nat) (h : sv n m = false) (w : World) : Calls Tryz.prog 153 #[.int .u64 n, .int .u64 m] w fun e w' => e = nmGives 130 ∧ Below w.heap.size w w' := by
  by_cases h0 : 0 < n
  · have hz : (0 : Int) < (n : Int) := by omega
    by_cases h1 : n ≤ 4294967295
    · have h2 : ¬ m ≤ 4294967295 := by intro h2; simp [sv, h0, h1, h2] at h
      have HS1 := Lib.hid (fun w => short_yes n h1 w)
      have HS2 := Lib.hid (fun w => short_no m h2 w)
      clear h h1 h2
      go_enter Tryz.func153, Tryz.ntmps153
      go_wp2_with fail
      refine (need_yes _).mono ?_
      rintro e w3 ⟨rfl, rfl⟩
      go_wp2_with fail
      refine (HS1.out _).mono ?_
      rintro e w3 ⟨rfl, rfl⟩
      go_wp2_with fail
      refine (HS2.out _).mono ?_
      rintro e w3 ⟨rfl, rfl⟩
      rw [nmGives_def]
      go_wp2_with fail
      exact ⟨rfl, rfl, (Below.refl _ _).alloc (Nat.le_refl _) _⟩
    · have HS1 := Lib.hid (fun w => short_no n h1 w)
      clear h h1
      go_enter Tryz.func153, Tryz.ntmps153
      go_wp2_with fail
      refine (need_yes _).mono ?_
      rintro e w3 ⟨rfl, rfl⟩
      go_wp2_with fail
      refine (HS1.out _).mono ?_
      rintro e w3 ⟨rfl, rfl⟩
      rw [nmGives_def]
      go_wp2_with fail
      exact ⟨rfl, rfl, (Below.refl _ _).alloc (Nat.le_refl _) _⟩
  · obtain rfl : n = 0 := by omega
    clear h h0
    go_enter Tryz.func153, Tryz.ntmps153
    go_wp2_with fail
    refine (need_no _).mono ?_
    rintro e w3 ⟨rfl, rfl⟩
    rw [nmGives_def]
    go_wp2_with fail
    exact ⟨rfl, rfl, (Below.refl _ _).alloc (Nat.le_refl _) _⟩

end Go.Proofs.YtlmdbeccfoncpaaGreatDoor

namespace Go.Proofs.YtlmdbeccfoncpaaGreatDoor
open Go Go.RowKit Go.Shelf
set_option linter.unusedSimpArgs false
set_option linter.unusedVariables false

/-- A name's value. -/
def nmV (n m t q : Int) : Value := .agg #[.int .u32 n, .int .u32 m, .int .u64 t, .int .u32 q]

theorem cname_ok (n m t q : Int) (h1 : 0 < n) (h2 : t ≤ 4611686018427387903) (w : World) :
    Calls Tryz.prog 57 #[.agg #[.int .u32 n, .int .u32 m, .int .u64 t, .int .u32 q]] w fun e w' => e = .returned (.int .i64 0) ∧ Below w.heap.size w w' := by
  have h3 : (n == 0) = false := by simp; omega
  have h4 : ¬ n = 0 := by omega
  have h5 : ¬ (4611686018427387903 : Int) < t := by omega
  have h6 : decide ((4611686018427387903 : Int) < t) = false := by simp; omega
  go_enter Tryz.func57, Tryz.ntmps57
  go_wp2
  all_goals first | (go_ret; exact ⟨rfl, below_al (Below.refl _ _) _⟩) | (exfalso; omega)

theorem cname_no (n m t q : Int) (h : n = 0 ∨ 4611686018427387903 < t) (w : World) :
    Calls Tryz.prog 57 #[.agg #[.int .u32 n, .int .u32 m, .int .u64 t, .int .u32 q]] w fun e w' => e = .returned (.int .i64 2) ∧ Below w.heap.size w w' := by
  by_cases h0 : n = 0
  · subst h0
    clear h
    go_enter Tryz.func57, Tryz.ntmps57
    go_wp2
    go_ret
    exact ⟨rfl, below_al (Below.refl _ _) _⟩
  · have h5 : (4611686018427387903 : Int) < t := by omega
    have h3 : (n == 0) = false := by simp; omega
    clear h
    go_enter Tryz.func57, Tryz.ntmps57
    go_wp2
    all_goals first | (go_ret; exact ⟨rfl, below_al (Below.refl _ _) _⟩) | (exfalso; omega)

/-- May these be a name? -/
def nmB (n t q : Nat) : Bool := decide (0 < n) && (decide (t ≤ forever) && decide (q ≤ 4294967295))

theorem box2_later {w W' : World} {t : TypeId} {x y : Value} (hb : Below (w.alloc (.cells #[x, y] t)).heap.size (w.alloc (.cells #[x, y] t)) W') : W'.cell? ⟨w.heap.size, 0, none⟩ = some x ∧ W'.cell? ⟨w.heap.size, 1, none⟩ = some y :=
  ⟨(hb.cell (p := ⟨w.heap.size, 0, none⟩) (by simp)).trans (by simp), (hb.cell (p := ⟨w.heap.size, 1, none⟩) (by simp)).trans (by simp)⟩

theorem put4 {w : World} {b : Nat} {a0 a1 a2 a3 : Value} (v0 v1 v2 v3 : Value) (h0 : w.cell? ⟨b, 0, none⟩ = some a0) (h1 : w.cell? ⟨b, 1, none⟩ = some a1) (h2 : w.cell? ⟨b, 2, none⟩ = some a2) (h3 : w.cell? ⟨b, 3, none⟩ = some a3) :
    let w' := (((w.setCell ⟨b, 0, none⟩ v0).setCell ⟨b, 1, none⟩ v1).setCell ⟨b, 2, none⟩ v2).setCell ⟨b, 3, none⟩ v3
    w'.cell? ⟨b, 0, none⟩ = some v0 ∧ w'.cell? ⟨b, 1, none⟩ = some v1 ∧ w'.cell? ⟨b, 2, none⟩ = some v2 ∧ w'.cell? ⟨b, 3, none⟩ = some v3 := by
  have ot : ∀ (w : World) (i j : Nat) (v : Value), i ≠ j → (w.setCell ⟨b, i, none⟩ v).cell? ⟨b, j, none⟩ = w.cell? ⟨b, j, none⟩ := fun w i j v h => World.cell?_setCell_other _ _ _ _ (by simp [h])
  refine ⟨?_, ?_, ?_, World.cell?_setCell_same _ _ _ (by rw [ot _ _ _ _ (by decide), ot _ _ _ _ (by decide), ot _ _ _ _ (by decide)]; exact h3)⟩
  · rw [ot _ _ _ _ (by decide), ot _ _ _ _ (by decide), ot _ _ _ _ (by decide)]
    exact World.cell?_setCell_same _ _ _ h0
  · rw [ot _ _ _ _ (by decide), ot _ _ _ _ (by decide)]
    exact World.cell?_setCell_same _ _ _ (by rw [ot _ _ _ _ (by decide)]; exact h1)
  · rw [ot _ _ _ _ (by decide)]
    exact World.cell?_setCell_same _ _ _ (by rw [ot _ _ _ _ (by decide), ot _ _ _ _ (by decide)]; exact h2)

end Go.Proofs.YtlmdbeccfoncpaaGreatDoor

namespace Go.Proofs.YtlmdbeccfoncpaaGreatDoor
open Go Go.RowKit Go.Shelf
set_option linter.unusedSimpArgs false
set_option linter.unusedVariables false

theorem check_ok (n m : Int) (h : 0 < n ∨ (n = 0 ∧ m = 0)) (w : World) :
    Calls Tryz.prog 58 #[.agg #[.int .u32 n, .int .u32 m]] w fun e w' => e = .returned (.int .i64 0) ∧ Below w.heap.size w w' := by
  rcases h with h | ⟨rfl, rfl⟩
  · have h3 : (n == 0) = false := by simp; omega
    have h4 : ¬ n = 0 := by omega
    go_enter Tryz.func58, Tryz.ntmps58
    go_wp2
    all_goals first | (go_ret; exact ⟨rfl, below_al (Below.refl _ _) _⟩) | (exfalso; omega)
  · go_enter Tryz.func58, Tryz.ntmps58
    go_wp2
    all_goals first | (go_ret; exact ⟨rfl, below_al (Below.refl _ _) _⟩) | (exfalso; omega)

theorem check_no (m : Int) (h : 0 < m) (w : World) :
    Calls Tryz.prog 58 #[.agg #[.int .u32 0, .int .u32 m]] w fun e w' => e = .returned (.int .i64 2) ∧ Below w.heap.size w w' := by
  go_enter Tryz.func58, Tryz.ntmps58
  go_wp2
  all_goals first | (go_ret; exact ⟨rfl, below_al (Below.refl _ _) _⟩) | (exfalso; omega)

theorem box2_all {w W' : World} {t : TypeId} {x y : Value} (hb : Below (w.alloc (.cells #[x, y] t)).heap.size (w.alloc (.cells #[x, y] t)) W') : W'.cell? ⟨w.heap.size, 0, none⟩ = some x ∧ W'.cell? ⟨w.heap.size, 1, none⟩ = some y :=
  ⟨(hb.cell (p := ⟨w.heap.size, 0, none⟩) (by simp)).trans (by simp), (hb.cell (p := ⟨w.heap.size, 1, none⟩) (by simp)).trans (by simp)⟩

theorem txE_cat (n m : Nat) (h : 0 < n) : (((⟨#[105, 112, 110, 58]⟩ : ByteArray) ++ ⟨(Lib.decDigits n).toArray⟩) ++ ⟨#[46]⟩) ++ ⟨(Lib.decDigits m).toArray⟩ = ⟨(txE n m).toArray⟩ := by
  have h0 : ¬ n = 0 := by omega
  apply ByteArray.ext
  simp [ByteArray.data_append, txE, h0, wIpn]

theorem txN_cat (s t q : List UInt8) : (((⟨s.toArray⟩ : ByteArray) ++ ⟨#[32]⟩) ++ ⟨t.toArray⟩) ++ ⟨#[32]⟩ ++ ⟨q.toArray⟩ = ⟨(s ++ 32 :: (t ++ 32 :: q)).toArray⟩ := by
  apply ByteArray.ext
  simp [ByteArray.data_append]

theorem cat_run (a b : ByteArray) (h : a.size + b.size ≤ 1000000) : ∀ w : World, (Op.stringOp .add a b).run Tryz.prog w = .ok (.string (a ++ b)) w := fun w => run_string_add_sum w a b (by omega)

theorem dd_size (n : Nat) (h : n ≤ forever) : (⟨(Lib.decDigits n).toArray⟩ : ByteArray).size ≤ 19 := by
  have e : forever = 4611686018427387903 := rfl
  have := dd_len 18 n (by omega)
  simpa [ByteArray.size] using this

/-- What Text answers. -/
def nmTextN (n m : Nat) : List UInt8 × Int := if n = 0 ∧ 0 < m then ([], 2) else (txE n m, 0)

/-- What NameText answers. -/
def ntextN (n m t q : Nat) : List UInt8 × Int := if 0 < n ∧ t ≤ forever then (txN n m t q, 0) else ([], 2)

theorem box4_all {w W' : World} {t : TypeId} {x y z u : Value} (hb : Below (w.alloc (.cells #[x, y, z, u] t)).heap.size (w.alloc (.cells #[x, y, z, u] t)) W') : W'.cell? ⟨w.heap.size, 0, none⟩ = some x ∧ W'.cell? ⟨w.heap.size, 1, none⟩ = some y ∧ W'.cell? ⟨w.heap.size, 2, none⟩ = some z ∧ W'.cell? ⟨w.heap.size, 3, none⟩ = some u :=
  ⟨(hb.cell (p := ⟨w.heap.size, 0, none⟩) (by simp)).trans (by simp), (hb.cell (p := ⟨w.heap.size, 1, none⟩) (by simp)).trans (by simp), (hb.cell (p := ⟨w.heap.size, 2, none⟩) (by simp)).trans (by simp), (hb.cell (p := ⟨w.heap.size, 3, none⟩) (by simp)).trans (by simp)⟩

end Go.Proofs.YtlmdbeccfoncpaaGreatDoor
