/- Texts of endpoints and names: which text is whose. Plain mathematics. -/
import Derived.Test.YtjbdpkjkeelgfaaDoorNmA
namespace Go.Proofs.YtjbdpkjkeelgfaaDoor
open Go

/-- What is ahead of, and behind the first such byte. -/
def cutL (c : UInt8) : List UInt8 → Option (List UInt8 × List UInt8)
  | [] => none
  | x :: r => if x = c then some ([], r) else (cutL c r).map fun p => (x :: p.1, p.2)

theorem cutL_iff {c : UInt8} : ∀ {l a b : List UInt8}, cutL c l = some (a, b) ↔ (l = a ++ c :: b ∧ c ∉ a)
  | [], a, b => by simp [cutL]
  | x :: r, a, b => by
    by_cases h : x = c
    · subst h
      simp only [cutL, if_pos]
      constructor
      · intro h
        simp at h
        obtain ⟨rfl, rfl⟩ := h
        simp
      · rintro ⟨h1, h2⟩
        cases a with
        | nil => simp at h1; simp [h1]
        | cons y a => simp at h1; simp [h1.1] at h2
    · simp only [cutL, if_neg h]
      constructor
      · intro h1
        cases hc : cutL c r with
        | none => simp [hc] at h1
        | some p =>
          obtain ⟨p1, p2⟩ := p
          simp [hc] at h1
          obtain ⟨rfl, rfl⟩ := h1
          obtain ⟨h2, h3⟩ := cutL_iff.1 hc
          simp [h2, h3]
          exact fun e => h e.symm
      · rintro ⟨h1, h2⟩
        cases a with
        | nil => simp at h1; exact absurd h1.1 h
        | cons y a =>
          simp at h1
          obtain ⟨rfl, rfl⟩ := h1
          have := (cutL_iff (c := c) (l := a ++ c :: b) (a := a) (b := b)).2 ⟨rfl, fun h3 => h2 (List.mem_cons_of_mem _ h3)⟩
          rw [this]
          rfl

theorem cutL_none {c : UInt8} {l : List UInt8} : cutL c l = none ↔ c ∉ l := by
  induction l with
  | nil => simp [cutL]
  | cons x r ih =>
    by_cases h : x = c
    · subst h
      simp [cutL]
    · have h' : ¬ c = x := fun e => h e.symm
      simp [cutL, h, h', ih]

theorem cutL_app {c : UInt8} {a b : List UInt8} (h : c ∉ a) : cutL c (a ++ c :: b) = some (a, b) := cutL_iff.2 ⟨rfl, h⟩

def wIpn : List UInt8 := [105, 112, 110]
def wDtn : List UInt8 := [100, 116, 110]
def wNone : List UInt8 := [110, 111, 110, 101]

/-- The endpoint of a text. -/
def epN (s : List UInt8) : Option (Nat × Nat) :=
  match cutL 58 s with
  | none => none
  | some (h, r) =>
    if h = wDtn then (if r = wNone then some (0, 0) else none)
    else if h = wIpn then
      match cutL 46 r with
      | none => none
      | some (a, b) =>
        match numN a, numN b with
        | some n, some m => if 0 < n ∧ n ≤ 4294967295 ∧ m ≤ 4294967295 then some (n, m) else none
        | _, _ => none
    else none

def forever : Nat := 4611686018427387903

/-- The name of a text. -/
def nmN (s : List UInt8) : Option (Nat × Nat × Nat × Nat) :=
  match cutL 32 s with
  | none => none
  | some (a, r) =>
    match cutL 32 r with
    | none => none
    | some (b, c) =>
      match epN a, numN b, numN c with
      | some (n, m), some t, some q => if 0 < n ∧ t ≤ forever ∧ q ≤ 4294967295 then some (n, m, t, q) else none
      | _, _, _ => none

/-- An endpoint's text. -/
def txE (n m : Nat) : List UInt8 := if n = 0 then wDtn ++ 58 :: wNone else wIpn ++ 58 :: (Lib.decDigits n ++ 46 :: Lib.decDigits m)
/-- A name's. -/
def txN (n m t q : Nat) : List UInt8 := txE n m ++ 32 :: (Lib.decDigits t ++ 32 :: Lib.decDigits q)

theorem dd_no {c : UInt8} (h : isDg c = false) (n : Nat) : c ∉ Lib.decDigits n := fun hc => by
  have := dd_digits n c hc
  rw [h] at this
  cases this

theorem epN_iff {s : List UInt8} {n m : Nat} : epN s = some (n, m) ↔ (s = txE n m ∧ (0 < n ∨ m = 0) ∧ n ≤ 4294967295 ∧ m ≤ 4294967295) := by
  constructor
  · intro h
    unfold epN at h
    split at h
    · simp at h
    · rename_i hd r hc
      obtain ⟨rfl, h1⟩ := cutL_iff.1 hc
      split at h
      · rename_i e
        subst e
        split at h
        · rename_i e
          subst e
          simp at h
          obtain ⟨rfl, rfl⟩ := h
          exact ⟨rfl, by decide⟩
        · simp at h
      · split at h
        · rename_i e
          subst e
          split at h
          · simp at h
          · rename_i a b hc2
            obtain ⟨rfl, h2⟩ := cutL_iff.1 hc2
            split at h
            · rename_i n' m' hn hm
              split at h
              · rename_i hb
                simp at h
                obtain ⟨rfl, rfl⟩ := h
                obtain ⟨_, rfl⟩ := numN_some hn
                obtain ⟨_, rfl⟩ := numN_some hm
                refine ⟨?_, .inl hb.1, hb.2⟩
                rw [txE, if_neg (by omega)]
              · simp at h
            · simp at h
        · simp at h
  · rintro ⟨rfl, h1, h2, h3⟩
    by_cases h0 : n = 0
    · subst h0
      obtain rfl : m = 0 := by omega
      decide +kernel
    · rw [txE, if_neg h0, epN, cutL_app (by decide)]
      simp only [show ¬ wIpn = wDtn by decide, if_false, if_true]
      rw [cutL_app (dd_no (by decide) n)]
      simp only []
      rw [numN_dd n (by omega), numN_dd m (by omega)]
      simp
      omega

theorem txE_no {c : UInt8} (h : isDg c = false) (h1 : c ∉ wDtn ++ 58 :: wNone) (h2 : c ∉ wIpn) (h3 : c ≠ 58) (h4 : c ≠ 46) (n m : Nat) : c ∉ txE n m := by
  unfold txE
  split
  · exact h1
  · simp [h2, h3, h4, dd_no h]

theorem txE_no32 (n m : Nat) : (32 : UInt8) ∉ txE n m := txE_no (by decide) (by decide) (by decide) (by decide) (by decide) n m

theorem nmN_iff {s : List UInt8} {n m t q : Nat} : nmN s = some (n, m, t, q) ↔ (s = txN n m t q ∧ 0 < n ∧ n ≤ 4294967295 ∧ m ≤ 4294967295 ∧ t ≤ forever ∧ q ≤ 4294967295) := by
  constructor
  · intro h
    unfold nmN at h
    split at h
    · simp at h
    · rename_i a r hc
      obtain ⟨rfl, h1⟩ := cutL_iff.1 hc
      split at h
      · simp at h
      · rename_i b c hc2
        obtain ⟨rfl, h2⟩ := cutL_iff.1 hc2
        split at h
        · rename_i n' m' t' q' he ht hq
          split at h
          · rename_i hb
            simp at h
            obtain ⟨rfl, rfl, rfl, rfl⟩ := h
            obtain ⟨rfl, h3, h4, h5⟩ := epN_iff.1 he
            obtain ⟨_, rfl⟩ := numN_some ht
            obtain ⟨_, rfl⟩ := numN_some hq
            exact ⟨rfl, hb.1, h4, h5, hb.2⟩
          · simp at h
        · simp at h
  · rintro ⟨rfl, h1, h2, h3, h4, h5⟩
    have hf : forever < 18446744073709551616 := by decide
    rw [txN, nmN, cutL_app (txE_no32 n m)]
    simp only []
    rw [cutL_app (dd_no (by decide) t)]
    simp only []
    rw [epN_iff.2 ⟨rfl, .inl h1, h2, h3⟩, numN_dd t (by omega), numN_dd q (by omega)]
    simp
    omega

/-- The document's cut: what it tells where there is no such byte, too. -/
def cutD (c : UInt8) (l : List UInt8) : List UInt8 × List UInt8 × Bool :=
  match cutL c l with
  | none => (l, [], false)
  | some (a, b) => (a, b, true)

/-- The document's endpoint of a text. -/
def epR (s : List UInt8) : Option (Nat × Nat) :=
  if s = wDtn ++ 58 :: wNone then some (0, 0)
  else if s.length < 4 ∨ s.take 4 ≠ wIpn ++ [58] then none
  else match cutL 46 (s.drop 4) with
    | none => none
    | some (a, b) => match tnum a 4294967295, tnum b 4294967295 with
      | some n, some m => if n = 0 then none else some (n, m)
      | _, _ => none

theorem epR_eq (s : List UInt8) : epR s = epN s := by
  apply Option.ext
  rintro ⟨n, m⟩
  rw [epN_iff]
  unfold epR
  constructor
  · intro h
    split at h
    · rename_i e
      simp at h
      obtain ⟨rfl, rfl⟩ := h
      exact ⟨e, by decide⟩
    · split at h
      · simp at h
      · rename_i h1
        simp only [not_or, Nat.not_lt, ne_eq, Classical.not_not] at h1
        have hs : s = wIpn ++ 58 :: s.drop 4 := by
          have := (List.take_append_drop 4 s).symm
          rw [h1.2] at this
          simpa using this
        split at h
        · simp at h
        · rename_i a b hc
          obtain ⟨h2, h3⟩ := cutL_iff.1 hc
          split at h
          · rename_i n' m' hn hm
            obtain ⟨rfl, hn1⟩ := (tnum_iff (by decide)).1 hn
            obtain ⟨rfl, hm1⟩ := (tnum_iff (by decide)).1 hm
            split at h
            · simp at h
            · rename_i h0
              simp at h
              obtain ⟨rfl, rfl⟩ := h
              rw [h2] at hs
              exact ⟨by rw [txE, if_neg h0]; exact hs, .inl (by omega), hn1, hm1⟩
          · simp at h
  · rintro ⟨rfl, h1, h2, h3⟩
    by_cases h0 : n = 0
    · subst h0
      obtain rfl : m = 0 := by omega
      decide +kernel
    · have e : txE n m = wIpn ++ 58 :: (Lib.decDigits n ++ 46 :: Lib.decDigits m) := by rw [txE, if_neg h0]
      rw [e, if_neg (by intro h; simp [wIpn, wDtn] at h), if_neg (by simp [wIpn])]
      have e2 : (wIpn ++ 58 :: (Lib.decDigits n ++ 46 :: Lib.decDigits m)).drop 4 = Lib.decDigits n ++ 46 :: Lib.decDigits m := rfl
      rw [e2, cutL_app (dd_no (by decide) n)]
      simp only []
      rw [(tnum_iff (bound := 4294967295) (by decide)).2 ⟨rfl, h2⟩, (tnum_iff (bound := 4294967295) (by decide)).2 ⟨rfl, h3⟩]
      simp [h0]

/-- The document's name of a text. -/
def nmR (s : List UInt8) : Option (Nat × Nat × Nat × Nat) :=
  match cutL 32 s with
  | none => none
  | some (a, r) => match cutL 32 r with
    | none => none
    | some (b, c) => match epR a, tnum b forever, tnum c 4294967295 with
      | some (n, m), some t, some q => if n = 0 ∧ m = 0 then none else some (n, m, t, q)
      | _, _, _ => none

theorem nmR_eq (s : List UInt8) : nmR s = nmN s := by
  unfold nmR nmN
  cases cutL 32 s with
  | none => rfl
  | some p =>
    obtain ⟨a, r⟩ := p
    simp only []
    cases cutL 32 r with
    | none => rfl
    | some p =>
      obtain ⟨b, c⟩ := p
      simp only []
      rw [epR_eq, tnum_numN (by decide), tnum_numN (by decide)]
      cases he : epN a with
      | none => rfl
      | some p =>
        obtain ⟨n, m⟩ := p
        obtain ⟨_, h1, h2, h3⟩ := epN_iff.1 he
        cases numN b with
        | none => rfl
        | some t =>
          cases numN c with
          | none => by_cases ht : t ≤ forever <;> simp [Option.filter, ht]
          | some q =>
            by_cases ht : t ≤ forever <;> by_cases hq : q ≤ 4294967295 <;> by_cases h0 : n = 0 <;> simp [Option.filter, ht, hq, h0] <;> omega

theorem txN_inj {n m t q n' m' t' q' : Nat} (h1 : 0 < n ∧ n ≤ 4294967295 ∧ m ≤ 4294967295 ∧ t ≤ forever ∧ q ≤ 4294967295) (h2 : 0 < n' ∧ n' ≤ 4294967295 ∧ m' ≤ 4294967295 ∧ t' ≤ forever ∧ q' ≤ 4294967295) (h : txN n m t q = txN n' m' t' q') : n = n' ∧ m = m' ∧ t = t' ∧ q = q' := by
  have e1 := nmN_iff.2 ⟨rfl, h1⟩
  have e2 := nmN_iff.2 ⟨rfl, h2⟩
  rw [h, e2] at e1
  simp at e1
  omega

theorem txE_len (n m : Nat) (hn : n ≤ 4294967295) (hm : m ≤ 4294967295) : (txE n m).length ≤ 25 := by
  have h1 := dd_len 9 n (by omega)
  have h2 := dd_len 9 m (by omega)
  unfold txE
  split <;> simp [wDtn, wNone, wIpn] <;> omega

theorem txN_len (n m t q : Nat) (hn : n ≤ 4294967295) (hm : m ≤ 4294967295) (ht : t ≤ forever) (hq : q ≤ 4294967295) : (txN n m t q).length ≤ 60 := by
  have h0 := txE_len n m hn hm
  have hf : forever = 4611686018427387903 := rfl
  have h1 := dd_len 18 t (by omega)
  have h2 := dd_len 9 q (by omega)
  unfold txN
  simp
  omega

end Go.Proofs.YtjbdpkjkeelgfaaDoor
