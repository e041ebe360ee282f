/- The sums, bit by bit, as numbers; and that one bit which is another one makes another sum. Nothing here speaks of the program's functions. -/
import Derived.Test.YtjcfhkodfanbiaaBase
import Derived.Laws.BitsLemmas
namespace Go.Proofs.Ytjcfhkodfanbiaa

/-- One bit further: b's lowest one. -/
def stepN (fx w b : Nat) : Nat := if w % 2 = b % 2 then w / 2 else (w / 2) ^^^ fx

/-- i bits of x further. -/
def runN (fx w x : Nat) : Nat → Nat
  | 0 => w
  | i + 1 => stepN fx (runN fx w x i) (x / 2 ^ i)

/-- k bytes further. -/
def crcN (fx w : Nat) (bs : List UInt8) : Nat → Nat
  | 0 => w
  | k + 1 => runN fx (crcN fx w bs k) (bs[k]?.getD 0).toNat 8

theorem stepN_lt {m fx w b : Nat} (hf : fx < 2 ^ m) (hw : w < 2 ^ m) : stepN fx w b < 2 ^ m := by
  unfold stepN
  split
  · omega
  · exact Nat.xor_lt_two_pow (by omega) hf

theorem runN_lt {m fx w x : Nat} (hf : fx < 2 ^ m) (hw : w < 2 ^ m) (i : Nat) : runN fx w x i < 2 ^ m := by
  induction i with
  | zero => exact hw
  | succ i ih => exact stepN_lt hf ih

theorem crcN_lt {m fx w : Nat} (bs : List UInt8) (hf : fx < 2 ^ m) (hw : w < 2 ^ m) (k : Nat) : crcN fx w bs k < 2 ^ m := by
  induction k with
  | zero => exact hw
  | succ k ih => exact runN_lt hf ih 8

theorem stepN_bit (fx w b c : Nat) (h : b % 2 = c % 2) : stepN fx w b = stepN fx w c := by
  unfold stepN
  rw [h]

theorem stepN_halves {m fx w w' b b' : Nat} (hf0 : 2 ^ m ≤ fx) (hf : fx < 2 ^ (m + 1)) (hw : w < 2 ^ (m + 1)) (hw' : w' < 2 ^ (m + 1)) (h : stepN fx w b = stepN fx w' b') :
    w / 2 = w' / 2 ∧ (w % 2 = b % 2 ↔ w' % 2 = b' % 2) := by
  have e : 2 ^ (m + 1) = 2 ^ m * 2 := Nat.pow_succ _ _
  have hm : fx.testBit m = true := by
    rw [Nat.testBit_eq_decide_div_mod_eq]
    have h1 : 1 ≤ fx / 2 ^ m := (Nat.le_div_iff_mul_le (Nat.two_pow_pos m)).2 (by omega)
    have h2 : fx / 2 ^ m < 2 := (Nat.div_lt_iff_lt_mul (Nat.two_pow_pos m)).2 (by omega)
    simp
    omega
  have hl : ∀ v, v < 2 ^ (m + 1) → (v / 2).testBit m = false := fun v hv => Nat.testBit_lt_two_pow (by omega)
  have hx : ∀ v, v < 2 ^ (m + 1) → ((v / 2) ^^^ fx).testBit m = true := fun v hv => by rw [Nat.testBit_xor, hl v hv, hm]; rfl
  unfold stepN at h
  split at h <;> rename_i h1 <;> split at h <;> rename_i h2
  · exact ⟨h, iff_of_true h1 h2⟩
  · have := hx w' hw'
    rw [← h, hl w hw] at this
    cases this
  · have := hx w hw
    rw [h, hl w' hw'] at this
    cases this
  · refine ⟨?_, iff_of_false h1 h2⟩
    have h3 := congrArg (· ^^^ fx) h
    simpa [Nat.xor_assoc] using h3

theorem stepN_inj {m fx w w' b : Nat} (hf0 : 2 ^ m ≤ fx) (hf : fx < 2 ^ (m + 1)) (hw : w < 2 ^ (m + 1)) (hw' : w' < 2 ^ (m + 1)) (h : stepN fx w b = stepN fx w' b) : w = w' := by
  obtain ⟨h1, h2⟩ := stepN_halves hf0 hf hw hw' h
  omega

theorem stepN_tell {m fx w b b' : Nat} (hf0 : 2 ^ m ≤ fx) (hf : fx < 2 ^ (m + 1)) (hw : w < 2 ^ (m + 1)) (h : stepN fx w b = stepN fx w b') : b % 2 = b' % 2 := by
  obtain ⟨h1, h2⟩ := stepN_halves hf0 hf hw hw h
  omega

theorem runN_inj {m fx w w' x : Nat} (hf0 : 2 ^ m ≤ fx) (hf : fx < 2 ^ (m + 1)) (hw : w < 2 ^ (m + 1)) (hw' : w' < 2 ^ (m + 1)) (i : Nat) (h : runN fx w x i = runN fx w' x i) : w = w' := by
  induction i with
  | zero => exact h
  | succ i ih => exact ih (stepN_inj hf0 hf (runN_lt hf hw i) (runN_lt hf hw' i) h)

theorem runN_bits {fx w x y : Nat} (i : Nat) (h : ∀ k, k < i → x / 2 ^ k % 2 = y / 2 ^ k % 2) : runN fx w x i = runN fx w y i := by
  induction i with
  | zero => rfl
  | succ i ih =>
    simp only [runN]
    rw [ih fun k hk => h k (by omega)]
    exact stepN_bit _ _ _ _ (h i (by omega))

theorem runN_split (fx w x : Nat) (j i : Nat) : runN fx w x (j + i) = runN fx (runN fx w x j) (x / 2 ^ j) i := by
  induction i with
  | zero => rfl
  | succ i ih =>
    show stepN fx (runN fx w x (j + i)) (x / 2 ^ (j + i)) = stepN fx _ (x / 2 ^ j / 2 ^ i)
    rw [ih, Nat.div_div_eq_div_mul, ← Nat.pow_add]

/-- One bit of a byte is another one. -/
theorem runN_flip {m fx w x y j : Nat} (hf0 : 2 ^ m ≤ fx) (hf : fx < 2 ^ (m + 1)) (hw : w < 2 ^ (m + 1)) (hj : j < 8) (hne : x / 2 ^ j % 2 ≠ y / 2 ^ j % 2) (hsame : ∀ k, k ≠ j → x / 2 ^ k % 2 = y / 2 ^ k % 2) :
    runN fx w x 8 ≠ runN fx w y 8 := by
  intro h
  have e : 8 = (j + 1) + (7 - j) := by omega
  rw [e, runN_split, runN_split fx w y] at h
  have hy : ∀ v, runN fx v (y / 2 ^ (j + 1)) (7 - j) = runN fx v (x / 2 ^ (j + 1)) (7 - j) := fun v => runN_bits _ fun k _ => by
    rw [Nat.div_div_eq_div_mul, Nat.div_div_eq_div_mul, ← Nat.pow_add]
    exact (hsame _ (by omega)).symm
  rw [hy] at h
  have h2 := runN_inj hf0 hf (runN_lt hf hw _) (runN_lt hf hw _) _ h
  simp only [runN] at h2
  rw [runN_bits (x := x) (y := y) j fun k hk => hsame k (by omega)] at h2
  exact hne (stepN_tell hf0 hf (runN_lt hf hw _) h2)

theorem crcN_from {m fx w w' : Nat} (bs : List UInt8) (hf0 : 2 ^ m ≤ fx) (hf : fx < 2 ^ (m + 1)) (hw : w < 2 ^ (m + 1)) (hw' : w' < 2 ^ (m + 1)) (k : Nat) (h : crcN fx w bs k = crcN fx w' bs k) : w = w' := by
  induction k with
  | zero => exact h
  | succ k ih => exact ih (runN_inj hf0 hf (crcN_lt bs hf hw k) (crcN_lt bs hf hw' k) 8 h)

theorem crcN_congr {fx w : Nat} (bs cs : List UInt8) (k : Nat) (h : ∀ j, j < k → bs[j]?.getD 0 = cs[j]?.getD 0) : crcN fx w bs k = crcN fx w cs k := by
  induction k with
  | zero => rfl
  | succ k ih =>
    simp only [crcN]
    rw [ih fun j hj => h j (by omega), h k (by omega)]

/-- One bit of a byte is another one: so is the sum of all bytes up to any place behind. -/
theorem crcN_flip {m fx w i j : Nat} (bs cs : List UInt8) (hf0 : 2 ^ m ≤ fx) (hf : fx < 2 ^ (m + 1)) (hw : w < 2 ^ (m + 1)) (hj : j < 8)
    (hne : (bs[i]?.getD 0).toNat / 2 ^ j % 2 ≠ (cs[i]?.getD 0).toNat / 2 ^ j % 2) (hsame : ∀ k, k ≠ j → (bs[i]?.getD 0).toNat / 2 ^ k % 2 = (cs[i]?.getD 0).toNat / 2 ^ k % 2)
    (hrest : ∀ k, k ≠ i → bs[k]?.getD 0 = cs[k]?.getD 0) (n : Nat) (hn : i < n) : crcN fx w bs n ≠ crcN fx w cs n := by
  induction n with
  | zero => omega
  | succ n ih =>
    intro h
    by_cases e : i = n
    · subst e
      simp only [crcN] at h
      rw [crcN_congr bs cs i fun k hk => hrest k (by omega)] at h
      exact runN_flip hf0 hf (crcN_lt cs hf hw i) hj hne hsame h
    · simp only [crcN] at h
      rw [hrest n (fun e' => e e'.symm)] at h
      exact ih (by omega) (runN_inj hf0 hf (crcN_lt bs hf hw n) (crcN_lt cs hf hw n) 8 h)

/-- A byte with one bit that is another one. -/
theorem flip_bits (x : UInt8) (j : Nat) (y : UInt8) (hy : y.toNat = x.toNat ^^^ 2 ^ j) :
    x.toNat / 2 ^ j % 2 ≠ y.toNat / 2 ^ j % 2 ∧ ∀ k, k ≠ j → x.toNat / 2 ^ k % 2 = y.toNat / 2 ^ k % 2 := by
  have hb : ∀ k, (y.toNat).testBit k = ((x.toNat).testBit k ^^ decide (j = k)) := fun k => by rw [hy, Nat.testBit_xor, Nat.testBit_two_pow]
  constructor
  · have := hb j
    rw [Nat.testBit_eq_decide_div_mod_eq, Nat.testBit_eq_decide_div_mod_eq] at this
    intro h
    rw [h] at this
    simp at this
  · intro k hk
    have := hb k
    rw [Nat.testBit_eq_decide_div_mod_eq, Nat.testBit_eq_decide_div_mod_eq, decide_eq_false (p := j = k) (fun e => hk e.symm), Bool.xor_false] at this
    have h2 := decide_eq_decide.1 this
    omega

/-! ### As the program and the document's answer reckon it -/

theorem wrap_u32' (n : Int) : IntKind.u32.wrap n = n % 4294967296 := by simp [IntKind.wrap, IntKind.bits, IntKind.signed]

theorem bits_xor_u32_nat (a b : Nat) (ha : a < 4294967296) (hb : b < 4294967296) : bits .xor .u32 (a : Int) (b : Int) = ((a ^^^ b : Nat) : Int) := by
  have hx : a ^^^ b < 2 ^ 32 := Nat.xor_lt_two_pow (by omega) (by omega)
  have h1 : (BitVec.ofInt 32 (a : Int)).toNat = a := by
    rw [BitVec.ofInt_natCast, BitVec.toNat_ofNat]; exact Nat.mod_eq_of_lt (by omega)
  have h2 : (BitVec.ofInt 32 (b : Int)).toNat = b := by
    rw [BitVec.ofInt_natCast, BitVec.toNat_ofNat]; exact Nat.mod_eq_of_lt (by omega)
  show IntKind.u32.wrap ((BitVec.ofInt 32 (a : Int) ^^^ BitVec.ofInt 32 (b : Int)).toNat : Int) = _
  rw [BitVec.toNat_xor, h1, h2, wrap_u32']
  omega

theorem bits_and1_u32 (x : Int) (h0 : 0 ≤ x) (h1 : x < 4294967296) : bits .and .u32 x 1 = x % 2 := by
  have h := bits_mask .u32 32 (by decide) (fun n h0 h1 => by rw [wrap_u32']; omega) 1 (by decide) x h0 (by omega)
  simpa using h

theorem xor_mod2 (a b : Nat) : ((a ^^^ b) % 2 = 1) ↔ ¬ (a % 2 = b % 2) := by
  have h : (a ^^^ b).testBit 0 = (a.testBit 0 ^^ b.testBit 0) := Nat.testBit_xor a b 0
  simp only [Nat.testBit_zero] at h
  have ha : a % 2 = 0 ∨ a % 2 = 1 := by omega
  have hb : b % 2 = 0 ∨ b % 2 = 1 := by omega
  have hc : (a ^^^ b) % 2 = 0 ∨ (a ^^^ b) % 2 = 1 := by omega
  rcases ha with ha | ha <;> rcases hb with hb | hb <;> rcases hc with hc | hc <;> simp_all

end Go.Proofs.Ytjcfhkodfanbiaa
