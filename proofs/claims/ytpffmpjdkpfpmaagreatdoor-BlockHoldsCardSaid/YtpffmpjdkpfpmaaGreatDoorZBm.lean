/- Joined texts. -/
import Derived.Test.YtpffmpjdkpfpmaaGreatDoorZBu
import Derived.Test.YtpffmpjdkpfpmaaGreatDoorZKr
import Derived.Test.YtpffmpjdkpfpmaaGreatDoorZBl
namespace Go.Proofs.YtpffmpjdkpfpmaaGreatDoor
open Go Go.RowKit Go.Shelf
set_option linter.unusedSimpArgs false
set_option linter.unusedVariables false
set_option maxRecDepth 100000

/-- In how many bits two bytes are unlike; two texts, as far as both go. -/
def offB (a b : UInt8) : Nat := ((List.range 8).filter fun q => a.toNat / 2 ^ q % 2 != b.toNat / 2 ^ q % 2).length

def offs : List UInt8 → List UInt8 → Nat
  | x :: xs, y :: ys => offB x y + offs xs ys
  | _, _ => 0

theorem offB_self (a : UInt8) : offB a a = 0 := by simp [offB]

theorem offs_self : ∀ l : List UInt8, offs l l = 0
  | [] => rfl
  | x :: xs => by rw [offs, offB_self, offs_self xs]

theorem offB_flip (x y : UInt8) {j : Nat} (hj : j < 8) (hy : y.toNat = x.toNat ^^^ 2 ^ j) : offB x y ≤ 1 := by
  obtain ⟨hne, hsame⟩ := flip_bits x j y hy
  have e : ((List.range 8).filter fun q => x.toNat / 2 ^ q % 2 != y.toNat / 2 ^ q % 2) = (List.range 8).filter fun q => q == j := by
    refine List.filter_congr fun q _ => ?_
    by_cases h : q = j
    · subst h
      simpa using hne
    · simp [hsame q h, h]
  rw [offB, e]
  have h8 : j = 0 ∨ j = 1 ∨ j = 2 ∨ j = 3 ∨ j = 4 ∨ j = 5 ∨ j = 6 ∨ j = 7 := by omega
  rcases h8 with rfl | rfl | rfl | rfl | rfl | rfl | rfl | rfl <;> decide

theorem offs_set : ∀ (l : List UInt8) (i : Nat) (y : UInt8), offs l (l.set i y) ≤ offB (l[i]?.getD 0) y
  | [], i, y => Nat.zero_le _
  | x :: xs, 0, y => by simp [offs, offs_self]
  | x :: xs, i + 1, y => by
    have h := offs_set xs i y
    simpa [offs, offB_self] using h

theorem offs_pre : ∀ (a b r s : List UInt8), offs a b ≤ offs (a ++ r) (b ++ s)
  | [], b, r, s => by simp [offs]
  | x :: xs, [], r, s => by simp [offs]
  | x :: xs, y :: ys, r, s => by
    have h := offs_pre xs ys r s
    simp only [offs, List.cons_append]
    omega

end Go.Proofs.YtpffmpjdkpfpmaaGreatDoor

namespace Go.Proofs.YtpffmpjdkpfpmaaGreatDoor
open Go Go.RowKit Go.Shelf
set_option linter.unusedSimpArgs false
set_option linter.unusedVariables false
set_option maxRecDepth 100000

theorem offs_app : ∀ (a b r s : List UInt8), a.length = b.length → offs (a ++ r) (b ++ s) = offs a b + offs r s
  | [], [], r, s, _ => by simp [offs]
  | x :: xs, y :: ys, r, s, h => by
    have h := offs_app xs ys r s (by simpa using h)
    simp only [offs, List.cons_append]
    omega
  | [], y :: ys, r, s, h => by simp at h
  | x :: xs, [], r, s, h => by simp at h

/-- The number of a block, as its bytes begin. -/
def hdN (n : Nat) : List UInt8 := headB 0 (n : Int)

theorem hdN_small {n : Nat} (h : n < 24) : hdN n = [UInt8.ofNat n] := by
  have h1 : ((List.range 24).all fun n => hdN n == [UInt8.ofNat n]) = true := by decide +kernel
  exact eq_of_beq (List.all_eq_true.1 h1 n (List.mem_range.2 h))
theorem hdN_byte {n : Nat} (h : 24 ≤ n) (h2 : n ≤ 255) : hdN n = [24, UInt8.ofNat n] := by
  have h1 : ((List.range 256).all fun n => decide (n < 24) || hdN n == [24, UInt8.ofNat n]) = true := by decide +kernel
  have h3 := List.all_eq_true.1 h1 n (List.mem_range.2 (by omega))
  rw [Bool.or_eq_true] at h3
  rcases h3 with h3 | h3
  · exact absurd (of_decide_eq_true h3) (by omega)
  · exact eq_of_beq h3

theorem offB_24 {n : Nat} (h : n < 24) : 1 ≤ offB (UInt8.ofNat n) 24 ∧ 1 ≤ offB 24 (UInt8.ofNat n) := by
  have h1 : ((List.range 24).all fun n => decide (1 ≤ offB (UInt8.ofNat n) 24) && decide (1 ≤ offB 24 (UInt8.ofNat n))) = true := by decide +kernel
  have h3 := List.all_eq_true.1 h1 n (List.mem_range.2 h)
  rw [Bool.and_eq_true] at h3
  exact ⟨of_decide_eq_true h3.1, of_decide_eq_true h3.2⟩
theorem offB_low {n k : Nat} (h : 24 ≤ n) (h2 : n ≤ 255) (hk : k ≤ 2) : 1 ≤ offB (UInt8.ofNat k) (UInt8.ofNat n) ∧ 1 ≤ offB (UInt8.ofNat n) (UInt8.ofNat k) := by
  have h1 : ((List.range 256).all fun n => [0, 1, 2].all fun k => decide (n < 24) || (decide (1 ≤ offB (UInt8.ofNat k) (UInt8.ofNat n)) && decide (1 ≤ offB (UInt8.ofNat n) (UInt8.ofNat k)))) = true := by decide +kernel
  have h3 := List.all_eq_true.1 (List.all_eq_true.1 h1 n (List.mem_range.2 (by omega))) k (by
    have : k = 0 ∨ k = 1 ∨ k = 2 := by omega
    rcases this with rfl | rfl | rfl <;> simp)
  rw [Bool.or_eq_true, Bool.and_eq_true] at h3
  rcases h3 with h3 | h3
  · exact absurd (of_decide_eq_true h3) (by omega)
  · exact ⟨of_decide_eq_true h3.1, of_decide_eq_true h3.2⟩

theorem offB_kinds {k m : Nat} (hk1 : 1 ≤ k) (hk2 : k ≤ 2) (hm : m ≤ 2) (hne : k ≠ m) : 1 ≤ offB (UInt8.ofNat k) (UInt8.ofNat m) ∧ (m ≠ 0 → 2 ≤ offB (UInt8.ofNat k) (UInt8.ofNat m)) := by
  have h1 : k = 1 ∨ k = 2 := by omega
  have h2 : m = 0 ∨ m = 1 ∨ m = 2 := by omega
  rcases h1 with rfl | rfl <;> rcases h2 with rfl | rfl | rfl <;> first | exact absurd rfl hne | decide

theorem offs_tail {n u k m : Nat} (hn : n ≤ 255) (hu : u ≤ 255) (hk1 : 1 ≤ k) (hk2 : k ≤ 2) (hm : m ≤ 2) (hne : k ≠ m) :
    1 ≤ offs (hdN n ++ hdN k) (hdN u ++ hdN m) ∧ (m ≠ 0 → 2 ≤ offs (hdN n ++ hdN k) (hdN u ++ hdN m)) := by
  obtain ⟨a1, a2⟩ := offB_kinds hk1 hk2 hm hne
  rw [hdN_small (n := k) (by omega), hdN_small (n := m) (by omega)]
  by_cases h1 : n < 24
  · by_cases h2 : u < 24
    · rw [hdN_small h1, hdN_small h2]
      simp only [List.cons_append, List.nil_append, offs]
      refine ⟨by omega, fun h => ?_⟩
      have := a2 h
      omega
    · rw [hdN_small h1, hdN_byte (by omega) hu]
      simp only [List.cons_append, List.nil_append, offs]
      have := (offB_24 h1).1
      have := (offB_low (n := u) (k := k) (by omega) hu (by omega)).1
      exact ⟨by omega, fun _ => by omega⟩
  · by_cases h2 : u < 24
    · rw [hdN_byte (by omega) hn, hdN_small h2]
      simp only [List.cons_append, List.nil_append, offs]
      have := (offB_24 h2).2
      have := (offB_low (n := n) (k := m) (by omega) hn (by omega)).2
      exact ⟨by omega, fun _ => by omega⟩
    · rw [hdN_byte (by omega) hn, hdN_byte (by omega) hu]
      simp only [List.cons_append, List.nil_append, offs]
      refine ⟨by omega, fun h => ?_⟩
      have := a2 h
      omega

/-- How a block's bytes begin: how many items there are, and its type. -/
def hdT (k t : Nat) : List UInt8 := headB 4 (if wdN k = 0 then (4 : Nat) else (5 : Nat)) ++ hdN t

def tys : List Nat := [1, 6, 7, 10, 200]

theorem hdT_all : (tys.all fun t => tys.all fun u => [1, 2].all fun k => [0, 1, 2].all fun m => (k == m) || (decide (2 ≤ offs (hdT k t) (hdT m u)) || (decide ((hdT k t).length = (hdT m u).length) && (decide (1 ≤ offs (hdT k t) (hdT m u)) || decide (m ≠ 0))))) = true := by decide +kernel

theorem tys_mem {t : Nat} (h : knB t = true) : t ∈ tys := by
  have h := of_decide_eq_true h
  simpa [tys] using h

def pfxB (k t n : Nat) : List UInt8 := hdT k t ++ (hdN n ++ hdN k)

theorem pfxB_far {k m t u n v : Nat} (ht : t ∈ tys) (hu : u ∈ tys) (hn : n ≤ 255) (hv : v ≤ 255) (hk1 : 1 ≤ k) (hk2 : k ≤ 2) (hm : m ≤ 2) (hne : k ≠ m) : 2 ≤ offs (pfxB k t n) (pfxB m u v) := by
  have h1 := List.all_eq_true.1 hdT_all t ht
  have h2 := List.all_eq_true.1 h1 u hu
  have h3 := List.all_eq_true.1 h2 k (by have : k = 1 ∨ k = 2 := by omega
                                         rcases this with rfl | rfl <;> simp)
  have h4 := List.all_eq_true.1 h3 m (by have : m = 0 ∨ m = 1 ∨ m = 2 := by omega
                                         rcases this with rfl | rfl | rfl <;> simp)
  rw [Bool.or_eq_true, Bool.or_eq_true, Bool.and_eq_true, Bool.or_eq_true] at h4
  obtain ⟨b1, b2⟩ := offs_tail (n := n) (u := v) hn hv hk1 hk2 hm hne
  rcases h4 with h | h | ⟨h, h5⟩
  · exact absurd (eq_of_beq h) hne
  · exact Nat.le_trans (of_decide_eq_true h) (offs_pre _ _ _ _)
  · have h := of_decide_eq_true h
    rw [pfxB, pfxB, offs_app _ _ _ _ h]
    rcases h5 with h5 | h5
    · have := of_decide_eq_true h5
      omega
    · have := b2 (of_decide_eq_true h5)
      omega

theorem preK_pfx (b : Bl) (k : Nat) (h : b.s = (k : Int)) : ∃ r, preK b k = pfxB k b.t b.n ++ r := by
  unfold preK pfxB hdT hdN itsB
  rw [h]
  split
  · exact ⟨_, by simp [bytesL, itU, It.bytes, ownB1]; rfl⟩
  · exact ⟨_, by simp [bytesL, itU, It.bytes, ownB1]; rfl⟩

theorem rightB_tn {b : Bl} (h : rightB b = true) : b.t ∈ tys ∧ b.n ≤ 255 ∧ 0 ≤ b.s ∧ b.s ≤ 2 := by
  unfold rightB lookE at h
  split at h
  · rename_i h1
    simp only [Bool.and_eq_true] at h1
    obtain ⟨h2, h3, h4⟩ := h1
    refine ⟨tys_mem h2, ?_, ?_⟩
    · unfold numB at h3
      split at h3
      · have := of_decide_eq_true h3
        omega
      · rw [Bool.and_eq_true] at h3
        exact of_decide_eq_true h3.2
    · simp only [isK, Bool.and_eq_true, decide_eq_true_eq] at h4
      exact h4
  · cases h

/-- Bytes of a block with a sum, of which one bit is another one, are none's bytes. -/
theorem encK_flip (p q : Bl) (hp : rightB p = true) (hq : rightB q = true) (hs : p.s ≠ 0) {i j : Nat} {y : UInt8} (hi : i < (encK p p.s.toNat).length) (hj : j < 8)
    (hy : y.toNat = ((encK p p.s.toNat)[i]?.getD 0).toNat ^^^ 2 ^ j) : encK q q.s.toNat ≠ (encK p p.s.toNat).set i y := by
  intro h
  obtain ⟨hp1, hp2, hp3, hp4⟩ := rightB_tn hp
  obtain ⟨hq1, hq2, hq3, hq4⟩ := rightB_tn hq
  obtain ⟨k, hk⟩ : ∃ k, k = p.s.toNat := ⟨_, rfl⟩
  obtain ⟨m, hm⟩ : ∃ m, m = q.s.toNat := ⟨_, rfl⟩
  rw [← hk] at h hi hy
  rw [← hm] at h
  have hoff : offs (encK p k) (encK q m) ≤ 1 := by
    rw [h]
    exact Nat.le_trans (offs_set _ _ _) (offB_flip _ _ hj hy)
  by_cases hkm : k = m
  · subst hkm
    have hl := congrArg List.length h
    have hz1 := zeroK_eq p k
    have hz2 := zeroK_eq q k
    rw [List.length_set, encK_len, encK_len] at hl
    have e1 := encK_eq p k
    have e2 := encK_eq q k
    rw [encK_len] at hi
    rw [e1] at hy
    rw [e1, e2] at h
    have hl2 : (preK q k).length = (preK p k).length := by
      rw [hz1, hz2, List.length_append, List.length_append] at hl
      omega
    by_cases hlt : i < (preK p k).length
    · rw [List.set_append_left _ _ hlt] at h
      obtain ⟨h1, h2⟩ := List.append_inj h (by rw [List.length_set]; omega)
      rw [List.getElem?_append_left hlt] at hy
      refine sumB_flip (k := k) (i := i) (j := j) (by omega) (by omega) (zeroK p k).bytes y (by rw [hz1, List.length_append]; omega) hj (by rw [hz1, List.getElem?_append_left hlt]; exact hy) ?_
      rw [← h2, hz2, hz1, List.set_append_left _ _ hlt, h1]
    · rw [List.set_append_right _ _ (by omega)] at h
      obtain ⟨h1, h2⟩ := List.append_inj h (by omega)
      rw [List.getElem?_append_right (by omega)] at hy
      have hz : (zeroK q k).bytes = (zeroK p k).bytes := by rw [hz2, hz1, h1]
      rw [hz] at h2
      have hil : i - (preK p k).length < (sumB k (zeroK p k).bytes).length := by
        rw [sumB_length]
        rw [hz1, List.length_append, List.length_replicate] at hi
        omega
      have h3 := congrArg (fun l : List UInt8 => (l[i - (preK p k).length]?.getD 0).toNat) h2
      simp [hil] at h3
      rw [List.getElem?_eq_getElem hil, Option.getD_some] at hy
      obtain ⟨hne, _⟩ := flip_bits ((sumB k (zeroK p k).bytes)[i - (preK p k).length]) j y hy
      rw [h3] at hne
      exact hne rfl
  · have h2 := pfxB_far hp1 hq1 hp2 hq2 (show 1 ≤ k by omega) (by omega) (show m ≤ 2 by omega) hkm
    obtain ⟨r, hr⟩ := preK_pfx p k (by omega)
    obtain ⟨s, hs2⟩ := preK_pfx q m (by omega)
    rw [encK_eq, encK_eq, hr, hs2, List.append_assoc, List.append_assoc] at hoff
    have := offs_pre (pfxB k p.t p.n) (pfxB m q.t q.n) (r ++ sumB k (zeroK p k).bytes) (s ++ sumB m (zeroK q m).bytes)
    omega

theorem rdBk_right {x : It} {b : Bl} (h : rdBk x = some b) : rightB b = true := by
  unfold rdBk at h
  split at h
  · unfold rdY at h
    simp only [Option.bind_eq_some_iff] at h
    obtain ⟨t, _, n, _, d, _, k, _, h⟩ := h
    unfold rdK at h
    split at h
    · rename_i h1
      injection h with h
      subst h
      exact h1.1
    · cases h
  · cases h

theorem rdByB_ok {bs : List UInt8} {b : Bl} (h : rdByB bs = .ok b) : rightB b = true ∧ ownK b = bs := by
  unfold rdByB at h
  split at h
  · cases h
  · split at h
    · cases h
    · rename_i q hq
      split at h
      · rename_i he
        injection h with h
        subst h
        exact ⟨rdBk_right hq, he⟩
      · cases h

theorem rdByB_ne {bs : List UInt8} {c : Int} (h : rdByB bs = .error c) : c ≠ 0 := by
  unfold rdByB at h
  split at h
  · rename_i q hq
    have := decodeN_err hq
    injection h with h
    omega
  · split at h
    · injection h with h
      omega
    · split at h
      · cases h
      · injection h with h
        omega

/-- So they are not read. -/
theorem rdByB_flip (p : Bl) (hr : rightB p = true) (hs : p.s ≠ 0) {i j : Nat} {y : UInt8} (hi : i < (encK p p.s.toNat).length) (hj : j < 8)
    (hy : y.toNat = ((encK p p.s.toNat)[i]?.getD 0).toNat ^^^ 2 ^ j) : ∃ c : Int, c ≠ 0 ∧ rdByB ((encK p p.s.toNat).set i y) = .error c := by
  cases h : rdByB ((encK p p.s.toNat).set i y) with
  | error c => exact ⟨c, rdByB_ne h, rfl⟩
  | ok q =>
    obtain ⟨h1, h4⟩ := rdByB_ok h
    unfold ownK at h4
    split at h4
    · exact absurd h4 (encK_flip p q hr h1 hs hi hj hy)
    · have := congrArg List.length h4
      rw [List.length_set] at this
      simp at this
      omega

end Go.Proofs.YtpffmpjdkpfpmaaGreatDoor
