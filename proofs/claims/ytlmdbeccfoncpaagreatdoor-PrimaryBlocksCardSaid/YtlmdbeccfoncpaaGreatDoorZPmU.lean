/- A primary's bytes are read as it; with a sum, of which one bit is another one, they are none's. -/
import Derived.Test.YtlmdbeccfoncpaaGreatDoorZPmT
import Derived.Test.YtlmdbeccfoncpaaGreatDoorZMt
namespace Go.Proofs.YtlmdbeccfoncpaaGreatDoor
open Go Go.RowKit Go.Shelf
set_option linter.unusedSimpArgs false
set_option linter.unusedVariables false
set_option maxRecDepth 100000

theorem nuP_itU (n : Nat) : nuP (itU n) = some n := by simp [nuP, itU, It.k, It.n]
theorem shP_itU {n : Nat} (h : n ≤ 4294967295) : shP (itU n) = some n := by simp [shP, itU, It.k, It.n, h]

/-- A primary's item is read as it. -/
theorem rdPm_enc (p : Pm) (hp : p.ok) (hr : p.right = true) (bs : List UInt8) : rdPm (itO p (wdN p.s.toNat) bs) = some p := by
  obtain ⟨hf, k, hk, hks⟩ := fine_of hp hr
  have e1 : p.s.toNat = k := by omega
  rw [e1]
  obtain ⟨r, hr2⟩ : ∃ r, r = (if wdN k = 0 then ([] : List It) else [.mk 2 0 bs [] []]) := ⟨_, rfl⟩
  have hb : bhB k r = true := by
    have h3 : k = 0 ∨ k = 1 ∨ k = 2 := by omega
    rcases h3 with rfl | rfl | rfl
    · rw [hr2]; rfl
    · rw [hr2]; rfl
    · rw [hr2]; rfl
  have hx : (itO p (wdN k) bs).l = itU 7 :: itU p.f :: itU p.s :: itE p.tn p.tm :: itE p.sn p.sm :: itE p.rn p.rm :: itLs [itU p.t, itU p.q] :: itU p.l :: r := by rw [hr2]; rfl
  rw [rdPm_eight hx]
  have a0 : nuP (itU 7) = some 7 := rfl
  have a1 := shP_itU hp.f
  have a2 : shP (itU p.s) = some k := by rw [hks]; exact shP_itU (by omega)
  have a3 := epI_itE p.tn p.tm hf.ht hp.tn hp.tm
  have a4 := epI_itE p.sn p.sm hf.hso hp.sn hp.sm
  have a5 := epI_itE p.rn p.rm hf.hre hp.rn hp.rm
  have a6 : rdW (itLs [itU p.t, itU p.q]) = some (p.t, p.q) := by
    rw [rdW_two rfl, nuP_itU, shP_itU hp.q]
    rfl
  have a7 := nuP_itU p.l
  have hpe : (⟨p.f, (k : Int), p.tn, p.tm, p.sn, p.sm, p.rn, p.rm, p.t, p.q, p.l⟩ : Pm) = p := by rw [← hks]
  simp only [rdZ, a0, a1, a2, a3, a4, a5, a6, a7, if_true, Option.bind_some]
  rw [hpe, rdF, e1, if_pos ⟨hr, hb⟩]

theorem right_s {p : Pm} (hp : p.ok) (hr : p.right = true) : 0 ≤ p.s ∧ p.s ≤ 2 := (fine_of hp hr).1.s

theorem rdBy_enc (p : Pm) (hp : p.ok) (hr : p.right = true) : rdBy (encP p p.s.toNat) = .ok p := by
  rw [rdBy_some (decodeN_enc p hp _ (right_s hp hr)) (rdPm_enc p hp hr _), if_pos rfl]

/-- What is read may be. -/
theorem rdPm_some {x : It} {p : Pm} (h : rdPm x = some p) : p.right = true ∧ p.f ≤ 4294967295 ∧ 0 ≤ p.s := by
  unfold rdPm at h
  split at h
  · unfold rdZ at h
    split at h
    · simp only [Option.bind_eq_some_iff] at h
      obtain ⟨f, hf, k, hk, a, _, b, _, c, _, d, _, l, _, h⟩ := h
      unfold rdF at h
      split at h
      · rename_i h1
        injection h with h
        subst h
        refine ⟨h1.1, ?_, ?_⟩
        · unfold shP at hf
          split at hf
          · rename_i h2
            injection hf with hf
            show f ≤ 4294967295
            omega
          · cases hf
        · show (0 : Int) ≤ (k : Int)
          omega
      · cases h
    · cases h
  · cases h

theorem rdBy_ok {bs : List UInt8} {p : Pm} (h : rdBy bs = .ok p) : p.right = true ∧ p.f ≤ 4294967295 ∧ 0 ≤ p.s ∧ encP p p.s.toNat = bs := by
  unfold rdBy at h
  split at h
  · cases h
  · rename_i x hx
    split at h
    · cases h
    · rename_i q hq
      split at h
      · rename_i he
        injection h with h
        subst h
        obtain ⟨a, b, c⟩ := rdPm_some hq
        exact ⟨a, b, c, he⟩
      · cases h

theorem rdBy_ne {bs : List UInt8} {c : Int} (h : rdBy bs = .error c) : c ≠ 0 := by
  unfold rdBy at h
  split at h
  · rename_i q hq
    have := decodeN_err hq
    injection h with h
    omega
  · split at h
    · injection h with h
      omega
    · split at h
      · cases h
      · injection h with h
        omega

/-- In how many bits two bytes are unlike; two texts, as far as both go. -/
def offB (a b : UInt8) : Nat := ((List.range 8).filter fun q => a.toNat / 2 ^ q % 2 != b.toNat / 2 ^ q % 2).length
def offs : List UInt8 → List UInt8 → Nat
  | x :: xs, y :: ys => offB x y + offs xs ys
  | _, _ => 0

theorem offB_self (a : UInt8) : offB a a = 0 := by simp [offB]
theorem offs_self : ∀ l : List UInt8, offs l l = 0
  | [] => rfl
  | x :: xs => by rw [offs, offB_self, offs_self xs]

theorem offB_flip (x y : UInt8) {j : Nat} (hj : j < 8) (hy : y.toNat = x.toNat ^^^ 2 ^ j) : offB x y ≤ 1 := by
  obtain ⟨hne, hsame⟩ := flip_bits x j y hy
  have e : ((List.range 8).filter fun q => x.toNat / 2 ^ q % 2 != y.toNat / 2 ^ q % 2) = (List.range 8).filter fun q => q == j := by
    refine List.filter_congr fun q _ => ?_
    by_cases h : q = j
    · subst h
      simpa using hne
    · simp [hsame q h, h]
  rw [offB, e]
  have h8 : j = 0 ∨ j = 1 ∨ j = 2 ∨ j = 3 ∨ j = 4 ∨ j = 5 ∨ j = 6 ∨ j = 7 := by omega
  rcases h8 with rfl | rfl | rfl | rfl | rfl | rfl | rfl | rfl <;> decide

theorem offs_set : ∀ (l : List UInt8) (i : Nat) (y : UInt8), offs l (l.set i y) ≤ offB (l[i]?.getD 0) y
  | [], i, y => Nat.zero_le _
  | x :: xs, 0, y => by simp [offs, offs_self]
  | x :: xs, i + 1, y => by
    have h := offs_set xs i y
    simpa [offs, offB_self] using h

theorem offs_pre : ∀ (a b r s : List UInt8), offs a b ≤ offs (a ++ r) (b ++ s)
  | [], b, r, s => by simp [offs]
  | x :: xs, [], r, s => by simp [offs]
  | x :: xs, y :: ys, r, s => by
    have h := offs_pre xs ys r s
    simp only [offs, List.cons_append]
    omega

/-- How a primary's bytes begin. -/
def pfx (k f : Nat) : List UInt8 := headB 4 (if wdN k = 0 then (8 : Nat) else (9 : Nat)) ++ (headB 0 7 ++ (headB 0 f ++ headB 0 k))

theorem preB_pfx (p : Pm) (k : Nat) (h : p.s = (k : Int)) : ∃ r, preB p k = pfx k p.f ++ r := by
  unfold preB pfx itsP
  rw [h]
  split
  · exact ⟨_, by simp [bytesL, itU, It.bytes, ownB1]; rfl⟩
  · exact ⟨_, by simp [bytesL, itU, It.bytes, ownB1]; rfl⟩

def allF : List Nat := [0, 2, 32, 34, 128, 130, 160, 162, 256, 258, 288, 290]

theorem flB_mem {f : Nat} (hf : f ≤ 4294967295) (h : flB f = true) : f ∈ allF := by
  have h := (flB_iff f (by omega)).1 h
  have h3 : f / 128 = 0 ∨ f / 128 = 1 ∨ f / 128 = 2 := by omega
  simp only [allF, List.mem_cons, List.not_mem_nil, or_false]
  omega

theorem far_all : (allF.all fun f => allF.all fun g => [1, 2].all fun k => [0, 1, 2].all fun m => (k == m) || decide (2 ≤ offs (pfx k f) (pfx m g))) = true := by decide +kernel

theorem far_any {f g k m : Nat} (hf : f ∈ allF) (hg : g ∈ allF) (hk1 : 1 ≤ k) (hk2 : k ≤ 2) (hm : m ≤ 2) (hne : k ≠ m) : 2 ≤ offs (pfx k f) (pfx m g) := by
  have h1 := List.all_eq_true.1 far_all f hf
  have h2 := List.all_eq_true.1 h1 g hg
  have h3 := List.all_eq_true.1 h2 k (by have : k = 1 ∨ k = 2 := by omega
                                         rcases this with rfl | rfl <;> simp)
  have h4 := List.all_eq_true.1 h3 m (by have : m = 0 ∨ m = 1 ∨ m = 2 := by omega
                                         rcases this with rfl | rfl | rfl <;> simp)
  rw [Bool.or_eq_true] at h4
  rcases h4 with h | h
  · exact absurd (eq_of_beq h) hne
  · exact of_decide_eq_true h

theorem right_fl {p : Pm} (hr : p.right = true) : flB p.f = true ∧ 0 ≤ p.s ∧ p.s ≤ 2 := by
  unfold Pm.right at hr
  simp only [Bool.and_eq_true] at hr
  obtain ⟨h1, h2, _⟩ := hr
  simp only [isK, Bool.and_eq_true, decide_eq_true_eq] at h2
  exact ⟨h1, h2⟩

/-- Bytes of a primary with a sum, of which one bit is another one, are none's bytes. -/
theorem enc_flip (p q : Pm) (hp : p.right = true) (hq : q.right = true) (hpf : p.f ≤ 4294967295) (hqf : q.f ≤ 4294967295) (hs : p.s ≠ 0) {i j : Nat} {y : UInt8} (hi : i < (encP p p.s.toNat).length) (hj : j < 8)
    (hy : y.toNat = ((encP p p.s.toNat)[i]?.getD 0).toNat ^^^ 2 ^ j) : encP q q.s.toNat ≠ (encP p p.s.toNat).set i y := by
  intro h
  obtain ⟨hp1, hp2, hp3⟩ := right_fl hp
  obtain ⟨hq1, hq2, hq3⟩ := right_fl hq
  obtain ⟨k, hk⟩ : ∃ k, k = p.s.toNat := ⟨_, rfl⟩
  obtain ⟨m, hm⟩ : ∃ m, m = q.s.toNat := ⟨_, rfl⟩
  rw [← hk] at h hi hy
  rw [← hm] at h
  have hoff : offs (encP p k) (encP q m) ≤ 1 := by
    rw [h]
    exact Nat.le_trans (offs_set _ _ _) (offB_flip _ _ hj hy)
  by_cases hkm : k = m
  · subst hkm
    have hl := congrArg List.length h
    rw [List.length_set, encP_len, encP_len] at hl
    have e1 := encP_eq p k
    have e2 := encP_eq q k
    rw [encP_len] at hi
    rw [e1] at hy
    rw [e1, e2] at h
    have hz1 := zeroB_eq p k
    have hz2 := zeroB_eq q k
    by_cases hlt : i < (preB p k).length
    · rw [List.set_append_left _ _ hlt] at h
      obtain ⟨h1, h2⟩ := List.append_inj h (by rw [List.length_set]; omega)
      rw [List.getElem?_append_left hlt] at hy
      refine sumB_flip (k := k) (i := i) (j := j) (by omega) (by omega) (zeroB p k) y (by rw [hz1, List.length_append]; omega) hj (by rw [hz1, List.getElem?_append_left hlt]; exact hy) ?_
      rw [← h2, hz2, hz1, List.set_append_left _ _ hlt, h1]
    · rw [List.set_append_right _ _ (by omega)] at h
      obtain ⟨h1, h2⟩ := List.append_inj h (by omega)
      rw [List.getElem?_append_right (by omega)] at hy
      have hz : zeroB q k = zeroB p k := by rw [hz2, hz1, h1]
      rw [hz] at h2
      have hil : i - (preB p k).length < (sumB k (zeroB p k)).length := by rw [sumB_length]; omega
      have h3 := congrArg (fun l : List UInt8 => (l[i - (preB p k).length]?.getD 0).toNat) h2
      simp [hil] at h3
      rw [List.getElem?_eq_getElem hil, Option.getD_some] at hy
      obtain ⟨hne, _⟩ := flip_bits ((sumB k (zeroB p k))[i - (preB p k).length]) j y hy
      rw [h3] at hne
      exact hne rfl
  · have h2 := far_any (flB_mem hpf hp1) (flB_mem hqf hq1) (show 1 ≤ k by omega) (by omega) (show m ≤ 2 by omega) hkm
    obtain ⟨r, hr⟩ := preB_pfx p k (by omega)
    obtain ⟨s, hs2⟩ := preB_pfx q m (by omega)
    rw [encP_eq, encP_eq, hr, hs2, List.append_assoc, List.append_assoc] at hoff
    have := offs_pre (pfx k p.f) (pfx m q.f) (r ++ sumB k (zeroB p k)) (s ++ sumB m (zeroB q m))
    omega

/-- So they are not read. -/
theorem rdBy_flip (p : Pm) (hp : p.ok) (hr : p.right = true) (hs : p.s ≠ 0) {i j : Nat} {y : UInt8} (hi : i < (encP p p.s.toNat).length) (hj : j < 8)
    (hy : y.toNat = ((encP p p.s.toNat)[i]?.getD 0).toNat ^^^ 2 ^ j) : ∃ c : Int, c ≠ 0 ∧ rdBy ((encP p p.s.toNat).set i y) = .error c := by
  cases h : rdBy ((encP p p.s.toNat).set i y) with
  | error c => exact ⟨c, rdBy_ne h, rfl⟩
  | ok q =>
    obtain ⟨h1, h2, _, h4⟩ := rdBy_ok h
    exact absurd h4 (enc_flip p q hr h1 hp.f h2 hs hi hj hy)

end Go.Proofs.YtlmdbeccfoncpaaGreatDoor
