/- Heads there and back; bytes as many as may be. -/
import Derived.Test.YtncemmhbbkpieaaDoorCbQ
import Derived.Test.YtncemmhbbkpieaaDoorOctP
namespace Go.Proofs.YtncemmhbbkpieaaDoor
open Go.RowKit Go.Shelf
set_option linter.unusedSimpArgs false

theorem lg_pow {W : Nat} (h : isW (W : Int) = true) : 2 ^ lg W = W := by
  have := isW_cases h
  have h4 : W = 1 ∨ W = 2 ∨ W = 4 ∨ W = 8 := by omega
  rcases h4 with rfl | rfl | rfl | rfl <;> decide

theorem begins_self' (h r : List UInt8) : begins (h ++ r) h = true := by
  simp [begins]

/-- A head is read as it is, whatever stands behind. -/
theorem headN_headB (m : Nat) (n : Int) (r : List UInt8) (hm : m < 8) (hn : U64 n) : headN (headB m n ++ r) = some (m, n, r) := by
  by_cases h : n < 24
  · obtain ⟨k, rfl⟩ := Int.eq_ofNat_of_zero_le hn.1
    rw [headB_small m k h]
    have hk : k < 24 := by omega
    have e : (UInt8.ofNat (32 * m + ((k : Int)).toNat)).toNat = 32 * m + k := by
      rw [UInt8.toNat_ofNat', Int.toNat_natCast]
      exact Nat.mod_eq_of_lt (by omega)
    simp only [List.singleton_append, headN, e]
    have e1 : (32 * m + k) % 32 = k := by omega
    have e2 : (32 * m + k) / 32 = m := by omega
    rw [e1, e2, if_pos hk]
  · obtain ⟨W, hW, hx, hf⟩ := least_good n
    have hb := headB_wide m n h W hW
    have hl := lg_le W
    have hp := lg_pow hx
    have e : (UInt8.ofNat (32 * m + 24 + lg W)).toNat = 32 * m + 24 + lg W := by
      rw [UInt8.toNat_ofNat']
      exact Nat.mod_eq_of_lt (by omega)
    have hc : headB m n ++ r = UInt8.ofNat (32 * m + 24 + lg W) :: (beB W n ++ r) := by rw [hb]; rfl
    have ht : (beB W n ++ r).take W = beB W n := by
      rw [List.take_append_of_le_length (by rw [beB_length]; exact Nat.le_refl _)]
      exact List.take_of_length_le (by rw [beB_length]; exact Nat.le_refl _)
    have hd : (beB W n ++ r).drop W = r := by
      have := List.drop_left (l₁ := beB W n) (l₂ := r)
      rwa [beB_length] at this
    have e1 : (32 * m + 24 + lg W) / 32 = m := by omega
    have hnum : numN (beB W n ++ r) W = n := by
      rw [numN, if_pos hx, ht]
      exact valB_put W n hx hn hf
    rw [hc, headN_wide _ _ W (by rw [e, show (32 * m + 24 + lg W) % 32 - 24 = lg W by omega, hp]) (by rw [e]; omega), e, e1, hnum, hd, ← hc, begins_self', if_pos rfl, if_pos (by rw [List.length_append, beB_length]; omega)]

/-- So many zero bytes, as an item. -/
def zeros (n : Nat) : List UInt8 := List.replicate n 0

def itZ (n : Nat) : It := .mk 2 0 (zeros n) [] []

theorem zeros_length (n : Nat) : (zeros n).length = n := by simp [zeros]

theorem itZ_bytes (n : Nat) : (itZ n).bytes = headB 2 n ++ zeros n := by
  simp [itZ, It.bytes, ownB, bytesL, zeros_length]

theorem itZ_err (n : Nat) : (itZ n).err = if 65536 < (headB 2 n).length + n then 3 else 0 := by
  have hr : (itZ n).right = true := by simp [itZ, It.right, rightN, rightL]
  have hd : ¬ 8 < (itZ n).depth := by simp [itZ, It.depth, It.depth.depthL]
  have hb : (itZ n).bytes.length = (headB 2 n).length + n := by rw [itZ_bytes, List.length_append, zeros_length]
  rw [It.err, hr, if_pos rfl, if_neg hd, hb]

theorem head2_mid (n : Nat) (h1 : 256 ≤ n) (h2 : n < 65536) : headB 2 n = [89, UInt8.ofNat (n / 256), UInt8.ofNat n] := by
  have hl : leastOf (n : Int) = ((2 : Nat) : Int) := by
    have e1 : (n : Int) / 256 ≠ 0 := by omega
    have e2 : (n : Int) / 65536 = 0 := by omega
    simp [leastOf, firstW, fits, e1, e2]
  rw [headB_wide 2 n (by omega) 2 hl]
  have e : beB 2 (n : Int) = [UInt8.ofNat (n / 256), UInt8.ofNat n] := by
    have h0 : sb (n : Int) 0 = ((n % 256 : Nat) : Int) := by simp [sb]
    have h1' : sb (n : Int) 1 = ((n / 256 : Nat) : Int) := by
      simp [sb]
      omega
    have hr : List.range 2 = [0, 1] := by decide
    simp only [beB, hr, List.map_cons, List.map_nil, Nat.reduceSub, h0, h1', Int.toNat_natCast]
    congr 2
    · apply UInt8.toNat_inj.1
      simp
  rw [e]
  rfl

theorem decode_itZ (n : Nat) (h1 : 256 ≤ n) (h2 : n < 65536) : decodeN (headB 2 n ++ zeros n) = if 65536 < 3 + n then .error 3 else .ok (itZ n) := by
  have hlen : (headB 2 n ++ zeros n).length = 3 + n := by rw [List.length_append, zeros_length, head2_mid n h1 h2]; rfl
  have hit : itemN 8 (headB 2 n ++ zeros n) = .ok (itZ n, []) := by
    have hh := headN_headB 2 n (zeros n) (by decide) ⟨by omega, by omega⟩
    rw [itemN_bytes (k := 7) hh (by rw [Int.toNat_natCast, zeros_length]; exact Nat.le_refl _), Int.toNat_natCast]
    rw [List.take_of_length_le (by rw [zeros_length]; exact Nat.le_refl _), List.drop_eq_nil_of_le (by rw [zeros_length]; exact Nat.le_refl _)]
    rfl
  simp only [decodeN, firstN, hlen, hit]
  by_cases h : 65536 < 3 + n
  · rw [if_pos h, if_pos h]
  · rw [if_neg h, if_neg h]
    simp

end Go.Proofs.YtncemmhbbkpieaaDoor
