/- Sealed bytes with one bit that is another one are not opened. -/
import Derived.Test.YtjcfhkodfanbiaaSumF
namespace Go.Proofs.Ytjcfhkodfanbiaa
open Go.RowKit Go.Shelf

theorem sb2_inj {n m : Nat} (hn : n < 65536) (hm : m < 65536) (h : beB 2 n = beB 2 m) : n = m := by
  have h0 := congrArg (byteAt · 0) h
  have h1 := congrArg (byteAt · 1) h
  simp only [byteAt_beB 2 _ 0 (by omega), byteAt_beB 2 _ 1 (by omega), sb] at h0 h1
  simp at h0 h1
  omega

theorem sb4_inj {n m : Nat} (hn : n < 4294967296) (hm : m < 4294967296) (h : beB 4 n = beB 4 m) : n = m := by
  have h0 := congrArg (byteAt · 0) h
  have h1 := congrArg (byteAt · 1) h
  have h2 := congrArg (byteAt · 2) h
  have h3 := congrArg (byteAt · 3) h
  simp only [byteAt_beB 4 _ 0 (by omega), byteAt_beB 4 _ 1 (by omega), byteAt_beB 4 _ 2 (by omega), byteAt_beB 4 _ 3 (by omega), sb] at h0 h1 h2 h3
  simp at h0 h1 h2 h3
  omega

theorem sumB_inj {k : Nat} (h1 : 1 ≤ k) (h2 : k ≤ 2) {bs cs : List UInt8} (h : sumB k bs = sumB k cs) : sumN k bs = sumN k cs := by
  have hb := sumN_le (k := k) bs
  have hc := sumN_le (k := k) cs
  have hk : k = 1 ∨ k = 2 := by omega
  rcases hk with rfl | rfl
  · have e : onN 1 = 65535 := rfl
    exact sb2_inj (by omega) (by omega) h
  · have e : onN 2 = 4294967295 := rfl
    exact sb4_inj (by omega) (by omega) h

/-- One bit of the bytes is another one: so is the sum. -/
theorem sumB_flip {k i j : Nat} (h1 : 1 ≤ k) (h2 : k ≤ 2) (bs : List UInt8) (y : UInt8) (hi : i < bs.length) (hj : j < 8) (hy : y.toNat = (bs[i]?.getD 0).toNat ^^^ 2 ^ j) : sumB k bs ≠ sumB k (bs.set i y) := by
  intro h
  have hs := sumB_inj h1 h2 h
  unfold sumN at hs
  have hb := (word_bound h2 bs bs.length).1
  have hc := (word_bound h2 (bs.set i y) (bs.set i y).length).1
  rw [List.length_set] at hs hc
  have he : crcN (fxN k) (onN k) bs bs.length = crcN (fxN k) (onN k) (bs.set i y) bs.length := by omega
  have hyi : (bs.set i y)[i]?.getD 0 = y := by simp [hi]
  obtain ⟨hne, hsame⟩ := flip_bits (bs[i]?.getD 0) j y hy
  have hrest : ∀ q, q ≠ i → bs[q]?.getD 0 = (bs.set i y)[q]?.getD 0 := fun q hq => by
    rw [List.getElem?_set_ne (fun e => hq e.symm)]
  have hk : k = 1 ∨ k = 2 := by omega
  rcases hk with rfl | rfl
  · exact crcN_flip (m := 15) bs (bs.set i y) (by decide) (by decide) (by decide) hj (by rw [hyi]; exact hne) (by rw [hyi]; exact hsame) hrest _ hi he
  · exact crcN_flip (m := 31) bs (bs.set i y) (by decide) (by decide) (by decide) hj (by rw [hyi]; exact hne) (by rw [hyi]; exact hsame) hrest _ hi he

theorem openN_flip {k i j : Nat} (h1 : 1 ≤ k) (h2 : k ≤ 2) (bs : List UInt8) (y : UInt8) (hi : i < (bs ++ sumB k bs).length) (hj : j < 8) (hy : y.toNat = ((bs ++ sumB k bs)[i]?.getD 0).toNat ^^^ 2 ^ j) :
    openN k ((bs ++ sumB k bs).set i y) = none := by
  have hl := sumB_length k bs
  have e : ((bs ++ sumB k bs).set i y).length - wdN k = bs.length := by simp [hl]
  have hlen : (bs ++ sumB k bs).length = bs.length + wdN k := by simp [hl]
  have hns : ¬ ((bs ++ sumB k bs).set i y).length < wdN k := by simp [hl]
  rw [openN, if_neg hns, if_neg]
  unfold behindN aheadN
  rw [e]
  by_cases hlt : i < bs.length
  · rw [List.set_append_left _ _ hlt, List.drop_left' (by simp), List.take_left' (by simp)]
    rw [List.getElem?_append_left hlt] at hy
    exact sumB_flip h1 h2 bs y hlt hj hy
  · rw [List.set_append_right _ _ (by omega), List.drop_left' rfl, List.take_left' rfl]
    rw [List.getElem?_append_right (by omega)] at hy
    intro h
    have h3 := congrArg (fun l : List UInt8 => (l[i - bs.length]?.getD 0).toNat) h
    have hil : i - bs.length < (sumB k bs).length := by omega
    simp [hil] at h3
    rw [List.getElem?_eq_getElem hil, Option.getD_some] at hy
    obtain ⟨hne, _⟩ := flip_bits ((sumB k bs)[i - bs.length]) j y hy
    rw [h3] at hne
    exact hne rfl

end Go.Proofs.Ytjcfhkodfanbiaa
