/- Joined texts. -/
import Derived.Test.YtpffmpjdkpfpmaaGreatDoorZJd
namespace Go.Proofs.YtpffmpjdkpfpmaaGreatDoor
open Go.RowKit Go.Shelf

/-- What is known where the sums are held against one another. -/
def OpenF (w : World) (G k B g o : Nat) (A0 A1 : Option Addr) (C0 C1 : Nat) (p t : List UInt8) (w' : World) : Prop :=
  KindAt w G k w' ∧ B ≤ w'.heap.size ∧ g < B ∧ w'.cell? ⟨g, o, none⟩ = some (.slice A0 p.length C0) ∧ w'.cell? ⟨g, o + 1, none⟩ = some (.slice A1 t.length C1) ∧ RdB w' B A0 p ∧ RdB w' B A1 t

theorem OpenF.later {w : World} {G k B g o : Nat} {A0 A1 : Option Addr} {C0 C1 : Nat} {p t : List UInt8} {w1 w2 : World} (h : OpenF w G k B g o A0 A1 C0 C1 p t w1) (hb : Below w1.heap.size w1 w2) : OpenF w G k B g o A0 A1 C0 C1 p t w2 := by
  obtain ⟨h1, hB, hg, h2, h3, h4, h5⟩ := h
  have l2 := World.block_lt_of_cell? w1 _ h2
  exact ⟨h1.later hb, Nat.le_trans hB hb.size, hg, (hb.cell l2).trans h2, (hb.cell (p := ⟨g, o + 1, none⟩) l2).trans h3, h4.below (hb.mono hB), h5.below (hb.mono hB)⟩

theorem OpenF.held {w : World} {G k B g o : Nat} {A0 A1 : Option Addr} {C0 C1 : Nat} {p t : List UInt8} {w1 : World} (h : OpenF w G k B g o A0 A1 C0 C1 p t w1) :
    (w1.cell? ⟨g, o, none⟩ = some (.slice A0 p.length C0) ∧ w1.cell? ⟨g, o + 1, none⟩ = some (.slice A1 t.length C1) ∧
      w1.cell? ⟨G, 0, none⟩ = some (.int .i64 (wdN k)) ∧ w1.cell? ⟨G, 1, none⟩ = some (.int .u32 (onN k)) ∧ w1.cell? ⟨G, 2, none⟩ = some (.int .u32 (fxN k))) ∧ OpenF w G k B g o A0 A1 C0 C1 p t w1 :=
  ⟨⟨h.2.2.2.1, h.2.2.2.2.1, h.1.held.1⟩, h⟩

end Go.Proofs.YtpffmpjdkpfpmaaGreatDoor

namespace Go.Proofs.YtpffmpjdkpfpmaaGreatDoor
open Go.RowKit Go.Shelf

theorem sb2_inj {n m : Nat} (hn : n < 65536) (hm : m < 65536) (h : beB 2 n = beB 2 m) : n = m := by
  have h0 := congrArg (byteAt · 0) h
  have h1 := congrArg (byteAt · 1) h
  simp only [byteAt_beB 2 _ 0 (by omega), byteAt_beB 2 _ 1 (by omega), sb] at h0 h1
  simp at h0 h1
  omega

theorem sb4_inj {n m : Nat} (hn : n < 4294967296) (hm : m < 4294967296) (h : beB 4 n = beB 4 m) : n = m := by
  have h0 := congrArg (byteAt · 0) h
  have h1 := congrArg (byteAt · 1) h
  have h2 := congrArg (byteAt · 2) h
  have h3 := congrArg (byteAt · 3) h
  simp only [byteAt_beB 4 _ 0 (by omega), byteAt_beB 4 _ 1 (by omega), byteAt_beB 4 _ 2 (by omega), byteAt_beB 4 _ 3 (by omega), sb] at h0 h1 h2 h3
  simp at h0 h1 h2 h3
  omega

theorem sumB_inj {k : Nat} (h1 : 1 ≤ k) (h2 : k ≤ 2) {bs cs : List UInt8} (h : sumB k bs = sumB k cs) : sumN k bs = sumN k cs := by
  have hb := sumN_le (k := k) bs
  have hc := sumN_le (k := k) cs
  have hk : k = 1 ∨ k = 2 := by omega
  rcases hk with rfl | rfl
  · have e : onN 1 = 65535 := rfl
    exact sb2_inj (by omega) (by omega) h
  · have e : onN 2 = 4294967295 := rfl
    exact sb4_inj (by omega) (by omega) h

/-- One bit of the bytes is another one: so is the sum. -/
theorem sumB_flip {k i j : Nat} (h1 : 1 ≤ k) (h2 : k ≤ 2) (bs : List UInt8) (y : UInt8) (hi : i < bs.length) (hj : j < 8) (hy : y.toNat = (bs[i]?.getD 0).toNat ^^^ 2 ^ j) : sumB k bs ≠ sumB k (bs.set i y) := by
  intro h
  have hs := sumB_inj h1 h2 h
  unfold sumN at hs
  have hb := (word_bound h2 bs bs.length).1
  have hc := (word_bound h2 (bs.set i y) (bs.set i y).length).1
  rw [List.length_set] at hs hc
  have he : crcN (fxN k) (onN k) bs bs.length = crcN (fxN k) (onN k) (bs.set i y) bs.length := by omega
  have hyi : (bs.set i y)[i]?.getD 0 = y := by simp [hi]
  obtain ⟨hne, hsame⟩ := flip_bits (bs[i]?.getD 0) j y hy
  have hrest : ∀ q, q ≠ i → bs[q]?.getD 0 = (bs.set i y)[q]?.getD 0 := fun q hq => by
    rw [List.getElem?_set_ne (fun e => hq e.symm)]
  have hk : k = 1 ∨ k = 2 := by omega
  rcases hk with rfl | rfl
  · exact crcN_flip (m := 15) bs (bs.set i y) (by decide) (by decide) (by decide) hj (by rw [hyi]; exact hne) (by rw [hyi]; exact hsame) hrest _ hi he
  · exact crcN_flip (m := 31) bs (bs.set i y) (by decide) (by decide) (by decide) hj (by rw [hyi]; exact hne) (by rw [hyi]; exact hsame) hrest _ hi he

end Go.Proofs.YtpffmpjdkpfpmaaGreatDoor
