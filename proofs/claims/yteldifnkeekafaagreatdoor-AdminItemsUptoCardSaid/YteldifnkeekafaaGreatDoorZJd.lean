/- Joined texts. -/
import Derived.Test.YteldifnkeekafaaGreatDoorZJb
import Derived.Lib.SlBytesConst
import Derived.Lib.SmallJoins
import Derived.Deep.RegionHeld3
namespace Go.Proofs.YteldifnkeekafaaGreatDoor
open Go.RowKit Go.Shelf

theorem rdB_lit (w : World) (t : TypeId) (C : Array Value) (fr : Nat × Nat) (bs : List UInt8) (hC : C = (bs.map encB).toArray) : RdB (w.alloc (.cells C t fr)) (w.heap.size + 1) (some ⟨w.heap.size, 0, none⟩) bs := by
 refine .inr ⟨w.heap.size, 0, rfl, by omega, fun j hj => ?_⟩
 rw [Nat.zero_add, World.cell?_alloc_mark, hC]
 have := encB_at bs j hj
 simpa using this

theorem emod_step (q P : Int) (hP : 0 < P) : q / 256 % P * 256 + q % 256 = q % (P * 256) := by
 have h1 := Int.emod_add_mul_ediv q 256
 have h2 := Int.emod_add_mul_ediv (q / 256) P
 have hr0 := Int.emod_nonneg (q / 256) (show P ≠ 0 by omega)
 have hr1 := Int.emod_lt_of_pos (q / 256) hP
 have hb0 := Int.emod_nonneg q (show (256 : Int) ≠ 0 by omega)
 have hb1 := Int.emod_lt_of_pos q (show (0 : Int) < 256 by omega)
 obtain ⟨t, ht⟩ : ∃ t, t = q / 256 / P := ⟨_, rfl⟩
 obtain ⟨r, hr⟩ : ∃ r, r = q / 256 % P := ⟨_, rfl⟩
 obtain ⟨b, hb⟩ : ∃ b, b = q % 256 := ⟨_, rfl⟩
 rw [← ht, ← hr] at h2
 rw [← hr] at hr0 hr1
 rw [← hb] at h1 hb0 hb1
 rw [← hr, ← hb]
 have e : q = (r * 256 + b) + P * 256 * t := by
  rw [← h1, ← h2, Int.mul_add, ← Int.mul_assoc, Int.mul_comm 256 P]
  omega
 rw [e, Int.add_mul_emod_self_left, Int.emod_eq_of_lt (by omega) (by omega)]

theorem valB_beB (W : Nat) (n : Int) (hn : 0 ≤ n) (k : Nat) (hk : k ≤ W) : valB (beB W n) k = n / 256 ^ (W - k) % 256 ^ k := by
 induction k with
 | zero => simp [valB, Int.emod_one]
 | succ k ih =>
  have ih' := ih (by omega)
  simp only [valB]
  rw [ih', byteAt_beB W n k (by omega), sb_eq, show W - 1 - k = W - (k + 1) by omega]
  obtain ⟨q, hq⟩ : ∃ q, q = n / 256 ^ (W - (k + 1)) := ⟨_, rfl⟩
  have e1 : n / 256 ^ (W - k) = q / 256 := by
   rw [hq, div_step, show W - (k + 1) + 1 = W - k by omega]
  have hq0 : 0 ≤ q := by rw [hq]; exact (div_pow_le n hn _).1
  rw [e1, ← hq, Int.pow_succ]
  exact emod_step q _ (pow256_pos k)

theorem valB_put (W : Nat) (n : Int) (hx : isW W = true) (hn : U64 n) (hf : fits W n = true) : valB (beB W n) W = n := by
 rw [valB_beB W n hn.1 W (Nat.le_refl _), Nat.sub_self]
 have h0 := (fits_iff W n hx hn).1 hf
 have hp := pow256_pos W
 rw [Int.pow_zero, Int.ediv_one]
 have := Int.emod_add_mul_ediv n (256 ^ W)
 rw [h0] at this
 omega

theorem rdP_pair (w : World) (B : Nat) (hB : B ≤ w.heap.size) (t : TypeId) (a1 a2 : Option Addr) (c1 c2 : Nat) (p1 p2 : List UInt8) (h1 : RdB w B a1 p1) (h2 : RdB w B a2 p2) (l1 : p1.length ≤ c1) (l2 : p2.length ≤ c2) :
  RdP (w.alloc (.cells #[.slice a1 p1.length c1, .slice a2 p2.length c2] t)) (w.alloc (.cells #[.slice a1 p1.length c1, .slice a2 p2.length c2] t)).heap.size (some ⟨w.heap.size, 0, none⟩) [p1, p2] := by
 refine .inr ⟨w.heap.size, 0, rfl, by simp, fun j hj => ?_⟩
 have hb : Below B w (w.alloc (.cells #[.slice a1 p1.length c1, .slice a2 p2.length c2] t)) := bR.alloc hB _
 rw [Nat.zero_add, World.cell?_alloc_mark]
 simp at hj
 have hj2 : j = 0 ∨ j = 1 := by omega
 rcases hj2 with rfl | rfl
 ·exact ⟨a1, c1, rfl, l1, (h1.below hb).mono (by simp; omega)⟩
 ·exact ⟨a2, c2, rfl, l2, (h2.below hb).mono (by simp; omega)⟩

end Go.Proofs.YteldifnkeekafaaGreatDoor
