/- The walk of OctetPuts: whatever number, whatever width. -/
import Derived.Test.YtncemmhbbkpieaaDoorOctJ
namespace Go.Proofs.YtncemmhbbkpieaaDoor
open Go.RowKit Go.Shelf

theorem u64_wf {n : Int} (h : (Lit.int .u64 n).wf = true) : U64 n := by
  simp [Lit.wf, IntKind.min, IntKind.max, IntKind.signed, IntKind.bits] at h
  unfold U64
  omega

theorem emod_step (q P : Int) (hP : 0 < P) : q / 256 % P * 256 + q % 256 = q % (P * 256) := by
  have h1 := Int.emod_add_mul_ediv q 256
  have h2 := Int.emod_add_mul_ediv (q / 256) P
  have hr0 := Int.emod_nonneg (q / 256) (show P ≠ 0 by omega)
  have hr1 := Int.emod_lt_of_pos (q / 256) hP
  have hb0 := Int.emod_nonneg q (show (256 : Int) ≠ 0 by omega)
  have hb1 := Int.emod_lt_of_pos q (show (0 : Int) < 256 by omega)
  obtain ⟨t, ht⟩ : ∃ t, t = q / 256 / P := ⟨_, rfl⟩
  obtain ⟨r, hr⟩ : ∃ r, r = q / 256 % P := ⟨_, rfl⟩
  obtain ⟨b, hb⟩ : ∃ b, b = q % 256 := ⟨_, rfl⟩
  rw [← ht, ← hr] at h2
  rw [← hr] at hr0 hr1
  rw [← hb] at h1 hb0 hb1
  rw [← hr, ← hb]
  have e : q = (r * 256 + b) + P * 256 * t := by
    rw [← h1, ← h2, Int.mul_add, ← Int.mul_assoc, Int.mul_comm 256 P]
    omega
  rw [e, Int.add_mul_emod_self_left, Int.emod_eq_of_lt (by omega) (by omega)]

/-- The number of the bytes of a number that fits is the number. -/
theorem valB_beB (W : Nat) (n : Int) (hn : 0 ≤ n) (k : Nat) (hk : k ≤ W) : valB (beB W n) k = n / 256 ^ (W - k) % 256 ^ k := by
  induction k with
  | zero => simp [valB, Int.emod_one]
  | succ k ih =>
    have ih' := ih (by omega)
    simp only [valB]
    rw [ih', byteAt_beB W n k (by omega), sb_eq, show W - 1 - k = W - (k + 1) by omega]
    obtain ⟨q, hq⟩ : ∃ q, q = n / 256 ^ (W - (k + 1)) := ⟨_, rfl⟩
    have e1 : n / 256 ^ (W - k) = q / 256 := by
      rw [hq, div_step, show W - (k + 1) + 1 = W - k by omega]
    have hq0 : 0 ≤ q := by rw [hq]; exact (div_pow_le n hn _).1
    rw [e1, ← hq, Int.pow_succ]
    exact emod_step q _ (pow256_pos k)

theorem valB_put (W : Nat) (n : Int) (hx : isW W = true) (hn : U64 n) (hf : fits W n = true) : valB (beB W n) W = n := by
  rw [valB_beB W n hn.1 W (Nat.le_refl _), Nat.sub_self]
  have h0 := (fits_iff W n hx hn).1 hf
  have hp := pow256_pos W
  rw [Int.pow_zero, Int.ediv_one]
  have := Int.emod_add_mul_ediv n (256 ^ W)
  rw [h0] at this
  omega

theorem get_put (a : Option Addr) (c W : Nat) (n : Int) (w : World) (hx : isW W = true) (hn : U64 n) (hf : fits W n = true) (hr : RdB w w.heap.size a (beB W n)) :
    Calls Tryd.prog 54 #[.slice a (beB W n).length c] w fun e w' => e = .returned (.tuple #[.int .u64 n, .int .i64 0]) ∧ Below w.heap.size w w' := by
  have h := get_ok a c (beB W n) w (by rw [beB_length]; exact hx) hr
  rwa [show valB (beB W n) (beB W n).length = n by rw [beB_length]; exact valB_put W n hx hn hf] at h

end Go.Proofs.YtncemmhbbkpieaaDoor
