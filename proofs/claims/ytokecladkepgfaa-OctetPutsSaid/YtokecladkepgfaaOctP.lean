/- The walk of OctetPuts: whatever number, whatever width. -/
import Derived.Test.YtokecladkepgfaaOctJ
namespace Go.Proofs.Ytokecladkepgfaa
open Go.RowKit Go.Shelf

theorem u64_wf {n : Int} (h : (Lit.int .u64 n).wf = true) : U64 n := by
  simp [Lit.wf, IntKind.min, IntKind.max, IntKind.signed, IntKind.bits] at h
  unfold U64
  omega

theorem emod_step (q P : Int) (hP : 0 < P) : q / 256 % P * 256 + q % 256 = q % (P * 256) := by
  have h1 := Int.emod_add_mul_ediv q 256
  have h2 := Int.emod_add_mul_ediv (q / 256) P
  have hr0 := Int.emod_nonneg (q / 256) (show P ≠ 0 by omega)
  have hr1 := Int.emod_lt_of_pos (q / 256) hP
  have hb0 := Int.emod_nonneg q (show (256 : Int) ≠ 0 by omega)
  have hb1 := Int.emod_lt_of_pos q (show (0 : Int) < 256 by omega)
  obtain ⟨t, ht⟩ : ∃ t, t = q / 256 / P := ⟨_, rfl⟩
  obtain ⟨r, hr⟩ : ∃ r, r = q / 256 % P := ⟨_, rfl⟩
  obtain ⟨b, hb⟩ : ∃ b, b = q % 256 := ⟨_, rfl⟩
  rw [← ht, ← hr] at h2
  rw [← hr] at hr0 hr1
  rw [← hb] at h1 hb0 hb1
  rw [← hr, ← hb]
  have e : q = (r * 256 + b) + P * 256 * t := by
    rw [← h1, ← h2, Int.mul_add, ← Int.mul_assoc, Int.mul_comm 256 P]
    omega
  rw [e, Int.add_mul_emod_self_left, Int.emod_eq_of_lt (by omega) (by omega)]

/-- The number of the bytes of a number that fits is the number. -/
theorem valB_beB (W : Nat) (n : Int) (hn : 0 ≤ n) (k : Nat) (hk : k ≤ W) : valB (beB W n) k = n / 256 ^ (W - k) % 256 ^ k := by
  induction k with
  | zero => simp [valB, Int.emod_one]
  | succ k ih =>
    have ih' := ih (by omega)
    simp only [valB]
    rw [ih', byteAt_beB W n k (by omega), sb_eq, show W - 1 - k = W - (k + 1) by omega]
    obtain ⟨q, hq⟩ : ∃ q, q = n / 256 ^ (W - (k + 1)) := ⟨_, rfl⟩
    have e1 : n / 256 ^ (W - k) = q / 256 := by
      rw [hq, div_step, show W - (k + 1) + 1 = W - k by omega]
    have hq0 : 0 ≤ q := by rw [hq]; exact (div_pow_le n hn _).1
    rw [e1, ← hq, Int.pow_succ]
    exact emod_step q _ (pow256_pos k)

theorem valB_put (W : Nat) (n : Int) (hx : isW W = true) (hn : U64 n) (hf : fits W n = true) : valB (beB W n) W = n := by
  rw [valB_beB W n hn.1 W (Nat.le_refl _), Nat.sub_self]
  have h0 := (fits_iff W n hx hn).1 hf
  have hp := pow256_pos W
  rw [Int.pow_zero, Int.ediv_one]
  have := Int.emod_add_mul_ediv n (256 ^ W)
  rw [h0] at this
  omega

theorem get_put (a : Option Addr) (c W : Nat) (n : Int) (w : World) (hx : isW W = true) (hn : U64 n) (hf : fits W n = true) (hr : RdB w w.heap.size a (beB W n)) :
    Calls Try.prog 14 #[.slice a (beB W n).length c] w fun e w' => e = .returned (.tuple #[.int .u64 n, .int .i64 0]) ∧ Below w.heap.size w w' := by
  have h := get_ok a c (beB W n) w (by rw [beB_length]; exact hx) hr
  rwa [show valB (beB W n) (beB W n).length = n by rw [beB_length]; exact valB_put W n hx hn hf] at h

set_option maxRecDepth 100000 in
set_option maxHeartbeats 4000000 in
theorem walk_puts (n x : Int) (hn : U64 n) (w : World) :
    Calls Try.prog 3 #[.int .u64 n, .int .i64 x] w fun e w' => e = .returned (.bool true) ∧ Below w.heap.size w w' := by
  have HN := Lib.hid hn
  clear hn
  have knil := fun w : World => run_convert_bytes_nil (P := Try.prog) w 23 5 Try.underlying23 Try.underlying5 0 0 9 Try.underlying9
  cases hx : isW x
  · have HX := Lib.hid hx
    clear hx
    go_enter Try.func3, Try.ntmps3
    go_wp2_with fail
    refine (put_arg x n _ HX.out).mono ?_
    rintro e w1 ⟨rfl, hb1⟩
    go_wp2_with fail
    refine (refPut_arg x n _ HX.out).mono ?_
    rintro e w2 ⟨rfl, rfl⟩
    go_wp2_with (go_at_call 10; refine (num_any _ _).mono ?_; rintro e w' ⟨rfl, rfl⟩)
    refine (least_any n _ HN.out).mono ?_
    rintro e w2 ⟨rfl, hb2⟩
    go_wp2_with fail
    refine (refLeast_any n _ HN.out).mono ?_
    rintro e w3 ⟨rfl, hb3⟩
    go_wp2_with fail
    refine (works_any _).mono ?_
    rintro e w4 ⟨rfl, hb4⟩
    go_wp2
    go_ret
    exact ⟨rfl, below_on (below_on (below_on hb1 hb2) hb3) hb4⟩
  · obtain ⟨W, rfl⟩ : ∃ W : Nat, x = (W : Int) := ⟨x.toNat, by have := isW_cases hx; omega⟩
    have HX := Lib.hid hx
    clear hx
    cases hf : fits W n
    · have HF := Lib.hid hf
      clear hf
      go_enter Try.func3, Try.ntmps3
      go_wp2_with fail
      refine (put_range W n _ HX.out HN.out HF.out).mono ?_
      rintro e w1 ⟨rfl, hb1⟩
      go_wp2_with fail
      refine (refPut_no W n _ HX.out HN.out HF.out).mono ?_
      rintro e w2 ⟨rfl, hb2⟩
      go_wp2_with (go_at_call 10; refine (num_any _ _).mono ?_; rintro e w' ⟨rfl, rfl⟩)
      refine (least_any n _ HN.out).mono ?_
      rintro e w3 ⟨rfl, hb3⟩
      go_wp2_with fail
      refine (refLeast_any n _ HN.out).mono ?_
      rintro e w4 ⟨rfl, hb4⟩
      go_wp2_with fail
      refine (works_any _).mono ?_
      rintro e w5 ⟨rfl, hb5⟩
      go_wp2
      go_ret
      exact ⟨rfl, below_on (below_on (below_on (below_on hb1 hb2) hb3) hb4) hb5⟩
    · have HF := Lib.hid hf
      clear hf
      go_enter Try.func3, Try.ntmps3
      go_wp2_with fail
      refine (put_ok W n _ HX.out HN.out HF.out).mono ?_
      rintro e w1 ⟨v, rfl, ⟨a, c, rfl, _, hr1, _⟩, hb1⟩
      go_wp2_with fail
      refine (refPut_yes W n _ HX.out HN.out HF.out).mono ?_
      rintro e w2 ⟨v, rfl, ⟨a2, c2, rfl, _, hr2, _⟩, hb2⟩
      have k1 := (hr1.below hb2).text (P := Try.prog) 23 9 5 _ c rfl Try.underlying23 Try.underlying5 Try.underlying9
      have k2 := hr2.text (P := Try.prog) 23 9 5 _ c2 rfl Try.underlying23 Try.underlying5 Try.underlying9
      go_wp2_with (go_at_call 10; refine (num_any _ _).mono ?_; rintro e w' ⟨rfl, rfl⟩)
      refine (least_any n _ HN.out).mono ?_
      rintro e w3 ⟨rfl, hb3⟩
      go_wp2_with fail
      refine (refLeast_any n _ HN.out).mono ?_
      rintro e w4 ⟨rfl, hb4⟩
      clear k1 k2
      have hr4 := ((hr1.below hb2).mono hb2.size |>.below hb3).mono hb3.size |>.below hb4 |>.mono hb4.size
      have HB := Lib.hid (below_on (below_on (below_on hb1 hb2) hb3) hb4)
      clear hr1 hr2 hb1 hb2 hb3 hb4
      have HR := Lib.hid hr4
      clear hr4
      go_wp2_with fail
      refine (get_put a c W n _ HX.out HN.out HF.out HR.out).mono ?_
      rintro e w5 ⟨rfl, hb5⟩
      go_wp2_with (go_at_call 10; refine (num_any _ _).mono ?_; rintro e w' ⟨rfl, rfl⟩)
      refine (works_any _).mono ?_
      rintro e w6 ⟨rfl, hb6⟩
      go_wp2
      go_ret
      exact ⟨rfl, below_on (below_on HB.out hb5) hb6⟩

end Go.Proofs.Ytokecladkepgfaa
