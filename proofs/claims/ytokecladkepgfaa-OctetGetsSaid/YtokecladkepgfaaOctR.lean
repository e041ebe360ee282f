/- The walk of OctetGets: whatever bytes. -/
import Derived.Test.YtokecladkepgfaaOctQ
namespace Go.Proofs.Ytokecladkepgfaa
open Go.RowKit Go.Shelf

theorem valB_div (bs : List UInt8) (k m : Nat) : valB bs (k + m) / 256 ^ m = valB bs k := by
  induction m with
  | zero => simp
  | succ m ih =>
    have e : valB bs (k + (m + 1)) = valB bs (k + m) * 256 + byteAt bs (k + m) := rfl
    have h0 := byteAt_lo bs (k + m)
    have h1 := byteAt_hi bs (k + m)
    have e2 : (256 : Int) ^ (m + 1) = 256 * 256 ^ m := by rw [Int.pow_succ, Int.mul_comm]
    rw [e2, ← Int.ediv_ediv_of_nonneg (by omega), e, ← ih]
    congr 1
    omega

theorem beB_valB (bs : List UInt8) : beB bs.length (valB bs bs.length) = bs := by
  refine ext_bytes (beB_length _ _) fun j hj => ?_
  rw [beB_length] at hj
  rw [byteAt_beB _ _ _ hj, sb_eq]
  have h := valB_div bs (j + 1) (bs.length - 1 - j)
  rw [show j + 1 + (bs.length - 1 - j) = bs.length by omega] at h
  rw [h]
  have h0 := byteAt_lo bs j
  have h1 := byteAt_hi bs j
  simp only [valB]
  omega

theorem valB_u64 (bs : List UInt8) (hx : isW bs.length = true) : U64 (valB bs bs.length) := by
  have h := valB_bd bs bs.length
  have hl : bs.length ≤ 8 := by have := isW_cases hx; omega
  have := pow256_le hl
  have e : (256 : Int) ^ 8 = 18446744073709551616 := by decide
  unfold U64
  omega

theorem valB_fits (bs : List UInt8) (hx : isW bs.length = true) : fits bs.length (valB bs bs.length) = true := by
  rw [fits_iff bs.length _ hx (valB_u64 bs hx)]
  exact Int.ediv_eq_zero_of_lt (valB_bd bs _).1 (valB_bd bs _).2

theorem put_get (bs : List UInt8) (w : World) (hx : isW bs.length = true) :
    Calls Try.prog 8 #[.int .u64 (valB bs bs.length), .int .i64 (bs.length : Int)] w fun e w' => ∃ a c, e = .returned (.tuple #[.slice a bs.length c, .int .i64 0]) ∧ RdB w' w'.heap.size a bs ∧ Below w.heap.size w w' := by
  refine (put_ok bs.length _ w hx (valB_u64 bs hx) (valB_fits bs hx)).mono ?_
  rintro e w' ⟨v, rfl, ⟨a, c, rfl, _, hr, _⟩, hb⟩
  rw [beB_valB] at hr ⊢
  exact ⟨a, c, rfl, hr, hb⟩

set_option maxRecDepth 100000 in
set_option maxHeartbeats 4000000 in
theorem walk_gets (a : Option Addr) (c : Nat) (bs : List UInt8) (w : World) (hlen : bs.length ≤ 140737488351232) (hr : RdB w w.heap.size a bs) :
    Calls Try.prog 4 #[.slice a bs.length c] w fun e w' => e = .returned (.bool true) ∧ Below w.heap.size w w' := by
  have HR := Lib.hid hr
  clear hr
  cases hx : isW bs.length
  · have HX := Lib.hid hx
    clear hx
    go_enter Try.func4, Try.ntmps4
    go_wp2_with fail
    refine (lent_any a c bs _ hlen HR.out).mono ?_
    rintro e w1 ⟨g, cap, rfl, hcap, _, hm, hb1⟩
    have HM := Lib.hid hm
    clear hm
    go_wp2_with fail
    refine (get_arg _ bs.length cap _ HX.out).mono ?_
    rintro e w2 ⟨rfl, hb2⟩
    go_wp2_with fail
    refine (refGet_arg _ bs.length c _ HX.out).mono ?_
    rintro e w3 ⟨rfl, rfl⟩
    go_wp2_with (go_at_call 10; refine (num_any _ _).mono ?_; rintro e w' ⟨rfl, rfl⟩)
    refine (kept_any g cap c w1.heap.size a bs _ hlen hcap (HM.out.below hb2) ((HR.out.below (hb1.trans (hb2.mono hb1.size))).mono hb1.size)).mono ?_
    rintro e w3 ⟨rfl, rfl⟩
    go_wp2_with fail
    refine (works_any _).mono ?_
    rintro e w4 ⟨rfl, hb4⟩
    go_wp2
    go_ret
    exact ⟨rfl, below_on (below_on hb1 hb2) hb4⟩
  · have HX := Lib.hid hx
    clear hx
    go_enter Try.func4, Try.ntmps4
    go_wp2_with fail
    refine (lent_any a c bs _ hlen HR.out).mono ?_
    rintro e w1 ⟨g, cap, rfl, hcap, _, hm, hb1⟩
    have HM := Lib.hid hm
    clear hm
    have ht := HM.out.take bs.length
    rw [List.take_left' rfl] at ht
    have HT := Lib.hid ht
    clear ht
    go_wp2_with fail
    refine (get_ok _ cap bs _ HX.out HT.out).mono ?_
    rintro e w2 ⟨rfl, hb2⟩
    go_wp2_with fail
    refine (refGet_ok _ c bs w.heap.size _ HX.out (HR.out.below (hb1.trans (hb2.mono hb1.size)))).mono ?_
    rintro e w3 ⟨rfl, rfl⟩
    go_wp2_with (go_at_call 10; refine (num_any _ _).mono ?_; rintro e w' ⟨rfl, rfl⟩)
    refine (kept_any g cap c w1.heap.size a bs _ hlen hcap (HM.out.below hb2) ((HR.out.below (hb1.trans (hb2.mono hb1.size))).mono hb1.size)).mono ?_
    rintro e w3 ⟨rfl, rfl⟩
    go_wp2_with fail
    refine (put_get bs _ HX.out).mono ?_
    rintro e w4 ⟨a4, c4, rfl, hr4, hb4⟩
    have k1 := hr4.text (P := Try.prog) 23 9 5 bs.length c4 rfl Try.underlying23 Try.underlying5 Try.underlying9
    have k2 := (HR.out.below (below_on (below_on hb1 hb2) hb4)).text (P := Try.prog) 23 9 5 bs.length c rfl Try.underlying23 Try.underlying5 Try.underlying9
    clear hr4
    go_wp2_with (go_at_call 10; refine (num_any _ _).mono ?_; rintro e w' ⟨rfl, rfl⟩)
    refine (works_any _).mono ?_
    rintro e w5 ⟨rfl, hb5⟩
    go_wp2
    go_ret
    exact ⟨rfl, below_on (below_on (below_on hb1 hb2) hb4) hb5⟩

end Go.Proofs.Ytokecladkepgfaa
