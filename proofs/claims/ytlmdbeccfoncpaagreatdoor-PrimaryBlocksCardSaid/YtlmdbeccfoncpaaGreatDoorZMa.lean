/- Joined texts. -/
import Derived.Test.YtlmdbeccfoncpaaGreatDoorZJd
import Derived.Test.YtlmdbeccfoncpaaGreatDoorZKr
namespace Go.Proofs.YtlmdbeccfoncpaaGreatDoor
open Go.RowKit Go.Shelf

/-- Bytes that are lent: in memory of their own, 77 behind them. -/
def LentP (w : World) (bs : List UInt8) (e : Ending) (w' : World) : Prop :=
  ∃ g cap, e = .returned (.slice (some ⟨g, 0, none⟩) bs.length cap) ∧ bs.length < cap ∧ w.heap.size ≤ g ∧ RdB w' w'.heap.size (some ⟨g, 0, none⟩) (bs ++ [77]) ∧ Below w.heap.size w w'

theorem lent_form {w : World} {base : Nat} {v : Value} {bs : List UInt8} (h : OwnV w base 5 v (([] ++ bs.map encB) ++ [.int .u8 77])) :
    ∃ g cap, v = .slice (some ⟨g, 0, none⟩) (bs.length + 1) cap ∧ base ≤ g ∧ g < w.heap.size ∧ bs.length + 1 ≤ cap ∧ RdB w w.heap.size (some ⟨g, 0, none⟩) (bs ++ [77]) := by
  have e : ([] ++ bs.map encB) ++ [Value.int .u8 77] = (bs ++ [77]).map encB := by simp [encB]
  rw [e] at h
  obtain ⟨a, c, hv, hc, hr, ha⟩ := h.bytes
  rcases h.form with ⟨_, h0⟩ | ⟨g, cap, rfl, hb, hlt, hn, _⟩
  · simp at h0
  · injection hv with h1 h2 h3
    subst h1 h3
    refine ⟨g, cap, by simp, hb, hlt, by simpa using hn, hr⟩

/-- 's[:h]': at the same place. -/
theorem run_cut1h {P : Program} (t e : TypeId) (ht : P.underlying t = some (.slice e)) (hz : ∀ w, (Go.sizeOf e).run P w = .ok 1 w) (a : Option Addr) (n cap h : Nat) (h1 : h ≤ cap) (w : World) :
    (Instr.slice t (.slice a n cap) none (some (.int .i64 (h : Int))) none).run P w = .ok (.slice a h cap) w := by
  have ht' : P.underlying t = some (.slice (P.elem t)) := by simp [Program.elem, ht]
  have he : P.elem t = e := by simp [Program.elem, ht]
  rw [run_slice_h w t a n cap ht' .i64 h (by omega) (by omega), he, hz]
  rcases a with _ | ad
  · simp [Result.andThen, sliced]
  · simp [Result.andThen, sliced, Addr.add]

end Go.Proofs.YtlmdbeccfoncpaaGreatDoor

namespace Go.Proofs.YtlmdbeccfoncpaaGreatDoor
open Go.RowKit Go.Shelf

theorem ons_at {k : Nat} (hk : k ≤ 2) : (#[Value.int .u32 0, .int .u32 65535, .int .u32 4294967295] : Array Value)[k]? = some (.int .u32 (onN k)) := by
  rcases kind_cases hk with rfl | rfl | rfl <;> rfl

theorem fxs_at {k : Nat} (hk : k ≤ 2) : (#[Value.int .u32 0, .int .u32 33800, .int .u32 2197175160] : Array Value)[k]? = some (.int .u32 (fxN k)) := by
  rcases kind_cases hk with rfl | rfl | rfl <;> rfl

theorem int_div_pow (x m : Nat) : (x : Int) / 2 ^ m / 2 = (x : Int) / 2 ^ (m + 1) := by
  rw [Int.ediv_ediv_of_nonneg (Int.le_of_lt (Int.pow_pos (by omega))), Int.pow_succ]

set_option maxRecDepth 100000 in
set_option maxHeartbeats 2000000 in
theorem refOf_any (k : Nat) (hk : k ≤ 2) (a : Option Addr) (n c : Nat) (bs : List UInt8) (hn : n = bs.length) (w : World) (hlen : bs.length ≤ 140737488355328) (hr : RdB w w.heap.size a bs) :
    Calls Tryz.prog 66 #[.int .i64 k, .slice a n c] w fun e w' => e = .returned (.int .u32 (sumN k bs)) ∧ Below w.heap.size w w' := by
  subst hn
  have h1 := ons_at hk
  have h2 := fxs_at hk
  have HR := Lib.hid hr
  have B0 : Below w.heap.size w ((w.alloc (.cells #[.int .u32 0, .int .u32 65535, .int .u32 4294967295] 22)).alloc (.cells #[.int .u32 0, .int .u32 33800, .int .u32 2197175160] 22)) := below_al (below_al (Below.refl _ _) _) _
  clear hr
  go_enter Tryz.func66, Tryz.ntmps66
  go_wp2
  go_loop [7, 8] (fun wd i => ∃ j : Nat, j ≤ bs.length ∧ i = .int .i64 j ∧ wd = .int .u32 (crcN (fxN k) (onN k) bs j)) (fun _ i => bs.length - (intOf i).toNat)
  case atStart => exact ⟨0, Nat.zero_le _, rfl, rfl⟩
  case round =>
    obtain ⟨j, hj, rfl, rfl⟩ := hrel
    by_cases hlt : j < bs.length
    · rcases HR.out.below B0 with rfl | ⟨b, o, rfl, hb, hcs⟩
      · simp at hlt
      have hcx := hcs j hlt
      clear hcs
      obtain ⟨x, hx⟩ : ∃ x, x = numAt bs j := ⟨_, rfl⟩
      have hxb : byteAt bs j = (x : Int) := by rw [hx]; rfl
      have hx2 : x < 256 := by rw [hx]; exact numAt_lt bs j
      rw [hxb] at hcx
      have HX := Lib.hid hx
      clear hx hxb
      go_wp2
      go_loop [7, 9, 10] (fun wd y i => ∃ m : Nat, m ≤ 8 ∧ i = .int .i64 m ∧ wd = .int .u32 (runN (fxN k) (crcN (fxN k) (onN k) bs j) x m) ∧ y = .int .u32 ((x / 2 ^ m : Nat) : Int)) (fun _ _ i => 8 - (intOf i).toNat)
      case atStart => exact ⟨0, by omega, rfl, rfl, by simp⟩
      case round =>
        obtain ⟨m, hm, rfl, rfl, rfl⟩ := hrel
        by_cases hlt2 : m < 8
        · obtain ⟨wv, hwv⟩ : ∃ wv, wv = runN (fxN k) (crcN (fxN k) (onN k) bs j) x m := ⟨_, rfl⟩
          have hwl : wv < 4294967296 := by rw [hwv]; exact run_bound hk bs j x m
          obtain ⟨xv, hxv⟩ : ∃ xv, xv = x / 2 ^ m := ⟨_, rfl⟩
          have hxl : xv < 256 := by rw [hxv]; exact Nat.lt_of_le_of_lt (Nat.div_le_self _ _) hx2
          rw [← hwv, ← hxv]
          have HWV := Lib.hid hwv
          have HXV := Lib.hid hxv
          clear hwv hxv
          have hxd : Hid (((xv / 2 : Nat) : Int) = ((x / 2 ^ (m + 1) : Nat) : Int)) := by
            simp only [Hid, HXV.out, Nat.div_div_eq_div_mul, ← Nat.pow_succ]
          cases hne : ((wv : Int) % 2 != (xv : Int) % 2)
          · go_wp2
            go_round
            case rel =>
              refine ⟨m + 1, by omega, by go_num, ?_, by rw [← hxd.out, Int.natCast_ediv]; rfl⟩
              have he : wv % 2 = xv % 2 := by
                simp at hne
                omega
              have hs : runN (fxN k) (crcN (fxN k) (onN k) bs j) x (m + 1) = wv / 2 := by
                show stepN (fxN k) (runN (fxN k) (crcN (fxN k) (onN k) bs j) x m) (x / 2 ^ m) = _
                rw [← HWV.out, ← HXV.out]
                exact if_pos he
              rw [hs, Int.natCast_ediv]
              rfl
            case measure => simp [intOf]; omega
          · have hx2 : bits .xor .u32 ((wv : Int) / 2) (fxN k : Int) = ((wv / 2 ^^^ fxN k : Nat) : Int) := by
              have := bits_xor_u32_nat (wv / 2) (fxN k) (by omega) (fxN_lt hk)
              rwa [Int.natCast_ediv] at this
            go_wp2
            go_round
            case rel =>
              refine ⟨m + 1, by omega, by go_num, ?_, by rw [← hxd.out, Int.natCast_ediv]; rfl⟩
              have he : ¬ wv % 2 = xv % 2 := by
                simp at hne
                omega
              have hs : runN (fxN k) (crcN (fxN k) (onN k) bs j) x (m + 1) = wv / 2 ^^^ fxN k := by
                show stepN (fxN k) (runN (fxN k) (crcN (fxN k) (onN k) bs j) x m) (x / 2 ^ m) = _
                rw [← HWV.out, ← HXV.out]
                exact if_neg he
              rw [hs]
            case measure => simp [intOf]; omega
        · obtain rfl : m = 8 := by omega
          go_wp2
          go_round
          case rel =>
            refine ⟨j + 1, by omega, by go_num, ?_⟩
            rw [HX.out]
            rfl
          case measure => simp [intOf]; omega
    · obtain rfl : j = bs.length := by omega
      have hwb := word_bound hk bs bs.length
      have hon := onN_lt hk
      have hsb : (onN k : Int) - (crcN (fxN k) (onN k) bs bs.length : Int) = (sumN k bs : Int) := by
        unfold sumN
        omega
      have hsl : sumN k bs < 4294967296 := by
        unfold sumN
        omega
      have HB := Lib.hid hwb
      clear hwb
      go_wp2
      go_ret
      exact ⟨rfl, B0⟩

theorem refPutK (k : Nat) (h1 : 1 ≤ k) (h2 : k ≤ 2) (bs : List UInt8) (n m : Int) (hn : n = (sumN k bs : Int)) (hm : m = (wdN k : Int)) (w : World) :
    Calls Tryz.prog 69 #[.int .u64 n, .int .i64 m] w fun e w' => ∃ A C, e = .returned (.tuple #[.slice A (sumB k bs).length C, .int .i64 0]) ∧ RdB w' w'.heap.size A (sumB k bs) ∧ Below w.heap.size w w' := by
  subst hn hm
  have hle := sumN_le (k := k) bs
  have hk : k = 1 ∨ k = 2 := by omega
  rcases hk with rfl | rfl
  · have h1 : sumN 1 bs ≤ 65535 := hle
    refine (refPut_yes 2 _ w rfl (by unfold U64; omega) (by simp [fits]; omega)).mono ?_
    rintro e w' ⟨v, rfl, ⟨A, C, rfl, hc, hr, _⟩, hb⟩
    exact ⟨A, C, rfl, hr, hb⟩
  · have h1 : sumN 2 bs ≤ 4294967295 := hle
    refine (refPut_yes 4 _ w rfl (by unfold U64; omega) (by simp [fits]; omega)).mono ?_
    rintro e w' ⟨v, rfl, ⟨A, C, rfl, hc, hr, _⟩, hb⟩
    exact ⟨A, C, rfl, hr, hb⟩

/-- New bytes. -/
def SNewP (w : World) (bs : List UInt8) (e : Ending) (w' : World) : Prop := ∃ A C, e = .returned (.slice A bs.length C) ∧ bs.length ≤ C ∧ RdB w' w'.heap.size A bs ∧ Below w.heap.size w w'

end Go.Proofs.YtlmdbeccfoncpaaGreatDoor
