/- The document's answers for package sum. -/
import Derived.Test.YtjcfhkodfanbiaaSumF
import Derived.Test.YtjcfhkodfanbiaaOctQ
namespace Go.Proofs.Ytjcfhkodfanbiaa
open Go.RowKit Go.Shelf

theorem ons_at {k : Nat} (hk : k ≤ 2) : (#[Value.int .u32 0, .int .u32 65535, .int .u32 4294967295] : Array Value)[k]? = some (.int .u32 (onN k)) := by
  rcases kind_cases hk with rfl | rfl | rfl <;> rfl

theorem fxs_at {k : Nat} (hk : k ≤ 2) : (#[Value.int .u32 0, .int .u32 33800, .int .u32 2197175160] : Array Value)[k]? = some (.int .u32 (fxN k)) := by
  rcases kind_cases hk with rfl | rfl | rfl <;> rfl

theorem int_div_pow (x m : Nat) : (x : Int) / 2 ^ m / 2 = (x : Int) / 2 ^ (m + 1) := by
  rw [Int.ediv_ediv_of_nonneg (Int.le_of_lt (Int.pow_pos (by omega))), Int.pow_succ]

set_option maxRecDepth 100000 in
set_option maxHeartbeats 2000000 in
theorem refOf_any (k : Nat) (hk : k ≤ 2) (a : Option Addr) (n c : Nat) (bs : List UInt8) (hn : n = bs.length) (w : World) (hlen : bs.length ≤ 140737488355328) (hr : RdB w w.heap.size a bs) :
    Calls Try.prog 11 #[.int .i64 k, .slice a n c] w fun e w' => e = .returned (.int .u32 (sumN k bs)) ∧ Below w.heap.size w w' := by
  subst hn
  have h1 := ons_at hk
  have h2 := fxs_at hk
  have HR := Lib.hid hr
  have B0 : Below w.heap.size w ((w.alloc (.cells #[.int .u32 0, .int .u32 65535, .int .u32 4294967295] 25)).alloc (.cells #[.int .u32 0, .int .u32 33800, .int .u32 2197175160] 25)) := below_al (below_al (Below.refl _ _) _) _
  clear hr
  go_enter Try.func11, Try.ntmps11
  go_wp2
  go_loop [7, 8] (fun wd i => ∃ j : Nat, j ≤ bs.length ∧ i = .int .i64 j ∧ wd = .int .u32 (crcN (fxN k) (onN k) bs j)) (fun _ i => bs.length - (intOf i).toNat)
  case atStart => exact ⟨0, Nat.zero_le _, rfl, rfl⟩
  case round =>
    obtain ⟨j, hj, rfl, rfl⟩ := hrel
    by_cases hlt : j < bs.length
    · rcases HR.out.below B0 with rfl | ⟨b, o, rfl, hb, hcs⟩
      · simp at hlt
      have hcx := hcs j hlt
      clear hcs
      obtain ⟨x, hx⟩ : ∃ x, x = numAt bs j := ⟨_, rfl⟩
      have hxb : byteAt bs j = (x : Int) := by rw [hx]; rfl
      have hx2 : x < 256 := by rw [hx]; exact numAt_lt bs j
      rw [hxb] at hcx
      have HX := Lib.hid hx
      clear hx hxb
      go_wp2
      go_loop [7, 9, 10] (fun wd y i => ∃ m : Nat, m ≤ 8 ∧ i = .int .i64 m ∧ wd = .int .u32 (runN (fxN k) (crcN (fxN k) (onN k) bs j) x m) ∧ y = .int .u32 ((x / 2 ^ m : Nat) : Int)) (fun _ _ i => 8 - (intOf i).toNat)
      case atStart => exact ⟨0, by omega, rfl, rfl, by simp⟩
      case round =>
        obtain ⟨m, hm, rfl, rfl, rfl⟩ := hrel
        by_cases hlt2 : m < 8
        · obtain ⟨wv, hwv⟩ : ∃ wv, wv = runN (fxN k) (crcN (fxN k) (onN k) bs j) x m := ⟨_, rfl⟩
          have hwl : wv < 4294967296 := by rw [hwv]; exact run_bound hk bs j x m
          obtain ⟨xv, hxv⟩ : ∃ xv, xv = x / 2 ^ m := ⟨_, rfl⟩
          have hxl : xv < 256 := by rw [hxv]; exact Nat.lt_of_le_of_lt (Nat.div_le_self _ _) hx2
          rw [← hwv, ← hxv]
          have HWV := Lib.hid hwv
          have HXV := Lib.hid hxv
          clear hwv hxv
          have hxd : Hid (((xv / 2 : Nat) : Int) = ((x / 2 ^ (m + 1) : Nat) : Int)) := by
            simp only [Hid, HXV.out, Nat.div_div_eq_div_mul, ← Nat.pow_succ]
          cases hne : ((wv : Int) % 2 != (xv : Int) % 2)
          · go_wp2
            go_round
            case rel =>
              refine ⟨m + 1, by omega, by go_num, ?_, by rw [← hxd.out, Int.natCast_ediv]; rfl⟩
              have he : wv % 2 = xv % 2 := by
                simp at hne
                omega
              have hs : runN (fxN k) (crcN (fxN k) (onN k) bs j) x (m + 1) = wv / 2 := by
                show stepN (fxN k) (runN (fxN k) (crcN (fxN k) (onN k) bs j) x m) (x / 2 ^ m) = _
                rw [← HWV.out, ← HXV.out]
                exact if_pos he
              rw [hs, Int.natCast_ediv]
              rfl
            case measure => simp [intOf]; omega
          · have hx2 : bits .xor .u32 ((wv : Int) / 2) (fxN k : Int) = ((wv / 2 ^^^ fxN k : Nat) : Int) := by
              have := bits_xor_u32_nat (wv / 2) (fxN k) (by omega) (fxN_lt hk)
              rwa [Int.natCast_ediv] at this
            go_wp2
            go_round
            case rel =>
              refine ⟨m + 1, by omega, by go_num, ?_, by rw [← hxd.out, Int.natCast_ediv]; rfl⟩
              have he : ¬ wv % 2 = xv % 2 := by
                simp at hne
                omega
              have hs : runN (fxN k) (crcN (fxN k) (onN k) bs j) x (m + 1) = wv / 2 ^^^ fxN k := by
                show stepN (fxN k) (runN (fxN k) (crcN (fxN k) (onN k) bs j) x m) (x / 2 ^ m) = _
                rw [← HWV.out, ← HXV.out]
                exact if_neg he
              rw [hs]
            case measure => simp [intOf]; omega
        · obtain rfl : m = 8 := by omega
          go_wp2
          go_round
          case rel =>
            refine ⟨j + 1, by omega, by go_num, ?_⟩
            rw [HX.out]
            rfl
          case measure => simp [intOf]; omega
    · obtain rfl : j = bs.length := by omega
      have hwb := word_bound hk bs bs.length
      have hon := onN_lt hk
      have hsb : (onN k : Int) - (crcN (fxN k) (onN k) bs bs.length : Int) = (sumN k bs : Int) := by
        unfold sumN
        omega
      have hsl : sumN k bs < 4294967296 := by
        unfold sumN
        omega
      have HB := Lib.hid hwb
      clear hwb
      go_wp2
      go_ret
      exact ⟨rfl, B0⟩

theorem refPutK (k : Nat) (h1 : 1 ≤ k) (h2 : k ≤ 2) (bs : List UInt8) (n m : Int) (hn : n = (sumN k bs : Int)) (hm : m = (wdN k : Int)) (w : World) :
    Calls Try.prog 24 #[.int .u64 n, .int .i64 m] w fun e w' => ∃ A C, e = .returned (.tuple #[.slice A (sumB k bs).length C, .int .i64 0]) ∧ RdB w' w'.heap.size A (sumB k bs) ∧ Below w.heap.size w w' := by
  subst hn hm
  have hle := sumN_le (k := k) bs
  have hk : k = 1 ∨ k = 2 := by omega
  rcases hk with rfl | rfl
  · have h1 : sumN 1 bs ≤ 65535 := hle
    refine (refPut_yes 2 _ w rfl (by unfold U64; omega) (by simp [fits]; omega)).mono ?_
    rintro e w' ⟨v, rfl, ⟨A, C, rfl, hc, hr, _⟩, hb⟩
    exact ⟨A, C, rfl, hr, hb⟩
  · have h1 : sumN 2 bs ≤ 4294967295 := hle
    refine (refPut_yes 4 _ w rfl (by unfold U64; omega) (by simp [fits]; omega)).mono ?_
    rintro e w' ⟨v, rfl, ⟨A, C, rfl, hc, hr, _⟩, hb⟩
    exact ⟨A, C, rfl, hr, hb⟩

/-- New bytes. -/
def NewP (w : World) (bs : List UInt8) (e : Ending) (w' : World) : Prop := ∃ A C, e = .returned (.slice A bs.length C) ∧ bs.length ≤ C ∧ RdB w' w'.heap.size A bs ∧ Below w.heap.size w w'

set_option maxRecDepth 100000 in
set_option maxHeartbeats 1000000 in
theorem refSeal_zero (a : Option Addr) (n c : Nat) (bs : List UInt8) (hn : n = bs.length) (w : World) (hlen : bs.length ≤ 140737488351232) (hr : RdB w w.heap.size a bs) :
    Calls Try.prog 16 #[.int .i64 0, .slice a n c] w (NewP w bs) := by
  subst hn
  have hs := (hr.src).alloc (.cells #[] 5)
  have ho := OwnV.lit w w.heap.size 5 #[] (Nat.le_refl _) (by decide)
  have h1 := Lib.hid (encB_one bs)
  have hL1 : Hid (([] : List Value).length + (bs.map encB).length ≤ maxLen) := by simp [Hid, maxLen]; omega
  have hL2 : Hid ((([] : List Value).length + (bs.map encB).length) * 1 ≤ 140737488355328) := by simp [Hid]; omega
  clear hr
  go_enter Try.func16, Try.ntmps16
  go_wp2_with (at_builtin; refine wpList_app _ rfl (.tmp 9) (.tmp 10) 23 rfl w.heap.size 5 (.int .u8 0) 1 Try.underlying23 info_u8 rfl _ _ rfl ho _ _ _ _ rfl (List.length_map _) hs h1.out hL1.out hL2.out (by simp) ?_; intro v1 w1 hp)
  go_ret
  have b1 := ((Below.refl w.heap.size w).alloc (Nat.le_refl _) (.cells #[] 5)).trans (hp.below ho (by simp))
  obtain ⟨A, C, rfl, hC, hrr, _⟩ := hp.1.bytes
  exact ⟨A, C, rfl, hC, hrr, b1⟩

set_option maxRecDepth 100000 in
set_option maxHeartbeats 1000000 in
theorem refSeal_some (k : Nat) (h1 : 1 ≤ k) (h2 : k ≤ 2) (a : Option Addr) (n c : Nat) (bs : List UInt8) (hn : n = bs.length) (w : World) (hlen : bs.length ≤ 140737488351232) (hr : RdB w w.heap.size a bs) :
    Calls Try.prog 16 #[.int .i64 k, .slice a n c] w (NewP w (bs ++ sumB k bs)) := by
  subst hn
  have HR := Lib.hid hr
  have h01 := Lib.hid (encB_one bs)
  have h02 := Lib.hid (encB_one (sumB k bs))
  have hsl := sumB_length k bs
  have hwl := wdN_le k
  have hul : sumN k bs < 4294967296 := Nat.lt_of_le_of_lt (sumN_le bs) (onN_lt h2)
  have HWr : Hid (IntKind.u64.wrap (sumN k bs : Int) = (sumN k bs : Int)) := by
    simp only [Hid, IntKind.wrap_u64]
    omega
  have hL1 : Hid (([] : List Value).length + (bs.map encB).length ≤ maxLen) := by simp [Hid, maxLen]; omega
  have hL2 : Hid ((([] : List Value).length + (bs.map encB).length) * 1 ≤ 140737488355328) := by simp [Hid]; omega
  have hM1 : Hid (([] ++ bs.map encB : List Value).length + ((sumB k bs).map encB).length ≤ maxLen) := by simp [Hid, maxLen]; omega
  have hM2 : Hid ((([] ++ bs.map encB : List Value).length + ((sumB k bs).map encB).length) * 1 ≤ 140737488355328) := by simp [Hid]; omega
  have hk0 : ¬ (k : Int) = 0 := by omega
  clear hr hsl hwl hul
  go_enter Try.func16, Try.ntmps16
  go_wp2_with fail
  refine (refOf_any k h2 a _ c bs rfl w (by omega) HR.out).mono ?_
  rintro e w1 ⟨rfl, hb1⟩
  go_wp2_with fail
  refine (refWidth_any k h2 _).mono ?_
  rintro e w1' ⟨rfl, rfl⟩
  go_wp2_with fail
  refine (refPutK k h1 h2 bs _ _ HWr.out rfl _).mono ?_
  rintro e w3 ⟨A, C, rfl, hrA, hb3⟩
  have B3 := below_on hb1 hb3
  have hs := (((HR.out.below B3).mono B3.size).src).alloc (.cells #[] 5)
  have ho := OwnV.lit w3 w3.heap.size 5 #[] (Nat.le_refl _) (by decide)
  go_wp2_with (first | (at_builtin; refine wpList_app _ rfl (.tmp 22) (.tmp 23) 23 rfl w3.heap.size 5 (.int .u8 0) 1 Try.underlying23 info_u8 rfl _ _ rfl ho _ _ _ _ rfl (List.length_map _) hs h01.out hL1.out hL2.out (by simp) ?_; intro v1 w4 hp; have b1 := ((Below.refl w3.heap.size w3).alloc (Nat.le_refl _) (.cells #[] 5)).trans (hp.below ho (by simp)); have hsz := b1.size) | (at_builtin; refine wpList_app _ rfl (.tmp 24) (.tmp 25) 23 rfl w3.heap.size 5 (.int .u8 0) 1 Try.underlying23 info_u8 rfl _ _ rfl hp.1 _ _ _ _ rfl (List.length_map _) (hrA.below b1).src h02.out hM1.out hM2.out hsz ?_; intro v2 w5 hp2))
  go_ret
  have b2 := b1.trans (hp2.below hp.1 hsz)
  have hf := hp2.1
  rw [List.nil_append, ← List.map_append] at hf
  obtain ⟨A', C', rfl, hC, hrr, _⟩ := hf.bytes
  exact ⟨A', C', rfl, hC, hrr, below_on B3 b2⟩

theorem refSeal_any (k : Nat) (hk : k ≤ 2) (a : Option Addr) (n c : Nat) (bs : List UInt8) (hn : n = bs.length) (w : World) (hlen : bs.length ≤ 140737488351232) (hr : RdB w w.heap.size a bs) :
    Calls Try.prog 16 #[.int .i64 k, .slice a n c] w (NewP w (bs ++ sumB k bs)) := by
  rcases Nat.eq_zero_or_pos k with rfl | h
  · have e : bs ++ sumB 0 bs = bs := by
      have : sumB 0 bs = [] := List.eq_nil_of_length_eq_zero (sumB_length 0 bs)
      rw [this, List.append_nil]
    rw [e]
    exact refSeal_zero a n c bs hn w hlen hr
  · exact refSeal_some k h hk a n c bs hn w hlen hr

end Go.Proofs.Ytjcfhkodfanbiaa
