/- Joined texts. -/
import Derived.Test.YtiahakbkagipkaaGreatDoorZJd
import Derived.Test.YtiahakbkagipkaaGreatDoorZKr
import Derived.Test.YtiahakbkagipkaaGreatDoorZBv
import Derived.Test.YtiahakbkagipkaaGreatDoorZBx
import Derived.Test.YtiahakbkagipkaaGreatDoorZKv
import Derived.Lib.AppendStr
import Derived.Deep.RegionHeld3
import Derived.Test.YtiahakbkagipkaaGreatDoorZJf
import Derived.Test.YtiahakbkagipkaaGreatDoorZMe
import Derived.Test.YtiahakbkagipkaaGreatDoorZKh
set_option maxHeartbeats 8000000
set_option linter.unusedSimpArgs false
set_option linter.unusedVariables false
set_option maxRecDepth 100000
namespace Go.Proofs.YtiahakbkagipkaaGreatDoor
open Go.RowKit Go.Shelf

theorem run_cut1h {P : Program} (t e : TypeId) (ht : P.underlying t = some (.slice e)) (hz : ∀ w, (Go.sizeOf e).run P w = .ok 1 w) (a : Option Addr) (n cap h : Nat) (h1 : h ≤ cap) (w : World) :
  (Instr.slice t (.slice a n cap) none (some (.int .i64 (h : Int))) none).run P w = .ok (.slice a h cap) w := by
 have ht' : P.underlying t = some (.slice (P.elem t)) := by simp [Program.elem, ht]
 have he : P.elem t = e := by simp [Program.elem, ht]
 rw [run_slice_h w t a n cap ht' .i64 h (by omega) (by omega), he, hz]
 rcases a with _ | ad
 ·simp [Result.andThen, sliced]
 ·simp [Result.andThen, sliced, Addr.add]

theorem ons_at {k : Nat} (hk : k ≤ 2) : (#[Value.int .u32 0, .int .u32 65535, .int .u32 4294967295] : Array Value)[k]? = some (.int .u32 (onN k)) := by
 rcases kind_cases hk with rfl | rfl | rfl <;> rfl

theorem fxs_at {k : Nat} (hk : k ≤ 2) : (#[Value.int .u32 0, .int .u32 33800, .int .u32 2197175160] : Array Value)[k]? = some (.int .u32 (fxN k)) := by
 rcases kind_cases hk with rfl | rfl | rfl <;> rfl

set_option maxRecDepth 100000 in
theorem refOf_any (k : Nat) (hk : k ≤ 2) (a : Option Addr) (n c : Nat) (bs : List UInt8) (hn : n = bs.length) (w : World) (hlen : bs.length ≤ 140737488355328) (hr : RdB w w.heap.size a bs) :
  Calls Tryz.prog 64 #[.int .i64 k, .slice a n c] w fun e w' => e = .returned (.int .u32 (sumN k bs)) ∧ Below w.heap.size w w' := by
 subst hn
 have h1 := ons_at hk
 have h2 := fxs_at hk
 have HR := h_ hr
 have B0 : Below w.heap.size w ((w.alloc (.cells #[.int .u32 0, .int .u32 65535, .int .u32 4294967295] 39)).alloc (.cells #[.int .u32 0, .int .u32 33800, .int .u32 2197175160] 39)) := below_al (below_al bR _) _
 clear hr
 go_enter Tryz.func64, Tryz.ntmps64
 go_wp2
 go_loop [7, 8] (fun wd i => ∃ j : Nat, j ≤ bs.length ∧ i = .int .i64 j ∧ wd = .int .u32 (crcN (fxN k) (onN k) bs j)) (fun _ i => bs.length - (intOf i).toNat)
 case atStart => exact ⟨0, Nat.zero_le _, rfl, rfl⟩
 case round =>
  obtain ⟨j, hj, rfl, rfl⟩ := hrel
  by_cases hlt : j < bs.length
  ·rcases HR.out.below B0 with rfl | ⟨b, o, rfl, hb, hcs⟩
   ·simp at hlt
   have hcx := hcs j hlt
   clear hcs
   obtain ⟨x, hx⟩ : ∃ x, x = numAt bs j := ⟨_, rfl⟩
   have hxb : byteAt bs j = (x : Int) := by rw [hx]; rfl
   have hx2 : x < 256 := by rw [hx]; exact numAt_lt bs j
   rw [hxb] at hcx
   have HX := h_ hx
   clear hx hxb
   go_wp2
   go_loop [7, 9, 10] (fun wd y i => ∃ m : Nat, m ≤ 8 ∧ i = .int .i64 m ∧ wd = .int .u32 (runN (fxN k) (crcN (fxN k) (onN k) bs j) x m) ∧ y = .int .u32 ((x / 2 ^ m : Nat) : Int)) (fun _ _ i => 8 - (intOf i).toNat)
   case atStart => exact ⟨0, by omega, rfl, rfl, by simp⟩
   case round =>
    obtain ⟨m, hm, rfl, rfl, rfl⟩ := hrel
    by_cases hlt2 : m < 8
    ·obtain ⟨wv, hwv⟩ : ∃ wv, wv = runN (fxN k) (crcN (fxN k) (onN k) bs j) x m := ⟨_, rfl⟩
     have hwl : wv < 4294967296 := by rw [hwv]; exact run_bound hk bs j x m
     obtain ⟨xv, hxv⟩ : ∃ xv, xv = x / 2 ^ m := ⟨_, rfl⟩
     have hxl : xv < 256 := by rw [hxv]; exact Nat.lt_of_le_of_lt (Nat.div_le_self _ _) hx2
     rw [← hwv, ← hxv]
     have HWV := h_ hwv
     have HXV := h_ hxv
     clear hwv hxv
     have hxd : Hid (((xv / 2 : Nat) : Int) = ((x / 2 ^ (m + 1) : Nat) : Int)) := by
      simp only [Hid, HXV.out, Nat.div_div_eq_div_mul, ← Nat.pow_succ]
     cases hne : ((wv : Int) % 2 != (xv : Int) % 2)
     ·go_wp2
      go_round
      case rel =>
       refine ⟨m + 1, by omega, by go_num, ?_, by rw [← hxd.out, Int.natCast_ediv]; rfl⟩
       have he : wv % 2 = xv % 2 := by
        simp at hne
        omega
       have hs : runN (fxN k) (crcN (fxN k) (onN k) bs j) x (m + 1) = wv / 2 := by
        show stepN (fxN k) (runN (fxN k) (crcN (fxN k) (onN k) bs j) x m) (x / 2 ^ m) = _
        rw [← HWV.out, ← HXV.out]
        exact if_pos he
       rw [hs, Int.natCast_ediv]
       rfl
      case measure => simp [intOf]; omega
     ·have hx2 : bits .xor .u32 ((wv : Int) / 2) (fxN k : Int) = ((wv / 2 ^^^ fxN k : Nat) : Int) := by
        have := bits_xor_u32_nat (wv / 2) (fxN k) (by omega) (fxN_lt hk)
        rwa [Int.natCast_ediv] at this
      go_wp2
      go_round
      case rel =>
       refine ⟨m + 1, by omega, by go_num, ?_, by rw [← hxd.out, Int.natCast_ediv]; rfl⟩
       have he : ¬ wv % 2 = xv % 2 := by
        simp at hne
        omega
       have hs : runN (fxN k) (crcN (fxN k) (onN k) bs j) x (m + 1) = wv / 2 ^^^ fxN k := by
        show stepN (fxN k) (runN (fxN k) (crcN (fxN k) (onN k) bs j) x m) (x / 2 ^ m) = _
        rw [← HWV.out, ← HXV.out]
        exact if_neg he
       rw [hs]
      case measure => simp [intOf]; omega
    ·obtain rfl : m = 8 := by omega
     go_wp2
     go_round
     case rel =>
      refine ⟨j + 1, by omega, by go_num, ?_⟩
      rw [HX.out]
      rfl
     case measure => simp [intOf]; omega
  ·obtain rfl : j = bs.length := by omega
   have hwb := word_bound hk bs bs.length
   have hon := onN_lt hk
   have hsb : (onN k : Int) - (crcN (fxN k) (onN k) bs bs.length : Int) = (sumN k bs : Int) := by
    unfold sumN
    omega
   have hsl : sumN k bs < 4294967296 := by
    unfold sumN
    omega
   have HB := h_ hwb
   clear hwb
   go_wp2
   go_ret
   exact ⟨rfl, B0⟩

def octN (l : List UInt8) (i : Nat) : Int := if i < l.length then (bt l i : Int) else -1

theorem refOctet_any (s : ByteArray) (i : Nat) (w : World) :
  Calls Tryz.prog 194 #[.string s, .int .i64 i] w fun e w' => e = .returned (.int .i64 (octN s.data.toList i)) ∧ w = w' := by
 have hl : s.data.toList.length = s.size := Array.length_toList
 by_cases h : i < s.size
 ·have e1 : octN s.data.toList i = (s[i].toNat : Int) := by
    unfold octN
    rw [if_pos (by omega)]
    have := get_bt s 0 i (by omega)
    simp at this
    rw [← this, get_eq s i h]
  rw [e1]
  clear hl e1
  have b0 : (0 : Int) ≤ (s[i].toNat : Int) := by omega
  have b1 : (s[i].toNat : Int) ≤ 255 := by have := UInt8.toNat_lt s[i]; omega
  go_enter Tryz.func194, Tryz.ntmps194
  go_wp2
  go_ret
  exact ⟨rfl, rfl⟩
 ·have e1 : octN s.data.toList i = -1 := by
    unfold octN
    rw [if_neg (by omega)]
  rw [e1]
  clear hl e1
  go_enter Tryz.func194, Tryz.ntmps194
  go_wp2
  go_ret
  exact ⟨rfl, rfl⟩

def okN (l : List UInt8) (lo hi : Nat) (k : Nat) : Prop := ∀ j, 1 ≤ j → j < k → inB l j (if j = 1 then lo else 128) (if j = 1 then hi else 191) = true

theorem okN_step {l : List UInt8} {lo hi k : Nat} (h : okN l lo hi k) (hk : inB l k (if k = 1 then lo else 128) (if k = 1 then hi else 191) = true) : okN l lo hi (k + 1) := by
 intro j h1 h2
 by_cases e : j = k
 ·subst e
  exact hk
 ·exact h j h1 (by omega)

theorem rl_yes {l : List UInt8} {n lo hi : Nat} (hL : lead (bt l 0) = (n, lo, hi)) (hn : n = 2 ∨ n = 3 ∨ n = 4) (h : okN l lo hi n) : rl l = n := by
 unfold rl
 rw [hL]
 have h1 := h 1 (by omega) (by omega)
 simp only [if_true] at h1
 rcases hn with rfl | rfl | rfl
 ·simp [h1]
 ·have h2 := h 2 (by omega) (by omega)
  simp at h2
  simp [h1, h2]
 ·have h2 := h 2 (by omega) (by omega)
  have h3 := h 3 (by omega) (by omega)
  simp at h2 h3
  simp [h1, h2, h3]

theorem rl_no {l : List UInt8} {n lo hi k : Nat} (hL : lead (bt l 0) = (n, lo, hi)) (hn : n = 2 ∨ n = 3 ∨ n = 4) (h1 : 1 ≤ k) (hk : k < n) (h : inB l k (if k = 1 then lo else 128) (if k = 1 then hi else 191) = false) : rl l = 0 := by
 unfold rl
 rw [hL]
 have : k = 1 ∨ k = 2 ∨ k = 3 := by omega
 rcases this with rfl | rfl | rfl
 ·simp at h
  rcases hn with rfl | rfl | rfl <;> simp [h]
 ·simp at h
  rcases hn with rfl | rfl | rfl
  ·omega
  ·simp [h]
  ·simp [h]
 ·simp at h
  rcases hn with rfl | rfl | rfl
  ·omega
  ·omega
  ·simp [h]

theorem inB_oct (l : List UInt8) (i lo hi : Nat) : inB l i lo hi = (decide ((lo : Int) ≤ octN l i) && decide (octN l i ≤ (hi : Int))) := by
 unfold inB octN
 by_cases h : i < l.length
 ·rw [if_pos h]
  simp [h]
 ·rw [if_neg h]
  simp [h]
  omega

theorem rune1_c1 (s : ByteArray) (l : List UInt8) (w : World) (hl : l = s.data.toList) (hL : lead (bt l 0) = (2, 128, 191)) (h1 : 194 ≤ octN l 0) (h2 : octN l 0 ≤ 223) :
  Calls Tryz.prog 176 #[.string s] w fun e w' => e = .returned (.int .i64 (rl l)) ∧ w = w' := by
 have HO : Hid (∀ (i : Nat) (w : World), Calls Tryz.prog 194 #[.string s, .int .i64 i] w fun e w' => e = .returned (.int .i64 (octN l i)) ∧ w = w') := fun i w => hl ▸ refOctet_any s i w
 have HO0 := HO.out 0
 have HL := h_ hL
 clear hl hL
 generalize octN l 0 = at0 at *
 have d224 : (at0 == 224) = false := by simp; omega
 have d237 : (at0 == 237) = false := by simp; omega
 have d240 : (at0 == 240) = false := by simp; omega
 have d244 : (at0 == 244) = false := by simp; omega
 have HZ := h_ HO0
 clear HO0
 go_enter Tryz.func176, Tryz.ntmps176
 go_wp2_with fail
 refine (HZ.out _).mono ?_
 rintro e w' ⟨rfl, rfl⟩
 go_wp2
 go_loop [5, 6, 7] (fun a b i => ∃ k : Nat, 1 ≤ k ∧ k ≤ 2 ∧ i = .int .i64 k ∧ a = .int .i64 ((if k = 1 then 128 else 128 : Nat) : Int) ∧ b = .int .i64 ((if k = 1 then 191 else 191 : Nat) : Int) ∧ Hid (okN l 128 191 k)) (fun _ _ i => 2 - (intOf i).toNat)
 case atStart => exact ⟨1, by omega, by omega, rfl, rfl, rfl, fun j h1 h2 => by omega⟩
 case round =>
  obtain ⟨k, hk1, hk2, rfl, rfl, rfl, HK⟩ := hrel
  by_cases hlt : k < 2
  ·obtain ⟨a, ha⟩ : ∃ a, a = (if k = 1 then 128 else 128 : Nat) := ⟨_, rfl⟩
   obtain ⟨b, hb⟩ : ∃ b, b = (if k = 1 then 191 else 191 : Nat) := ⟨_, rfl⟩
   have hi := inB_oct l k a b
   have HN : Hid (inB l k a b = false → rl l = 0) := fun h => rl_no HL.out (by omega) hk1 hlt (by rw [← ha, ← hb]; exact h)
   have HY : Hid (inB l k a b = true → okN l 128 191 (k + 1)) := fun h => okN_step HK.out (by rw [← ha, ← hb]; exact h)
   have HI := h_ hi
   have HC := h_ (HO.out k)
   rw [← ha, ← hb]
   clear ha hb hi
   obtain ⟨c, hc⟩ : ∃ c, c = octN l k := ⟨_, rfl⟩
   rw [← hc] at HI HC
   clear hc
   have ea : (if k + 1 = 1 then 128 else 128 : Nat) = 128 := by rw [if_neg (by omega)]
   have eb : (if k + 1 = 1 then 191 else 191 : Nat) = 191 := by rw [if_neg (by omega)]
   have HEA := h_ ea
   have HEB := h_ eb
   clear ea eb
   by_cases hca : c < (a : Int)
   ·go_wp2_with fail
    refine (HC.out _).mono ?_
    rintro e w' ⟨rfl, rfl⟩
    go_wp2
    go_ret
    exact ⟨by rw [HN.out (by rw [HI.out]; simp; omega)]; rfl, rfl⟩
   ·by_cases hcb : (b : Int) < c
    ·go_wp2_with fail
     refine (HC.out _).mono ?_
     rintro e w' ⟨rfl, rfl⟩
     go_wp2
     go_ret
     exact ⟨by rw [HN.out (by rw [HI.out]; simp; omega)]; rfl, rfl⟩
    ·go_wp2_with fail
     refine (HC.out _).mono ?_
     rintro e w' ⟨rfl, rfl⟩
     go_wp2
     go_round
     case rel => exact ⟨k + 1, by omega, by omega, by go_num, by rw [HEA.out]; rfl, by rw [HEB.out]; rfl, HY.out (by rw [HI.out]; simp; omega)⟩
     case measure => simp [intOf]; omega
  ·obtain rfl : k = 2 := by omega
   have HR := h_ (rl_yes HL.out (by omega) HK.out)
   go_wp2
   go_ret
   exact ⟨by rw [HR.out]; rfl, rfl⟩

theorem rune1_c2 (s : ByteArray) (l : List UInt8) (w : World) (hl : l = s.data.toList) (hL : lead (bt l 0) = (3, 160, 191)) (h1 : octN l 0 = 224) :
  Calls Tryz.prog 176 #[.string s] w fun e w' => e = .returned (.int .i64 (rl l)) ∧ w = w' := by
 have HO : Hid (∀ (i : Nat) (w : World), Calls Tryz.prog 194 #[.string s, .int .i64 i] w fun e w' => e = .returned (.int .i64 (octN l i)) ∧ w = w') := fun i w => hl ▸ refOctet_any s i w
 have HO0 := HO.out 0
 have HL := h_ hL
 clear hl hL
 rw [h1] at HO0
 clear h1
 have HZ := h_ HO0
 clear HO0
 go_enter Tryz.func176, Tryz.ntmps176
 go_wp2_with fail
 refine (HZ.out _).mono ?_
 rintro e w' ⟨rfl, rfl⟩
 go_wp2
 go_loop [5, 6, 7] (fun a b i => ∃ k : Nat, 1 ≤ k ∧ k ≤ 3 ∧ i = .int .i64 k ∧ a = .int .i64 ((if k = 1 then 160 else 128 : Nat) : Int) ∧ b = .int .i64 ((if k = 1 then 191 else 191 : Nat) : Int) ∧ Hid (okN l 160 191 k)) (fun _ _ i => 3 - (intOf i).toNat)
 case atStart => exact ⟨1, by omega, by omega, rfl, rfl, rfl, fun j h1 h2 => by omega⟩
 case round =>
  obtain ⟨k, hk1, hk2, rfl, rfl, rfl, HK⟩ := hrel
  by_cases hlt : k < 3
  ·obtain ⟨a, ha⟩ : ∃ a, a = (if k = 1 then 160 else 128 : Nat) := ⟨_, rfl⟩
   obtain ⟨b, hb⟩ : ∃ b, b = (if k = 1 then 191 else 191 : Nat) := ⟨_, rfl⟩
   have hi := inB_oct l k a b
   have HN : Hid (inB l k a b = false → rl l = 0) := fun h => rl_no HL.out (by omega) hk1 hlt (by rw [← ha, ← hb]; exact h)
   have HY : Hid (inB l k a b = true → okN l 160 191 (k + 1)) := fun h => okN_step HK.out (by rw [← ha, ← hb]; exact h)
   have HI := h_ hi
   have HC := h_ (HO.out k)
   rw [← ha, ← hb]
   clear ha hb hi
   obtain ⟨c, hc⟩ : ∃ c, c = octN l k := ⟨_, rfl⟩
   rw [← hc] at HI HC
   clear hc
   have ea : (if k + 1 = 1 then 160 else 128 : Nat) = 128 := by rw [if_neg (by omega)]
   have eb : (if k + 1 = 1 then 191 else 191 : Nat) = 191 := by rw [if_neg (by omega)]
   have HEA := h_ ea
   have HEB := h_ eb
   clear ea eb
   by_cases hca : c < (a : Int)
   ·go_wp2_with fail
    refine (HC.out _).mono ?_
    rintro e w' ⟨rfl, rfl⟩
    go_wp2
    go_ret
    exact ⟨by rw [HN.out (by rw [HI.out]; simp; omega)]; rfl, rfl⟩
   ·by_cases hcb : (b : Int) < c
    ·go_wp2_with fail
     refine (HC.out _).mono ?_
     rintro e w' ⟨rfl, rfl⟩
     go_wp2
     go_ret
     exact ⟨by rw [HN.out (by rw [HI.out]; simp; omega)]; rfl, rfl⟩
    ·go_wp2_with fail
     refine (HC.out _).mono ?_
     rintro e w' ⟨rfl, rfl⟩
     go_wp2
     go_round
     case rel => exact ⟨k + 1, by omega, by omega, by go_num, by rw [HEA.out]; rfl, by rw [HEB.out]; rfl, HY.out (by rw [HI.out]; simp; omega)⟩
     case measure => simp [intOf]; omega
  ·obtain rfl : k = 3 := by omega
   have HR := h_ (rl_yes HL.out (by omega) HK.out)
   go_wp2
   go_ret
   exact ⟨by rw [HR.out]; rfl, rfl⟩

theorem rune1_c3 (s : ByteArray) (l : List UInt8) (w : World) (hl : l = s.data.toList) (hL : lead (bt l 0) = (3, 128, 159)) (h1 : octN l 0 = 237) :
  Calls Tryz.prog 176 #[.string s] w fun e w' => e = .returned (.int .i64 (rl l)) ∧ w = w' := by
 have HO : Hid (∀ (i : Nat) (w : World), Calls Tryz.prog 194 #[.string s, .int .i64 i] w fun e w' => e = .returned (.int .i64 (octN l i)) ∧ w = w') := fun i w => hl ▸ refOctet_any s i w
 have HO0 := HO.out 0
 have HL := h_ hL
 clear hl hL
 rw [h1] at HO0
 clear h1
 have HZ := h_ HO0
 clear HO0
 go_enter Tryz.func176, Tryz.ntmps176
 go_wp2_with fail
 refine (HZ.out _).mono ?_
 rintro e w' ⟨rfl, rfl⟩
 go_wp2
 go_loop [5, 6, 7] (fun a b i => ∃ k : Nat, 1 ≤ k ∧ k ≤ 3 ∧ i = .int .i64 k ∧ a = .int .i64 ((if k = 1 then 128 else 128 : Nat) : Int) ∧ b = .int .i64 ((if k = 1 then 159 else 191 : Nat) : Int) ∧ Hid (okN l 128 159 k)) (fun _ _ i => 3 - (intOf i).toNat)
 case atStart => exact ⟨1, by omega, by omega, rfl, rfl, rfl, fun j h1 h2 => by omega⟩
 case round =>
  obtain ⟨k, hk1, hk2, rfl, rfl, rfl, HK⟩ := hrel
  by_cases hlt : k < 3
  ·obtain ⟨a, ha⟩ : ∃ a, a = (if k = 1 then 128 else 128 : Nat) := ⟨_, rfl⟩
   obtain ⟨b, hb⟩ : ∃ b, b = (if k = 1 then 159 else 191 : Nat) := ⟨_, rfl⟩
   have hi := inB_oct l k a b
   have HN : Hid (inB l k a b = false → rl l = 0) := fun h => rl_no HL.out (by omega) hk1 hlt (by rw [← ha, ← hb]; exact h)
   have HY : Hid (inB l k a b = true → okN l 128 159 (k + 1)) := fun h => okN_step HK.out (by rw [← ha, ← hb]; exact h)
   have HI := h_ hi
   have HC := h_ (HO.out k)
   rw [← ha, ← hb]
   clear ha hb hi
   obtain ⟨c, hc⟩ : ∃ c, c = octN l k := ⟨_, rfl⟩
   rw [← hc] at HI HC
   clear hc
   have ea : (if k + 1 = 1 then 128 else 128 : Nat) = 128 := by rw [if_neg (by omega)]
   have eb : (if k + 1 = 1 then 159 else 191 : Nat) = 191 := by rw [if_neg (by omega)]
   have HEA := h_ ea
   have HEB := h_ eb
   clear ea eb
   by_cases hca : c < (a : Int)
   ·go_wp2_with fail
    refine (HC.out _).mono ?_
    rintro e w' ⟨rfl, rfl⟩
    go_wp2
    go_ret
    exact ⟨by rw [HN.out (by rw [HI.out]; simp; omega)]; rfl, rfl⟩
   ·by_cases hcb : (b : Int) < c
    ·go_wp2_with fail
     refine (HC.out _).mono ?_
     rintro e w' ⟨rfl, rfl⟩
     go_wp2
     go_ret
     exact ⟨by rw [HN.out (by rw [HI.out]; simp; omega)]; rfl, rfl⟩
    ·go_wp2_with fail
     refine (HC.out _).mono ?_
     rintro e w' ⟨rfl, rfl⟩
     go_wp2
     go_round
     case rel => exact ⟨k + 1, by omega, by omega, by go_num, by rw [HEA.out]; rfl, by rw [HEB.out]; rfl, HY.out (by rw [HI.out]; simp; omega)⟩
     case measure => simp [intOf]; omega
  ·obtain rfl : k = 3 := by omega
   have HR := h_ (rl_yes HL.out (by omega) HK.out)
   go_wp2
   go_ret
   exact ⟨by rw [HR.out]; rfl, rfl⟩

theorem rune1_c4 (s : ByteArray) (l : List UInt8) (w : World) (hl : l = s.data.toList) (hL : lead (bt l 0) = (3, 128, 191)) (h1 : 225 ≤ octN l 0) (h2 : octN l 0 ≤ 239) (h3 : octN l 0 ≠ 237) :
  Calls Tryz.prog 176 #[.string s] w fun e w' => e = .returned (.int .i64 (rl l)) ∧ w = w' := by
 have HO : Hid (∀ (i : Nat) (w : World), Calls Tryz.prog 194 #[.string s, .int .i64 i] w fun e w' => e = .returned (.int .i64 (octN l i)) ∧ w = w') := fun i w => hl ▸ refOctet_any s i w
 have HO0 := HO.out 0
 have HL := h_ hL
 clear hl hL
 generalize octN l 0 = at0 at *
 have d224 : (at0 == 224) = false := by simp; omega
 have d237 : (at0 == 237) = false := by simp; omega
 have d240 : (at0 == 240) = false := by simp; omega
 have d244 : (at0 == 244) = false := by simp; omega
 have HZ := h_ HO0
 clear HO0
 go_enter Tryz.func176, Tryz.ntmps176
 go_wp2_with fail
 refine (HZ.out _).mono ?_
 rintro e w' ⟨rfl, rfl⟩
 go_wp2
 go_loop [5, 6, 7] (fun a b i => ∃ k : Nat, 1 ≤ k ∧ k ≤ 3 ∧ i = .int .i64 k ∧ a = .int .i64 ((if k = 1 then 128 else 128 : Nat) : Int) ∧ b = .int .i64 ((if k = 1 then 191 else 191 : Nat) : Int) ∧ Hid (okN l 128 191 k)) (fun _ _ i => 3 - (intOf i).toNat)
 case atStart => exact ⟨1, by omega, by omega, rfl, rfl, rfl, fun j h1 h2 => by omega⟩
 case round =>
  obtain ⟨k, hk1, hk2, rfl, rfl, rfl, HK⟩ := hrel
  by_cases hlt : k < 3
  ·obtain ⟨a, ha⟩ : ∃ a, a = (if k = 1 then 128 else 128 : Nat) := ⟨_, rfl⟩
   obtain ⟨b, hb⟩ : ∃ b, b = (if k = 1 then 191 else 191 : Nat) := ⟨_, rfl⟩
   have hi := inB_oct l k a b
   have HN : Hid (inB l k a b = false → rl l = 0) := fun h => rl_no HL.out (by omega) hk1 hlt (by rw [← ha, ← hb]; exact h)
   have HY : Hid (inB l k a b = true → okN l 128 191 (k + 1)) := fun h => okN_step HK.out (by rw [← ha, ← hb]; exact h)
   have HI := h_ hi
   have HC := h_ (HO.out k)
   rw [← ha, ← hb]
   clear ha hb hi
   obtain ⟨c, hc⟩ : ∃ c, c = octN l k := ⟨_, rfl⟩
   rw [← hc] at HI HC
   clear hc
   have ea : (if k + 1 = 1 then 128 else 128 : Nat) = 128 := by rw [if_neg (by omega)]
   have eb : (if k + 1 = 1 then 191 else 191 : Nat) = 191 := by rw [if_neg (by omega)]
   have HEA := h_ ea
   have HEB := h_ eb
   clear ea eb
   by_cases hca : c < (a : Int)
   ·go_wp2_with fail
    refine (HC.out _).mono ?_
    rintro e w' ⟨rfl, rfl⟩
    go_wp2
    go_ret
    exact ⟨by rw [HN.out (by rw [HI.out]; simp; omega)]; rfl, rfl⟩
   ·by_cases hcb : (b : Int) < c
    ·go_wp2_with fail
     refine (HC.out _).mono ?_
     rintro e w' ⟨rfl, rfl⟩
     go_wp2
     go_ret
     exact ⟨by rw [HN.out (by rw [HI.out]; simp; omega)]; rfl, rfl⟩
    ·go_wp2_with fail
     refine (HC.out _).mono ?_
     rintro e w' ⟨rfl, rfl⟩
     go_wp2
     go_round
     case rel => exact ⟨k + 1, by omega, by omega, by go_num, by rw [HEA.out]; rfl, by rw [HEB.out]; rfl, HY.out (by rw [HI.out]; simp; omega)⟩
     case measure => simp [intOf]; omega
  ·obtain rfl : k = 3 := by omega
   have HR := h_ (rl_yes HL.out (by omega) HK.out)
   go_wp2
   go_ret
   exact ⟨by rw [HR.out]; rfl, rfl⟩

theorem rune1_c5 (s : ByteArray) (l : List UInt8) (w : World) (hl : l = s.data.toList) (hL : lead (bt l 0) = (4, 144, 191)) (h1 : octN l 0 = 240) :
  Calls Tryz.prog 176 #[.string s] w fun e w' => e = .returned (.int .i64 (rl l)) ∧ w = w' := by
 have HO : Hid (∀ (i : Nat) (w : World), Calls Tryz.prog 194 #[.string s, .int .i64 i] w fun e w' => e = .returned (.int .i64 (octN l i)) ∧ w = w') := fun i w => hl ▸ refOctet_any s i w
 have HO0 := HO.out 0
 have HL := h_ hL
 clear hl hL
 rw [h1] at HO0
 clear h1
 have HZ := h_ HO0
 clear HO0
 go_enter Tryz.func176, Tryz.ntmps176
 go_wp2_with fail
 refine (HZ.out _).mono ?_
 rintro e w' ⟨rfl, rfl⟩
 go_wp2
 go_loop [5, 6, 7] (fun a b i => ∃ k : Nat, 1 ≤ k ∧ k ≤ 4 ∧ i = .int .i64 k ∧ a = .int .i64 ((if k = 1 then 144 else 128 : Nat) : Int) ∧ b = .int .i64 ((if k = 1 then 191 else 191 : Nat) : Int) ∧ Hid (okN l 144 191 k)) (fun _ _ i => 4 - (intOf i).toNat)
 case atStart => exact ⟨1, by omega, by omega, rfl, rfl, rfl, fun j h1 h2 => by omega⟩
 case round =>
  obtain ⟨k, hk1, hk2, rfl, rfl, rfl, HK⟩ := hrel
  by_cases hlt : k < 4
  ·obtain ⟨a, ha⟩ : ∃ a, a = (if k = 1 then 144 else 128 : Nat) := ⟨_, rfl⟩
   obtain ⟨b, hb⟩ : ∃ b, b = (if k = 1 then 191 else 191 : Nat) := ⟨_, rfl⟩
   have hi := inB_oct l k a b
   have HN : Hid (inB l k a b = false → rl l = 0) := fun h => rl_no HL.out (by omega) hk1 hlt (by rw [← ha, ← hb]; exact h)
   have HY : Hid (inB l k a b = true → okN l 144 191 (k + 1)) := fun h => okN_step HK.out (by rw [← ha, ← hb]; exact h)
   have HI := h_ hi
   have HC := h_ (HO.out k)
   rw [← ha, ← hb]
   clear ha hb hi
   obtain ⟨c, hc⟩ : ∃ c, c = octN l k := ⟨_, rfl⟩
   rw [← hc] at HI HC
   clear hc
   have ea : (if k + 1 = 1 then 144 else 128 : Nat) = 128 := by rw [if_neg (by omega)]
   have eb : (if k + 1 = 1 then 191 else 191 : Nat) = 191 := by rw [if_neg (by omega)]
   have HEA := h_ ea
   have HEB := h_ eb
   clear ea eb
   by_cases hca : c < (a : Int)
   ·go_wp2_with fail
    refine (HC.out _).mono ?_
    rintro e w' ⟨rfl, rfl⟩
    go_wp2
    go_ret
    exact ⟨by rw [HN.out (by rw [HI.out]; simp; omega)]; rfl, rfl⟩
   ·by_cases hcb : (b : Int) < c
    ·go_wp2_with fail
     refine (HC.out _).mono ?_
     rintro e w' ⟨rfl, rfl⟩
     go_wp2
     go_ret
     exact ⟨by rw [HN.out (by rw [HI.out]; simp; omega)]; rfl, rfl⟩
    ·go_wp2_with fail
     refine (HC.out _).mono ?_
     rintro e w' ⟨rfl, rfl⟩
     go_wp2
     go_round
     case rel => exact ⟨k + 1, by omega, by omega, by go_num, by rw [HEA.out]; rfl, by rw [HEB.out]; rfl, HY.out (by rw [HI.out]; simp; omega)⟩
     case measure => simp [intOf]; omega
  ·obtain rfl : k = 4 := by omega
   have HR := h_ (rl_yes HL.out (by omega) HK.out)
   go_wp2
   go_ret
   exact ⟨by rw [HR.out]; rfl, rfl⟩

theorem rune1_c6 (s : ByteArray) (l : List UInt8) (w : World) (hl : l = s.data.toList) (hL : lead (bt l 0) = (4, 128, 143)) (h1 : octN l 0 = 244) :
  Calls Tryz.prog 176 #[.string s] w fun e w' => e = .returned (.int .i64 (rl l)) ∧ w = w' := by
 have HO : Hid (∀ (i : Nat) (w : World), Calls Tryz.prog 194 #[.string s, .int .i64 i] w fun e w' => e = .returned (.int .i64 (octN l i)) ∧ w = w') := fun i w => hl ▸ refOctet_any s i w
 have HO0 := HO.out 0
 have HL := h_ hL
 clear hl hL
 rw [h1] at HO0
 clear h1
 have HZ := h_ HO0
 clear HO0
 go_enter Tryz.func176, Tryz.ntmps176
 go_wp2_with fail
 refine (HZ.out _).mono ?_
 rintro e w' ⟨rfl, rfl⟩
 go_wp2
 go_loop [5, 6, 7] (fun a b i => ∃ k : Nat, 1 ≤ k ∧ k ≤ 4 ∧ i = .int .i64 k ∧ a = .int .i64 ((if k = 1 then 128 else 128 : Nat) : Int) ∧ b = .int .i64 ((if k = 1 then 143 else 191 : Nat) : Int) ∧ Hid (okN l 128 143 k)) (fun _ _ i => 4 - (intOf i).toNat)
 case atStart => exact ⟨1, by omega, by omega, rfl, rfl, rfl, fun j h1 h2 => by omega⟩
 case round =>
  obtain ⟨k, hk1, hk2, rfl, rfl, rfl, HK⟩ := hrel
  by_cases hlt : k < 4
  ·obtain ⟨a, ha⟩ : ∃ a, a = (if k = 1 then 128 else 128 : Nat) := ⟨_, rfl⟩
   obtain ⟨b, hb⟩ : ∃ b, b = (if k = 1 then 143 else 191 : Nat) := ⟨_, rfl⟩
   have hi := inB_oct l k a b
   have HN : Hid (inB l k a b = false → rl l = 0) := fun h => rl_no HL.out (by omega) hk1 hlt (by rw [← ha, ← hb]; exact h)
   have HY : Hid (inB l k a b = true → okN l 128 143 (k + 1)) := fun h => okN_step HK.out (by rw [← ha, ← hb]; exact h)
   have HI := h_ hi
   have HC := h_ (HO.out k)
   rw [← ha, ← hb]
   clear ha hb hi
   obtain ⟨c, hc⟩ : ∃ c, c = octN l k := ⟨_, rfl⟩
   rw [← hc] at HI HC
   clear hc
   have ea : (if k + 1 = 1 then 128 else 128 : Nat) = 128 := by rw [if_neg (by omega)]
   have eb : (if k + 1 = 1 then 143 else 191 : Nat) = 191 := by rw [if_neg (by omega)]
   have HEA := h_ ea
   have HEB := h_ eb
   clear ea eb
   by_cases hca : c < (a : Int)
   ·go_wp2_with fail
    refine (HC.out _).mono ?_
    rintro e w' ⟨rfl, rfl⟩
    go_wp2
    go_ret
    exact ⟨by rw [HN.out (by rw [HI.out]; simp; omega)]; rfl, rfl⟩
   ·by_cases hcb : (b : Int) < c
    ·go_wp2_with fail
     refine (HC.out _).mono ?_
     rintro e w' ⟨rfl, rfl⟩
     go_wp2
     go_ret
     exact ⟨by rw [HN.out (by rw [HI.out]; simp; omega)]; rfl, rfl⟩
    ·go_wp2_with fail
     refine (HC.out _).mono ?_
     rintro e w' ⟨rfl, rfl⟩
     go_wp2
     go_round
     case rel => exact ⟨k + 1, by omega, by omega, by go_num, by rw [HEA.out]; rfl, by rw [HEB.out]; rfl, HY.out (by rw [HI.out]; simp; omega)⟩
     case measure => simp [intOf]; omega
  ·obtain rfl : k = 4 := by omega
   have HR := h_ (rl_yes HL.out (by omega) HK.out)
   go_wp2
   go_ret
   exact ⟨by rw [HR.out]; rfl, rfl⟩

theorem rune1_c7 (s : ByteArray) (l : List UInt8) (w : World) (hl : l = s.data.toList) (hL : lead (bt l 0) = (4, 128, 191)) (h1 : 241 ≤ octN l 0) (h2 : octN l 0 ≤ 243) :
  Calls Tryz.prog 176 #[.string s] w fun e w' => e = .returned (.int .i64 (rl l)) ∧ w = w' := by
 have HO : Hid (∀ (i : Nat) (w : World), Calls Tryz.prog 194 #[.string s, .int .i64 i] w fun e w' => e = .returned (.int .i64 (octN l i)) ∧ w = w') := fun i w => hl ▸ refOctet_any s i w
 have HO0 := HO.out 0
 have HL := h_ hL
 clear hl hL
 generalize octN l 0 = at0 at *
 have d224 : (at0 == 224) = false := by simp; omega
 have d237 : (at0 == 237) = false := by simp; omega
 have d240 : (at0 == 240) = false := by simp; omega
 have d244 : (at0 == 244) = false := by simp; omega
 have HZ := h_ HO0
 clear HO0
 go_enter Tryz.func176, Tryz.ntmps176
 go_wp2_with fail
 refine (HZ.out _).mono ?_
 rintro e w' ⟨rfl, rfl⟩
 go_wp2
 go_loop [5, 6, 7] (fun a b i => ∃ k : Nat, 1 ≤ k ∧ k ≤ 4 ∧ i = .int .i64 k ∧ a = .int .i64 ((if k = 1 then 128 else 128 : Nat) : Int) ∧ b = .int .i64 ((if k = 1 then 191 else 191 : Nat) : Int) ∧ Hid (okN l 128 191 k)) (fun _ _ i => 4 - (intOf i).toNat)
 case atStart => exact ⟨1, by omega, by omega, rfl, rfl, rfl, fun j h1 h2 => by omega⟩
 case round =>
  obtain ⟨k, hk1, hk2, rfl, rfl, rfl, HK⟩ := hrel
  by_cases hlt : k < 4
  ·obtain ⟨a, ha⟩ : ∃ a, a = (if k = 1 then 128 else 128 : Nat) := ⟨_, rfl⟩
   obtain ⟨b, hb⟩ : ∃ b, b = (if k = 1 then 191 else 191 : Nat) := ⟨_, rfl⟩
   have hi := inB_oct l k a b
   have HN : Hid (inB l k a b = false → rl l = 0) := fun h => rl_no HL.out (by omega) hk1 hlt (by rw [← ha, ← hb]; exact h)
   have HY : Hid (inB l k a b = true → okN l 128 191 (k + 1)) := fun h => okN_step HK.out (by rw [← ha, ← hb]; exact h)
   have HI := h_ hi
   have HC := h_ (HO.out k)
   rw [← ha, ← hb]
   clear ha hb hi
   obtain ⟨c, hc⟩ : ∃ c, c = octN l k := ⟨_, rfl⟩
   rw [← hc] at HI HC
   clear hc
   have ea : (if k + 1 = 1 then 128 else 128 : Nat) = 128 := by rw [if_neg (by omega)]
   have eb : (if k + 1 = 1 then 191 else 191 : Nat) = 191 := by rw [if_neg (by omega)]
   have HEA := h_ ea
   have HEB := h_ eb
   clear ea eb
   by_cases hca : c < (a : Int)
   ·go_wp2_with fail
    refine (HC.out _).mono ?_
    rintro e w' ⟨rfl, rfl⟩
    go_wp2
    go_ret
    exact ⟨by rw [HN.out (by rw [HI.out]; simp; omega)]; rfl, rfl⟩
   ·by_cases hcb : (b : Int) < c
    ·go_wp2_with fail
     refine (HC.out _).mono ?_
     rintro e w' ⟨rfl, rfl⟩
     go_wp2
     go_ret
     exact ⟨by rw [HN.out (by rw [HI.out]; simp; omega)]; rfl, rfl⟩
    ·go_wp2_with fail
     refine (HC.out _).mono ?_
     rintro e w' ⟨rfl, rfl⟩
     go_wp2
     go_round
     case rel => exact ⟨k + 1, by omega, by omega, by go_num, by rw [HEA.out]; rfl, by rw [HEB.out]; rfl, HY.out (by rw [HI.out]; simp; omega)⟩
     case measure => simp [intOf]; omega
  ·obtain rfl : k = 4 := by omega
   have HR := h_ (rl_yes HL.out (by omega) HK.out)
   go_wp2
   go_ret
   exact ⟨by rw [HR.out]; rfl, rfl⟩

theorem rune1_c0 (s : ByteArray) (l : List UInt8) (w : World) (hl : l = s.data.toList) (hr : rl l = 1) (h1 : octN l 0 ≤ 127) :
  Calls Tryz.prog 176 #[.string s] w fun e w' => e = .returned (.int .i64 (rl l)) ∧ w = w' := by
 have HO : Hid (∀ (i : Nat) (w : World), Calls Tryz.prog 194 #[.string s, .int .i64 i] w fun e w' => e = .returned (.int .i64 (octN l i)) ∧ w = w') := fun i w => hl ▸ refOctet_any s i w
 have HO0 := HO.out 0
 rw [hr]
 clear hl hr
 generalize octN l 0 = at0 at *
 have d224 : (at0 == 224) = false := by simp; omega
 have d237 : (at0 == 237) = false := by simp; omega
 have d240 : (at0 == 240) = false := by simp; omega
 have d244 : (at0 == 244) = false := by simp; omega
 have HZ := h_ HO0
 clear HO0
 go_enter Tryz.func176, Tryz.ntmps176
 go_wp2_with fail
 refine (HZ.out _).mono ?_
 rintro e w' ⟨rfl, rfl⟩
 go_wp2
 go_loop [7] (fun i => i = .int .i64 1) (fun i => (intOf i).toNat)
 case atStart => rfl
 case round =>
  subst hrel
  go_wp2
  go_ret
  exact ⟨rfl, rfl⟩

theorem rune1_c8 (s : ByteArray) (l : List UInt8) (w : World) (hl : l = s.data.toList) (hr : rl l = 0) (h1 : (127 < octN l 0 ∧ octN l 0 < 194) ∨ 244 < octN l 0) :
  Calls Tryz.prog 176 #[.string s] w fun e w' => e = .returned (.int .i64 (rl l)) ∧ w = w' := by
 have HO : Hid (∀ (i : Nat) (w : World), Calls Tryz.prog 194 #[.string s, .int .i64 i] w fun e w' => e = .returned (.int .i64 (octN l i)) ∧ w = w') := fun i w => hl ▸ refOctet_any s i w
 have HO0 := HO.out 0
 rw [hr]
 clear hl hr
 generalize octN l 0 = at0 at *
 have d224 : (at0 == 224) = false := by simp; omega
 have d237 : (at0 == 237) = false := by simp; omega
 have d240 : (at0 == 240) = false := by simp; omega
 have d244 : (at0 == 244) = false := by simp; omega
 have HZ := h_ HO0
 clear HO0
 rcases h1 with ⟨h1, h2⟩ | h1
 all_goals
  go_enter Tryz.func176, Tryz.ntmps176
  go_wp2_with fail
  refine (HZ.out _).mono ?_
  rintro e w' ⟨rfl, rfl⟩
  go_wp2
  go_ret
  exact ⟨rfl, rfl⟩

theorem rl_one {l : List UInt8} (h : bt l 0 ≤ 127) : rl l = 1 := by
 unfold rl lead
 rw [if_pos h]
 rfl

theorem rl_none {l : List UInt8} (h : (127 < bt l 0 ∧ bt l 0 < 194) ∨ 244 < bt l 0) : rl l = 0 := by
 have e : lead (bt l 0) = (0, 0, 0) := by
  unfold lead
  rw [if_neg (by omega), if_neg (by omega), if_neg (by omega), if_neg (by omega), if_neg (by omega), if_neg (by omega), if_neg (by omega), if_neg (by omega)]
 unfold rl
 rw [e]
 rfl

theorem rune1_any (s : ByteArray) (w : World) :
  Calls Tryz.prog 176 #[.string s] w fun e w' => e = .returned (.int .i64 (rl s.data.toList)) ∧ w = w' := by
 obtain ⟨l, hl⟩ : ∃ l, l = s.data.toList := ⟨_, rfl⟩
 rw [← hl]
 by_cases hne : 0 < l.length
 ·have e0 : octN l 0 = (bt l 0 : Int) := if_pos hne
  have hb := bt_lt l 0
  by_cases a1 : bt l 0 ≤ 127
  ·exact rune1_c0 s l w hl (rl_one a1) (by omega)
  by_cases a2 : bt l 0 < 194
  ·exact rune1_c8 s l w hl (rl_none (by omega)) (by omega)
  by_cases a3 : bt l 0 ≤ 223
  ·exact rune1_c1 s l w hl (by unfold lead; rw [if_neg (by omega), if_pos (by omega)]) (by omega) (by omega)
  by_cases a4 : bt l 0 = 224
  ·exact rune1_c2 s l w hl (by unfold lead; rw [if_neg (by omega), if_neg (by omega), if_pos (by omega)]) (by omega)
  by_cases a5 : bt l 0 = 237
  ·exact rune1_c3 s l w hl (by unfold lead; rw [if_neg (by omega), if_neg (by omega), if_neg (by omega), if_pos (by omega)]) (by omega)
  by_cases a6 : bt l 0 ≤ 239
  ·exact rune1_c4 s l w hl (by unfold lead; rw [if_neg (by omega), if_neg (by omega), if_neg (by omega), if_neg (by omega), if_pos (by omega)]) (by omega) (by omega) (by omega)
  by_cases a7 : bt l 0 = 240
  ·exact rune1_c5 s l w hl (by unfold lead; rw [if_neg (by omega), if_neg (by omega), if_neg (by omega), if_neg (by omega), if_neg (by omega), if_pos (by omega)]) (by omega)
  by_cases a8 : bt l 0 = 244
  ·exact rune1_c6 s l w hl (by unfold lead; rw [if_neg (by omega), if_neg (by omega), if_neg (by omega), if_neg (by omega), if_neg (by omega), if_neg (by omega), if_pos (by omega)]) (by omega)
  by_cases a9 : bt l 0 ≤ 243
  ·exact rune1_c7 s l w hl (by unfold lead; rw [if_neg (by omega), if_neg (by omega), if_neg (by omega), if_neg (by omega), if_neg (by omega), if_neg (by omega), if_neg (by omega), if_pos (by omega)]) (by omega) (by omega)
  ·exact rune1_c8 s l w hl (rl_none (by omega)) (by omega)
 ·have e0 : octN l 0 = -1 := if_neg hne
  obtain rfl : l = [] := List.eq_nil_of_length_eq_zero (by omega)
  exact rune1_c0 s [] w hl (rl_one (by simp [bt])) (by rw [e0]; decide)


set_option maxRecDepth 100000 in
theorem refRunes_any (s : ByteArray) (w : World) (hs : s.size ≤ 140737488355328) :
  Calls Tryz.prog 154 #[.string s] w fun e w' => e = .returned (.tuple #[.int .i64 (runesL s.data.toList).1, .bool (runesL s.data.toList).2]) ∧ w = w' := by
 obtain ⟨l, hl⟩ : ∃ l, l = s.data.toList := ⟨_, rfl⟩
 have hlen : l.length = s.size := by rw [hl]; exact Array.length_toList
 have hbd := runesL_len l
 rw [← hl]
 have HLEN := h_ hlen
 have HLL := h_ hl
 have hl9 : l.length ≤ 140737488355328 := by omega
 clear hlen hl
 go_enter Tryz.func154, Tryz.ntmps154
 go_wp2
 go_loop [0, 4, 5] (fun t m f => ∃ (pos n : Nat) (ok : Bool) (r : ByteArray), t = .string r ∧ m = .int .i64 n ∧ f = .bool ok ∧ Hid (r.data.toList = l.drop pos ∧ RunesI l pos n ok)) (fun t _ _ => match t with | .string r => r.size | _ => 0)
 case atStart => exact ⟨0, 0, true, s, rfl, rfl, rfl, by rw [← HLL.out]; rfl, by refine ⟨Nat.zero_le _, by simp, by simp⟩⟩
 case round =>
  obtain ⟨pos, n, ok, r, rfl, rfl, rfl, HI⟩ := hrel
  have hrl : r.size = l.length - pos := by
   have h1 : r.data.toList.length = r.size := Array.length_toList
   rw [← h1, HI.out.1, List.length_drop]
  have hpos := HI.out.2.1
  have hn : n ≤ l.length := by
   have := HI.out.2.2.1
   omega
  by_cases hp : pos < l.length
  ·have hne : l.drop pos ≠ [] := by
     rw [ne_eq, List.drop_eq_nil_iff]
     omega
   have hle := rl_le _ hne
   rw [List.length_drop] at hle
   have HN := h_ (HI.out.2.step hp hle)
   have HC : Hid (∀ w, Calls Tryz.prog 176 #[.string r] w fun e w' => e = .returned (.int .i64 (rl (l.drop pos))) ∧ w = w') := by
    intro w
    have h := rune1_any r w
    rw [HI.out.1] at h
    exact h
   obtain ⟨q, hq⟩ : ∃ q, q = rl (l.drop pos) := ⟨_, rfl⟩
   rw [← hq] at HN HC hle
   clear hq hne
   have hr0 : (0 : Int) < (r.size : Int) := by omega
   have HT := h_ (fun k => tail_list r k)
   have HRL := h_ hrl
   have hr9 : r.size ≤ 140737488355328 := by omega
   by_cases hq0 : q = 0
   ·subst hq0
    have hsz : 1 ≤ r.size := by omega
    clear hrl hle
    go_wp2_with fail
    refine (HC.out _).mono ?_
    rintro e w' ⟨rfl, rfl⟩
    go_wp2
    go_round
    case rel => exact ⟨pos + 1, n + 1, false, r.extract 1 r.size, by rfl, by go_num, by rfl, by rw [HT.out 1, HI.out.1, List.drop_drop], by simpa using HN.out⟩
    case measure => simp; omega
   ·have hsz : q ≤ r.size := by omega
    have hq1 : ((q : Int) == 0) = false := by simp; omega
    clear hrl
    go_wp2_with fail
    refine (HC.out _).mono ?_
    rintro e w' ⟨rfl, rfl⟩
    go_wp2
    go_round
    case rel =>
     refine ⟨pos + q, n + 1, ok, r.extract q r.size, by rfl, by go_num, by rfl, by rw [HT.out q, HI.out.1, List.drop_drop], ?_⟩
     have h1 : max 1 q = q := by omega
     have h2 := HN.out
     rw [h1] at h2
     simpa [hq0] using h2
    case measure => simp; omega
  ·have hr0 : r.size = 0 := by omega
   clear hrl
   have HE : Hid (n = (runesL l).1 ∧ ok = (runesL l).2) := by
    have h1 := HI.out.2
    have h2 : l.drop pos = [] := by
     rw [List.drop_eq_nil_iff]
     omega
    rw [RunesI, h2] at h1
    simpa [Hid, runesL, runesF_nil] using h1.2
   go_wp2
   go_ret2
   exact ⟨by rw [HE.out.1, HE.out.2]; rfl, rfl⟩


def bareB (k n : Int) (b s : List UInt8) (m : Nat) : Bool :=
 decide (k = 1 ∨ k = 5 ∨ n = 0) && (decide (k = 2 ∨ b = []) && (decide (k = 3 ∨ s = []) && decide (k = 4 ∨ m = 0)))

theorem rightN_parts (k n : Int) (b s : List UInt8) (m : Nat) (hn : 0 ≤ n) :
  rightN k n b s m = (decide (1 ≤ k ∧ k ≤ 6) && (bareB k n b s m && (!(decide (k = 5 ∧ 1 < n)) && (runesL s).2))) := by
 have h0 : (runesL []).2 = true := by simp [runesL, runesF_nil]
 by_cases hs : s = []
 ·subst hs
  unfold rightN bareB
  rw [h0]
  by_cases h1 : k = 1
  ·subst h1; simp
  by_cases h2 : k = 2
  ·subst h2; simp
  by_cases h3 : k = 3
  ·subst h3; simp
  by_cases h4 : k = 4
  ·subst h4; simp
  by_cases h5 : k = 5
  ·subst h5
   by_cases hn1 : n ≤ 1
   ·have : ¬ 1 < n := by omega
    simp [hn1, this]
   ·have : 1 < n := by omega
    simp [hn1, this]
  by_cases h6 : k = 6
  ·subst h6; simp
  ·have : ¬ (1 ≤ k ∧ k ≤ 6) := by omega
   simp [h1, h2, h3, h4, h5, h6, this]
 ·by_cases h3 : k = 3
  ·subst h3
   unfold rightN bareB
   simp [hs]
   cases (runesL s).2 <;> simp
  ·have e1 : rightN k n b s m = false := by
     unfold rightN
     simp [hs, h3]
   have e2 : bareB k n b s m = false := by
    unfold bareB
    simp [hs, h3]
   rw [e1, e2]
   simp


set_option maxRecDepth 100000 in
theorem refHead_small (m : Nat) (n : Int) (w : World) (hm : m ≤ 7) (hn : 0 ≤ n) (h : n < 24) :
  Calls Tryz.prog 81 #[.int .i64 m, .int .u64 n] w (JoinP w (headB m n)) := by
 obtain ⟨k, rfl⟩ := Int.eq_ofNat_of_zero_le hn
 have e := byte_enc (32 * m + k) (by omega)
 have E : Hid (Value.int .u8 (32 * (m : Int) + (k : Int)) = encB (UInt8.ofNat (32 * m + k))) := by rw [← e]; simp [Hid]
 have HB := h_ (headB_small m k h)
 have hm' : (m : Int) ≤ 7 := by omega
 clear e
 go_enter Tryz.func81, Tryz.ntmps81
 go_wp2_with fail
 go_ret
 rw [E.out, HB.out]
 exact ⟨_, rfl, OwnV.lit w w.heap.size 5 #[encB (UInt8.ofNat (32 * m + k))] (Nat.le_refl _) (by simp [maxLen]), bR.alloc (Nat.le_refl _) _⟩

set_option maxRecDepth 100000 in
theorem refHead_wide (m : Nat) (n : Int) (w : World) (hm : m ≤ 7) (hn : U64 n) (h : ¬ n < 24) :
  Calls Tryz.prog 81 #[.int .i64 m, .int .u64 n] w (JoinP w (headB m n)) := by
 obtain ⟨W, hW, hx, hf⟩ := least_good n
 have HB := h_ (headB_wide m n h W hW)
 have HW := h_ hW
 have HF := h_ hf
 have HN := h_ hn
 have HX := h_ hx
 have HL := h_ (beB_length W n)
 have hm' : (m : Int) ≤ 7 := by omega
 have hc := isW_cases hx
 have hW8 : W = 1 ∨ W = 2 ∨ W = 4 ∨ W = 8 := by omega
 clear hW hx hf hn hc
 rcases hW8 with rfl | rfl | rfl | rfl
 ·have e := byte_enc (32 * m + 24 + 0) (by omega)
  have E : Hid (Value.int .u8 (32 * (m : Int) + 24) = encB (UInt8.ofNat (32 * m + 24 + lg 1))) := by
   rw [show lg 1 = 0 from rfl, ← e]
   simp only [Hid, Value.int.injEq, true_and]
   omega
  clear e
  go_enter Tryz.func81, Tryz.ntmps81
  go_wp2_with fail
  refine (refLeast_any _ _ HN.out).mono ?_
  rintro e w1 ⟨rfl, hb1⟩
  rw [HW.out]
  go_wp2_with fail
  refine (refPut_yes 1 n _ HX.out HN.out HF.out).mono ?_
  rintro e w2 ⟨v, rfl, ⟨a2, c2, rfl, hc2, hr2, _⟩, hb2⟩
  have B2 := h_ (below_on hb1 hb2)
  have HS := h_ (hr2.src.alloc (.cells #[.int .u8 (32 * (m : Int) + 24)] 5))
  have hob := OwnV.lit w2 w2.heap.size 5 #[.int .u8 (32 * (m : Int) + 24)] (Nat.le_refl _) (by simp [maxLen])
  have o1 := h_ (encB_one (beB 1 n))
  have hL1 : Hid (([.int .u8 (32 * (m : Int) + 24)] : List Value).length + ((beB 1 n).map encB).length ≤ maxLen) := by simp [Hid, maxLen, beB_length]
  have hL2 : Hid ((([.int .u8 (32 * (m : Int) + 24)] : List Value).length + ((beB 1 n).map encB).length) * 1 ≤ 140737488355328) := by simp [Hid, beB_length]
  clear hr2 hb1 hb2
  go_wp2_with fail
  go_loop [9, 10] (fun k i => (k = .int .u8 24 ∧ i = .int .i64 1)) (fun _ i => (intOf i).toNat)
  case atStart => exact ⟨rfl, rfl⟩
  case round =>
   obtain ⟨rfl, rfl⟩ := hrel
   ·go_wp2_with (at_builtin; refine wpList_app _ rfl _ _ 24 rfl w2.heap.size 5 (.int .u8 0) 1 Tryz.underlying24 info_u8 rfl _ _ rfl hob _ _ _ _ rfl (List.length_map _) HS.out o1.out hL1.out hL2.out (by simp) ?_; intro v' w3 hp)
    go_ret
    refine ⟨v', rfl, ?_, B2.out.trans (((bR.alloc (Nat.le_refl _) _).trans (hp.below hob (by simp))).mono B2.out.size)⟩
    have h1 := hp.1.base B2.out.size
    rw [HB.out, List.map_append, List.map_cons, List.map_nil, ← E.out]
    exact h1
 ·have e := byte_enc (32 * m + 24 + 1) (by omega)
  have E : Hid (Value.int .u8 (32 * (m : Int) + 25) = encB (UInt8.ofNat (32 * m + 24 + lg 2))) := by
   rw [show lg 2 = 1 from rfl, ← e]
   simp only [Hid, Value.int.injEq, true_and]
   omega
  clear e
  go_enter Tryz.func81, Tryz.ntmps81
  go_wp2_with fail
  refine (refLeast_any _ _ HN.out).mono ?_
  rintro e w1 ⟨rfl, hb1⟩
  rw [HW.out]
  go_wp2_with fail
  refine (refPut_yes 2 n _ HX.out HN.out HF.out).mono ?_
  rintro e w2 ⟨v, rfl, ⟨a2, c2, rfl, hc2, hr2, _⟩, hb2⟩
  have B2 := h_ (below_on hb1 hb2)
  have HS := h_ (hr2.src.alloc (.cells #[.int .u8 (32 * (m : Int) + 25)] 5))
  have hob := OwnV.lit w2 w2.heap.size 5 #[.int .u8 (32 * (m : Int) + 25)] (Nat.le_refl _) (by simp [maxLen])
  have o1 := h_ (encB_one (beB 2 n))
  have hL1 : Hid (([.int .u8 (32 * (m : Int) + 25)] : List Value).length + ((beB 2 n).map encB).length ≤ maxLen) := by simp [Hid, maxLen, beB_length]
  have hL2 : Hid ((([.int .u8 (32 * (m : Int) + 25)] : List Value).length + ((beB 2 n).map encB).length) * 1 ≤ 140737488355328) := by simp [Hid, beB_length]
  clear hr2 hb1 hb2
  go_wp2_with fail
  go_loop [9, 10] (fun k i => (k = .int .u8 24 ∧ i = .int .i64 2) ∨ (k = .int .u8 25 ∧ i = .int .i64 1)) (fun _ i => (intOf i).toNat)
  case atStart => exact .inl ⟨rfl, rfl⟩
  case round =>
   rcases hrel with ⟨rfl, rfl⟩ | ⟨rfl, rfl⟩
   ·go_wp2
    go_round
    case rel => exact .inr (⟨rfl, rfl⟩)
    case measure => simp [intOf]
   ·go_wp2_with (at_builtin; refine wpList_app _ rfl _ _ 24 rfl w2.heap.size 5 (.int .u8 0) 1 Tryz.underlying24 info_u8 rfl _ _ rfl hob _ _ _ _ rfl (List.length_map _) HS.out o1.out hL1.out hL2.out (by simp) ?_; intro v' w3 hp)
    go_ret
    refine ⟨v', rfl, ?_, B2.out.trans (((bR.alloc (Nat.le_refl _) _).trans (hp.below hob (by simp))).mono B2.out.size)⟩
    have h1 := hp.1.base B2.out.size
    rw [HB.out, List.map_append, List.map_cons, List.map_nil, ← E.out]
    exact h1
 ·have e := byte_enc (32 * m + 24 + 2) (by omega)
  have E : Hid (Value.int .u8 (32 * (m : Int) + 26) = encB (UInt8.ofNat (32 * m + 24 + lg 4))) := by
   rw [show lg 4 = 2 from rfl, ← e]
   simp only [Hid, Value.int.injEq, true_and]
   omega
  clear e
  go_enter Tryz.func81, Tryz.ntmps81
  go_wp2_with fail
  refine (refLeast_any _ _ HN.out).mono ?_
  rintro e w1 ⟨rfl, hb1⟩
  rw [HW.out]
  go_wp2_with fail
  refine (refPut_yes 4 n _ HX.out HN.out HF.out).mono ?_
  rintro e w2 ⟨v, rfl, ⟨a2, c2, rfl, hc2, hr2, _⟩, hb2⟩
  have B2 := h_ (below_on hb1 hb2)
  have HS := h_ (hr2.src.alloc (.cells #[.int .u8 (32 * (m : Int) + 26)] 5))
  have hob := OwnV.lit w2 w2.heap.size 5 #[.int .u8 (32 * (m : Int) + 26)] (Nat.le_refl _) (by simp [maxLen])
  have o1 := h_ (encB_one (beB 4 n))
  have hL1 : Hid (([.int .u8 (32 * (m : Int) + 26)] : List Value).length + ((beB 4 n).map encB).length ≤ maxLen) := by simp [Hid, maxLen, beB_length]
  have hL2 : Hid ((([.int .u8 (32 * (m : Int) + 26)] : List Value).length + ((beB 4 n).map encB).length) * 1 ≤ 140737488355328) := by simp [Hid, beB_length]
  clear hr2 hb1 hb2
  go_wp2_with fail
  go_loop [9, 10] (fun k i => (k = .int .u8 24 ∧ i = .int .i64 4) ∨ (k = .int .u8 25 ∧ i = .int .i64 2) ∨ (k = .int .u8 26 ∧ i = .int .i64 1)) (fun _ i => (intOf i).toNat)
  case atStart => exact .inl ⟨rfl, rfl⟩
  case round =>
   rcases hrel with ⟨rfl, rfl⟩ | ⟨rfl, rfl⟩ | ⟨rfl, rfl⟩
   ·go_wp2
    go_round
    case rel => exact .inr (.inl ⟨rfl, rfl⟩)
    case measure => simp [intOf]
   ·go_wp2
    go_round
    case rel => exact .inr (.inr (⟨rfl, rfl⟩))
    case measure => simp [intOf]
   ·go_wp2_with (at_builtin; refine wpList_app _ rfl _ _ 24 rfl w2.heap.size 5 (.int .u8 0) 1 Tryz.underlying24 info_u8 rfl _ _ rfl hob _ _ _ _ rfl (List.length_map _) HS.out o1.out hL1.out hL2.out (by simp) ?_; intro v' w3 hp)
    go_ret
    refine ⟨v', rfl, ?_, B2.out.trans (((bR.alloc (Nat.le_refl _) _).trans (hp.below hob (by simp))).mono B2.out.size)⟩
    have h1 := hp.1.base B2.out.size
    rw [HB.out, List.map_append, List.map_cons, List.map_nil, ← E.out]
    exact h1
 ·have e := byte_enc (32 * m + 24 + 3) (by omega)
  have E : Hid (Value.int .u8 (32 * (m : Int) + 27) = encB (UInt8.ofNat (32 * m + 24 + lg 8))) := by
   rw [show lg 8 = 3 from rfl, ← e]
   simp only [Hid, Value.int.injEq, true_and]
   omega
  clear e
  go_enter Tryz.func81, Tryz.ntmps81
  go_wp2_with fail
  refine (refLeast_any _ _ HN.out).mono ?_
  rintro e w1 ⟨rfl, hb1⟩
  rw [HW.out]
  go_wp2_with fail
  refine (refPut_yes 8 n _ HX.out HN.out HF.out).mono ?_
  rintro e w2 ⟨v, rfl, ⟨a2, c2, rfl, hc2, hr2, _⟩, hb2⟩
  have B2 := h_ (below_on hb1 hb2)
  have HS := h_ (hr2.src.alloc (.cells #[.int .u8 (32 * (m : Int) + 27)] 5))
  have hob := OwnV.lit w2 w2.heap.size 5 #[.int .u8 (32 * (m : Int) + 27)] (Nat.le_refl _) (by simp [maxLen])
  have o1 := h_ (encB_one (beB 8 n))
  have hL1 : Hid (([.int .u8 (32 * (m : Int) + 27)] : List Value).length + ((beB 8 n).map encB).length ≤ maxLen) := by simp [Hid, maxLen, beB_length]
  have hL2 : Hid ((([.int .u8 (32 * (m : Int) + 27)] : List Value).length + ((beB 8 n).map encB).length) * 1 ≤ 140737488355328) := by simp [Hid, beB_length]
  clear hr2 hb1 hb2
  go_wp2_with fail
  go_loop [9, 10] (fun k i => (k = .int .u8 24 ∧ i = .int .i64 8) ∨ (k = .int .u8 25 ∧ i = .int .i64 4) ∨ (k = .int .u8 26 ∧ i = .int .i64 2) ∨ (k = .int .u8 27 ∧ i = .int .i64 1)) (fun _ i => (intOf i).toNat)
  case atStart => exact .inl ⟨rfl, rfl⟩
  case round =>
   rcases hrel with ⟨rfl, rfl⟩ | ⟨rfl, rfl⟩ | ⟨rfl, rfl⟩ | ⟨rfl, rfl⟩
   ·go_wp2
    go_round
    case rel => exact .inr (.inl ⟨rfl, rfl⟩)
    case measure => simp [intOf]
   ·go_wp2
    go_round
    case rel => exact .inr (.inr (.inl ⟨rfl, rfl⟩))
    case measure => simp [intOf]
   ·go_wp2
    go_round
    case rel => exact .inr (.inr (.inr (⟨rfl, rfl⟩)))
    case measure => simp [intOf]
   ·go_wp2_with (at_builtin; refine wpList_app _ rfl _ _ 24 rfl w2.heap.size 5 (.int .u8 0) 1 Tryz.underlying24 info_u8 rfl _ _ rfl hob _ _ _ _ rfl (List.length_map _) HS.out o1.out hL1.out hL2.out (by simp) ?_; intro v' w3 hp)
    go_ret
    refine ⟨v', rfl, ?_, B2.out.trans (((bR.alloc (Nat.le_refl _) _).trans (hp.below hob (by simp))).mono B2.out.size)⟩
    have h1 := hp.1.base B2.out.size
    rw [HB.out, List.map_append, List.map_cons, List.map_nil, ← E.out]
    exact h1

theorem refHead_any (m : Nat) (n : Int) (w : World) (hm : m ≤ 7) (hn : U64 n) :
  Calls Tryz.prog 81 #[.int .i64 m, .int .u64 n] w (JoinP w (headB m n)) := by
 by_cases h : n < 24
 ·exact refHead_small m n w hm hn.1 h
 ·exact refHead_wide m n w hm hn h


theorem step_run {P : Program} {ops : Array Oper} {o : Oper} {a : Act} {w : World} {K : Act → World → Prop} {Q : Exit → Act → World → Prop} {E : Prop} (hgd : o.guard = none) (s x : Operand) (t u : TypeId)
  (ho : o.op = .call { callee := .builtin .append, args := #[s, x], argTypes := #[t, u] }) (v y v' : Value) (w' : World) (hv : a.eval s = v) (hy : a.eval x = y)
  (hrun : (Builtin.append_ #[t, u] o.type #[v, y]).run P w = .ok v' w') (h : K (a.put o.dst v') w') : if Region.wanted o (yielded ops a.tmps) = true then Oper.wp P o a w K Q else E := by
 have hw : Region.wanted o (yielded ops a.tmps) = true := by simp [Region.wanted, hgd]
 rw [if_pos hw]
 unfold Oper.wp execOp
 simp only [ho, resolve, invoke, builtin, Sem.run_bind, Sem.run_pure, Result.andThen_ok, List.map_toArray, List.map_cons, List.map_nil, hv, hy, hrun]
 exact h

set_option maxRecDepth 100000 in
theorem refBytes_2 (n : Int) (a : Option Addr) (b : List UInt8) (c : Nat) (v3 v4 : Value) (w : World) (hrb : RdB w w.heap.size a b) (hl : b.length ≤ 1000000000) :
  Calls Tryz.prog 38 #[.agg #[.int .i64 2, .int .u64 n, .slice a b.length c, v3, v4]] w (JoinP w (headB 2 b.length ++ b)) := by
 obtain ⟨W0, hW0⟩ : ∃ W0, W0 = w.alloc (.cells #[.int .i64 2, .int .u64 n, .slice a b.length c, v3, v4] 83) := ⟨_, rfl⟩
 have HB0 : Hid (Below w.heap.size w W0) := by rw [hW0]; exact below_al bR _
 have HELD : Hid (∀ w', Below W0.heap.size W0 w' → w'.cell? ⟨w.heap.size, 2, none⟩ = some (.slice a b.length c) ∧ Below W0.heap.size W0 w') := by
  intro w' h
  refine ⟨?_, h⟩
  rw [hW0] at h
  rw [h.cell (by simp)]
  simp
 have F0 : Below W0.heap.size W0 W0.drew := bR.drew
 have HC : Hid (∀ w, Calls Tryz.prog 81 #[.int .i64 2, .int .u64 b.length] w (JoinP w (headB 2 b.length))) := fun w => refHead_any 2 b.length w (by omega) ⟨by omega, by omega⟩
 have hw : IntKind.u64.wrap (b.length : Int) = (b.length : Int) := by rw [IntKind.wrap_u64]; omega
 have hh := (head_length 2 b.length).2
 have HL1 : Hid (((headB 2 b.length).map encB).length + (b.map encB).length ≤ maxLen) := by simp [Hid, maxLen]; omega
 have HL2 : Hid ((((headB 2 b.length).map encB).length + (b.map encB).length) * 1 ≤ 140737488355328) := by simp [Hid]; omega
 have HR := h_ hrb
 have HW0 := h_ hW0
 clear hW0 hrb hh
 go_enter Tryz.func38, Tryz.ntmps38
 go_wp2
 rw [← HW0.out]
 go_region_held3 (fun w' => w'.cell? ⟨w.heap.size, 2, none⟩ = some (.slice a b.length c) ∧ Below W0.heap.size W0 w')
  (first | (refine HELD.out _ ?_; with_reducible exact F0) | (refine HELD.out _ ?_; with_reducible exact F1) | (refine HELD.out _ ?_; with_reducible exact F2))
  (first
   | (go_at_call 81; (with_reducible refine (HC.out _).mono ?_); rintro e W1 ⟨v1, rfl, ho1, h1⟩; have F1 := F0.trans (h1.mono F0.size)
      have B1 := HB0.out.trans (F1.mono HB0.out.size)
      have hob : OwnV W1 W0.heap.size 5 v1 ((headB 2 b.length).map encB) := ho1
      obtain ⟨v2, W2, hrun, hp⟩ := run_app (P := Tryz.prog) W1 W0.heap.size 24 24 5 (.int .u8 0) 1 Tryz.underlying24 info_u8 rfl v1 _ hob a b.length c (b.map encB) (List.length_map _) (HR.out.below B1).src (encB_one b) HL1.out HL2.out F1.size
      have HO := h_ hp.1
      have HRun := h_ hrun
      have F2 := F1.trans (hp.below hob F1.size)
      clear hrun hp hob ho1 h1 B1)
   | (refine step_run (by rfl) _ _ _ _ (by rfl) _ _ _ _ (by rfl) (by rfl) HRun.out ?_))
 go_wp2
 go_ret
 refine ⟨v2, rfl, ?_, HB0.out.trans (F2.mono HB0.out.size)⟩
 rw [List.map_append]
 exact HO.out.base HB0.out.size

theorem strCells_list (s : List UInt8) : Lib.strCells ⟨s.toArray⟩ = s.map encB := rfl

set_option maxRecDepth 100000 in
theorem refBytes_3 (n : Int) (s : List UInt8) (v2 v4 : Value) (w : World) (hl : s.length ≤ 1000000000) :
  Calls Tryz.prog 38 #[.agg #[.int .i64 3, .int .u64 n, v2, .string ⟨s.toArray⟩, v4]] w (JoinP w (headB 3 s.length ++ s)) := by
 obtain ⟨W0, hW0⟩ : ∃ W0, W0 = w.alloc (.cells #[.int .i64 3, .int .u64 n, v2, .string ⟨s.toArray⟩, v4] 83) := ⟨_, rfl⟩
 have HB0 : Hid (Below w.heap.size w W0) := by rw [hW0]; exact below_al bR _
 have HELD : Hid (∀ w', Below W0.heap.size W0 w' → w'.cell? ⟨w.heap.size, 3, none⟩ = some (.string ⟨s.toArray⟩) ∧ Below W0.heap.size W0 w') := by
  intro w' h
  refine ⟨?_, h⟩
  rw [hW0] at h
  rw [h.cell (by simp)]
  simp
 have F0 : Below W0.heap.size W0 W0.drew := bR.drew
 have HC : Hid (∀ w, Calls Tryz.prog 81 #[.int .i64 3, .int .u64 s.length] w (JoinP w (headB 3 s.length))) := fun w => refHead_any 3 s.length w (by omega) ⟨by omega, by omega⟩
 have hw : IntKind.u64.wrap (s.length : Int) = (s.length : Int) := by rw [IntKind.wrap_u64]; omega
 have hh := (head_length 3 s.length).2
 have hs1 : (⟨s.toArray⟩ : ByteArray).size = s.length := by simp [ByteArray.size]
 have HL1 : Hid (((headB 3 s.length).map encB).length + (⟨s.toArray⟩ : ByteArray).size ≤ maxLen) := by rw [hs1]; simp [Hid, maxLen]; omega
 have HL2 : Hid (((headB 3 s.length).map encB).length + (⟨s.toArray⟩ : ByteArray).size ≤ 140737488355328) := by rw [hs1]; simp [Hid]; omega
 have HS1 := h_ hs1
 obtain ⟨i0, hi0, hz0, hz1, hz2⟩ := info_parts info_u8
 have HI0 := h_ hi0
 have HZ0 := h_ hz0
 have HZ1 := h_ hz1
 have HZ2 := h_ hz2
 have HW0 := h_ hW0
 clear hW0 hh hs1 hi0 hz0 hz1 hz2
 go_enter Tryz.func38, Tryz.ntmps38
 go_wp2
 rw [← HW0.out]
 go_region_held3 (fun w' => w'.cell? ⟨w.heap.size, 3, none⟩ = some (.string ⟨s.toArray⟩) ∧ Below W0.heap.size W0 w')
  (first | (refine HELD.out _ ?_; with_reducible exact F0) | (refine HELD.out _ ?_; with_reducible exact F1) | (refine HELD.out _ ?_; with_reducible exact F2))
  (first
   | (go_at_call 81; (with_reducible refine (HC.out _).mono ?_); rintro e W1 ⟨v1, rfl, ho1, h1⟩; have F1 := F0.trans (h1.mono F0.size)
      have B1 := HB0.out.trans (F1.mono HB0.out.size)
      have hob : OwnV W1 W0.heap.size 5 v1 ((headB 3 s.length).map encB) := ho1
      obtain ⟨v9, W2, hrun, hp, hg, _⟩ := Lib.run_append_own_string (P := Tryz.prog) (w := W1) W0.heap.size 24 9 24 5 i0 Tryz.underlying24 Tryz.underlying9 HI0.out HZ0.out HZ1.out HZ2.out v1 _ _ hob ⟨s.toArray⟩ HL1.out HL2.out F1.size
      have HO := h_ hp
      have HRun := h_ hrun
      have F2 := F1.trans (bR.grown hg F1.size (fun r e => (OwnV.row hob r e).1))
      clear hrun hp hg hob ho1 h1 B1)
   | (refine step_run (by rfl) _ _ _ _ (by rfl) _ _ _ _ (by rfl) (by rfl) HRun.out ?_))
 go_wp2
 go_ret
 refine ⟨v9, rfl, ?_, HB0.out.trans (F2.mono HB0.out.size)⟩
 have h1 := HO.out
 rw [strCells_list, HS1.out] at h1
 have h2 : OwnV W2 W0.heap.size 5 v9 ((headB 3 s.length ++ s).map encB) := by
  unfold OwnV
  rw [List.map_append, List.length_append, List.length_map, List.length_map]
  rw [List.length_map] at h1
  exact h1
 exact h2.base HB0.out.size


theorem bareB_iff {k n : Int} {b s : List UInt8} {m : Nat} (h : bareB k n b s m = true) : (k = 1 ∨ k = 5 ∨ n = 0) ∧ (k = 2 ∨ b = []) ∧ (k = 3 ∨ s = []) ∧ (k = 4 ∨ m = 0) := by
 unfold bareB at h
 simpa using h

theorem bytesL_take_le : ∀ (l : List It) (j : Nat), (bytesL (l.take j)).length ≤ (bytesL l).length
 | [], _ => by simp
 | _ :: _, 0 => by simp [bytesL]
 | x :: xs, j + 1 => by
  have := bytesL_take_le xs j
  simp only [List.take_succ_cons, bytesL, List.length_append]
  omega

set_option maxRecDepth 100000 in
theorem refBytes_any : ∀ (x : It) (v : Value) (w : World), x.right = true → x.bytes.length ≤ 1000000000 → ItV w w.heap.size v x →
  Calls Tryz.prog 38 #[v] w (JoinP w x.bytes) := by
 refine It.ind fun k n b s l ih v w hr hlen hv => ?_
 simp only [ItV] at hv
 obtain ⟨A, ⟨a, c, C, rfl, ⟨hc, hC⟩, hrb, hn, hk, hsb, hss, hsl⟩, hl⟩ := hv
 simp only [Sz] at hsb hss hsl
 have e9 : (It.mk k n b s l).right = (rightN k n b s l.length && rightL l) := by simp [It.right]
 rw [e9, rightN_parts k n b s l.length hn.1] at hr
 simp only [Bool.and_eq_true, decide_eq_true_eq, Bool.not_eq_true', decide_eq_false_iff_not] at hr
 obtain ⟨⟨⟨hk1, hk6⟩, hba, h5, hR⟩, hrl⟩ := hr
 obtain ⟨b1, b2, b3, b4⟩ := bareB_iff hba
 have eb : (It.mk k n b s l).bytes = ownB k n b s l.length ++ bytesL l := by simp [It.bytes]
 rw [eb] at hlen ⊢
 rw [List.length_append] at hlen
 have hn0 := hn.1
 clear e9 eb hba hR
 have hk9 : k = 1 ∨ k = 2 ∨ k = 3 ∨ k = 4 ∨ k = 5 ∨ k = 6 := by omega
 rcases hk9 with rfl | rfl | rfl | rfl | rfl | rfl
 ·obtain rfl : l = [] := List.eq_nil_of_length_eq_zero (by omega)
  have e : ownB 1 n b s ([] : List It).length ++ bytesL [] = headB 0 n := by simp [ownB, bytesL]
  rw [e]
  have HC : Hid (∀ w, Calls Tryz.prog 81 #[.int .i64 0, .int .u64 n] w (JoinP w (headB 0 n))) := fun w => refHead_any 0 n w (by omega) hn
  clear e hn hrb ih hl b1 b2 b3 b4 h5 hrl hlen hk
  go_enter Tryz.func38, Tryz.ntmps38
  go_wp2_with fail
  refine (HC.out _).mono ?_
  rintro e w1 ⟨v1, rfl, ho, hb1⟩
  go_wp2
  go_ret
  exact ⟨v1, rfl, ho.base (by simp), below_on (below_al bR _) hb1⟩
 ·obtain rfl : l = [] := List.eq_nil_of_length_eq_zero (by omega)
  have e : ownB 2 n b s ([] : List It).length ++ bytesL [] = headB 2 b.length ++ b := by simp [ownB, bytesL]
  rw [e]
  refine refBytes_2 n a b c _ _ w hrb ?_
  have h1 : (ownB 2 n b s ([] : List It).length).length = (headB 2 b.length).length + b.length := by simp [ownB]
  omega
 ·obtain rfl : l = [] := List.eq_nil_of_length_eq_zero (by omega)
  have e : ownB 3 n b s ([] : List It).length ++ bytesL [] = headB 3 s.length ++ s := by simp [ownB, bytesL]
  rw [e]
  refine refBytes_3 n s _ _ w ?_
  have h1 : (ownB 3 n b s ([] : List It).length).length = (headB 3 s.length).length + s.length := by simp [ownB]
  omega
 ·have e : ownB 4 n b s l.length = headB 4 l.length := by simp [ownB]
  rw [e] at hlen ⊢
  obtain ⟨W0, hW0⟩ : ∃ W0, W0 = w.alloc (.cells #[.int .i64 4, .int .u64 n, .slice a b.length c, .string ⟨s.toArray⟩, .slice A l.length C] 83) := ⟨_, rfl⟩
  have HB0 : Hid (Below w.heap.size w W0) := by rw [hW0]; exact below_al bR _
  have HCELL : Hid (∀ w', Below W0.heap.size W0 w' → w'.cell? ⟨w.heap.size, 4, none⟩ = some (.slice A l.length C)) := by
   intro w' h
   rw [hW0] at h
   rw [h.cell (by simp)]
   simp
  have HC : Hid (∀ w, Calls Tryz.prog 81 #[.int .i64 4, .int .u64 l.length] w (JoinP w (headB 4 l.length))) := fun w => refHead_any 4 l.length w (by omega) ⟨by omega, by omega⟩
  have hw : IntKind.u64.wrap (l.length : Int) = (l.length : Int) := by rw [IntKind.wrap_u64]; omega
  have HW0 := h_ hW0
  have HL := h_ hl
  have IH := h_ ih
  have HRL := h_ hrl
  have HLEN := h_ hlen
  clear hW0 hl ih hrl hlen e hrb hn b1 b2 b3 b4 h5 hk
  go_enter Tryz.func38, Tryz.ntmps38
  go_wp2_with fail
  rw [← HW0.out]
  refine (HC.out _).mono ?_
  rintro e w1 ⟨v1, rfl, ho1, hb1⟩
  have c1 := HCELL.out w1 hb1
  go_wp2_with fail
  go_loopw [3, 4] (fun u i wr => ∃ j : Nat, j ≤ l.length ∧ i = .int .i64 j ∧ Hid (OwnV wr W0.heap.size 5 u ((headB 4 l.length ++ bytesL (l.take j)).map encB)) ∧ Hid (Below W0.heap.size W0 wr)) (fun _ i _ => l.length - (intOf i).toNat)
  case atStart => exact ⟨0, Nat.zero_le _, rfl, by simpa [Hid, bytesL] using ho1, hb1⟩
  case round =>
   obtain ⟨j, hj, rfl, HO, HB⟩ := hrel
   have hcell := HCELL.out wr HB.out
   clear c1 ho1 hb1
   by_cases hlt : j < l.length
   ·obtain ⟨g, o, rfl, hg, hlL⟩ : ∃ g o, A = some ⟨g, o, none⟩ ∧ g < w.heap.size ∧ ItL w w.heap.size g o l := by
      rcases HL.out with rfl | h
      ·simp at hlt
      ·exact h
    obtain ⟨v5, h5, hv5⟩ := ItL.at hlL (List.getElem?_eq_getElem hlt)
    have hB0 : Below w.heap.size w wr := HB0.out.trans (HB.out.mono HB0.out.size)
    have h5' := h5.below hB0 hg
    obtain ⟨v0, v1, v2, v3, v4, rfl, e0, e1, e2, e3, e4⟩ := h5'
    clear hlL h5
    have HV5 := h_ (ItV.mono hB0.size _ (ItV.below hB0 _ hv5))
    clear hv5
    have hst := bytesL_step l j hlt
    have hle := bytesL_take_le l (j + 1)
    rw [hst, List.length_append] at hle
    have h9 := HLEN.out
    have HST := h_ hst
    have hL1 : Hid (((headB 4 l.length ++ bytesL (l.take j)).map encB).length + (l[j].bytes.map encB).length ≤ maxLen) := by simp [Hid, maxLen]; omega
    have hL2 : Hid ((((headB 4 l.length ++ bytesL (l.take j)).map encB).length + (l[j].bytes.map encB).length) * 1 ≤ 140737488355328) := by simp [Hid]; omega
    have HCj := h_ (IH.out l[j] (List.getElem_mem hlt) (.agg #[v0, v1, v2, v3, v4]) wr (rightL_mem HRL.out (List.getElem_mem hlt)) (by omega) HV5.out)
    have o1 := h_ (encB_one l[j].bytes)
    clear hst hle h9
    go_wp2_with fail
    refine HCj.out.mono ?_
    rintro e w2 ⟨v9, rfl, ho9, hb9⟩
    obtain ⟨A9, C9, rfl, hC9, hr9, _⟩ := ho9.bytes
    have hown := HO.out.later hb9
    have HS := h_ hr9.src
    have HB2 := h_ (below_on HB.out hb9)
    have HB3 := h_ (hB0.trans (hb9.mono hB0.size))
    clear ho9 hr9 hb9 e0 e1 e2 e3 e4 hcell
    go_wp2_with (at_builtin; refine wpList_app _ rfl _ _ 24 rfl W0.heap.size 5 (.int .u8 0) 1 Tryz.underlying24 info_u8 rfl _ _ rfl hown _ _ _ _ rfl (List.length_map _) HS.out o1.out hL1.out hL2.out HB2.out.size ?_; intro v' w3 hp)
    go_roundw
    case rel =>
     refine ⟨j + 1, by omega, by go_num, ?_, ?_⟩
     ·have h1 := hp.1
      rw [← List.map_append, List.append_assoc, ← HST.out] at h1
      exact h1
     ·exact HB2.out.trans (hp.below hown HB2.out.size)
    case measure => simp [intOf]; omega
   ·obtain rfl : j = l.length := by omega
    rw [List.take_length] at HO
    go_wp2
    go_ret
    exact ⟨_, rfl, HO.out.base HB0.out.size, HB0.out.trans (HB.out.mono HB0.out.size)⟩
 ·obtain rfl : l = [] := List.eq_nil_of_length_eq_zero (by omega)
  obtain ⟨q, rfl⟩ := Int.eq_ofNat_of_zero_le hn0
  have hq : q ≤ 1 := by omega
  have E := byte_enc (244 + q) (by omega)
  have E2 : Hid (Value.int .u8 (244 + (q : Int)) = encB (UInt8.ofNat (244 + q))) := by rw [← E]; simp [Hid]
  have e : ownB 5 (q : Int) b s ([] : List It).length ++ bytesL [] = [UInt8.ofNat (244 + q)] := by
   have h1 : ownB 5 (q : Int) b s ([] : List It).length = headB 7 (20 + (q : Int)) := by simp [ownB]
   rw [h1, headB_small 7 _ (by omega)]
   have h2 : 32 * 7 + (20 + (q : Int)).toNat = 244 + q := by omega
   rw [h2]
   simp [bytesL]
  rw [e]
  have hqi : (q : Int) ≤ 1 := by omega
  clear e E hn hrb ih hl b1 b2 b3 b4 h5 hrl hlen hk
  go_enter Tryz.func38, Tryz.ntmps38
  go_wp2_with fail
  go_ret
  rw [E2.out]
  obtain ⟨W0, hW0⟩ : ∃ W0, W0 = w.alloc (.cells #[.int .i64 5, .int .u64 (q : Int), .slice a b.length c, .string ⟨s.toArray⟩, .slice A ([] : List It).length C] 83) := ⟨_, rfl⟩
  have hz : W0.heap.size = w.heap.size + 1 := by rw [hW0]; simp
  have h := OwnV.lit W0 W0.heap.size 5 #[encB (UInt8.ofNat (244 + q))] (Nat.le_refl _) (by simp [maxLen])
  have hB : Below w.heap.size w (W0.alloc (.cells #[encB (UInt8.ofNat (244 + q))] 5)) := by rw [hW0]; exact below_al (below_al bR _) _
  rw [hz] at h
  rw [hW0] at h hB
  exact ⟨_, rfl, h.base (Nat.le_succ _), hB⟩
 ·obtain rfl : l = [] := List.eq_nil_of_length_eq_zero (by omega)
  obtain rfl : n = 0 := by omega
  have e : ownB 6 0 b s ([] : List It).length ++ bytesL [] = [246] := by
   have h1 : ownB 6 0 b s ([] : List It).length = headB 7 22 := by simp [ownB]
   rw [h1, headB_small 7 _ (by omega)]
   simp [bytesL]
  rw [e]
  clear e hn hrb ih hl b1 b2 b3 b4 h5 hrl hlen hk
  go_enter Tryz.func38, Tryz.ntmps38
  go_wp2_with fail
  go_ret
  obtain ⟨W0, hW0⟩ : ∃ W0, W0 = w.alloc (.cells #[.int .i64 6, .int .u64 0, .slice a b.length c, .string ⟨s.toArray⟩, .slice A ([] : List It).length C] 83) := ⟨_, rfl⟩
  have hz : W0.heap.size = w.heap.size + 1 := by rw [hW0]; simp
  have h := OwnV.lit W0 W0.heap.size 5 #[encB 246] (Nat.le_refl _) (by simp [maxLen])
  have hB : Below w.heap.size w (W0.alloc (.cells #[encB 246] 5)) := by rw [hW0]; exact below_al (below_al bR _) _
  rw [hz] at h
  rw [hW0] at h hB
  exact ⟨_, rfl, h.base (Nat.le_succ _), hB⟩

end Go.Proofs.YtiahakbkagipkaaGreatDoor

namespace Go.Proofs.YtiahakbkagipkaaGreatDoor
open Go Go.RowKit Go.Shelf

attribute [local go_sem] Oper.semAt_some

def sealN (k : Nat) (l : List It) : List UInt8 :=
 if wdN k = 0 then (itLs l).bytes else (itLs (l ++ [.mk 2 0 (sumB k (itLs (l ++ [.mk 2 0 (List.replicate (wdN k) 0) [] []])).bytes) [] []])).bytes

theorem refOctets_any (a : Option Addr) (n c : Nat) (w : World) : Calls Tryz.prog 65 #[.slice a n c] w fun e w' => e = .returned (.agg #[.int .i64 2, .int .u64 0, .slice a n c, .string ⟨#[]⟩, .slice none 0 0]) ∧ Below w.heap.size w w' := by
 go_enter Tryz.func65, Tryz.ntmps65
 go_wp2
 exact bodyPost_ret (v := .agg #[.int .i64 2, .int .u64 0, .slice a n c, .string ⟨#[]⟩, .slice none 0 0]) (by simp [results, Tryz.results65, go_sem]) rfl ⟨rfl, below_al bR _⟩

theorem ListO.lit0 {w wr : World} (hb : Below w.heap.size w wr) : ListO w (wr.alloc (.cells #[] 83)) (.slice (some ⟨wr.heap.size, 0, none⟩) 0 0) [] :=
 ⟨below_al hb _, [], ⟨rfl, .inr ⟨wr.heap.size, 0, #[], rfl, hb.size, World.alloc_heap_new wr _, ⟨Nat.le_refl _, by decide, rfl, rfl⟩⟩⟩, rfl⟩

theorem refPutK2 (k : Nat) (h1 : 1 ≤ k) (h2 : k ≤ 2) (bs : List UInt8) (n m : Int) (hn : n = (sumN k bs : Int)) (hm : m = (wdN k : Int)) (w : World) :
  Calls Tryz.prog 67 #[.int .u64 n, .int .i64 m] w fun e w' => ∃ A C, e = .returned (.tuple #[.slice A (sumB k bs).length C, .int .i64 0]) ∧ (sumB k bs).length ≤ C ∧ RdB w' w'.heap.size A (sumB k bs) ∧ Below w.heap.size w w' := by
 subst hn hm
 have hle := sumN_le (k := k) bs
 have hk : k = 1 ∨ k = 2 := by omega
 rcases hk with rfl | rfl
 ·have h1 : sumN 1 bs ≤ 65535 := hle
  refine (refPut_yes 2 _ w rfl (by unfold U64; omega) (by simp [fits]; omega)).mono ?_
  rintro e w' ⟨v, rfl, ⟨A, C, rfl, hc, hr, _⟩, hb⟩
  exact ⟨A, C, rfl, hc, hr, hb⟩
 ·have h1 : sumN 2 bs ≤ 4294967295 := hle
  refine (refPut_yes 4 _ w rfl (by unfold U64; omega) (by simp [fits]; omega)).mono ?_
  rintro e w' ⟨v, rfl, ⟨A, C, rfl, hc, hr, _⟩, hb⟩
  exact ⟨A, C, rfl, hc, hr, hb⟩

def SrcI (w : World) (A : Option Addr) (l : List It) : Prop := ∃ ys, LI w (newB (bare w) w) ys l ∧ (l = [] ∨ ∃ g o, A = some ⟨g, o, none⟩ ∧ g < w.heap.size ∧ ∀ j u, ys[j]? = some u → w.cell? ⟨g, o + j, none⟩ = some u)

theorem SrcI.get {w w' : World} {A : Option Addr} {l : List It} {v : Value} (h : SrcI w A l) (hb : Below w.heap.size w w') (hv : ∀ r, v.ownBlock = some r → w.heap.size ≤ r) :
  ∃ ys, LI w' (newBut (bare w) w' v) ys l ∧ (l = [] ∨ ∃ ad, A = some ad ∧ ∀ j u, ys[j]? = some u → w'.cell? (ad.add j) = some u) := by
 obtain ⟨ys, hy, hc⟩ := h
 refine ⟨ys, LI.more (S := newB (bare w) w) (fun b q => ⟨⟨q.1, Nat.lt_of_lt_of_le q.2 hb.size⟩, fun h => ?_⟩) (LI.keep (S := newB (bare w) w) (fun b q => hb.block b q.2) hy), hc.imp id ?_⟩
 ·rintro ⟨g, o, rfl, hg, hc⟩
  exact ⟨⟨g, o, none⟩, rfl, fun j u hu => by
   rw [mk_addr_add]
   exact (hb.cell (p := ⟨g, o + j, none⟩) hg).trans (hc j u hu)⟩
 ·have := hv b h
  have := q.2
  omega

theorem one_get {w0 w : World} {a : Option Addr} {c : Nat} {bs : List UInt8} {v : Value} (hc : bs.length ≤ c) (hs : bs.length ≤ 140737488355328) (hr : RdB w w.heap.size a bs) (hne : ∀ r, v.ownBlock = some r → (∀ q, a = some q → q.block ≠ r) ∧ r < w.heap.size) (t : TypeId) :
  ∃ ys, LI (w.alloc (.cells #[.int .i64 2, .int .u64 0, .slice a bs.length c, .string ⟨#[]⟩, .slice none 0 0] t)) (newBut (bare w0) (w.alloc (.cells #[.int .i64 2, .int .u64 0, .slice a bs.length c, .string ⟨#[]⟩, .slice none 0 0] t)) v) ys [.mk 2 0 bs [] []] ∧
   (([.mk 2 0 bs [] []] : List It) = [] ∨ ∃ ad, (some (⟨w.heap.size, 0, none⟩ : Addr)) = some ad ∧ ∀ j u, ys[j]? = some u → (w.alloc (.cells #[.int .i64 2, .int .u64 0, .slice a bs.length c, .string ⟨#[]⟩, .slice none 0 0] t)).cell? (ad.add j) = some u) := by
 refine ⟨[.int .i64 2, .int .u64 0, .slice a bs.length c, .string ⟨#[]⟩, .slice none 0 0], LI.one ?_, .inr ⟨_, rfl, fun j u hu => ?_⟩⟩
 ·simp only [ItS]
  refine ⟨none, ⟨a, c, 0, rfl, ⟨hc, Nat.le_refl _⟩, ?_, ⟨by decide, by decide⟩, ⟨by decide, by decide⟩, hs, Nat.zero_le _, Nat.zero_le _⟩, .inl trivial⟩
  have hr2 := hr.below (below_al (Below.refl w.heap.size w) (.cells #[.int .i64 2, .int .u64 0, .slice a bs.length c, .string ⟨#[]⟩, .slice none 0 0] t))
  rcases hr2 with h | ⟨b, o, e, hlt, hc⟩
  ·exact .inl h
  ·refine .inr ⟨b, o, e, ⟨⟨Nat.zero_le _, by simp; omega⟩, fun h => ?_⟩, hc⟩
   exact (hne b h).1 _ e rfl
 ·rw [mk_addr_add, Nat.zero_add, box_at bR j]
  simpa using hu

theorem own_lt {w wr : World} {v : Value} {l : List It} (h : ListO w wr v l) : ∀ r, v.ownBlock = some r → r < wr.heap.size := fun r q => by
 obtain ⟨_, xs, hown, _⟩ := h
 exact (World.ownsRow.lt hown r q).2

theorem listO_run2 {w wr w1 : World} {v : Value} {l : List It} (h : ListO w wr v l) (hb1 : Below wr.heap.size wr w1) (A : Option Addr) (m : List It) (c : Nat) (hlen : l.length + m.length ≤ 1000000)
  (hy : ∃ ys, LI w1 (newBut w w1 v) ys m ∧ (m = [] ∨ ∃ ad, A = some ad ∧ ∀ j u, ys[j]? = some u → w1.cell? (ad.add j) = some u)) (hnil : A = none → m = []) :
  ∃ v' w2, (Builtin.append_ #[71, 71] 71 #[v, .slice A m.length c]).run Tryz.prog w1 = .ok v' w2 ∧ ListO w w2 v' (l ++ m) ∧ w1.grownBy w2 v.ownBlock ∧ (v'.ownBlock = v.ownBlock ∨ v'.ownBlock = some w1.heap.size) := by
 obtain ⟨hb, xs, hown, hls⟩ := h
 obtain ⟨ys, hyl, hyc⟩ := hy
 obtain ⟨i, hi, hz, hsz, hby⟩ := info_parts info_itm
 have hown1 : w1.ownsRow w.heap.size 83 5 v l.length xs := by
  obtain ⟨h1, h2⟩ := hown
  refine ⟨h1, h2.imp id ?_⟩
  rintro ⟨g, cap, cur, hv, hg0, hg, r⟩
  exact ⟨g, cap, cur, hv, hg0, (hb1.block g (Array.getElem?_eq_some_iff.1 hg).1).trans hg, r⟩
 rcases A with _ | ad
 ·obtain rfl := hnil rfl
  have hrun : (Builtin.append_ #[71, 71] 71 #[v, .slice none 0 c]).run Tryz.prog w1 = .ok v w1 := by
   rcases hown1.2 with ⟨rfl, _⟩ | ⟨g, cap, cur, rfl, _, _, hn, _⟩
   ·simp [Builtin.append_, run_underlying Tryz.underlying71, sizeOf, typeInfo, hi, Builtin.lenOf, Builtin.firstCells]
   ·simp [Builtin.append_, run_underlying Tryz.underlying71, sizeOf, typeInfo, hi, Builtin.lenOf, Builtin.firstCells, hn, storeCells]
  have hy0 : ys = [] := hyl
  subst hy0
  exact ⟨v, w1, hrun, ListO.app hb hown hls hb1 hyl (by simpa using hown1) (World.grownBy.refl _ _) (.inl rfl), World.grownBy.refl _ _, .inl rfl⟩
 ·have hcells : ∀ j u, ys[j]? = some u → w1.cell? (ad.add j) = some u := by
    rcases hyc with rfl | ⟨ad', e, h⟩
    ·have hy0 : ys = [] := hyl
     subst hy0
     intro j u hu
     simp at hu
    ·cases e
     exact h
  obtain ⟨v', w2, hrun, h2, h3, _, h5⟩ := run_append_own_at (P := Tryz.prog) w1 w.heap.size 71 71 83 i _ 5 80 Tryz.underlying71 hi hz hsz hby rfl (by decide) v l.length xs hown1 ad m.length c ys (hyl.length) hcells hyl.oneCell (by unfold maxLen; omega) (by omega) (by have := hb.size; have := hb1.size; omega)
  exact ⟨v', w2, hrun, ListO.app hb hown hls hb1 hyl h2 h3 h5, h3, h5⟩

theorem refSealed_any (k : Nat) (hk : k ≤ 2) (A : Option Addr) (C : Nat) (l : List It) (w : World) (hlen : l.length ≤ 1000) (hit : ItV w w.heap.size (listV A l.length C) (itLs l)) (hsrc : SrcI w A l) (hnil : A = none → l = [])
  (hr0 : (itLs l).right = true) (hr : ∀ bs, (itLs (l ++ [.mk 2 0 bs [] []])).right = true) (hb0 : (itLs l).bytes.length ≤ 1000000) (hb : ∀ bs, bs.length = wdN k → (itLs (l ++ [.mk 2 0 bs [] []])).bytes.length ≤ 1000000) :
  Calls Tryz.prog 29 #[.slice A l.length C, .int .i64 k] w (JoinP w (sealN k l)) := by
 have HIt := h_ hit
 have HSr := h_ hsrc
 have HNil := h_ hnil
 have HR := h_ hr
 have HR0 := h_ hr0
 have HLb := h_ hb
 have HLb0 := h_ hb0
 have HK := h_ hk
 obtain ⟨n, hn⟩ : ∃ n, n = l.length := ⟨_, rfl⟩
 have hn1 : n ≤ 1000 := by omega
 rw [← hn]
 have HN := h_ hn
 clear hit hsrc hnil hr hr0 hb hb0 hlen hn
 by_cases hk0 : k = 0
 ·have HZ : Hid (sealN k l = (itLs l).bytes) := if_pos (by rw [hk0]; rfl)
  have d0 : ((k : Int) == 0) = true := by rw [hk0]; rfl
  clear hk0 hk
  go_enter Tryz.func29, Tryz.ntmps29
  go_wp2_with fail
  refine (refList_any _ _ _ _).mono ?_
  rintro e w1 ⟨rfl, hb1⟩
  have HI1 := h_ (HIt.out.on hb1)
  have HB1 := h_ hb1
  clear hb1
  go_wp2_with fail
  have hkb := refBytes_any (itLs l) (listV A l.length C) w1 HR0.out (Nat.le_trans HLb0.out (by decide)) HI1.out
  rw [← HN.out] at hkb
  unfold listV at hkb
  refine hkb.mono ?_
  rintro e w2 ⟨u, rfl, hown, hb2⟩
  have HOw : Hid (OwnV w2 w.heap.size 5 u ((itLs l).bytes.map encB)) := ⟨hown.1, hown.2.imp id fun ⟨g, cap, cur, e, h0, r⟩ => ⟨g, cap, cur, e, Nat.le_trans HB1.out.size h0, r⟩⟩
  have HB2 := h_ (below_on HB1.out hb2)
  clear hown hb2 hkb
  go_wp2_with fail
  go_ret
  exact ⟨u, rfl, by rw [HZ.out]; exact HOw.out, HB2.out⟩
 ·have hk12 : 1 ≤ k := by omega
  have hwd1 : ¬ wdN k = 0 := by
   have : k = 1 ∨ k = 2 := by omega
   rcases this with rfl | rfl <;> decide
  obtain ⟨sB, hsB⟩ : ∃ sB, sB = sumB k (itLs (l ++ [.mk 2 0 (List.replicate (wdN k) 0) [] []])).bytes := ⟨_, rfl⟩
  have HZ : Hid (sealN k l = (itLs (l ++ [.mk 2 0 sB [] []])).bytes) := by rw [hsB]; exact if_neg hwd1
  have hsl : sB.length = wdN k := by rw [hsB]; exact sumB_length _ _
  have d0 : ((k : Int) == 0) = false := by simp; omega
  have HSB := h_ hsB
  have HSL := h_ hsl
  have HK1 := h_ hk12
  have hwd4 : wdN k ≤ 4 := wdN_le k
  have hmk := fun w => mk_zero (wdN k) hwd4 w
  have HWd1 : Hid (1 ≤ wdN k) := Nat.pos_of_ne_zero hwd1
  have HWi := h_ (fun w => refWidth_any k HK.out w)
  clear hk0 hk hwd1 hsB hsl hk12
  generalize hwdE : wdN k = wd at *
  have HWd : Hid ((wd : Int) = (wdN k : Int)) := by rw [hwdE]; exact rfl
  clear hwdE
  go_enter Tryz.func29, Tryz.ntmps29
  -- the first list, and its bytes
  obtain ⟨w1, hw1⟩ : ∃ w1, w1 = w.alloc (.cells #[] 83) := ⟨_, rfl⟩
  have hb1 : Below w.heap.size w w1 := by rw [hw1]; exact below_al bR _
  have hl0 : ListO (bare w) w1 (.slice (some ⟨w.heap.size, 0, none⟩) 0 0) [] := by rw [hw1]; exact ListO.lit0 (bare_below w)
  obtain ⟨v2, w2, hrun2, hlo2, hgr2, hv2⟩ := listO_run2 hl0 bR A l C (by simp; have := HN.out; omega) (HSr.out.get hb1 (fun r h => by have h' : some w.heap.size = some r := h; injection h' with h'; omega)) HNil.out
  rw [← HN.out] at hrun2
  rw [List.nil_append] at hlo2
  have hb2 : Below w.heap.size w w2 := hb1.grown hgr2 hb1.size (fun r h => by have h' : some w.heap.size = some r := h; injection h' with h'; omega)
  have HV2 : Hid (∀ r, v2.ownBlock = some r → w.heap.size ≤ r) := fun r h => by
   rcases hv2 with h1 | h1
   ·rw [h1] at h
    have h' : some w.heap.size = some r := h
    injection h' with h'
    omega
   ·rw [h1] at h
    injection h with h
    have := hb1.size
    omega
  have HB2 := h_ hb2
  have HRun2 := h_ hrun2
  have HLo2 := h_ hlo2
  rw [hw1] at HRun2
  clear hw1 hb1 hl0 hrun2 hlo2 hgr2 hv2 hb2
  go_wp2_with (at_builtin; refine wpList_run (by rfl) _ _ _ _ (by rfl) _ _ _ _ (by rfl) (by rfl) HRun2.out ?_)
  refine (HWi.out _).mono ?_
  rintro e wx ⟨rfl, rfl⟩
  go_wp2_with fail
  obtain ⟨w3, hw3⟩ : ∃ w3, w3 = w2.alloc (.cells (madeCells #[.int .u8 0] wd) 5) := ⟨_, rfl⟩
  have hb3 : Below w2.heap.size w2 w3 := by rw [hw3]; exact below_al bR _
  have HRz : Hid (RdB w3 w3.heap.size (some ⟨w2.heap.size, 0, none⟩) (List.replicate wd 0)) := by rw [hw3]; exact rd_zero w2 wd
  have HB3 := h_ hb3
  have HS3 : Hid (w3.heap.size = w2.heap.size + 1) := by rw [hw3]; simp [Hid]
  rw [← hw3]
  clear hw3 hb3
  refine (refOctets_any _ _ _ _).mono ?_
  rintro e w4 ⟨rfl, hb4⟩
  have hR4 : RdB w4 w4.heap.size (some ⟨w2.heap.size, 0, none⟩) (List.replicate wd 0) := (HRz.out.below hb4).mono hb4.size
  have hget := one_get (w0 := w) (w := w4) (v := v2) (bs := List.replicate wd 0) (c := wd) (by simp) (by simp; omega) hR4 (fun r h => by
   have h1 := own_lt HLo2.out r h
   have h2 := HS3.out
   have h3 := hb4.size
   refine ⟨fun q hq => ?_, by omega⟩
   injection hq with hq
   rw [← hq]
   show w2.heap.size ≠ r
   omega) 83
  rw [List.length_replicate] at hget
  have hb45 := below_al (below_on HB3.out hb4) (.cells #[.int .i64 2, .int .u64 0, .slice (some ⟨w2.heap.size, 0, none⟩) wd wd, .string ⟨#[]⟩, .slice none 0 0] 83)
  obtain ⟨v6, w6, hrun6, hlo6, hgr6, hv6⟩ := listO_run2 HLo2.out hb45 (some ⟨w4.heap.size, 0, none⟩) [.mk 2 0 (List.replicate wd 0) [] []] 1 (by simp; have := HN.out; omega) hget (fun h => by cases h)
  have hb6 : Below w.heap.size w w6 := (below_on HB2.out hb45).grown hgr6 (below_on HB2.out hb45).size (fun r h => HV2.out r h)
  have HB6 := h_ hb6
  have HRun6 := h_ hrun6
  have HLo6 := h_ hlo6
  clear hget hb45 hrun6 hlo6 hgr6 hv6 hb6 hR4 hb4
  go_wp2_with (at_builtin; refine wpList_run (by rfl) _ _ _ _ (by rfl) _ _ _ _ (by rfl) (by rfl) HRun6.out ?_)
  obtain ⟨A6, C6, rfl, hit6⟩ := HLo6.out.item (by simp; have := HN.out; omega)
  obtain ⟨lz, hlz⟩ : ∃ lz, lz = l ++ [.mk 2 0 (List.replicate wd 0) [] []] := ⟨_, rfl⟩
  obtain ⟨m6, hm6⟩ : ∃ m6, m6 = lz.length := ⟨_, rfl⟩
  rw [← hlz, ← hm6] at hit6 ⊢
  have HI6 : Hid (ItV w6 w6.heap.size (listV A6 m6 C6) (itLs lz)) := ItS.itV (fun b q => q.2) _ hit6
  have HRz6 : Hid ((itLs lz).right = true) := by rw [hlz]; exact HR.out _
  have HLz6 : Hid ((itLs lz).bytes.length ≤ 1000000) := by rw [hlz]; exact HLb.out _ (by simp)
  have HLZ := h_ hlz
  have HM6 := h_ hm6
  clear hit6 hlz hm6
  go_wp2_with fail
  refine (refList_any _ _ _ _).mono ?_
  rintro e w7 ⟨rfl, hb7⟩
  have HI7 := h_ (HI6.out.on hb7)
  have HB7 := h_ (below_on HB6.out hb7)
  clear hb7
  go_wp2_with fail
  have hkb := refBytes_any (itLs lz) (listV A6 m6 C6) w7 HRz6.out (Nat.le_trans HLz6.out (by decide)) HI7.out
  unfold listV at hkb
  refine hkb.mono ?_
  rintro e w8 ⟨u, rfl, hown, hb8⟩
  obtain ⟨a9, c9, rfl, _, hrd9, _⟩ := hown.bytes
  have HB8 := h_ (below_on HB7.out hb8)
  have HRd9 := h_ hrd9
  obtain ⟨bz, hbz⟩ : ∃ bz, bz = (itLs lz).bytes := ⟨_, rfl⟩
  have HLz : Hid (bz.length ≤ 1000000) := by rw [hbz]; exact HLz6.out
  have HBz := h_ hbz
  rw [← hbz] at HRd9 ⊢
  obtain ⟨nz, hnz⟩ : ∃ nz, nz = bz.length := ⟨_, rfl⟩
  rw [← hnz]
  have HNz := h_ hnz
  have HSB2 : Hid (sB = sumB k bz) := by rw [hbz, HLZ.out]; exact HSB.out
  clear hkb hown hb8 hrd9 hbz hnz
  go_wp2_with fail

  refine (refOf_any k HK.out a9 nz c9 bz HNz.out w8 (by have := HLz.out; omega) HRd9.out).mono ?_
  rintro e wq ⟨rfl, hbq⟩
  have HBq := h_ (below_on HB8.out hbq)
  obtain ⟨sn, hsn⟩ : ∃ sn, sn = sumN k bz := ⟨_, rfl⟩
  have hsum : IntKind.u64.wrap (sn : Int) = (sn : Int) := by
   have h1 := sumN_le (k := k) bz
   have h2 : onN k ≤ 4294967295 := by
    have h3 := HK1.out
    have h4 := HK.out
    have h5 : k = 1 ∨ k = 2 := by omega
    rcases h5 with rfl | rfl <;> decide
   rw [IntKind.wrap_u64]
   omega
  rw [← hsn]
  have HSn := h_ hsn
  clear hbq hsn
  go_wp2_with fail
  refine (HWi.out _).mono ?_
  rintro e wx ⟨rfl, rfl⟩
  go_wp2_with fail
  refine (refPutK2 k HK1.out HK.out bz (sn : Int) (wd : Int) (by rw [HSn.out]) HWd.out wq).mono ?_
  rintro e wp ⟨aS, cS, rfl, hcS, hrS, hbp⟩
  have hls : (sumB k bz).length = wd := by rw [← HSB2.out]; exact HSL.out
  rw [hls] at hcS ⊢
  rw [← HSB2.out] at hrS
  have HRS := h_ hrS
  have HBp := h_ (below_on HBq.out hbp)
  have HCS : Hid (wd ≤ cS) := hcS
  have HAS : Hid (∀ q, aS = some q → q.block < wp.heap.size) := fun q hq => by
   rcases hrS with h | ⟨b, o, e, hlt, _⟩
   ·have hl2 := HSL.out
    rw [h] at hl2
    have h1 := HWd1.out
    simp at hl2
    omega
   ·rw [hq] at e
    injection e with e
    rw [e]
    exact hlt
  clear hbp hrS hls hsum hcS
  obtain ⟨wa, hwa⟩ : ∃ wa, wa = wp.alloc (.cells #[] 83) := ⟨_, rfl⟩
  have hba : Below wp.heap.size wp wa := by rw [hwa]; exact below_al bR _
  have hla0 : ListO (bare wp) wa (.slice (some ⟨wp.heap.size, 0, none⟩) 0 0) [] := by rw [hwa]; exact ListO.lit0 (bare_below wp)
  have hsp := HBp.out.size
  obtain ⟨vb, wb, hrunb, hlob, hgrb, hvb⟩ := listO_run2 hla0 bR A l C (by simp; have := HN.out; omega) (HSr.out.get (below_on HBp.out hba) (fun r h => by have h' : some wp.heap.size = some r := h; injection h' with h'; omega)) HNil.out
  rw [← HN.out] at hrunb
  rw [List.nil_append] at hlob
  have hbb : Below wp.heap.size wp wb := hba.grown hgrb hba.size (fun r h => by have h' : some wp.heap.size = some r := h; injection h' with h'; omega)
  have HVb : Hid (∀ r, vb.ownBlock = some r → wp.heap.size ≤ r) := fun r h => by
   rcases hvb with h1 | h1
   ·rw [h1] at h
    have h' : some wp.heap.size = some r := h
    injection h' with h'
    omega
   ·rw [h1] at h
    injection h with h
    have := hba.size
    omega
  have HBb := h_ hbb
  have HRunb := h_ hrunb
  have HLob := h_ hlob
  rw [hwa] at HRunb
  clear hwa hba hla0 hrunb hlob hgrb hvb hbb hsp
  go_wp2_with (at_builtin; refine wpList_run (by rfl) _ _ _ _ (by rfl) _ _ _ _ (by rfl) (by rfl) HRunb.out ?_)
  refine (refOctets_any _ _ _ _).mono ?_
  rintro e wc ⟨rfl, hbc⟩
  have hRc : RdB wc wc.heap.size aS sB := (HRS.out.below (below_on HBb.out hbc)).mono (below_on HBb.out hbc).size
  have hget := one_get (w0 := wp) (w := wc) (v := vb) (bs := sB) (c := cS) (by have := HCS.out; have := HSL.out; omega) (by have := HSL.out; omega) hRc (fun r h => by
   have h1 := own_lt HLob.out r h
   have h2 := HVb.out r h
   have h3 := hbc.size
   exact ⟨fun q hq => by have := HAS.out q hq; omega, by omega⟩) 83
  rw [HSL.out] at hget
  have hbcd := below_al hbc (.cells #[.int .i64 2, .int .u64 0, .slice aS wd cS, .string ⟨#[]⟩, .slice none 0 0] 83)
  obtain ⟨ve, we, hrune, hloe, hgre, hve⟩ := listO_run2 HLob.out hbcd (some ⟨wc.heap.size, 0, none⟩) [.mk 2 0 sB [] []] 1 (by simp; have := HN.out; omega) hget (fun h => by cases h)
  have hbe : Below wp.heap.size wp we := (below_on HBb.out hbcd).grown hgre (below_on HBb.out hbcd).size (fun r h => HVb.out r h)
  have HBe := h_ (below_on HBp.out hbe)
  have HRune := h_ hrune
  have HLoe := h_ hloe
  clear hget hbcd hrune hloe hgre hve hbe hRc hbc
  go_wp2_with (at_builtin; refine wpList_run (by rfl) _ _ _ _ (by rfl) _ _ _ _ (by rfl) (by rfl) HRune.out ?_)
  obtain ⟨Af, Cf, rfl, hitf⟩ := HLoe.out.item (by simp; have := HN.out; omega)
  obtain ⟨lf, hlf⟩ : ∃ lf, lf = l ++ [.mk 2 0 sB [] []] := ⟨_, rfl⟩
  obtain ⟨mf, hmf⟩ : ∃ mf, mf = lf.length := ⟨_, rfl⟩
  rw [← hlf, ← hmf] at hitf ⊢
  have HIf : Hid (ItV we we.heap.size (listV Af mf Cf) (itLs lf)) := ItS.itV (fun b q => q.2) _ hitf
  have HRf : Hid ((itLs lf).right = true) := by rw [hlf]; exact HR.out _
  have HLf : Hid ((itLs lf).bytes.length ≤ 1000000) := by rw [hlf]; exact HLb.out _ HSL.out
  have HZf : Hid (sealN k l = (itLs lf).bytes) := by rw [hlf]; exact HZ.out
  clear hitf hlf hmf
  go_wp2_with fail
  refine (refList_any _ _ _ _).mono ?_
  rintro e wg ⟨rfl, hbg⟩
  have HIg := h_ (HIf.out.on hbg)
  have HBg := h_ (below_on HBe.out hbg)
  clear hbg
  go_wp2_with fail
  have hkb := refBytes_any (itLs lf) (listV Af mf Cf) wg HRf.out (Nat.le_trans HLf.out (by decide)) HIg.out
  unfold listV at hkb
  refine hkb.mono ?_
  rintro e wh ⟨u, rfl, hown, hbh⟩
  have HOw : Hid (OwnV wh w.heap.size 5 u ((itLs lf).bytes.map encB)) := ⟨hown.1, hown.2.imp id fun ⟨g, cap, cur, e, h0, r⟩ => ⟨g, cap, cur, e, Nat.le_trans HBg.out.size h0, r⟩⟩
  have HBh := h_ (below_on HBg.out hbh)
  clear hown hbh hkb
  go_wp2_with fail
  go_ret
  exact ⟨u, rfl, by rw [HZf.out]; exact HOw.out, HBh.out⟩
end Go.Proofs.YtiahakbkagipkaaGreatDoor
