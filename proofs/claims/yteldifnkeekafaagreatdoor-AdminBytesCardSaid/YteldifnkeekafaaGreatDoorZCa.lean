/- Joined texts. -/
import Derived.Test.YteldifnkeekafaaGreatDoorZJd
import Derived.Test.YteldifnkeekafaaGreatDoorZBv
import Derived.Test.YteldifnkeekafaaGreatDoorZBx
import Derived.Test.YteldifnkeekafaaGreatDoorZKv
import Derived.Lib.AppendStr
import Derived.Deep.RegionHeld3
import Derived.Test.YteldifnkeekafaaGreatDoorZJf
set_option maxHeartbeats 4000000
set_option linter.unusedSimpArgs false
namespace Go.Proofs.YteldifnkeekafaaGreatDoor
open Go.RowKit Go.Shelf

theorem run_cut1h {P : Program} (t e : TypeId) (ht : P.underlying t = some (.slice e)) (hz : ∀ w, (Go.sizeOf e).run P w = .ok 1 w) (a : Option Addr) (n cap h : Nat) (h1 : h ≤ cap) (w : World) :
  (Instr.slice t (.slice a n cap) none (some (.int .i64 (h : Int))) none).run P w = .ok (.slice a h cap) w := by
 have ht' : P.underlying t = some (.slice (P.elem t)) := by simp [Program.elem, ht]
 have he : P.elem t = e := by simp [Program.elem, ht]
 rw [run_slice_h w t a n cap ht' .i64 h (by omega) (by omega), he, hz]
 rcases a with _ | ad
 ·simp [Result.andThen, sliced]
 ·simp [Result.andThen, sliced, Addr.add]

def octN (l : List UInt8) (i : Nat) : Int := if i < l.length then (bt l i : Int) else -1

theorem refOctet_any (s : ByteArray) (i : Nat) (w : World) :
  Calls Tryz.prog 110 #[.string s, .int .i64 i] w fun e w' => e = .returned (.int .i64 (octN s.data.toList i)) ∧ w = w' := by
 have hl : s.data.toList.length = s.size := Array.length_toList
 by_cases h : i < s.size
 ·have e1 : octN s.data.toList i = (s[i].toNat : Int) := by
    unfold octN
    rw [if_pos (by omega)]
    have := get_bt s 0 i (by omega)
    simp at this
    rw [← this, get_eq s i h]
  rw [e1]
  clear hl e1
  have b0 : (0 : Int) ≤ (s[i].toNat : Int) := by omega
  have b1 : (s[i].toNat : Int) ≤ 255 := by have := UInt8.toNat_lt s[i]; omega
  go_enter Tryz.func110, Tryz.ntmps110
  go_wp2
  go_ret
  exact ⟨rfl, rfl⟩
 ·have e1 : octN s.data.toList i = -1 := by
    unfold octN
    rw [if_neg (by omega)]
  rw [e1]
  clear hl e1
  go_enter Tryz.func110, Tryz.ntmps110
  go_wp2
  go_ret
  exact ⟨rfl, rfl⟩

def okN (l : List UInt8) (lo hi : Nat) (k : Nat) : Prop := ∀ j, 1 ≤ j → j < k → inB l j (if j = 1 then lo else 128) (if j = 1 then hi else 191) = true

theorem okN_step {l : List UInt8} {lo hi k : Nat} (h : okN l lo hi k) (hk : inB l k (if k = 1 then lo else 128) (if k = 1 then hi else 191) = true) : okN l lo hi (k + 1) := by
 intro j h1 h2
 by_cases e : j = k
 ·subst e
  exact hk
 ·exact h j h1 (by omega)

theorem rl_yes {l : List UInt8} {n lo hi : Nat} (hL : lead (bt l 0) = (n, lo, hi)) (hn : n = 2 ∨ n = 3 ∨ n = 4) (h : okN l lo hi n) : rl l = n := by
 unfold rl
 rw [hL]
 have h1 := h 1 (by omega) (by omega)
 simp only [if_true] at h1
 rcases hn with rfl | rfl | rfl
 ·simp [h1]
 ·have h2 := h 2 (by omega) (by omega)
  simp at h2
  simp [h1, h2]
 ·have h2 := h 2 (by omega) (by omega)
  have h3 := h 3 (by omega) (by omega)
  simp at h2 h3
  simp [h1, h2, h3]

theorem rl_no {l : List UInt8} {n lo hi k : Nat} (hL : lead (bt l 0) = (n, lo, hi)) (hn : n = 2 ∨ n = 3 ∨ n = 4) (h1 : 1 ≤ k) (hk : k < n) (h : inB l k (if k = 1 then lo else 128) (if k = 1 then hi else 191) = false) : rl l = 0 := by
 unfold rl
 rw [hL]
 have : k = 1 ∨ k = 2 ∨ k = 3 := by omega
 rcases this with rfl | rfl | rfl
 ·simp at h
  rcases hn with rfl | rfl | rfl <;> simp [h]
 ·simp at h
  rcases hn with rfl | rfl | rfl
  ·omega
  ·simp [h]
  ·simp [h]
 ·simp at h
  rcases hn with rfl | rfl | rfl
  ·omega
  ·omega
  ·simp [h]

theorem inB_oct (l : List UInt8) (i lo hi : Nat) : inB l i lo hi = (decide ((lo : Int) ≤ octN l i) && decide (octN l i ≤ (hi : Int))) := by
 unfold inB octN
 by_cases h : i < l.length
 ·rw [if_pos h]
  simp [h]
 ·rw [if_neg h]
  simp [h]
  omega

theorem rune1_c1 (s : ByteArray) (l : List UInt8) (w : World) (hl : l = s.data.toList) (hL : lead (bt l 0) = (2, 128, 191)) (h1 : 194 ≤ octN l 0) (h2 : octN l 0 ≤ 223) :
  Calls Tryz.prog 85 #[.string s] w fun e w' => e = .returned (.int .i64 (rl l)) ∧ w = w' := by
 have HO : Hid (∀ (i : Nat) (w : World), Calls Tryz.prog 110 #[.string s, .int .i64 i] w fun e w' => e = .returned (.int .i64 (octN l i)) ∧ w = w') := fun i w => hl ▸ refOctet_any s i w
 have HO0 := HO.out 0
 have HL := h_ hL
 clear hl hL
 generalize octN l 0 = at0 at *
 have d224 : (at0 == 224) = false := by simp; omega
 have d237 : (at0 == 237) = false := by simp; omega
 have d240 : (at0 == 240) = false := by simp; omega
 have d244 : (at0 == 244) = false := by simp; omega
 have HZ := h_ HO0
 clear HO0
 go_enter Tryz.func85, Tryz.ntmps85
 go_wp2_with fail
 refine (HZ.out _).mono ?_
 rintro e w' ⟨rfl, rfl⟩
 go_wp2
 go_loop [5, 6, 7] (fun a b i => ∃ k : Nat, 1 ≤ k ∧ k ≤ 2 ∧ i = .int .i64 k ∧ a = .int .i64 ((if k = 1 then 128 else 128 : Nat) : Int) ∧ b = .int .i64 ((if k = 1 then 191 else 191 : Nat) : Int) ∧ Hid (okN l 128 191 k)) (fun _ _ i => 2 - (intOf i).toNat)
 case atStart => exact ⟨1, by omega, by omega, rfl, rfl, rfl, fun j h1 h2 => by omega⟩
 case round =>
  obtain ⟨k, hk1, hk2, rfl, rfl, rfl, HK⟩ := hrel
  by_cases hlt : k < 2
  ·obtain ⟨a, ha⟩ : ∃ a, a = (if k = 1 then 128 else 128 : Nat) := ⟨_, rfl⟩
   obtain ⟨b, hb⟩ : ∃ b, b = (if k = 1 then 191 else 191 : Nat) := ⟨_, rfl⟩
   have hi := inB_oct l k a b
   have HN : Hid (inB l k a b = false → rl l = 0) := fun h => rl_no HL.out (by omega) hk1 hlt (by rw [← ha, ← hb]; exact h)
   have HY : Hid (inB l k a b = true → okN l 128 191 (k + 1)) := fun h => okN_step HK.out (by rw [← ha, ← hb]; exact h)
   have HI := h_ hi
   have HC := h_ (HO.out k)
   rw [← ha, ← hb]
   clear ha hb hi
   obtain ⟨c, hc⟩ : ∃ c, c = octN l k := ⟨_, rfl⟩
   rw [← hc] at HI HC
   clear hc
   have ea : (if k + 1 = 1 then 128 else 128 : Nat) = 128 := by rw [if_neg (by omega)]
   have eb : (if k + 1 = 1 then 191 else 191 : Nat) = 191 := by rw [if_neg (by omega)]
   have HEA := h_ ea
   have HEB := h_ eb
   clear ea eb
   by_cases hca : c < (a : Int)
   ·go_wp2_with fail
    refine (HC.out _).mono ?_
    rintro e w' ⟨rfl, rfl⟩
    go_wp2
    go_ret
    exact ⟨by rw [HN.out (by rw [HI.out]; simp; omega)]; rfl, rfl⟩
   ·by_cases hcb : (b : Int) < c
    ·go_wp2_with fail
     refine (HC.out _).mono ?_
     rintro e w' ⟨rfl, rfl⟩
     go_wp2
     go_ret
     exact ⟨by rw [HN.out (by rw [HI.out]; simp; omega)]; rfl, rfl⟩
    ·go_wp2_with fail
     refine (HC.out _).mono ?_
     rintro e w' ⟨rfl, rfl⟩
     go_wp2
     go_round
     case rel => exact ⟨k + 1, by omega, by omega, by go_num, by rw [HEA.out]; rfl, by rw [HEB.out]; rfl, HY.out (by rw [HI.out]; simp; omega)⟩
     case measure => simp [intOf]; omega
  ·obtain rfl : k = 2 := by omega
   have HR := h_ (rl_yes HL.out (by omega) HK.out)
   go_wp2
   go_ret
   exact ⟨by rw [HR.out]; rfl, rfl⟩

theorem rune1_c2 (s : ByteArray) (l : List UInt8) (w : World) (hl : l = s.data.toList) (hL : lead (bt l 0) = (3, 160, 191)) (h1 : octN l 0 = 224) :
  Calls Tryz.prog 85 #[.string s] w fun e w' => e = .returned (.int .i64 (rl l)) ∧ w = w' := by
 have HO : Hid (∀ (i : Nat) (w : World), Calls Tryz.prog 110 #[.string s, .int .i64 i] w fun e w' => e = .returned (.int .i64 (octN l i)) ∧ w = w') := fun i w => hl ▸ refOctet_any s i w
 have HO0 := HO.out 0
 have HL := h_ hL
 clear hl hL
 rw [h1] at HO0
 clear h1
 have HZ := h_ HO0
 clear HO0
 go_enter Tryz.func85, Tryz.ntmps85
 go_wp2_with fail
 refine (HZ.out _).mono ?_
 rintro e w' ⟨rfl, rfl⟩
 go_wp2
 go_loop [5, 6, 7] (fun a b i => ∃ k : Nat, 1 ≤ k ∧ k ≤ 3 ∧ i = .int .i64 k ∧ a = .int .i64 ((if k = 1 then 160 else 128 : Nat) : Int) ∧ b = .int .i64 ((if k = 1 then 191 else 191 : Nat) : Int) ∧ Hid (okN l 160 191 k)) (fun _ _ i => 3 - (intOf i).toNat)
 case atStart => exact ⟨1, by omega, by omega, rfl, rfl, rfl, fun j h1 h2 => by omega⟩
 case round =>
  obtain ⟨k, hk1, hk2, rfl, rfl, rfl, HK⟩ := hrel
  by_cases hlt : k < 3
  ·obtain ⟨a, ha⟩ : ∃ a, a = (if k = 1 then 160 else 128 : Nat) := ⟨_, rfl⟩
   obtain ⟨b, hb⟩ : ∃ b, b = (if k = 1 then 191 else 191 : Nat) := ⟨_, rfl⟩
   have hi := inB_oct l k a b
   have HN : Hid (inB l k a b = false → rl l = 0) := fun h => rl_no HL.out (by omega) hk1 hlt (by rw [← ha, ← hb]; exact h)
   have HY : Hid (inB l k a b = true → okN l 160 191 (k + 1)) := fun h => okN_step HK.out (by rw [← ha, ← hb]; exact h)
   have HI := h_ hi
   have HC := h_ (HO.out k)
   rw [← ha, ← hb]
   clear ha hb hi
   obtain ⟨c, hc⟩ : ∃ c, c = octN l k := ⟨_, rfl⟩
   rw [← hc] at HI HC
   clear hc
   have ea : (if k + 1 = 1 then 160 else 128 : Nat) = 128 := by rw [if_neg (by omega)]
   have eb : (if k + 1 = 1 then 191 else 191 : Nat) = 191 := by rw [if_neg (by omega)]
   have HEA := h_ ea
   have HEB := h_ eb
   clear ea eb
   by_cases hca : c < (a : Int)
   ·go_wp2_with fail
    refine (HC.out _).mono ?_
    rintro e w' ⟨rfl, rfl⟩
    go_wp2
    go_ret
    exact ⟨by rw [HN.out (by rw [HI.out]; simp; omega)]; rfl, rfl⟩
   ·by_cases hcb : (b : Int) < c
    ·go_wp2_with fail
     refine (HC.out _).mono ?_
     rintro e w' ⟨rfl, rfl⟩
     go_wp2
     go_ret
     exact ⟨by rw [HN.out (by rw [HI.out]; simp; omega)]; rfl, rfl⟩
    ·go_wp2_with fail
     refine (HC.out _).mono ?_
     rintro e w' ⟨rfl, rfl⟩
     go_wp2
     go_round
     case rel => exact ⟨k + 1, by omega, by omega, by go_num, by rw [HEA.out]; rfl, by rw [HEB.out]; rfl, HY.out (by rw [HI.out]; simp; omega)⟩
     case measure => simp [intOf]; omega
  ·obtain rfl : k = 3 := by omega
   have HR := h_ (rl_yes HL.out (by omega) HK.out)
   go_wp2
   go_ret
   exact ⟨by rw [HR.out]; rfl, rfl⟩

theorem rune1_c3 (s : ByteArray) (l : List UInt8) (w : World) (hl : l = s.data.toList) (hL : lead (bt l 0) = (3, 128, 159)) (h1 : octN l 0 = 237) :
  Calls Tryz.prog 85 #[.string s] w fun e w' => e = .returned (.int .i64 (rl l)) ∧ w = w' := by
 have HO : Hid (∀ (i : Nat) (w : World), Calls Tryz.prog 110 #[.string s, .int .i64 i] w fun e w' => e = .returned (.int .i64 (octN l i)) ∧ w = w') := fun i w => hl ▸ refOctet_any s i w
 have HO0 := HO.out 0
 have HL := h_ hL
 clear hl hL
 rw [h1] at HO0
 clear h1
 have HZ := h_ HO0
 clear HO0
 go_enter Tryz.func85, Tryz.ntmps85
 go_wp2_with fail
 refine (HZ.out _).mono ?_
 rintro e w' ⟨rfl, rfl⟩
 go_wp2
 go_loop [5, 6, 7] (fun a b i => ∃ k : Nat, 1 ≤ k ∧ k ≤ 3 ∧ i = .int .i64 k ∧ a = .int .i64 ((if k = 1 then 128 else 128 : Nat) : Int) ∧ b = .int .i64 ((if k = 1 then 159 else 191 : Nat) : Int) ∧ Hid (okN l 128 159 k)) (fun _ _ i => 3 - (intOf i).toNat)
 case atStart => exact ⟨1, by omega, by omega, rfl, rfl, rfl, fun j h1 h2 => by omega⟩
 case round =>
  obtain ⟨k, hk1, hk2, rfl, rfl, rfl, HK⟩ := hrel
  by_cases hlt : k < 3
  ·obtain ⟨a, ha⟩ : ∃ a, a = (if k = 1 then 128 else 128 : Nat) := ⟨_, rfl⟩
   obtain ⟨b, hb⟩ : ∃ b, b = (if k = 1 then 159 else 191 : Nat) := ⟨_, rfl⟩
   have hi := inB_oct l k a b
   have HN : Hid (inB l k a b = false → rl l = 0) := fun h => rl_no HL.out (by omega) hk1 hlt (by rw [← ha, ← hb]; exact h)
   have HY : Hid (inB l k a b = true → okN l 128 159 (k + 1)) := fun h => okN_step HK.out (by rw [← ha, ← hb]; exact h)
   have HI := h_ hi
   have HC := h_ (HO.out k)
   rw [← ha, ← hb]
   clear ha hb hi
   obtain ⟨c, hc⟩ : ∃ c, c = octN l k := ⟨_, rfl⟩
   rw [← hc] at HI HC
   clear hc
   have ea : (if k + 1 = 1 then 128 else 128 : Nat) = 128 := by rw [if_neg (by omega)]
   have eb : (if k + 1 = 1 then 159 else 191 : Nat) = 191 := by rw [if_neg (by omega)]
   have HEA := h_ ea
   have HEB := h_ eb
   clear ea eb
   by_cases hca : c < (a : Int)
   ·go_wp2_with fail
    refine (HC.out _).mono ?_
    rintro e w' ⟨rfl, rfl⟩
    go_wp2
    go_ret
    exact ⟨by rw [HN.out (by rw [HI.out]; simp; omega)]; rfl, rfl⟩
   ·by_cases hcb : (b : Int) < c
    ·go_wp2_with fail
     refine (HC.out _).mono ?_
     rintro e w' ⟨rfl, rfl⟩
     go_wp2
     go_ret
     exact ⟨by rw [HN.out (by rw [HI.out]; simp; omega)]; rfl, rfl⟩
    ·go_wp2_with fail
     refine (HC.out _).mono ?_
     rintro e w' ⟨rfl, rfl⟩
     go_wp2
     go_round
     case rel => exact ⟨k + 1, by omega, by omega, by go_num, by rw [HEA.out]; rfl, by rw [HEB.out]; rfl, HY.out (by rw [HI.out]; simp; omega)⟩
     case measure => simp [intOf]; omega
  ·obtain rfl : k = 3 := by omega
   have HR := h_ (rl_yes HL.out (by omega) HK.out)
   go_wp2
   go_ret
   exact ⟨by rw [HR.out]; rfl, rfl⟩

theorem rune1_c4 (s : ByteArray) (l : List UInt8) (w : World) (hl : l = s.data.toList) (hL : lead (bt l 0) = (3, 128, 191)) (h1 : 225 ≤ octN l 0) (h2 : octN l 0 ≤ 239) (h3 : octN l 0 ≠ 237) :
  Calls Tryz.prog 85 #[.string s] w fun e w' => e = .returned (.int .i64 (rl l)) ∧ w = w' := by
 have HO : Hid (∀ (i : Nat) (w : World), Calls Tryz.prog 110 #[.string s, .int .i64 i] w fun e w' => e = .returned (.int .i64 (octN l i)) ∧ w = w') := fun i w => hl ▸ refOctet_any s i w
 have HO0 := HO.out 0
 have HL := h_ hL
 clear hl hL
 generalize octN l 0 = at0 at *
 have d224 : (at0 == 224) = false := by simp; omega
 have d237 : (at0 == 237) = false := by simp; omega
 have d240 : (at0 == 240) = false := by simp; omega
 have d244 : (at0 == 244) = false := by simp; omega
 have HZ := h_ HO0
 clear HO0
 go_enter Tryz.func85, Tryz.ntmps85
 go_wp2_with fail
 refine (HZ.out _).mono ?_
 rintro e w' ⟨rfl, rfl⟩
 go_wp2
 go_loop [5, 6, 7] (fun a b i => ∃ k : Nat, 1 ≤ k ∧ k ≤ 3 ∧ i = .int .i64 k ∧ a = .int .i64 ((if k = 1 then 128 else 128 : Nat) : Int) ∧ b = .int .i64 ((if k = 1 then 191 else 191 : Nat) : Int) ∧ Hid (okN l 128 191 k)) (fun _ _ i => 3 - (intOf i).toNat)
 case atStart => exact ⟨1, by omega, by omega, rfl, rfl, rfl, fun j h1 h2 => by omega⟩
 case round =>
  obtain ⟨k, hk1, hk2, rfl, rfl, rfl, HK⟩ := hrel
  by_cases hlt : k < 3
  ·obtain ⟨a, ha⟩ : ∃ a, a = (if k = 1 then 128 else 128 : Nat) := ⟨_, rfl⟩
   obtain ⟨b, hb⟩ : ∃ b, b = (if k = 1 then 191 else 191 : Nat) := ⟨_, rfl⟩
   have hi := inB_oct l k a b
   have HN : Hid (inB l k a b = false → rl l = 0) := fun h => rl_no HL.out (by omega) hk1 hlt (by rw [← ha, ← hb]; exact h)
   have HY : Hid (inB l k a b = true → okN l 128 191 (k + 1)) := fun h => okN_step HK.out (by rw [← ha, ← hb]; exact h)
   have HI := h_ hi
   have HC := h_ (HO.out k)
   rw [← ha, ← hb]
   clear ha hb hi
   obtain ⟨c, hc⟩ : ∃ c, c = octN l k := ⟨_, rfl⟩
   rw [← hc] at HI HC
   clear hc
   have ea : (if k + 1 = 1 then 128 else 128 : Nat) = 128 := by rw [if_neg (by omega)]
   have eb : (if k + 1 = 1 then 191 else 191 : Nat) = 191 := by rw [if_neg (by omega)]
   have HEA := h_ ea
   have HEB := h_ eb
   clear ea eb
   by_cases hca : c < (a : Int)
   ·go_wp2_with fail
    refine (HC.out _).mono ?_
    rintro e w' ⟨rfl, rfl⟩
    go_wp2
    go_ret
    exact ⟨by rw [HN.out (by rw [HI.out]; simp; omega)]; rfl, rfl⟩
   ·by_cases hcb : (b : Int) < c
    ·go_wp2_with fail
     refine (HC.out _).mono ?_
     rintro e w' ⟨rfl, rfl⟩
     go_wp2
     go_ret
     exact ⟨by rw [HN.out (by rw [HI.out]; simp; omega)]; rfl, rfl⟩
    ·go_wp2_with fail
     refine (HC.out _).mono ?_
     rintro e w' ⟨rfl, rfl⟩
     go_wp2
     go_round
     case rel => exact ⟨k + 1, by omega, by omega, by go_num, by rw [HEA.out]; rfl, by rw [HEB.out]; rfl, HY.out (by rw [HI.out]; simp; omega)⟩
     case measure => simp [intOf]; omega
  ·obtain rfl : k = 3 := by omega
   have HR := h_ (rl_yes HL.out (by omega) HK.out)
   go_wp2
   go_ret
   exact ⟨by rw [HR.out]; rfl, rfl⟩

theorem rune1_c5 (s : ByteArray) (l : List UInt8) (w : World) (hl : l = s.data.toList) (hL : lead (bt l 0) = (4, 144, 191)) (h1 : octN l 0 = 240) :
  Calls Tryz.prog 85 #[.string s] w fun e w' => e = .returned (.int .i64 (rl l)) ∧ w = w' := by
 have HO : Hid (∀ (i : Nat) (w : World), Calls Tryz.prog 110 #[.string s, .int .i64 i] w fun e w' => e = .returned (.int .i64 (octN l i)) ∧ w = w') := fun i w => hl ▸ refOctet_any s i w
 have HO0 := HO.out 0
 have HL := h_ hL
 clear hl hL
 rw [h1] at HO0
 clear h1
 have HZ := h_ HO0
 clear HO0
 go_enter Tryz.func85, Tryz.ntmps85
 go_wp2_with fail
 refine (HZ.out _).mono ?_
 rintro e w' ⟨rfl, rfl⟩
 go_wp2
 go_loop [5, 6, 7] (fun a b i => ∃ k : Nat, 1 ≤ k ∧ k ≤ 4 ∧ i = .int .i64 k ∧ a = .int .i64 ((if k = 1 then 144 else 128 : Nat) : Int) ∧ b = .int .i64 ((if k = 1 then 191 else 191 : Nat) : Int) ∧ Hid (okN l 144 191 k)) (fun _ _ i => 4 - (intOf i).toNat)
 case atStart => exact ⟨1, by omega, by omega, rfl, rfl, rfl, fun j h1 h2 => by omega⟩
 case round =>
  obtain ⟨k, hk1, hk2, rfl, rfl, rfl, HK⟩ := hrel
  by_cases hlt : k < 4
  ·obtain ⟨a, ha⟩ : ∃ a, a = (if k = 1 then 144 else 128 : Nat) := ⟨_, rfl⟩
   obtain ⟨b, hb⟩ : ∃ b, b = (if k = 1 then 191 else 191 : Nat) := ⟨_, rfl⟩
   have hi := inB_oct l k a b
   have HN : Hid (inB l k a b = false → rl l = 0) := fun h => rl_no HL.out (by omega) hk1 hlt (by rw [← ha, ← hb]; exact h)
   have HY : Hid (inB l k a b = true → okN l 144 191 (k + 1)) := fun h => okN_step HK.out (by rw [← ha, ← hb]; exact h)
   have HI := h_ hi
   have HC := h_ (HO.out k)
   rw [← ha, ← hb]
   clear ha hb hi
   obtain ⟨c, hc⟩ : ∃ c, c = octN l k := ⟨_, rfl⟩
   rw [← hc] at HI HC
   clear hc
   have ea : (if k + 1 = 1 then 144 else 128 : Nat) = 128 := by rw [if_neg (by omega)]
   have eb : (if k + 1 = 1 then 191 else 191 : Nat) = 191 := by rw [if_neg (by omega)]
   have HEA := h_ ea
   have HEB := h_ eb
   clear ea eb
   by_cases hca : c < (a : Int)
   ·go_wp2_with fail
    refine (HC.out _).mono ?_
    rintro e w' ⟨rfl, rfl⟩
    go_wp2
    go_ret
    exact ⟨by rw [HN.out (by rw [HI.out]; simp; omega)]; rfl, rfl⟩
   ·by_cases hcb : (b : Int) < c
    ·go_wp2_with fail
     refine (HC.out _).mono ?_
     rintro e w' ⟨rfl, rfl⟩
     go_wp2
     go_ret
     exact ⟨by rw [HN.out (by rw [HI.out]; simp; omega)]; rfl, rfl⟩
    ·go_wp2_with fail
     refine (HC.out _).mono ?_
     rintro e w' ⟨rfl, rfl⟩
     go_wp2
     go_round
     case rel => exact ⟨k + 1, by omega, by omega, by go_num, by rw [HEA.out]; rfl, by rw [HEB.out]; rfl, HY.out (by rw [HI.out]; simp; omega)⟩
     case measure => simp [intOf]; omega
  ·obtain rfl : k = 4 := by omega
   have HR := h_ (rl_yes HL.out (by omega) HK.out)
   go_wp2
   go_ret
   exact ⟨by rw [HR.out]; rfl, rfl⟩

theorem rune1_c6 (s : ByteArray) (l : List UInt8) (w : World) (hl : l = s.data.toList) (hL : lead (bt l 0) = (4, 128, 143)) (h1 : octN l 0 = 244) :
  Calls Tryz.prog 85 #[.string s] w fun e w' => e = .returned (.int .i64 (rl l)) ∧ w = w' := by
 have HO : Hid (∀ (i : Nat) (w : World), Calls Tryz.prog 110 #[.string s, .int .i64 i] w fun e w' => e = .returned (.int .i64 (octN l i)) ∧ w = w') := fun i w => hl ▸ refOctet_any s i w
 have HO0 := HO.out 0
 have HL := h_ hL
 clear hl hL
 rw [h1] at HO0
 clear h1
 have HZ := h_ HO0
 clear HO0
 go_enter Tryz.func85, Tryz.ntmps85
 go_wp2_with fail
 refine (HZ.out _).mono ?_
 rintro e w' ⟨rfl, rfl⟩
 go_wp2
 go_loop [5, 6, 7] (fun a b i => ∃ k : Nat, 1 ≤ k ∧ k ≤ 4 ∧ i = .int .i64 k ∧ a = .int .i64 ((if k = 1 then 128 else 128 : Nat) : Int) ∧ b = .int .i64 ((if k = 1 then 143 else 191 : Nat) : Int) ∧ Hid (okN l 128 143 k)) (fun _ _ i => 4 - (intOf i).toNat)
 case atStart => exact ⟨1, by omega, by omega, rfl, rfl, rfl, fun j h1 h2 => by omega⟩
 case round =>
  obtain ⟨k, hk1, hk2, rfl, rfl, rfl, HK⟩ := hrel
  by_cases hlt : k < 4
  ·obtain ⟨a, ha⟩ : ∃ a, a = (if k = 1 then 128 else 128 : Nat) := ⟨_, rfl⟩
   obtain ⟨b, hb⟩ : ∃ b, b = (if k = 1 then 143 else 191 : Nat) := ⟨_, rfl⟩
   have hi := inB_oct l k a b
   have HN : Hid (inB l k a b = false → rl l = 0) := fun h => rl_no HL.out (by omega) hk1 hlt (by rw [← ha, ← hb]; exact h)
   have HY : Hid (inB l k a b = true → okN l 128 143 (k + 1)) := fun h => okN_step HK.out (by rw [← ha, ← hb]; exact h)
   have HI := h_ hi
   have HC := h_ (HO.out k)
   rw [← ha, ← hb]
   clear ha hb hi
   obtain ⟨c, hc⟩ : ∃ c, c = octN l k := ⟨_, rfl⟩
   rw [← hc] at HI HC
   clear hc
   have ea : (if k + 1 = 1 then 128 else 128 : Nat) = 128 := by rw [if_neg (by omega)]
   have eb : (if k + 1 = 1 then 143 else 191 : Nat) = 191 := by rw [if_neg (by omega)]
   have HEA := h_ ea
   have HEB := h_ eb
   clear ea eb
   by_cases hca : c < (a : Int)
   ·go_wp2_with fail
    refine (HC.out _).mono ?_
    rintro e w' ⟨rfl, rfl⟩
    go_wp2
    go_ret
    exact ⟨by rw [HN.out (by rw [HI.out]; simp; omega)]; rfl, rfl⟩
   ·by_cases hcb : (b : Int) < c
    ·go_wp2_with fail
     refine (HC.out _).mono ?_
     rintro e w' ⟨rfl, rfl⟩
     go_wp2
     go_ret
     exact ⟨by rw [HN.out (by rw [HI.out]; simp; omega)]; rfl, rfl⟩
    ·go_wp2_with fail
     refine (HC.out _).mono ?_
     rintro e w' ⟨rfl, rfl⟩
     go_wp2
     go_round
     case rel => exact ⟨k + 1, by omega, by omega, by go_num, by rw [HEA.out]; rfl, by rw [HEB.out]; rfl, HY.out (by rw [HI.out]; simp; omega)⟩
     case measure => simp [intOf]; omega
  ·obtain rfl : k = 4 := by omega
   have HR := h_ (rl_yes HL.out (by omega) HK.out)
   go_wp2
   go_ret
   exact ⟨by rw [HR.out]; rfl, rfl⟩

theorem rune1_c7 (s : ByteArray) (l : List UInt8) (w : World) (hl : l = s.data.toList) (hL : lead (bt l 0) = (4, 128, 191)) (h1 : 241 ≤ octN l 0) (h2 : octN l 0 ≤ 243) :
  Calls Tryz.prog 85 #[.string s] w fun e w' => e = .returned (.int .i64 (rl l)) ∧ w = w' := by
 have HO : Hid (∀ (i : Nat) (w : World), Calls Tryz.prog 110 #[.string s, .int .i64 i] w fun e w' => e = .returned (.int .i64 (octN l i)) ∧ w = w') := fun i w => hl ▸ refOctet_any s i w
 have HO0 := HO.out 0
 have HL := h_ hL
 clear hl hL
 generalize octN l 0 = at0 at *
 have d224 : (at0 == 224) = false := by simp; omega
 have d237 : (at0 == 237) = false := by simp; omega
 have d240 : (at0 == 240) = false := by simp; omega
 have d244 : (at0 == 244) = false := by simp; omega
 have HZ := h_ HO0
 clear HO0
 go_enter Tryz.func85, Tryz.ntmps85
 go_wp2_with fail
 refine (HZ.out _).mono ?_
 rintro e w' ⟨rfl, rfl⟩
 go_wp2
 go_loop [5, 6, 7] (fun a b i => ∃ k : Nat, 1 ≤ k ∧ k ≤ 4 ∧ i = .int .i64 k ∧ a = .int .i64 ((if k = 1 then 128 else 128 : Nat) : Int) ∧ b = .int .i64 ((if k = 1 then 191 else 191 : Nat) : Int) ∧ Hid (okN l 128 191 k)) (fun _ _ i => 4 - (intOf i).toNat)
 case atStart => exact ⟨1, by omega, by omega, rfl, rfl, rfl, fun j h1 h2 => by omega⟩
 case round =>
  obtain ⟨k, hk1, hk2, rfl, rfl, rfl, HK⟩ := hrel
  by_cases hlt : k < 4
  ·obtain ⟨a, ha⟩ : ∃ a, a = (if k = 1 then 128 else 128 : Nat) := ⟨_, rfl⟩
   obtain ⟨b, hb⟩ : ∃ b, b = (if k = 1 then 191 else 191 : Nat) := ⟨_, rfl⟩
   have hi := inB_oct l k a b
   have HN : Hid (inB l k a b = false → rl l = 0) := fun h => rl_no HL.out (by omega) hk1 hlt (by rw [← ha, ← hb]; exact h)
   have HY : Hid (inB l k a b = true → okN l 128 191 (k + 1)) := fun h => okN_step HK.out (by rw [← ha, ← hb]; exact h)
   have HI := h_ hi
   have HC := h_ (HO.out k)
   rw [← ha, ← hb]
   clear ha hb hi
   obtain ⟨c, hc⟩ : ∃ c, c = octN l k := ⟨_, rfl⟩
   rw [← hc] at HI HC
   clear hc
   have ea : (if k + 1 = 1 then 128 else 128 : Nat) = 128 := by rw [if_neg (by omega)]
   have eb : (if k + 1 = 1 then 191 else 191 : Nat) = 191 := by rw [if_neg (by omega)]
   have HEA := h_ ea
   have HEB := h_ eb
   clear ea eb
   by_cases hca : c < (a : Int)
   ·go_wp2_with fail
    refine (HC.out _).mono ?_
    rintro e w' ⟨rfl, rfl⟩
    go_wp2
    go_ret
    exact ⟨by rw [HN.out (by rw [HI.out]; simp; omega)]; rfl, rfl⟩
   ·by_cases hcb : (b : Int) < c
    ·go_wp2_with fail
     refine (HC.out _).mono ?_
     rintro e w' ⟨rfl, rfl⟩
     go_wp2
     go_ret
     exact ⟨by rw [HN.out (by rw [HI.out]; simp; omega)]; rfl, rfl⟩
    ·go_wp2_with fail
     refine (HC.out _).mono ?_
     rintro e w' ⟨rfl, rfl⟩
     go_wp2
     go_round
     case rel => exact ⟨k + 1, by omega, by omega, by go_num, by rw [HEA.out]; rfl, by rw [HEB.out]; rfl, HY.out (by rw [HI.out]; simp; omega)⟩
     case measure => simp [intOf]; omega
  ·obtain rfl : k = 4 := by omega
   have HR := h_ (rl_yes HL.out (by omega) HK.out)
   go_wp2
   go_ret
   exact ⟨by rw [HR.out]; rfl, rfl⟩

theorem rune1_c0 (s : ByteArray) (l : List UInt8) (w : World) (hl : l = s.data.toList) (hr : rl l = 1) (h1 : octN l 0 ≤ 127) :
  Calls Tryz.prog 85 #[.string s] w fun e w' => e = .returned (.int .i64 (rl l)) ∧ w = w' := by
 have HO : Hid (∀ (i : Nat) (w : World), Calls Tryz.prog 110 #[.string s, .int .i64 i] w fun e w' => e = .returned (.int .i64 (octN l i)) ∧ w = w') := fun i w => hl ▸ refOctet_any s i w
 have HO0 := HO.out 0
 rw [hr]
 clear hl hr
 generalize octN l 0 = at0 at *
 have d224 : (at0 == 224) = false := by simp; omega
 have d237 : (at0 == 237) = false := by simp; omega
 have d240 : (at0 == 240) = false := by simp; omega
 have d244 : (at0 == 244) = false := by simp; omega
 have HZ := h_ HO0
 clear HO0
 go_enter Tryz.func85, Tryz.ntmps85
 go_wp2_with fail
 refine (HZ.out _).mono ?_
 rintro e w' ⟨rfl, rfl⟩
 go_wp2
 go_loop [7] (fun i => i = .int .i64 1) (fun i => (intOf i).toNat)
 case atStart => rfl
 case round =>
  subst hrel
  go_wp2
  go_ret
  exact ⟨rfl, rfl⟩

theorem rune1_c8 (s : ByteArray) (l : List UInt8) (w : World) (hl : l = s.data.toList) (hr : rl l = 0) (h1 : (127 < octN l 0 ∧ octN l 0 < 194) ∨ 244 < octN l 0) :
  Calls Tryz.prog 85 #[.string s] w fun e w' => e = .returned (.int .i64 (rl l)) ∧ w = w' := by
 have HO : Hid (∀ (i : Nat) (w : World), Calls Tryz.prog 110 #[.string s, .int .i64 i] w fun e w' => e = .returned (.int .i64 (octN l i)) ∧ w = w') := fun i w => hl ▸ refOctet_any s i w
 have HO0 := HO.out 0
 rw [hr]
 clear hl hr
 generalize octN l 0 = at0 at *
 have d224 : (at0 == 224) = false := by simp; omega
 have d237 : (at0 == 237) = false := by simp; omega
 have d240 : (at0 == 240) = false := by simp; omega
 have d244 : (at0 == 244) = false := by simp; omega
 have HZ := h_ HO0
 clear HO0
 rcases h1 with ⟨h1, h2⟩ | h1
 all_goals
  go_enter Tryz.func85, Tryz.ntmps85
  go_wp2_with fail
  refine (HZ.out _).mono ?_
  rintro e w' ⟨rfl, rfl⟩
  go_wp2
  go_ret
  exact ⟨rfl, rfl⟩

theorem rl_one {l : List UInt8} (h : bt l 0 ≤ 127) : rl l = 1 := by
 unfold rl lead
 rw [if_pos h]
 rfl

theorem rl_none {l : List UInt8} (h : (127 < bt l 0 ∧ bt l 0 < 194) ∨ 244 < bt l 0) : rl l = 0 := by
 have e : lead (bt l 0) = (0, 0, 0) := by
  unfold lead
  rw [if_neg (by omega), if_neg (by omega), if_neg (by omega), if_neg (by omega), if_neg (by omega), if_neg (by omega), if_neg (by omega), if_neg (by omega)]
 unfold rl
 rw [e]
 rfl

theorem rune1_any (s : ByteArray) (w : World) :
  Calls Tryz.prog 85 #[.string s] w fun e w' => e = .returned (.int .i64 (rl s.data.toList)) ∧ w = w' := by
 obtain ⟨l, hl⟩ : ∃ l, l = s.data.toList := ⟨_, rfl⟩
 rw [← hl]
 by_cases hne : 0 < l.length
 ·have e0 : octN l 0 = (bt l 0 : Int) := if_pos hne
  have hb := bt_lt l 0
  by_cases a1 : bt l 0 ≤ 127
  ·exact rune1_c0 s l w hl (rl_one a1) (by omega)
  by_cases a2 : bt l 0 < 194
  ·exact rune1_c8 s l w hl (rl_none (by omega)) (by omega)
  by_cases a3 : bt l 0 ≤ 223
  ·exact rune1_c1 s l w hl (by unfold lead; rw [if_neg (by omega), if_pos (by omega)]) (by omega) (by omega)
  by_cases a4 : bt l 0 = 224
  ·exact rune1_c2 s l w hl (by unfold lead; rw [if_neg (by omega), if_neg (by omega), if_pos (by omega)]) (by omega)
  by_cases a5 : bt l 0 = 237
  ·exact rune1_c3 s l w hl (by unfold lead; rw [if_neg (by omega), if_neg (by omega), if_neg (by omega), if_pos (by omega)]) (by omega)
  by_cases a6 : bt l 0 ≤ 239
  ·exact rune1_c4 s l w hl (by unfold lead; rw [if_neg (by omega), if_neg (by omega), if_neg (by omega), if_neg (by omega), if_pos (by omega)]) (by omega) (by omega) (by omega)
  by_cases a7 : bt l 0 = 240
  ·exact rune1_c5 s l w hl (by unfold lead; rw [if_neg (by omega), if_neg (by omega), if_neg (by omega), if_neg (by omega), if_neg (by omega), if_pos (by omega)]) (by omega)
  by_cases a8 : bt l 0 = 244
  ·exact rune1_c6 s l w hl (by unfold lead; rw [if_neg (by omega), if_neg (by omega), if_neg (by omega), if_neg (by omega), if_neg (by omega), if_neg (by omega), if_pos (by omega)]) (by omega)
  by_cases a9 : bt l 0 ≤ 243
  ·exact rune1_c7 s l w hl (by unfold lead; rw [if_neg (by omega), if_neg (by omega), if_neg (by omega), if_neg (by omega), if_neg (by omega), if_neg (by omega), if_neg (by omega), if_pos (by omega)]) (by omega) (by omega)
  ·exact rune1_c8 s l w hl (rl_none (by omega)) (by omega)
 ·have e0 : octN l 0 = -1 := if_neg hne
  obtain rfl : l = [] := List.eq_nil_of_length_eq_zero (by omega)
  exact rune1_c0 s [] w hl (rl_one (by simp [bt])) (by rw [e0]; decide)


set_option maxRecDepth 100000 in
theorem refRunes_any (s : ByteArray) (w : World) (hs : s.size ≤ 140737488355328) :
  Calls Tryz.prog 44 #[.string s] w fun e w' => e = .returned (.tuple #[.int .i64 (runesL s.data.toList).1, .bool (runesL s.data.toList).2]) ∧ w = w' := by
 obtain ⟨l, hl⟩ : ∃ l, l = s.data.toList := ⟨_, rfl⟩
 have hlen : l.length = s.size := by rw [hl]; exact Array.length_toList
 have hbd := runesL_len l
 rw [← hl]
 have HLEN := h_ hlen
 have HLL := h_ hl
 have hl9 : l.length ≤ 140737488355328 := by omega
 clear hlen hl
 go_enter Tryz.func44, Tryz.ntmps44
 go_wp2
 go_loop [0, 4, 5] (fun t m f => ∃ (pos n : Nat) (ok : Bool) (r : ByteArray), t = .string r ∧ m = .int .i64 n ∧ f = .bool ok ∧ Hid (r.data.toList = l.drop pos ∧ RunesI l pos n ok)) (fun t _ _ => match t with | .string r => r.size | _ => 0)
 case atStart => exact ⟨0, 0, true, s, rfl, rfl, rfl, by rw [← HLL.out]; rfl, by refine ⟨Nat.zero_le _, by simp, by simp⟩⟩
 case round =>
  obtain ⟨pos, n, ok, r, rfl, rfl, rfl, HI⟩ := hrel
  have hrl : r.size = l.length - pos := by
   have h1 : r.data.toList.length = r.size := Array.length_toList
   rw [← h1, HI.out.1, List.length_drop]
  have hpos := HI.out.2.1
  have hn : n ≤ l.length := by
   have := HI.out.2.2.1
   omega
  by_cases hp : pos < l.length
  ·have hne : l.drop pos ≠ [] := by
     rw [ne_eq, List.drop_eq_nil_iff]
     omega
   have hle := rl_le _ hne
   rw [List.length_drop] at hle
   have HN := h_ (HI.out.2.step hp hle)
   have HC : Hid (∀ w, Calls Tryz.prog 85 #[.string r] w fun e w' => e = .returned (.int .i64 (rl (l.drop pos))) ∧ w = w') := by
    intro w
    have h := rune1_any r w
    rw [HI.out.1] at h
    exact h
   obtain ⟨q, hq⟩ : ∃ q, q = rl (l.drop pos) := ⟨_, rfl⟩
   rw [← hq] at HN HC hle
   clear hq hne
   have hr0 : (0 : Int) < (r.size : Int) := by omega
   have HT := h_ (fun k => tail_list r k)
   have HRL := h_ hrl
   have hr9 : r.size ≤ 140737488355328 := by omega
   by_cases hq0 : q = 0
   ·subst hq0
    have hsz : 1 ≤ r.size := by omega
    clear hrl hle
    go_wp2_with fail
    refine (HC.out _).mono ?_
    rintro e w' ⟨rfl, rfl⟩
    go_wp2
    go_round
    case rel => exact ⟨pos + 1, n + 1, false, r.extract 1 r.size, by rfl, by go_num, by rfl, by rw [HT.out 1, HI.out.1, List.drop_drop], by simpa using HN.out⟩
    case measure => simp; omega
   ·have hsz : q ≤ r.size := by omega
    have hq1 : ((q : Int) == 0) = false := by simp; omega
    clear hrl
    go_wp2_with fail
    refine (HC.out _).mono ?_
    rintro e w' ⟨rfl, rfl⟩
    go_wp2
    go_round
    case rel =>
     refine ⟨pos + q, n + 1, ok, r.extract q r.size, by rfl, by go_num, by rfl, by rw [HT.out q, HI.out.1, List.drop_drop], ?_⟩
     have h1 : max 1 q = q := by omega
     have h2 := HN.out
     rw [h1] at h2
     simpa [hq0] using h2
    case measure => simp; omega
  ·have hr0 : r.size = 0 := by omega
   clear hrl
   have HE : Hid (n = (runesL l).1 ∧ ok = (runesL l).2) := by
    have h1 := HI.out.2
    have h2 : l.drop pos = [] := by
     rw [List.drop_eq_nil_iff]
     omega
    rw [RunesI, h2] at h1
    simpa [Hid, runesL, runesF_nil] using h1.2
   go_wp2
   go_ret2
   exact ⟨by rw [HE.out.1, HE.out.2]; rfl, rfl⟩




set_option maxRecDepth 100000 in
theorem refHead_small (m : Nat) (n : Int) (w : World) (hm : m ≤ 7) (hn : 0 ≤ n) (h : n < 24) :
  Calls Tryz.prog 27 #[.int .i64 m, .int .u64 n] w (JoinP w (headB m n)) := by
 obtain ⟨k, rfl⟩ := Int.eq_ofNat_of_zero_le hn
 have e := byte_enc (32 * m + k) (by omega)
 have E : Hid (Value.int .u8 (32 * (m : Int) + (k : Int)) = encB (UInt8.ofNat (32 * m + k))) := by rw [← e]; simp [Hid]
 have HB := h_ (headB_small m k h)
 have hm' : (m : Int) ≤ 7 := by omega
 clear e
 go_enter Tryz.func27, Tryz.ntmps27
 go_wp2_with fail
 go_ret
 rw [E.out, HB.out]
 exact ⟨_, rfl, OwnV.lit w w.heap.size 5 #[encB (UInt8.ofNat (32 * m + k))] (Nat.le_refl _) (by simp [maxLen]), bR.alloc (Nat.le_refl _) _⟩

set_option maxRecDepth 100000 in
theorem refHead_wide (m : Nat) (n : Int) (w : World) (hm : m ≤ 7) (hn : U64 n) (h : ¬ n < 24) :
  Calls Tryz.prog 27 #[.int .i64 m, .int .u64 n] w (JoinP w (headB m n)) := by
 obtain ⟨W, hW, hx, hf⟩ := least_good n
 have HB := h_ (headB_wide m n h W hW)
 have HW := h_ hW
 have HF := h_ hf
 have HN := h_ hn
 have HX := h_ hx
 have HL := h_ (beB_length W n)
 have hm' : (m : Int) ≤ 7 := by omega
 have hc := isW_cases hx
 have hW8 : W = 1 ∨ W = 2 ∨ W = 4 ∨ W = 8 := by omega
 clear hW hx hf hn hc
 rcases hW8 with rfl | rfl | rfl | rfl
 ·have e := byte_enc (32 * m + 24 + 0) (by omega)
  have E : Hid (Value.int .u8 (32 * (m : Int) + 24) = encB (UInt8.ofNat (32 * m + 24 + lg 1))) := by
   rw [show lg 1 = 0 from rfl, ← e]
   simp only [Hid, Value.int.injEq, true_and]
   omega
  clear e
  go_enter Tryz.func27, Tryz.ntmps27
  go_wp2_with fail
  refine (refLeast_any _ _ HN.out).mono ?_
  rintro e w1 ⟨rfl, hb1⟩
  rw [HW.out]
  go_wp2_with fail
  refine (refPut_yes 1 n _ HX.out HN.out HF.out).mono ?_
  rintro e w2 ⟨v, rfl, ⟨a2, c2, rfl, hc2, hr2, _⟩, hb2⟩
  have B2 := h_ (below_on hb1 hb2)
  have HS := h_ (hr2.src.alloc (.cells #[.int .u8 (32 * (m : Int) + 24)] 5))
  have hob := OwnV.lit w2 w2.heap.size 5 #[.int .u8 (32 * (m : Int) + 24)] (Nat.le_refl _) (by simp [maxLen])
  have o1 := h_ (encB_one (beB 1 n))
  have hL1 : Hid (([.int .u8 (32 * (m : Int) + 24)] : List Value).length + ((beB 1 n).map encB).length ≤ maxLen) := by simp [Hid, maxLen, beB_length]
  have hL2 : Hid ((([.int .u8 (32 * (m : Int) + 24)] : List Value).length + ((beB 1 n).map encB).length) * 1 ≤ 140737488355328) := by simp [Hid, beB_length]
  clear hr2 hb1 hb2
  go_wp2_with fail
  go_loop [9, 10] (fun k i => (k = .int .u8 24 ∧ i = .int .i64 1)) (fun _ i => (intOf i).toNat)
  case atStart => exact ⟨rfl, rfl⟩
  case round =>
   obtain ⟨rfl, rfl⟩ := hrel
   ·go_wp2_with (at_builtin; refine wpList_app _ rfl _ _ 22 rfl w2.heap.size 5 (.int .u8 0) 1 Tryz.underlying22 info_u8 rfl _ _ rfl hob _ _ _ _ rfl (List.length_map _) HS.out o1.out hL1.out hL2.out (by simp) ?_; intro v' w3 hp)
    go_ret
    refine ⟨v', rfl, ?_, B2.out.trans (((bR.alloc (Nat.le_refl _) _).trans (hp.below hob (by simp))).mono B2.out.size)⟩
    have h1 := hp.1.base B2.out.size
    rw [HB.out, List.map_append, List.map_cons, List.map_nil, ← E.out]
    exact h1
 ·have e := byte_enc (32 * m + 24 + 1) (by omega)
  have E : Hid (Value.int .u8 (32 * (m : Int) + 25) = encB (UInt8.ofNat (32 * m + 24 + lg 2))) := by
   rw [show lg 2 = 1 from rfl, ← e]
   simp only [Hid, Value.int.injEq, true_and]
   omega
  clear e
  go_enter Tryz.func27, Tryz.ntmps27
  go_wp2_with fail
  refine (refLeast_any _ _ HN.out).mono ?_
  rintro e w1 ⟨rfl, hb1⟩
  rw [HW.out]
  go_wp2_with fail
  refine (refPut_yes 2 n _ HX.out HN.out HF.out).mono ?_
  rintro e w2 ⟨v, rfl, ⟨a2, c2, rfl, hc2, hr2, _⟩, hb2⟩
  have B2 := h_ (below_on hb1 hb2)
  have HS := h_ (hr2.src.alloc (.cells #[.int .u8 (32 * (m : Int) + 25)] 5))
  have hob := OwnV.lit w2 w2.heap.size 5 #[.int .u8 (32 * (m : Int) + 25)] (Nat.le_refl _) (by simp [maxLen])
  have o1 := h_ (encB_one (beB 2 n))
  have hL1 : Hid (([.int .u8 (32 * (m : Int) + 25)] : List Value).length + ((beB 2 n).map encB).length ≤ maxLen) := by simp [Hid, maxLen, beB_length]
  have hL2 : Hid ((([.int .u8 (32 * (m : Int) + 25)] : List Value).length + ((beB 2 n).map encB).length) * 1 ≤ 140737488355328) := by simp [Hid, beB_length]
  clear hr2 hb1 hb2
  go_wp2_with fail
  go_loop [9, 10] (fun k i => (k = .int .u8 24 ∧ i = .int .i64 2) ∨ (k = .int .u8 25 ∧ i = .int .i64 1)) (fun _ i => (intOf i).toNat)
  case atStart => exact .inl ⟨rfl, rfl⟩
  case round =>
   rcases hrel with ⟨rfl, rfl⟩ | ⟨rfl, rfl⟩
   ·go_wp2
    go_round
    case rel => exact .inr (⟨rfl, rfl⟩)
    case measure => simp [intOf]
   ·go_wp2_with (at_builtin; refine wpList_app _ rfl _ _ 22 rfl w2.heap.size 5 (.int .u8 0) 1 Tryz.underlying22 info_u8 rfl _ _ rfl hob _ _ _ _ rfl (List.length_map _) HS.out o1.out hL1.out hL2.out (by simp) ?_; intro v' w3 hp)
    go_ret
    refine ⟨v', rfl, ?_, B2.out.trans (((bR.alloc (Nat.le_refl _) _).trans (hp.below hob (by simp))).mono B2.out.size)⟩
    have h1 := hp.1.base B2.out.size
    rw [HB.out, List.map_append, List.map_cons, List.map_nil, ← E.out]
    exact h1
 ·have e := byte_enc (32 * m + 24 + 2) (by omega)
  have E : Hid (Value.int .u8 (32 * (m : Int) + 26) = encB (UInt8.ofNat (32 * m + 24 + lg 4))) := by
   rw [show lg 4 = 2 from rfl, ← e]
   simp only [Hid, Value.int.injEq, true_and]
   omega
  clear e
  go_enter Tryz.func27, Tryz.ntmps27
  go_wp2_with fail
  refine (refLeast_any _ _ HN.out).mono ?_
  rintro e w1 ⟨rfl, hb1⟩
  rw [HW.out]
  go_wp2_with fail
  refine (refPut_yes 4 n _ HX.out HN.out HF.out).mono ?_
  rintro e w2 ⟨v, rfl, ⟨a2, c2, rfl, hc2, hr2, _⟩, hb2⟩
  have B2 := h_ (below_on hb1 hb2)
  have HS := h_ (hr2.src.alloc (.cells #[.int .u8 (32 * (m : Int) + 26)] 5))
  have hob := OwnV.lit w2 w2.heap.size 5 #[.int .u8 (32 * (m : Int) + 26)] (Nat.le_refl _) (by simp [maxLen])
  have o1 := h_ (encB_one (beB 4 n))
  have hL1 : Hid (([.int .u8 (32 * (m : Int) + 26)] : List Value).length + ((beB 4 n).map encB).length ≤ maxLen) := by simp [Hid, maxLen, beB_length]
  have hL2 : Hid ((([.int .u8 (32 * (m : Int) + 26)] : List Value).length + ((beB 4 n).map encB).length) * 1 ≤ 140737488355328) := by simp [Hid, beB_length]
  clear hr2 hb1 hb2
  go_wp2_with fail
  go_loop [9, 10] (fun k i => (k = .int .u8 24 ∧ i = .int .i64 4) ∨ (k = .int .u8 25 ∧ i = .int .i64 2) ∨ (k = .int .u8 26 ∧ i = .int .i64 1)) (fun _ i => (intOf i).toNat)
  case atStart => exact .inl ⟨rfl, rfl⟩
  case round =>
   rcases hrel with ⟨rfl, rfl⟩ | ⟨rfl, rfl⟩ | ⟨rfl, rfl⟩
   ·go_wp2
    go_round
    case rel => exact .inr (.inl ⟨rfl, rfl⟩)
    case measure => simp [intOf]
   ·go_wp2
    go_round
    case rel => exact .inr (.inr (⟨rfl, rfl⟩))
    case measure => simp [intOf]
   ·go_wp2_with (at_builtin; refine wpList_app _ rfl _ _ 22 rfl w2.heap.size 5 (.int .u8 0) 1 Tryz.underlying22 info_u8 rfl _ _ rfl hob _ _ _ _ rfl (List.length_map _) HS.out o1.out hL1.out hL2.out (by simp) ?_; intro v' w3 hp)
    go_ret
    refine ⟨v', rfl, ?_, B2.out.trans (((bR.alloc (Nat.le_refl _) _).trans (hp.below hob (by simp))).mono B2.out.size)⟩
    have h1 := hp.1.base B2.out.size
    rw [HB.out, List.map_append, List.map_cons, List.map_nil, ← E.out]
    exact h1
 ·have e := byte_enc (32 * m + 24 + 3) (by omega)
  have E : Hid (Value.int .u8 (32 * (m : Int) + 27) = encB (UInt8.ofNat (32 * m + 24 + lg 8))) := by
   rw [show lg 8 = 3 from rfl, ← e]
   simp only [Hid, Value.int.injEq, true_and]
   omega
  clear e
  go_enter Tryz.func27, Tryz.ntmps27
  go_wp2_with fail
  refine (refLeast_any _ _ HN.out).mono ?_
  rintro e w1 ⟨rfl, hb1⟩
  rw [HW.out]
  go_wp2_with fail
  refine (refPut_yes 8 n _ HX.out HN.out HF.out).mono ?_
  rintro e w2 ⟨v, rfl, ⟨a2, c2, rfl, hc2, hr2, _⟩, hb2⟩
  have B2 := h_ (below_on hb1 hb2)
  have HS := h_ (hr2.src.alloc (.cells #[.int .u8 (32 * (m : Int) + 27)] 5))
  have hob := OwnV.lit w2 w2.heap.size 5 #[.int .u8 (32 * (m : Int) + 27)] (Nat.le_refl _) (by simp [maxLen])
  have o1 := h_ (encB_one (beB 8 n))
  have hL1 : Hid (([.int .u8 (32 * (m : Int) + 27)] : List Value).length + ((beB 8 n).map encB).length ≤ maxLen) := by simp [Hid, maxLen, beB_length]
  have hL2 : Hid ((([.int .u8 (32 * (m : Int) + 27)] : List Value).length + ((beB 8 n).map encB).length) * 1 ≤ 140737488355328) := by simp [Hid, beB_length]
  clear hr2 hb1 hb2
  go_wp2_with fail
  go_loop [9, 10] (fun k i => (k = .int .u8 24 ∧ i = .int .i64 8) ∨ (k = .int .u8 25 ∧ i = .int .i64 4) ∨ (k = .int .u8 26 ∧ i = .int .i64 2) ∨ (k = .int .u8 27 ∧ i = .int .i64 1)) (fun _ i => (intOf i).toNat)
  case atStart => exact .inl ⟨rfl, rfl⟩
  case round =>
   rcases hrel with ⟨rfl, rfl⟩ | ⟨rfl, rfl⟩ | ⟨rfl, rfl⟩ | ⟨rfl, rfl⟩
   ·go_wp2
    go_round
    case rel => exact .inr (.inl ⟨rfl, rfl⟩)
    case measure => simp [intOf]
   ·go_wp2
    go_round
    case rel => exact .inr (.inr (.inl ⟨rfl, rfl⟩))
    case measure => simp [intOf]
   ·go_wp2
    go_round
    case rel => exact .inr (.inr (.inr (⟨rfl, rfl⟩)))
    case measure => simp [intOf]
   ·go_wp2_with (at_builtin; refine wpList_app _ rfl _ _ 22 rfl w2.heap.size 5 (.int .u8 0) 1 Tryz.underlying22 info_u8 rfl _ _ rfl hob _ _ _ _ rfl (List.length_map _) HS.out o1.out hL1.out hL2.out (by simp) ?_; intro v' w3 hp)
    go_ret
    refine ⟨v', rfl, ?_, B2.out.trans (((bR.alloc (Nat.le_refl _) _).trans (hp.below hob (by simp))).mono B2.out.size)⟩
    have h1 := hp.1.base B2.out.size
    rw [HB.out, List.map_append, List.map_cons, List.map_nil, ← E.out]
    exact h1

theorem refHead_any (m : Nat) (n : Int) (w : World) (hm : m ≤ 7) (hn : U64 n) :
  Calls Tryz.prog 27 #[.int .i64 m, .int .u64 n] w (JoinP w (headB m n)) := by
 by_cases h : n < 24
 ·exact refHead_small m n w hm hn.1 h
 ·exact refHead_wide m n w hm hn h





end Go.Proofs.YteldifnkeekafaaGreatDoor
