/- Joined texts. -/
import Derived.Test.YteldifnkeekafaaGreatDoorZJd
import Derived.Test.YteldifnkeekafaaGreatDoorZBv
import Derived.Test.YteldifnkeekafaaGreatDoorZBx
import Derived.Test.YteldifnkeekafaaGreatDoorZKv
import Derived.Lib.AppendStr
import Derived.Deep.RegionHeld3
import Derived.Test.YteldifnkeekafaaGreatDoorZJf
set_option maxHeartbeats 4000000
set_option linter.unusedSimpArgs false
namespace Go.Proofs.YteldifnkeekafaaGreatDoor
open Go.RowKit Go.Shelf

def octN (l : List UInt8) (i : Nat) : Int := if i < l.length then (bt l i : Int) else -1

theorem refOctet_any (s : ByteArray) (i : Nat) (w : World) :
  Calls Tryz.prog 110 #[.string s, .int .i64 i] w fun e w' => e = .returned (.int .i64 (octN s.data.toList i)) ∧ w = w' := by
 have hl : s.data.toList.length = s.size := Array.length_toList
 by_cases h : i < s.size
 ·have e1 : octN s.data.toList i = (s[i].toNat : Int) := by
    unfold octN
    rw [if_pos (by omega)]
    have := get_bt s 0 i (by omega)
    simp at this
    rw [← this, get_eq s i h]
  rw [e1]
  clear hl e1
  have b0 : (0 : Int) ≤ (s[i].toNat : Int) := by omega
  have b1 : (s[i].toNat : Int) ≤ 255 := by have := UInt8.toNat_lt s[i]; omega
  go_enter Tryz.func110, Tryz.ntmps110
  go_wp2
  go_ret
  exact ⟨rfl, rfl⟩
 ·have e1 : octN s.data.toList i = -1 := by
    unfold octN
    rw [if_neg (by omega)]
  rw [e1]
  clear hl e1
  go_enter Tryz.func110, Tryz.ntmps110
  go_wp2
  go_ret
  exact ⟨rfl, rfl⟩

def okN (l : List UInt8) (lo hi : Nat) (k : Nat) : Prop := ∀ j, 1 ≤ j → j < k → inB l j (if j = 1 then lo else 128) (if j = 1 then hi else 191) = true

theorem okN_step {l : List UInt8} {lo hi k : Nat} (h : okN l lo hi k) (hk : inB l k (if k = 1 then lo else 128) (if k = 1 then hi else 191) = true) : okN l lo hi (k + 1) := by
 intro j h1 h2
 by_cases e : j = k
 ·subst e
  exact hk
 ·exact h j h1 (by omega)

theorem rl_yes {l : List UInt8} {n lo hi : Nat} (hL : lead (bt l 0) = (n, lo, hi)) (hn : n = 2 ∨ n = 3 ∨ n = 4) (h : okN l lo hi n) : rl l = n := by
 unfold rl
 rw [hL]
 have h1 := h 1 (by omega) (by omega)
 simp only [if_true] at h1
 rcases hn with rfl | rfl | rfl
 ·simp [h1]
 ·have h2 := h 2 (by omega) (by omega)
  simp at h2
  simp [h1, h2]
 ·have h2 := h 2 (by omega) (by omega)
  have h3 := h 3 (by omega) (by omega)
  simp at h2 h3
  simp [h1, h2, h3]

theorem rl_no {l : List UInt8} {n lo hi k : Nat} (hL : lead (bt l 0) = (n, lo, hi)) (hn : n = 2 ∨ n = 3 ∨ n = 4) (h1 : 1 ≤ k) (hk : k < n) (h : inB l k (if k = 1 then lo else 128) (if k = 1 then hi else 191) = false) : rl l = 0 := by
 unfold rl
 rw [hL]
 have : k = 1 ∨ k = 2 ∨ k = 3 := by omega
 rcases this with rfl | rfl | rfl
 ·simp at h
  rcases hn with rfl | rfl | rfl <;> simp [h]
 ·simp at h
  rcases hn with rfl | rfl | rfl
  ·omega
  ·simp [h]
  ·simp [h]
 ·simp at h
  rcases hn with rfl | rfl | rfl
  ·omega
  ·omega
  ·simp [h]

theorem inB_oct (l : List UInt8) (i lo hi : Nat) : inB l i lo hi = (decide ((lo : Int) ≤ octN l i) && decide (octN l i ≤ (hi : Int))) := by
 unfold inB octN
 by_cases h : i < l.length
 ·rw [if_pos h]
  simp [h]
 ·rw [if_neg h]
  simp [h]
  omega

theorem rune1_c1 (s : ByteArray) (l : List UInt8) (w : World) (hl : l = s.data.toList) (hL : lead (bt l 0) = (2, 128, 191)) (h1 : 194 ≤ octN l 0) (h2 : octN l 0 ≤ 223) :
  Calls Tryz.prog 85 #[.string s] w fun e w' => e = .returned (.int .i64 (rl l)) ∧ w = w' := by
 have HO : Hid (∀ (i : Nat) (w : World), Calls Tryz.prog 110 #[.string s, .int .i64 i] w fun e w' => e = .returned (.int .i64 (octN l i)) ∧ w = w') := fun i w => hl ▸ refOctet_any s i w
 have HO0 := HO.out 0
 have HL := h_ hL
 clear hl hL
 generalize octN l 0 = at0 at *
 have d224 : (at0 == 224) = false := by simp; omega
 have d237 : (at0 == 237) = false := by simp; omega
 have d240 : (at0 == 240) = false := by simp; omega
 have d244 : (at0 == 244) = false := by simp; omega
 have HZ := h_ HO0
 clear HO0
 go_enter Tryz.func85, Tryz.ntmps85
 go_wp2_with fail
 refine (HZ.out _).mono ?_
 rintro e w' ⟨rfl, rfl⟩
 go_wp2
 go_loop [5, 6, 7] (fun a b i => ∃ k : Nat, 1 ≤ k ∧ k ≤ 2 ∧ i = .int .i64 k ∧ a = .int .i64 ((if k = 1 then 128 else 128 : Nat) : Int) ∧ b = .int .i64 ((if k = 1 then 191 else 191 : Nat) : Int) ∧ Hid (okN l 128 191 k)) (fun _ _ i => 2 - (intOf i).toNat)
 case atStart => exact ⟨1, by omega, by omega, rfl, rfl, rfl, fun j h1 h2 => by omega⟩
 case round =>
  obtain ⟨k, hk1, hk2, rfl, rfl, rfl, HK⟩ := hrel
  by_cases hlt : k < 2
  ·obtain ⟨a, ha⟩ : ∃ a, a = (if k = 1 then 128 else 128 : Nat) := ⟨_, rfl⟩
   obtain ⟨b, hb⟩ : ∃ b, b = (if k = 1 then 191 else 191 : Nat) := ⟨_, rfl⟩
   have hi := inB_oct l k a b
   have HN : Hid (inB l k a b = false → rl l = 0) := fun h => rl_no HL.out (by omega) hk1 hlt (by rw [← ha, ← hb]; exact h)
   have HY : Hid (inB l k a b = true → okN l 128 191 (k + 1)) := fun h => okN_step HK.out (by rw [← ha, ← hb]; exact h)
   have HI := h_ hi
   have HC := h_ (HO.out k)
   rw [← ha, ← hb]
   clear ha hb hi
   obtain ⟨c, hc⟩ : ∃ c, c = octN l k := ⟨_, rfl⟩
   rw [← hc] at HI HC
   clear hc
   have ea : (if k + 1 = 1 then 128 else 128 : Nat) = 128 := by rw [if_neg (by omega)]
   have eb : (if k + 1 = 1 then 191 else 191 : Nat) = 191 := by rw [if_neg (by omega)]
   have HEA := h_ ea
   have HEB := h_ eb
   clear ea eb
   by_cases hca : c < (a : Int)
   ·go_wp2_with fail
    refine (HC.out _).mono ?_
    rintro e w' ⟨rfl, rfl⟩
    go_wp2
    go_ret
    exact ⟨by rw [HN.out (by rw [HI.out]; simp; omega)]; rfl, rfl⟩
   ·by_cases hcb : (b : Int) < c
    ·go_wp2_with fail
     refine (HC.out _).mono ?_
     rintro e w' ⟨rfl, rfl⟩
     go_wp2
     go_ret
     exact ⟨by rw [HN.out (by rw [HI.out]; simp; omega)]; rfl, rfl⟩
    ·go_wp2_with fail
     refine (HC.out _).mono ?_
     rintro e w' ⟨rfl, rfl⟩
     go_wp2
     go_round
     case rel => exact ⟨k + 1, by omega, by omega, by go_num, by rw [HEA.out]; rfl, by rw [HEB.out]; rfl, HY.out (by rw [HI.out]; simp; omega)⟩
     case measure => simp [intOf]; omega
  ·obtain rfl : k = 2 := by omega
   have HR := h_ (rl_yes HL.out (by omega) HK.out)
   go_wp2
   go_ret
   exact ⟨by rw [HR.out]; rfl, rfl⟩

theorem rune1_c2 (s : ByteArray) (l : List UInt8) (w : World) (hl : l = s.data.toList) (hL : lead (bt l 0) = (3, 160, 191)) (h1 : octN l 0 = 224) :
  Calls Tryz.prog 85 #[.string s] w fun e w' => e = .returned (.int .i64 (rl l)) ∧ w = w' := by
 have HO : Hid (∀ (i : Nat) (w : World), Calls Tryz.prog 110 #[.string s, .int .i64 i] w fun e w' => e = .returned (.int .i64 (octN l i)) ∧ w = w') := fun i w => hl ▸ refOctet_any s i w
 have HO0 := HO.out 0
 have HL := h_ hL
 clear hl hL
 rw [h1] at HO0
 clear h1
 have HZ := h_ HO0
 clear HO0
 go_enter Tryz.func85, Tryz.ntmps85
 go_wp2_with fail
 refine (HZ.out _).mono ?_
 rintro e w' ⟨rfl, rfl⟩
 go_wp2
 go_loop [5, 6, 7] (fun a b i => ∃ k : Nat, 1 ≤ k ∧ k ≤ 3 ∧ i = .int .i64 k ∧ a = .int .i64 ((if k = 1 then 160 else 128 : Nat) : Int) ∧ b = .int .i64 ((if k = 1 then 191 else 191 : Nat) : Int) ∧ Hid (okN l 160 191 k)) (fun _ _ i => 3 - (intOf i).toNat)
 case atStart => exact ⟨1, by omega, by omega, rfl, rfl, rfl, fun j h1 h2 => by omega⟩
 case round =>
  obtain ⟨k, hk1, hk2, rfl, rfl, rfl, HK⟩ := hrel
  by_cases hlt : k < 3
  ·obtain ⟨a, ha⟩ : ∃ a, a = (if k = 1 then 160 else 128 : Nat) := ⟨_, rfl⟩
   obtain ⟨b, hb⟩ : ∃ b, b = (if k = 1 then 191 else 191 : Nat) := ⟨_, rfl⟩
   have hi := inB_oct l k a b
   have HN : Hid (inB l k a b = false → rl l = 0) := fun h => rl_no HL.out (by omega) hk1 hlt (by rw [← ha, ← hb]; exact h)
   have HY : Hid (inB l k a b = true → okN l 160 191 (k + 1)) := fun h => okN_step HK.out (by rw [← ha, ← hb]; exact h)
   have HI := h_ hi
   have HC := h_ (HO.out k)
   rw [← ha, ← hb]
   clear ha hb hi
   obtain ⟨c, hc⟩ : ∃ c, c = octN l k := ⟨_, rfl⟩
   rw [← hc] at HI HC
   clear hc
   have ea : (if k + 1 = 1 then 160 else 128 : Nat) = 128 := by rw [if_neg (by omega)]
   have eb : (if k + 1 = 1 then 191 else 191 : Nat) = 191 := by rw [if_neg (by omega)]
   have HEA := h_ ea
   have HEB := h_ eb
   clear ea eb
   by_cases hca : c < (a : Int)
   ·go_wp2_with fail
    refine (HC.out _).mono ?_
    rintro e w' ⟨rfl, rfl⟩
    go_wp2
    go_ret
    exact ⟨by rw [HN.out (by rw [HI.out]; simp; omega)]; rfl, rfl⟩
   ·by_cases hcb : (b : Int) < c
    ·go_wp2_with fail
     refine (HC.out _).mono ?_
     rintro e w' ⟨rfl, rfl⟩
     go_wp2
     go_ret
     exact ⟨by rw [HN.out (by rw [HI.out]; simp; omega)]; rfl, rfl⟩
    ·go_wp2_with fail
     refine (HC.out _).mono ?_
     rintro e w' ⟨rfl, rfl⟩
     go_wp2
     go_round
     case rel => exact ⟨k + 1, by omega, by omega, by go_num, by rw [HEA.out]; rfl, by rw [HEB.out]; rfl, HY.out (by rw [HI.out]; simp; omega)⟩
     case measure => simp [intOf]; omega
  ·obtain rfl : k = 3 := by omega
   have HR := h_ (rl_yes HL.out (by omega) HK.out)
   go_wp2
   go_ret
   exact ⟨by rw [HR.out]; rfl, rfl⟩

theorem rune1_c3 (s : ByteArray) (l : List UInt8) (w : World) (hl : l = s.data.toList) (hL : lead (bt l 0) = (3, 128, 159)) (h1 : octN l 0 = 237) :
  Calls Tryz.prog 85 #[.string s] w fun e w' => e = .returned (.int .i64 (rl l)) ∧ w = w' := by
 have HO : Hid (∀ (i : Nat) (w : World), Calls Tryz.prog 110 #[.string s, .int .i64 i] w fun e w' => e = .returned (.int .i64 (octN l i)) ∧ w = w') := fun i w => hl ▸ refOctet_any s i w
 have HO0 := HO.out 0
 have HL := h_ hL
 clear hl hL
 rw [h1] at HO0
 clear h1
 have HZ := h_ HO0
 clear HO0
 go_enter Tryz.func85, Tryz.ntmps85
 go_wp2_with fail
 refine (HZ.out _).mono ?_
 rintro e w' ⟨rfl, rfl⟩
 go_wp2
 go_loop [5, 6, 7] (fun a b i => ∃ k : Nat, 1 ≤ k ∧ k ≤ 3 ∧ i = .int .i64 k ∧ a = .int .i64 ((if k = 1 then 128 else 128 : Nat) : Int) ∧ b = .int .i64 ((if k = 1 then 159 else 191 : Nat) : Int) ∧ Hid (okN l 128 159 k)) (fun _ _ i => 3 - (intOf i).toNat)
 case atStart => exact ⟨1, by omega, by omega, rfl, rfl, rfl, fun j h1 h2 => by omega⟩
 case round =>
  obtain ⟨k, hk1, hk2, rfl, rfl, rfl, HK⟩ := hrel
  by_cases hlt : k < 3
  ·obtain ⟨a, ha⟩ : ∃ a, a = (if k = 1 then 128 else 128 : Nat) := ⟨_, rfl⟩
   obtain ⟨b, hb⟩ : ∃ b, b = (if k = 1 then 159 else 191 : Nat) := ⟨_, rfl⟩
   have hi := inB_oct l k a b
   have HN : Hid (inB l k a b = false → rl l = 0) := fun h => rl_no HL.out (by omega) hk1 hlt (by rw [← ha, ← hb]; exact h)
   have HY : Hid (inB l k a b = true → okN l 128 159 (k + 1)) := fun h => okN_step HK.out (by rw [← ha, ← hb]; exact h)
   have HI := h_ hi
   have HC := h_ (HO.out k)
   rw [← ha, ← hb]
   clear ha hb hi
   obtain ⟨c, hc⟩ : ∃ c, c = octN l k := ⟨_, rfl⟩
   rw [← hc] at HI HC
   clear hc
   have ea : (if k + 1 = 1 then 128 else 128 : Nat) = 128 := by rw [if_neg (by omega)]
   have eb : (if k + 1 = 1 then 159 else 191 : Nat) = 191 := by rw [if_neg (by omega)]
   have HEA := h_ ea
   have HEB := h_ eb
   clear ea eb
   by_cases hca : c < (a : Int)
   ·go_wp2_with fail
    refine (HC.out _).mono ?_
    rintro e w' ⟨rfl, rfl⟩
    go_wp2
    go_ret
    exact ⟨by rw [HN.out (by rw [HI.out]; simp; omega)]; rfl, rfl⟩
   ·by_cases hcb : (b : Int) < c
    ·go_wp2_with fail
     refine (HC.out _).mono ?_
     rintro e w' ⟨rfl, rfl⟩
     go_wp2
     go_ret
     exact ⟨by rw [HN.out (by rw [HI.out]; simp; omega)]; rfl, rfl⟩
    ·go_wp2_with fail
     refine (HC.out _).mono ?_
     rintro e w' ⟨rfl, rfl⟩
     go_wp2
     go_round
     case rel => exact ⟨k + 1, by omega, by omega, by go_num, by rw [HEA.out]; rfl, by rw [HEB.out]; rfl, HY.out (by rw [HI.out]; simp; omega)⟩
     case measure => simp [intOf]; omega
  ·obtain rfl : k = 3 := by omega
   have HR := h_ (rl_yes HL.out (by omega) HK.out)
   go_wp2
   go_ret
   exact ⟨by rw [HR.out]; rfl, rfl⟩

theorem rune1_c4 (s : ByteArray) (l : List UInt8) (w : World) (hl : l = s.data.toList) (hL : lead (bt l 0) = (3, 128, 191)) (h1 : 225 ≤ octN l 0) (h2 : octN l 0 ≤ 239) (h3 : octN l 0 ≠ 237) :
  Calls Tryz.prog 85 #[.string s] w fun e w' => e = .returned (.int .i64 (rl l)) ∧ w = w' := by
 have HO : Hid (∀ (i : Nat) (w : World), Calls Tryz.prog 110 #[.string s, .int .i64 i] w fun e w' => e = .returned (.int .i64 (octN l i)) ∧ w = w') := fun i w => hl ▸ refOctet_any s i w
 have HO0 := HO.out 0
 have HL := h_ hL
 clear hl hL
 generalize octN l 0 = at0 at *
 have d224 : (at0 == 224) = false := by simp; omega
 have d237 : (at0 == 237) = false := by simp; omega
 have d240 : (at0 == 240) = false := by simp; omega
 have d244 : (at0 == 244) = false := by simp; omega
 have HZ := h_ HO0
 clear HO0
 go_enter Tryz.func85, Tryz.ntmps85
 go_wp2_with fail
 refine (HZ.out _).mono ?_
 rintro e w' ⟨rfl, rfl⟩
 go_wp2
 go_loop [5, 6, 7] (fun a b i => ∃ k : Nat, 1 ≤ k ∧ k ≤ 3 ∧ i = .int .i64 k ∧ a = .int .i64 ((if k = 1 then 128 else 128 : Nat) : Int) ∧ b = .int .i64 ((if k = 1 then 191 else 191 : Nat) : Int) ∧ Hid (okN l 128 191 k)) (fun _ _ i => 3 - (intOf i).toNat)
 case atStart => exact ⟨1, by omega, by omega, rfl, rfl, rfl, fun j h1 h2 => by omega⟩
 case round =>
  obtain ⟨k, hk1, hk2, rfl, rfl, rfl, HK⟩ := hrel
  by_cases hlt : k < 3
  ·obtain ⟨a, ha⟩ : ∃ a, a = (if k = 1 then 128 else 128 : Nat) := ⟨_, rfl⟩
   obtain ⟨b, hb⟩ : ∃ b, b = (if k = 1 then 191 else 191 : Nat) := ⟨_, rfl⟩
   have hi := inB_oct l k a b
   have HN : Hid (inB l k a b = false → rl l = 0) := fun h => rl_no HL.out (by omega) hk1 hlt (by rw [← ha, ← hb]; exact h)
   have HY : Hid (inB l k a b = true → okN l 128 191 (k + 1)) := fun h => okN_step HK.out (by rw [← ha, ← hb]; exact h)
   have HI := h_ hi
   have HC := h_ (HO.out k)
   rw [← ha, ← hb]
   clear ha hb hi
   obtain ⟨c, hc⟩ : ∃ c, c = octN l k := ⟨_, rfl⟩
   rw [← hc] at HI HC
   clear hc
   have ea : (if k + 1 = 1 then 128 else 128 : Nat) = 128 := by rw [if_neg (by omega)]
   have eb : (if k + 1 = 1 then 191 else 191 : Nat) = 191 := by rw [if_neg (by omega)]
   have HEA := h_ ea
   have HEB := h_ eb
   clear ea eb
   by_cases hca : c < (a : Int)
   ·go_wp2_with fail
    refine (HC.out _).mono ?_
    rintro e w' ⟨rfl, rfl⟩
    go_wp2
    go_ret
    exact ⟨by rw [HN.out (by rw [HI.out]; simp; omega)]; rfl, rfl⟩
   ·by_cases hcb : (b : Int) < c
    ·go_wp2_with fail
     refine (HC.out _).mono ?_
     rintro e w' ⟨rfl, rfl⟩
     go_wp2
     go_ret
     exact ⟨by rw [HN.out (by rw [HI.out]; simp; omega)]; rfl, rfl⟩
    ·go_wp2_with fail
     refine (HC.out _).mono ?_
     rintro e w' ⟨rfl, rfl⟩
     go_wp2
     go_round
     case rel => exact ⟨k + 1, by omega, by omega, by go_num, by rw [HEA.out]; rfl, by rw [HEB.out]; rfl, HY.out (by rw [HI.out]; simp; omega)⟩
     case measure => simp [intOf]; omega
  ·obtain rfl : k = 3 := by omega
   have HR := h_ (rl_yes HL.out (by omega) HK.out)
   go_wp2
   go_ret
   exact ⟨by rw [HR.out]; rfl, rfl⟩

theorem rune1_c5 (s : ByteArray) (l : List UInt8) (w : World) (hl : l = s.data.toList) (hL : lead (bt l 0) = (4, 144, 191)) (h1 : octN l 0 = 240) :
  Calls Tryz.prog 85 #[.string s] w fun e w' => e = .returned (.int .i64 (rl l)) ∧ w = w' := by
 have HO : Hid (∀ (i : Nat) (w : World), Calls Tryz.prog 110 #[.string s, .int .i64 i] w fun e w' => e = .returned (.int .i64 (octN l i)) ∧ w = w') := fun i w => hl ▸ refOctet_any s i w
 have HO0 := HO.out 0
 have HL := h_ hL
 clear hl hL
 rw [h1] at HO0
 clear h1
 have HZ := h_ HO0
 clear HO0
 go_enter Tryz.func85, Tryz.ntmps85
 go_wp2_with fail
 refine (HZ.out _).mono ?_
 rintro e w' ⟨rfl, rfl⟩
 go_wp2
 go_loop [5, 6, 7] (fun a b i => ∃ k : Nat, 1 ≤ k ∧ k ≤ 4 ∧ i = .int .i64 k ∧ a = .int .i64 ((if k = 1 then 144 else 128 : Nat) : Int) ∧ b = .int .i64 ((if k = 1 then 191 else 191 : Nat) : Int) ∧ Hid (okN l 144 191 k)) (fun _ _ i => 4 - (intOf i).toNat)
 case atStart => exact ⟨1, by omega, by omega, rfl, rfl, rfl, fun j h1 h2 => by omega⟩
 case round =>
  obtain ⟨k, hk1, hk2, rfl, rfl, rfl, HK⟩ := hrel
  by_cases hlt : k < 4
  ·obtain ⟨a, ha⟩ : ∃ a, a = (if k = 1 then 144 else 128 : Nat) := ⟨_, rfl⟩
   obtain ⟨b, hb⟩ : ∃ b, b = (if k = 1 then 191 else 191 : Nat) := ⟨_, rfl⟩
   have hi := inB_oct l k a b
   have HN : Hid (inB l k a b = false → rl l = 0) := fun h => rl_no HL.out (by omega) hk1 hlt (by rw [← ha, ← hb]; exact h)
   have HY : Hid (inB l k a b = true → okN l 144 191 (k + 1)) := fun h => okN_step HK.out (by rw [← ha, ← hb]; exact h)
   have HI := h_ hi
   have HC := h_ (HO.out k)
   rw [← ha, ← hb]
   clear ha hb hi
   obtain ⟨c, hc⟩ : ∃ c, c = octN l k := ⟨_, rfl⟩
   rw [← hc] at HI HC
   clear hc
   have ea : (if k + 1 = 1 then 144 else 128 : Nat) = 128 := by rw [if_neg (by omega)]
   have eb : (if k + 1 = 1 then 191 else 191 : Nat) = 191 := by rw [if_neg (by omega)]
   have HEA := h_ ea
   have HEB := h_ eb
   clear ea eb
   by_cases hca : c < (a : Int)
   ·go_wp2_with fail
    refine (HC.out _).mono ?_
    rintro e w' ⟨rfl, rfl⟩
    go_wp2
    go_ret
    exact ⟨by rw [HN.out (by rw [HI.out]; simp; omega)]; rfl, rfl⟩
   ·by_cases hcb : (b : Int) < c
    ·go_wp2_with fail
     refine (HC.out _).mono ?_
     rintro e w' ⟨rfl, rfl⟩
     go_wp2
     go_ret
     exact ⟨by rw [HN.out (by rw [HI.out]; simp; omega)]; rfl, rfl⟩
    ·go_wp2_with fail
     refine (HC.out _).mono ?_
     rintro e w' ⟨rfl, rfl⟩
     go_wp2
     go_round
     case rel => exact ⟨k + 1, by omega, by omega, by go_num, by rw [HEA.out]; rfl, by rw [HEB.out]; rfl, HY.out (by rw [HI.out]; simp; omega)⟩
     case measure => simp [intOf]; omega
  ·obtain rfl : k = 4 := by omega
   have HR := h_ (rl_yes HL.out (by omega) HK.out)
   go_wp2
   go_ret
   exact ⟨by rw [HR.out]; rfl, rfl⟩

theorem rune1_c6 (s : ByteArray) (l : List UInt8) (w : World) (hl : l = s.data.toList) (hL : lead (bt l 0) = (4, 128, 143)) (h1 : octN l 0 = 244) :
  Calls Tryz.prog 85 #[.string s] w fun e w' => e = .returned (.int .i64 (rl l)) ∧ w = w' := by
 have HO : Hid (∀ (i : Nat) (w : World), Calls Tryz.prog 110 #[.string s, .int .i64 i] w fun e w' => e = .returned (.int .i64 (octN l i)) ∧ w = w') := fun i w => hl ▸ refOctet_any s i w
 have HO0 := HO.out 0
 have HL := h_ hL
 clear hl hL
 rw [h1] at HO0
 clear h1
 have HZ := h_ HO0
 clear HO0
 go_enter Tryz.func85, Tryz.ntmps85
 go_wp2_with fail
 refine (HZ.out _).mono ?_
 rintro e w' ⟨rfl, rfl⟩
 go_wp2
 go_loop [5, 6, 7] (fun a b i => ∃ k : Nat, 1 ≤ k ∧ k ≤ 4 ∧ i = .int .i64 k ∧ a = .int .i64 ((if k = 1 then 128 else 128 : Nat) : Int) ∧ b = .int .i64 ((if k = 1 then 143 else 191 : Nat) : Int) ∧ Hid (okN l 128 143 k)) (fun _ _ i => 4 - (intOf i).toNat)
 case atStart => exact ⟨1, by omega, by omega, rfl, rfl, rfl, fun j h1 h2 => by omega⟩
 case round =>
  obtain ⟨k, hk1, hk2, rfl, rfl, rfl, HK⟩ := hrel
  by_cases hlt : k < 4
  ·obtain ⟨a, ha⟩ : ∃ a, a = (if k = 1 then 128 else 128 : Nat) := ⟨_, rfl⟩
   obtain ⟨b, hb⟩ : ∃ b, b = (if k = 1 then 143 else 191 : Nat) := ⟨_, rfl⟩
   have hi := inB_oct l k a b
   have HN : Hid (inB l k a b = false → rl l = 0) := fun h => rl_no HL.out (by omega) hk1 hlt (by rw [← ha, ← hb]; exact h)
   have HY : Hid (inB l k a b = true → okN l 128 143 (k + 1)) := fun h => okN_step HK.out (by rw [← ha, ← hb]; exact h)
   have HI := h_ hi
   have HC := h_ (HO.out k)
   rw [← ha, ← hb]
   clear ha hb hi
   obtain ⟨c, hc⟩ : ∃ c, c = octN l k := ⟨_, rfl⟩
   rw [← hc] at HI HC
   clear hc
   have ea : (if k + 1 = 1 then 128 else 128 : Nat) = 128 := by rw [if_neg (by omega)]
   have eb : (if k + 1 = 1 then 143 else 191 : Nat) = 191 := by rw [if_neg (by omega)]
   have HEA := h_ ea
   have HEB := h_ eb
   clear ea eb
   by_cases hca : c < (a : Int)
   ·go_wp2_with fail
    refine (HC.out _).mono ?_
    rintro e w' ⟨rfl, rfl⟩
    go_wp2
    go_ret
    exact ⟨by rw [HN.out (by rw [HI.out]; simp; omega)]; rfl, rfl⟩
   ·by_cases hcb : (b : Int) < c
    ·go_wp2_with fail
     refine (HC.out _).mono ?_
     rintro e w' ⟨rfl, rfl⟩
     go_wp2
     go_ret
     exact ⟨by rw [HN.out (by rw [HI.out]; simp; omega)]; rfl, rfl⟩
    ·go_wp2_with fail
     refine (HC.out _).mono ?_
     rintro e w' ⟨rfl, rfl⟩
     go_wp2
     go_round
     case rel => exact ⟨k + 1, by omega, by omega, by go_num, by rw [HEA.out]; rfl, by rw [HEB.out]; rfl, HY.out (by rw [HI.out]; simp; omega)⟩
     case measure => simp [intOf]; omega
  ·obtain rfl : k = 4 := by omega
   have HR := h_ (rl_yes HL.out (by omega) HK.out)
   go_wp2
   go_ret
   exact ⟨by rw [HR.out]; rfl, rfl⟩

theorem rune1_c7 (s : ByteArray) (l : List UInt8) (w : World) (hl : l = s.data.toList) (hL : lead (bt l 0) = (4, 128, 191)) (h1 : 241 ≤ octN l 0) (h2 : octN l 0 ≤ 243) :
  Calls Tryz.prog 85 #[.string s] w fun e w' => e = .returned (.int .i64 (rl l)) ∧ w = w' := by
 have HO : Hid (∀ (i : Nat) (w : World), Calls Tryz.prog 110 #[.string s, .int .i64 i] w fun e w' => e = .returned (.int .i64 (octN l i)) ∧ w = w') := fun i w => hl ▸ refOctet_any s i w
 have HO0 := HO.out 0
 have HL := h_ hL
 clear hl hL
 generalize octN l 0 = at0 at *
 have d224 : (at0 == 224) = false := by simp; omega
 have d237 : (at0 == 237) = false := by simp; omega
 have d240 : (at0 == 240) = false := by simp; omega
 have d244 : (at0 == 244) = false := by simp; omega
 have HZ := h_ HO0
 clear HO0
 go_enter Tryz.func85, Tryz.ntmps85
 go_wp2_with fail
 refine (HZ.out _).mono ?_
 rintro e w' ⟨rfl, rfl⟩
 go_wp2
 go_loop [5, 6, 7] (fun a b i => ∃ k : Nat, 1 ≤ k ∧ k ≤ 4 ∧ i = .int .i64 k ∧ a = .int .i64 ((if k = 1 then 128 else 128 : Nat) : Int) ∧ b = .int .i64 ((if k = 1 then 191 else 191 : Nat) : Int) ∧ Hid (okN l 128 191 k)) (fun _ _ i => 4 - (intOf i).toNat)
 case atStart => exact ⟨1, by omega, by omega, rfl, rfl, rfl, fun j h1 h2 => by omega⟩
 case round =>
  obtain ⟨k, hk1, hk2, rfl, rfl, rfl, HK⟩ := hrel
  by_cases hlt : k < 4
  ·obtain ⟨a, ha⟩ : ∃ a, a = (if k = 1 then 128 else 128 : Nat) := ⟨_, rfl⟩
   obtain ⟨b, hb⟩ : ∃ b, b = (if k = 1 then 191 else 191 : Nat) := ⟨_, rfl⟩
   have hi := inB_oct l k a b
   have HN : Hid (inB l k a b = false → rl l = 0) := fun h => rl_no HL.out (by omega) hk1 hlt (by rw [← ha, ← hb]; exact h)
   have HY : Hid (inB l k a b = true → okN l 128 191 (k + 1)) := fun h => okN_step HK.out (by rw [← ha, ← hb]; exact h)
   have HI := h_ hi
   have HC := h_ (HO.out k)
   rw [← ha, ← hb]
   clear ha hb hi
   obtain ⟨c, hc⟩ : ∃ c, c = octN l k := ⟨_, rfl⟩
   rw [← hc] at HI HC
   clear hc
   have ea : (if k + 1 = 1 then 128 else 128 : Nat) = 128 := by rw [if_neg (by omega)]
   have eb : (if k + 1 = 1 then 191 else 191 : Nat) = 191 := by rw [if_neg (by omega)]
   have HEA := h_ ea
   have HEB := h_ eb
   clear ea eb
   by_cases hca : c < (a : Int)
   ·go_wp2_with fail
    refine (HC.out _).mono ?_
    rintro e w' ⟨rfl, rfl⟩
    go_wp2
    go_ret
    exact ⟨by rw [HN.out (by rw [HI.out]; simp; omega)]; rfl, rfl⟩
   ·by_cases hcb : (b : Int) < c
    ·go_wp2_with fail
     refine (HC.out _).mono ?_
     rintro e w' ⟨rfl, rfl⟩
     go_wp2
     go_ret
     exact ⟨by rw [HN.out (by rw [HI.out]; simp; omega)]; rfl, rfl⟩
    ·go_wp2_with fail
     refine (HC.out _).mono ?_
     rintro e w' ⟨rfl, rfl⟩
     go_wp2
     go_round
     case rel => exact ⟨k + 1, by omega, by omega, by go_num, by rw [HEA.out]; rfl, by rw [HEB.out]; rfl, HY.out (by rw [HI.out]; simp; omega)⟩
     case measure => simp [intOf]; omega
  ·obtain rfl : k = 4 := by omega
   have HR := h_ (rl_yes HL.out (by omega) HK.out)
   go_wp2
   go_ret
   exact ⟨by rw [HR.out]; rfl, rfl⟩

theorem rune1_c0 (s : ByteArray) (l : List UInt8) (w : World) (hl : l = s.data.toList) (hr : rl l = 1) (h1 : octN l 0 ≤ 127) :
  Calls Tryz.prog 85 #[.string s] w fun e w' => e = .returned (.int .i64 (rl l)) ∧ w = w' := by
 have HO : Hid (∀ (i : Nat) (w : World), Calls Tryz.prog 110 #[.string s, .int .i64 i] w fun e w' => e = .returned (.int .i64 (octN l i)) ∧ w = w') := fun i w => hl ▸ refOctet_any s i w
 have HO0 := HO.out 0
 rw [hr]
 clear hl hr
 generalize octN l 0 = at0 at *
 have d224 : (at0 == 224) = false := by simp; omega
 have d237 : (at0 == 237) = false := by simp; omega
 have d240 : (at0 == 240) = false := by simp; omega
 have d244 : (at0 == 244) = false := by simp; omega
 have HZ := h_ HO0
 clear HO0
 go_enter Tryz.func85, Tryz.ntmps85
 go_wp2_with fail
 refine (HZ.out _).mono ?_
 rintro e w' ⟨rfl, rfl⟩
 go_wp2
 go_loop [7] (fun i => i = .int .i64 1) (fun i => (intOf i).toNat)
 case atStart => rfl
 case round =>
  subst hrel
  go_wp2
  go_ret
  exact ⟨rfl, rfl⟩

theorem rune1_c8 (s : ByteArray) (l : List UInt8) (w : World) (hl : l = s.data.toList) (hr : rl l = 0) (h1 : (127 < octN l 0 ∧ octN l 0 < 194) ∨ 244 < octN l 0) :
  Calls Tryz.prog 85 #[.string s] w fun e w' => e = .returned (.int .i64 (rl l)) ∧ w = w' := by
 have HO : Hid (∀ (i : Nat) (w : World), Calls Tryz.prog 110 #[.string s, .int .i64 i] w fun e w' => e = .returned (.int .i64 (octN l i)) ∧ w = w') := fun i w => hl ▸ refOctet_any s i w
 have HO0 := HO.out 0
 rw [hr]
 clear hl hr
 generalize octN l 0 = at0 at *
 have d224 : (at0 == 224) = false := by simp; omega
 have d237 : (at0 == 237) = false := by simp; omega
 have d240 : (at0 == 240) = false := by simp; omega
 have d244 : (at0 == 244) = false := by simp; omega
 have HZ := h_ HO0
 clear HO0
 rcases h1 with ⟨h1, h2⟩ | h1
 all_goals
  go_enter Tryz.func85, Tryz.ntmps85
  go_wp2_with fail
  refine (HZ.out _).mono ?_
  rintro e w' ⟨rfl, rfl⟩
  go_wp2
  go_ret
  exact ⟨rfl, rfl⟩

theorem rl_one {l : List UInt8} (h : bt l 0 ≤ 127) : rl l = 1 := by
 unfold rl lead
 rw [if_pos h]
 rfl

theorem rl_none {l : List UInt8} (h : (127 < bt l 0 ∧ bt l 0 < 194) ∨ 244 < bt l 0) : rl l = 0 := by
 have e : lead (bt l 0) = (0, 0, 0) := by
  unfold lead
  rw [if_neg (by omega), if_neg (by omega), if_neg (by omega), if_neg (by omega), if_neg (by omega), if_neg (by omega), if_neg (by omega), if_neg (by omega)]
 unfold rl
 rw [e]
 rfl

theorem rune1_any (s : ByteArray) (w : World) :
  Calls Tryz.prog 85 #[.string s] w fun e w' => e = .returned (.int .i64 (rl s.data.toList)) ∧ w = w' := by
 obtain ⟨l, hl⟩ : ∃ l, l = s.data.toList := ⟨_, rfl⟩
 rw [← hl]
 by_cases hne : 0 < l.length
 ·have e0 : octN l 0 = (bt l 0 : Int) := if_pos hne
  have hb := bt_lt l 0
  by_cases a1 : bt l 0 ≤ 127
  ·exact rune1_c0 s l w hl (rl_one a1) (by omega)
  by_cases a2 : bt l 0 < 194
  ·exact rune1_c8 s l w hl (rl_none (by omega)) (by omega)
  by_cases a3 : bt l 0 ≤ 223
  ·exact rune1_c1 s l w hl (by unfold lead; rw [if_neg (by omega), if_pos (by omega)]) (by omega) (by omega)
  by_cases a4 : bt l 0 = 224
  ·exact rune1_c2 s l w hl (by unfold lead; rw [if_neg (by omega), if_neg (by omega), if_pos (by omega)]) (by omega)
  by_cases a5 : bt l 0 = 237
  ·exact rune1_c3 s l w hl (by unfold lead; rw [if_neg (by omega), if_neg (by omega), if_neg (by omega), if_pos (by omega)]) (by omega)
  by_cases a6 : bt l 0 ≤ 239
  ·exact rune1_c4 s l w hl (by unfold lead; rw [if_neg (by omega), if_neg (by omega), if_neg (by omega), if_neg (by omega), if_pos (by omega)]) (by omega) (by omega) (by omega)
  by_cases a7 : bt l 0 = 240
  ·exact rune1_c5 s l w hl (by unfold lead; rw [if_neg (by omega), if_neg (by omega), if_neg (by omega), if_neg (by omega), if_neg (by omega), if_pos (by omega)]) (by omega)
  by_cases a8 : bt l 0 = 244
  ·exact rune1_c6 s l w hl (by unfold lead; rw [if_neg (by omega), if_neg (by omega), if_neg (by omega), if_neg (by omega), if_neg (by omega), if_neg (by omega), if_pos (by omega)]) (by omega)
  by_cases a9 : bt l 0 ≤ 243
  ·exact rune1_c7 s l w hl (by unfold lead; rw [if_neg (by omega), if_neg (by omega), if_neg (by omega), if_neg (by omega), if_neg (by omega), if_neg (by omega), if_neg (by omega), if_pos (by omega)]) (by omega) (by omega)
  ·exact rune1_c8 s l w hl (rl_none (by omega)) (by omega)
 ·have e0 : octN l 0 = -1 := if_neg hne
  obtain rfl : l = [] := List.eq_nil_of_length_eq_zero (by omega)
  exact rune1_c0 s [] w hl (rl_one (by simp [bt])) (by rw [e0]; decide)


set_option maxRecDepth 100000 in
theorem refRunes_any (s : ByteArray) (w : World) (hs : s.size ≤ 140737488355328) :
  Calls Tryz.prog 44 #[.string s] w fun e w' => e = .returned (.tuple #[.int .i64 (runesL s.data.toList).1, .bool (runesL s.data.toList).2]) ∧ w = w' := by
 obtain ⟨l, hl⟩ : ∃ l, l = s.data.toList := ⟨_, rfl⟩
 have hlen : l.length = s.size := by rw [hl]; exact Array.length_toList
 have hbd := runesL_len l
 rw [← hl]
 have HLEN := h_ hlen
 have HLL := h_ hl
 have hl9 : l.length ≤ 140737488355328 := by omega
 clear hlen hl
 go_enter Tryz.func44, Tryz.ntmps44
 go_wp2
 go_loop [0, 4, 5] (fun t m f => ∃ (pos n : Nat) (ok : Bool) (r : ByteArray), t = .string r ∧ m = .int .i64 n ∧ f = .bool ok ∧ Hid (r.data.toList = l.drop pos ∧ RunesI l pos n ok)) (fun t _ _ => match t with | .string r => r.size | _ => 0)
 case atStart => exact ⟨0, 0, true, s, rfl, rfl, rfl, by rw [← HLL.out]; rfl, by refine ⟨Nat.zero_le _, by simp, by simp⟩⟩
 case round =>
  obtain ⟨pos, n, ok, r, rfl, rfl, rfl, HI⟩ := hrel
  have hrl : r.size = l.length - pos := by
   have h1 : r.data.toList.length = r.size := Array.length_toList
   rw [← h1, HI.out.1, List.length_drop]
  have hpos := HI.out.2.1
  have hn : n ≤ l.length := by
   have := HI.out.2.2.1
   omega
  by_cases hp : pos < l.length
  ·have hne : l.drop pos ≠ [] := by
     rw [ne_eq, List.drop_eq_nil_iff]
     omega
   have hle := rl_le _ hne
   rw [List.length_drop] at hle
   have HN := h_ (HI.out.2.step hp hle)
   have HC : Hid (∀ w, Calls Tryz.prog 85 #[.string r] w fun e w' => e = .returned (.int .i64 (rl (l.drop pos))) ∧ w = w') := by
    intro w
    have h := rune1_any r w
    rw [HI.out.1] at h
    exact h
   obtain ⟨q, hq⟩ : ∃ q, q = rl (l.drop pos) := ⟨_, rfl⟩
   rw [← hq] at HN HC hle
   clear hq hne
   have hr0 : (0 : Int) < (r.size : Int) := by omega
   have HT := h_ (fun k => tail_list r k)
   have HRL := h_ hrl
   have hr9 : r.size ≤ 140737488355328 := by omega
   by_cases hq0 : q = 0
   ·subst hq0
    have hsz : 1 ≤ r.size := by omega
    clear hrl hle
    go_wp2_with fail
    refine (HC.out _).mono ?_
    rintro e w' ⟨rfl, rfl⟩
    go_wp2
    go_round
    case rel => exact ⟨pos + 1, n + 1, false, r.extract 1 r.size, by rfl, by go_num, by rfl, by rw [HT.out 1, HI.out.1, List.drop_drop], by simpa using HN.out⟩
    case measure => simp; omega
   ·have hsz : q ≤ r.size := by omega
    have hq1 : ((q : Int) == 0) = false := by simp; omega
    clear hrl
    go_wp2_with fail
    refine (HC.out _).mono ?_
    rintro e w' ⟨rfl, rfl⟩
    go_wp2
    go_round
    case rel =>
     refine ⟨pos + q, n + 1, ok, r.extract q r.size, by rfl, by go_num, by rfl, by rw [HT.out q, HI.out.1, List.drop_drop], ?_⟩
     have h1 : max 1 q = q := by omega
     have h2 := HN.out
     rw [h1] at h2
     simpa [hq0] using h2
    case measure => simp; omega
  ·have hr0 : r.size = 0 := by omega
   clear hrl
   have HE : Hid (n = (runesL l).1 ∧ ok = (runesL l).2) := by
    have h1 := HI.out.2
    have h2 : l.drop pos = [] := by
     rw [List.drop_eq_nil_iff]
     omega
    rw [RunesI, h2] at h1
    simpa [Hid, runesL, runesF_nil] using h1.2
   go_wp2
   go_ret2
   exact ⟨by rw [HE.out.1, HE.out.2]; rfl, rfl⟩


def bareB (k n : Int) (b s : List UInt8) (m : Nat) : Bool :=
 decide (k = 1 ∨ k = 5 ∨ n = 0) && (decide (k = 2 ∨ b = []) && (decide (k = 3 ∨ s = []) && decide (k = 4 ∨ m = 0)))

theorem rightN_parts (k n : Int) (b s : List UInt8) (m : Nat) (hn : 0 ≤ n) :
  rightN k n b s m = (decide (1 ≤ k ∧ k ≤ 6) && (bareB k n b s m && (!(decide (k = 5 ∧ 1 < n)) && (runesL s).2))) := by
 have h0 : (runesL []).2 = true := by simp [runesL, runesF_nil]
 by_cases hs : s = []
 ·subst hs
  unfold rightN bareB
  rw [h0]
  by_cases h1 : k = 1
  ·subst h1; simp
  by_cases h2 : k = 2
  ·subst h2; simp
  by_cases h3 : k = 3
  ·subst h3; simp
  by_cases h4 : k = 4
  ·subst h4; simp
  by_cases h5 : k = 5
  ·subst h5
   by_cases hn1 : n ≤ 1
   ·have : ¬ 1 < n := by omega
    simp [hn1, this]
   ·have : 1 < n := by omega
    simp [hn1, this]
  by_cases h6 : k = 6
  ·subst h6; simp
  ·have : ¬ (1 ≤ k ∧ k ≤ 6) := by omega
   simp [h1, h2, h3, h4, h5, h6, this]
 ·by_cases h3 : k = 3
  ·subst h3
   unfold rightN bareB
   simp [hs]
   cases (runesL s).2 <;> simp
  ·have e1 : rightN k n b s m = false := by
     unfold rightN
     simp [hs, h3]
   have e2 : bareB k n b s m = false := by
    unfold bareB
    simp [hs, h3]
   rw [e1, e2]
   simp

set_option maxRecDepth 100000 in
theorem refBare_any (k n : Int) (a : Option Addr) (b s : List UInt8) (c : Nat) (A : Option Addr) (m C : Nat) (w : World) :
  Calls Tryz.prog 45 #[.agg #[.int .i64 k, .int .u64 n, .slice a b.length c, .string ⟨s.toArray⟩, .slice A m C]] w fun e w' => e = .returned (.bool (bareB k n b s m)) ∧ Below w.heap.size w w' := by
 by_cases h1 : k = 1
 ·subst h1
  go_enter Tryz.func45, Tryz.ntmps45
  go_wp2
  all_goals
   go_ret
   refine ⟨?_, below_al bR _⟩
   simp_all [bareB] <;> (first | omega | (rw [Bool.eq_iff_iff]; simp; done) | (rw [Bool.eq_iff_iff]; simp; omega) | (intros; omega))
 by_cases h2 : k = 2
 ·subst h2
  go_enter Tryz.func45, Tryz.ntmps45
  go_wp2
  all_goals
   go_ret
   refine ⟨?_, below_al bR _⟩
   simp_all [bareB] <;> (first | omega | (rw [Bool.eq_iff_iff]; simp; done) | (rw [Bool.eq_iff_iff]; simp; omega) | (intros; omega))
 by_cases h3 : k = 3
 ·subst h3
  go_enter Tryz.func45, Tryz.ntmps45
  go_wp2
  all_goals
   go_ret
   refine ⟨?_, below_al bR _⟩
   simp_all [bareB] <;> (first | omega | (rw [Bool.eq_iff_iff]; simp; done) | (rw [Bool.eq_iff_iff]; simp; omega) | (intros; omega))
 by_cases h4 : k = 4
 ·subst h4
  go_enter Tryz.func45, Tryz.ntmps45
  go_wp2
  all_goals
   go_ret
   refine ⟨?_, below_al bR _⟩
   simp_all [bareB] <;> (first | omega | (rw [Bool.eq_iff_iff]; simp; done) | (rw [Bool.eq_iff_iff]; simp; omega) | (intros; omega))
 by_cases h5 : k = 5
 ·subst h5
  go_enter Tryz.func45, Tryz.ntmps45
  go_wp2
  all_goals
   go_ret
   refine ⟨?_, below_al bR _⟩
   simp_all [bareB] <;> (first | omega | (rw [Bool.eq_iff_iff]; simp; done) | (rw [Bool.eq_iff_iff]; simp; omega) | (intros; omega))
 have k1 : (k == 1) = false := by simpa using h1
 have k2 : (k == 2) = false := by simpa using h2
 have k3 : (k == 3) = false := by simpa using h3
 have k4 : (k == 4) = false := by simpa using h4
 have k5 : (k == 5) = false := by simpa using h5
 ·go_enter Tryz.func45, Tryz.ntmps45
  go_wp2
  all_goals
   go_ret
   refine ⟨?_, below_al bR _⟩
   simp_all [bareB] <;> (first | omega | (rw [Bool.eq_iff_iff]; simp; done) | (rw [Bool.eq_iff_iff]; simp; omega) | (intros; omega))

set_option maxRecDepth 100000 in
theorem refRight_any : ∀ (x : It) (v : Value) (w : World), ItV w w.heap.size v x →
  Calls Tryz.prog 26 #[v] w fun e w' => e = .returned (.bool x.right) ∧ Below w.heap.size w w' := by
 refine It.ind fun k n b s l ih v w hv => ?_
 simp only [ItV] at hv
 obtain ⟨A, ⟨a, c, C, rfl, ⟨hc, hC⟩, hrb, hn, hk, hsb, hss, hsl⟩, hl⟩ := hv
 simp only [Sz] at hsb hss hsl
 have hn0 := hn.1
 have hs1 : (⟨s.toArray⟩ : ByteArray).size = s.length := by simp [ByteArray.size]
 have HRU : Hid (∀ w, Calls Tryz.prog 44 #[.string ⟨s.toArray⟩] w fun e w' => e = .returned (.tuple #[.int .i64 (runesL s).1, .bool (runesL s).2]) ∧ w = w') := fun w => refRunes_any ⟨s.toArray⟩ w (by omega)
 have HBA := h_ (fun w => refBare_any k n a b s c A l.length C w)
 have hp := rightN_parts k n b s l.length hn0
 have e9 : (It.mk k n b s l).right = (rightN k n b s l.length && rightL l) := by simp [It.right]
 rw [e9, hp]
 have HL := h_ hl
 have IH := h_ ih
 clear hl ih e9 hp hn hk hrb hs1
 generalize bareB k n b s l.length = B at *
 generalize (runesL s).1 = rr at *
 generalize (runesL s).2 = R at *
 by_cases h1 : k < 1
 ·have e1 : decide (1 ≤ k ∧ k ≤ 6) = false := by simp; omega
  rw [e1]
  clear e1
  go_enter Tryz.func26, Tryz.ntmps26
  go_wp2_with fail
  refine (HRU.out _).mono ?_
  rintro e w' ⟨rfl, rfl⟩
  go_wp2_with fail
  go_ret
  exact ⟨rfl, below_al bR _⟩
 by_cases h6 : 6 < k
 ·have e1 : decide (1 ≤ k ∧ k ≤ 6) = false := by simp; omega
  rw [e1]
  clear e1
  go_enter Tryz.func26, Tryz.ntmps26
  go_wp2_with fail
  refine (HRU.out _).mono ?_
  rintro e w' ⟨rfl, rfl⟩
  go_wp2_with fail
  go_ret
  exact ⟨rfl, below_al bR _⟩
 have e1 : decide (1 ≤ k ∧ k ≤ 6) = true := by simp; omega
 rw [e1]
 clear e1
 cases B
 ·go_enter Tryz.func26, Tryz.ntmps26
  go_wp2_with fail
  refine (HRU.out _).mono ?_
  rintro e w' ⟨rfl, rfl⟩
  go_wp2_with fail
  refine (HBA.out _).mono ?_
  rintro e w1 ⟨rfl, hb1⟩
  have x1 : w1.cell? ⟨w.heap.size, 1, none⟩ = some (.int .u64 n) := (hb1.cell (p := ⟨w.heap.size, 1, none⟩) (by simp)).trans (by simp)
  have x4 : w1.cell? ⟨w.heap.size, 4, none⟩ = some (.slice A l.length C) := (hb1.cell (p := ⟨w.heap.size, 4, none⟩) (by simp)).trans (by simp)
  have HB1 := h_ (below_on (below_al (Below.refl w.heap.size w) (.cells #[.int .i64 k, .int .u64 n, .slice a b.length c, .string ⟨s.toArray⟩, .slice A l.length C] 45)) hb1)
  have HB2 : Hid (Below (w.alloc (.cells #[.int .i64 k, .int .u64 n, .slice a b.length c, .string ⟨s.toArray⟩, .slice A l.length C] 45)).heap.size (w.alloc (.cells #[.int .i64 k, .int .u64 n, .slice a b.length c, .string ⟨s.toArray⟩, .slice A l.length C] 45)) w1) := hb1
  clear hb1
  go_wp2_with fail
  go_ret
  exact ⟨rfl, HB1.out⟩
 by_cases h5 : k = 5
 ·subst h5
  by_cases hn1 : 1 < n
  ·have e1 : decide ((5 : Int) = 5 ∧ 1 < n) = true := by simp; omega
   rw [e1]
   clear e1
   go_enter Tryz.func26, Tryz.ntmps26
   go_wp2_with fail
   refine (HRU.out _).mono ?_
   rintro e w' ⟨rfl, rfl⟩
   go_wp2_with fail
   refine (HBA.out _).mono ?_
   rintro e w1 ⟨rfl, hb1⟩
   have x1 : w1.cell? ⟨w.heap.size, 1, none⟩ = some (.int .u64 n) := (hb1.cell (p := ⟨w.heap.size, 1, none⟩) (by simp)).trans (by simp)
   have x4 : w1.cell? ⟨w.heap.size, 4, none⟩ = some (.slice A l.length C) := (hb1.cell (p := ⟨w.heap.size, 4, none⟩) (by simp)).trans (by simp)
   have HB1 := h_ (below_on (below_al (Below.refl w.heap.size w) (.cells #[.int .i64 5, .int .u64 n, .slice a b.length c, .string ⟨s.toArray⟩, .slice A l.length C] 45)) hb1)
   have HB2 : Hid (Below (w.alloc (.cells #[.int .i64 5, .int .u64 n, .slice a b.length c, .string ⟨s.toArray⟩, .slice A l.length C] 45)).heap.size (w.alloc (.cells #[.int .i64 5, .int .u64 n, .slice a b.length c, .string ⟨s.toArray⟩, .slice A l.length C] 45)) w1) := hb1
   clear hb1
   go_wp2_with fail
   go_ret
   exact ⟨by simp, HB1.out⟩
  ·have e1 : decide ((5 : Int) = 5 ∧ 1 < n) = false := by simp; omega
   rw [e1]
   clear e1
   cases R
   ·go_enter Tryz.func26, Tryz.ntmps26
    go_wp2_with fail
    refine (HRU.out _).mono ?_
    rintro e w' ⟨rfl, rfl⟩
    go_wp2_with fail
    refine (HBA.out _).mono ?_
    rintro e w1 ⟨rfl, hb1⟩
    have x1 : w1.cell? ⟨w.heap.size, 1, none⟩ = some (.int .u64 n) := (hb1.cell (p := ⟨w.heap.size, 1, none⟩) (by simp)).trans (by simp)
    have x4 : w1.cell? ⟨w.heap.size, 4, none⟩ = some (.slice A l.length C) := (hb1.cell (p := ⟨w.heap.size, 4, none⟩) (by simp)).trans (by simp)
    have HB1 := h_ (below_on (below_al (Below.refl w.heap.size w) (.cells #[.int .i64 5, .int .u64 n, .slice a b.length c, .string ⟨s.toArray⟩, .slice A l.length C] 45)) hb1)
    have HB2 : Hid (Below (w.alloc (.cells #[.int .i64 5, .int .u64 n, .slice a b.length c, .string ⟨s.toArray⟩, .slice A l.length C] 45)).heap.size (w.alloc (.cells #[.int .i64 5, .int .u64 n, .slice a b.length c, .string ⟨s.toArray⟩, .slice A l.length C] 45)) w1) := hb1
    clear hb1
    go_wp2_with fail
    go_ret
    exact ⟨by simp, HB1.out⟩
   ·go_enter Tryz.func26, Tryz.ntmps26
    go_wp2_with fail
    refine (HRU.out _).mono ?_
    rintro e w' ⟨rfl, rfl⟩
    go_wp2_with fail
    refine (HBA.out _).mono ?_
    rintro e w1 ⟨rfl, hb1⟩
    have x1 : w1.cell? ⟨w.heap.size, 1, none⟩ = some (.int .u64 n) := (hb1.cell (p := ⟨w.heap.size, 1, none⟩) (by simp)).trans (by simp)
    have x4 : w1.cell? ⟨w.heap.size, 4, none⟩ = some (.slice A l.length C) := (hb1.cell (p := ⟨w.heap.size, 4, none⟩) (by simp)).trans (by simp)
    have HB1 := h_ (below_on (below_al (Below.refl w.heap.size w) (.cells #[.int .i64 5, .int .u64 n, .slice a b.length c, .string ⟨s.toArray⟩, .slice A l.length C] 45)) hb1)
    have HB2 : Hid (Below (w.alloc (.cells #[.int .i64 5, .int .u64 n, .slice a b.length c, .string ⟨s.toArray⟩, .slice A l.length C] 45)).heap.size (w.alloc (.cells #[.int .i64 5, .int .u64 n, .slice a b.length c, .string ⟨s.toArray⟩, .slice A l.length C] 45)) w1) := hb1
    clear hb1
    go_wp2_with fail
    go_loopw [6] (fun i wr => ∃ j : Nat, j ≤ l.length ∧ i = .int .i64 j ∧ Hid (rightL (l.take j) = true) ∧ Hid (Below (w.alloc (.cells #[.int .i64 5, .int .u64 n, .slice a b.length c, .string ⟨s.toArray⟩, .slice A l.length C] 45)).heap.size (w.alloc (.cells #[.int .i64 5, .int .u64 n, .slice a b.length c, .string ⟨s.toArray⟩, .slice A l.length C] 45)) wr)) (fun i _ => l.length - (intOf i).toNat)
    case atStart => exact ⟨0, Nat.zero_le _, rfl, rfl, HB2.out⟩
    case round =>
     obtain ⟨j, hj, rfl, HRj, HB⟩ := hrel
     have hcell : wr.cell? ⟨w.heap.size, 4, none⟩ = some (.slice A l.length C) := by
      rw [HB.out.cell (by simp)]
      simp
     clear x1 x4
     by_cases hlt : j < l.length
     ·obtain ⟨g, o, rfl, hg, hlL⟩ : ∃ g o, A = some ⟨g, o, none⟩ ∧ g < w.heap.size ∧ ItL w w.heap.size g o l := by
        rcases HL.out with rfl | h
        ·simp at hlt
        ·exact h
      obtain ⟨v5, h5, hv5⟩ := ItL.at hlL (List.getElem?_eq_getElem hlt)
      have hB0 : Below w.heap.size w wr := (bR.alloc (Nat.le_refl _) _).trans (HB.out.mono (by simp))
      have h5' := h5.below hB0 hg
      obtain ⟨v0, v1, v2, v3, v4, rfl, e0, e1, e2, e3, e4⟩ := h5'
      clear hlL h5
      have HV5 := h_ (ItV.mono hB0.size _ (ItV.below hB0 _ hv5))
      clear hv5
      have HST := h_ (rightL_step l j hlt)
      have HM : Hid (l[j].right = false → rightL l = false) := by
       intro h
       cases hr : rightL l
       ·rfl
       ·rw [rightL_mem hr (List.getElem_mem hlt)] at h
        cases h
      have HC := h_ (IH.out l[j] (List.getElem_mem hlt) (.agg #[v0, v1, v2, v3, v4]))
      obtain ⟨q, hq⟩ : ∃ q, q = l[j].right := ⟨_, rfl⟩
      rw [← hq] at HC HST HM
      clear hq
      cases q
      ·go_wp2_with fail
       refine (HC.out _ HV5.out).mono ?_
       rintro e w2 ⟨rfl, hb2⟩
       have HB3 := h_ (hB0.trans (hb2.mono hB0.size))
       clear hb2 e0 e1 e2 e3 e4 hcell
       go_wp2_with fail
       go_ret
       exact ⟨by rw [HM.out trivial]; simp, HB3.out⟩
      ·go_wp2_with fail
       refine (HC.out _ HV5.out).mono ?_
       rintro e w2 ⟨rfl, hb2⟩
       have HB3 : Hid (Below (w.alloc (.cells #[.int .i64 5, .int .u64 n, .slice a b.length c, .string ⟨s.toArray⟩, (.slice (some ⟨g, o, none⟩) l.length C)] 45)).heap.size (w.alloc (.cells #[.int .i64 5, .int .u64 n, .slice a b.length c, .string ⟨s.toArray⟩, (.slice (some ⟨g, o, none⟩) l.length C)] 45)) w2) := below_on HB.out hb2
       clear hb2 e0 e1 e2 e3 e4 hcell
       go_wp2_with fail
       go_roundw
       case rel => exact ⟨j + 1, by omega, by go_num, by rw [HST.out, HRj.out]; rfl, HB3⟩
       case measure => simp [intOf]; omega
     ·obtain rfl : j = l.length := by omega
      rw [List.take_length] at HRj
      go_wp2_with fail
      go_ret
      exact ⟨by rw [HRj.out]; simp, (bR.alloc (Nat.le_refl _) _).trans (HB.out.mono (by simp))⟩
 ·have e1 : decide (k = 5 ∧ 1 < n) = false := by simp; omega
  rw [e1]
  clear e1
  have k5 : (k == 5) = false := by simpa using h5
  clear h5
  cases R
  ·go_enter Tryz.func26, Tryz.ntmps26
   go_wp2_with fail
   refine (HRU.out _).mono ?_
   rintro e w' ⟨rfl, rfl⟩
   go_wp2_with fail
   refine (HBA.out _).mono ?_
   rintro e w1 ⟨rfl, hb1⟩
   have x1 : w1.cell? ⟨w.heap.size, 1, none⟩ = some (.int .u64 n) := (hb1.cell (p := ⟨w.heap.size, 1, none⟩) (by simp)).trans (by simp)
   have x4 : w1.cell? ⟨w.heap.size, 4, none⟩ = some (.slice A l.length C) := (hb1.cell (p := ⟨w.heap.size, 4, none⟩) (by simp)).trans (by simp)
   have HB1 := h_ (below_on (below_al (Below.refl w.heap.size w) (.cells #[.int .i64 k, .int .u64 n, .slice a b.length c, .string ⟨s.toArray⟩, .slice A l.length C] 45)) hb1)
   have HB2 : Hid (Below (w.alloc (.cells #[.int .i64 k, .int .u64 n, .slice a b.length c, .string ⟨s.toArray⟩, .slice A l.length C] 45)).heap.size (w.alloc (.cells #[.int .i64 k, .int .u64 n, .slice a b.length c, .string ⟨s.toArray⟩, .slice A l.length C] 45)) w1) := hb1
   clear hb1
   go_wp2_with fail
   go_ret
   exact ⟨by simp, HB1.out⟩
  ·go_enter Tryz.func26, Tryz.ntmps26
   go_wp2_with fail
   refine (HRU.out _).mono ?_
   rintro e w' ⟨rfl, rfl⟩
   go_wp2_with fail
   refine (HBA.out _).mono ?_
   rintro e w1 ⟨rfl, hb1⟩
   have x1 : w1.cell? ⟨w.heap.size, 1, none⟩ = some (.int .u64 n) := (hb1.cell (p := ⟨w.heap.size, 1, none⟩) (by simp)).trans (by simp)
   have x4 : w1.cell? ⟨w.heap.size, 4, none⟩ = some (.slice A l.length C) := (hb1.cell (p := ⟨w.heap.size, 4, none⟩) (by simp)).trans (by simp)
   have HB1 := h_ (below_on (below_al (Below.refl w.heap.size w) (.cells #[.int .i64 k, .int .u64 n, .slice a b.length c, .string ⟨s.toArray⟩, .slice A l.length C] 45)) hb1)
   have HB2 : Hid (Below (w.alloc (.cells #[.int .i64 k, .int .u64 n, .slice a b.length c, .string ⟨s.toArray⟩, .slice A l.length C] 45)).heap.size (w.alloc (.cells #[.int .i64 k, .int .u64 n, .slice a b.length c, .string ⟨s.toArray⟩, .slice A l.length C] 45)) w1) := hb1
   clear hb1
   go_wp2_with fail
   go_loopw [6] (fun i wr => ∃ j : Nat, j ≤ l.length ∧ i = .int .i64 j ∧ Hid (rightL (l.take j) = true) ∧ Hid (Below (w.alloc (.cells #[.int .i64 k, .int .u64 n, .slice a b.length c, .string ⟨s.toArray⟩, .slice A l.length C] 45)).heap.size (w.alloc (.cells #[.int .i64 k, .int .u64 n, .slice a b.length c, .string ⟨s.toArray⟩, .slice A l.length C] 45)) wr)) (fun i _ => l.length - (intOf i).toNat)
   case atStart => exact ⟨0, Nat.zero_le _, rfl, rfl, HB2.out⟩
   case round =>
    obtain ⟨j, hj, rfl, HRj, HB⟩ := hrel
    have hcell : wr.cell? ⟨w.heap.size, 4, none⟩ = some (.slice A l.length C) := by
     rw [HB.out.cell (by simp)]
     simp
    clear x1 x4
    by_cases hlt : j < l.length
    ·obtain ⟨g, o, rfl, hg, hlL⟩ : ∃ g o, A = some ⟨g, o, none⟩ ∧ g < w.heap.size ∧ ItL w w.heap.size g o l := by
       rcases HL.out with rfl | h
       ·simp at hlt
       ·exact h
     obtain ⟨v5, h5, hv5⟩ := ItL.at hlL (List.getElem?_eq_getElem hlt)
     have hB0 : Below w.heap.size w wr := (bR.alloc (Nat.le_refl _) _).trans (HB.out.mono (by simp))
     have h5' := h5.below hB0 hg
     obtain ⟨v0, v1, v2, v3, v4, rfl, e0, e1, e2, e3, e4⟩ := h5'
     clear hlL h5
     have HV5 := h_ (ItV.mono hB0.size _ (ItV.below hB0 _ hv5))
     clear hv5
     have HST := h_ (rightL_step l j hlt)
     have HM : Hid (l[j].right = false → rightL l = false) := by
      intro h
      cases hr : rightL l
      ·rfl
      ·rw [rightL_mem hr (List.getElem_mem hlt)] at h
       cases h
     have HC := h_ (IH.out l[j] (List.getElem_mem hlt) (.agg #[v0, v1, v2, v3, v4]))
     obtain ⟨q, hq⟩ : ∃ q, q = l[j].right := ⟨_, rfl⟩
     rw [← hq] at HC HST HM
     clear hq
     cases q
     ·go_wp2_with fail
      refine (HC.out _ HV5.out).mono ?_
      rintro e w2 ⟨rfl, hb2⟩
      have HB3 := h_ (hB0.trans (hb2.mono hB0.size))
      clear hb2 e0 e1 e2 e3 e4 hcell
      go_wp2_with fail
      go_ret
      exact ⟨by rw [HM.out trivial]; simp, HB3.out⟩
     ·go_wp2_with fail
      refine (HC.out _ HV5.out).mono ?_
      rintro e w2 ⟨rfl, hb2⟩
      have HB3 : Hid (Below (w.alloc (.cells #[.int .i64 k, .int .u64 n, .slice a b.length c, .string ⟨s.toArray⟩, (.slice (some ⟨g, o, none⟩) l.length C)] 45)).heap.size (w.alloc (.cells #[.int .i64 k, .int .u64 n, .slice a b.length c, .string ⟨s.toArray⟩, (.slice (some ⟨g, o, none⟩) l.length C)] 45)) w2) := below_on HB.out hb2
      clear hb2 e0 e1 e2 e3 e4 hcell
      go_wp2_with fail
      go_roundw
      case rel => exact ⟨j + 1, by omega, by go_num, by rw [HST.out, HRj.out]; rfl, HB3⟩
      case measure => simp [intOf]; omega
    ·obtain rfl : j = l.length := by omega
     rw [List.take_length] at HRj
     go_wp2_with fail
     go_ret
     exact ⟨by rw [HRj.out]; simp, (bR.alloc (Nat.le_refl _) _).trans (HB.out.mono (by simp))⟩


set_option maxRecDepth 100000 in
theorem refHead_small (m : Nat) (n : Int) (w : World) (hm : m ≤ 7) (hn : 0 ≤ n) (h : n < 24) :
  Calls Tryz.prog 27 #[.int .i64 m, .int .u64 n] w (JoinP w (headB m n)) := by
 obtain ⟨k, rfl⟩ := Int.eq_ofNat_of_zero_le hn
 have e := byte_enc (32 * m + k) (by omega)
 have E : Hid (Value.int .u8 (32 * (m : Int) + (k : Int)) = encB (UInt8.ofNat (32 * m + k))) := by rw [← e]; simp [Hid]
 have HB := h_ (headB_small m k h)
 have hm' : (m : Int) ≤ 7 := by omega
 clear e
 go_enter Tryz.func27, Tryz.ntmps27
 go_wp2_with fail
 go_ret
 rw [E.out, HB.out]
 exact ⟨_, rfl, OwnV.lit w w.heap.size 5 #[encB (UInt8.ofNat (32 * m + k))] (Nat.le_refl _) (by simp [maxLen]), bR.alloc (Nat.le_refl _) _⟩

set_option maxRecDepth 100000 in
theorem refHead_wide (m : Nat) (n : Int) (w : World) (hm : m ≤ 7) (hn : U64 n) (h : ¬ n < 24) :
  Calls Tryz.prog 27 #[.int .i64 m, .int .u64 n] w (JoinP w (headB m n)) := by
 obtain ⟨W, hW, hx, hf⟩ := least_good n
 have HB := h_ (headB_wide m n h W hW)
 have HW := h_ hW
 have HF := h_ hf
 have HN := h_ hn
 have HX := h_ hx
 have HL := h_ (beB_length W n)
 have hm' : (m : Int) ≤ 7 := by omega
 have hc := isW_cases hx
 have hW8 : W = 1 ∨ W = 2 ∨ W = 4 ∨ W = 8 := by omega
 clear hW hx hf hn hc
 rcases hW8 with rfl | rfl | rfl | rfl
 ·have e := byte_enc (32 * m + 24 + 0) (by omega)
  have E : Hid (Value.int .u8 (32 * (m : Int) + 24) = encB (UInt8.ofNat (32 * m + 24 + lg 1))) := by
   rw [show lg 1 = 0 from rfl, ← e]
   simp only [Hid, Value.int.injEq, true_and]
   omega
  clear e
  go_enter Tryz.func27, Tryz.ntmps27
  go_wp2_with fail
  refine (refLeast_any _ _ HN.out).mono ?_
  rintro e w1 ⟨rfl, hb1⟩
  rw [HW.out]
  go_wp2_with fail
  refine (refPut_yes 1 n _ HX.out HN.out HF.out).mono ?_
  rintro e w2 ⟨v, rfl, ⟨a2, c2, rfl, hc2, hr2, _⟩, hb2⟩
  have B2 := h_ (below_on hb1 hb2)
  have HS := h_ (hr2.src.alloc (.cells #[.int .u8 (32 * (m : Int) + 24)] 5))
  have hob := OwnV.lit w2 w2.heap.size 5 #[.int .u8 (32 * (m : Int) + 24)] (Nat.le_refl _) (by simp [maxLen])
  have o1 := h_ (encB_one (beB 1 n))
  have hL1 : Hid (([.int .u8 (32 * (m : Int) + 24)] : List Value).length + ((beB 1 n).map encB).length ≤ maxLen) := by simp [Hid, maxLen, beB_length]
  have hL2 : Hid ((([.int .u8 (32 * (m : Int) + 24)] : List Value).length + ((beB 1 n).map encB).length) * 1 ≤ 140737488355328) := by simp [Hid, beB_length]
  clear hr2 hb1 hb2
  go_wp2_with fail
  go_loop [9, 10] (fun k i => (k = .int .u8 24 ∧ i = .int .i64 1)) (fun _ i => (intOf i).toNat)
  case atStart => exact ⟨rfl, rfl⟩
  case round =>
   obtain ⟨rfl, rfl⟩ := hrel
   ·go_wp2_with (at_builtin; refine wpList_app _ rfl _ _ 22 rfl w2.heap.size 5 (.int .u8 0) 1 Tryz.underlying22 info_u8 rfl _ _ rfl hob _ _ _ _ rfl (List.length_map _) HS.out o1.out hL1.out hL2.out (by simp) ?_; intro v' w3 hp)
    go_ret
    refine ⟨v', rfl, ?_, B2.out.trans (((bR.alloc (Nat.le_refl _) _).trans (hp.below hob (by simp))).mono B2.out.size)⟩
    have h1 := hp.1.base B2.out.size
    rw [HB.out, List.map_append, List.map_cons, List.map_nil, ← E.out]
    exact h1
 ·have e := byte_enc (32 * m + 24 + 1) (by omega)
  have E : Hid (Value.int .u8 (32 * (m : Int) + 25) = encB (UInt8.ofNat (32 * m + 24 + lg 2))) := by
   rw [show lg 2 = 1 from rfl, ← e]
   simp only [Hid, Value.int.injEq, true_and]
   omega
  clear e
  go_enter Tryz.func27, Tryz.ntmps27
  go_wp2_with fail
  refine (refLeast_any _ _ HN.out).mono ?_
  rintro e w1 ⟨rfl, hb1⟩
  rw [HW.out]
  go_wp2_with fail
  refine (refPut_yes 2 n _ HX.out HN.out HF.out).mono ?_
  rintro e w2 ⟨v, rfl, ⟨a2, c2, rfl, hc2, hr2, _⟩, hb2⟩
  have B2 := h_ (below_on hb1 hb2)
  have HS := h_ (hr2.src.alloc (.cells #[.int .u8 (32 * (m : Int) + 25)] 5))
  have hob := OwnV.lit w2 w2.heap.size 5 #[.int .u8 (32 * (m : Int) + 25)] (Nat.le_refl _) (by simp [maxLen])
  have o1 := h_ (encB_one (beB 2 n))
  have hL1 : Hid (([.int .u8 (32 * (m : Int) + 25)] : List Value).length + ((beB 2 n).map encB).length ≤ maxLen) := by simp [Hid, maxLen, beB_length]
  have hL2 : Hid ((([.int .u8 (32 * (m : Int) + 25)] : List Value).length + ((beB 2 n).map encB).length) * 1 ≤ 140737488355328) := by simp [Hid, beB_length]
  clear hr2 hb1 hb2
  go_wp2_with fail
  go_loop [9, 10] (fun k i => (k = .int .u8 24 ∧ i = .int .i64 2) ∨ (k = .int .u8 25 ∧ i = .int .i64 1)) (fun _ i => (intOf i).toNat)
  case atStart => exact .inl ⟨rfl, rfl⟩
  case round =>
   rcases hrel with ⟨rfl, rfl⟩ | ⟨rfl, rfl⟩
   ·go_wp2
    go_round
    case rel => exact .inr (⟨rfl, rfl⟩)
    case measure => simp [intOf]
   ·go_wp2_with (at_builtin; refine wpList_app _ rfl _ _ 22 rfl w2.heap.size 5 (.int .u8 0) 1 Tryz.underlying22 info_u8 rfl _ _ rfl hob _ _ _ _ rfl (List.length_map _) HS.out o1.out hL1.out hL2.out (by simp) ?_; intro v' w3 hp)
    go_ret
    refine ⟨v', rfl, ?_, B2.out.trans (((bR.alloc (Nat.le_refl _) _).trans (hp.below hob (by simp))).mono B2.out.size)⟩
    have h1 := hp.1.base B2.out.size
    rw [HB.out, List.map_append, List.map_cons, List.map_nil, ← E.out]
    exact h1
 ·have e := byte_enc (32 * m + 24 + 2) (by omega)
  have E : Hid (Value.int .u8 (32 * (m : Int) + 26) = encB (UInt8.ofNat (32 * m + 24 + lg 4))) := by
   rw [show lg 4 = 2 from rfl, ← e]
   simp only [Hid, Value.int.injEq, true_and]
   omega
  clear e
  go_enter Tryz.func27, Tryz.ntmps27
  go_wp2_with fail
  refine (refLeast_any _ _ HN.out).mono ?_
  rintro e w1 ⟨rfl, hb1⟩
  rw [HW.out]
  go_wp2_with fail
  refine (refPut_yes 4 n _ HX.out HN.out HF.out).mono ?_
  rintro e w2 ⟨v, rfl, ⟨a2, c2, rfl, hc2, hr2, _⟩, hb2⟩
  have B2 := h_ (below_on hb1 hb2)
  have HS := h_ (hr2.src.alloc (.cells #[.int .u8 (32 * (m : Int) + 26)] 5))
  have hob := OwnV.lit w2 w2.heap.size 5 #[.int .u8 (32 * (m : Int) + 26)] (Nat.le_refl _) (by simp [maxLen])
  have o1 := h_ (encB_one (beB 4 n))
  have hL1 : Hid (([.int .u8 (32 * (m : Int) + 26)] : List Value).length + ((beB 4 n).map encB).length ≤ maxLen) := by simp [Hid, maxLen, beB_length]
  have hL2 : Hid ((([.int .u8 (32 * (m : Int) + 26)] : List Value).length + ((beB 4 n).map encB).length) * 1 ≤ 140737488355328) := by simp [Hid, beB_length]
  clear hr2 hb1 hb2
  go_wp2_with fail
  go_loop [9, 10] (fun k i => (k = .int .u8 24 ∧ i = .int .i64 4) ∨ (k = .int .u8 25 ∧ i = .int .i64 2) ∨ (k = .int .u8 26 ∧ i = .int .i64 1)) (fun _ i => (intOf i).toNat)
  case atStart => exact .inl ⟨rfl, rfl⟩
  case round =>
   rcases hrel with ⟨rfl, rfl⟩ | ⟨rfl, rfl⟩ | ⟨rfl, rfl⟩
   ·go_wp2
    go_round
    case rel => exact .inr (.inl ⟨rfl, rfl⟩)
    case measure => simp [intOf]
   ·go_wp2
    go_round
    case rel => exact .inr (.inr (⟨rfl, rfl⟩))
    case measure => simp [intOf]
   ·go_wp2_with (at_builtin; refine wpList_app _ rfl _ _ 22 rfl w2.heap.size 5 (.int .u8 0) 1 Tryz.underlying22 info_u8 rfl _ _ rfl hob _ _ _ _ rfl (List.length_map _) HS.out o1.out hL1.out hL2.out (by simp) ?_; intro v' w3 hp)
    go_ret
    refine ⟨v', rfl, ?_, B2.out.trans (((bR.alloc (Nat.le_refl _) _).trans (hp.below hob (by simp))).mono B2.out.size)⟩
    have h1 := hp.1.base B2.out.size
    rw [HB.out, List.map_append, List.map_cons, List.map_nil, ← E.out]
    exact h1
 ·have e := byte_enc (32 * m + 24 + 3) (by omega)
  have E : Hid (Value.int .u8 (32 * (m : Int) + 27) = encB (UInt8.ofNat (32 * m + 24 + lg 8))) := by
   rw [show lg 8 = 3 from rfl, ← e]
   simp only [Hid, Value.int.injEq, true_and]
   omega
  clear e
  go_enter Tryz.func27, Tryz.ntmps27
  go_wp2_with fail
  refine (refLeast_any _ _ HN.out).mono ?_
  rintro e w1 ⟨rfl, hb1⟩
  rw [HW.out]
  go_wp2_with fail
  refine (refPut_yes 8 n _ HX.out HN.out HF.out).mono ?_
  rintro e w2 ⟨v, rfl, ⟨a2, c2, rfl, hc2, hr2, _⟩, hb2⟩
  have B2 := h_ (below_on hb1 hb2)
  have HS := h_ (hr2.src.alloc (.cells #[.int .u8 (32 * (m : Int) + 27)] 5))
  have hob := OwnV.lit w2 w2.heap.size 5 #[.int .u8 (32 * (m : Int) + 27)] (Nat.le_refl _) (by simp [maxLen])
  have o1 := h_ (encB_one (beB 8 n))
  have hL1 : Hid (([.int .u8 (32 * (m : Int) + 27)] : List Value).length + ((beB 8 n).map encB).length ≤ maxLen) := by simp [Hid, maxLen, beB_length]
  have hL2 : Hid ((([.int .u8 (32 * (m : Int) + 27)] : List Value).length + ((beB 8 n).map encB).length) * 1 ≤ 140737488355328) := by simp [Hid, beB_length]
  clear hr2 hb1 hb2
  go_wp2_with fail
  go_loop [9, 10] (fun k i => (k = .int .u8 24 ∧ i = .int .i64 8) ∨ (k = .int .u8 25 ∧ i = .int .i64 4) ∨ (k = .int .u8 26 ∧ i = .int .i64 2) ∨ (k = .int .u8 27 ∧ i = .int .i64 1)) (fun _ i => (intOf i).toNat)
  case atStart => exact .inl ⟨rfl, rfl⟩
  case round =>
   rcases hrel with ⟨rfl, rfl⟩ | ⟨rfl, rfl⟩ | ⟨rfl, rfl⟩ | ⟨rfl, rfl⟩
   ·go_wp2
    go_round
    case rel => exact .inr (.inl ⟨rfl, rfl⟩)
    case measure => simp [intOf]
   ·go_wp2
    go_round
    case rel => exact .inr (.inr (.inl ⟨rfl, rfl⟩))
    case measure => simp [intOf]
   ·go_wp2
    go_round
    case rel => exact .inr (.inr (.inr (⟨rfl, rfl⟩)))
    case measure => simp [intOf]
   ·go_wp2_with (at_builtin; refine wpList_app _ rfl _ _ 22 rfl w2.heap.size 5 (.int .u8 0) 1 Tryz.underlying22 info_u8 rfl _ _ rfl hob _ _ _ _ rfl (List.length_map _) HS.out o1.out hL1.out hL2.out (by simp) ?_; intro v' w3 hp)
    go_ret
    refine ⟨v', rfl, ?_, B2.out.trans (((bR.alloc (Nat.le_refl _) _).trans (hp.below hob (by simp))).mono B2.out.size)⟩
    have h1 := hp.1.base B2.out.size
    rw [HB.out, List.map_append, List.map_cons, List.map_nil, ← E.out]
    exact h1

theorem refHead_any (m : Nat) (n : Int) (w : World) (hm : m ≤ 7) (hn : U64 n) :
  Calls Tryz.prog 27 #[.int .i64 m, .int .u64 n] w (JoinP w (headB m n)) := by
 by_cases h : n < 24
 ·exact refHead_small m n w hm hn.1 h
 ·exact refHead_wide m n w hm hn h


theorem step_run {P : Program} {ops : Array Oper} {o : Oper} {a : Act} {w : World} {K : Act → World → Prop} {Q : Exit → Act → World → Prop} {E : Prop} (hgd : o.guard = none) (s x : Operand) (t u : TypeId)
  (ho : o.op = .call { callee := .builtin .append, args := #[s, x], argTypes := #[t, u] }) (v y v' : Value) (w' : World) (hv : a.eval s = v) (hy : a.eval x = y)
  (hrun : (Builtin.append_ #[t, u] o.type #[v, y]).run P w = .ok v' w') (h : K (a.put o.dst v') w') : if Region.wanted o (yielded ops a.tmps) = true then Oper.wp P o a w K Q else E := by
 have hw : Region.wanted o (yielded ops a.tmps) = true := by simp [Region.wanted, hgd]
 rw [if_pos hw]
 unfold Oper.wp execOp
 simp only [ho, resolve, invoke, builtin, Sem.run_bind, Sem.run_pure, Result.andThen_ok, List.map_toArray, List.map_cons, List.map_nil, hv, hy, hrun]
 exact h

set_option maxRecDepth 100000 in
theorem refBytes_2 (n : Int) (a : Option Addr) (b : List UInt8) (c : Nat) (v3 v4 : Value) (w : World) (hrb : RdB w w.heap.size a b) (hl : b.length ≤ 1000000000) :
  Calls Tryz.prog 14 #[.agg #[.int .i64 2, .int .u64 n, .slice a b.length c, v3, v4]] w (JoinP w (headB 2 b.length ++ b)) := by
 obtain ⟨W0, hW0⟩ : ∃ W0, W0 = w.alloc (.cells #[.int .i64 2, .int .u64 n, .slice a b.length c, v3, v4] 45) := ⟨_, rfl⟩
 have HB0 : Hid (Below w.heap.size w W0) := by rw [hW0]; exact below_al bR _
 have HELD : Hid (∀ w', Below W0.heap.size W0 w' → w'.cell? ⟨w.heap.size, 2, none⟩ = some (.slice a b.length c) ∧ Below W0.heap.size W0 w') := by
  intro w' h
  refine ⟨?_, h⟩
  rw [hW0] at h
  rw [h.cell (by simp)]
  simp
 have F0 : Below W0.heap.size W0 W0.drew := bR.drew
 have HC : Hid (∀ w, Calls Tryz.prog 27 #[.int .i64 2, .int .u64 b.length] w (JoinP w (headB 2 b.length))) := fun w => refHead_any 2 b.length w (by omega) ⟨by omega, by omega⟩
 have hw : IntKind.u64.wrap (b.length : Int) = (b.length : Int) := by rw [IntKind.wrap_u64]; omega
 have hh := (head_length 2 b.length).2
 have HL1 : Hid (((headB 2 b.length).map encB).length + (b.map encB).length ≤ maxLen) := by simp [Hid, maxLen]; omega
 have HL2 : Hid ((((headB 2 b.length).map encB).length + (b.map encB).length) * 1 ≤ 140737488355328) := by simp [Hid]; omega
 have HR := h_ hrb
 have HW0 := h_ hW0
 clear hW0 hrb hh
 go_enter Tryz.func14, Tryz.ntmps14
 go_wp2
 rw [← HW0.out]
 go_region_held3 (fun w' => w'.cell? ⟨w.heap.size, 2, none⟩ = some (.slice a b.length c) ∧ Below W0.heap.size W0 w')
  (first | (refine HELD.out _ ?_; with_reducible exact F0) | (refine HELD.out _ ?_; with_reducible exact F1) | (refine HELD.out _ ?_; with_reducible exact F2))
  (first
   | (go_at_call 27; (with_reducible refine (HC.out _).mono ?_); rintro e W1 ⟨v1, rfl, ho1, h1⟩; have F1 := F0.trans (h1.mono F0.size)
      have B1 := HB0.out.trans (F1.mono HB0.out.size)
      have hob : OwnV W1 W0.heap.size 5 v1 ((headB 2 b.length).map encB) := ho1
      obtain ⟨v2, W2, hrun, hp⟩ := run_app (P := Tryz.prog) W1 W0.heap.size 22 22 5 (.int .u8 0) 1 Tryz.underlying22 info_u8 rfl v1 _ hob a b.length c (b.map encB) (List.length_map _) (HR.out.below B1).src (encB_one b) HL1.out HL2.out F1.size
      have HO := h_ hp.1
      have HRun := h_ hrun
      have F2 := F1.trans (hp.below hob F1.size)
      clear hrun hp hob ho1 h1 B1)
   | (refine step_run (by rfl) _ _ _ _ (by rfl) _ _ _ _ (by rfl) (by rfl) HRun.out ?_))
 go_wp2
 go_ret
 refine ⟨v2, rfl, ?_, HB0.out.trans (F2.mono HB0.out.size)⟩
 rw [List.map_append]
 exact HO.out.base HB0.out.size

theorem strCells_list (s : List UInt8) : Lib.strCells ⟨s.toArray⟩ = s.map encB := rfl

set_option maxRecDepth 100000 in
theorem refBytes_3 (n : Int) (s : List UInt8) (v2 v4 : Value) (w : World) (hl : s.length ≤ 1000000000) :
  Calls Tryz.prog 14 #[.agg #[.int .i64 3, .int .u64 n, v2, .string ⟨s.toArray⟩, v4]] w (JoinP w (headB 3 s.length ++ s)) := by
 obtain ⟨W0, hW0⟩ : ∃ W0, W0 = w.alloc (.cells #[.int .i64 3, .int .u64 n, v2, .string ⟨s.toArray⟩, v4] 45) := ⟨_, rfl⟩
 have HB0 : Hid (Below w.heap.size w W0) := by rw [hW0]; exact below_al bR _
 have HELD : Hid (∀ w', Below W0.heap.size W0 w' → w'.cell? ⟨w.heap.size, 3, none⟩ = some (.string ⟨s.toArray⟩) ∧ Below W0.heap.size W0 w') := by
  intro w' h
  refine ⟨?_, h⟩
  rw [hW0] at h
  rw [h.cell (by simp)]
  simp
 have F0 : Below W0.heap.size W0 W0.drew := bR.drew
 have HC : Hid (∀ w, Calls Tryz.prog 27 #[.int .i64 3, .int .u64 s.length] w (JoinP w (headB 3 s.length))) := fun w => refHead_any 3 s.length w (by omega) ⟨by omega, by omega⟩
 have hw : IntKind.u64.wrap (s.length : Int) = (s.length : Int) := by rw [IntKind.wrap_u64]; omega
 have hh := (head_length 3 s.length).2
 have hs1 : (⟨s.toArray⟩ : ByteArray).size = s.length := by simp [ByteArray.size]
 have HL1 : Hid (((headB 3 s.length).map encB).length + (⟨s.toArray⟩ : ByteArray).size ≤ maxLen) := by rw [hs1]; simp [Hid, maxLen]; omega
 have HL2 : Hid (((headB 3 s.length).map encB).length + (⟨s.toArray⟩ : ByteArray).size ≤ 140737488355328) := by rw [hs1]; simp [Hid]; omega
 have HS1 := h_ hs1
 obtain ⟨i0, hi0, hz0, hz1, hz2⟩ := info_parts info_u8
 have HI0 := h_ hi0
 have HZ0 := h_ hz0
 have HZ1 := h_ hz1
 have HZ2 := h_ hz2
 have HW0 := h_ hW0
 clear hW0 hh hs1 hi0 hz0 hz1 hz2
 go_enter Tryz.func14, Tryz.ntmps14
 go_wp2
 rw [← HW0.out]
 go_region_held3 (fun w' => w'.cell? ⟨w.heap.size, 3, none⟩ = some (.string ⟨s.toArray⟩) ∧ Below W0.heap.size W0 w')
  (first | (refine HELD.out _ ?_; with_reducible exact F0) | (refine HELD.out _ ?_; with_reducible exact F1) | (refine HELD.out _ ?_; with_reducible exact F2))
  (first
   | (go_at_call 27; (with_reducible refine (HC.out _).mono ?_); rintro e W1 ⟨v1, rfl, ho1, h1⟩; have F1 := F0.trans (h1.mono F0.size)
      have B1 := HB0.out.trans (F1.mono HB0.out.size)
      have hob : OwnV W1 W0.heap.size 5 v1 ((headB 3 s.length).map encB) := ho1
      obtain ⟨v9, W2, hrun, hp, hg, _⟩ := Lib.run_append_own_string (P := Tryz.prog) (w := W1) W0.heap.size 22 9 22 5 i0 Tryz.underlying22 Tryz.underlying9 HI0.out HZ0.out HZ1.out HZ2.out v1 _ _ hob ⟨s.toArray⟩ HL1.out HL2.out F1.size
      have HO := h_ hp
      have HRun := h_ hrun
      have F2 := F1.trans (bR.grown hg F1.size (fun r e => (OwnV.row hob r e).1))
      clear hrun hp hg hob ho1 h1 B1)
   | (refine step_run (by rfl) _ _ _ _ (by rfl) _ _ _ _ (by rfl) (by rfl) HRun.out ?_))
 go_wp2
 go_ret
 refine ⟨v9, rfl, ?_, HB0.out.trans (F2.mono HB0.out.size)⟩
 have h1 := HO.out
 rw [strCells_list, HS1.out] at h1
 have h2 : OwnV W2 W0.heap.size 5 v9 ((headB 3 s.length ++ s).map encB) := by
  unfold OwnV
  rw [List.map_append, List.length_append, List.length_map, List.length_map]
  rw [List.length_map] at h1
  exact h1
 exact h2.base HB0.out.size


theorem bareB_iff {k n : Int} {b s : List UInt8} {m : Nat} (h : bareB k n b s m = true) : (k = 1 ∨ k = 5 ∨ n = 0) ∧ (k = 2 ∨ b = []) ∧ (k = 3 ∨ s = []) ∧ (k = 4 ∨ m = 0) := by
 unfold bareB at h
 simpa using h

theorem bytesL_take_le : ∀ (l : List It) (j : Nat), (bytesL (l.take j)).length ≤ (bytesL l).length
 | [], _ => by simp
 | _ :: _, 0 => by simp [bytesL]
 | x :: xs, j + 1 => by
  have := bytesL_take_le xs j
  simp only [List.take_succ_cons, bytesL, List.length_append]
  omega

set_option maxRecDepth 100000 in
theorem refBytes_any : ∀ (x : It) (v : Value) (w : World), x.right = true → x.bytes.length ≤ 1000000000 → ItV w w.heap.size v x →
  Calls Tryz.prog 14 #[v] w (JoinP w x.bytes) := by
 refine It.ind fun k n b s l ih v w hr hlen hv => ?_
 simp only [ItV] at hv
 obtain ⟨A, ⟨a, c, C, rfl, ⟨hc, hC⟩, hrb, hn, hk, hsb, hss, hsl⟩, hl⟩ := hv
 simp only [Sz] at hsb hss hsl
 have e9 : (It.mk k n b s l).right = (rightN k n b s l.length && rightL l) := by simp [It.right]
 rw [e9, rightN_parts k n b s l.length hn.1] at hr
 simp only [Bool.and_eq_true, decide_eq_true_eq, Bool.not_eq_true', decide_eq_false_iff_not] at hr
 obtain ⟨⟨⟨hk1, hk6⟩, hba, h5, hR⟩, hrl⟩ := hr
 obtain ⟨b1, b2, b3, b4⟩ := bareB_iff hba
 have eb : (It.mk k n b s l).bytes = ownB k n b s l.length ++ bytesL l := by simp [It.bytes]
 rw [eb] at hlen ⊢
 rw [List.length_append] at hlen
 have hn0 := hn.1
 clear e9 eb hba hR
 have hk9 : k = 1 ∨ k = 2 ∨ k = 3 ∨ k = 4 ∨ k = 5 ∨ k = 6 := by omega
 rcases hk9 with rfl | rfl | rfl | rfl | rfl | rfl
 ·obtain rfl : l = [] := List.eq_nil_of_length_eq_zero (by omega)
  have e : ownB 1 n b s ([] : List It).length ++ bytesL [] = headB 0 n := by simp [ownB, bytesL]
  rw [e]
  have HC : Hid (∀ w, Calls Tryz.prog 27 #[.int .i64 0, .int .u64 n] w (JoinP w (headB 0 n))) := fun w => refHead_any 0 n w (by omega) hn
  clear e hn hrb ih hl b1 b2 b3 b4 h5 hrl hlen hk
  go_enter Tryz.func14, Tryz.ntmps14
  go_wp2_with fail
  refine (HC.out _).mono ?_
  rintro e w1 ⟨v1, rfl, ho, hb1⟩
  go_wp2
  go_ret
  exact ⟨v1, rfl, ho.base (by simp), below_on (below_al bR _) hb1⟩
 ·obtain rfl : l = [] := List.eq_nil_of_length_eq_zero (by omega)
  have e : ownB 2 n b s ([] : List It).length ++ bytesL [] = headB 2 b.length ++ b := by simp [ownB, bytesL]
  rw [e]
  refine refBytes_2 n a b c _ _ w hrb ?_
  have h1 : (ownB 2 n b s ([] : List It).length).length = (headB 2 b.length).length + b.length := by simp [ownB]
  omega
 ·obtain rfl : l = [] := List.eq_nil_of_length_eq_zero (by omega)
  have e : ownB 3 n b s ([] : List It).length ++ bytesL [] = headB 3 s.length ++ s := by simp [ownB, bytesL]
  rw [e]
  refine refBytes_3 n s _ _ w ?_
  have h1 : (ownB 3 n b s ([] : List It).length).length = (headB 3 s.length).length + s.length := by simp [ownB]
  omega
 ·have e : ownB 4 n b s l.length = headB 4 l.length := by simp [ownB]
  rw [e] at hlen ⊢
  obtain ⟨W0, hW0⟩ : ∃ W0, W0 = w.alloc (.cells #[.int .i64 4, .int .u64 n, .slice a b.length c, .string ⟨s.toArray⟩, .slice A l.length C] 45) := ⟨_, rfl⟩
  have HB0 : Hid (Below w.heap.size w W0) := by rw [hW0]; exact below_al bR _
  have HCELL : Hid (∀ w', Below W0.heap.size W0 w' → w'.cell? ⟨w.heap.size, 4, none⟩ = some (.slice A l.length C)) := by
   intro w' h
   rw [hW0] at h
   rw [h.cell (by simp)]
   simp
  have HC : Hid (∀ w, Calls Tryz.prog 27 #[.int .i64 4, .int .u64 l.length] w (JoinP w (headB 4 l.length))) := fun w => refHead_any 4 l.length w (by omega) ⟨by omega, by omega⟩
  have hw : IntKind.u64.wrap (l.length : Int) = (l.length : Int) := by rw [IntKind.wrap_u64]; omega
  have HW0 := h_ hW0
  have HL := h_ hl
  have IH := h_ ih
  have HRL := h_ hrl
  have HLEN := h_ hlen
  clear hW0 hl ih hrl hlen e hrb hn b1 b2 b3 b4 h5 hk
  go_enter Tryz.func14, Tryz.ntmps14
  go_wp2_with fail
  rw [← HW0.out]
  refine (HC.out _).mono ?_
  rintro e w1 ⟨v1, rfl, ho1, hb1⟩
  have c1 := HCELL.out w1 hb1
  go_wp2_with fail
  go_loopw [3, 4] (fun u i wr => ∃ j : Nat, j ≤ l.length ∧ i = .int .i64 j ∧ Hid (OwnV wr W0.heap.size 5 u ((headB 4 l.length ++ bytesL (l.take j)).map encB)) ∧ Hid (Below W0.heap.size W0 wr)) (fun _ i _ => l.length - (intOf i).toNat)
  case atStart => exact ⟨0, Nat.zero_le _, rfl, by simpa [Hid, bytesL] using ho1, hb1⟩
  case round =>
   obtain ⟨j, hj, rfl, HO, HB⟩ := hrel
   have hcell := HCELL.out wr HB.out
   clear c1 ho1 hb1
   by_cases hlt : j < l.length
   ·obtain ⟨g, o, rfl, hg, hlL⟩ : ∃ g o, A = some ⟨g, o, none⟩ ∧ g < w.heap.size ∧ ItL w w.heap.size g o l := by
      rcases HL.out with rfl | h
      ·simp at hlt
      ·exact h
    obtain ⟨v5, h5, hv5⟩ := ItL.at hlL (List.getElem?_eq_getElem hlt)
    have hB0 : Below w.heap.size w wr := HB0.out.trans (HB.out.mono HB0.out.size)
    have h5' := h5.below hB0 hg
    obtain ⟨v0, v1, v2, v3, v4, rfl, e0, e1, e2, e3, e4⟩ := h5'
    clear hlL h5
    have HV5 := h_ (ItV.mono hB0.size _ (ItV.below hB0 _ hv5))
    clear hv5
    have hst := bytesL_step l j hlt
    have hle := bytesL_take_le l (j + 1)
    rw [hst, List.length_append] at hle
    have h9 := HLEN.out
    have HST := h_ hst
    have hL1 : Hid (((headB 4 l.length ++ bytesL (l.take j)).map encB).length + (l[j].bytes.map encB).length ≤ maxLen) := by simp [Hid, maxLen]; omega
    have hL2 : Hid ((((headB 4 l.length ++ bytesL (l.take j)).map encB).length + (l[j].bytes.map encB).length) * 1 ≤ 140737488355328) := by simp [Hid]; omega
    have HCj := h_ (IH.out l[j] (List.getElem_mem hlt) (.agg #[v0, v1, v2, v3, v4]) wr (rightL_mem HRL.out (List.getElem_mem hlt)) (by omega) HV5.out)
    have o1 := h_ (encB_one l[j].bytes)
    clear hst hle h9
    go_wp2_with fail
    refine HCj.out.mono ?_
    rintro e w2 ⟨v9, rfl, ho9, hb9⟩
    obtain ⟨A9, C9, rfl, hC9, hr9, _⟩ := ho9.bytes
    have hown := HO.out.later hb9
    have HS := h_ hr9.src
    have HB2 := h_ (below_on HB.out hb9)
    have HB3 := h_ (hB0.trans (hb9.mono hB0.size))
    clear ho9 hr9 hb9 e0 e1 e2 e3 e4 hcell
    go_wp2_with (at_builtin; refine wpList_app _ rfl _ _ 22 rfl W0.heap.size 5 (.int .u8 0) 1 Tryz.underlying22 info_u8 rfl _ _ rfl hown _ _ _ _ rfl (List.length_map _) HS.out o1.out hL1.out hL2.out HB2.out.size ?_; intro v' w3 hp)
    go_roundw
    case rel =>
     refine ⟨j + 1, by omega, by go_num, ?_, ?_⟩
     ·have h1 := hp.1
      rw [← List.map_append, List.append_assoc, ← HST.out] at h1
      exact h1
     ·exact HB2.out.trans (hp.below hown HB2.out.size)
    case measure => simp [intOf]; omega
   ·obtain rfl : j = l.length := by omega
    rw [List.take_length] at HO
    go_wp2
    go_ret
    exact ⟨_, rfl, HO.out.base HB0.out.size, HB0.out.trans (HB.out.mono HB0.out.size)⟩
 ·obtain rfl : l = [] := List.eq_nil_of_length_eq_zero (by omega)
  obtain ⟨q, rfl⟩ := Int.eq_ofNat_of_zero_le hn0
  have hq : q ≤ 1 := by omega
  have E := byte_enc (244 + q) (by omega)
  have E2 : Hid (Value.int .u8 (244 + (q : Int)) = encB (UInt8.ofNat (244 + q))) := by rw [← E]; simp [Hid]
  have e : ownB 5 (q : Int) b s ([] : List It).length ++ bytesL [] = [UInt8.ofNat (244 + q)] := by
   have h1 : ownB 5 (q : Int) b s ([] : List It).length = headB 7 (20 + (q : Int)) := by simp [ownB]
   rw [h1, headB_small 7 _ (by omega)]
   have h2 : 32 * 7 + (20 + (q : Int)).toNat = 244 + q := by omega
   rw [h2]
   simp [bytesL]
  rw [e]
  have hqi : (q : Int) ≤ 1 := by omega
  clear e E hn hrb ih hl b1 b2 b3 b4 h5 hrl hlen hk
  go_enter Tryz.func14, Tryz.ntmps14
  go_wp2_with fail
  go_ret
  rw [E2.out]
  obtain ⟨W0, hW0⟩ : ∃ W0, W0 = w.alloc (.cells #[.int .i64 5, .int .u64 (q : Int), .slice a b.length c, .string ⟨s.toArray⟩, .slice A ([] : List It).length C] 45) := ⟨_, rfl⟩
  have hz : W0.heap.size = w.heap.size + 1 := by rw [hW0]; simp
  have h := OwnV.lit W0 W0.heap.size 5 #[encB (UInt8.ofNat (244 + q))] (Nat.le_refl _) (by simp [maxLen])
  have hB : Below w.heap.size w (W0.alloc (.cells #[encB (UInt8.ofNat (244 + q))] 5)) := by rw [hW0]; exact below_al (below_al bR _) _
  rw [hz] at h
  rw [hW0] at h hB
  exact ⟨_, rfl, h.base (Nat.le_succ _), hB⟩
 ·obtain rfl : l = [] := List.eq_nil_of_length_eq_zero (by omega)
  obtain rfl : n = 0 := by omega
  have e : ownB 6 0 b s ([] : List It).length ++ bytesL [] = [246] := by
   have h1 : ownB 6 0 b s ([] : List It).length = headB 7 22 := by simp [ownB]
   rw [h1, headB_small 7 _ (by omega)]
   simp [bytesL]
  rw [e]
  clear e hn hrb ih hl b1 b2 b3 b4 h5 hrl hlen hk
  go_enter Tryz.func14, Tryz.ntmps14
  go_wp2_with fail
  go_ret
  obtain ⟨W0, hW0⟩ : ∃ W0, W0 = w.alloc (.cells #[.int .i64 6, .int .u64 0, .slice a b.length c, .string ⟨s.toArray⟩, .slice A ([] : List It).length C] 45) := ⟨_, rfl⟩
  have hz : W0.heap.size = w.heap.size + 1 := by rw [hW0]; simp
  have h := OwnV.lit W0 W0.heap.size 5 #[encB 246] (Nat.le_refl _) (by simp [maxLen])
  have hB : Below w.heap.size w (W0.alloc (.cells #[encB 246] 5)) := by rw [hW0]; exact below_al (below_al bR _) _
  rw [hz] at h
  rw [hW0] at h hB
  exact ⟨_, rfl, h.base (Nat.le_succ _), hB⟩

end Go.Proofs.YteldifnkeekafaaGreatDoor
