/- Joined texts. -/
import Derived.Test.YteldifnkeekafaaGreatDoorZJb
import Derived.ArgAppend
import Derived.Test.YteldifnkeekafaaGreatDoorZJa
import Derived.Test.YteldifnkeekafaaGreatDoorZJd
set_option maxHeartbeats 2000000
namespace Go.Proofs.YteldifnkeekafaaGreatDoor
open Go.RowKit Go.Shelf

theorem OwnV.later {w w' : World} {base : Nat} {e : TypeId} {v : Value} {xs : List Value} (h : OwnV w base e v xs) (hb : Below w.heap.size w w') : OwnV w' base e v xs := by
 obtain ⟨h1, h2⟩ := h
 rcases h2 with h2 | ⟨g, cap, cur, hv, hg0, hg, r⟩
 ·exact ⟨h1, .inl h2⟩
 ·exact ⟨h1, .inr ⟨g, cap, cur, hv, hg0, (hb.block g (Array.getElem?_eq_some_iff.1 hg).1).trans hg, r⟩⟩

section
variable {P : Program} (w : World)

end

end Go.Proofs.YteldifnkeekafaaGreatDoor

namespace Go.Proofs.YteldifnkeekafaaGreatDoor
open Go.RowKit Go.Shelf

theorem equal_any (a1 a2 : Option Addr) (n1 n2 c1 c2 : Nat) (xs ys : List UInt8) (hn1 : n1 = xs.length) (hn2 : n2 = ys.length) (w : World) (B : Nat) (h1 : RdB w B a1 xs) (h2 : RdB w B a2 ys) :
  Calls Tryz.prog 157 #[.slice a1 n1 c1, .slice a2 n2 c2] w fun e w' => e = .returned (.bool (xs == ys)) ∧ w' = w := by
 have k1 := h1.text (P := Tryz.prog) 22 9 5 n1 c1 hn1 Tryz.underlying22 Tryz.underlying5 Tryz.underlying9
 have k2 := h2.text (P := Tryz.prog) 22 9 5 n2 c2 hn2 Tryz.underlying22 Tryz.underlying5 Tryz.underlying9
 clear h1 h2 hn1 hn2
 go_enter Tryz.func157, Tryz.ntmps157
 go_wp2
 go_ret
 exact ⟨rfl, rfl⟩

def TabW (w : World) : Prop :=
 (1 < w.heap.size ∧ w.cell? ⟨1, 0, none⟩ = some (.int .u8 0)) ∧ w.cell? ⟨1, 1, none⟩ = some (.int .u8 1) ∧
  w.cell? ⟨1, 3, none⟩ = some (.int .u8 2) ∧ w.cell? ⟨1, 7, none⟩ = some (.int .u8 3)

theorem TabW.below {B : Nat} {w w' : World} (h : TabW w) (hb : Below B w w') (hB : 1 < B) : TabW w' := by
 obtain ⟨⟨h0, h1⟩, h2, h3, h4⟩ := h
 refine ⟨⟨Nat.lt_of_lt_of_le h0 hb.size, ?_⟩, ?_, ?_, ?_⟩
 ·exact (hb.cell (p := ⟨1, 0, none⟩) (show 1 < B by omega)).trans h1
 ·exact (hb.cell (p := ⟨1, 1, none⟩) (show 1 < B by omega)).trans h2
 ·exact (hb.cell (p := ⟨1, 3, none⟩) (show 1 < B by omega)).trans h3
 ·exact (hb.cell (p := ⟨1, 7, none⟩) (show 1 < B by omega)).trans h4

theorem TabW.on {w w' : World} (h : TabW w) (hb : Below w.heap.size w w') : TabW w' := h.below hb h.1.1

def lg (W : Nat) : Nat := if W = 1 then 0 else if W = 2 then 1 else if W = 4 then 2 else 3

theorem tz64_core (x k idx : Nat) (w : World) (hx0 : ((x : Int) == 0) = false)
  (key : IntKind.u64.wrap (bits BinOp.and IntKind.u64 (x : Int) (IntKind.u64.wrap (-(x : Int))) * 285870213051353865) / 288230376151711744 = (idx : Int))
  (hi : idx < 64) (hk : k < 64) (hcell : w.cell? ⟨1, idx, none⟩ = some (.int .u8 k)) :
  Calls Tryz.prog 132 #[.int .u64 x] w fun e w' => e = .returned (.int .i64 k) ∧ w' = w := by
 go_enter Tryz.func132, Tryz.ntmps132
 go_wp2_with (simp only [key])
 go_ret
 exact ⟨rfl, rfl⟩

theorem tz64_any (W : Nat) (hW : isW W = true) (w : World) (hT : TabW w) :
  Calls Tryz.prog 132 #[.int .u64 W] w fun e w' => e = .returned (.int .i64 (lg W)) ∧ w' = w := by
 obtain ⟨⟨_, h1⟩, h2, h3, h4⟩ := hT
 have hc := isW_cases hW
 have hc' : W = 1 ∨ W = 2 ∨ W = 4 ∨ W = 8 := by omega
 rcases hc' with rfl | rfl | rfl | rfl
 ·exact tz64_core 1 0 0 w (by decide) (by decide +kernel) (by decide) (by decide) h1
 ·exact tz64_core 2 1 1 w (by decide) (by decide +kernel) (by decide) (by decide) h2
 ·exact tz64_core 4 2 3 w (by decide) (by decide +kernel) (by decide) (by decide) h3
 ·exact tz64_core 8 3 7 w (by decide) (by decide +kernel) (by decide) (by decide) h4

theorem tz_any (W : Nat) (hW : isW W = true) (w : World) (hT : TabW w) :
  Calls Tryz.prog 108 #[.int .u64 W] w fun e w' => e = .returned (.int .i64 (lg W)) ∧ w' = w := by
 have c64 := h_ (tz64_any W hW w hT)
 have hw : IntKind.u64.wrap (W : Int) = (W : Int) := by
  have := isW_cases hW
  rw [IntKind.wrap_u64]; omega
 go_enter Tryz.func108, Tryz.ntmps108
 go_wp2_with (go_at_call 132; refine c64.out.mono ?_; rintro e w' ⟨rfl, hw'⟩; rw [hw'])
 go_ret
 exact ⟨rfl, rfl⟩

theorem least_good (n : Int) : ∃ W : Nat, leastOf n = W ∧ isW W = true ∧ fits W n = true := by
 have h8 : fits 8 n = true := by simp [fits]
 unfold leastOf firstW
 by_cases h1 : fits 1 n = true
 ·exact ⟨1, by simp [h1], by decide, h1⟩
 ·by_cases h2 : fits 2 n = true
  ·exact ⟨2, by simp [h1, h2], by decide, h2⟩
  ·by_cases h4 : fits 4 n = true
   ·exact ⟨4, by simp [h1, h2, h4], by decide, h4⟩
   ·exact ⟨8, by simp [h1, h2, h4, h8], by decide, h8⟩

def headB (m : Nat) (n : Int) : List UInt8 :=
 if n < 24 then [UInt8.ofNat (32 * m + n.toNat)] else UInt8.ofNat (32 * m + 24 + lg (leastOf n).toNat) :: beB (leastOf n).toNat n

theorem head_length (m : Nat) (n : Int) : 1 ≤ (headB m n).length ∧ (headB m n).length ≤ 9 := by
 unfold headB
 split
 ·simp
 ·simp [beB_length, leastOf, firstW]
  split
  ·simp
  ·split
   ·simp
   ·split
    ·simp
    ·split <;> simp

theorem headB_small (m : Nat) (n : Int) (h : n < 24) : headB m n = [UInt8.ofNat (32 * m + n.toNat)] := if_pos h

theorem headB_wide (m : Nat) (n : Int) (h : ¬ n < 24) (W : Nat) (hW : leastOf n = W) : headB m n = [UInt8.ofNat (32 * m + 24 + lg W)] ++ beB W n := by
 rw [headB, if_neg h, hW]
 rfl

theorem lg_le (W : Nat) : lg W ≤ 3 := by
 unfold lg
 split
 ·omega
 ·split
  ·omega
  ·split <;> omega

theorem byte_enc (k : Nat) (hk : k < 256) : Value.int .u8 (k : Int) = encB (UInt8.ofNat k) := by
 simp only [encB, UInt8.toNat_ofNat']
 rw [Nat.mod_eq_of_lt (by omega)]

set_option maxRecDepth 100000 in
theorem head_small (m : Nat) (n : Int) (w : World) (hm : m ≤ 7) (hn : 0 ≤ n) (h : n < 24) :
  Calls Tryz.prog 78 #[.int .u8 m, .int .u64 n] w (JoinP w (headB m n)) := by
 obtain ⟨k, rfl⟩ := Int.eq_ofNat_of_zero_le hn
 have e := byte_enc (32 * m + k) (by omega)
 have E : Hid (Value.int .u8 (32 * (m : Int) + (k : Int)) = encB (UInt8.ofNat (32 * m + k))) := by rw [← e]; simp [Hid]
 have HB := h_ (headB_small m k h)
 clear e
 go_enter Tryz.func78, Tryz.ntmps78
 go_wp2_with fail
 go_ret
 rw [E.out, HB.out]
 exact ⟨_, rfl, OwnV.lit w w.heap.size 5 #[encB (UInt8.ofNat (32 * m + k))] (Nat.le_refl _) (by simp [maxLen]), bR.alloc (Nat.le_refl _) _⟩

set_option maxRecDepth 100000 in
theorem head_wide (m : Nat) (n : Int) (w : World) (hm : m ≤ 7) (hn : U64 n) (h : ¬ n < 24) (ht : TabW w) :
  Calls Tryz.prog 78 #[.int .u8 m, .int .u64 n] w (JoinP w (headB m n)) := by
 obtain ⟨W, hW, hx, hf⟩ := least_good n
 have hl := lg_le W
 have hWb : 1 ≤ W ∧ W ≤ 8 := by
  have := isW_cases hx
  omega
 have e := byte_enc (32 * m + 24 + lg W) (by omega)
 have E : Hid (Value.int .u8 (32 * (m : Int) + 24 + (lg W : Int)) = encB (UInt8.ofNat (32 * m + 24 + lg W))) := by rw [← e]; simp [Hid]
 have HB := h_ (headB_wide m n h W hW)
 have HW := h_ hW
 have HX := h_ hx
 have HF := h_ hf
 have HT := h_ ht
 have HN := h_ hn
 have HL := h_ (beB_length W n)
 have HWr : Hid (IntKind.u64.wrap (W : Int) = (W : Int)) := by
  simp only [Hid, IntKind.wrap_u64]
  omega
 have TZ0 : Hid (∀ w : World, TabW w → Calls Tryz.prog 108 #[.int .u64 W] w fun e w' => e = .returned (.int .i64 (lg W)) ∧ w' = w) := fun w h => tz_any W hx w h
 obtain ⟨q, hq⟩ : ∃ q, q = lg W := ⟨_, rfl⟩
 rw [← hq] at TZ0 hl E HB
 clear hq e hW hx hf ht hn
 go_enter Tryz.func78, Tryz.ntmps78
 go_wp2_with fail
 refine (least_any _ _ HN.out).mono ?_
 rintro e w1 ⟨rfl, hb1⟩
 rw [HW.out]
 go_wp2_with fail
 refine (put_ok W n _ HX.out HN.out HF.out).mono ?_
 rintro e w2 ⟨v, rfl, ⟨a2, c2, rfl, hc2, hr2, _⟩, hb2⟩
 have B2 := below_on hb1 hb2
 have HR2 := h_ hr2
 clear hr2
 go_wp2_with fail
 refine (TZ0.out _ (HT.out.on B2)).mono ?_
 rintro e w3 ⟨rfl, rfl⟩
 have L1 : RdB (w3.alloc (.cells #[.int .u8 (32 * (m : Int) + 24 + (q : Int))] 5)) (w3.heap.size + 1) (some ⟨w3.heap.size, 0, none⟩) [UInt8.ofNat (32 * m + 24 + q)] :=
  rdB_lit w3 5 _ _ _ (by rw [E.out]; rfl)
 have L2 := (HR2.out.below (below_al bR (.cells #[.int .u8 (32 * (m : Int) + 24 + (q : Int))] 5))).mono (Nat.le_succ _)
 have HP0 := rdP_pair (w3.alloc (.cells #[.int .u8 (32 * (m : Int) + 24 + (q : Int))] 5)) (w3.heap.size + 1) (by simp) 22 _ _ 1 c2 _ _ L1 L2 (Nat.le_refl _) hc2
 simp only [World.size_alloc, List.length_singleton] at HP0
 have HP := h_ HP0
 clear L1 L2 HP0
 go_wp2_with fail
 refine (join_any _ 2 [[UInt8.ofNat (32 * m + 24 + q)], beB W n] _ (by simp) (by simp [HL.out]; omega) (by simpa only [World.size_alloc] using HP.out)).mono ?_
 rintro e w4 ⟨v, rfl, ho, hb4⟩
 have B4 := below_al (below_al B2 (.cells #[.int .u8 (32 * (m : Int) + 24 + (q : Int))] 5)) (.cells #[.slice (some ⟨w3.heap.size, 0, none⟩) 1 1, .slice a2 (beB W n).length c2] 22)
 go_wp2
 go_ret
 refine ⟨v, rfl, ?_, below_on B4 hb4⟩
 rw [HB.out]
 have hf : [[UInt8.ofNat (32 * m + 24 + q)], beB W n].flatten = [UInt8.ofNat (32 * m + 24 + q)] ++ beB W n := by simp
 rw [hf] at ho
 exact ho.base B4.size

theorem head_any (m : Nat) (n : Int) (w : World) (hm : m ≤ 7) (hn : U64 n) (ht : TabW w) :
  Calls Tryz.prog 78 #[.int .u8 m, .int .u64 n] w (JoinP w (headB m n)) := by
 by_cases h : n < 24
 ·exact head_small m n w hm hn.1 h
 ·exact head_wide m n w hm hn h ht

end Go.Proofs.YteldifnkeekafaaGreatDoor
