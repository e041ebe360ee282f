/- Joined texts. -/
import Derived.Test.YthjgjkohogjjpaaGreatDoorZJb
import Derived.ArgAppend
import Derived.Test.YthjgjkohogjjpaaGreatDoorZJa
import Derived.Test.YthjgjkohogjjpaaGreatDoorZJd
set_option maxHeartbeats 2000000
namespace Go.Proofs.YthjgjkohogjjpaaGreatDoor
open Go.RowKit Go.Shelf

theorem OwnV.apart {w : World} {b1 b2 : Nat} {e1 e2 : TypeId} {v1 v2 : Value} {xs1 xs2 : List Value} (he : e1 ≠ e2) (h1 : OwnV w b1 e1 v1 xs1) (h2 : OwnV w b2 e2 v2 xs2) : v1.ownBlock = none ∨ v1.ownBlock ≠ v2.ownBlock := by
 rcases h1.2 with ⟨rfl, _⟩ | ⟨g, cap, cur, rfl, _, hg, _⟩
 ·exact .inl rfl
 ·refine .inr fun e => ?_
  rcases h2.2 with ⟨rfl, _⟩ | ⟨g2, cap2, cur2, rfl, _, hg2, _⟩
  ·simp [Value.ownBlock] at e
  ·simp [Value.ownBlock] at e
   subst e
   rw [hg] at hg2
   simp at hg2
   exact he hg2.2

def OPcs (w : World) (B0 : Nat) (vs : List Value) (ps : List (List UInt8)) : Prop :=
 vs.length = ps.length ∧ ∀ j, j < ps.length → OwnV w B0 5 (vs[j]?.getD undef) ((ps[j]?.getD []).map encB)

theorem OPcs.nil (w : World) (B0 : Nat) : OPcs w B0 [] [] := ⟨rfl, fun j hj => absurd hj (Nat.not_lt_zero j)⟩

theorem OPcs.snoc {w : World} {B0 : Nat} {vs : List Value} {ps : List (List UInt8)} {v : Value} {p : List UInt8} (h : OPcs w B0 vs ps) (hp : OwnV w B0 5 v (p.map encB)) : OPcs w B0 (vs ++ [v]) (ps ++ [p]) := by
 refine ⟨by simp [h.1], fun j hj => ?_⟩
 simp at hj
 by_cases e : j < ps.length
 ·rw [List.getElem?_append_left (by rw [h.1]; exact e), List.getElem?_append_left e]
  exact h.2 j e
 ·obtain rfl : j = ps.length := by omega
  rw [List.getElem?_append_right (by rw [h.1]; exact Nat.le_refl _), List.getElem?_append_right (Nat.le_refl _), h.1]
  simpa using hp

theorem OPcs.alloc {w : World} {B0 : Nat} {vs : List Value} {ps : List (List UInt8)} (h : OPcs w B0 vs ps) (o : Obj) : OPcs (w.alloc o) B0 vs ps := ⟨h.1, fun j hj => (h.2 j hj).alloc o⟩

theorem OPcs.kept {w w' : World} {B0 : Nat} {vs : List Value} {ps : List (List UInt8)} {row : Option Nat} (h : OPcs w B0 vs ps) (hg : w.grownBy w' row)
  (hne : ∀ v xs, OwnV w B0 5 v xs → v.ownBlock = none ∨ v.ownBlock ≠ row) : OPcs w' B0 vs ps := ⟨h.1, fun j hj => (h.2 j hj).kept hg (hne _ _ (h.2 j hj))⟩

def CloneB (w : World) (g cap L : Nat) : Prop :=
 (∀ j, j < cap → (w.cell? ⟨g, j, none⟩).isSome = true ∧ w.frozen? ⟨g, j, none⟩ = false) ∧ ∀ j, j < L → ∃ x, 0 ≤ x ∧ x < 256 ∧ w.cell? ⟨g, j, none⟩ = some (.int .u8 x)

theorem CloneB.same {w w' : World} {g cap L : Nat} (h : CloneB w g cap L) (he : w'.heap[g]? = w.heap[g]?) : CloneB w' g cap L := by
 have e1 : ∀ j, w'.cell? ⟨g, j, none⟩ = w.cell? ⟨g, j, none⟩ := fun j => World.cell?_of_block (a := ⟨g, j, none⟩) he
 have e2 : ∀ j, w'.frozen? ⟨g, j, none⟩ = w.frozen? ⟨g, j, none⟩ := fun j => by simp only [World.frozen?, he]
 refine ⟨fun j hj => ?_, fun j hj => ?_⟩
 ·rw [e1, e2]
  exact h.1 j hj
 ·rw [e1]
  exact h.2 j hj

theorem OwnV.later {w w' : World} {base : Nat} {e : TypeId} {v : Value} {xs : List Value} (h : OwnV w base e v xs) (hb : Below w.heap.size w w') : OwnV w' base e v xs := by
 obtain ⟨h1, h2⟩ := h
 rcases h2 with h2 | ⟨g, cap, cur, hv, hg0, hg, r⟩
 ·exact ⟨h1, .inl h2⟩
 ·exact ⟨h1, .inr ⟨g, cap, cur, hv, hg0, (hb.block g (Array.getElem?_eq_some_iff.1 hg).1).trans hg, r⟩⟩

theorem OwnV.put {w : World} {base G N C i : Nat} {e : TypeId} {xs : List Value} (h : OwnV w base e (.slice (some ⟨G, 0, none⟩) N C) xs) (u : Value) : OwnV (w.setCell ⟨G, i, none⟩ u) base e (.slice (some ⟨G, 0, none⟩) N C) (xs.set i u) := by
 unfold OwnV
 rw [List.length_set]
 rcases h.2 with ⟨hv, _⟩ | ⟨g, cap, cur, hv, hb, hg, hn, hm, hs, ht⟩
 ·cases hv
 ·injection hv with e1 e2 e3
  simp only [Option.some.injEq, Addr.mk.injEq] at e1
  obtain ⟨rfl, _⟩ := e1
  subst e2 e3
  refine ⟨by simp, .inr ⟨G, C, cur.setIfInBounds i u, rfl, hb, ?_, hn, hm, by simpa using hs, ?_⟩⟩
  ·obtain ⟨hlt, hk⟩ := Array.getElem?_eq_some_iff.1 hg
   show (w.heap.modify G _)[G]? = _
   rw [Array.getElem?_eq_getElem (by rw [Array.size_modify]; exact hlt), Array.getElem_modify_self, hk]
   rfl
  ·rw [Array.toList_setIfInBounds, List.take_set, ht]

theorem CloneB.later {w w' : World} {g cap L : Nat} (h : CloneB w g cap L) (hb : Below w.heap.size w w') : CloneB w' g cap L := by
 by_cases hg : g < w.heap.size
 ·exact h.same (hb.block g hg)
 ·refine ⟨fun j hj => ?_, fun j hj => ?_⟩
  ·obtain ⟨u, hu⟩ := Option.isSome_iff_exists.1 (h.1 j hj).1
   exact absurd (World.block_lt_of_cell? w _ hu) hg
  ·obtain ⟨x, _, _, hu⟩ := h.2 j hj
   exact absurd (World.block_lt_of_cell? w _ hu) hg

theorem CloneB.put {w : World} {g cap L k : Nat} (h : CloneB w g cap L) {x : Int} (hx0 : 0 ≤ x) (hx1 : x < 256) : CloneB (w.setCell ⟨g, k, none⟩ (.int .u8 x)) g cap L := by
 refine ⟨fun j hj => ?_, fun j hj => ?_⟩
 ·obtain ⟨h1, h2⟩ := h.1 j hj
  rw [World.frozen?_setCell]
  refine ⟨?_, h2⟩
  obtain ⟨u, hu⟩ := Option.isSome_iff_exists.1 h1
  by_cases e : j = k
  ·subst e
   rw [World.cell?_setCell_same _ _ _ hu]
   rfl
  ·rw [World.cell?_setCell_other _ _ _ _ (by intro e'; cases e'; exact e rfl)]
   exact h1
 ·obtain ⟨y, y0, y1, hy⟩ := h.2 j hj
  by_cases e : j = k
  ·subst e
   exact ⟨x, hx0, hx1, World.cell?_setCell_same _ _ _ hy⟩
  ·exact ⟨y, y0, y1, by rw [World.cell?_setCell_other _ _ _ _ (by intro e'; cases e'; exact e rfl)]; exact hy⟩

section
variable {P : Program} (w : World)

end

end Go.Proofs.YthjgjkohogjjpaaGreatDoor

namespace Go.Proofs.YthjgjkohogjjpaaGreatDoor
open Go.RowKit Go.Shelf

theorem equal_any (a1 a2 : Option Addr) (n1 n2 c1 c2 : Nat) (xs ys : List UInt8) (hn1 : n1 = xs.length) (hn2 : n2 = ys.length) (w : World) (B : Nat) (h1 : RdB w B a1 xs) (h2 : RdB w B a2 ys) :
  Calls Tryz.prog 170 #[.slice a1 n1 c1, .slice a2 n2 c2] w fun e w' => e = .returned (.bool (xs == ys)) ∧ w' = w := by
 have k1 := h1.text (P := Tryz.prog) 31 9 5 n1 c1 hn1 Tryz.underlying31 Tryz.underlying5 Tryz.underlying9
 have k2 := h2.text (P := Tryz.prog) 31 9 5 n2 c2 hn2 Tryz.underlying31 Tryz.underlying5 Tryz.underlying9
 clear h1 h2 hn1 hn2
 go_enter Tryz.func170, Tryz.ntmps170
 go_wp2
 go_ret
 exact ⟨rfl, rfl⟩

def TabW (w : World) : Prop :=
 (1 < w.heap.size ∧ w.cell? ⟨1, 0, none⟩ = some (.int .u8 0)) ∧ w.cell? ⟨1, 1, none⟩ = some (.int .u8 1) ∧
  w.cell? ⟨1, 3, none⟩ = some (.int .u8 2) ∧ w.cell? ⟨1, 7, none⟩ = some (.int .u8 3)

theorem TabW.below {B : Nat} {w w' : World} (h : TabW w) (hb : Below B w w') (hB : 1 < B) : TabW w' := by
 obtain ⟨⟨h0, h1⟩, h2, h3, h4⟩ := h
 refine ⟨⟨Nat.lt_of_lt_of_le h0 hb.size, ?_⟩, ?_, ?_, ?_⟩
 ·exact (hb.cell (p := ⟨1, 0, none⟩) (show 1 < B by omega)).trans h1
 ·exact (hb.cell (p := ⟨1, 1, none⟩) (show 1 < B by omega)).trans h2
 ·exact (hb.cell (p := ⟨1, 3, none⟩) (show 1 < B by omega)).trans h3
 ·exact (hb.cell (p := ⟨1, 7, none⟩) (show 1 < B by omega)).trans h4

theorem TabW.on {w w' : World} (h : TabW w) (hb : Below w.heap.size w w') : TabW w' := h.below hb h.1.1

def lg (W : Nat) : Nat := if W = 1 then 0 else if W = 2 then 1 else if W = 4 then 2 else 3

theorem tz64_core (x k idx : Nat) (w : World) (hx0 : ((x : Int) == 0) = false)
  (key : IntKind.u64.wrap (bits BinOp.and IntKind.u64 (x : Int) (IntKind.u64.wrap (-(x : Int))) * 285870213051353865) / 288230376151711744 = (idx : Int))
  (hi : idx < 64) (hk : k < 64) (hcell : w.cell? ⟨1, idx, none⟩ = some (.int .u8 k)) :
  Calls Tryz.prog 142 #[.int .u64 x] w fun e w' => e = .returned (.int .i64 k) ∧ w' = w := by
 go_enter Tryz.func142, Tryz.ntmps142
 go_wp2_with (simp only [key])
 go_ret
 exact ⟨rfl, rfl⟩

theorem tz64_any (W : Nat) (hW : isW W = true) (w : World) (hT : TabW w) :
  Calls Tryz.prog 142 #[.int .u64 W] w fun e w' => e = .returned (.int .i64 (lg W)) ∧ w' = w := by
 obtain ⟨⟨_, h1⟩, h2, h3, h4⟩ := hT
 have hc := isW_cases hW
 have hc' : W = 1 ∨ W = 2 ∨ W = 4 ∨ W = 8 := by omega
 rcases hc' with rfl | rfl | rfl | rfl
 ·exact tz64_core 1 0 0 w (by decide) (by decide +kernel) (by decide) (by decide) h1
 ·exact tz64_core 2 1 1 w (by decide) (by decide +kernel) (by decide) (by decide) h2
 ·exact tz64_core 4 2 3 w (by decide) (by decide +kernel) (by decide) (by decide) h3
 ·exact tz64_core 8 3 7 w (by decide) (by decide +kernel) (by decide) (by decide) h4

theorem tz_any (W : Nat) (hW : isW W = true) (w : World) (hT : TabW w) :
  Calls Tryz.prog 113 #[.int .u64 W] w fun e w' => e = .returned (.int .i64 (lg W)) ∧ w' = w := by
 have c64 := h_ (tz64_any W hW w hT)
 have hw : IntKind.u64.wrap (W : Int) = (W : Int) := by
  have := isW_cases hW
  rw [IntKind.wrap_u64]; omega
 go_enter Tryz.func113, Tryz.ntmps113
 go_wp2_with (go_at_call 142; refine c64.out.mono ?_; rintro e w' ⟨rfl, hw'⟩; rw [hw'])
 go_ret
 exact ⟨rfl, rfl⟩

theorem least_good (n : Int) : ∃ W : Nat, leastOf n = W ∧ isW W = true ∧ fits W n = true := by
 have h8 : fits 8 n = true := by simp [fits]
 unfold leastOf firstW
 by_cases h1 : fits 1 n = true
 ·exact ⟨1, by simp [h1], by decide, h1⟩
 ·by_cases h2 : fits 2 n = true
  ·exact ⟨2, by simp [h1, h2], by decide, h2⟩
  ·by_cases h4 : fits 4 n = true
   ·exact ⟨4, by simp [h1, h2, h4], by decide, h4⟩
   ·exact ⟨8, by simp [h1, h2, h4, h8], by decide, h8⟩

def headB (m : Nat) (n : Int) : List UInt8 :=
 if n < 24 then [UInt8.ofNat (32 * m + n.toNat)] else UInt8.ofNat (32 * m + 24 + lg (leastOf n).toNat) :: beB (leastOf n).toNat n

theorem head_length (m : Nat) (n : Int) : 1 ≤ (headB m n).length ∧ (headB m n).length ≤ 9 := by
 unfold headB
 split
 ·simp
 ·simp [beB_length, leastOf, firstW]
  split
  ·simp
  ·split
   ·simp
   ·split
    ·simp
    ·split <;> simp

theorem headB_small (m : Nat) (n : Int) (h : n < 24) : headB m n = [UInt8.ofNat (32 * m + n.toNat)] := if_pos h

theorem headB_wide (m : Nat) (n : Int) (h : ¬ n < 24) (W : Nat) (hW : leastOf n = W) : headB m n = [UInt8.ofNat (32 * m + 24 + lg W)] ++ beB W n := by
 rw [headB, if_neg h, hW]
 rfl

theorem lg_le (W : Nat) : lg W ≤ 3 := by
 unfold lg
 split
 ·omega
 ·split
  ·omega
  ·split <;> omega

theorem byte_enc (k : Nat) (hk : k < 256) : Value.int .u8 (k : Int) = encB (UInt8.ofNat k) := by
 simp only [encB, UInt8.toNat_ofNat']
 rw [Nat.mod_eq_of_lt (by omega)]

set_option maxRecDepth 100000 in
theorem head_small (m : Nat) (n : Int) (w : World) (hm : m ≤ 7) (hn : 0 ≤ n) (h : n < 24) :
  Calls Tryz.prog 87 #[.int .u8 m, .int .u64 n] w (JoinP w (headB m n)) := by
 obtain ⟨k, rfl⟩ := Int.eq_ofNat_of_zero_le hn
 have e := byte_enc (32 * m + k) (by omega)
 have E : Hid (Value.int .u8 (32 * (m : Int) + (k : Int)) = encB (UInt8.ofNat (32 * m + k))) := by rw [← e]; simp [Hid]
 have HB := h_ (headB_small m k h)
 clear e
 go_enter Tryz.func87, Tryz.ntmps87
 go_wp2_with fail
 go_ret
 rw [E.out, HB.out]
 exact ⟨_, rfl, OwnV.lit w w.heap.size 5 #[encB (UInt8.ofNat (32 * m + k))] (Nat.le_refl _) (by simp [maxLen]), bR.alloc (Nat.le_refl _) _⟩

set_option maxRecDepth 100000 in
theorem head_wide (m : Nat) (n : Int) (w : World) (hm : m ≤ 7) (hn : U64 n) (h : ¬ n < 24) (ht : TabW w) :
  Calls Tryz.prog 87 #[.int .u8 m, .int .u64 n] w (JoinP w (headB m n)) := by
 obtain ⟨W, hW, hx, hf⟩ := least_good n
 have hl := lg_le W
 have hWb : 1 ≤ W ∧ W ≤ 8 := by
  have := isW_cases hx
  omega
 have e := byte_enc (32 * m + 24 + lg W) (by omega)
 have E : Hid (Value.int .u8 (32 * (m : Int) + 24 + (lg W : Int)) = encB (UInt8.ofNat (32 * m + 24 + lg W))) := by rw [← e]; simp [Hid]
 have HB := h_ (headB_wide m n h W hW)
 have HW := h_ hW
 have HX := h_ hx
 have HF := h_ hf
 have HT := h_ ht
 have HN := h_ hn
 have HL := h_ (beB_length W n)
 have HWr : Hid (IntKind.u64.wrap (W : Int) = (W : Int)) := by
  simp only [Hid, IntKind.wrap_u64]
  omega
 have TZ0 : Hid (∀ w : World, TabW w → Calls Tryz.prog 113 #[.int .u64 W] w fun e w' => e = .returned (.int .i64 (lg W)) ∧ w' = w) := fun w h => tz_any W hx w h
 obtain ⟨q, hq⟩ : ∃ q, q = lg W := ⟨_, rfl⟩
 rw [← hq] at TZ0 hl E HB
 clear hq e hW hx hf ht hn
 go_enter Tryz.func87, Tryz.ntmps87
 go_wp2_with fail
 refine (least_any _ _ HN.out).mono ?_
 rintro e w1 ⟨rfl, hb1⟩
 rw [HW.out]
 go_wp2_with fail
 refine (put_ok W n _ HX.out HN.out HF.out).mono ?_
 rintro e w2 ⟨v, rfl, ⟨a2, c2, rfl, hc2, hr2, _⟩, hb2⟩
 have B2 := below_on hb1 hb2
 have HR2 := h_ hr2
 clear hr2
 go_wp2_with fail
 refine (TZ0.out _ (HT.out.on B2)).mono ?_
 rintro e w3 ⟨rfl, rfl⟩
 have L1 : RdB (w3.alloc (.cells #[.int .u8 (32 * (m : Int) + 24 + (q : Int))] 5)) (w3.heap.size + 1) (some ⟨w3.heap.size, 0, none⟩) [UInt8.ofNat (32 * m + 24 + q)] :=
  rdB_lit w3 5 _ _ _ (by rw [E.out]; rfl)
 have L2 := (HR2.out.below (below_al bR (.cells #[.int .u8 (32 * (m : Int) + 24 + (q : Int))] 5))).mono (Nat.le_succ _)
 have HP0 := rdP_pair (w3.alloc (.cells #[.int .u8 (32 * (m : Int) + 24 + (q : Int))] 5)) (w3.heap.size + 1) (by simp) 31 _ _ 1 c2 _ _ L1 L2 (Nat.le_refl _) hc2
 simp only [World.size_alloc, List.length_singleton] at HP0
 have HP := h_ HP0
 clear L1 L2 HP0
 go_wp2_with fail
 refine (join_any _ 2 [[UInt8.ofNat (32 * m + 24 + q)], beB W n] _ (by simp) (by simp [HL.out]; omega) (by simpa only [World.size_alloc] using HP.out)).mono ?_
 rintro e w4 ⟨v, rfl, ho, hb4⟩
 have B4 := below_al (below_al B2 (.cells #[.int .u8 (32 * (m : Int) + 24 + (q : Int))] 5)) (.cells #[.slice (some ⟨w3.heap.size, 0, none⟩) 1 1, .slice a2 (beB W n).length c2] 31)
 go_wp2
 go_ret
 refine ⟨v, rfl, ?_, below_on B4 hb4⟩
 rw [HB.out]
 have hf : [[UInt8.ofNat (32 * m + 24 + q)], beB W n].flatten = [UInt8.ofNat (32 * m + 24 + q)] ++ beB W n := by simp
 rw [hf] at ho
 exact ho.base B4.size

theorem head_any (m : Nat) (n : Int) (w : World) (hm : m ≤ 7) (hn : U64 n) (ht : TabW w) :
  Calls Tryz.prog 87 #[.int .u8 m, .int .u64 n] w (JoinP w (headB m n)) := by
 by_cases h : n < 24
 ·exact head_small m n w hm hn.1 h
 ·exact head_wide m n w hm hn h ht

end Go.Proofs.YthjgjkohogjjpaaGreatDoor
