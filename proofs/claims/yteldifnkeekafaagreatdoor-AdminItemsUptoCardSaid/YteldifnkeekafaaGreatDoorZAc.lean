/- Joined texts. -/
import Derived.Test.YteldifnkeekafaaGreatDoorZAdJ
set_option maxHeartbeats 16000000
set_option linter.unusedSimpArgs false
set_option linter.unusedVariables false
set_option maxRecDepth 100000
namespace Go.Proofs.YteldifnkeekafaaGreatDoor
open Go Go.RowKit Go.Shelf

attribute [local go_sem] Oper.semAt_some

def repR (n m t q : Nat) (wh wy : Int) (at0 : Nat) : Rc := ⟨1, n, m, t, q, wh, wy, at0, 0, 0, 0, false, 0, 0, 0⟩

def RepP (w : World) (r : Rc) (e : Ending) (w' : World) : Prop := Below w.heap.size w w' ∧ ((chkRc r = 0 ∧ e = .returned (.tuple #[.agg #[.int .i64 r.k, .int .u32 r.n, .int .u32 r.m, .int .u64 r.t, .int .u32 r.q, .int .i64 r.wh, .int .i64 r.wy, .int .u64 r.at0, .int .u64 r.no, .int .u32 r.nd, .int .u32 r.rg, .bool r.ys, .int .u64 r.fr, .int .u64 r.un, .int .u8 r.lv], .int .i64 0])) ∨ (chkRc r = 2 ∧ e = .returned (.tuple #[.agg #[.int .i64 0, .int .u32 0, .int .u32 0, .int .u64 0, .int .u32 0, .int .i64 0, .int .i64 0, .int .u64 0, .int .u64 0, .int .u32 0, .int .u32 0, .bool false, .int .u64 0, .int .u64 0, .int .u8 0], .int .i64 2])))
theorem chkRc_two (r : Rc) : chkRc r = 0 ∨ chkRc r = 2 := by
 unfold chkRc
 split
 ·exact .inl rfl
 ·exact .inr rfl

theorem dReport_any (n m t q : Nat) (wh wy : Int) (at0 : Nat) (hok : (repR n m t q wh wy at0).ok) (w : World) (ht : TabW w) : Calls Tryz.prog 16 #[.agg #[.int .u32 n, .int .u32 m, .int .u64 t, .int .u32 q], .int .i64 wh, .int .i64 wy, .int .u64 at0] w (RepP w (repR n m t q wh wy at0)) := by
 obtain ⟨W, hW⟩ : ∃ W, W = (w.alloc (.cells #[.int .u32 n, .int .u32 m, .int .u64 t, .int .u32 q] 30)).alloc (.cells #[.int .i64 0, .int .u32 0, .int .u32 0, .int .u64 0, .int .u32 0, .int .i64 0, .int .i64 0, .int .u64 0, .int .u64 0, .int .u32 0, .int .u32 0, .bool false, .int .u64 0, .int .u64 0, .int .u8 0] 32) := ⟨_, rfl⟩
 have hb : Below w.heap.size w W := by rw [hW]; exact below_al (below_al bR _) _
 have HS0 : Hid (W.heap.size = w.heap.size + 2) := by rw [Hid, hW]; simp
 have HR0 : Hid (RowB W (w.heap.size + 1) [.int .i64 0, .int .u32 0, .int .u32 0, .int .u64 0, .int .u32 0, .int .i64 0, .int .i64 0, .int .u64 0, .int .u64 0, .int .u32 0, .int .u32 0, .bool false, .int .u64 0, .int .u64 0, .int .u8 0]) := by
  rw [hW]
  have h := RowB.new (w.alloc (.cells #[.int .u32 n, .int .u32 m, .int .u64 t, .int .u32 q] 30)) [.int .i64 0, .int .u32 0, .int .u32 0, .int .u64 0, .int .u32 0, .int .i64 0, .int .i64 0, .int .u64 0, .int .u64 0, .int .u32 0, .int .u32 0, .bool false, .int .u64 0, .int .u64 0, .int .u8 0] 32
  rw [World.size_alloc] at h
  exact h
 have hN : RowB W w.heap.size [.int .u32 n, .int .u32 m, .int .u64 t, .int .u32 q] := by rw [hW]; exact (RowB.new w _ _).on (below_al bR _) (by simp)
 have x0 := hN.1 0 _ rfl
 have x1 := hN.1 1 _ rfl
 have x2 := hN.1 2 _ rfl
 have x3 := hN.1 3 _ rfl
 obtain ⟨w2, hw2⟩ : ∃ w2, w2 = W.alloc (.cells #[.int .i64 1, .int .u32 n, .int .u32 m, .int .u64 t, .int .u32 q, .int .i64 wh, .int .i64 wy, .int .u64 at0, .int .u64 0, .int .u32 0, .int .u32 0, .bool false, .int .u64 0, .int .u64 0, .int .u8 0] 32) := ⟨_, rfl⟩
 have hb2 : Below W.heap.size W w2 := by rw [hw2]; exact below_al bR _
 have HB2 : Hid (Below w.heap.size w w2) := below_on hb hb2
 have HR2 := h_ (HR0.out.on hb2 (by have := HS0.out; omega))
 have HS2 : Hid (W.heap.size < w2.heap.size) := by rw [Hid, hw2]; simp
 have HQ2 : Hid (RowB w2 W.heap.size [.int .i64 1, .int .u32 n, .int .u32 m, .int .u64 t, .int .u32 q, .int .i64 wh, .int .i64 wy, .int .u64 at0, .int .u64 0, .int .u32 0, .int .u32 0, .bool false, .int .u64 0, .int .u64 0, .int .u8 0]) := by rw [hw2]; exact RowB.new W _ _
 have HC := h_ (dCheck_any (repR n m t q wh wy at0) hok w2 (ht.on HB2.out))
 have HT2 := h_ (chkRc_two (repR n m t q wh wy at0))
 have HW := h_ hW
 have HW2 := h_ hw2
 rw [hW] at x0 x1 x2 x3
 clear hW hb hN hw2 hb2 hok ht
 go_enter Tryz.func16, Tryz.ntmps16
 go_upto_region 2 with fail
 rw [← HW.out]
 rw [← HW2.out]
 clear x0 x1 x2 x3
 have hsz : w.heap.size + 1 + 1 = W.heap.size := by have := HS0.out; omega
 rw [hsz]
 clear hsz
 obtain ⟨y0, y1, y2, y3, y4, y5, y6, y7, y8, y9, y10, y11, y12, y13, y14⟩ := r15 HQ2.out
 go_wp2_with fail
 clear y0 y1 y2 y3 y4 y5 y6 y7 y8 y9 y10 y11 y12 y13 y14
 refine HC.out.mono ?_
 rintro e w3 ⟨rfl, hb3⟩
 have HB3 := h_ (below_on HB2.out hb3)
 have HR3 := h_ (HR2.out.on hb3 (by have := HS0.out; have := HS2.out; omega))
 have HQ3 := h_ (HQ2.out.on hb3 HS2.out)
 clear hb3
 rcases HT2.out with h0 | h0
 ·rw [h0]
  have HC0 := h_ h0
  clear h0
  go_upto_region 5 with fail
  obtain ⟨y0, y1, y2, y3, y4, y5, y6, y7, y8, y9, y10, y11, y12, y13, y14⟩ := r15 HQ3.out
  obtain ⟨r0, r1, r2, r3, r4, r5, r6, r7, r8, r9, r10, r11, r12, r13, r14⟩ := r15 HR3.out
  obtain ⟨f0, f1, f2, f3, f4, f5, f6, f7, f8, f9, f10, f11, f12, f13, f14⟩ := f15 HR3.out
  go_wp2_with fail
  change bodyPost _ _ _ _ _ (putL w3 (w.heap.size + 1) 0 [.int .i64 1, .int .u32 n, .int .u32 m, .int .u64 t, .int .u32 q, .int .i64 wh, .int .i64 wy, .int .u64 at0, .int .u64 0, .int .u32 0, .int .u32 0, .bool false, .int .u64 0, .int .u64 0, .int .u8 0])
  have hrow : RowB (putL w3 (w.heap.size + 1) 0 [.int .i64 1, .int .u32 n, .int .u32 m, .int .u64 t, .int .u32 q, .int .i64 wh, .int .i64 wy, .int .u64 at0, .int .u64 0, .int .u32 0, .int .u32 0, .bool false, .int .u64 0, .int .u64 0, .int .u8 0]) (w.heap.size + 1) [.int .i64 1, .int .u32 n, .int .u32 m, .int .u64 t, .int .u32 q, .int .i64 wh, .int .i64 wy, .int .u64 at0, .int .u64 0, .int .u32 0, .int .u32 0, .bool false, .int .u64 0, .int .u64 0, .int .u8 0] := putL_row _ _ 0 _ HR3.out
  have hbk : Below w.heap.size w (putL w3 (w.heap.size + 1) 0 [.int .i64 1, .int .u32 n, .int .u32 m, .int .u64 t, .int .u32 q, .int .i64 wh, .int .i64 wy, .int .u64 at0, .int .u64 0, .int .u32 0, .int .u32 0, .bool false, .int .u64 0, .int .u64 0, .int .u8 0]) := putL_bel (Nat.le_succ _) _ 0 _ HB3.out
  generalize putL w3 (w.heap.size + 1) 0 [.int .i64 1, .int .u32 n, .int .u32 m, .int .u64 t, .int .u32 q, .int .i64 wh, .int .i64 wy, .int .u64 at0, .int .u64 0, .int .u32 0, .int .u32 0, .bool false, .int .u64 0, .int .u64 0, .int .u8 0] = w30 at *
  obtain ⟨k0, k1, k2, k3, k4, k5, k6, k7, k8, k9, k10, k11, k12, k13, k14⟩ := r15 hrow
  exact bodyPost_ret (v := .tuple #[.agg #[.int .i64 1, .int .u32 n, .int .u32 m, .int .u64 t, .int .u32 q, .int .i64 wh, .int .i64 wy, .int .u64 at0, .int .u64 0, .int .u32 0, .int .u32 0, .bool false, .int .u64 0, .int .u64 0, .int .u8 0], .int .i64 0]) (by simp [results, Tryz.results16, go_sem, k0, k1, k2, k3, k4, k5, k6, k7, k8, k9, k10, k11, k12, k13, k14]) rfl ⟨hbk, .inl ⟨HC0.out, rfl⟩⟩
 ·rw [h0]
  have HC0 := h_ h0
  clear h0
  go_upto_region 4 with fail
  obtain ⟨r0, r1, r2, r3, r4, r5, r6, r7, r8, r9, r10, r11, r12, r13, r14⟩ := r15 HR3.out
  obtain ⟨f0, f1, f2, f3, f4, f5, f6, f7, f8, f9, f10, f11, f12, f13, f14⟩ := f15 HR3.out
  go_wp2_with fail
  change bodyPost _ _ _ _ _ (putL w3 (w.heap.size + 1) 0 [.int .i64 0, .int .u32 0, .int .u32 0, .int .u64 0, .int .u32 0, .int .i64 0, .int .i64 0, .int .u64 0, .int .u64 0, .int .u32 0, .int .u32 0, .bool false, .int .u64 0, .int .u64 0, .int .u8 0])
  have hrow : RowB (putL w3 (w.heap.size + 1) 0 [.int .i64 0, .int .u32 0, .int .u32 0, .int .u64 0, .int .u32 0, .int .i64 0, .int .i64 0, .int .u64 0, .int .u64 0, .int .u32 0, .int .u32 0, .bool false, .int .u64 0, .int .u64 0, .int .u8 0]) (w.heap.size + 1) [.int .i64 0, .int .u32 0, .int .u32 0, .int .u64 0, .int .u32 0, .int .i64 0, .int .i64 0, .int .u64 0, .int .u64 0, .int .u32 0, .int .u32 0, .bool false, .int .u64 0, .int .u64 0, .int .u8 0] := putL_row _ _ 0 _ HR3.out
  have hbk : Below w.heap.size w (putL w3 (w.heap.size + 1) 0 [.int .i64 0, .int .u32 0, .int .u32 0, .int .u64 0, .int .u32 0, .int .i64 0, .int .i64 0, .int .u64 0, .int .u64 0, .int .u32 0, .int .u32 0, .bool false, .int .u64 0, .int .u64 0, .int .u8 0]) := putL_bel (Nat.le_succ _) _ 0 _ HB3.out
  generalize putL w3 (w.heap.size + 1) 0 [.int .i64 0, .int .u32 0, .int .u32 0, .int .u64 0, .int .u32 0, .int .i64 0, .int .i64 0, .int .u64 0, .int .u64 0, .int .u32 0, .int .u32 0, .bool false, .int .u64 0, .int .u64 0, .int .u8 0] = w30 at *
  obtain ⟨k0, k1, k2, k3, k4, k5, k6, k7, k8, k9, k10, k11, k12, k13, k14⟩ := r15 hrow
  exact bodyPost_ret (v := .tuple #[.agg #[.int .i64 0, .int .u32 0, .int .u32 0, .int .u64 0, .int .u32 0, .int .i64 0, .int .i64 0, .int .u64 0, .int .u64 0, .int .u32 0, .int .u32 0, .bool false, .int .u64 0, .int .u64 0, .int .u8 0], .int .i64 2]) (by simp [results, Tryz.results16, go_sem, k0, k1, k2, k3, k4, k5, k6, k7, k8, k9, k10, k11, k12, k13, k14]) rfl ⟨hbk, .inr ⟨HC0.out, rfl⟩⟩

attribute [local go_sem] Oper.semAt_some

theorem dnum10_any (x : Int) (w : World) : Calls Tryz.prog 9 #[.int .i64 x] w fun e w' => e = .returned (.int .i64 x) ∧ w = w' := by
 go_enter Tryz.func9, Tryz.ntmps9
 go_wp2
 go_ret
 exact ⟨rfl, rfl⟩

def askR : Rc := ⟨2, 0, 0, 0, 0, 0, 0, 0, 5, 6, 7, false, 0, 0, 0⟩
def litA : List UInt8 := [132, 2, 5, 6, 7]
def litR : List UInt8 := [133, 1, 131, 130, 2, 130, 1, 0, 2, 3, 4, 2, 4]
theorem ask_bytes : (itemR askR).map It.bytes = some litA := by decide +kernel
theorem rep_bytes : (itemR (repR 1 0 2 3 4 2 4)).map It.bytes = some litR := by decide +kernel
theorem rep_chk : chkRc (repR 1 0 2 3 4 2 4) = 0 := by decide +kernel
theorem rep_no : chkRc (repR 1 0 2 3 1 2 4) = 2 := by decide +kernel
theorem dec_no : rdRcB [132, 2, 5, 6, 0] = .error 180 := by kernel_rfl
theorem ask_ok : askR.ok := ⟨⟨⟨by decide, by decide⟩, by decide, by decide⟩, by decide, by decide, by decide, by decide, by decide, by decide, by decide⟩
theorem rep_ok (a b : Int) : (repR 1 0 2 3 a b 4).ok := by constructor <;> simp [repR, Rc.name, NmT.ok]

theorem denc_bytes (r : Rc) (hok : r.ok) (l : List UInt8) (hb : (itemR r).map It.bytes = some l) (w : World) (ht : TabW w) : Calls Tryz.prog 10 #[.agg #[.int .i64 r.k, .int .u32 r.n, .int .u32 r.m, .int .u64 r.t, .int .u32 r.q, .int .i64 r.wh, .int .i64 r.wy, .int .u64 r.at0, .int .u64 r.no, .int .u32 r.nd, .int .u32 r.rg, .bool r.ys, .int .u64 r.fr, .int .u64 r.un, .int .u8 r.lv]] w fun e w' => (∃ A C, e = .returned (.tuple #[.slice A l.length C, .int .i64 0]) ∧ l.length ≤ C ∧ RdB w' w'.heap.size A l) ∧ Below w.heap.size w w' := by
 refine (dEncode_any r hok w ht).mono ?_
 rintro e w' ⟨hbl, ⟨x, u, hr, rfl, ho⟩ | ⟨hr, rfl⟩⟩
 ·rw [hr] at hb
  injection hb with hb
  rw [hb] at ho
  obtain ⟨A, C, rfl, hC, hrd, _⟩ := ho.bytes
  exact ⟨⟨A, C, rfl, hC, hrd⟩, hbl⟩
 ·rw [hr] at hb
  cases hb

theorem drdB_lit (w : World) : RdB (w.alloc (.cells #[.int .u8 132, .int .u8 2, .int .u8 5, .int .u8 6, .int .u8 0] 5)) (w.alloc (.cells #[.int .u8 132, .int .u8 2, .int .u8 5, .int .u8 6, .int .u8 0] 5)).heap.size (some ⟨w.heap.size, 0, none⟩) [132, 2, 5, 6, 0] := by
 refine .inr ⟨w.heap.size, 0, rfl, by simp, fun j hj => ?_⟩
 have hj : j < 5 := hj
 match j, hj with
 | 0, _ => exact box_at bR 0
 | 1, _ => exact box_at bR 1
 | 2, _ => exact box_at bR 2
 | 3, _ => exact box_at bR 3
 | 4, _ => exact box_at bR 4

theorem dworks_any (w : World) (ht : TabW w) : Calls Tryz.prog 6 #[] w fun e w' => e = .returned (.bool true) ∧ Below w.heap.size w w' := by
 have HT : Hid (∀ w', Below w.heap.size w w' → TabW w') := fun w' h => ht.on h
 have HA : Hid (∀ w, TabW w → Calls Tryz.prog 10 #[.agg #[.int .i64 2, .int .u32 0, .int .u32 0, .int .u64 0, .int .u32 0, .int .i64 0, .int .i64 0, .int .u64 0, .int .u64 5, .int .u32 6, .int .u32 7, .bool false, .int .u64 0, .int .u64 0, .int .u8 0]] w fun e w' => (∃ A C, e = .returned (.tuple #[.slice A 5 C, .int .i64 0]) ∧ 5 ≤ C ∧ RdB w' w'.heap.size A litA) ∧ Below w.heap.size w w') := fun w h => denc_bytes askR ask_ok litA ask_bytes w h
 have HE : Hid (∀ w, TabW w → Calls Tryz.prog 10 #[.agg #[.int .i64 1, .int .u32 1, .int .u32 0, .int .u64 2, .int .u32 3, .int .i64 4, .int .i64 2, .int .u64 4, .int .u64 0, .int .u32 0, .int .u32 0, .bool false, .int .u64 0, .int .u64 0, .int .u8 0]] w fun e w' => (∃ A C, e = .returned (.tuple #[.slice A 13 C, .int .i64 0]) ∧ 13 ≤ C ∧ RdB w' w'.heap.size A litR) ∧ Below w.heap.size w w') := fun w h => denc_bytes (repR 1 0 2 3 4 2 4) (rep_ok 4 2) litR rep_bytes w h
 have HD : Hid (∀ w (g : Nat), TabW w → RdB w w.heap.size (some ⟨g, 0, none⟩) [132, 2, 5, 6, 0] → Calls Tryz.prog 7 #[.slice (some ⟨g, 0, none⟩) 5 5] w fun e w' => e = .returned (.tuple #[.agg #[.int .i64 0, .int .u32 0, .int .u32 0, .int .u64 0, .int .u32 0, .int .i64 0, .int .i64 0, .int .u64 0, .int .u64 0, .int .u32 0, .int .u32 0, .bool false, .int .u64 0, .int .u64 0, .int .u8 0], .int .i64 180]) ∧ Below w.heap.size w w') := fun w g h1 h2 => by
  refine (dDecode_any (some ⟨g, 0, none⟩) 5 5 [132, 2, 5, 6, 0] rfl w h2 (by decide) (by decide) h1).mono ?_
  rintro e w' ⟨hb, hm⟩
  rw [dec_no] at hm
  exact ⟨hm, hb⟩
 have HR1 : Hid (∀ w, TabW w → Calls Tryz.prog 16 #[.agg #[.int .u32 1, .int .u32 0, .int .u64 2, .int .u32 3], .int .i64 4, .int .i64 2, .int .u64 4] w fun e w' => e = .returned (.tuple #[.agg #[.int .i64 1, .int .u32 1, .int .u32 0, .int .u64 2, .int .u32 3, .int .i64 4, .int .i64 2, .int .u64 4, .int .u64 0, .int .u32 0, .int .u32 0, .bool false, .int .u64 0, .int .u64 0, .int .u8 0], .int .i64 0]) ∧ Below w.heap.size w w') := fun w h => by
  refine (dReport_any 1 0 2 3 4 2 4 (rep_ok 4 2) w h).mono ?_
  rintro e w' ⟨hb, ⟨_, rfl⟩ | ⟨h0, _⟩⟩
  ·exact ⟨rfl, hb⟩
  ·rw [rep_chk] at h0
   cases h0
 have HR2 : Hid (∀ w, TabW w → Calls Tryz.prog 16 #[.agg #[.int .u32 1, .int .u32 0, .int .u64 2, .int .u32 3], .int .i64 1, .int .i64 2, .int .u64 4] w fun e w' => e = .returned (.tuple #[.agg #[.int .i64 0, .int .u32 0, .int .u32 0, .int .u64 0, .int .u32 0, .int .i64 0, .int .i64 0, .int .u64 0, .int .u64 0, .int .u32 0, .int .u32 0, .bool false, .int .u64 0, .int .u64 0, .int .u8 0], .int .i64 2]) ∧ Below w.heap.size w w') := fun w h => by
  refine (dReport_any 1 0 2 3 1 2 4 (rep_ok 1 2) w h).mono ?_
  rintro e w' ⟨hb, ⟨h0, _⟩ | ⟨_, rfl⟩⟩
  ·rw [rep_no] at h0
   cases h0
  ·exact ⟨rfl, hb⟩
 clear ht
 go_enter Tryz.func6, Tryz.ntmps6
 go_wp2_with fail
 refine (HA.out w (HT.out w bR)).mono ?_
 rintro e w1 ⟨⟨A1, C1, rfl, _, hr1⟩, hb1⟩
 have HB1 := h_ hb1
 have HRd1 := h_ hr1
 clear hb1 hr1
 go_wp2_with fail
 obtain ⟨w2, hw2⟩ : ∃ w2, w2 = w1.alloc (.cells #[.int .u8 132, .int .u8 2, .int .u8 5, .int .u8 6, .int .u8 0] 5) := ⟨_, rfl⟩
 have hb2 : Below w1.heap.size w1 w2 := by rw [hw2]; exact below_al bR _
 have HB2 := h_ (below_on HB1.out hb2)
 have HRd2 : Hid (RdB w2 w2.heap.size (some ⟨w1.heap.size, 0, none⟩) [132, 2, 5, 6, 0]) := by rw [hw2]; exact drdB_lit w1
 have HK2 := h_ hb2
 rw [← hw2]
 clear hw2 hb2
 refine (HD.out w2 _ (HT.out w2 HB2.out) HRd2.out).mono ?_
 rintro e w3 ⟨rfl, hb3⟩
 obtain ⟨w4, hw4⟩ : ∃ w4, w4 = (w3.alloc (.cells #[.int .i64 0, .int .u32 0, .int .u32 0, .int .u64 0, .int .u32 0, .int .i64 0, .int .i64 0, .int .u64 0, .int .u64 0, .int .u32 0, .int .u32 0, .bool false, .int .u64 0, .int .u64 0, .int .u8 0] 32)).alloc (.cells #[.int .u32 1, .int .u32 0, .int .u64 2, .int .u32 3] 30) := ⟨_, rfl⟩
 have hb4 : Below w3.heap.size w3 w4 := by rw [hw4]; exact below_al (below_al bR _) _
 have HB4 := h_ (below_on HB2.out (below_on hb3 hb4))
 have HK4 := h_ (below_on HK2.out (below_on hb3 hb4))
 have hn4 : RowB w4 (w3.heap.size + 1) [.int .u32 1, .int .u32 0, .int .u64 2, .int .u32 3] := by
  rw [hw4]
  have h := RowB.new (w3.alloc (.cells #[.int .i64 0, .int .u32 0, .int .u32 0, .int .u64 0, .int .u32 0, .int .i64 0, .int .i64 0, .int .u64 0, .int .u64 0, .int .u32 0, .int .u32 0, .bool false, .int .u64 0, .int .u64 0, .int .u8 0] 32)) [.int .u32 1, .int .u32 0, .int .u64 2, .int .u32 3] 30
  rw [World.size_alloc] at h
  exact h
 have HN4 := h_ hn4
 have HS4 : Hid (w3.heap.size + 1 < w4.heap.size) := by rw [Hid, hw4]; simp
 have n0 := hn4.1 0 _ rfl
 have n1 := hn4.1 1 _ rfl
 have n2 := hn4.1 2 _ rfl
 have n3 := hn4.1 3 _ rfl
 have HW4 := h_ hw4
 rw [hw4] at n0 n1 n2 n3
 clear hb3 hb4 hn4 hw4
 go_wp2_with fail
 rw [← HW4.out]
 clear n0 n1 n2 n3
 refine (HR1.out w4 (HT.out w4 HB4.out)).mono ?_
 rintro e w5 ⟨rfl, hb5⟩
 obtain ⟨w6, hw6⟩ : ∃ w6, w6 = w5.alloc (.cells #[.int .i64 1, .int .u32 1, .int .u32 0, .int .u64 2, .int .u32 3, .int .i64 4, .int .i64 2, .int .u64 4, .int .u64 0, .int .u32 0, .int .u32 0, .bool false, .int .u64 0, .int .u64 0, .int .u8 0] 32) := ⟨_, rfl⟩
 have hb6 : Below w5.heap.size w5 w6 := by rw [hw6]; exact below_al bR _
 have hb46 : Below w4.heap.size w4 w6 := below_on hb5 hb6
 have HB6 := h_ (below_on HB4.out hb46)
 have HK6 := h_ (below_on HK4.out hb46)
 have HN6 := h_ (HN4.out.on hb46 HS4.out)
 have HS6 : Hid (w3.heap.size + 1 < w6.heap.size) := Nat.lt_of_lt_of_le HS4.out hb46.size
 have hq6 : RowB w6 w5.heap.size [.int .i64 1, .int .u32 1, .int .u32 0, .int .u64 2, .int .u32 3, .int .i64 4, .int .i64 2, .int .u64 4, .int .u64 0, .int .u32 0, .int .u32 0, .bool false, .int .u64 0, .int .u64 0, .int .u8 0] := by rw [hw6]; exact RowB.new w5 _ _
 obtain ⟨y0, y1, y2, y3, y4, y5, y6, y7, y8, y9, y10, y11, y12, y13, y14⟩ := r15 hq6
 have HW6 := h_ hw6
 rw [hw6] at y0 y1 y2 y3 y4 y5 y6 y7 y8 y9 y10 y11 y12 y13 y14
 clear hb5 hb6 hb46 hq6 hw6
 go_wp2_with fail
 rw [← HW6.out]
 clear y0 y1 y2 y3 y4 y5 y6 y7 y8 y9 y10 y11 y12 y13 y14
 refine (HE.out w6 (HT.out w6 HB6.out)).mono ?_
 rintro e w7 ⟨⟨A7, C7, rfl, _, hr7⟩, hb7⟩
 have HB7 := h_ (below_on HB6.out hb7)
 have HK7 := h_ (below_on HK6.out hb7)
 have HRd7 := h_ hr7
 have hn7 := HN6.out.on hb7 HS6.out
 have n0 := hn7.1 0 _ rfl
 have n1 := hn7.1 1 _ rfl
 have n2 := hn7.1 2 _ rfl
 have n3 := hn7.1 3 _ rfl
 clear hb7 hr7 hn7
 go_wp2_with fail
 clear n0 n1 n2 n3
 refine (HR2.out w7 (HT.out w7 HB7.out)).mono ?_
 rintro e w8 ⟨rfl, hb8⟩
 obtain ⟨w9, hw9⟩ : ∃ w9, w9 = w8.alloc (.cells #[.int .i64 0, .int .u32 0, .int .u32 0, .int .u64 0, .int .u32 0, .int .i64 0, .int .i64 0, .int .u64 0, .int .u64 0, .int .u32 0, .int .u32 0, .bool false, .int .u64 0, .int .u64 0, .int .u8 0] 32) := ⟨_, rfl⟩
 have hb9 : Below w8.heap.size w8 w9 := by rw [hw9]; exact below_al bR _
 have hb79 : Below w7.heap.size w7 w9 := below_on hb8 hb9
 have HB9 := h_ (below_on HB7.out hb79)
 have hr1 : RdB w9 w9.heap.size A1 litA := (HRd1.out.below (below_on HK7.out hb79)).mono (below_on HK7.out hb79).size
 have hr7 : RdB w9 w9.heap.size A7 litR := (HRd7.out.below hb79).mono hb79.size
 have kt1 := hr1.text (P := Tryz.prog) 22 9 5 5 C1 rfl Tryz.underlying22 Tryz.underlying5 Tryz.underlying9
 have kt7 := hr7.text (P := Tryz.prog) 22 9 5 13 C7 rfl Tryz.underlying22 Tryz.underlying5 Tryz.underlying9
 have HW9 := h_ hw9
 rw [hw9] at kt1 kt7
 clear hb8 hb9 hb79 hr1 hr7 hw9
 go_wp2_with fail
 refine (dnum10_any 0 _).mono ?_
 rintro e9 w9 ⟨rfl, h9⟩
 rw [← h9]
 clear h9 w9
 go_wp2_with fail
 refine (dnum10_any 0 _).mono ?_
 rintro e9 w9 ⟨rfl, h9⟩
 rw [← h9]
 clear h9 w9
 go_wp2_with fail
 refine (dnum10_any 0 _).mono ?_
 rintro e9 w9 ⟨rfl, h9⟩
 rw [← h9]
 clear h9 w9
 go_wp2_with fail
 refine (dnum10_any 180 _).mono ?_
 rintro e9 w9 ⟨rfl, h9⟩
 rw [← h9]
 clear h9 w9
 go_wp2_with fail
 refine (dnum10_any 2 _).mono ?_
 rintro e9 w9 ⟨rfl, h9⟩
 rw [← h9]
 clear h9 w9
 go_wp2_with fail
 rw [← HW9.out]
 go_ret
 exact ⟨rfl, HB9.out⟩

attribute [local go_sem] Oper.semAt_some

theorem berrlen {x : It} (he : x.err = 0) : x.bytes.length ≤ 65536 := by
 have h := he
 rw [It.err] at h
 split at h
 ·split at h
  ·cases h
  ·split at h
   ·cases h
   ·omega
 ·cases h

end Go.Proofs.YteldifnkeekafaaGreatDoor
