/- Joined texts. -/
import Derived.Test.YthjgjkohogjjpaaGreatDoorZAz
import Derived.Test.YthjgjkohogjjpaaGreatDoorZAs
import Derived.Test.YthjgjkohogjjpaaGreatDoorZAc
import Derived.Test.YthjgjkohogjjpaaGreatDoorZCa
set_option maxHeartbeats 16000000
set_option linter.unusedSimpArgs false
set_option linter.unusedVariables false
set_option maxRecDepth 100000
namespace Go.Proofs.YthjgjkohogjjpaaGreatDoor
open Go Go.RowKit Go.Shelf

attribute [local go_sem] Oper.semAt_some

theorem right_parts {r : Rc} (h : rightR r = true) : (1 ≤ r.k ∧ r.k ≤ 5) ∧ (r.k = 1 → r.name.may = true) := by
 simp only [rightR, rightRc, tailR, Bool.and_eq_true, decide_eq_true_eq] at h
 refine ⟨⟨h.1, h.2.1⟩, fun hk => ?_⟩
 have := h.2.2.2.2.2.2
 rw [if_pos hk] at this
 simp only [Bool.and_eq_true] at this
 exact this.1

theorem right_item {r : Rc} (hok : r.ok) (h : rightR r = true) : itemR r = some (layR r.k.toNat r) := by
 have h1 := itemR_right r hok
 rw [h] at h1
 obtain ⟨x, hx⟩ := Option.isSome_iff_exists.1 h1
 have hx0 := hx
 unfold itemR at hx
 split at hx
 ·split at hx
  ·injection hx with hx
   rw [hx0, ← hx]
  ·cases hx
 ·cases hx
theorem not_item {r : Rc} (hok : r.ok) (h : rightR r = false) : itemR r = none := by
 have h1 := itemR_right r hok
 rw [h] at h1
 simpa using h1

theorem err_right {x : It} (h : x.err = 0) : x.right = true := by
 rw [It.err] at h
 split at h
 ·assumption
 ·cases h

theorem refEncode10_any (r : Rc) (hok : r.ok) (hr : rightR r = true) (w : World) : Calls Tryz.prog 15 #[.agg #[.int .i64 r.k, .int .u32 r.n, .int .u32 r.m, .int .u64 r.t, .int .u32 r.q, .int .i64 r.wh, .int .i64 r.wy, .int .u64 r.at0, .int .u64 r.no, .int .u32 r.nd, .int .u32 r.rg, .bool r.ys, .int .u64 r.fr, .int .u64 r.un, .int .u8 r.lv]] w (JoinP w (layR r.k.toNat r).bytes) := by
 obtain ⟨W, hW⟩ : ∃ W, W = w.alloc (.cells #[.int .i64 r.k, .int .u32 r.n, .int .u32 r.m, .int .u64 r.t, .int .u32 r.q, .int .i64 r.wh, .int .i64 r.wy, .int .u64 r.at0, .int .u64 r.no, .int .u32 r.nd, .int .u32 r.rg, .bool r.ys, .int .u64 r.fr, .int .u64 r.un, .int .u8 r.lv] 30) := ⟨_, rfl⟩
 have hb : Below w.heap.size w W := by rw [hW]; exact below_al bR _
 have hR : RowB W w.heap.size [.int .i64 r.k, .int .u32 r.n, .int .u32 r.m, .int .u64 r.t, .int .u32 r.q, .int .i64 r.wh, .int .i64 r.wy, .int .u64 r.at0, .int .u64 r.no, .int .u32 r.nd, .int .u32 r.rg, .bool r.ys, .int .u64 r.fr, .int .u64 r.un, .int .u8 r.lv] := by rw [hW]; exact RowB.new w _ _
 have hp := right_parts hr
 have he := itemR_err (right_item hok hr)
 have HI := h_ (refItem10_any r hok hp.1.1 hp.1.2 hp.2 W)
 obtain ⟨x, hx⟩ : ∃ x, x = layR r.k.toNat r := ⟨_, rfl⟩
 rw [← hx] at HI he ⊢
 have HE := h_ (⟨err_right he.1, berrlen he.1⟩ : _ ∧ _)
 have HB0 := h_ hb
 have HW := h_ hW
 have x0 := hR.1 0 _ rfl
 have x1 := hR.1 1 _ rfl
 have x2 := hR.1 2 _ rfl
 have x3 := hR.1 3 _ rfl
 have x4 := hR.1 4 _ rfl
 have x5 := hR.1 5 _ rfl
 have x6 := hR.1 6 _ rfl
 have x7 := hR.1 7 _ rfl
 have x8 := hR.1 8 _ rfl
 have x9 := hR.1 9 _ rfl
 have x10 := hR.1 10 _ rfl
 have x11 := hR.1 11 _ rfl
 have x12 := hR.1 12 _ rfl
 have x13 := hR.1 13 _ rfl
 have x14 := hR.1 14 _ rfl
 rw [hW] at x0 x1 x2 x3 x4 x5 x6 x7 x8 x9 x10 x11 x12 x13 x14
 clear hW hb hR hp he hx hr hok
 go_enter Tryz.func15, Tryz.ntmps15
 go_wp2_with fail
 rw [← HW.out]
 clear x0 x1 x2 x3 x4 x5 x6 x7 x8 x9 x10 x11 x12 x13 x14
 refine HI.out.mono ?_
 rintro e w1 ⟨hb1, a, c, A, C, rfl, hit⟩
 have HB1 := h_ (below_on HB0.out hb1)
 have HBy := h_ (refBytes_any x _ w1 HE.out.1 (by have := HE.out.2; omega) (hit.new_itV))
 clear hb1 hit
 go_wp2_with fail
 refine HBy.out.mono ?_
 rintro e w2 ⟨v, rfl, ho, hb2⟩
 have HO : Hid (OwnV w2 w.heap.size 5 v (x.bytes.map encB)) := ⟨ho.1, ho.2.imp id fun ⟨g, cap, cur, e, h, rest⟩ => ⟨g, cap, cur, e, Nat.le_trans HB1.out.size h, rest⟩⟩
 have HB2 := h_ (below_on HB1.out hb2)
 obtain ⟨a9, c9, rfl, _⟩ := ho.bytes
 clear ho hb2
 go_wp2_with fail
 go_ret
 exact ⟨_, rfl, HO.out, HB2.out⟩

theorem walk_arec1 (r : Rc) (hok : r.ok) (hno : rightR r = false) (w : World) (ht : TabW w) : Calls Tryz.prog 3 #[.agg #[.int .i64 r.k, .int .u32 r.n, .int .u32 r.m, .int .u64 r.t, .int .u32 r.q, .int .i64 r.wh, .int .i64 r.wy, .int .u64 r.at0, .int .u64 r.no, .int .u32 r.nd, .int .u32 r.rg, .bool r.ys, .int .u64 r.fr, .int .u64 r.un, .int .u8 r.lv]] w fun e w' => e = .returned (.bool true) ∧ Below w.heap.size w w' := by
 have HNo := h_ hno
 have HIt := h_ (not_item hok hno)
 clear hno
 obtain ⟨W, hW⟩ : ∃ W, W = w.alloc (.cells #[.int .i64 r.k, .int .u32 r.n, .int .u32 r.m, .int .u64 r.t, .int .u32 r.q, .int .i64 r.wh, .int .i64 r.wy, .int .u64 r.at0, .int .u64 r.no, .int .u32 r.nd, .int .u32 r.rg, .bool r.ys, .int .u64 r.fr, .int .u64 r.un, .int .u8 r.lv] 30) := ⟨_, rfl⟩
 have hb : Below w.heap.size w W := by rw [hW]; exact below_al bR _
 have HX : Hid (∀ w', Below W.heap.size W w' → w'.cell? ⟨w.heap.size, 0, none⟩ = some (.int .i64 r.k) ∧ w'.cell? ⟨w.heap.size, 1, none⟩ = some (.int .u32 r.n) ∧ w'.cell? ⟨w.heap.size, 2, none⟩ = some (.int .u32 r.m) ∧ w'.cell? ⟨w.heap.size, 3, none⟩ = some (.int .u64 r.t) ∧ w'.cell? ⟨w.heap.size, 4, none⟩ = some (.int .u32 r.q) ∧ w'.cell? ⟨w.heap.size, 5, none⟩ = some (.int .i64 r.wh) ∧ w'.cell? ⟨w.heap.size, 6, none⟩ = some (.int .i64 r.wy) ∧ w'.cell? ⟨w.heap.size, 7, none⟩ = some (.int .u64 r.at0) ∧ w'.cell? ⟨w.heap.size, 8, none⟩ = some (.int .u64 r.no) ∧ w'.cell? ⟨w.heap.size, 9, none⟩ = some (.int .u32 r.nd) ∧ w'.cell? ⟨w.heap.size, 10, none⟩ = some (.int .u32 r.rg) ∧ w'.cell? ⟨w.heap.size, 11, none⟩ = some (.bool r.ys) ∧ w'.cell? ⟨w.heap.size, 12, none⟩ = some (.int .u64 r.fr) ∧ w'.cell? ⟨w.heap.size, 13, none⟩ = some (.int .u64 r.un) ∧ w'.cell? ⟨w.heap.size, 14, none⟩ = some (.int .u8 r.lv)) := fun w' h => by
  rw [hW] at h
  exact ⟨box_at h 0, box_at h 1, box_at h 2, box_at h 3, box_at h 4, box_at h 5, box_at h 6, box_at h 7, box_at h 8, box_at h 9, box_at h 10, box_at h 11, box_at h 12, box_at h 13, box_at h 14⟩
 have HT : Hid (∀ w', Below w.heap.size w w' → TabW w') := fun w' h => ht.on h
 have HB0 := h_ hb
 have HOk := h_ hok
 have HW := h_ hW
 obtain ⟨x0, x1, x2, x3, x4, x5, x6, x7, x8, x9, x10, x11, x12, x13, x14⟩ := HX.out W bR
 rw [HW.out] at x0 x1 x2 x3 x4 x5 x6 x7 x8 x9 x10 x11 x12 x13 x14
 clear hW hb hok ht
 go_enter Tryz.func3, Tryz.ntmps3
 go_wp2_with fail
 rw [← HW.out]
 clear x0 x1 x2 x3 x4 x5 x6 x7 x8 x9 x10 x11 x12 x13 x14
 refine (dEncode_any r HOk.out W (HT.out W HB0.out)).mono ?_
 rintro e1 w1 ⟨hb1, hm1⟩
 have HB1 := h_ hb1
 have HW1 : Hid (Below w.heap.size w w1) := below_on HB0.out hb1
 obtain ⟨x0, x1, x2, x3, x4, x5, x6, x7, x8, x9, x10, x11, x12, x13, x14⟩ := HX.out w1 HB1.out
 clear hb1
 rcases hm1 with ⟨xi, u1, hr1, rfl, ho1⟩ | ⟨hr1, rfl⟩
 ·rw [HIt.out] at hr1
  cases hr1
 clear hr1
 go_wp2_with fail
 clear x0 x1 x2 x3 x4 x5 x6 x7 x8 x9 x10 x11 x12 x13 x14
 refine (dCheck_any r HOk.out _ (HT.out _ HW1.out)).mono ?_
 rintro e2 w2 ⟨rfl, hb2⟩
 have hc2 : chkRc r = 2 := by rw [chkRc, HIt.out]; rfl
 rw [hc2]
 have HB2 := h_ (below_on HB1.out hb2)
 have HW2 : Hid (Below w.heap.size w w2) := below_on HW1.out hb2
 clear hb2 hc2
 obtain ⟨x0, x1, x2, x3, x4, x5, x6, x7, x8, x9, x10, x11, x12, x13, x14⟩ := HX.out w2 HB2.out
 go_wp2_with fail
 clear x0 x1 x2 x3 x4 x5 x6 x7 x8 x9 x10 x11 x12 x13 x14
 refine (rRight10_any r _).mono ?_
 rintro e3 w3 ⟨rfl, hb3⟩
 rw [HNo.out]
 have HW3 : Hid (Below w.heap.size w w3) := below_on HW2.out hb3
 clear hb3
 go_wp2_with fail
 refine (dnum10_any 2 _).mono ?_
 rintro e9 w9 ⟨rfl, h9⟩
 rw [← h9]
 clear h9 w9
 go_wp2_with fail
 refine (dnum10_any 2 _).mono ?_
 rintro e9 w9 ⟨rfl, h9⟩
 rw [← h9]
 clear h9 w9
 go_wp2_with fail
 refine (dworks_any _ (HT.out _ HW3.out)).mono ?_
 rintro e9 w9 ⟨rfl, hb9⟩
 have HB9 := h_ (below_on HW3.out hb9)
 clear hb9
 go_wp2_with fail
 go_ret
 exact ⟨rfl, HB9.out⟩

theorem walk_arec2 (r : Rc) (hok : r.ok) (hyes : rightR r = true) (w : World) (ht : TabW w) : Calls Tryz.prog 3 #[.agg #[.int .i64 r.k, .int .u32 r.n, .int .u32 r.m, .int .u64 r.t, .int .u32 r.q, .int .i64 r.wh, .int .i64 r.wy, .int .u64 r.at0, .int .u64 r.no, .int .u32 r.nd, .int .u32 r.rg, .bool r.ys, .int .u64 r.fr, .int .u64 r.un, .int .u8 r.lv]] w fun e w' => e = .returned (.bool true) ∧ Below w.heap.size w w' := by
 have HYe := h_ hyes
 have HIt := h_ (right_item hok hyes)
 clear hyes
 obtain ⟨W, hW⟩ : ∃ W, W = w.alloc (.cells #[.int .i64 r.k, .int .u32 r.n, .int .u32 r.m, .int .u64 r.t, .int .u32 r.q, .int .i64 r.wh, .int .i64 r.wy, .int .u64 r.at0, .int .u64 r.no, .int .u32 r.nd, .int .u32 r.rg, .bool r.ys, .int .u64 r.fr, .int .u64 r.un, .int .u8 r.lv] 30) := ⟨_, rfl⟩
 have hb : Below w.heap.size w W := by rw [hW]; exact below_al bR _
 have HX : Hid (∀ w', Below W.heap.size W w' → w'.cell? ⟨w.heap.size, 0, none⟩ = some (.int .i64 r.k) ∧ w'.cell? ⟨w.heap.size, 1, none⟩ = some (.int .u32 r.n) ∧ w'.cell? ⟨w.heap.size, 2, none⟩ = some (.int .u32 r.m) ∧ w'.cell? ⟨w.heap.size, 3, none⟩ = some (.int .u64 r.t) ∧ w'.cell? ⟨w.heap.size, 4, none⟩ = some (.int .u32 r.q) ∧ w'.cell? ⟨w.heap.size, 5, none⟩ = some (.int .i64 r.wh) ∧ w'.cell? ⟨w.heap.size, 6, none⟩ = some (.int .i64 r.wy) ∧ w'.cell? ⟨w.heap.size, 7, none⟩ = some (.int .u64 r.at0) ∧ w'.cell? ⟨w.heap.size, 8, none⟩ = some (.int .u64 r.no) ∧ w'.cell? ⟨w.heap.size, 9, none⟩ = some (.int .u32 r.nd) ∧ w'.cell? ⟨w.heap.size, 10, none⟩ = some (.int .u32 r.rg) ∧ w'.cell? ⟨w.heap.size, 11, none⟩ = some (.bool r.ys) ∧ w'.cell? ⟨w.heap.size, 12, none⟩ = some (.int .u64 r.fr) ∧ w'.cell? ⟨w.heap.size, 13, none⟩ = some (.int .u64 r.un) ∧ w'.cell? ⟨w.heap.size, 14, none⟩ = some (.int .u8 r.lv)) := fun w' h => by
  rw [hW] at h
  exact ⟨box_at h 0, box_at h 1, box_at h 2, box_at h 3, box_at h 4, box_at h 5, box_at h 6, box_at h 7, box_at h 8, box_at h 9, box_at h 10, box_at h 11, box_at h 12, box_at h 13, box_at h 14⟩
 have HT : Hid (∀ w', Below w.heap.size w w' → TabW w') := fun w' h => ht.on h
 have HB0 := h_ hb
 have HOk := h_ hok
 have HW := h_ hW
 obtain ⟨x0, x1, x2, x3, x4, x5, x6, x7, x8, x9, x10, x11, x12, x13, x14⟩ := HX.out W bR
 rw [HW.out] at x0 x1 x2 x3 x4 x5 x6 x7 x8 x9 x10 x11 x12 x13 x14
 clear hW hb hok ht
 go_enter Tryz.func3, Tryz.ntmps3
 go_wp2_with fail
 rw [← HW.out]
 clear x0 x1 x2 x3 x4 x5 x6 x7 x8 x9 x10 x11 x12 x13 x14
 refine (dEncode_any r HOk.out W (HT.out W HB0.out)).mono ?_
 rintro e1 w1 ⟨hb1, hm1⟩
 have HB1 := h_ hb1
 have HW1 : Hid (Below w.heap.size w w1) := below_on HB0.out hb1
 obtain ⟨x0, x1, x2, x3, x4, x5, x6, x7, x8, x9, x10, x11, x12, x13, x14⟩ := HX.out w1 HB1.out
 clear hb1
 rcases hm1 with ⟨xi, u1, hr1, rfl, ho1⟩ | ⟨hr1, rfl⟩
 rotate_left
 ·rw [HIt.out] at hr1
  cases hr1
 obtain ⟨A1, C1, rfl, hC1, hd1, _⟩ := ho1.bytes
 have hbk1 := rdRcB_back HOk.out hr1
 have hl1 : xi.bytes.length ≤ 65536 := berrlen (itemR_err hr1).1
 have hxi : (layR r.k.toNat r).bytes = xi.bytes := by
  have h := HIt.out
  rw [hr1] at h
  injection h with h
  rw [h]
 have HEn := h_ (fun v => refEncode10_any r HOk.out HYe.out v)
 rw [hxi] at HEn
 obtain ⟨l1, hle1⟩ : ∃ l, l = xi.bytes := ⟨_, rfl⟩
 rw [← hle1] at hbk1 hl1 hd1 hC1 HEn ⊢
 have HK1 := h_ hbk1
 have HL1 := h_ hl1
 have HD1 := h_ hd1
 have HC1 := h_ hC1
 clear ho1 hr1 hC1 hd1 hbk1 hl1 hle1 hxi
 go_wp2_with fail
 clear x0 x1 x2 x3 x4 x5 x6 x7 x8 x9 x10 x11 x12 x13 x14
 refine (dCheck_any r HOk.out _ (HT.out _ HW1.out)).mono ?_
 rintro e2 w2 ⟨rfl, hb2⟩
 have hc2 : chkRc r = 0 := by rw [chkRc, HIt.out]; rfl
 rw [hc2]
 have HB2 := h_ (below_on HB1.out hb2)
 have HW2 : Hid (Below w.heap.size w w2) := below_on HW1.out hb2
 have HD2 : Hid (RdB w2 w2.heap.size A1 l1) := (HD1.out.below hb2).mono hb2.size
 clear hb2 hc2
 obtain ⟨x0, x1, x2, x3, x4, x5, x6, x7, x8, x9, x10, x11, x12, x13, x14⟩ := HX.out w2 HB2.out
 go_wp2_with fail
 clear x0 x1 x2 x3 x4 x5 x6 x7 x8 x9 x10 x11 x12 x13 x14
 refine (rRight10_any r _).mono ?_
 rintro e3 w3 ⟨rfl, hb3⟩
 rw [HYe.out]
 have HB3 := h_ (below_on HB2.out hb3)
 have HW3 : Hid (Below w.heap.size w w3) := below_on HW2.out hb3
 have HD3 : Hid (RdB w3 w3.heap.size A1 l1) := (HD2.out.below hb3).mono hb3.size
 have HDc := h_ (dDecode_any A1 l1.length C1 l1 rfl w3 HD3.out HC1.out (by have := HL1.out; omega) (HT.out w3 HW3.out))
 clear hb3
 go_wp2_with fail
 refine HDc.out.mono ?_
 rintro e4 w4 ⟨hb4, hm4⟩
 rw [HK1.out] at hm4
 have hm4 : e4 = .returned (.tuple #[.agg #[.int .i64 r.k, .int .u32 r.n, .int .u32 r.m, .int .u64 r.t, .int .u32 r.q, .int .i64 r.wh, .int .i64 r.wy, .int .u64 r.at0, .int .u64 r.no, .int .u32 r.nd, .int .u32 r.rg, .bool r.ys, .int .u64 r.fr, .int .u64 r.un, .int .u8 r.lv], .int .i64 0]) := hm4
 subst hm4
 have HB4 := h_ (below_on HB3.out hb4)
 have HD4 : Hid (RdB w4 w4.heap.size A1 l1) := (HD3.out.below hb4).mono hb4.size
 have HW4 : Hid (Below w.heap.size w w4) := below_on HW3.out hb4
 obtain ⟨w5, hw5⟩ : ∃ w5, w5 = w4.alloc (.cells #[.int .i64 r.k, .int .u32 r.n, .int .u32 r.m, .int .u64 r.t, .int .u32 r.q, .int .i64 r.wh, .int .i64 r.wy, .int .u64 r.at0, .int .u64 r.no, .int .u32 r.nd, .int .u32 r.rg, .bool r.ys, .int .u64 r.fr, .int .u64 r.un, .int .u8 r.lv] 30) := ⟨_, rfl⟩
 have hb5 : Below w4.heap.size w4 w5 := by rw [hw5]; exact below_al bR _
 have HW5 : Hid (Below w.heap.size w w5) := below_on HW4.out hb5
 have HS5 : Hid (∀ w', Below w5.heap.size w5 w' → (w'.cell? ⟨w.heap.size, 0, none⟩ = some (.int .i64 r.k) ∧ w'.cell? ⟨w.heap.size, 1, none⟩ = some (.int .u32 r.n) ∧ w'.cell? ⟨w.heap.size, 2, none⟩ = some (.int .u32 r.m) ∧ w'.cell? ⟨w.heap.size, 3, none⟩ = some (.int .u64 r.t) ∧ w'.cell? ⟨w.heap.size, 4, none⟩ = some (.int .u32 r.q) ∧ w'.cell? ⟨w.heap.size, 5, none⟩ = some (.int .i64 r.wh) ∧ w'.cell? ⟨w.heap.size, 6, none⟩ = some (.int .i64 r.wy) ∧ w'.cell? ⟨w.heap.size, 7, none⟩ = some (.int .u64 r.at0) ∧ w'.cell? ⟨w.heap.size, 8, none⟩ = some (.int .u64 r.no) ∧ w'.cell? ⟨w.heap.size, 9, none⟩ = some (.int .u32 r.nd) ∧ w'.cell? ⟨w.heap.size, 10, none⟩ = some (.int .u32 r.rg) ∧ w'.cell? ⟨w.heap.size, 11, none⟩ = some (.bool r.ys) ∧ w'.cell? ⟨w.heap.size, 12, none⟩ = some (.int .u64 r.fr) ∧ w'.cell? ⟨w.heap.size, 13, none⟩ = some (.int .u64 r.un) ∧ w'.cell? ⟨w.heap.size, 14, none⟩ = some (.int .u8 r.lv)) ∧ (w'.cell? ⟨w4.heap.size, 0, none⟩ = some (.int .i64 r.k) ∧ w'.cell? ⟨w4.heap.size, 1, none⟩ = some (.int .u32 r.n) ∧ w'.cell? ⟨w4.heap.size, 2, none⟩ = some (.int .u32 r.m) ∧ w'.cell? ⟨w4.heap.size, 3, none⟩ = some (.int .u64 r.t) ∧ w'.cell? ⟨w4.heap.size, 4, none⟩ = some (.int .u32 r.q) ∧ w'.cell? ⟨w4.heap.size, 5, none⟩ = some (.int .i64 r.wh) ∧ w'.cell? ⟨w4.heap.size, 6, none⟩ = some (.int .i64 r.wy) ∧ w'.cell? ⟨w4.heap.size, 7, none⟩ = some (.int .u64 r.at0) ∧ w'.cell? ⟨w4.heap.size, 8, none⟩ = some (.int .u64 r.no) ∧ w'.cell? ⟨w4.heap.size, 9, none⟩ = some (.int .u32 r.nd) ∧ w'.cell? ⟨w4.heap.size, 10, none⟩ = some (.int .u32 r.rg) ∧ w'.cell? ⟨w4.heap.size, 11, none⟩ = some (.bool r.ys) ∧ w'.cell? ⟨w4.heap.size, 12, none⟩ = some (.int .u64 r.fr) ∧ w'.cell? ⟨w4.heap.size, 13, none⟩ = some (.int .u64 r.un) ∧ w'.cell? ⟨w4.heap.size, 14, none⟩ = some (.int .u8 r.lv)) ∧ (convert 31 9 (.slice A1 l1.length C1)).run Tryz.prog w' = .ok (.string ⟨l1.toArray⟩) w') := fun w' h => by
  have h4 := below_on hb5 h
  refine ⟨HX.out w' (below_on HB4.out h4), ?_, ((HD4.out.below h4).mono h4.size).text 31 9 5 l1.length C1 rfl Tryz.underlying31 Tryz.underlying5 Tryz.underlying9⟩
  rw [hw5] at h
  exact ⟨box_at h 0, box_at h 1, box_at h 2, box_at h 3, box_at h 4, box_at h 5, box_at h 6, box_at h 7, box_at h 8, box_at h 9, box_at h 10, box_at h 11, box_at h 12, box_at h 13, box_at h 14⟩
 have HE5 := h_ hw5
 clear hb4 hb5 hw5
 go_upto_region 6 with fail
 rw [← HE5.out]
 have heq : ∀ w : World, (Op.equalIn 10000 30 (.agg #[.int .i64 r.k, .int .u32 r.n, .int .u32 r.m, .int .u64 r.t, .int .u32 r.q, .int .i64 r.wh, .int .i64 r.wy, .int .u64 r.at0, .int .u64 r.no, .int .u32 r.nd, .int .u32 r.rg, .bool r.ys, .int .u64 r.fr, .int .u64 r.un, .int .u8 r.lv]) (.agg #[.int .i64 r.k, .int .u32 r.n, .int .u32 r.m, .int .u64 r.t, .int .u32 r.q, .int .i64 r.wh, .int .i64 r.wy, .int .u64 r.at0, .int .u64 r.no, .int .u32 r.nd, .int .u32 r.rg, .bool r.ys, .int .u64 r.fr, .int .u64 r.un, .int .u8 r.lv])).run Tryz.prog w = .ok true w := fun w => by
  have h := eqRc_run r r w
  rw [(sameRc_iff _ _).2 rfl] at h
  exact h
 have hbq : ((⟨l1.toArray⟩ : ByteArray) == ⟨l1.toArray⟩) = true := (MapKept.bytes_beq _ _).2 rfl
 have F : Below w5.heap.size w5 w5.drew := bR.drew
 refine wp_region_held_drew (S := (fun w' => (w'.cell? ⟨w.heap.size, 0, none⟩ = some (.int .i64 r.k) ∧ w'.cell? ⟨w.heap.size, 1, none⟩ = some (.int .u32 r.n) ∧ w'.cell? ⟨w.heap.size, 2, none⟩ = some (.int .u32 r.m) ∧ w'.cell? ⟨w.heap.size, 3, none⟩ = some (.int .u64 r.t) ∧ w'.cell? ⟨w.heap.size, 4, none⟩ = some (.int .u32 r.q) ∧ w'.cell? ⟨w.heap.size, 5, none⟩ = some (.int .i64 r.wh) ∧ w'.cell? ⟨w.heap.size, 6, none⟩ = some (.int .i64 r.wy) ∧ w'.cell? ⟨w.heap.size, 7, none⟩ = some (.int .u64 r.at0) ∧ w'.cell? ⟨w.heap.size, 8, none⟩ = some (.int .u64 r.no) ∧ w'.cell? ⟨w.heap.size, 9, none⟩ = some (.int .u32 r.nd) ∧ w'.cell? ⟨w.heap.size, 10, none⟩ = some (.int .u32 r.rg) ∧ w'.cell? ⟨w.heap.size, 11, none⟩ = some (.bool r.ys) ∧ w'.cell? ⟨w.heap.size, 12, none⟩ = some (.int .u64 r.fr) ∧ w'.cell? ⟨w.heap.size, 13, none⟩ = some (.int .u64 r.un) ∧ w'.cell? ⟨w.heap.size, 14, none⟩ = some (.int .u8 r.lv)) ∧ (w'.cell? ⟨w4.heap.size, 0, none⟩ = some (.int .i64 r.k) ∧ w'.cell? ⟨w4.heap.size, 1, none⟩ = some (.int .u32 r.n) ∧ w'.cell? ⟨w4.heap.size, 2, none⟩ = some (.int .u32 r.m) ∧ w'.cell? ⟨w4.heap.size, 3, none⟩ = some (.int .u64 r.t) ∧ w'.cell? ⟨w4.heap.size, 4, none⟩ = some (.int .u32 r.q) ∧ w'.cell? ⟨w4.heap.size, 5, none⟩ = some (.int .i64 r.wh) ∧ w'.cell? ⟨w4.heap.size, 6, none⟩ = some (.int .i64 r.wy) ∧ w'.cell? ⟨w4.heap.size, 7, none⟩ = some (.int .u64 r.at0) ∧ w'.cell? ⟨w4.heap.size, 8, none⟩ = some (.int .u64 r.no) ∧ w'.cell? ⟨w4.heap.size, 9, none⟩ = some (.int .u32 r.nd) ∧ w'.cell? ⟨w4.heap.size, 10, none⟩ = some (.int .u32 r.rg) ∧ w'.cell? ⟨w4.heap.size, 11, none⟩ = some (.bool r.ys) ∧ w'.cell? ⟨w4.heap.size, 12, none⟩ = some (.int .u64 r.fr) ∧ w'.cell? ⟨w4.heap.size, 13, none⟩ = some (.int .u64 r.un) ∧ w'.cell? ⟨w4.heap.size, 14, none⟩ = some (.int .u8 r.lv)) ∧ (convert 31 9 (.slice A1 l1.length C1)).run Tryz.prog w' = .ok (.string ⟨l1.toArray⟩) w')) (by kernel_rfl) (HS5.out _ F) (fun hHeld => ?_)
 refine takeL 0 (v := ?_) ?_ ‹_› ?_
 rotate_left
 ·intro w hSw; (try dsimp only at hSw); go_simp; all_goals with_reducible rfl
 simp only [Act.put, zA, zB, zC]
 refine takeL 1 (v := ?_) ?_ ‹_› ?_
 rotate_left
 ·intro w hSw; (try dsimp only at hSw); go_simp; all_goals with_reducible rfl
 simp only [Act.put, zA, zB, zC]
 refine takeL 2 (v := ?_) ?_ ‹_› ?_
 rotate_left
 ·intro w hSw; (try dsimp only at hSw); go_simp; all_goals with_reducible rfl
 simp only [Act.put, zA, zB, zC]
 refine wpAnyH_ready (rs := [3]) (by kernel_rfl) (by simp) (.cons rfl (fun K hK => ?_) .nil)
 go_simp
 refine (HEn.out _).mono ?_
 rintro e9 v3 ⟨u3, rfl, ho3, hb⟩
 obtain ⟨A3, C3, rfl, hC3, hd3, _⟩ := ho3.bytes
 replace F := below_on F hb
 have HT3 : Hid ((convert 31 9 (.slice A3 l1.length C3)).run Tryz.prog v3 = .ok (.string ⟨l1.toArray⟩) v3) := hd3.text 31 9 5 l1.length C3 rfl Tryz.underlying31 Tryz.underlying5 Tryz.underlying9
 clear hb ho3 hC3 hd3
 refine hK.out _ _ (HS5.out _ F) (fun hHeld => ?_)
 clear hK K
 try simp only [Act.put, zA, zB, zC]
 refine wpAnyH_ready (rs := [4]) (by kernel_rfl) (by simp) (.cons rfl (fun K hK => ?_) .nil)
 have htx := HT3.out
 go_simp
 refine hK.out _ _ hHeld (fun hHeld => ?_)
 clear hK K
 try simp only [Act.put, zA, zB, zC]
 refine takeL 5 (v := ?_) ?_ ‹_› ?_
 rotate_left
 ·intro w hSw; (try dsimp only at hSw); go_simp; all_goals with_reducible rfl
 simp only [Act.put, zA, zB, zC]
 refine takeL 6 (v := ?_) ?_ ‹_› ?_
 rotate_left
 ·intro w hSw; (try dsimp only at hSw); go_simp; all_goals with_reducible rfl
 simp only [Act.put, zA, zB, zC]
 refine takeL 7 (v := ?_) ?_ ‹_› ?_
 rotate_left
 ·intro w hSw; (try dsimp only at hSw); go_simp; all_goals with_reducible rfl
 simp only [Act.put, zA, zB, zC]
 refine takeL 9 (v := ?_) ?_ ‹_› ?_
 rotate_left
 ·intro w hSw; (try dsimp only at hSw); go_simp; all_goals with_reducible rfl
 simp only [Act.put, zA, zB, zC]
 refine takeL 12 (v := ?_) ?_ ‹_› ?_
 rotate_left
 ·intro w hSw; (try dsimp only at hSw); go_simp; all_goals with_reducible rfl
 simp only [Act.put, zA, zB, zC]
 refine wpAnyH_ready (rs := [8]) (by kernel_rfl) (by simp) (.cons rfl (fun K hK => ?_) .nil)
 go_simp
 refine (dnum10_any 0 _).mono ?_
 rintro e9 w9 ⟨rfl, h9⟩
 rw [← h9]
 clear h9 w9
 refine hK.out _ _ hHeld (fun hHeld => ?_)
 clear hK K
 try simp only [Act.put, zA, zB, zC]
 refine wpAnyH_ready (rs := [10]) (by kernel_rfl) (by simp) (.cons rfl (fun K hK => ?_) .nil)
 go_simp
 refine (dnum10_any 0 _).mono ?_
 rintro e9 w9 ⟨rfl, h9⟩
 rw [← h9]
 clear h9 w9
 refine hK.out _ _ hHeld (fun hHeld => ?_)
 clear hK K
 try simp only [Act.put, zA, zB, zC]
 refine takeL 11 (v := ?_) ?_ ‹_› ?_
 rotate_left
 ·intro w hSw; (try dsimp only at hSw); go_simp; all_goals with_reducible rfl
 simp only [Act.put, zA, zB, zC]
 refine wpAnyH_ready (rs := [13]) (by kernel_rfl) (by simp) (.cons rfl (fun K hK => ?_) .nil)
 go_simp
 refine (dnum10_any 0 _).mono ?_
 rintro e9 w9 ⟨rfl, h9⟩
 rw [← h9]
 clear h9 w9
 refine hK.out _ _ hHeld (fun hHeld => ?_)
 clear hK K
 try simp only [Act.put, zA, zB, zC]
 refine takeL 14 (v := ?_) ?_ ‹_› ?_
 rotate_left
 ·intro w hSw; (try dsimp only at hSw); go_simp; all_goals with_reducible rfl
 simp only [Act.put, zA, zB, zC]
 refine takeL 15 (v := ?_) ?_ ‹_› ?_
 rotate_left
 ·intro w hSw; (try dsimp only at hSw); go_simp; all_goals with_reducible rfl
 simp only [Act.put, zA, zB, zC]
 refine takeL 16 (v := ?_) ?_ ‹_› ?_
 rotate_left
 ·intro w hSw; (try dsimp only at hSw); go_simp; all_goals with_reducible rfl
 simp only [Act.put, zA, zB, zC]
 refine takeL 17 (v := ?_) ?_ ‹_› ?_
 rotate_left
 ·intro w hSw; (try dsimp only at hSw); go_simp; all_goals with_reducible rfl
 simp only [Act.put, zA, zB, zC]
 refine takeL 18 (v := ?_) ?_ ‹_› ?_
 rotate_left
 ·intro w hSw; (try dsimp only at hSw); go_simp; all_goals with_reducible rfl
 simp only [Act.put, zA, zB, zC]
 refine takeL 19 (v := ?_) ?_ ‹_› ?_
 rotate_left
 ·intro w hSw; (try dsimp only at hSw); go_simp; all_goals with_reducible rfl
 simp only [Act.put, zA, zB, zC]
 refine takeL 20 (v := ?_) ?_ ‹_› ?_
 rotate_left
 ·intro w hSw; (try dsimp only at hSw); go_simp; all_goals with_reducible rfl
 simp only [Act.put, zA, zB, zC]
 refine takeL 21 (v := ?_) ?_ ‹_› ?_
 rotate_left
 ·intro w hSw; (try dsimp only at hSw); go_simp; all_goals with_reducible rfl
 simp only [Act.put, zA, zB, zC]
 refine takeL 22 (v := ?_) ?_ ‹_› ?_
 rotate_left
 ·intro w hSw; (try dsimp only at hSw); go_simp; all_goals with_reducible rfl
 simp only [Act.put, zA, zB, zC]
 refine wpAnyH_ready (rs := [23]) (by kernel_rfl) (by simp) (.cons rfl (fun K hK => ?_) .nil)
 go_simp
 refine (dworks_any _ (HT.out _ (below_on HW5.out F))).mono ?_
 rintro e9 v9 ⟨rfl, hb⟩
 replace F := below_on F hb
 clear hb
 refine hK.out _ _ (HS5.out _ F) (fun hHeld => ?_)
 clear hK K
 try simp only [Act.put, zA, zB, zC]
 refine takeL 24 (v := ?_) ?_ ‹_› ?_
 rotate_left
 ·intro w hSw; (try dsimp only at hSw); go_simp; all_goals with_reducible rfl
 simp only [Act.put, zA, zB, zC]
 refine takeL 25 (v := ?_) ?_ ‹_› ?_
 rotate_left
 ·intro w hSw; (try dsimp only at hSw); go_simp; all_goals with_reducible rfl
 simp only [Act.put, zA, zB, zC]
 clear hHeld
 refine wpAnyH_done (by kernel_rfl) ?_ _
 have HF := h_ F
 clear F heq hbq
 go_wp2_with fail
 go_ret
 exact ⟨rfl, below_on HW5.out HF.out⟩

theorem walk_arecords (r : Rc) (hok : r.ok) (w : World) (ht : TabW w) : Calls Tryz.prog 3 #[.agg #[.int .i64 r.k, .int .u32 r.n, .int .u32 r.m, .int .u64 r.t, .int .u32 r.q, .int .i64 r.wh, .int .i64 r.wy, .int .u64 r.at0, .int .u64 r.no, .int .u32 r.nd, .int .u32 r.rg, .bool r.ys, .int .u64 r.fr, .int .u64 r.un, .int .u8 r.lv]] w fun e w' => e = .returned (.bool true) ∧ Below w.heap.size w w' := by
 cases h : rightR r with
 | false => exact walk_arec1 r hok h w ht
 | true => exact walk_arec2 r hok h w ht

end Go.Proofs.YthjgjkohogjjpaaGreatDoor
