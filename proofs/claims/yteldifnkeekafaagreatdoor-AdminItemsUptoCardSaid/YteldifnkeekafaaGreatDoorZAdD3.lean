/- Package admin: what the kinds read (3). -/
import Derived.Test.YteldifnkeekafaaGreatDoorZAa
set_option maxHeartbeats 8000000
set_option linter.unusedSimpArgs false
set_option linter.unusedVariables false
set_option maxRecDepth 100000
namespace Go.Proofs.YteldifnkeekafaaGreatDoor
open Go Go.RowKit Go.Shelf

attribute [local go_sem] Oper.semAt_some

def rdReport (l : List It) : Option (Rc × List It) := (tkN l).bind fun p0 => (tkU 1 4 p0.2).bind fun p1 => (tkU 0 5 p1.2).bind fun p2 => (tkT p2.2).bind fun p3 => if (decide (p1.1 = 4) == decide (p2.1 ≠ 0)) = true then some (⟨0, p0.1.1, p0.1.2.1, p0.1.2.2.1, p0.1.2.2.2, p1.1, p2.1, p3.1, 0, 0, 0, false, 0, 0, 0⟩, p3.2) else none

theorem dreport_any (P B : Nat) (l : List It) (w : World) (hd : ∀ y ∈ l, y.depth ≤ 60000) (h : Tk w P B l) : Calls Tryz.prog 63 #[.pointer (some ⟨P, 0, none⟩)] w (RdK w P B (rdReport l) Rc.val) := by
 obtain ⟨W, hW⟩ : ∃ W, W = w.alloc (.cells #[.int .i64 0, .int .u32 0, .int .u32 0, .int .u64 0, .int .u32 0, .int .i64 0, .int .i64 0, .int .u64 0, .int .u64 0, .int .u32 0, .int .u32 0, .bool false, .int .u64 0, .int .u64 0, .int .u8 0] 32) := ⟨_, rfl⟩
 have hbW : Below w.heap.size w W := by rw [hW]; exact below_al bR _
 have HB0 : Hid (But P w W) := But.of_below hbW
 have HPs := h_ h.box
 have HS0 : Hid (w.heap.size < W.heap.size) := by rw [Hid, hW]; simp
 have HR0 : Hid (RowB W w.heap.size [.int .i64 0, .int .u32 0, .int .u32 0, .int .u64 0, .int .u32 0, .int .i64 0, .int .i64 0, .int .u64 0, .int .u64 0, .int .u32 0, .int .u32 0, .bool false, .int .u64 0, .int .u64 0, .int .u8 0]) := by rw [hW]; exact RowB.new w _ _
 have HC := h_ (dname_any P B l W hd (h.on hbW))
 have hPne : w.heap.size ≠ P := by have := HPs.out.1; omega
 have HPn := h_ hPne
 have HW := h_ hW
 clear h hW hbW hPne hd
 go_enter Tryz.func63, Tryz.ntmps63
 go_wp2_with fail
 rw [← HW.out]
 refine HC.out.mono ?_
 rintro e w1 ⟨hb, ⟨⟨xn, xm, xt, xq⟩, l1, hn, rfl, ht⟩ | ⟨hn, rfl⟩⟩
 rotate_left
 ·have HE : Hid (rdReport l = none) := by simp [Hid, rdReport, hn]
  have HB : Hid (But P w w1) := HB0.out.trans hb
  clear hb hn
  rw [gives_def]
  go_wp2_with fail
  exact ⟨rfl, HB.out, .inr ⟨HE.out, rfl⟩⟩
 have HB1 : Hid (But P w w1) := HB0.out.trans hb
 have HR1 := h_ (HR0.out.but hb HS0.out HPn.out)
 have HS1 : Hid (w.heap.size < w1.heap.size) := Nat.lt_of_lt_of_le HS0.out hb.size
 have HT1 := h_ ht
 have HE1 := h_ hn
 have HC := h_ (dnum_i P B l1 1 4 (by decide) (by decide) w1 HT1.out)
 clear hb hn ht
 unfold dnmV
 dsimp only
 go_wp2_with fail
 refine HC.out.mono ?_
 rintro e w2 ⟨hb, ⟨x1, l2, hn, rfl, ht⟩ | ⟨hn, rfl⟩⟩
 rotate_left
 ·have HE : Hid (rdReport l = none) := by simp [Hid, rdReport, HE1.out, hn]
  have HB : Hid (But P w w2) := HB1.out.trans hb
  clear hb hn
  rw [gives_def]
  go_wp2_with fail
  exact ⟨rfl, HB.out, .inr ⟨HE.out, rfl⟩⟩
 have HB2 : Hid (But P w w2) := HB1.out.trans hb
 have HR2 := h_ (HR1.out.but hb HS1.out HPn.out)
 have HS2 : Hid (w.heap.size < w2.heap.size) := Nat.lt_of_lt_of_le HS1.out hb.size
 have HT2 := h_ ht
 have HE2 := h_ hn
 have HC := h_ (dnum_i P B l2 0 5 (by decide) (by decide) w2 HT2.out)
 clear hb hn ht
 go_wp2_with fail
 refine HC.out.mono ?_
 rintro e w3 ⟨hb, ⟨x2, l3, hn, rfl, ht⟩ | ⟨hn, rfl⟩⟩
 rotate_left
 ·have HE : Hid (rdReport l = none) := by simp [Hid, rdReport, HE1.out, HE2.out, hn]
  have HB : Hid (But P w w3) := HB2.out.trans hb
  clear hb hn
  rw [gives_def]
  go_wp2_with fail
  exact ⟨rfl, HB.out, .inr ⟨HE.out, rfl⟩⟩
 have HB3 : Hid (But P w w3) := HB2.out.trans hb
 have HR3 := h_ (HR2.out.but hb HS2.out HPn.out)
 have HS3 : Hid (w.heap.size < w3.heap.size) := Nat.lt_of_lt_of_le HS2.out hb.size
 have HT3 := h_ ht
 have HE3 := h_ hn
 have HC := h_ (dtime_any P B l3 w3 HT3.out)
 clear hb hn ht
 go_wp2_with fail
 refine HC.out.mono ?_
 rintro e w4 ⟨hb, ⟨x3, l4, hn, rfl, ht⟩ | ⟨hn, rfl⟩⟩
 rotate_left
 ·have HE : Hid (rdReport l = none) := by simp [Hid, rdReport, HE1.out, HE2.out, HE3.out, hn]
  have HB : Hid (But P w w4) := HB3.out.trans hb
  clear hb hn
  rw [gives_def]
  go_wp2_with fail
  exact ⟨rfl, HB.out, .inr ⟨HE.out, rfl⟩⟩
 have HB4 : Hid (But P w w4) := HB3.out.trans hb
 have HR4 := h_ (HR3.out.but hb HS3.out HPn.out)
 have HS4 : Hid (w.heap.size < w4.heap.size) := Nat.lt_of_lt_of_le HS3.out hb.size
 have HT4 := h_ ht
 have HE4 := h_ hn
 clear hb hn ht
 skip
 obtain ⟨qq, hqq⟩ : ∃ q, q = (decide (x1 = 4) == decide (x2 ≠ 0)) := ⟨_, rfl⟩
 have hq1 : ((x1 : Int) == 4) = decide (x1 = 4) := by rw [Bool.eq_iff_iff]; simp; omega
 have hq2 : ((x2 : Int) != 0) = decide (x2 ≠ 0) := by rw [Bool.eq_iff_iff]; simp
 have hq3 : (((x1 : Int) == 4) == ((x2 : Int) != 0)) = qq := by rw [hq1, hq2, hqq]
 clear hq1 hq2
 have HEq : Hid (rdReport l = if qq = true then some (⟨0, xn, xm, xt, xq, x1, x2, x3, 0, 0, 0, false, 0, 0, 0⟩, l4) else none) := by simp [Hid, rdReport, HE1.out, HE2.out, HE3.out, HE4.out, hqq]
 clear hqq
 obtain ⟨v1, hv1⟩ : ∃ v1, v1 = w4.alloc (.cells #[.int .i64 0, .int .u32 xn, .int .u32 xm, .int .u64 xt, .int .u32 xq, .int .i64 x1, .int .i64 x2, .int .u64 x3, .int .u64 0, .int .u32 0, .int .u32 0, .bool false, .int .u64 0, .int .u64 0, .int .u8 0] 32) := ⟨_, rfl⟩
 have hbv : Below w4.heap.size w4 v1 := by rw [hv1]; exact below_al bR _
 have HBv : Hid (But P w v1) := HB4.out.trans (But.of_below hbv)
 have HTv := h_ (HT4.out.on hbv)
 have HRv := h_ (HR4.out.on hbv HS4.out)
 have HSv : Hid (w.heap.size < v1.heap.size ∧ w4.heap.size < v1.heap.size) := by rw [Hid, hv1]; have := HS4.out; simp; omega
 have HQv : Hid (RowB v1 w4.heap.size [.int .i64 0, .int .u32 xn, .int .u32 xm, .int .u64 xt, .int .u32 xq, .int .i64 x1, .int .i64 x2, .int .u64 x3, .int .u64 0, .int .u32 0, .int .u32 0, .bool false, .int .u64 0, .int .u64 0, .int .u8 0]) := by rw [hv1]; exact RowB.new w4 _ _
 have HV1 := h_ hv1
 clear hbv hv1
 go_upto_region 2 with fail
 rw [← HV1.out]
 obtain ⟨y0, y1, y2, y3, y4, y5, y6, y7, y8, y9, y10, y11, y12, y13, y14⟩ := r15 HQv.out
 go_wp2_with fail
 clear y0 y1 y2 y3 y4 y5 y6 y7 y8 y9 y10 y11 y12 y13 y14
 refine (dneed_any qq _).mono ?_
 rintro e v3 ⟨h9, ⟨rfl, rfl⟩ | ⟨rfl, rfl⟩⟩
 rotate_left
 ·rw [← h9]
  clear h9 v3
  rw [gives_def]
  go_wp2_with fail
  exact ⟨rfl, HBv.out, .inr ⟨by rw [HEq.out]; rfl, rfl⟩⟩
 rw [← h9]
 clear h9 v3
 obtain ⟨y0, y1, y2, y3, y4, y5, y6, y7, y8, y9, y10, y11, y12, y13, y14⟩ := r15 HQv.out
 obtain ⟨r0, r1, r2, r3, r4, r5, r6, r7, r8, r9, r10, r11, r12, r13, r14⟩ := r15 HRv.out
 obtain ⟨f0, f1, f2, f3, f4, f5, f6, f7, f8, f9, f10, f11, f12, f13, f14⟩ := f15 HRv.out
 go_wp2_with fail
 change bodyPost _ _ _ _ _ (putL v1 w.heap.size 0 [.int .i64 0, .int .u32 xn, .int .u32 xm, .int .u64 xt, .int .u32 xq, .int .i64 x1, .int .i64 x2, .int .u64 x3, .int .u64 0, .int .u32 0, .int .u32 0, .bool false, .int .u64 0, .int .u64 0, .int .u8 0])
 have hrow : RowB (putL v1 w.heap.size 0 [.int .i64 0, .int .u32 xn, .int .u32 xm, .int .u64 xt, .int .u32 xq, .int .i64 x1, .int .i64 x2, .int .u64 x3, .int .u64 0, .int .u32 0, .int .u32 0, .bool false, .int .u64 0, .int .u64 0, .int .u8 0]) w.heap.size [.int .i64 0, .int .u32 xn, .int .u32 xm, .int .u64 xt, .int .u32 xq, .int .i64 x1, .int .i64 x2, .int .u64 x3, .int .u64 0, .int .u32 0, .int .u32 0, .bool false, .int .u64 0, .int .u64 0, .int .u8 0] := putL_row _ _ 0 _ HRv.out
 have hfin : RdK w P B (rdReport l) Rc.val (.returned (.agg #[.int .i64 0, .int .u32 xn, .int .u32 xm, .int .u64 xt, .int .u32 xq, .int .i64 x1, .int .i64 x2, .int .u64 x3, .int .u64 0, .int .u32 0, .int .u32 0, .bool false, .int .u64 0, .int .u64 0, .int .u8 0])) (putL v1 w.heap.size 0 [.int .i64 0, .int .u32 xn, .int .u32 xm, .int .u64 xt, .int .u32 xq, .int .i64 x1, .int .i64 x2, .int .u64 x3, .int .u64 0, .int .u32 0, .int .u32 0, .bool false, .int .u64 0, .int .u64 0, .int .u8 0]) :=
  ⟨putL_but (Nat.le_refl _) _ 0 _ HBv.out, .inl ⟨⟨0, xn, xm, xt, xq, x1, x2, x3, 0, 0, 0, false, 0, 0, 0⟩, l4, (by rw [HEq.out]; rfl), rfl, putL_tk HPn.out (by have := HPs.out; omega) _ 0 _ HTv.out⟩⟩
 generalize putL v1 w.heap.size 0 [.int .i64 0, .int .u32 xn, .int .u32 xm, .int .u64 xt, .int .u32 xq, .int .i64 x1, .int .i64 x2, .int .u64 x3, .int .u64 0, .int .u32 0, .int .u32 0, .bool false, .int .u64 0, .int .u64 0, .int .u8 0] = w30 at *
 obtain ⟨k0, k1, k2, k3, k4, k5, k6, k7, k8, k9, k10, k11, k12, k13, k14⟩ := r15 hrow
 exact bodyPost_ret (v := .agg #[.int .i64 0, .int .u32 xn, .int .u32 xm, .int .u64 xt, .int .u32 xq, .int .i64 x1, .int .i64 x2, .int .u64 x3, .int .u64 0, .int .u32 0, .int .u32 0, .bool false, .int .u64 0, .int .u64 0, .int .u8 0]) (by simp [results, Tryz.results63, go_sem, k0, k1, k2, k3, k4, k5, k6, k7, k8, k9, k10, k11, k12, k13, k14]) rfl hfin

end Go.Proofs.YteldifnkeekafaaGreatDoor

