/- Package admin: what the kinds read (1). -/
import Derived.Test.YteldifnkeekafaaGreatDoorZAa
set_option maxHeartbeats 8000000
set_option linter.unusedSimpArgs false
set_option linter.unusedVariables false
set_option maxRecDepth 100000
namespace Go.Proofs.YteldifnkeekafaaGreatDoor
open Go Go.RowKit Go.Shelf

attribute [local go_sem] Oper.semAt_some

def rdAsk (l : List It) : Option (Rc × List It) := (tkU 0 4294967295 l).bind fun p0 => (tkU 1 4294967295 p0.2).bind fun p1 => (tkU 1 4294967295 p1.2).bind fun p2 => some (⟨0, 0, 0, 0, 0, 0, 0, 0, p0.1, p1.1, p2.1, false, 0, 0, 0⟩, p2.2)

theorem dask_any (P B : Nat) (l : List It) (w : World) (h : Tk w P B l) : Calls Tryz.prog 66 #[.pointer (some ⟨P, 0, none⟩)] w (RdK w P B (rdAsk l) Rc.val) := by
 obtain ⟨W, hW⟩ : ∃ W, W = w.alloc (.cells #[.int .i64 0, .int .u32 0, .int .u32 0, .int .u64 0, .int .u32 0, .int .i64 0, .int .i64 0, .int .u64 0, .int .u64 0, .int .u32 0, .int .u32 0, .bool false, .int .u64 0, .int .u64 0, .int .u8 0] 32) := ⟨_, rfl⟩
 have hbW : Below w.heap.size w W := by rw [hW]; exact below_al bR _
 have HB0 : Hid (But P w W) := But.of_below hbW
 have HPs := h_ h.box
 have HS0 : Hid (w.heap.size < W.heap.size) := by rw [Hid, hW]; simp
 have HR0 : Hid (RowB W w.heap.size [.int .i64 0, .int .u32 0, .int .u32 0, .int .u64 0, .int .u32 0, .int .i64 0, .int .i64 0, .int .u64 0, .int .u64 0, .int .u32 0, .int .u32 0, .bool false, .int .u64 0, .int .u64 0, .int .u8 0]) := by rw [hW]; exact RowB.new w _ _
 have HC := h_ (dshort_any P B l W (h.on hbW))
 have hPne : w.heap.size ≠ P := by have := HPs.out.1; omega
 have HPn := h_ hPne
 have HW := h_ hW
 clear h hW hbW hPne
 go_enter Tryz.func66, Tryz.ntmps66
 go_wp2_with fail
 rw [← HW.out]
 refine HC.out.mono ?_
 rintro e w1 ⟨hb, ⟨x0, l1, hn, rfl, ht⟩ | ⟨hn, rfl⟩⟩
 rotate_left
 ·have HE : Hid (rdAsk l = none) := by simp [Hid, rdAsk, hn]
  have HB : Hid (But P w w1) := HB0.out.trans hb
  clear hb hn
  rw [gives_def]
  go_wp2_with fail
  exact ⟨rfl, HB.out, .inr ⟨HE.out, rfl⟩⟩
 have HB1 : Hid (But P w w1) := HB0.out.trans hb
 have HR1 := h_ (HR0.out.but hb HS0.out HPn.out)
 have HS1 : Hid (w.heap.size < w1.heap.size) := Nat.lt_of_lt_of_le HS0.out hb.size
 have HT1 := h_ ht
 have HE1 := h_ hn
 have HC := h_ (dplace_any P B l1 w1 HT1.out)
 clear hb hn ht
 go_wp2_with fail
 refine HC.out.mono ?_
 rintro e w2 ⟨hb, ⟨x1, l2, hn, rfl, ht⟩ | ⟨hn, rfl⟩⟩
 rotate_left
 ·have HE : Hid (rdAsk l = none) := by simp [Hid, rdAsk, HE1.out, hn]
  have HB : Hid (But P w w2) := HB1.out.trans hb
  clear hb hn
  rw [gives_def]
  go_wp2_with fail
  exact ⟨rfl, HB.out, .inr ⟨HE.out, rfl⟩⟩
 have HB2 : Hid (But P w w2) := HB1.out.trans hb
 have HR2 := h_ (HR1.out.but hb HS1.out HPn.out)
 have HS2 : Hid (w.heap.size < w2.heap.size) := Nat.lt_of_lt_of_le HS1.out hb.size
 have HT2 := h_ ht
 have HE2 := h_ hn
 have HC := h_ (dplace_any P B l2 w2 HT2.out)
 clear hb hn ht
 go_wp2_with fail
 refine HC.out.mono ?_
 rintro e w3 ⟨hb, ⟨x2, l3, hn, rfl, ht⟩ | ⟨hn, rfl⟩⟩
 rotate_left
 ·have HE : Hid (rdAsk l = none) := by simp [Hid, rdAsk, HE1.out, HE2.out, hn]
  have HB : Hid (But P w w3) := HB2.out.trans hb
  clear hb hn
  rw [gives_def]
  go_wp2_with fail
  exact ⟨rfl, HB.out, .inr ⟨HE.out, rfl⟩⟩
 have HB3 : Hid (But P w w3) := HB2.out.trans hb
 have HR3 := h_ (HR2.out.but hb HS2.out HPn.out)
 have HS3 : Hid (w.heap.size < w3.heap.size) := Nat.lt_of_lt_of_le HS2.out hb.size
 have HT3 := h_ ht
 have HE3 := h_ hn
 clear hb hn ht
 skip
 have HE : Hid (rdAsk l = some (⟨0, 0, 0, 0, 0, 0, 0, 0, x0, x1, x2, false, 0, 0, 0⟩, l3)) := by simp [Hid, rdAsk, HE1.out, HE2.out, HE3.out]
 obtain ⟨r0, r1, r2, r3, r4, r5, r6, r7, r8, r9, r10, r11, r12, r13, r14⟩ := r15 HR3.out
 obtain ⟨f0, f1, f2, f3, f4, f5, f6, f7, f8, f9, f10, f11, f12, f13, f14⟩ := f15 HR3.out
 go_wp2_with fail
 change bodyPost _ _ _ _ _ (putL w3 w.heap.size 0 [.int .i64 0, .int .u32 0, .int .u32 0, .int .u64 0, .int .u32 0, .int .i64 0, .int .i64 0, .int .u64 0, .int .u64 x0, .int .u32 x1, .int .u32 x2, .bool false, .int .u64 0, .int .u64 0, .int .u8 0])
 have hrow : RowB (putL w3 w.heap.size 0 [.int .i64 0, .int .u32 0, .int .u32 0, .int .u64 0, .int .u32 0, .int .i64 0, .int .i64 0, .int .u64 0, .int .u64 x0, .int .u32 x1, .int .u32 x2, .bool false, .int .u64 0, .int .u64 0, .int .u8 0]) w.heap.size [.int .i64 0, .int .u32 0, .int .u32 0, .int .u64 0, .int .u32 0, .int .i64 0, .int .i64 0, .int .u64 0, .int .u64 x0, .int .u32 x1, .int .u32 x2, .bool false, .int .u64 0, .int .u64 0, .int .u8 0] := putL_row _ _ 0 _ HR3.out
 have hfin : RdK w P B (rdAsk l) Rc.val (.returned (.agg #[.int .i64 0, .int .u32 0, .int .u32 0, .int .u64 0, .int .u32 0, .int .i64 0, .int .i64 0, .int .u64 0, .int .u64 x0, .int .u32 x1, .int .u32 x2, .bool false, .int .u64 0, .int .u64 0, .int .u8 0])) (putL w3 w.heap.size 0 [.int .i64 0, .int .u32 0, .int .u32 0, .int .u64 0, .int .u32 0, .int .i64 0, .int .i64 0, .int .u64 0, .int .u64 x0, .int .u32 x1, .int .u32 x2, .bool false, .int .u64 0, .int .u64 0, .int .u8 0]) :=
  ⟨putL_but (Nat.le_refl _) _ 0 _ HB3.out, .inl ⟨⟨0, 0, 0, 0, 0, 0, 0, 0, x0, x1, x2, false, 0, 0, 0⟩, l3, HE.out, rfl, putL_tk HPn.out (by have := HPs.out; omega) _ 0 _ HT3.out⟩⟩
 generalize putL w3 w.heap.size 0 [.int .i64 0, .int .u32 0, .int .u32 0, .int .u64 0, .int .u32 0, .int .i64 0, .int .i64 0, .int .u64 0, .int .u64 x0, .int .u32 x1, .int .u32 x2, .bool false, .int .u64 0, .int .u64 0, .int .u8 0] = w30 at *
 obtain ⟨k0, k1, k2, k3, k4, k5, k6, k7, k8, k9, k10, k11, k12, k13, k14⟩ := r15 hrow
 exact bodyPost_ret (v := .agg #[.int .i64 0, .int .u32 0, .int .u32 0, .int .u64 0, .int .u32 0, .int .i64 0, .int .i64 0, .int .u64 0, .int .u64 x0, .int .u32 x1, .int .u32 x2, .bool false, .int .u64 0, .int .u64 0, .int .u8 0]) (by simp [results, Tryz.results66, go_sem, k0, k1, k2, k3, k4, k5, k6, k7, k8, k9, k10, k11, k12, k13, k14]) rfl hfin

def rdTell (l : List It) : Option (Rc × List It) := (tkU 0 4294967295 l).bind fun p0 => (tkU 1 4294967295 p0.2).bind fun p1 => (tkU 1 4294967295 p1.2).bind fun p2 => (tkB p2.2).bind fun p3 => (tkT p3.2).bind fun p4 => some (⟨0, 0, 0, 0, 0, 0, 0, 0, p0.1, p1.1, p2.1, p3.1, 0, p4.1, 0⟩, p4.2)

theorem dtell_any (P B : Nat) (l : List It) (w : World) (h : Tk w P B l) : Calls Tryz.prog 69 #[.pointer (some ⟨P, 0, none⟩)] w (RdK w P B (rdTell l) Rc.val) := by
 obtain ⟨W, hW⟩ : ∃ W, W = w.alloc (.cells #[.int .i64 0, .int .u32 0, .int .u32 0, .int .u64 0, .int .u32 0, .int .i64 0, .int .i64 0, .int .u64 0, .int .u64 0, .int .u32 0, .int .u32 0, .bool false, .int .u64 0, .int .u64 0, .int .u8 0] 32) := ⟨_, rfl⟩
 have hbW : Below w.heap.size w W := by rw [hW]; exact below_al bR _
 have HB0 : Hid (But P w W) := But.of_below hbW
 have HPs := h_ h.box
 have HS0 : Hid (w.heap.size < W.heap.size) := by rw [Hid, hW]; simp
 have HR0 : Hid (RowB W w.heap.size [.int .i64 0, .int .u32 0, .int .u32 0, .int .u64 0, .int .u32 0, .int .i64 0, .int .i64 0, .int .u64 0, .int .u64 0, .int .u32 0, .int .u32 0, .bool false, .int .u64 0, .int .u64 0, .int .u8 0]) := by rw [hW]; exact RowB.new w _ _
 have HC := h_ (dshort_any P B l W (h.on hbW))
 have hPne : w.heap.size ≠ P := by have := HPs.out.1; omega
 have HPn := h_ hPne
 have HW := h_ hW
 clear h hW hbW hPne
 go_enter Tryz.func69, Tryz.ntmps69
 go_wp2_with fail
 rw [← HW.out]
 refine HC.out.mono ?_
 rintro e w1 ⟨hb, ⟨x0, l1, hn, rfl, ht⟩ | ⟨hn, rfl⟩⟩
 rotate_left
 ·have HE : Hid (rdTell l = none) := by simp [Hid, rdTell, hn]
  have HB : Hid (But P w w1) := HB0.out.trans hb
  clear hb hn
  rw [gives_def]
  go_wp2_with fail
  exact ⟨rfl, HB.out, .inr ⟨HE.out, rfl⟩⟩
 have HB1 : Hid (But P w w1) := HB0.out.trans hb
 have HR1 := h_ (HR0.out.but hb HS0.out HPn.out)
 have HS1 : Hid (w.heap.size < w1.heap.size) := Nat.lt_of_lt_of_le HS0.out hb.size
 have HT1 := h_ ht
 have HE1 := h_ hn
 have HC := h_ (dplace_any P B l1 w1 HT1.out)
 clear hb hn ht
 go_wp2_with fail
 refine HC.out.mono ?_
 rintro e w2 ⟨hb, ⟨x1, l2, hn, rfl, ht⟩ | ⟨hn, rfl⟩⟩
 rotate_left
 ·have HE : Hid (rdTell l = none) := by simp [Hid, rdTell, HE1.out, hn]
  have HB : Hid (But P w w2) := HB1.out.trans hb
  clear hb hn
  rw [gives_def]
  go_wp2_with fail
  exact ⟨rfl, HB.out, .inr ⟨HE.out, rfl⟩⟩
 have HB2 : Hid (But P w w2) := HB1.out.trans hb
 have HR2 := h_ (HR1.out.but hb HS1.out HPn.out)
 have HS2 : Hid (w.heap.size < w2.heap.size) := Nat.lt_of_lt_of_le HS1.out hb.size
 have HT2 := h_ ht
 have HE2 := h_ hn
 have HC := h_ (dplace_any P B l2 w2 HT2.out)
 clear hb hn ht
 go_wp2_with fail
 refine HC.out.mono ?_
 rintro e w3 ⟨hb, ⟨x2, l3, hn, rfl, ht⟩ | ⟨hn, rfl⟩⟩
 rotate_left
 ·have HE : Hid (rdTell l = none) := by simp [Hid, rdTell, HE1.out, HE2.out, hn]
  have HB : Hid (But P w w3) := HB2.out.trans hb
  clear hb hn
  rw [gives_def]
  go_wp2_with fail
  exact ⟨rfl, HB.out, .inr ⟨HE.out, rfl⟩⟩
 have HB3 : Hid (But P w w3) := HB2.out.trans hb
 have HR3 := h_ (HR2.out.but hb HS2.out HPn.out)
 have HS3 : Hid (w.heap.size < w3.heap.size) := Nat.lt_of_lt_of_le HS2.out hb.size
 have HT3 := h_ ht
 have HE3 := h_ hn
 have HC := h_ (dtruth_any P B l3 w3 HT3.out)
 clear hb hn ht
 go_wp2_with fail
 refine HC.out.mono ?_
 rintro e w4 ⟨hb, ⟨x3, l4, hn, rfl, ht⟩ | ⟨hn, rfl⟩⟩
 rotate_left
 ·have HE : Hid (rdTell l = none) := by simp [Hid, rdTell, HE1.out, HE2.out, HE3.out, hn]
  have HB : Hid (But P w w4) := HB3.out.trans hb
  clear hb hn
  rw [gives_def]
  go_wp2_with fail
  exact ⟨rfl, HB.out, .inr ⟨HE.out, rfl⟩⟩
 have HB4 : Hid (But P w w4) := HB3.out.trans hb
 have HR4 := h_ (HR3.out.but hb HS3.out HPn.out)
 have HS4 : Hid (w.heap.size < w4.heap.size) := Nat.lt_of_lt_of_le HS3.out hb.size
 have HT4 := h_ ht
 have HE4 := h_ hn
 have HC := h_ (dtime_any P B l4 w4 HT4.out)
 clear hb hn ht
 go_wp2_with fail
 refine HC.out.mono ?_
 rintro e w5 ⟨hb, ⟨x4, l5, hn, rfl, ht⟩ | ⟨hn, rfl⟩⟩
 rotate_left
 ·have HE : Hid (rdTell l = none) := by simp [Hid, rdTell, HE1.out, HE2.out, HE3.out, HE4.out, hn]
  have HB : Hid (But P w w5) := HB4.out.trans hb
  clear hb hn
  rw [gives_def]
  go_wp2_with fail
  exact ⟨rfl, HB.out, .inr ⟨HE.out, rfl⟩⟩
 have HB5 : Hid (But P w w5) := HB4.out.trans hb
 have HR5 := h_ (HR4.out.but hb HS4.out HPn.out)
 have HS5 : Hid (w.heap.size < w5.heap.size) := Nat.lt_of_lt_of_le HS4.out hb.size
 have HT5 := h_ ht
 have HE5 := h_ hn
 clear hb hn ht
 skip
 have HE : Hid (rdTell l = some (⟨0, 0, 0, 0, 0, 0, 0, 0, x0, x1, x2, x3, 0, x4, 0⟩, l5)) := by simp [Hid, rdTell, HE1.out, HE2.out, HE3.out, HE4.out, HE5.out]
 obtain ⟨r0, r1, r2, r3, r4, r5, r6, r7, r8, r9, r10, r11, r12, r13, r14⟩ := r15 HR5.out
 obtain ⟨f0, f1, f2, f3, f4, f5, f6, f7, f8, f9, f10, f11, f12, f13, f14⟩ := f15 HR5.out
 go_wp2_with fail
 change bodyPost _ _ _ _ _ (putL w5 w.heap.size 0 [.int .i64 0, .int .u32 0, .int .u32 0, .int .u64 0, .int .u32 0, .int .i64 0, .int .i64 0, .int .u64 0, .int .u64 x0, .int .u32 x1, .int .u32 x2, .bool x3, .int .u64 0, .int .u64 x4, .int .u8 0])
 have hrow : RowB (putL w5 w.heap.size 0 [.int .i64 0, .int .u32 0, .int .u32 0, .int .u64 0, .int .u32 0, .int .i64 0, .int .i64 0, .int .u64 0, .int .u64 x0, .int .u32 x1, .int .u32 x2, .bool x3, .int .u64 0, .int .u64 x4, .int .u8 0]) w.heap.size [.int .i64 0, .int .u32 0, .int .u32 0, .int .u64 0, .int .u32 0, .int .i64 0, .int .i64 0, .int .u64 0, .int .u64 x0, .int .u32 x1, .int .u32 x2, .bool x3, .int .u64 0, .int .u64 x4, .int .u8 0] := putL_row _ _ 0 _ HR5.out
 have hfin : RdK w P B (rdTell l) Rc.val (.returned (.agg #[.int .i64 0, .int .u32 0, .int .u32 0, .int .u64 0, .int .u32 0, .int .i64 0, .int .i64 0, .int .u64 0, .int .u64 x0, .int .u32 x1, .int .u32 x2, .bool x3, .int .u64 0, .int .u64 x4, .int .u8 0])) (putL w5 w.heap.size 0 [.int .i64 0, .int .u32 0, .int .u32 0, .int .u64 0, .int .u32 0, .int .i64 0, .int .i64 0, .int .u64 0, .int .u64 x0, .int .u32 x1, .int .u32 x2, .bool x3, .int .u64 0, .int .u64 x4, .int .u8 0]) :=
  ⟨putL_but (Nat.le_refl _) _ 0 _ HB5.out, .inl ⟨⟨0, 0, 0, 0, 0, 0, 0, 0, x0, x1, x2, x3, 0, x4, 0⟩, l5, HE.out, rfl, putL_tk HPn.out (by have := HPs.out; omega) _ 0 _ HT5.out⟩⟩
 generalize putL w5 w.heap.size 0 [.int .i64 0, .int .u32 0, .int .u32 0, .int .u64 0, .int .u32 0, .int .i64 0, .int .i64 0, .int .u64 0, .int .u64 x0, .int .u32 x1, .int .u32 x2, .bool x3, .int .u64 0, .int .u64 x4, .int .u8 0] = w30 at *
 obtain ⟨k0, k1, k2, k3, k4, k5, k6, k7, k8, k9, k10, k11, k12, k13, k14⟩ := r15 hrow
 exact bodyPost_ret (v := .agg #[.int .i64 0, .int .u32 0, .int .u32 0, .int .u64 0, .int .u32 0, .int .i64 0, .int .i64 0, .int .u64 0, .int .u64 x0, .int .u32 x1, .int .u32 x2, .bool x3, .int .u64 0, .int .u64 x4, .int .u8 0]) (by simp [results, Tryz.results69, go_sem, k0, k1, k2, k3, k4, k5, k6, k7, k8, k9, k10, k11, k12, k13, k14]) rfl hfin

end Go.Proofs.YteldifnkeekafaaGreatDoor

