/- Joined texts. -/
import Derived.Test.YteldifnkeekafaaGreatDoorZAp
import Derived.Test.YteldifnkeekafaaGreatDoorZCy
import Derived.Test.YteldifnkeekafaaGreatDoorZAc
set_option maxHeartbeats 16000000
set_option linter.unusedSimpArgs false
set_option linter.unusedVariables false
set_option maxRecDepth 100000
namespace Go.Proofs.YteldifnkeekafaaGreatDoor
open Go Go.RowKit Go.Shelf

attribute [local go_sem] Oper.semAt_some

def BackP (bs : List UInt8) : Prop := ∀ q, rdRcB bs = .ok q → q.ok ∧ ∃ x, itemR q = some x ∧ x.bytes = bs
theorem decodeN_right {bs : List UInt8} {x : It} (h : decodeN bs = .ok x) : x.right = true ∧ x.bytes = bs := by
 unfold decodeN at h
 split at h
 ·cases h
 ·rename_i y n hf
  split at h
  ·cases h
  ·rename_i hn
   injection h with h
   subst h
   obtain ⟨h1, h2, h3, h4⟩ := firstN_back hf
   refine ⟨err_right h1, ?_⟩
   rw [h3, List.take_of_length_le (by omega)]
theorem ofR_ok {w : World} {B : Nat} {v : Value} {x : It} {q : Rc} (hv : ItV w B v x) (h : ofR x = some q) : q.ok := by
 have h0 := h
 unfold ofR at h
 split at h
 ·split at h
  ·injection h with h
   rw [← h]
   exact candR_ok hv _
  ·cases h
 ·cases h
theorem back_of {w : World} {B : Nat} {v : Value} {bs : List UInt8} {x : It} (hd : decodeN bs = .ok x) (hv : ItV w B v x) : BackP bs := by
 intro q hq
 obtain ⟨hr, hb⟩ := decodeN_right hd
 have h1 := rd_of hv hr
 rw [rdRcB, hd] at hq
 simp only [h1] at hq
 cases ho : ofR x with
 | none => rw [ho] at hq; cases hq
 | some r =>
  rw [ho] at hq
  injection hq with hq
  subst hq
  obtain ⟨h2, h3, h4⟩ := ofR_rd hv ho
  have h5 := right_item (ofR_ok hv ho) h4
  rw [← h3] at h5
  exact ⟨ofR_ok hv ho, x, h5, hb⟩
theorem back_err {bs : List UInt8} {c : Nat} (h : decodeN bs = .error c) : BackP bs := by
 intro q hq
 rw [rdRcB_err h] at hq
 cases hq
theorem rdRcB_code {bs : List UInt8} {c : Int} (h : rdRcB bs = .error c) : c ≠ 0 := by
 unfold rdRcB at h
 split at h
 ·rename_i q hq
  injection h with h
  have := decodeN_err hq
  omega
 ·split at h
  ·cases h
  ·injection h with h
   omega

theorem refDecode10_any (a : Option Addr) (n c : Nat) (bs : List UInt8) (hn : n = bs.length) (w : World) (hr : RdB w w.heap.size a bs) (hc : n ≤ c) (hl : bs.length ≤ 100000) : Calls Tryz.prog 8 #[.slice a n c] w fun e w' => DecRc w bs e w' ∧ BackP bs := by
 obtain ⟨W, hW⟩ : ∃ W, W = w.alloc (.cells #[.int .i64 0, .int .u32 0, .int .u32 0, .int .u64 0, .int .u32 0, .int .i64 0, .int .i64 0, .int .u64 0, .int .u64 0, .int .u32 0, .int .u32 0, .bool false, .int .u64 0, .int .u64 0, .int .u8 0] 32) := ⟨_, rfl⟩
 have hb : Below w.heap.size w W := by rw [hW]; exact below_al bR _
 have HR0 : Hid (RowB W w.heap.size [.int .i64 0, .int .u32 0, .int .u32 0, .int .u64 0, .int .u32 0, .int .i64 0, .int .i64 0, .int .u64 0, .int .u64 0, .int .u32 0, .int .u32 0, .bool false, .int .u64 0, .int .u64 0, .int .u8 0]) := by rw [hW]; exact RowB.new w _ _
 have HS0 : Hid (w.heap.size < W.heap.size) := by rw [Hid, hW]; simp
 have HD := h_ (rDecode_any a n c bs W hn hc hl ((hr.below hb).mono hb.size))
 have HB0 := h_ hb
 have HW := h_ hW
 clear hW hb hr hc hn hl
 go_enter Tryz.func8, Tryz.ntmps8
 go_wp2_with fail
 rw [← HW.out]
 refine HD.out.mono ?_
 rintro e w1 ⟨hb1, hm⟩
 cases hit : decodeN bs with
 | error q =>
  rw [hit] at hm
  have hm : e = .returned (.tuple #[itemV 0 0 [], .int .i64 q]) := hm
  subst hm
  have hq := decodeN_err hit
  have hq0 : ((q : Int) != 0) = true := by simp; omega
  have HE := h_ (rdRcB_err hit)
  have HBk := h_ (back_err hit)
  obtain ⟨w2, hw2⟩ : ∃ w2, w2 = w1.alloc (.cells #[.int .i64 0, .int .u64 0, .slice none 0 0, .string ⟨#[]⟩, .slice none 0 0] 45) := ⟨_, rfl⟩
  have hb2 : Below w1.heap.size w1 w2 := by rw [hw2]; exact below_al bR _
  have HB2 : Hid (Below w.heap.size w w2) := below_on HB0.out (below_on hb1 hb2)
  have HRx := h_ (HR0.out.on (below_on hb1 hb2) HS0.out)
  have HW2 := h_ hw2
  clear hb1 hb2 hit hq hw2
  unfold itemV
  go_upto_region 3 with fail
  rw [← HW2.out]
  obtain ⟨r0, r1, r2, r3, r4, r5, r6, r7, r8, r9, r10, r11, r12, r13, r14⟩ := r15 HRx.out
  obtain ⟨f0, f1, f2, f3, f4, f5, f6, f7, f8, f9, f10, f11, f12, f13, f14⟩ := f15 HRx.out
  go_wp2_with fail
  change bodyPost _ _ _ _ _ (putL w2 w.heap.size 0 [.int .i64 0, .int .u32 0, .int .u32 0, .int .u64 0, .int .u32 0, .int .i64 0, .int .i64 0, .int .u64 0, .int .u64 0, .int .u32 0, .int .u32 0, .bool false, .int .u64 0, .int .u64 0, .int .u8 0])
  have hrow : RowB (putL w2 w.heap.size 0 [.int .i64 0, .int .u32 0, .int .u32 0, .int .u64 0, .int .u32 0, .int .i64 0, .int .i64 0, .int .u64 0, .int .u64 0, .int .u32 0, .int .u32 0, .bool false, .int .u64 0, .int .u64 0, .int .u8 0]) w.heap.size [.int .i64 0, .int .u32 0, .int .u32 0, .int .u64 0, .int .u32 0, .int .i64 0, .int .i64 0, .int .u64 0, .int .u64 0, .int .u32 0, .int .u32 0, .bool false, .int .u64 0, .int .u64 0, .int .u8 0] := putL_row _ _ 0 _ HRx.out
  have hbk : Below w.heap.size w (putL w2 w.heap.size 0 [.int .i64 0, .int .u32 0, .int .u32 0, .int .u64 0, .int .u32 0, .int .i64 0, .int .i64 0, .int .u64 0, .int .u64 0, .int .u32 0, .int .u32 0, .bool false, .int .u64 0, .int .u64 0, .int .u8 0]) := putL_bel (Nat.le_refl _) _ 0 _ HB2.out
  generalize putL w2 w.heap.size 0 [.int .i64 0, .int .u32 0, .int .u32 0, .int .u64 0, .int .u32 0, .int .i64 0, .int .i64 0, .int .u64 0, .int .u64 0, .int .u32 0, .int .u32 0, .bool false, .int .u64 0, .int .u64 0, .int .u8 0] = w30 at *
  obtain ⟨k0, k1, k2, k3, k4, k5, k6, k7, k8, k9, k10, k11, k12, k13, k14⟩ := r15 hrow
  exact bodyPost_ret (v := .tuple #[.agg #[.int .i64 0, .int .u32 0, .int .u32 0, .int .u64 0, .int .u32 0, .int .i64 0, .int .i64 0, .int .u64 0, .int .u64 0, .int .u32 0, .int .u32 0, .bool false, .int .u64 0, .int .u64 0, .int .u8 0], .int .i64 q]) (by simp [results, Tryz.results8, go_sem, k0, k1, k2, k3, k4, k5, k6, k7, k8, k9, k10, k11, k12, k13, k14]) rfl ⟨⟨hbk, by rw [HE.out]⟩, HBk.out⟩
 | ok x =>
  rw [hit] at hm
  obtain ⟨v, rfl, hx⟩ := hm
  obtain ⟨a', c', A', C', rfl⟩ := hx.form
  obtain ⟨w2, hw2⟩ : ∃ w2, w2 = w1.alloc (.cells #[.int .i64 x.k, .int .u64 x.n, .slice a' x.b.length c', .string ⟨x.s.toArray⟩, .slice A' x.l.length C'] 45) := ⟨_, rfl⟩
  have hb2 : Below w1.heap.size w1 w2 := by rw [hw2]; exact below_al bR _
  have hq : RowB w2 w1.heap.size [.int .i64 x.k, .int .u64 x.n, .slice a' x.b.length c', .string ⟨x.s.toArray⟩, .slice A' x.l.length C'] := by rw [hw2]; exact RowB.new w1 _ _
  have hv : ItV w2 w2.heap.size (.agg #[.int .i64 x.k, .int .u64 x.n, .slice a' x.b.length c', .string ⟨x.s.toArray⟩, .slice A' x.l.length C']) x := (hx.new_on hb2).new_itV
  have HB2 : Hid (Below w.heap.size w w2) := below_on HB0.out (below_on hb1 hb2)
  have HR2 := h_ (HR0.out.on (below_on hb1 hb2) HS0.out)
  have HS2 : Hid (w.heap.size < w2.heap.size) := Nat.lt_of_lt_of_le HS0.out (below_on hb1 hb2).size
  have HIt := h_ hit
  have HRo := h_ (rd_of hv (decodeN_right hit).1)
  have HBk := h_ (back_of hit hv)
  have HV := h_ hv
  have HW2 := h_ hw2
  obtain ⟨y0, y1, y2, y3, y4⟩ := r5 hq
  rw [hw2] at y0 y1 y2 y3 y4
  clear hb1 hb2 hq hv hx hit hw2
  go_wp2_with fail
  rw [← HW2.out]
  refine (refOf10_any x _ w2 HV.out).mono ?_
  clear y0 y1 y2 y3 y4
  rintro e w3 ⟨hb3, ⟨q, ho, rfl⟩ | ⟨ho, rfl⟩⟩
  ·have HE := h_ (rdRcB_some HIt.out (HRo.out.trans ho))
   obtain ⟨w4, hw4⟩ : ∃ w4, w4 = w3.alloc (.cells #[.int .i64 q.k, .int .u32 q.n, .int .u32 q.m, .int .u64 q.t, .int .u32 q.q, .int .i64 q.wh, .int .i64 q.wy, .int .u64 q.at0, .int .u64 q.no, .int .u32 q.nd, .int .u32 q.rg, .bool q.ys, .int .u64 q.fr, .int .u64 q.un, .int .u8 q.lv] 32) := ⟨_, rfl⟩
   have hb4 : Below w3.heap.size w3 w4 := by rw [hw4]; exact below_al bR _
   have HB4 := h_ (below_on HB2.out (below_on hb3 hb4))
   have HRx := h_ (HR2.out.on (below_on hb3 hb4) HS2.out)
   have hx4 : RowB w4 w3.heap.size [.int .i64 q.k, .int .u32 q.n, .int .u32 q.m, .int .u64 q.t, .int .u32 q.q, .int .i64 q.wh, .int .i64 q.wy, .int .u64 q.at0, .int .u64 q.no, .int .u32 q.nd, .int .u32 q.rg, .bool q.ys, .int .u64 q.fr, .int .u64 q.un, .int .u8 q.lv] := by rw [hw4]; exact RowB.new w3 _ _
   have HW4 := h_ hw4
   have HX4 := h_ hx4
   clear hb3 hb4 ho hw4 hx4
   go_upto_region 5 with fail
   rw [← HW4.out]
   go_upto_region 7 with fail
   obtain ⟨z0, z1, z2, z3, z4, z5, z6, z7, z8, z9, z10, z11, z12, z13, z14⟩ := r15 HX4.out
   obtain ⟨r0, r1, r2, r3, r4, r5, r6, r7, r8, r9, r10, r11, r12, r13, r14⟩ := r15 HRx.out
   obtain ⟨f0, f1, f2, f3, f4, f5, f6, f7, f8, f9, f10, f11, f12, f13, f14⟩ := f15 HRx.out
   go_wp2_with fail
   change bodyPost _ _ _ _ _ (putL w4 w.heap.size 0 [.int .i64 q.k, .int .u32 q.n, .int .u32 q.m, .int .u64 q.t, .int .u32 q.q, .int .i64 q.wh, .int .i64 q.wy, .int .u64 q.at0, .int .u64 q.no, .int .u32 q.nd, .int .u32 q.rg, .bool q.ys, .int .u64 q.fr, .int .u64 q.un, .int .u8 q.lv])
   have hrow : RowB (putL w4 w.heap.size 0 [.int .i64 q.k, .int .u32 q.n, .int .u32 q.m, .int .u64 q.t, .int .u32 q.q, .int .i64 q.wh, .int .i64 q.wy, .int .u64 q.at0, .int .u64 q.no, .int .u32 q.nd, .int .u32 q.rg, .bool q.ys, .int .u64 q.fr, .int .u64 q.un, .int .u8 q.lv]) w.heap.size [.int .i64 q.k, .int .u32 q.n, .int .u32 q.m, .int .u64 q.t, .int .u32 q.q, .int .i64 q.wh, .int .i64 q.wy, .int .u64 q.at0, .int .u64 q.no, .int .u32 q.nd, .int .u32 q.rg, .bool q.ys, .int .u64 q.fr, .int .u64 q.un, .int .u8 q.lv] := putL_row _ _ 0 _ HRx.out
   have hbk : Below w.heap.size w (putL w4 w.heap.size 0 [.int .i64 q.k, .int .u32 q.n, .int .u32 q.m, .int .u64 q.t, .int .u32 q.q, .int .i64 q.wh, .int .i64 q.wy, .int .u64 q.at0, .int .u64 q.no, .int .u32 q.nd, .int .u32 q.rg, .bool q.ys, .int .u64 q.fr, .int .u64 q.un, .int .u8 q.lv]) := putL_bel (Nat.le_refl _) _ 0 _ HB4.out
   generalize putL w4 w.heap.size 0 [.int .i64 q.k, .int .u32 q.n, .int .u32 q.m, .int .u64 q.t, .int .u32 q.q, .int .i64 q.wh, .int .i64 q.wy, .int .u64 q.at0, .int .u64 q.no, .int .u32 q.nd, .int .u32 q.rg, .bool q.ys, .int .u64 q.fr, .int .u64 q.un, .int .u8 q.lv] = w30 at *
   obtain ⟨k0, k1, k2, k3, k4, k5, k6, k7, k8, k9, k10, k11, k12, k13, k14⟩ := r15 hrow
   exact bodyPost_ret (v := .tuple #[.agg #[.int .i64 q.k, .int .u32 q.n, .int .u32 q.m, .int .u64 q.t, .int .u32 q.q, .int .i64 q.wh, .int .i64 q.wy, .int .u64 q.at0, .int .u64 q.no, .int .u32 q.nd, .int .u32 q.rg, .bool q.ys, .int .u64 q.fr, .int .u64 q.un, .int .u8 q.lv], .int .i64 0]) (by simp [results, Tryz.results8, go_sem, k0, k1, k2, k3, k4, k5, k6, k7, k8, k9, k10, k11, k12, k13, k14]) rfl ⟨⟨hbk, by rw [HE.out]⟩, HBk.out⟩
  ·have HE := h_ (rdRcB_none HIt.out (HRo.out.trans ho))
   obtain ⟨w4, hw4⟩ : ∃ w4, w4 = w3.alloc (.cells #[.int .i64 0, .int .u32 0, .int .u32 0, .int .u64 0, .int .u32 0, .int .i64 0, .int .i64 0, .int .u64 0, .int .u64 0, .int .u32 0, .int .u32 0, .bool false, .int .u64 0, .int .u64 0, .int .u8 0] 32) := ⟨_, rfl⟩
   have hb4 : Below w3.heap.size w3 w4 := by rw [hw4]; exact below_al bR _
   have HB4 := h_ (below_on HB2.out (below_on hb3 hb4))
   have HRx := h_ (HR2.out.on (below_on hb3 hb4) HS2.out)
   have HW4 := h_ hw4
   clear hb3 hb4 ho hw4
   go_upto_region 5 with fail
   rw [← HW4.out]
   go_upto_region 6 with fail
   obtain ⟨r0, r1, r2, r3, r4, r5, r6, r7, r8, r9, r10, r11, r12, r13, r14⟩ := r15 HRx.out
   obtain ⟨f0, f1, f2, f3, f4, f5, f6, f7, f8, f9, f10, f11, f12, f13, f14⟩ := f15 HRx.out
   go_wp2_with fail
   change bodyPost _ _ _ _ _ (putL w4 w.heap.size 0 [.int .i64 0, .int .u32 0, .int .u32 0, .int .u64 0, .int .u32 0, .int .i64 0, .int .i64 0, .int .u64 0, .int .u64 0, .int .u32 0, .int .u32 0, .bool false, .int .u64 0, .int .u64 0, .int .u8 0])
   have hrow : RowB (putL w4 w.heap.size 0 [.int .i64 0, .int .u32 0, .int .u32 0, .int .u64 0, .int .u32 0, .int .i64 0, .int .i64 0, .int .u64 0, .int .u64 0, .int .u32 0, .int .u32 0, .bool false, .int .u64 0, .int .u64 0, .int .u8 0]) w.heap.size [.int .i64 0, .int .u32 0, .int .u32 0, .int .u64 0, .int .u32 0, .int .i64 0, .int .i64 0, .int .u64 0, .int .u64 0, .int .u32 0, .int .u32 0, .bool false, .int .u64 0, .int .u64 0, .int .u8 0] := putL_row _ _ 0 _ HRx.out
   have hbk : Below w.heap.size w (putL w4 w.heap.size 0 [.int .i64 0, .int .u32 0, .int .u32 0, .int .u64 0, .int .u32 0, .int .i64 0, .int .i64 0, .int .u64 0, .int .u64 0, .int .u32 0, .int .u32 0, .bool false, .int .u64 0, .int .u64 0, .int .u8 0]) := putL_bel (Nat.le_refl _) _ 0 _ HB4.out
   generalize putL w4 w.heap.size 0 [.int .i64 0, .int .u32 0, .int .u32 0, .int .u64 0, .int .u32 0, .int .i64 0, .int .i64 0, .int .u64 0, .int .u64 0, .int .u32 0, .int .u32 0, .bool false, .int .u64 0, .int .u64 0, .int .u8 0] = w30 at *
   obtain ⟨k0, k1, k2, k3, k4, k5, k6, k7, k8, k9, k10, k11, k12, k13, k14⟩ := r15 hrow
   exact bodyPost_ret (v := .tuple #[.agg #[.int .i64 0, .int .u32 0, .int .u32 0, .int .u64 0, .int .u32 0, .int .i64 0, .int .i64 0, .int .u64 0, .int .u64 0, .int .u32 0, .int .u32 0, .bool false, .int .u64 0, .int .u64 0, .int .u8 0], .int .i64 180]) (by simp [results, Tryz.results8, go_sem, k0, k1, k2, k3, k4, k5, k6, k7, k8, k9, k10, k11, k12, k13, k14]) rfl ⟨⟨hbk, by rw [HE.out]⟩, HBk.out⟩

attribute [local go_sem] Oper.semAt_some

theorem walk_ab1 (a : Option Addr) (c : Nat) (bs : List UInt8) (hl : 1000 < bs.length) (w : World) (ht : TabW w) : Calls Tryz.prog 3 #[.slice a bs.length c] w fun e w' => e = .returned (.bool true) ∧ Below w.heap.size w w' := by
 have hlI : (1000 : Int) < (bs.length : Int) := by omega
 go_enter Tryz.func3, Tryz.ntmps3
 go_wp2_with fail
 refine (dworks_any w ht).mono ?_
 rintro e w1 ⟨rfl, hb⟩
 have HB := h_ hb
 clear hb
 go_wp2_with fail
 go_ret
 exact ⟨rfl, HB.out⟩

theorem walk_ab2 (a : Option Addr) (c : Nat) (bs : List UInt8) (hl : bs.length ≤ 1000) (hc : bs.length ≤ c) (cc : Int) (hcc : rdRcB bs = .error cc) (w : World) (hr : RdB w w.heap.size a bs) (ht : TabW w) : Calls Tryz.prog 3 #[.slice a bs.length c] w fun e w' => e = .returned (.bool true) ∧ Below w.heap.size w w' := by
 have hlI : ¬ (1000 : Int) < (bs.length : Int) := by omega
 have HT : Hid (∀ w', Below w.heap.size w w' → TabW w') := fun w' h => ht.on h
 have HR := h_ hr
 have HC := h_ hcc
 have HD := h_ (dDecode_any a bs.length c bs rfl w hr hc (by omega) ht)
 have h0 := rdRcB_code hcc
 have h0b : (cc != 0) = true := by simpa using h0
 clear hr ht hcc h0
 go_enter Tryz.func3, Tryz.ntmps3
 go_upto_region 3 with fail
 go_wp2_with fail
 refine HD.out.mono ?_
 rintro e w1 ⟨hb1, hm1⟩
 rw [HC.out] at hm1
 have hm1 : e = .returned (.tuple #[.agg #[.int .i64 0, .int .u32 0, .int .u32 0, .int .u64 0, .int .u32 0, .int .i64 0, .int .i64 0, .int .u64 0, .int .u64 0, .int .u32 0, .int .u32 0, .bool false, .int .u64 0, .int .u64 0, .int .u8 0], .int .i64 cc]) := hm1
 subst hm1
 have HB1 := h_ hb1
 clear hb1
 obtain ⟨W2, hW2⟩ : ∃ W, W = w1.alloc (.cells #[.int .i64 0, .int .u32 0, .int .u32 0, .int .u64 0, .int .u32 0, .int .i64 0, .int .i64 0, .int .u64 0, .int .u64 0, .int .u32 0, .int .u32 0, .bool false, .int .u64 0, .int .u64 0, .int .u8 0] 32) := ⟨_, rfl⟩
 have hb2 : Below w1.heap.size w1 W2 := by rw [hW2]; exact below_al bR _
 have hx2 : RowB W2 w1.heap.size [.int .i64 0, .int .u32 0, .int .u32 0, .int .u64 0, .int .u32 0, .int .i64 0, .int .i64 0, .int .u64 0, .int .u64 0, .int .u32 0, .int .u32 0, .bool false, .int .u64 0, .int .u64 0, .int .u8 0] := by rw [hW2]; exact RowB.new w1 _ _
 have HB2 := h_ (below_on HB1.out hb2)
 have HX2 := h_ hx2
 have HS2 : Hid (w1.heap.size < W2.heap.size) := by rw [Hid, hW2]; simp
 have HW2 := h_ hW2
 have HDr := h_ (refDecode10_any a bs.length c bs rfl W2 ((HR.out.below HB2.out).mono HB2.out.size) hc (by omega))
 clear hb2 hx2 hW2
 go_upto_region 4 with fail
 rw [← HW2.out]
 go_wp2_with fail
 refine HDr.out.mono ?_
 rintro e w3 ⟨⟨hb3, hm3⟩, hbk⟩
 rw [HC.out] at hm3
 have HBk := h_ hbk
 have hm3 : e = .returned (.tuple #[.agg #[.int .i64 0, .int .u32 0, .int .u32 0, .int .u64 0, .int .u32 0, .int .i64 0, .int .i64 0, .int .u64 0, .int .u64 0, .int .u32 0, .int .u32 0, .bool false, .int .u64 0, .int .u64 0, .int .u8 0], .int .i64 cc]) := hm3
 subst hm3
 obtain ⟨W4, hW4⟩ : ∃ W, W = w3.alloc (.cells #[.int .i64 0, .int .u32 0, .int .u32 0, .int .u64 0, .int .u32 0, .int .i64 0, .int .i64 0, .int .u64 0, .int .u64 0, .int .u32 0, .int .u32 0, .bool false, .int .u64 0, .int .u64 0, .int .u8 0] 32) := ⟨_, rfl⟩
 have hb4 : Below w3.heap.size w3 W4 := by rw [hW4]; exact below_al bR _
 have hx4 : RowB W4 w3.heap.size [.int .i64 0, .int .u32 0, .int .u32 0, .int .u64 0, .int .u32 0, .int .i64 0, .int .i64 0, .int .u64 0, .int .u64 0, .int .u32 0, .int .u32 0, .bool false, .int .u64 0, .int .u64 0, .int .u8 0] := by rw [hW4]; exact RowB.new w3 _ _
 have HB24 := h_ (below_on hb3 hb4)
 have HB4 := h_ (below_on HB2.out HB24.out)
 have HX24 := h_ (HX2.out.on HB24.out HS2.out)
 have HX4 := h_ hx4
 have HW4 := h_ hW4
 have heq : ∀ w : World, (Op.equalIn 10000 32 (.agg #[.int .i64 0, .int .u32 0, .int .u32 0, .int .u64 0, .int .u32 0, .int .i64 0, .int .i64 0, .int .u64 0, .int .u64 0, .int .u32 0, .int .u32 0, .bool false, .int .u64 0, .int .u64 0, .int .u8 0]) (.agg #[.int .i64 0, .int .u32 0, .int .u32 0, .int .u64 0, .int .u32 0, .int .i64 0, .int .i64 0, .int .u64 0, .int .u64 0, .int .u32 0, .int .u32 0, .bool false, .int .u64 0, .int .u64 0, .int .u8 0])).run Tryz.prog w = .ok true w := fun w => by
  have h := eqRc_run rc0 rc0 w
  rw [(sameRc_iff _ _).2 rfl] at h
  exact h
 clear hb3 hb4 hx4 hW4 hbk
 go_upto_region 5 with fail
 rw [← HW4.out]
 obtain ⟨y0, y1, y2, y3, y4, y5, y6, y7, y8, y9, y10, y11, y12, y13, y14⟩ := r15 HX24.out
 obtain ⟨z0, z1, z2, z3, z4, z5, z6, z7, z8, z9, z10, z11, z12, z13, z14⟩ := r15 HX4.out
 go_wp2_with fail
 refine (dnum10_any cc _).mono ?_
 rintro e9 w9 ⟨rfl, h9⟩
 rw [← h9]
 clear h9 w9 y0 y1 y2 y3 y4 y5 y6 y7 y8 y9 y10 y11 y12 y13 y14 z0 z1 z2 z3 z4 z5 z6 z7 z8 z9 z10 z11 z12 z13 z14
 go_wp2_with fail
 refine (dworks_any _ (HT.out _ HB4.out)).mono ?_
 rintro e9 w9 ⟨rfl, hb9⟩
 have HB9 := h_ (below_on HB4.out hb9)
 clear hb9
 go_wp2_with fail
 go_ret
 exact ⟨rfl, HB9.out⟩

theorem walk_ab3 (a : Option Addr) (c : Nat) (bs : List UInt8) (hl : bs.length ≤ 1000) (hc : bs.length ≤ c) (q : Rc) (hq : rdRcB bs = .ok q) (w : World) (hr : RdB w w.heap.size a bs) (ht : TabW w) : Calls Tryz.prog 3 #[.slice a bs.length c] w fun e w' => e = .returned (.bool true) ∧ Below w.heap.size w w' := by
 have hlI : ¬ (1000 : Int) < (bs.length : Int) := by omega
 have HT : Hid (∀ w', Below w.heap.size w w' → TabW w') := fun w' h => ht.on h
 have HR := h_ hr
 have HC := h_ hq
 have HD := h_ (dDecode_any a bs.length c bs rfl w hr hc (by omega) ht)
 clear hr ht hq
 go_enter Tryz.func3, Tryz.ntmps3
 go_upto_region 3 with fail
 go_wp2_with fail
 refine HD.out.mono ?_
 rintro e w1 ⟨hb1, hm1⟩
 rw [HC.out] at hm1
 have hm1 : e = .returned (.tuple #[.agg #[.int .i64 q.k, .int .u32 q.n, .int .u32 q.m, .int .u64 q.t, .int .u32 q.q, .int .i64 q.wh, .int .i64 q.wy, .int .u64 q.at0, .int .u64 q.no, .int .u32 q.nd, .int .u32 q.rg, .bool q.ys, .int .u64 q.fr, .int .u64 q.un, .int .u8 q.lv], .int .i64 0]) := hm1
 subst hm1
 have HB1 := h_ hb1
 clear hb1
 obtain ⟨W2, hW2⟩ : ∃ W, W = w1.alloc (.cells #[.int .i64 q.k, .int .u32 q.n, .int .u32 q.m, .int .u64 q.t, .int .u32 q.q, .int .i64 q.wh, .int .i64 q.wy, .int .u64 q.at0, .int .u64 q.no, .int .u32 q.nd, .int .u32 q.rg, .bool q.ys, .int .u64 q.fr, .int .u64 q.un, .int .u8 q.lv] 32) := ⟨_, rfl⟩
 have hb2 : Below w1.heap.size w1 W2 := by rw [hW2]; exact below_al bR _
 have hx2 : RowB W2 w1.heap.size [.int .i64 q.k, .int .u32 q.n, .int .u32 q.m, .int .u64 q.t, .int .u32 q.q, .int .i64 q.wh, .int .i64 q.wy, .int .u64 q.at0, .int .u64 q.no, .int .u32 q.nd, .int .u32 q.rg, .bool q.ys, .int .u64 q.fr, .int .u64 q.un, .int .u8 q.lv] := by rw [hW2]; exact RowB.new w1 _ _
 have HB2 := h_ (below_on HB1.out hb2)
 have HX2 := h_ hx2
 have HS2 : Hid (w1.heap.size < W2.heap.size) := by rw [Hid, hW2]; simp
 have HW2 := h_ hW2
 have HDr := h_ (refDecode10_any a bs.length c bs rfl W2 ((HR.out.below HB2.out).mono HB2.out.size) hc (by omega))
 clear hb2 hx2 hW2
 go_upto_region 4 with fail
 rw [← HW2.out]
 go_wp2_with fail
 refine HDr.out.mono ?_
 rintro e w3 ⟨⟨hb3, hm3⟩, hbk⟩
 rw [HC.out] at hm3
 have HBk := h_ hbk
 have hm3 : e = .returned (.tuple #[.agg #[.int .i64 q.k, .int .u32 q.n, .int .u32 q.m, .int .u64 q.t, .int .u32 q.q, .int .i64 q.wh, .int .i64 q.wy, .int .u64 q.at0, .int .u64 q.no, .int .u32 q.nd, .int .u32 q.rg, .bool q.ys, .int .u64 q.fr, .int .u64 q.un, .int .u8 q.lv], .int .i64 0]) := hm3
 subst hm3
 obtain ⟨W4, hW4⟩ : ∃ W, W = w3.alloc (.cells #[.int .i64 q.k, .int .u32 q.n, .int .u32 q.m, .int .u64 q.t, .int .u32 q.q, .int .i64 q.wh, .int .i64 q.wy, .int .u64 q.at0, .int .u64 q.no, .int .u32 q.nd, .int .u32 q.rg, .bool q.ys, .int .u64 q.fr, .int .u64 q.un, .int .u8 q.lv] 32) := ⟨_, rfl⟩
 have hb4 : Below w3.heap.size w3 W4 := by rw [hW4]; exact below_al bR _
 have hx4 : RowB W4 w3.heap.size [.int .i64 q.k, .int .u32 q.n, .int .u32 q.m, .int .u64 q.t, .int .u32 q.q, .int .i64 q.wh, .int .i64 q.wy, .int .u64 q.at0, .int .u64 q.no, .int .u32 q.nd, .int .u32 q.rg, .bool q.ys, .int .u64 q.fr, .int .u64 q.un, .int .u8 q.lv] := by rw [hW4]; exact RowB.new w3 _ _
 have HB24 := h_ (below_on hb3 hb4)
 have HB4 := h_ (below_on HB2.out HB24.out)
 have HX24 := h_ (HX2.out.on HB24.out HS2.out)
 have HX4 := h_ hx4
 have HW4 := h_ hW4
 have heq : ∀ w : World, (Op.equalIn 10000 32 (.agg #[.int .i64 q.k, .int .u32 q.n, .int .u32 q.m, .int .u64 q.t, .int .u32 q.q, .int .i64 q.wh, .int .i64 q.wy, .int .u64 q.at0, .int .u64 q.no, .int .u32 q.nd, .int .u32 q.rg, .bool q.ys, .int .u64 q.fr, .int .u64 q.un, .int .u8 q.lv]) (.agg #[.int .i64 q.k, .int .u32 q.n, .int .u32 q.m, .int .u64 q.t, .int .u32 q.q, .int .i64 q.wh, .int .i64 q.wy, .int .u64 q.at0, .int .u64 q.no, .int .u32 q.nd, .int .u32 q.rg, .bool q.ys, .int .u64 q.fr, .int .u64 q.un, .int .u8 q.lv])).run Tryz.prog w = .ok true w := fun w => by
  have h := eqRc_run q q w
  rw [(sameRc_iff _ _).2 rfl] at h
  exact h
 clear hb3 hb4 hx4 hW4 hbk
 go_upto_region 5 with fail
 rw [← HW4.out]
 obtain ⟨y0, y1, y2, y3, y4, y5, y6, y7, y8, y9, y10, y11, y12, y13, y14⟩ := r15 HX24.out
 obtain ⟨z0, z1, z2, z3, z4, z5, z6, z7, z8, z9, z10, z11, z12, z13, z14⟩ := r15 HX4.out
 go_wp2_with fail
 refine (dnum10_any 0 _).mono ?_
 rintro e9 w9 ⟨rfl, h9⟩
 rw [← h9]
 clear h9 w9 z0 z1 z2 z3 z4 z5 z6 z7 z8 z9 z10 z11 z12 z13 z14
 go_wp2_with fail
 obtain ⟨hok, x, hix, hxb⟩ := HBk.out q HC.out
 refine (dEncode_any q hok W4 (HT.out _ HB4.out)).mono ?_
 clear y0 y1 y2 y3 y4 y5 y6 y7 y8 y9 y10 y11 y12 y13 y14
 rintro e w5 ⟨hb5, ⟨x', u, hi5, rfl, ho5⟩ | ⟨hi5, rfl⟩⟩
 rotate_left
 ·rw [hix] at hi5
  cases hi5
 rw [hix] at hi5
 injection hi5 with hi5
 subst hi5
 rw [hxb] at ho5
 obtain ⟨A5, C5, rfl, hC5, hd5, _⟩ := ho5.bytes
 have HB5 := h_ (below_on HB4.out hb5)
 have ht5 : (convert 22 9 (.slice A5 bs.length C5)).run Tryz.prog w5 = .ok (.string ⟨bs.toArray⟩) w5 := hd5.text 22 9 5 bs.length C5 rfl Tryz.underlying22 Tryz.underlying5 Tryz.underlying9
 have ht0 : (convert 22 9 (.slice a bs.length c)).run Tryz.prog w5 = .ok (.string ⟨bs.toArray⟩) w5 := ((HR.out.below HB5.out).mono HB5.out.size).text 22 9 5 bs.length c rfl Tryz.underlying22 Tryz.underlying5 Tryz.underlying9
 have hbq : ((⟨bs.toArray⟩ : ByteArray) == ⟨bs.toArray⟩) = true := (MapKept.bytes_beq _ _).2 rfl
 clear ho5 hb5 hd5 hC5 hix hxb hok heq
 go_wp2_with fail
 refine (dnum10_any 0 _).mono ?_
 rintro e9 w9 ⟨rfl, h9⟩
 rw [← h9]
 clear h9 w9
 go_wp2_with fail
 refine (dworks_any _ (HT.out _ HB5.out)).mono ?_
 rintro e9 w9 ⟨rfl, hb9⟩
 have HB9 := h_ (below_on HB5.out hb9)
 clear hb9 ht5 ht0
 go_wp2_with fail
 go_ret
 exact ⟨rfl, HB9.out⟩

theorem walk_abytes (a : Option Addr) (c : Nat) (bs : List UInt8) (hc : bs.length ≤ c) (w : World) (hr : RdB w w.heap.size a bs) (ht : TabW w) : Calls Tryz.prog 3 #[.slice a bs.length c] w fun e w' => e = .returned (.bool true) ∧ Below w.heap.size w w' := by
 by_cases hl : 1000 < bs.length
 ·exact walk_ab1 a c bs hl w ht
 ·cases h : rdRcB bs with
  | error cc => exact walk_ab2 a c bs (by omega) hc cc h w hr ht
  | ok q => exact walk_ab3 a c bs (by omega) hc q h w hr ht

end Go.Proofs.YteldifnkeekafaaGreatDoor
