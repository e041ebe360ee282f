/- Joined texts. -/
import Derived.Test.YtiahakbkagipkaaGreatDoorZBu
import Derived.Test.YtiahakbkagipkaaGreatDoorZBr
import Derived.Test.YtiahakbkagipkaaGreatDoorZKl
set_option maxHeartbeats 4000000
set_option linter.unusedSimpArgs false
set_option linter.unusedVariables false
set_option maxRecDepth 100000
namespace Go.Proofs.YtiahakbkagipkaaGreatDoor
open Go Go.RowKit Go.Shelf

theorem listedX_any (a : Option Addr) (c : Nat) (xs : List Cr) (w : World) (hlen : xs.length ≤ 800000) (hr : RdX w w.heap.size a xs) :
  Calls Tryz.prog 145 #[.slice a xs.length c, .func (.func 146) #[] #[]] w fun e w' => ∃ v, e = .returned v ∧ ListO w w' v (xs.map itX) := by
 have HR := h_ hr
 have HF := h_ (fun x w => item1_any x w)
 clear hr
 go_enter Tryz.func145, Tryz.ntmps145
 go_wp2_with fail
 go_loopw [5, 10] (fun v i wr => ∃ k : Nat, k ≤ xs.length ∧ i = .int .i64 k ∧ Hid (ListO w wr v ((xs.take k).map itX))) (fun _ i _ => xs.length - (intOf i).toNat)
 case atStart => exact ⟨0, Nat.zero_le _, rfl, (by show ListO w w _ _; simpa using ListO.nil (Below.refl w.heap.size w))⟩
 case round =>
  obtain ⟨k, hk, rfl, HI⟩ := hrel
  by_cases hlt : k < xs.length
  ·obtain ⟨g, o, rfl, hg, hc0⟩ := HR.out.cells k hlt
   obtain ⟨q0, q1⟩ := hc0.kept (HI.out.1.block g hg)
   clear hc0
   have e1 : (xs.take (k + 1)).map itX = (xs.take k).map itX ++ [itX (atX xs k)] := by
    rw [take_atX xs k hlt, List.map_append]
    rfl
   have hl : ((xs.take k).map itX).length ≤ 900000 := by simp; omega
   have HE := h_ e1
   clear e1
   generalize atX xs k = x at *
   obtain ⟨l, hl2⟩ : ∃ l, l = (xs.take k).map itX := ⟨_, rfl⟩
   rw [← hl2] at HI HE hl
   clear hl2
   go_wp2_with fail
   refine (HF.out x _).mono ?_
   rintro e w1 ⟨hb1, v5, rfl, hx⟩
   obtain ⟨a5, c5, A5, C5, rfl⟩ := hx.form
   have hbw : Below wr.heap.size wr w1 := below_on (below_al bR _) hb1
   have hx2 := ItS.more (T := newB wr w1) (fun b hb => ⟨by have := hb.1; simp at this; omega, hb.2⟩) _ hx
   obtain ⟨v', w2, hrun, hlo⟩ := listO_one HI.out hbw hx2 hl
   have HRun := h_ hrun
   have HLO := h_ hlo
   clear hrun hlo hx hx2 hbw hb1 q0 q1
   go_wp2_with (at_builtin; refine wpList_run (by rfl) _ _ _ _ (by rfl) _ _ _ _ (by rfl) (by rfl) HRun.out ?_)
   go_roundw
   case rel => exact ⟨k + 1, by omega, by go_num, by rw [Hid, HE.out]; exact HLO.out⟩
   case measure => simp [intOf]; omega
  ·obtain rfl : k = xs.length := by omega
   have h := HI.out
   rw [List.take_length] at h
   have HI2 := h_ h
   clear h HI
   go_wp2_with fail
   go_ret
   exact ⟨_, rfl, HI2.out⟩

def itP (bk : Bool) (xs : List Cr) : It := itLs (itB bk :: xs.map itX)

theorem pitem_any (bk : Bool) (a : Option Addr) (c : Nat) (xs : List Cr) (w : World) (hlen : xs.length ≤ 800000) (hr : RdX w w.heap.size a xs) :
  Calls Tryz.prog 110 #[.agg #[.bool bk, .slice a xs.length c]] w (NewP w (itP bk xs)) := by
 obtain ⟨W, hW⟩ : ∃ W, W = (w.alloc (.cells #[.bool bk, .slice a xs.length c] 174)).alloc (.cells #[.int .i64 0, .int .u64 0, .slice none 0 0, .string ⟨#[]⟩, .slice none 0 0] 83) := ⟨_, rfl⟩
 have HB0 : Hid (Below w.heap.size w W) := by rw [hW]; exact below_al (below_al bR _) _
 have HX : Hid (∀ w', Below W.heap.size W w' → (w'.cell? ⟨w.heap.size, 0, none⟩ = some (.bool bk) ∧ w'.cell? ⟨w.heap.size, 1, none⟩ = some (.slice a xs.length c)) ∧ ∀ i, w'.cell? ⟨w.heap.size + 1, i, none⟩ = (#[Value.int .i64 0, .int .u64 0, .slice none 0 0, .string ⟨#[]⟩, .slice none 0 0])[i]? ∧ w'.frozen? ⟨w.heap.size + 1, i, none⟩ = false) := fun w' h => by
  rw [hW] at h
  have h1 := below_on (below_al (Below.refl _ (w.alloc (.cells #[.bool bk, .slice a xs.length c] 174))) (.cells #[.int .i64 0, .int .u64 0, .slice none 0 0, .string ⟨#[]⟩, .slice none 0 0] 83)) h
  refine ⟨⟨box_at h1 0, box_at h1 1⟩, fun i => ?_⟩
  have q2 := box_at h i
  have f2 := frozen_at h i
  rw [World.size_alloc] at q2 f2
  exact ⟨q2, f2⟩
 have hWs : w.heap.size + 1 + 1 = W.heap.size := by rw [hW]; simp
 have HL := h_ (listedX_any a c xs W hlen (hr.on HB0.out))
 have HW := h_ hW
 have HWs := h_ hWs
 clear hr hW hWs
 obtain ⟨⟨x0, x1⟩, _⟩ := HX.out W bR
 go_enter Tryz.func110, Tryz.ntmps110
 go_wp2_with fail
 rw [← HW.out]
 refine HL.out.mono ?_
 rintro e w1 ⟨v, rfl, hlo⟩
 obtain ⟨A, C, rfl, hC⟩ := hlo.form
 have HLO := h_ hlo
 have HB1 : Hid (Below W.heap.size W w1) := hlo.1
 clear hlo hC x0 x1
 obtain ⟨⟨x0, x1⟩, _⟩ := HX.out w1 HB1.out
 go_wp2_with fail
 refine (pbool_any _ _).mono ?_
 rintro e w2 ⟨rfl, hb2⟩
 have HB2 := h_ (below_on HB1.out hb2)
 obtain ⟨A', C', eA, _, hnil, ys, hys, hyc⟩ := ListO.src (w1 := w2.alloc (.cells #[.int .i64 5, .int .u64 (bN bk), .slice none 0 0, .string ⟨#[]⟩, .slice none 0 0] 83)) HLO.out (below_al hb2 _)
 cases eA
 have hlit := ListO.lit (x := itB bk) HB2.out (itS_bool w2 (newB W w2) bk)
 obtain ⟨v', w4, hrun, hlo4⟩ := listO_run hlit bR A (xs.map itX) C (by simp; omega) ⟨ys, LI.more (fun b hb => ⟨⟨hb.1, by rw [World.size_alloc]; have := hb.2; have := hb2.size; omega⟩, fun q => by
  have q' : some w2.heap.size = some b := q
  injection q' with q'
  have := hb.2
  have := hb2.size
  omega⟩) hys, hyc⟩ hnil
 obtain ⟨A4, C4, rfl, hit4⟩ := hlo4.item (by simp; omega)
 have hlen4 : ([itB bk] ++ xs.map itX).length = xs.length + 1 := by simp
 have hmap : (xs.map itX).length = xs.length := by simp
 rw [hlen4] at hrun hit4
 rw [hmap] at hrun
 have HRun := h_ hrun
 have HIt : Hid (ItS w4 (newB W w4) (listV A4 (xs.length + 1) C4) (itP bk xs)) := hit4
 have HB4 : Hid (Below W.heap.size W w4) := hlo4.1
 clear hrun hit4 hlo4 hlit hys hyc hnil hlen4 hmap hb2 x0 x1
 go_wp2_with (at_builtin; refine wpList_run (by rfl) _ _ _ _ (by rfl) _ _ _ _ (by rfl) (by rfl) HRun.out ?_)
 refine (plist_any _ _ _ _).mono ?_
 rintro e w5 ⟨rfl, hb5⟩
 have HIt5 : Hid (ItS w5 (newB W w5) (listV A4 (xs.length + 1) C4) (itP bk xs)) := HIt.out.new_on hb5
 have HB5 := h_ (below_on HB4.out hb5)
 obtain ⟨_, hbx⟩ := HX.out w5 HB5.out
 obtain ⟨d0, f0⟩ := hbx 0
 obtain ⟨d1, f1⟩ := hbx 1
 obtain ⟨d2, f2⟩ := hbx 2
 obtain ⟨d3, f3⟩ := hbx 3
 obtain ⟨d4, f4⟩ := hbx 4
 have hq := set5_cells d0 d1 d2 d3 d4 (.int .i64 4) (.int .u64 0) (.slice none 0 0) (.string ⟨#[]⟩) (.slice A4 (xs.length + 1) C4)
 have hbel := set5_on (g := w.heap.size + 1) (HB0.out.trans (HB5.out.mono HB0.out.size)) (by omega) (.int .i64 4) (.int .u64 0) (.slice none 0 0) (.string ⟨#[]⟩) (.slice A4 (xs.length + 1) C4)
 have hit : ItS (set5 w5 (w.heap.size + 1) (.int .i64 4) (.int .u64 0) (.slice none 0 0) (.string ⟨#[]⟩) (.slice A4 (xs.length + 1) C4)) (newB w (set5 w5 (w.heap.size + 1) (.int .i64 4) (.int .u64 0) (.slice none 0 0) (.string ⟨#[]⟩) (.slice A4 (xs.length + 1) C4))) (listV A4 (xs.length + 1) C4) (itP bk xs) :=
  ItS.more (fun b hb => ⟨by have := hb.1; have := HWs.out; omega, by rw [set5_size]; exact hb.2⟩) _ (ItS.keep (fun b hb => set5_block (by have := hb.1; have := HWs.out; omega) _ _ _ _ _) _ HIt5.out)
 have HF := h_ (⟨hq, hbel, hit⟩ : _ ∧ _ ∧ _)
 clear hq hbel hit hbx hb5
 unfold set5 at HF
 go_wp2_with fail
 clear d0 d1 d2 d3 d4 f0 f1 f2 f3 f4
 obtain ⟨⟨q0, q1, q2, q3, q4⟩, hbel, hit⟩ := HF.out
 exact bodyPost_ret (v := .agg #[.int .i64 4, .int .u64 0, .slice none 0 0, .string ⟨#[]⟩, .slice A4 (xs.length + 1) C4]) (by simp [results, Tryz.results110, go_sem, q0, q1, q2, q3, q4]) rfl ⟨hbel, _, rfl, hit⟩

def noItV : Value := .agg #[.int .i64 0, .int .u64 0, .slice none 0 0, .string ⟨#[]⟩, .slice none 0 0]

def PItemP (w : World) (bk : Bool) (xs : List Cr) (e : Ending) (w' : World) : Prop :=
 Below w.heap.size w w' ∧ ((rightX xs = true ∧ ∃ a c A C, e = .returned (.tuple #[.agg #[.int .i64 4, .int .u64 0, .slice a 0 c, .string ⟨#[]⟩, .slice A (xs.length + 1) C], .int .i64 0]) ∧ ItS w' (newB w w') (.agg #[.int .i64 4, .int .u64 0, .slice a 0 c, .string ⟨#[]⟩, .slice A (xs.length + 1) C]) (itP bk xs)) ∨ (rightX xs = false ∧ e = .returned (.tuple #[noItV, .int .i64 2])))

theorem ppItem_any (bk : Bool) (a : Option Addr) (c : Nat) (xs : List Cr) (w : World) (hlen : xs.length ≤ 800000) (hr : RdX w w.heap.size a xs) :
  Calls Tryz.prog 79 #[.agg #[.bool bk, .slice a xs.length c]] w (PItemP w bk xs) := by
 obtain ⟨W, hW⟩ : ∃ W, W = (w.alloc (.cells #[.bool bk, .slice a xs.length c] 44)).alloc (.cells #[.int .i64 0, .int .u64 0, .slice none 0 0, .string ⟨#[]⟩, .slice none 0 0] 83) := ⟨_, rfl⟩
 have HB0 : Hid (Below w.heap.size w W) := by rw [hW]; exact below_al (below_al bR _) _
 have HX : Hid (∀ w', Below W.heap.size W w' → (w'.cell? ⟨w.heap.size, 0, none⟩ = some (.bool bk) ∧ w'.cell? ⟨w.heap.size, 1, none⟩ = some (.slice a xs.length c)) ∧ ∀ i, w'.cell? ⟨w.heap.size + 1, i, none⟩ = (#[Value.int .i64 0, .int .u64 0, .slice none 0 0, .string ⟨#[]⟩, .slice none 0 0])[i]? ∧ w'.frozen? ⟨w.heap.size + 1, i, none⟩ = false) := fun w' h => by
  rw [hW] at h
  have h1 := below_on (below_al (Below.refl _ (w.alloc (.cells #[.bool bk, .slice a xs.length c] 44))) (.cells #[.int .i64 0, .int .u64 0, .slice none 0 0, .string ⟨#[]⟩, .slice none 0 0] 83)) h
  refine ⟨⟨box_at h1 0, box_at h1 1⟩, fun i => ?_⟩
  have q2 := box_at h i
  have f2 := frozen_at h i
  rw [World.size_alloc] at q2 f2
  exact ⟨q2, f2⟩
 have hWs : w.heap.size + 1 + 1 = W.heap.size := by rw [hW]; simp
 have HCk := h_ (pcheck_any bk a c xs W (by omega) (hr.on HB0.out))
 have HI : Hid (∀ w', Below W.heap.size W w' → Calls Tryz.prog 110 #[.agg #[.bool bk, .slice a xs.length c]] w' (NewP w' (itP bk xs))) := fun w' h => pitem_any bk a c xs w' hlen ((hr.on HB0.out).on h)
 have HC : Hid (chX xs = if rightX xs = true then 0 else 2) := rfl
 have HW := h_ hW
 have HWs := h_ hWs
 clear hr hW hWs
 unfold PItemP
 generalize rightX xs = q at *
 generalize chX xs = r at *
 obtain ⟨⟨x0, x1⟩, _⟩ := HX.out W bR
 go_enter Tryz.func79, Tryz.ntmps79
 go_wp2_with fail
 rw [← HW.out]
 refine HCk.out.mono ?_
 rintro e w1 ⟨rfl, hb⟩
 have HB1 := h_ hb
 clear hb x0 x1
 obtain ⟨⟨x0, x1⟩, hbx⟩ := HX.out w1 HB1.out
 cases q
 ·have hr2 : r = 2 := HC.out
  subst hr2
  obtain ⟨d0, f0⟩ := hbx 0
  obtain ⟨d1, f1⟩ := hbx 1
  obtain ⟨d2, f2⟩ := hbx 2
  obtain ⟨d3, f3⟩ := hbx 3
  obtain ⟨d4, f4⟩ := hbx 4
  clear hbx
  have hq := set5_cells d0 d1 d2 d3 d4 (.int .i64 0) (.int .u64 0) (.slice none 0 0) (.string ⟨#[]⟩) (.slice none 0 0)
  have hbel := set5_on (g := w.heap.size + 1) (HB0.out.trans (HB1.out.mono HB0.out.size)) (by omega) (.int .i64 0) (.int .u64 0) (.slice none 0 0) (.string ⟨#[]⟩) (.slice none 0 0)
  have HF := h_ (⟨hq, hbel⟩ : _ ∧ _)
  clear hq hbel
  unfold set5 at HF
  go_wp2_with fail
  obtain ⟨⟨q0, q1, q2, q3, q4⟩, hbel⟩ := HF.out
  clear d0 d1 d2 d3 d4 f0 f1 f2 f3 f4
  exact bodyPost_ret (v := .tuple #[noItV, .int .i64 2]) (by simp [noItV, results, Tryz.results79, go_sem, q0, q1, q2, q3, q4]) rfl ⟨hbel, rfl⟩
 ·have hr2 : r = 0 := HC.out
  subst hr2
  clear hbx
  go_wp2_with fail
  refine (HI.out w1 HB1.out).mono ?_
  rintro e w2 ⟨hb2, v, rfl, hit⟩
  obtain ⟨a', c', A, C, e5⟩ := hit.form
  have e6 : v = .agg #[.int .i64 4, .int .u64 0, .slice a' 0 c', .string ⟨#[]⟩, .slice A (xs.length + 1) C] := by
   rw [e5]
   simp [itP, itLs, It.k, It.n, It.b, It.s, It.l]
  subst e6
  have HB2 := h_ (below_on HB1.out hb2)
  have HIt := h_ hit
  have hs1 : W.heap.size ≤ w1.heap.size := HB1.out.size
  clear e5 hit x0 x1 hb2
  obtain ⟨_, hbx⟩ := HX.out w2 HB2.out
  obtain ⟨d0, f0⟩ := hbx 0
  obtain ⟨d1, f1⟩ := hbx 1
  obtain ⟨d2, f2⟩ := hbx 2
  obtain ⟨d3, f3⟩ := hbx 3
  obtain ⟨d4, f4⟩ := hbx 4
  clear hbx
  have hq := set5_cells d0 d1 d2 d3 d4 (.int .i64 4) (.int .u64 0) (.slice a' 0 c') (.string ⟨#[]⟩) (.slice A (xs.length + 1) C)
  have hbel := set5_on (g := w.heap.size + 1) (HB0.out.trans (HB2.out.mono HB0.out.size)) (by omega) (.int .i64 4) (.int .u64 0) (.slice a' 0 c') (.string ⟨#[]⟩) (.slice A (xs.length + 1) C)
  have hit2 : ItS (set5 w2 (w.heap.size + 1) (.int .i64 4) (.int .u64 0) (.slice a' 0 c') (.string ⟨#[]⟩) (.slice A (xs.length + 1) C)) (newB w (set5 w2 (w.heap.size + 1) (.int .i64 4) (.int .u64 0) (.slice a' 0 c') (.string ⟨#[]⟩) (.slice A (xs.length + 1) C))) (.agg #[.int .i64 4, .int .u64 0, .slice a' 0 c', .string ⟨#[]⟩, .slice A (xs.length + 1) C]) (itP bk xs) :=
   ItS.more (fun b hb => ⟨by have := hb.1; have := HWs.out; omega, by rw [set5_size]; exact hb.2⟩) _ (ItS.keep (fun b hb => set5_block (by have := hb.1; have := HWs.out; omega) _ _ _ _ _) _ HIt.out)
  have HF := h_ (⟨hq, hbel, hit2⟩ : _ ∧ _ ∧ _)
  clear hq hbel hit2
  unfold set5 at HF
  go_wp2_with fail
  obtain ⟨⟨q0, q1, q2, q3, q4⟩, hbel, hit2⟩ := HF.out
  clear d0 d1 d2 d3 d4 f0 f1 f2 f3 f4
  exact bodyPost_ret (v := .tuple #[.agg #[.int .i64 4, .int .u64 0, .slice a' 0 c', .string ⟨#[]⟩, .slice A (xs.length + 1) C], .int .i64 0]) (by simp [results, Tryz.results79, go_sem, q0, q1, q2, q3, q4]) rfl ⟨hbel, _, _, _, _, rfl, hit2⟩

def shX (l : List It) : Bool := match l with
 | [x, y] => decide (x.k = 1) && decide (y.k = 5)
 | _ => false

theorem shX_len {l : List It} (h : ¬ l.length = 2) : shX l = false := by
 unfold shX
 split
 ·simp at h
 ·rfl

theorem len_two {l : List It} (h : l.length = 2) : ∃ x y, l = [x, y] := by
 match l, h with
 | [x, y], _ => exact ⟨x, y, rfl⟩

theorem shaped_any (A : Option Addr) (C : Nat) (l : List It) (w : World) (hs : l.length ≤ 140737488355328) (hl : ItSl w A l) :
  Calls Tryz.prog 192 #[.slice A l.length C] w fun e w' => e = .returned (.bool (shX l)) ∧ Below w.heap.size w w' := by
 by_cases h2 : l.length = 2
 ·obtain ⟨x, y, rfl⟩ := len_two h2
  obtain ⟨g, o, rfl, hg, hL⟩ : ∃ g o, A = some ⟨g, o, none⟩ ∧ g < w.heap.size ∧ ItL w w.heap.size g o [x, y] := by
   rcases hl with h | h
   ·cases h
   ·exact h
  have hb : Below w.heap.size w (w.alloc (.cells #[.int .i64 1, .int .i64 5] 259)) := below_al bR _
  obtain ⟨_, _, _, _, _, c0, _⟩ := hL.get (i := 0) (x := x) rfl hb hg
  obtain ⟨_, _, _, _, _, c5, _⟩ := hL.get (i := 1) (x := y) rfl hb hg
  have i0 : ∀ w, (Instr.index 259 (.agg #[.int .i64 1, .int .i64 5]) (.int .i64 0)).run Tryz.prog w = .ok (.int .i64 1) w := fun _ => by kernel_rfl
  have i1 : ∀ w, (Instr.index 259 (.agg #[.int .i64 1, .int .i64 5]) (.int .i64 1)).run Tryz.prog w = .ok (.int .i64 5) w := fun _ => by kernel_rfl
  have HSH : Hid (shX [x, y] = (decide (x.k = 1) && decide (y.k = 5))) := rfl
  rw [HSH.out]
  clear HSH hL hl h2
  simp only [Nat.zero_mul, Nat.add_zero, Nat.one_mul] at c0 c5
  generalize x.k = k0 at *
  generalize y.k = k1 at *
  have HQ : Hid (∀ q0 q1 : Bool, q0 = (k0 == 1) → q1 = (k1 == 5) → (decide (k0 = 1) && decide (k1 = 5)) = (q0 && q1)) := fun q0 q1 h0 h1 => by
   rw [h0, h1]
   by_cases e0 : k0 = 1 <;> by_cases e1 : k1 = 5 <;> simp [e0, e1]
  obtain ⟨q0, h0⟩ : ∃ q0, q0 = (k0 == 1) := ⟨_, rfl⟩
  obtain ⟨q1, h1⟩ : ∃ q1, q1 = (k1 == 5) := ⟨_, rfl⟩
  have HR := h_ (HQ.out q0 q1 h0 h1)
  have n0 : (k0 != 1) = !q0 := by rw [h0]; rfl
  have n1 : (k1 != 5) = !q1 := by rw [h1]; rfl
  rw [HR.out]
  clear h0 h1 HQ HR
  obtain ⟨W, hW⟩ : ∃ W, W = w.alloc (.cells #[.int .i64 1, .int .i64 5] 259) := ⟨_, rfl⟩
  rw [← hW] at hb c0 c5
  have HW := h_ hW
  have HB := h_ hb
  clear hW hb
  go_enter Tryz.func192, Tryz.ntmps192
  go_wp2_with fail
  rw [← HW.out]
  go_loopw [11] (fun i wr => ∃ j : Nat, j ≤ 2 ∧ i = .int .i64 j ∧ Hid (wr = W ∧ (1 ≤ j → q0 = true) ∧ (2 ≤ j → q1 = true))) (fun i _ => 2 - (intOf i).toNat)
  case atStart => exact ⟨0, by omega, rfl, rfl, (fun h => by omega), (fun h => by omega)⟩
  case round =>
   obtain ⟨j, hj, rfl, HI⟩ := hrel
   obtain rfl := HI.out.1
   rcases (show j = 0 ∨ j = 1 ∨ j = 2 by omega) with rfl | rfl | rfl
   ·cases q0
    ·go_wp2_with fail
     go_ret
     exact ⟨rfl, HB.out⟩
    ·go_wp2_with fail
     go_roundw
     case rel => exact ⟨1, by omega, rfl, (by first | trivial | rfl), (fun _ => by first | trivial | rfl), (fun h => by omega)⟩
     case measure => simp [intOf]
   ·cases q1
    ·go_wp2_with fail
     go_ret
     exact ⟨by simp, HB.out⟩
    ·go_wp2_with fail
     go_roundw
     case rel => exact ⟨2, by omega, rfl, (by first | trivial | rfl), (fun _ => HI.out.2.1 (by omega)), (fun _ => by first | trivial | rfl)⟩
     case measure => simp [intOf]
   ·have r0 := HI.out.2.1 (by omega)
    have r1 := HI.out.2.2 (by omega)
    subst r0 r1
    go_wp2_with fail
    go_ret
    exact ⟨rfl, HB.out⟩
 ·have HQ := h_ (shX_len h2)
  have q : ((l.length : Int) == 2) = false := by simp; omega
  have q' : ((l.length : Int) != 2) = true := by simp; omega
  clear h2 hl
  go_enter Tryz.func192, Tryz.ntmps192
  go_wp2_with fail
  go_ret
  exact ⟨by rw [HQ.out]; rfl, below_al bR _⟩

end Go.Proofs.YtiahakbkagipkaaGreatDoor
