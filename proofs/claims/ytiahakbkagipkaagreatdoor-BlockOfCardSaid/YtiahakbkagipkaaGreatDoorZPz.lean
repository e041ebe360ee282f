/- Joined texts. -/
import Derived.Test.YtiahakbkagipkaaGreatDoorZBt
import Derived.Test.YtiahakbkagipkaaGreatDoorZBk
import Derived.Test.YtiahakbkagipkaaGreatDoorZBx
import Derived.Test.YtiahakbkagipkaaGreatDoorZBu
import Derived.Deep.CutRange
import Derived.Deep.RegionHeld3
import Derived.Test.YtiahakbkagipkaaGreatDoorZNz
set_option maxHeartbeats 16000000
set_option linter.unusedSimpArgs false
set_option linter.unusedVariables false
set_option maxRecDepth 100000
namespace Go.Proofs.YtiahakbkagipkaaGreatDoor
open Go Go.RowKit Go.Shelf

theorem prUint_any (n : Int) (w : World) : Calls Tryz.prog 40 #[.int .u64 n] w fun e w' => e = .returned (.agg #[.int .i64 1, .int .u64 n, .slice none 0 0, .string ⟨#[]⟩, .slice none 0 0]) ∧ Below w.heap.size w w' := by
 go_enter Tryz.func40, Tryz.ntmps40
 go_wp2
 exact bodyPost_ret (v := .agg #[.int .i64 1, .int .u64 n, .slice none 0 0, .string ⟨#[]⟩, .slice none 0 0]) (by simp [results, Tryz.results40, go_sem]) rfl ⟨rfl, below_al bR _⟩

theorem prList_any (a : Option Addr) (n c : Nat) (w : World) : Calls Tryz.prog 41 #[.slice a n c] w fun e w' => e = .returned (.agg #[.int .i64 4, .int .u64 0, .slice none 0 0, .string ⟨#[]⟩, .slice a n c]) ∧ Below w.heap.size w w' := by
 go_enter Tryz.func41, Tryz.ntmps41
 go_wp2
 exact bodyPost_ret (v := .agg #[.int .i64 4, .int .u64 0, .slice none 0 0, .string ⟨#[]⟩, .slice a n c]) (by simp [results, Tryz.results41, go_sem]) rfl ⟨rfl, below_al bR _⟩

theorem prBool_any (q : Bool) (w : World) : Calls Tryz.prog 82 #[.bool q] w fun e w' => e = .returned (.agg #[.int .i64 5, .int .u64 (bN q), .slice none 0 0, .string ⟨#[]⟩, .slice none 0 0]) ∧ Below w.heap.size w w' := by
 cases q
 ·go_enter Tryz.func82, Tryz.ntmps82
  go_wp2
  exact bodyPost_ret (v := .agg #[.int .i64 5, .int .u64 0, .slice none 0 0, .string ⟨#[]⟩, .slice none 0 0]) (by simp [results, Tryz.results82, go_sem]) rfl ⟨rfl, by first | exact below_al bR _ | exact below_al (below_al bR _) _⟩
 ·go_enter Tryz.func82, Tryz.ntmps82
  go_wp2
  exact bodyPost_ret (v := .agg #[.int .i64 5, .int .u64 1, .slice none 0 0, .string ⟨#[]⟩, .slice none 0 0]) (by simp [results, Tryz.results82, go_sem]) rfl ⟨rfl, by first | exact below_al bR _ | exact below_al (below_al bR _) _⟩

theorem own_rd {w' : World} {B : Nat} {v : Value} {xs : List Cr} (h : w'.ownsRow B 138 2 v xs.length (flatX xs)) : ∃ A C, v = .slice A xs.length C ∧ xs.length ≤ C ∧ RdX w' w'.heap.size A xs ∧ (xs = [] ∨ ∃ g, A = some ⟨g, 0, none⟩ ∧ v.ownBlock = some g ∧ B ≤ g) := by
 rcases ownX_form h with ⟨rfl, rfl⟩ | ⟨g, C, rfl, hC, hg0, hg1, hrow⟩
 ·exact ⟨none, 0, rfl, Nat.le_refl _, .inl rfl, .inl rfl⟩
 ·exact ⟨_, C, rfl, hC, hrow.rd hg1, .inr ⟨g, rfl, rfl, hg0⟩⟩

theorem appX2 (w : World) (base : Nat) (v : Value) (zs : List Cr) (hown : w.ownsRow base 138 2 v zs.length (flatX zs)) (hbase : base ≤ w.heap.size) (a : Option Addr) (c B : Nat) (xs : List Cr) (hr : RdX w B a xs)
  (hlen : zs.length + xs.length ≤ 1000000) :
  ∃ v' w', (Builtin.append_ #[42, 42] 42 #[v, .slice a xs.length c]).run Tryz.prog w = .ok v' w' ∧ w'.ownsRow base 138 2 v' (zs ++ xs).length (flatX (zs ++ xs)) ∧ w.grownBy w' v.ownBlock ∧ (v'.ownBlock = v.ownBlock ∨ v'.ownBlock = some w.heap.size) := by
 obtain ⟨i, hi, hz, hs, hb⟩ := info_parts info_cross
 rcases a with _ | ad
 ·obtain rfl : xs = [] := by
    rcases hr with h | ⟨g, o, h, _⟩
    ·exact h
    ·cases h
  refine ⟨v, w, run_app_nil w base 2 42 42 138 i Tryz.underlying42 hi v zs.length (flatX zs) hown c, ?_, World.grownBy.refl w _, .inl rfl⟩
  rw [List.append_nil]
  exact hown
 ·obtain ⟨v', w', hrun, h2, h3, _, h4⟩ := run_append_own_at (P := Tryz.prog) w base 42 42 138 i _ 2 8 Tryz.underlying42 hi hz hs hb rfl (by decide) v zs.length (flatX zs) hown ad xs.length c (flatX xs) (flatX_length xs) (fun j u hu => by
    rcases hr with rfl | ⟨b, o, e, _, hc⟩
    ·simp [flatX] at hu
    ·cases e
     rw [mk_addr_add]
     exact flatX_cell hc j u hu) (flatX_one xs) (by unfold maxLen; omega) (by omega) hbase
  rw [flatX_append, List.length_append]
  exact ⟨v', w', hrun, h2, h3, h4⟩

theorem refPItem_any (bk : Bool) (a : Option Addr) (c : Nat) (xs : List Cr) (w : World) (hlen : xs.length ≤ 800000) (hr : RdX w w.heap.size a xs) :
  Calls Tryz.prog 42 #[.agg #[.bool bk, .slice a xs.length c]] w (NewP w (itP bk xs)) := by
 obtain ⟨W, hW⟩ : ∃ W, W = (w.alloc (.cells #[.bool bk, .slice a xs.length c] 44)).alloc (.cells #[.int .i64 0, .int .u64 0, .slice none 0 0, .string ⟨#[]⟩, .slice none 0 0] 83) := ⟨_, rfl⟩
 have HB0 : Hid (Below w.heap.size w W) := by rw [hW]; exact below_al (below_al bR _) _
 have HX : Hid (∀ w', Below W.heap.size W w' → (w'.cell? ⟨w.heap.size, 0, none⟩ = some (.bool bk) ∧ w'.cell? ⟨w.heap.size, 1, none⟩ = some (.slice a xs.length c)) ∧ ∀ i, w'.cell? ⟨w.heap.size + 1, i, none⟩ = (#[Value.int .i64 0, .int .u64 0, .slice none 0 0, .string ⟨#[]⟩, .slice none 0 0])[i]? ∧ w'.frozen? ⟨w.heap.size + 1, i, none⟩ = false) := fun w' h => by
  rw [hW] at h
  have h1 := below_on (below_al (Below.refl _ (w.alloc (.cells #[.bool bk, .slice a xs.length c] 44))) (.cells #[.int .i64 0, .int .u64 0, .slice none 0 0, .string ⟨#[]⟩, .slice none 0 0] 83)) h
  refine ⟨⟨box_at h1 0, box_at h1 1⟩, fun i => ?_⟩
  have q2 := box_at h i
  have f2 := frozen_at h i
  rw [World.size_alloc] at q2 f2
  exact ⟨q2, f2⟩
 have hWs : w.heap.size + 1 + 1 = W.heap.size := by rw [hW]; simp
 have HR : Hid (RdX w w.heap.size a xs) := hr
 have HW := h_ hW
 have HWs := h_ hWs
 clear hr hW hWs
 obtain ⟨⟨x0, x1⟩, _⟩ := HX.out W bR
 go_enter Tryz.func42, Tryz.ntmps42
 go_wp2_with fail
 rw [← HW.out]
 refine (prBool_any _ _).mono ?_
 rintro e w2 ⟨rfl, hb2⟩
 have hlit := ListO.lit (x := itB bk) hb2 (itS_bool w2 (newB W w2) bk)
 have HLit := h_ hlit
 clear hlit hb2 x0 x1
 go_wp2_with fail
 go_loopw [3, 4] (fun v i wr => ∃ k : Nat, k ≤ xs.length ∧ i = .int .i64 k ∧ Hid (ListO W wr v (itB bk :: (xs.take k).map itX))) (fun _ i _ => xs.length - (intOf i).toNat)
 case atStart => exact ⟨0, Nat.zero_le _, rfl, HLit⟩
 case round =>
  obtain ⟨k, hk, rfl, HI⟩ := hrel
  obtain ⟨⟨x0, x1⟩, hbx⟩ := HX.out wr HI.out.1
  by_cases hlt : k < xs.length
  ·clear hbx
   obtain ⟨g, o, rfl, hg, hc0⟩ := HR.out.cells k hlt
   have e1 : itB bk :: (xs.take (k + 1)).map itX = (itB bk :: (xs.take k).map itX) ++ [itX (atX xs k)] := by
    rw [take_atX xs k hlt, List.map_append]
    rfl
   have hl : (itB bk :: (xs.take k).map itX).length ≤ 900000 := by simp; omega
   have HE := h_ e1
   have HC0 : Hid (∀ w', Below W.heap.size W w' → CellX w' g (o + k * 2) (atX xs k)) := fun w' h => hc0.kept ((HB0.out.trans (h.mono HB0.out.size)).block g hg)
   have hgl := gate_lt (atX xs k)
   clear e1 hc0
   generalize atX xs k = x at *
   have hcv : IntKind.u64.wrap (x.1.toNat : Int) = (x.1.toNat : Int) := by
    have := x.1.toNat_lt
    simp [IntKind.wrap, IntKind.signed, IntKind.bits]
    omega
   obtain ⟨l, hl2⟩ : ∃ l, l = itB bk :: (xs.take k).map itX := ⟨_, rfl⟩
   rw [← hl2] at HI HE hl
   clear hl2
   have HELD : Hid (∀ w', Below W.heap.size W w' → (w'.cell? ⟨w.heap.size, 0, none⟩ = some (.bool bk) ∧ w'.cell? ⟨w.heap.size, 1, none⟩ = some (.slice (some ⟨g, o, none⟩) xs.length c)) ∧ (w'.cell? ⟨g, o + k * 2, none⟩ = some (.int .u32 x.1.toNat) ∧ w'.cell? ⟨g, o + k * 2 + 1, none⟩ = some (.bool x.2))) := fun w' h => ⟨(HX.out w' h).1, HC0.out w' h⟩
   go_wp2_with fail
   have F : Below W.heap.size W wr.drew := HI.out.1.drew
   have G : Below wr.heap.size wr wr.drew := bR.drew
   clear x0 x1
   refine wp_region_held_drew (S := fun w' => (w'.cell? ⟨w.heap.size, 0, none⟩ = some (.bool bk) ∧ w'.cell? ⟨w.heap.size, 1, none⟩ = some (.slice (some ⟨g, o, none⟩) xs.length c)) ∧ (w'.cell? ⟨g, o + k * 2, none⟩ = some (.int .u32 x.1.toNat) ∧ w'.cell? ⟨g, o + k * 2 + 1, none⟩ = some (.bool x.2))) (by kernel_rfl) (HELD.out _ F) (fun hHeld => ?_)
   refine takeL 0 (v := ?_) ?_ ‹_› ?_
   rotate_left
   ·intro w hSw; (try dsimp only at hSw); go_simp; all_goals with_reducible rfl
   simp only [Act.put, zA, zB, zC]
   refine takeL 1 (v := ?_) ?_ ‹_› ?_
   rotate_left
   ·intro w hSw; (try dsimp only at hSw); go_simp; all_goals with_reducible rfl
   simp only [Act.put, zA, zB, zC]
   refine takeL 2 (v := ?_) ?_ ‹_› ?_
   rotate_left
   ·intro w hSw; (try dsimp only at hSw); go_simp; all_goals with_reducible rfl
   simp only [Act.put, zA, zB, zC]
   refine takeL 3 (v := ?_) ?_ ‹_› ?_
   rotate_left
   ·intro w hSw; (try dsimp only at hSw); go_simp; all_goals with_reducible rfl
   simp only [Act.put, zA, zB, zC]
   refine takeL 4 (v := ?_) ?_ ‹_› ?_
   rotate_left
   ·intro w hSw; (try dsimp only at hSw); go_simp; all_goals with_reducible rfl
   simp only [Act.put, zA, zB, zC]
   refine takeL 5 (v := ?_) ?_ ‹_› ?_
   rotate_left
   ·intro w hSw; (try dsimp only at hSw); go_simp; all_goals with_reducible rfl
   simp only [Act.put, zA, zB, zC]
   refine takeL 6 (v := ?_) ?_ ‹_› ?_
   rotate_left
   ·intro w hSw; (try dsimp only at hSw); go_simp; all_goals with_reducible rfl
   simp only [Act.put, zA, zB, zC]
   refine takeL 7 (v := ?_) ?_ ‹_› ?_
   rotate_left
   ·intro w hSw; (try dsimp only at hSw); go_simp; all_goals with_reducible rfl
   simp only [Act.put, zA, zB, zC]
   refine takeL 9 (v := ?_) ?_ ‹_› ?_
   rotate_left
   ·intro w hSw; (try dsimp only at hSw); go_simp; all_goals with_reducible rfl
   simp only [Act.put, zA, zB, zC]
   refine takeL 10 (v := ?_) ?_ ‹_› ?_
   rotate_left
   ·intro w hSw; (try dsimp only at hSw); go_simp; all_goals with_reducible rfl
   simp only [Act.put, zA, zB, zC]
   refine takeL 11 (v := ?_) ?_ ‹_› ?_
   rotate_left
   ·intro w hSw; (try dsimp only at hSw); go_simp; all_goals with_reducible rfl
   simp only [Act.put, zA, zB, zC]
   refine takeL 12 (v := ?_) ?_ ‹_› ?_
   rotate_left
   ·intro w hSw; (try dsimp only at hSw); go_simp; all_goals with_reducible rfl
   simp only [Act.put, zA, zB, zC]
   refine takeL 13 (v := ?_) ?_ ‹_› ?_
   rotate_left
   ·intro w hSw; (try dsimp only at hSw); go_simp; all_goals with_reducible rfl
   simp only [Act.put, zA, zB, zC]
   refine takeL 14 (v := ?_) ?_ ‹_› ?_
   rotate_left
   ·intro w hSw; (try dsimp only at hSw); go_simp; all_goals with_reducible rfl
   simp only [Act.put, zA, zB, zC]
   refine wpAnyH_ready (rs := [8]) (by kernel_rfl) (by simp) (.cons rfl (fun K hK => ?_) .nil)
   go_simp
   refine (prUint_any _ _).mono ?_
   rintro e w1 ⟨rfl, hb⟩
   replace F := below_on F hb
   replace G := below_on G hb
   clear hb
   refine hK.out _ _ (HELD.out _ F) (fun hHeld => ?_)
   clear hK K
   try simp only [Act.put, zA, zB, zC]
   refine wpAnyH_ready (rs := [15]) (by kernel_rfl) (by simp) (.cons rfl (fun K hK => ?_) .nil)
   go_simp
   refine (prBool_any _ _).mono ?_
   rintro e w2 ⟨rfl, hb⟩
   replace F := below_on F hb
   replace G := below_on G hb
   clear hb
   refine hK.out _ _ (HELD.out _ F) (fun hHeld => ?_)
   clear hK K
   try simp only [Act.put, zA, zB, zC]
   refine wpAnyH_ready (rs := [16]) (by kernel_rfl) (by simp) (.cons rfl (fun K hK => ?_) .nil)
   go_simp
   replace F := below_al F (.cells #[.int .i64 1, .int .u64 x.1.toNat, .slice none 0 0, .string ⟨#[]⟩, .slice none 0 0, .int .i64 5, .int .u64 (bN x.2), .slice none 0 0, .string ⟨#[]⟩, .slice none 0 0] 83)
   have hs2 := G.size
   replace G := below_al G (.cells #[.int .i64 1, .int .u64 x.1.toNat, .slice none 0 0, .string ⟨#[]⟩, .slice none 0 0, .int .i64 5, .int .u64 (bN x.2), .slice none 0 0, .string ⟨#[]⟩, .slice none 0 0] 83)
   refine hK.out _ _ (HELD.out _ F) (fun hHeld => ?_)
   clear hK K
   try simp only [Act.put, zA, zB, zC]
   refine wpAnyH_ready (rs := [17]) (by kernel_rfl) (by simp) (.cons rfl (fun K hK => ?_) .nil)
   go_simp
   refine (prList_any _ _ _ _).mono ?_
   rintro e w4 ⟨rfl, hb⟩
   have hx : ItS w4 (newB wr w4) (listV (some ⟨w2.heap.size, 0, none⟩) 2 2) (itX x) := itS_two ⟨hs2, Nat.lt_of_lt_of_le (by simp) hb.size⟩ ⟨_, _, _, _, _, rfl, box_at hb 0, box_at hb 1, box_at hb 2, box_at hb 3, box_at hb 4⟩ ⟨_, _, _, _, _, rfl, box_at hb 5, box_at hb 6, box_at hb 7, box_at hb 8, box_at hb 9⟩ (itS_uint _ _ _ ⟨by omega, by omega⟩) (itS_bool _ _ _)
   replace F := below_on F hb
   replace G := below_on G hb
   obtain ⟨v', w6, hrun, hlo⟩ := listO_one HI.out G hx hl
   have HRun := h_ hrun
   have HLO := h_ hlo
   clear hb hrun hlo hx hs2
   refine hK.out _ _ (HELD.out _ F) (fun hHeld => ?_)
   clear hK K
   try simp only [Act.put, zA, zB, zC]
   refine wpAnyH_ready (rs := [18]) (by kernel_rfl) (by simp) (.cons rfl (fun K hK => ?_) .nil)
   go_simp
   replace F := below_al F (.cells #[.int .i64 4, .int .u64 0, .slice none 0 0, .string ⟨#[]⟩, .slice (some ⟨w2.heap.size, 0, none⟩) 2 2] 83)
   refine hK.out _ _ (HELD.out _ F) (fun hHeld => ?_)
   clear hK K
   try simp only [Act.put, zA, zB, zC]
   refine wpAnyH_ready (rs := [19]) (by kernel_rfl) (by simp) (.cons rfl (fun K hK => ?_) .nil)
   refine step_runX (by rfl) _ _ _ _ (by rfl) _ _ _ _ (by rfl) (by rfl) HRun.out ?_
   refine hK.out _ _ (HELD.out _ HLO.out.1) (fun hHeld => ?_)
   clear hK K
   try simp only [Act.put, zA, zB, zC]
   refine takeL 20 (v := ?_) ?_ ‹_› ?_
   rotate_left
   ·intro w hSw; (try dsimp only at hSw); go_simp; all_goals with_reducible rfl
   simp only [Act.put, zA, zB, zC]
   clear hHeld
   refine wpAnyH_done (by kernel_rfl) ?_ _
   go_wp2_with fail
   go_roundw
   case rel => exact ⟨k + 1, by omega, by go_num, by rw [Hid, HE.out]; exact HLO.out⟩
   case measure => simp [intOf]; omega
  ·obtain rfl : k = xs.length := by omega
   have h := HI.out
   rw [List.take_length] at h
   obtain ⟨A4, C4, rfl, hit4⟩ := h.item (by simp; omega)
   have hlen4 : (itB bk :: xs.map itX).length = xs.length + 1 := by simp
   rw [hlen4] at hit4 ⊢
   have HIt : Hid (ItS wr (newB W wr) (listV A4 (xs.length + 1) C4) (itP bk xs)) := hit4
   have HB4 : Hid (Below W.heap.size W wr) := h.1
   clear h HI hit4 hlen4 hbx
   go_wp2_with fail
   refine (prList_any _ _ _ _).mono ?_
   rintro e w5 ⟨rfl, hb5⟩
   clear x0 x1
   have HIt5 : Hid (ItS w5 (newB W w5) (listV A4 (xs.length + 1) C4) (itP bk xs)) := HIt.out.new_on hb5
   have HB5 := h_ (below_on HB4.out hb5)
   obtain ⟨_, hbx⟩ := HX.out w5 HB5.out
   obtain ⟨d0, f0⟩ := hbx 0
   obtain ⟨d1, f1⟩ := hbx 1
   obtain ⟨d2, f2⟩ := hbx 2
   obtain ⟨d3, f3⟩ := hbx 3
   obtain ⟨d4, f4⟩ := hbx 4
   have hq := set5_cells d0 d1 d2 d3 d4 (.int .i64 4) (.int .u64 0) (.slice none 0 0) (.string ⟨#[]⟩) (.slice A4 (xs.length + 1) C4)
   have hbel := set5_on (g := w.heap.size + 1) (HB0.out.trans (HB5.out.mono HB0.out.size)) (by omega) (.int .i64 4) (.int .u64 0) (.slice none 0 0) (.string ⟨#[]⟩) (.slice A4 (xs.length + 1) C4)
   have hit : ItS (set5 w5 (w.heap.size + 1) (.int .i64 4) (.int .u64 0) (.slice none 0 0) (.string ⟨#[]⟩) (.slice A4 (xs.length + 1) C4)) (newB w (set5 w5 (w.heap.size + 1) (.int .i64 4) (.int .u64 0) (.slice none 0 0) (.string ⟨#[]⟩) (.slice A4 (xs.length + 1) C4))) (listV A4 (xs.length + 1) C4) (itP bk xs) :=
    ItS.more (fun b hb => ⟨by have := hb.1; have := HWs.out; omega, by rw [set5_size]; exact hb.2⟩) _ (ItS.keep (fun b hb => set5_block (by have := hb.1; have := HWs.out; omega) _ _ _ _ _) _ HIt5.out)
   have HF := h_ (⟨hq, hbel, hit⟩ : _ ∧ _ ∧ _)
   clear hq hbel hit hbx hb5
   unfold set5 at HF
   go_wp2_with fail
   clear d0 d1 d2 d3 d4 f0 f1 f2 f3 f4
   obtain ⟨⟨q0, q1, q2, q3, q4⟩, hbel, hit⟩ := HF.out
   exact bodyPost_ret (v := .agg #[.int .i64 4, .int .u64 0, .slice none 0 0, .string ⟨#[]⟩, .slice A4 (xs.length + 1) C4]) (by simp [results, Tryz.results42, go_sem, q0, q1, q2, q3, q4]) rfl ⟨hbel, _, rfl, hit⟩

theorem itX_back (x : Cr) : crG (itX x) = x := by
 obtain ⟨g, b⟩ := x
 have h : shX (itX (g, b)).l = true := rfl
 rw [crG_yes (x := itX (g, b)) (y := itU g.toNat) (z := itB b) h rfl]
 have e1 : UInt32.ofNat ((itU g.toNat).n.toNat) = g := by
  show UInt32.ofNat (((g.toNat : Nat) : Int).toNat) = g
  rw [Int.toNat_natCast]
  exact UInt32.ofNat_toNat
 have e2 : ((itB b).n == 1) = b := by cases b <;> rfl
 rw [e1, e2]

theorem guP_back (bk : Bool) (xs : List Cr) (h : xs.length ≤ 64) : guP (itP bk xs) = (bk, xs) := by
 have hl : (itP bk xs).l = itB bk :: xs.map itX := rfl
 unfold guP
 rw [hl, if_neg (by simp; omega)]
 have e2 : ((itB bk).n == 1) = bk := by cases bk <;> rfl
 simp only [List.drop_succ_cons, List.drop_zero, List.map_map, e2, Prod.mk.injEq, true_and]
 have e3 : (crG ∘ itX) = id := funext itX_back
 rw [e3, List.map_id]

theorem isP_back (bk : Bool) (xs : List Cr) (h : rightX xs = true) : isP (itP bk xs) = true ∧ guP (itP bk xs) = (bk, xs) := by
 have h64 : xs.length ≤ 64 := by
  unfold rightX at h
  simp only [Bool.and_eq_true, decide_eq_true_eq] at h
  exact h.1
 have h1 := guP_back bk xs h64
 refine ⟨?_, h1⟩
 unfold isP
 rw [h1, h, same_self]
 rfl

end Go.Proofs.YtiahakbkagipkaaGreatDoor

namespace Go.Proofs.YtiahakbkagipkaaGreatDoor
end Go.Proofs.YtiahakbkagipkaaGreatDoor

namespace Go.Proofs.YtiahakbkagipkaaGreatDoor
open Go Go.RowKit Go.Shelf

theorem itP_k (b : Bool) (zs : List Cr) : (itP b zs).k = 4 ∧ (itP b zs).l = itB b :: zs.map itX := ⟨rfl, rfl⟩

theorem isP_form {x : It} (h : isP x = true) : ∃ b zs, rightX zs = true ∧ x = itP b zs := by
 unfold isP at h
 rw [Bool.and_eq_true] at h
 exact ⟨_, _, h.1, ((It.same_iff _ _).1 h.2).symm⟩

theorem no_path {x : It} (h : ∀ b zs, rightX zs = true → x = itP b zs → False) : isP x = false := by
 cases hp : isP x with
 | false => rfl
 | true =>
  obtain ⟨b, zs, h1, h2⟩ := isP_form hp
  exact (h b zs h1 h2).elim

def okR (y : It) : Prop := shapeB y [1, 5] = true ∧ ∀ p q, y.l = [p, q] → p.n ≤ 4294967295

theorem okR_itX (z : Cr) : okR (itX z) := by
 refine ⟨rfl, fun p q h => ?_⟩
 have e : (itX z).l = [itU z.1.toNat, itB z.2] := rfl
 rw [e] at h
 injection h with h1 h2
 rw [← h1]
 have := z.1.toNat_lt
 show ((z.1.toNat : Nat) : Int) ≤ 4294967295
 omega

theorem okR_at {b : Bool} {zs : List Cr} {x y : It} {j : Nat} (h : x = itP b zs) (hj : x.l[j + 1]? = some y) : okR y := by
 subst h
 rw [(itP_k b zs).2, List.getElem?_cons_succ, List.getElem?_map] at hj
 obtain ⟨z, _, rfl⟩ := Option.map_eq_some_iff.1 hj
 exact okR_itX z

theorem shapeB_two {y : It} (h : shapeB y [1, 5] = true) : ∃ p q, y.l = [p, q] ∧ p.k = 1 ∧ q.k = 5 := by
 have h1 := (shapeB_iff.1 h).2
 match hy : y.l, h1 with
 | [p, q], h1 =>
  simp only [List.map_cons, List.map_nil, List.cons.injEq, and_true] at h1
  exact ⟨p, q, rfl, h1.1, h1.2⟩
 | [], h1 => simp at h1
 | [_], h1 => simp at h1
 | _ :: _ :: _ :: _, h1 => simp at h1

theorem crG_okR {y p q : It} (h : shapeB y [1, 5] = true) (hl : y.l = [p, q]) : crG y = (UInt32.ofNat p.n.toNat, q.n == 1) := by
 refine crG_yes ?_ hl
 obtain ⟨p', q', e, h1, h2⟩ := shapeB_two h
 rw [hl] at e
 injection e with e1 e2
 injection e2 with e2 _
 rw [hl]
 unfold shX
 simp only [e1, e2, h1, h2]
 rfl

theorem tail_path {b : Bool} {zs : List Cr} {x : It} (h : x = itP b zs) : (x.l.drop 1).map crG = zs := by
 subst h
 rw [(itP_k b zs).2]
 simp only [List.drop_succ_cons, List.drop_zero, List.map_map]
 have e3 : (crG ∘ itX) = id := funext itX_back
 rw [e3, List.map_id]

theorem head_path {b : Bool} {zs : List Cr} {x hd : It} {tl : List It} (h : x = itP b zs) (hl : x.l = hd :: tl) : (hd.n == 1) = b ∧ hd.k = 5 ∧ tl.map crG = zs := by
 have h2 := tail_path h
 rw [hl] at h2
 subst h
 rw [(itP_k b zs).2] at hl
 injection hl with h1 _
 rw [← h1]
 refine ⟨by cases b <;> rfl, rfl, h2⟩

theorem ptOwn_below {w w' : World} {B : Nat} {e : TypeId} {k : Nat} {v : Value} {n : Nat} {xs : List Value} (h : w.ownsRow B e k v n xs) (hb : Below w.heap.size w w') : w'.ownsRow B e k v n xs :=
 ⟨h.1, h.2.imp id fun ⟨g, cap, cur, e, h0, hg, r⟩ => ⟨g, cap, cur, e, h0, (hb.block g (Array.getElem?_eq_some_iff.1 hg).1).trans hg, r⟩⟩

def ROfP (w : World) (x : It) (e : Ending) (w' : World) : Prop :=
 Below w.heap.size w w' ∧ ((∃ b zs, rightX zs = true ∧ x = itP b zs ∧ ∃ A C, e = .returned (.tuple #[.agg #[.bool b, .slice A zs.length C], .bool true]) ∧ zs.length ≤ C ∧ RdX w' w'.heap.size A zs ∧ (zs = [] ∨ ∃ g, A = some ⟨g, 0, none⟩ ∧ w.heap.size ≤ g)) ∨
  (isP x = false ∧ e = .returned (.tuple #[.agg #[.bool false, .slice none 0 0], .bool false])))

def RfI (W wr : World) (P : Nat) (gb : Bool) (tl : List It) (j : Nat) : Prop :=
 Below W.heap.size W wr ∧ ∃ v, (wr.cell? ⟨P, 0, none⟩ = some (.bool gb) ∧ wr.cell? ⟨P, 1, none⟩ = some v ∧ wr.frozen? ⟨P, 1, none⟩ = false) ∧ wr.ownsRow (W.heap.size + 1) 138 2 v ((tl.take j).map crG).length (flatX ((tl.take j).map crG)) ∧ ∀ i y, i < j → tl[i]? = some y → okR y

theorem own_new (w : World) (B : Nat) : w.ownsRow B 138 2 (.slice none 0 0) ([] : List Cr).length (flatX []) := World.ownsRow_nil _ _ _ _

theorem refPOf_any (x : It) (v : Value) (w : World) (hv : ItV w w.heap.size v x) (h100 : x.l.length ≤ 100000) : Calls Tryz.prog 49 #[v] w (ROfP w x) := by
 obtain ⟨a, c, A, C, rfl⟩ := hv.form
 obtain ⟨W, hW⟩ : ∃ W, W = (w.alloc (.cells #[.int .i64 x.k, .int .u64 x.n, .slice a x.b.length c, .string ⟨x.s.toArray⟩, .slice A x.l.length C] 83)).alloc (.cells #[.bool false, .slice none 0 0] 44) := ⟨_, rfl⟩
 have HB0 : Hid (Below w.heap.size w W) := by rw [hW]; exact below_al (below_al bR _) _
 have HX : Hid (∀ w', Below W.heap.size W w' → (w'.cell? ⟨w.heap.size, 0, none⟩ = some (.int .i64 x.k) ∧ w'.cell? ⟨w.heap.size, 1, none⟩ = some (.int .u64 x.n) ∧ w'.cell? ⟨w.heap.size, 2, none⟩ = some (.slice a x.b.length c) ∧ w'.cell? ⟨w.heap.size, 3, none⟩ = some (.string ⟨x.s.toArray⟩) ∧ w'.cell? ⟨w.heap.size, 4, none⟩ = some (.slice A x.l.length C)) ∧ (w'.cell? ⟨w.heap.size + 1, 0, none⟩ = some (.bool false) ∧ w'.cell? ⟨w.heap.size + 1, 1, none⟩ = some (.slice none 0 0) ∧ w'.frozen? ⟨w.heap.size + 1, 0, none⟩ = false ∧ w'.frozen? ⟨w.heap.size + 1, 1, none⟩ = false)) := fun w' h => by
  rw [hW] at h
  have h1 := below_on (below_al (Below.refl _ (w.alloc (.cells #[.int .i64 x.k, .int .u64 x.n, .slice a x.b.length c, .string ⟨x.s.toArray⟩, .slice A x.l.length C] 83))) (.cells #[.bool false, .slice none 0 0] 44)) h
  have q1 := box_at h 0
  have q2 := box_at h 1
  have f1 := frozen_at h 0
  have f2 := frozen_at h 1
  rw [World.size_alloc] at q1 q2 f1 f2
  exact ⟨⟨box_at h1 0, box_at h1 1, box_at h1 2, box_at h1 3, box_at h1 4⟩, q1, q2, f1, f2⟩
 have HV : Hid (∀ w', Below W.heap.size W w' → ItV w' w'.heap.size (.agg #[.int .i64 x.k, .int .u64 x.n, .slice a x.b.length c, .string ⟨x.s.toArray⟩, .slice A x.l.length C]) x) := fun w' h => (hv.on HB0.out).on h
 obtain ⟨hC, hlist⟩ := hv.listP
 have hWs : W.heap.size = w.heap.size + 1 + 1 := by rw [hW]; simp
 have HWs := h_ hWs
 have HL := h_ hlist
 have HW := h_ hW
 clear hW hv hlist hWs
 obtain ⟨⟨x0, x1, x2, x3, x4⟩, b0, b1, f0, f1⟩ := HX.out W bR
 by_cases hk : x.k = 4
 rotate_left
 ·have h1n : (x.k != 4) = true := by simpa using hk
  have h1' : (x.k == 4) = false := by simpa using hk
  have HNo : Hid (isP x = false) := no_path fun b zs _ h => hk (by rw [h]; rfl)
  clear hk
  go_enter Tryz.func49, Tryz.ntmps49
  go_upto_region 1 with fail
  rw [← HW.out]
  go_wp2_with fail
  have s2 := set2_cells b0 b1 (.bool false) (.slice none 0 0)
  refine bodyPost_ret (v := .tuple #[.agg #[.bool false, .slice none 0 0], .bool false]) (by obtain ⟨s2, s3⟩ := s2; simp [results, Tryz.results49, go_sem, s2, s3]) rfl ⟨?_, .inr ⟨HNo.out, rfl⟩⟩
  exact (HB0.out.setCell (by show w.heap.size ≤ w.heap.size + 1; omega) _).setCell (by show w.heap.size ≤ w.heap.size + 1; omega) _
 have h1n : (x.k != 4) = false := by simpa using hk
 have h1' : (x.k == 4) = true := by simpa using hk
 have HK4 := h_ hk
 by_cases hn : x.l.length = 0
 ·have e0 : ((x.l.length : Int) == 0) = true := by rw [hn]; rfl
  have HNo : Hid (isP x = false) := no_path fun b zs _ h => by rw [h] at hn; simp [itP_k] at hn
  clear hn hk
  go_enter Tryz.func49, Tryz.ntmps49
  go_upto_region 1 with fail
  rw [← HW.out]
  go_wp2_with fail
  have s2 := set2_cells b0 b1 (.bool false) (.slice none 0 0)
  refine bodyPost_ret (v := .tuple #[.agg #[.bool false, .slice none 0 0], .bool false]) (by obtain ⟨s2, s3⟩ := s2; simp [results, Tryz.results49, go_sem, s2, s3]) rfl ⟨?_, .inr ⟨HNo.out, rfl⟩⟩
  exact (HB0.out.setCell (by show w.heap.size ≤ w.heap.size + 1; omega) _).setCell (by show w.heap.size ≤ w.heap.size + 1; omega) _
 obtain ⟨g, o, rfl, hg, hlL⟩ : ∃ g o, A = some ⟨g, o, none⟩ ∧ g < w.heap.size ∧ ItL w w.heap.size g o x.l := by
  rcases HL.out with h | h
  ·rw [h] at hn; simp at hn
  ·exact h
 obtain ⟨hd, tl, hx⟩ : ∃ hd tl, x.l = hd :: tl := by
  cases h : x.l with
  | nil => rw [h] at hn; simp at hn
  | cons p q => exact ⟨p, q, rfl⟩
 have hlen : x.l.length = tl.length + 1 := by rw [hx]; simp
 have e0 : ((x.l.length : Int) == 0) = false := by simp only [beq_eq_false_iff_ne]; omega
 have hpos : (0 : Int) < (x.l.length : Int) := by omega
 have HHd : Hid (∀ w', Below W.heap.size W w' → w'.cell? ⟨g, o, none⟩ = some (.int .i64 hd.k) ∧ w'.cell? ⟨g, o + 1, none⟩ = some (.int .u64 hd.n)) := fun w' h => by
  obtain ⟨_, _, _, _, _, c0, c1, _⟩ := hlL.get (i := 0) (x := hd) (by rw [hx]; rfl) (HB0.out.trans (h.mono HB0.out.size)) hg
  exact ⟨by simpa using c0, by simpa using c1⟩
 have HLl : Hid (x.l = hd :: tl) := hx
 have HIt : Hid (∀ k y, x.l[k]? = some y → ∃ a c A C, ItV w w.heap.size (.agg #[.int .i64 y.k, .int .u64 y.n, .slice a y.b.length c, .string ⟨y.s.toArray⟩, .slice A y.l.length C]) y ∧ ∀ w', Below w.heap.size w w' → (w'.cell? ⟨g, o + k * 5, none⟩ = some (.int .i64 y.k) ∧ w'.cell? ⟨g, o + k * 5 + 1, none⟩ = some (.int .u64 y.n) ∧ w'.cell? ⟨g, o + k * 5 + 2, none⟩ = some (.slice a y.b.length c) ∧ w'.cell? ⟨g, o + k * 5 + 3, none⟩ = some (.string ⟨y.s.toArray⟩) ∧ w'.cell? ⟨g, o + k * 5 + 4, none⟩ = some (.slice A y.l.length C))) := fun k y hy => by
  obtain ⟨a, c, A, C, h0, h1, h2, h3, h4, h5⟩ := hlL.get (i := k) (x := y) hy (Below.refl _ w) hg
  exact ⟨a, c, A, C, h0, fun w' h => ⟨(h.cell (p := ⟨g, _, none⟩) hg).trans h1, (h.cell (p := ⟨g, _, none⟩) hg).trans h2, (h.cell (p := ⟨g, _, none⟩) hg).trans h3, (h.cell (p := ⟨g, _, none⟩) hg).trans h4, (h.cell (p := ⟨g, _, none⟩) hg).trans h5⟩⟩
 obtain ⟨k0, k1⟩ := HHd.out W bR
 by_cases h5 : hd.k = 5
 rotate_left
 ·have h5n : (hd.k != 5) = true := by simpa using h5
  have h5' : (hd.k == 5) = false := by simpa using h5
  have HNo : Hid (isP x = false) := no_path fun b zs _ h => h5 (head_path h hx).2.1
  clear h5 hx hn hlL hlen hk
  go_enter Tryz.func49, Tryz.ntmps49
  go_upto_region 1 with fail
  rw [← HW.out]
  go_wp2_with fail
  have s2 := set2_cells b0 b1 (.bool false) (.slice none 0 0)
  refine bodyPost_ret (v := .tuple #[.agg #[.bool false, .slice none 0 0], .bool false]) (by obtain ⟨s2, s3⟩ := s2; simp [results, Tryz.results49, go_sem, s2, s3]) rfl ⟨?_, .inr ⟨HNo.out, rfl⟩⟩
  exact (HB0.out.setCell (by show w.heap.size ≤ w.heap.size + 1; omega) _).setCell (by show w.heap.size ≤ w.heap.size + 1; omega) _
 have h5n : (hd.k != 5) = false := by simpa using h5
 have h5' : (hd.k == 5) = true := by simpa using h5
 have HK : Hid (x.k = 4 ∧ hd.k = 5) := ⟨hk, h5⟩
 have HLen := h_ hlen
 clear hx hn hlL hlen hk h5
 go_enter Tryz.func49, Tryz.ntmps49
 go_upto_region 1 with fail
 rw [← HW.out]
 clear b0 b1 f0 f1 x0 x1 x2 x3 x4
 obtain ⟨⟨x0, x1, x2, x3, x4⟩, b0, b1, f0, f1⟩ := HX.out W bR
 go_upto_region 4 with fail
 obtain ⟨gb, hgb⟩ : ∃ gb, gb = (hd.n == 1) := ⟨_, rfl⟩
 rw [← hgb]
 have HGb := h_ hgb
 obtain ⟨V, hV⟩ : ∃ V, V = W.alloc (.cells #[.bool gb, .slice none 0 0] 44) := ⟨_, rfl⟩
 rw [← hV]
 have HI0 : Hid (RfI W V W.heap.size gb tl 0) := by
  rw [hV]
  have h := box_at (Below.refl (W.alloc (.cells #[.bool gb, .slice none 0 0] 44)).heap.size (W.alloc (.cells #[.bool gb, .slice none 0 0] 44)))
  have f := frozen_at (Below.refl (W.alloc (.cells #[.bool gb, .slice none 0 0] 44)).heap.size (W.alloc (.cells #[.bool gb, .slice none 0 0] 44))) 1
  exact ⟨below_al bR _, .slice none 0 0, ⟨h 0, h 1, f⟩, own_new _ _, fun i y hi _ => absurd hi (Nat.not_lt_zero _)⟩
 clear hgb hV x0 x1 x2 x3 x4 b0 b1 f0 f1 k0 k1 e0 h5n h5' hpos
 go_wp2_with fail
 go_loopw [5] (fun i wr => ∃ k : Nat, 1 ≤ k ∧ k ≤ tl.length + 1 ∧ i = .int .i64 k ∧ Hid (RfI W wr W.heap.size gb tl (k - 1))) (fun i _ => tl.length + 2 - (intOf i).toNat)
 case atStart => exact ⟨1, Nat.le_refl _, by omega, rfl, HI0⟩
 case round =>
  obtain ⟨k, hk1, hk, rfl, HI⟩ := hrel
  clear HI0
  obtain ⟨⟨x0, x1, x2, x3, x4⟩, b0, b1, f0, f1⟩ := HX.out wr HI.out.1
  by_cases hlt : k < tl.length + 1
  ·have hltx : k < x.l.length := by have := HLen.out; omega
   have hltI : (k : Int) < (x.l.length : Int) := by omega
   obtain ⟨y, hy⟩ : ∃ y, x.l[k]? = some y := ⟨_, List.getElem?_eq_getElem hltx⟩
   obtain ⟨ay, cy, Ay, Cy, hvy, hcy⟩ := HIt.out k y hy
   have HTk : Hid (tl[k - 1]? = some y) := by
    have h := hy
    rw [HLl.out] at h
    obtain ⟨j, rfl⟩ : ∃ j, k = j + 1 := ⟨k - 1, by omega⟩
    show tl[j + 1 - 1]? = some y
    simpa using h
   have HY := h_ hy
   obtain ⟨c0, c1, c2, c3, c4⟩ := hcy wr (HB0.out.trans (HI.out.1.mono HB0.out.size))
   have HCy := h_ hcy
   obtain ⟨hCy, hly⟩ := hvy.listP
   obtain ⟨_, hlenY⟩ := hvy.parts
   have HVy := h_ hvy
   have HLy := h_ hly
   clear hcy hy hvy hly
   go_wp2_with fail
   obtain ⟨Wr, hWr⟩ : ∃ V, V = wr.alloc (.cells #[.int .i64 1, .int .i64 5] 3) := ⟨_, rfl⟩
   have HBr : Hid (Below wr.heap.size wr Wr) := by rw [hWr]; exact below_al bR _
   have HKs : Hid (RdK Wr wr.heap.size [1, 5]) := by
    rw [hWr]
    refine ⟨by simp, fun j hj => ?_⟩
    rcases (show j = 0 ∨ j = 1 by simp at hj; omega) with rfl | rfl
    ·exact box_at bR 0
    ·exact box_at bR 1
   have HVr : Hid (ItV Wr Wr.heap.size (.agg #[.int .i64 y.k, .int .u64 y.n, .slice ay y.b.length cy, .string ⟨y.s.toArray⟩, .slice Ay y.l.length Cy]) y) := (HVy.out.on HB0.out).on HI.out.1 |>.on HBr.out
   rw [← hWr]
   clear hWr x0 x1 x2 x3 x4 b0 b1 f0 f1 c0 c1 c2 c3 c4
   refine (shape_ref y _ wr.heap.size 2 2 [1, 5] rfl (by decide) Wr HVr.out HKs.out).mono ?_
   rintro e w1 ⟨rfl, hb⟩
   have HB1 : Hid (Below wr.heap.size wr w1) := below_on HBr.out hb
   clear hb
   obtain ⟨sh, hsh⟩ : ∃ sh, sh = shapeB y [1, 5] := ⟨_, rfl⟩
   rw [← hsh]
   cases sh
   ·have HNo : Hid (isP x = false) := no_path fun b zs _ h => by
      obtain ⟨j, hj⟩ : ∃ j, k = j + 1 := ⟨k - 1, by omega⟩
      have h1 := okR_at (j := j) h (by rw [← hj]; exact HY.out)
      rw [h1.1] at hsh
      cases hsh
    clear hsh
    obtain ⟨_, b0, b1, f0, f1⟩ := HX.out _ (HI.out.1.trans (HB1.out.mono HI.out.1.size))
    have HBz : Hid (Below W.heap.size W _) := (HI.out.1.trans (HB1.out.mono HI.out.1.size))
    go_wp2_with fail
    have s2 := set2_cells b0 b1 (.bool false) (.slice none 0 0)
    refine bodyPost_ret (v := .tuple #[.agg #[.bool false, .slice none 0 0], .bool false]) (by obtain ⟨s2, s3⟩ := s2; simp [results, Tryz.results49, go_sem, s2, s3]) rfl ⟨?_, .inr ⟨HNo.out, rfl⟩⟩
    exact HB0.out.trans (((HBz.out.mono HB0.out.size).setCell (by simp) _).setCell (by simp) _)
   ·obtain ⟨p, q, hpq, hp1, hq5⟩ := shapeB_two hsh.symm
    have hl2 : y.l.length = 2 := by rw [hpq]; rfl
    obtain ⟨g2, o2, rfl, hg2, hL2⟩ : ∃ g o, Ay = some ⟨g, o, none⟩ ∧ g < w.heap.size ∧ ItL w w.heap.size g o y.l := by
     rcases HLy.out with h | h
     ·rw [h] at hpq; cases hpq
     ·exact h
    have HBase : Hid (∀ w', Below (W.heap.size + 1) wr w' → Below w.heap.size w w') := fun w' h => HB0.out.trans ((HI.out.1.mono HB0.out.size).trans (h.mono (by have := HB0.out.size; omega)))
    have HPq : Hid (∀ w', Below (W.heap.size + 1) wr w' → w'.cell? ⟨g2, o2 + 1, none⟩ = some (.int .u64 p.n) ∧ w'.cell? ⟨g2, o2 + 5 + 1, none⟩ = some (.int .u64 q.n)) := fun w' h => by
     obtain ⟨_, _, _, _, _, _, c1, _⟩ := hL2.get (i := 0) (x := p) (by rw [hpq]; rfl) (HBase.out w' h) hg2
     obtain ⟨_, _, _, _, _, _, c6, _⟩ := hL2.get (i := 1) (x := q) (by rw [hpq]; rfl) (HBase.out w' h) hg2
     exact ⟨by simpa using c1, by simpa using c6⟩
    obtain ⟨_, _, _, _, hvp, _⟩ := hL2.get (i := 0) (x := p) (by rw [hpq]; rfl) (Below.refl _ w) hg2
    have hup := hvp.parts.1
    have HZ : Hid (crG y = (UInt32.ofNat p.n.toNat, q.n == 1)) := crG_okR hsh.symm hpq
    have HShy : Hid (shapeB y [1, 5] = true ∧ y.l = [p, q]) := ⟨hsh.symm, hpq⟩
    have HUp := h_ hup
    have HF1 : Hid (Below (W.heap.size + 1) wr w1) := HB1.out.mono (by have h1 := HI.out.2; obtain ⟨v, ⟨h2, _⟩, _⟩ := h1; exact World.block_lt_of_cell? _ _ h2)
    have HXb : Hid (∀ w', Below (W.heap.size + 1) wr w' → w'.cell? ⟨w.heap.size, 4, none⟩ = some (.slice (some ⟨g, o, none⟩) x.l.length C)) := fun w' h => (HX.out w' (HI.out.1.trans (h.mono (by omega)))).1.2.2.2.2
    have HYb : Hid (∀ w', Below (W.heap.size + 1) wr w' → w'.cell? ⟨g, o + k * 5 + 4, none⟩ = some (.slice (some ⟨g2, o2, none⟩) 2 Cy)) := fun w' h => by
     have h4 := (HCy.out w' (HBase.out w' h)).2.2.2.2
     rw [hl2] at h4
     exact h4
    clear hsh hpq hp1 hq5 hL2 hvp hup hCy hlenY hl2
    have x4 := HXb.out w1 HF1.out
    have y4 := HYb.out w1 HF1.out
    obtain ⟨z1, z2⟩ := HPq.out w1 HF1.out
    by_cases hbig : 4294967295 < p.n
    ·have HNo : Hid (isP x = false) := no_path fun b zs _ h => by
       obtain ⟨j, hj⟩ : ∃ j, k = j + 1 := ⟨k - 1, by omega⟩
       have h1 := okR_at (j := j) h (by rw [← hj]; exact HY.out)
       have h2 := h1.2 p q HShy.out.2
       omega
     obtain ⟨_, b0, b1, f0, f1⟩ := HX.out _ (HI.out.1.trans (HB1.out.mono HI.out.1.size))
     have HBz : Hid (Below W.heap.size W _) := (HI.out.1.trans (HB1.out.mono HI.out.1.size))
     go_wp2_with fail
     have s2 := set2_cells b0 b1 (.bool false) (.slice none 0 0)
     refine bodyPost_ret (v := .tuple #[.agg #[.bool false, .slice none 0 0], .bool false]) (by obtain ⟨s2, s3⟩ := s2; simp [results, Tryz.results49, go_sem, s2, s3]) rfl ⟨?_, .inr ⟨HNo.out, rfl⟩⟩
     exact HB0.out.trans (((HBz.out.mono HB0.out.size).setCell (by simp) _).setCell (by simp) _)
    ·have hbig' : ¬ 4294967295 < p.n := hbig
     obtain ⟨_, v, ⟨v0, v1, v2⟩, hown, hall⟩ := HI.out
     obtain ⟨A5, C5, rfl, hC5, _, _⟩ := own_rd hown
     have HOwn := h_ hown
     have HAll := h_ hall
     have hPl := World.block_lt_of_cell? _ _ v0
     have hwrap : IntKind.u32.wrap p.n = ((UInt32.ofNat p.n.toNat).toNat : Int) := by
      have hu1 : (UInt32.ofNat p.n.toNat).toNat = p.n.toNat % 4294967296 := by simp
      rw [hu1]
      have h1 := HUp.out.1
      have h2 := HUp.out.2
      simp [IntKind.wrap, IntKind.signed, IntKind.bits]
      omega
     have HPb : Hid (∀ w', Below (W.heap.size + 1) wr w' → (w'.cell? ⟨W.heap.size, 0, none⟩ = some (.bool gb) ∧ w'.cell? ⟨W.heap.size, 1, none⟩ = some (.slice A5 ((tl.take (k - 1)).map crG).length C5) ∧ w'.frozen? ⟨W.heap.size, 1, none⟩ = false)) := fun w' h =>
      ⟨(h.cell (p := ⟨W.heap.size, 0, none⟩) (by simp)).trans v0, (h.cell (p := ⟨W.heap.size, 1, none⟩) (by simp)).trans v1, (h.frozen (p := ⟨W.heap.size, 1, none⟩) (by simp)).trans v2⟩
     have HELD : Hid (∀ w', Below (W.heap.size + 1) wr w' → w'.cell? ⟨w.heap.size, 4, none⟩ = some (.slice (some ⟨g, o, none⟩) x.l.length C) ∧ (w'.cell? ⟨W.heap.size, 0, none⟩ = some (.bool gb) ∧ w'.cell? ⟨W.heap.size, 1, none⟩ = some (.slice A5 ((tl.take (k - 1)).map crG).length C5)) ∧ w'.cell? ⟨g, o + k * 5 + 4, none⟩ = some (.slice (some ⟨g2, o2, none⟩) 2 Cy) ∧ (w'.cell? ⟨g2, o2 + 1, none⟩ = some (.int .u64 p.n) ∧ w'.cell? ⟨g2, o2 + 5 + 1, none⟩ = some (.int .u64 q.n))) := fun w' h =>
      ⟨HXb.out w' h, ⟨(HPb.out w' h).1, (HPb.out w' h).2.1⟩, HYb.out w' h, HPq.out w' h⟩
     have hzl : ((tl.take (k - 1)).map crG).length ≤ 200000 := by
      simp only [List.length_map, List.length_take]
      have := HLen.out
      omega
     obtain ⟨zs, hzs⟩ : ∃ zs, zs = (tl.take (k - 1)).map crG := ⟨_, rfl⟩
     rw [← hzs] at HOwn HPb HELD hzl
     have HZs := h_ hzs
     obtain ⟨z, hz⟩ : ∃ z : Cr, z = (UInt32.ofNat p.n.toNat, q.n == 1) := ⟨_, rfl⟩
     have hz1 : (UInt32.ofNat p.n.toNat).toNat = z.1.toNat := by rw [hz]
     have hz2 : (q.n == 1) = z.2 := by rw [hz]
     rw [hz1] at hwrap
     have HZz : Hid (crG y = z) := by rw [hz]; exact HZ.out
     have HWr : Hid (Below W.heap.size W wr) := HI.out.1
     clear hall hown hzs hz hz1 v0 v1 v2 HZ HI
     have hn1 : (4294967295 < p.n) = False := by simp; omega
     have F : Below (W.heap.size + 1) wr w1 := HF1.out
     have hP1 : W.heap.size + 1 ≤ w1.heap.size := Nat.le_trans hPl HB1.out.size
     obtain ⟨v0, v1, v2⟩ := HPb.out w1 F
     go_wp2_with fail
     clear x4 y4 z1 z2 v0 v1 v2
     refine wp_region_T (fun w' => w'.cell? ⟨w.heap.size, 4, none⟩ = some (.slice (some ⟨g, o, none⟩) x.l.length C) ∧ (w'.cell? ⟨W.heap.size, 0, none⟩ = some (.bool gb) ∧ w'.cell? ⟨W.heap.size, 1, none⟩ = some (.slice A5 zs.length C5)) ∧ w'.cell? ⟨g, o + k * 5 + 4, none⟩ = some (.slice (some ⟨g2, o2, none⟩) 2 Cy) ∧ (w'.cell? ⟨g2, o2 + 1, none⟩ = some (.int .u64 p.n) ∧ w'.cell? ⟨g2, o2 + 5 + 1, none⟩ = some (.int .u64 q.n))) 25 (by kernel_rfl) ?_
     refine wpAnyT_take (i := 0) (v := ?_) rfl (by kernel_rfl) (by kernel_rfl) (by kernel_rfl) (by kernel_rfl) (fun _ _ _ h => h) (Or.inl ⟨by rfl, ?_⟩) (HELD.out _ F.drew) ?_
     rotate_left
     ·intro w hSw; (try dsimp only at hSw); go_simp; all_goals with_reducible rfl
     simp only [Act.put, zA, zB, zC]
     refine wpAnyT_take (i := 1) (v := ?_) rfl (by kernel_rfl) (by kernel_rfl) (by kernel_rfl) (by kernel_rfl) (fun _ _ _ h => h) (Or.inl ⟨by rfl, ?_⟩) (HELD.out _ F.drew) ?_
     rotate_left
     ·intro w hSw; (try dsimp only at hSw); go_simp; all_goals with_reducible rfl
     simp only [Act.put, zA, zB, zC]
     refine wpAnyT_take (i := 2) (v := ?_) rfl (by kernel_rfl) (by kernel_rfl) (by kernel_rfl) (by kernel_rfl) (fun _ _ _ h => h) (Or.inl ⟨by rfl, ?_⟩) (HELD.out _ F.drew) ?_
     rotate_left
     ·intro w hSw; (try dsimp only at hSw); go_simp; all_goals with_reducible rfl
     simp only [Act.put, zA, zB, zC]
     refine wpAnyT_take (i := 3) (v := ?_) rfl (by kernel_rfl) (by kernel_rfl) (by kernel_rfl) (by kernel_rfl) (fun _ _ _ h => h) (Or.inl ⟨by rfl, ?_⟩) (HELD.out _ F.drew) ?_
     rotate_left
     ·intro w hSw; (try dsimp only at hSw); go_simp; all_goals with_reducible rfl
     simp only [Act.put, zA, zB, zC]
     refine wpAnyT_take (i := 4) (v := ?_) rfl (by kernel_rfl) (by kernel_rfl) (by kernel_rfl) (by kernel_rfl) (fun _ _ _ h => h) (Or.inl ⟨by rfl, ?_⟩) (HELD.out _ F.drew) ?_
     rotate_left
     ·intro w hSw; (try dsimp only at hSw); go_simp; all_goals with_reducible rfl
     simp only [Act.put, zA, zB, zC]
     refine wpAnyT_take (i := 5) (v := ?_) rfl (by kernel_rfl) (by kernel_rfl) (by kernel_rfl) (by kernel_rfl) (fun _ _ _ h => h) (Or.inl ⟨by rfl, ?_⟩) (HELD.out _ F.drew) ?_
     rotate_left
     ·intro w hSw; (try dsimp only at hSw); go_simp; all_goals with_reducible rfl
     simp only [Act.put, zA, zB, zC]
     refine wpAnyT_take (i := 6) (v := ?_) rfl (by kernel_rfl) (by kernel_rfl) (by kernel_rfl) (by kernel_rfl) (fun _ _ _ h => h) (Or.inl ⟨by rfl, ?_⟩) (HELD.out _ F.drew) ?_
     rotate_left
     ·intro w hSw; (try dsimp only at hSw); go_simp; all_goals with_reducible rfl
     simp only [Act.put, zA, zB, zC]
     refine wpAnyT_take (i := 7) (v := ?_) rfl (by kernel_rfl) (by kernel_rfl) (by kernel_rfl) (by kernel_rfl) (fun _ _ _ h => h) (Or.inl ⟨by rfl, ?_⟩) (HELD.out _ F.drew) ?_
     rotate_left
     ·intro w hSw; (try dsimp only at hSw); go_simp; all_goals with_reducible rfl
     simp only [Act.put, zA, zB, zC]
     refine wpAnyT_take (i := 8) (v := ?_) rfl (by kernel_rfl) (by kernel_rfl) (by kernel_rfl) (by kernel_rfl) (fun _ _ _ h => h) (Or.inl ⟨by rfl, ?_⟩) (HELD.out _ F.drew) ?_
     rotate_left
     ·intro w hSw; (try dsimp only at hSw); go_simp; all_goals with_reducible rfl
     simp only [Act.put, zA, zB, zC]
     refine wpAnyT_take (i := 9) (v := ?_) rfl (by kernel_rfl) (by kernel_rfl) (by kernel_rfl) (by kernel_rfl) (fun _ _ _ h => h) (Or.inl ⟨by rfl, ?_⟩) (HELD.out _ F.drew) ?_
     rotate_left
     ·intro w hSw; (try dsimp only at hSw); go_simp; all_goals with_reducible rfl
     simp only [Act.put, zA, zB, zC]
     refine wpAnyT_take (i := 10) (v := ?_) rfl (by kernel_rfl) (by kernel_rfl) (by kernel_rfl) (by kernel_rfl) (fun _ _ _ h => h) (Or.inl ⟨by rfl, ?_⟩) (HELD.out _ F.drew) ?_
     rotate_left
     ·intro w hSw; (try dsimp only at hSw); go_simp; all_goals with_reducible rfl
     simp only [Act.put, zA, zB, zC]
     refine wpAnyT_take (i := 11) (v := ?_) rfl (by kernel_rfl) (by kernel_rfl) (by kernel_rfl) (by kernel_rfl) (fun _ _ _ h => h) (Or.inl ⟨by rfl, ?_⟩) (HELD.out _ F.drew) ?_
     rotate_left
     ·intro w hSw; (try dsimp only at hSw); go_simp; all_goals with_reducible rfl
     simp only [Act.put, zA, zB, zC]
     refine wpAnyT_take (i := 12) (v := ?_) rfl (by kernel_rfl) (by kernel_rfl) (by kernel_rfl) (by kernel_rfl) (fun _ _ _ h => h) (Or.inl ⟨by rfl, ?_⟩) (HELD.out _ F.drew) ?_
     rotate_left
     ·intro w hSw; (try dsimp only at hSw); go_simp; all_goals with_reducible rfl
     simp only [Act.put, zA, zB, zC]
     refine wpAnyT_take (i := 13) (v := ?_) rfl (by kernel_rfl) (by kernel_rfl) (by kernel_rfl) (by kernel_rfl) (fun _ _ _ h => h) (Or.inl ⟨by rfl, ?_⟩) (HELD.out _ F.drew) ?_
     rotate_left
     ·intro w hSw; (try dsimp only at hSw); go_simp; all_goals with_reducible rfl
     simp only [Act.put, zA, zB, zC]
     refine wpAnyT_take (i := 14) (v := ?_) rfl (by kernel_rfl) (by kernel_rfl) (by kernel_rfl) (by kernel_rfl) (fun _ _ _ h => h) (Or.inl ⟨by rfl, ?_⟩) (HELD.out _ F.drew) ?_
     rotate_left
     ·intro w hSw; (try dsimp only at hSw); go_simp; all_goals with_reducible rfl
     simp only [Act.put, zA, zB, zC]
     refine wpAnyT_take (i := 15) (v := ?_) rfl (by kernel_rfl) (by kernel_rfl) (by kernel_rfl) (by kernel_rfl) (fun _ _ _ h => h) (Or.inl ⟨by rfl, ?_⟩) (HELD.out _ F.drew) ?_
     rotate_left
     ·intro w hSw; (try dsimp only at hSw); go_simp; all_goals with_reducible rfl
     simp only [Act.put, zA, zB, zC]
     refine wpAnyT_take (i := 16) (v := ?_) rfl (by kernel_rfl) (by kernel_rfl) (by kernel_rfl) (by kernel_rfl) (fun _ _ _ h => h) (Or.inl ⟨by rfl, ?_⟩) (HELD.out _ F.drew) ?_
     rotate_left
     ·intro w hSw; (try dsimp only at hSw); go_simp; all_goals with_reducible rfl
     simp only [Act.put, zA, zB, zC]
     refine wpAnyT_take (i := 17) (v := ?_) rfl (by kernel_rfl) (by kernel_rfl) (by kernel_rfl) (by kernel_rfl) (fun _ _ _ h => h) (Or.inl ⟨by rfl, ?_⟩) (HELD.out _ F.drew) ?_
     rotate_left
     ·intro w hSw; (try dsimp only at hSw); go_simp; all_goals with_reducible rfl
     simp only [Act.put, zA, zB, zC]
     refine wpAnyT_take (i := 18) (v := ?_) rfl (by kernel_rfl) (by kernel_rfl) (by kernel_rfl) (by kernel_rfl) (fun _ _ _ h => h) (Or.inl ⟨by rfl, ?_⟩) (HELD.out _ F.drew) ?_
     rotate_left
     ·intro w hSw; (try dsimp only at hSw); go_simp; all_goals with_reducible rfl
     simp only [Act.put, zA, zB, zC]
     refine wpAnyT_take (i := 19) (v := ?_) rfl (by kernel_rfl) (by kernel_rfl) (by kernel_rfl) (by kernel_rfl) (fun _ _ _ h => h) (Or.inl ⟨by rfl, ?_⟩) (HELD.out _ F.drew) ?_
     rotate_left
     ·intro w hSw; (try dsimp only at hSw); go_simp; all_goals with_reducible rfl
     simp only [Act.put, zA, zB, zC]
     refine wpAnyT_take (i := 20) (v := ?_) rfl (by kernel_rfl) (by kernel_rfl) (by kernel_rfl) (by kernel_rfl) (fun _ _ _ h => h) (Or.inl ⟨by rfl, ?_⟩) (HELD.out _ F.drew) ?_
     rotate_left
     ·intro w hSw; (try dsimp only at hSw); go_simp; all_goals with_reducible rfl
     simp only [Act.put, zA, zB, zC]
     refine wpAnyT_take (i := 21) (v := ?_) rfl (by kernel_rfl) (by kernel_rfl) (by kernel_rfl) (by kernel_rfl) (fun _ _ _ h => h) (Or.inl ⟨by rfl, ?_⟩) (HELD.out _ F.drew) ?_
     rotate_left
     ·intro w hSw; (try dsimp only at hSw); go_simp; all_goals with_reducible rfl
     simp only [Act.put, zA, zB, zC]
     refine wpAnyT_take (i := 22) (v := ?_) rfl (by kernel_rfl) (by kernel_rfl) (by kernel_rfl) (by kernel_rfl) (fun _ _ _ h => h) (Or.inl ⟨by rfl, ?_⟩) (HELD.out _ F.drew) ?_
     rotate_left
     ·intro w hSw; (try dsimp only at hSw); go_simp; all_goals with_reducible rfl
     simp only [Act.put, zA, zB, zC]
     refine wpAnyT_one (i := 23) (by kernel_rfl) rfl (fun K hK => ?_)
     go_simp
     refine hK.out _ _ (fun _ => (HELD.out _ ((F.alloc hP1 (.cells #[.int .u32 z.1.toNat, .bool z.2] 138)).drew))) ?_
     clear hK K
     try simp only [Act.put, zA, zB, zC]
     refine wpAnyT_one (i := 24) (by kernel_rfl) rfl (fun K hK => ?_)
     obtain ⟨v', w4, hrun, hown4, hgr, _⟩ := appX2 (w1.alloc (.cells #[.int .u32 z.1.toNat, .bool z.2] 138)).drew (W.heap.size + 1) (.slice A5 zs.length C5) zs ((ptOwn_below HOwn.out HB1.out).alloc _) (Nat.le_trans hP1 (Nat.le_of_lt (by simp [World.drew]))) (some ⟨w1.heap.size, 0, none⟩) 1 (w1.alloc (.cells #[.int .u32 z.1.toNat, .bool z.2] 138)).drew.heap.size [z] (rd_new w1 z) (by simp; omega)
     obtain ⟨A6, n6, C6, rfl⟩ : ∃ A6 n6 C6, v' = .slice A6 n6 C6 := by
      obtain ⟨A6, C6, e, _⟩ := own_rd hown4
      exact ⟨A6, _, C6, e⟩
     have hbl : ∀ r, (Value.slice A5 zs.length C5).ownBlock = some r → W.heap.size + 1 ≤ r := fun r e => (World.ownsRow.lt HOwn.out r e).1
     replace F := ((F.alloc hP1 (.cells #[.int .u32 z.1.toNat, .bool z.2] 138)).drew).grown hgr (Nat.le_trans hP1 (Nat.le_of_lt (by simp [World.drew]))) hbl
     have HRun := h_ hrun
     have HOwn4 := h_ hown4
     clear hrun hown4 hgr hbl
     refine step_runX (by rfl) _ _ _ _ (by rfl) _ _ _ _ (by rfl) (by rfl) HRun.out ?_
     refine hK.out _ _ (fun _ => (HELD.out _ F)) ?_
     clear hK K
     try simp only [Act.put, zA, zB, zC]
     refine wpAnyT_one (i := 25) (by kernel_rfl) rfl (fun K hK => ?_)
     go_simp
     refine hK.out _ _ (fun h => absurd h (by decide)) ?_
     clear hK K
     try simp only [Act.put, zA, zB, zC]
     refine wpAnyT_one (i := 26) (by kernel_rfl) rfl (fun K hK => ?_)
     obtain ⟨u0, u1, u2⟩ := HPb.out w4 F
     go_simp
     refine hK.out _ _ (fun h => absurd h (by decide)) ?_
     clear hK K
     try simp only [Act.put, zA, zB, zC]
     refine wpAnyT_done (by kernel_rfl) ?_ _
     go_wp2_with fail
     go_roundw
     case rel =>
      refine ⟨k + 1, by omega, by omega, by go_num, ?_⟩
      obtain ⟨u0, u1, u2⟩ := HPb.out w4 F
      have e1 : tl.take (k + 1 - 1) = tl.take (k - 1) ++ [y] := by
       obtain ⟨j, rfl⟩ : ∃ j, k = j + 1 := ⟨k - 1, by omega⟩
       have h := HTk.out
       simp only [Nat.add_sub_cancel] at h ⊢
       rw [List.take_add_one, h]
       rfl
      have e2 : (tl.take (k + 1 - 1)).map crG = zs ++ [z] := by rw [e1, List.map_append, ← HZs.out, List.map_cons, List.map_nil, HZz.out]
      unfold RfI
      rw [e2]
      refine ⟨(HWr.out.trans (F.mono (Nat.le_succ _))).setCell (Nat.le_refl _) _, .slice A6 n6 C6, ⟨?_, World.cell?_setCell_same _ _ _ u1, ?_⟩, ownsRow_setCell_below HOwn4.out (by simp) _, fun i y' hi hy' => ?_⟩
      ·rw [World.cell?_setCell_other _ _ _ _ (by simp)]
       exact u0
      ·rw [World.frozen?_setCell]
       exact u2
      ·by_cases hik : i < k - 1
       ·exact HAll.out i y' hik hy'
       ·obtain rfl : i = k - 1 := by omega
        rw [HTk.out] at hy'
        injection hy' with hy'
        subst hy'
        refine ⟨HShy.out.1, fun p' q' h => ?_⟩
        rw [HShy.out.2] at h
        injection h with h1 _
        rw [← h1]
        omega
     case measure => simp [intOf]; omega
  ·have hke : k - 1 = tl.length := by omega
   have hkI : ¬ (k : Int) < (x.l.length : Int) := by have := HLen.out; omega
   have hi := HI.out
   unfold RfI at hi
   rw [hke, List.take_length] at hi
   obtain ⟨hW1, v, ⟨v0, v1, v2⟩, hown, hall⟩ := hi
   obtain ⟨A5, C5, rfl, hC5, hrd, hg5⟩ := own_rd hown
   obtain ⟨zs, hzs⟩ : ∃ zs, zs = tl.map crG := ⟨_, rfl⟩
   rw [← hzs] at hC5 hrd hg5 v1
   have HWr := h_ hW1
   have HRd := h_ hrd
   have HG5 := h_ hg5
   have HZs := h_ hzs
   have hPl := World.block_lt_of_cell? _ _ v0
   have hzl : zs.length ≤ 200000 := by
    rw [hzs, List.length_map]
    have := HLen.out
    omega
   have HPc : Hid (∀ w', Below wr.heap.size wr w' → (w'.cell? ⟨W.heap.size, 0, none⟩ = some (.bool gb) ∧ w'.cell? ⟨W.heap.size, 1, none⟩ = some (.slice A5 zs.length C5))) := fun w' h => ⟨(h.cell (p := ⟨W.heap.size, 0, none⟩) hPl).trans v0, (h.cell (p := ⟨W.heap.size, 1, none⟩) hPl).trans v1⟩
   have HELD : Hid (∀ w', Below wr.heap.size wr w' → (w'.cell? ⟨w.heap.size, 0, none⟩ = some (.int .i64 x.k) ∧ w'.cell? ⟨w.heap.size, 1, none⟩ = some (.int .u64 x.n) ∧ w'.cell? ⟨w.heap.size, 2, none⟩ = some (.slice a x.b.length c) ∧ w'.cell? ⟨w.heap.size, 3, none⟩ = some (.string ⟨x.s.toArray⟩) ∧ w'.cell? ⟨w.heap.size, 4, none⟩ = some (.slice (some ⟨g, o, none⟩) x.l.length C)) ∧ (w'.cell? ⟨W.heap.size, 0, none⟩ = some (.bool gb) ∧ w'.cell? ⟨W.heap.size, 1, none⟩ = some (.slice A5 zs.length C5))) := fun w' h => ⟨(HX.out w' (HWr.out.trans (h.mono HWr.out.size))).1, HPc.out w' h⟩
   have HVx : Hid (∀ w', Below wr.heap.size wr w' → ItV w' w'.heap.size (.agg #[.int .i64 x.k, .int .u64 x.n, .slice a x.b.length c, .string ⟨x.s.toArray⟩, .slice (some ⟨g, o, none⟩) x.l.length C]) x) := fun w' h => HV.out w' (HWr.out.trans (h.mono HWr.out.size))
   have HRr : Hid (∀ w', Below wr.heap.size wr w' → Calls Tryz.prog 36 #[.agg #[.bool gb, .slice A5 zs.length C5]] w' fun e w'' => e = .returned (.bool (rightX zs)) ∧ Below w'.heap.size w' w'') := fun w' h => ptRefRight_any gb A5 C5 zs w' (by omega) hC5 (HRd.out.on h)
   have HRi : Hid (∀ w', Below wr.heap.size wr w' → Calls Tryz.prog 42 #[.agg #[.bool gb, .slice A5 zs.length C5]] w' fun e w'' => Below w'.heap.size w' w'' ∧ ∃ v, e = .returned v ∧ ItV w'' w''.heap.size v (itP gb zs)) := fun w' h => by
    refine (refPItem_any gb A5 C5 zs w' (by omega) (HRd.out.on h)).mono ?_
    rintro e w'' ⟨hb, v, rfl, hv⟩
    exact ⟨hb, v, rfl, hv.new_itV⟩
   have HC5 := h_ hC5
   obtain ⟨r, hr⟩ : ∃ r, r = rightX zs := ⟨_, rfl⟩
   rw [← hr] at HRr
   clear hW1 hown hall hrd hg5 hzs hC5 v0 v1 v2 HI hke x0 x1 x2 x3 x4 b0 b1 f0 f1
   obtain ⟨⟨x0, x1, x2, x3, x4⟩, v0, v1⟩ := HELD.out wr bR
   cases r
   ·have HNo : Hid (isP x = false) := no_path fun b zs' h1 h2 => by
      have h3 := (head_path h2 HLl.out).2.2
      rw [← HZs.out] at h3
      rw [h3, h1] at hr
      cases hr
    clear hr
    go_wp2_with fail
    have F : Below wr.heap.size wr wr.drew := bR.drew
    clear x0 x1 x2 x3 x4 v0 v1
    refine wp_region_held_drew (S := fun w' => (w'.cell? ⟨w.heap.size, 0, none⟩ = some (.int .i64 x.k) ∧ w'.cell? ⟨w.heap.size, 1, none⟩ = some (.int .u64 x.n) ∧ w'.cell? ⟨w.heap.size, 2, none⟩ = some (.slice a x.b.length c) ∧ w'.cell? ⟨w.heap.size, 3, none⟩ = some (.string ⟨x.s.toArray⟩) ∧ w'.cell? ⟨w.heap.size, 4, none⟩ = some (.slice (some ⟨g, o, none⟩) x.l.length C)) ∧ (w'.cell? ⟨W.heap.size, 0, none⟩ = some (.bool gb) ∧ w'.cell? ⟨W.heap.size, 1, none⟩ = some (.slice A5 zs.length C5))) (by kernel_rfl) (HELD.out _ F) (fun hHeld => ?_)
    refine takeL 0 (v := ?_) ?_ ‹_› ?_
    rotate_left
    ·intro w hSw; (try dsimp only at hSw); go_simp; all_goals with_reducible rfl
    simp only [Act.put, zA, zB, zC]
    refine wpAnyH_ready (rs := [1]) (by kernel_rfl) (by simp) (.cons rfl (fun K hK => ?_) .nil)
    go_simp
    refine (HRr.out _ F).mono ?_
    rintro e wz ⟨rfl, hb⟩
    replace F := below_on F hb
    clear hb
    refine hK.out _ _ (HELD.out _ F) (fun hHeld => ?_)
    clear hK K
    try simp only [Act.put, zA, zB, zC]
    refine takeL 2 (v := ?_) ?_ ‹_› ?_
    rotate_left
    ·intro w hSw; (try dsimp only at hSw); go_simp; all_goals with_reducible rfl
    simp only [Act.put, zA, zB, zC]
    refine takeL 3 (v := ?_) ?_ ‹_› ?_
    rotate_left
    ·intro w hSw; (try dsimp only at hSw); go_simp; all_goals with_reducible rfl
    simp only [Act.put, zA, zB, zC]
    refine take_listed (i := 4) (v := undef) rfl (by kernel_rfl) (by kernel_rfl) (by kernel_rfl) (fun _ _ _ h => h) (Or.inr ⟨by rfl, rfl⟩) (by assumption) ?_
    simp only [Act.put, zA, zB, zC]
    refine take_listed (i := 5) (v := undef) rfl (by kernel_rfl) (by kernel_rfl) (by kernel_rfl) (fun _ _ _ h => h) (Or.inr ⟨by rfl, rfl⟩) (by assumption) ?_
    simp only [Act.put, zA, zB, zC]
    refine take_listed (i := 6) (v := undef) rfl (by kernel_rfl) (by kernel_rfl) (by kernel_rfl) (fun _ _ _ h => h) (Or.inr ⟨by rfl, rfl⟩) (by assumption) ?_
    simp only [Act.put, zA, zB, zC]
    refine take_listed (i := 7) (v := undef) rfl (by kernel_rfl) (by kernel_rfl) (by kernel_rfl) (fun _ _ _ h => h) (Or.inr ⟨by rfl, rfl⟩) (by assumption) ?_
    simp only [Act.put, zA, zB, zC]
    refine take_listed (i := 8) (v := undef) rfl (by kernel_rfl) (by kernel_rfl) (by kernel_rfl) (fun _ _ _ h => h) (Or.inr ⟨by rfl, rfl⟩) (by assumption) ?_
    simp only [Act.put, zA, zB, zC]
    refine takeL 9 (v := ?_) ?_ ‹_› ?_
    rotate_left
    ·intro w hSw; (try dsimp only at hSw); go_simp; all_goals with_reducible rfl
    simp only [Act.put, zA, zB, zC]
    clear hHeld
    refine wpAnyH_done (by kernel_rfl) ?_ _
    have HF := h_ F
    clear F
    obtain ⟨_, b0, b1, f0, f1⟩ := HX.out _ (HWr.out.trans (HF.out.mono HWr.out.size))
    have HBz : Hid (Below W.heap.size W _) := (HWr.out.trans (HF.out.mono HWr.out.size))
    go_wp2_with fail
    have s2 := set2_cells b0 b1 (.bool false) (.slice none 0 0)
    refine bodyPost_ret (v := .tuple #[.agg #[.bool false, .slice none 0 0], .bool false]) (by obtain ⟨s2, s3⟩ := s2; simp [results, Tryz.results49, go_sem, s2, s3]) rfl ⟨?_, .inr ⟨HNo.out, rfl⟩⟩
    exact HB0.out.trans (((HBz.out.mono HB0.out.size).setCell (by simp) _).setCell (by simp) _)
   ·have HRx : Hid (rightX zs = true) := hr.symm
    clear hr
    obtain ⟨s, hs⟩ : ∃ s, s = x.same (itP gb zs) := ⟨_, rfl⟩
    have HSm : Hid (∀ w' v, Below wr.heap.size wr w' → ItV w' w'.heap.size v (itP gb zs) → Calls Tryz.prog 91 #[.agg #[.int .i64 x.k, .int .u64 x.n, .slice a x.b.length c, .string ⟨x.s.toArray⟩, .slice (some ⟨g, o, none⟩) x.l.length C], v] w' fun e w'' => e = .returned (.bool s) ∧ Below w'.heap.size w' w'') := fun w' v h hv => by
     rw [hs]
     exact refSame_any x (itP gb zs) _ v w' (HVx.out w' h) hv
    have HSs := h_ hs
    clear hs
    go_wp2_with fail
    have F : Below wr.heap.size wr wr.drew := bR.drew
    clear x0 x1 x2 x3 x4 v0 v1
    refine wp_region_held_drew (S := fun w' => (w'.cell? ⟨w.heap.size, 0, none⟩ = some (.int .i64 x.k) ∧ w'.cell? ⟨w.heap.size, 1, none⟩ = some (.int .u64 x.n) ∧ w'.cell? ⟨w.heap.size, 2, none⟩ = some (.slice a x.b.length c) ∧ w'.cell? ⟨w.heap.size, 3, none⟩ = some (.string ⟨x.s.toArray⟩) ∧ w'.cell? ⟨w.heap.size, 4, none⟩ = some (.slice (some ⟨g, o, none⟩) x.l.length C)) ∧ (w'.cell? ⟨W.heap.size, 0, none⟩ = some (.bool gb) ∧ w'.cell? ⟨W.heap.size, 1, none⟩ = some (.slice A5 zs.length C5))) (by kernel_rfl) (HELD.out _ F) (fun hHeld => ?_)
    refine takeL 0 (v := ?_) ?_ ‹_› ?_
    rotate_left
    ·intro w hSw; (try dsimp only at hSw); go_simp; all_goals with_reducible rfl
    simp only [Act.put, zA, zB, zC]
    refine wpAnyH_ready (rs := [1]) (by kernel_rfl) (by simp) (.cons rfl (fun K hK => ?_) .nil)
    go_simp
    refine (HRr.out _ F).mono ?_
    rintro e wz ⟨rfl, hb⟩
    replace F := below_on F hb
    clear hb
    refine hK.out _ _ (HELD.out _ F) (fun hHeld => ?_)
    clear hK K
    try simp only [Act.put, zA, zB, zC]
    refine takeL 2 (v := ?_) ?_ ‹_› ?_
    rotate_left
    ·intro w hSw; (try dsimp only at hSw); go_simp; all_goals with_reducible rfl
    simp only [Act.put, zA, zB, zC]
    refine takeL 3 (v := ?_) ?_ ‹_› ?_
    rotate_left
    ·intro w hSw; (try dsimp only at hSw); go_simp; all_goals with_reducible rfl
    simp only [Act.put, zA, zB, zC]
    refine takeL 4 (v := ?_) ?_ ‹_› ?_
    rotate_left
    ·intro w hSw; (try dsimp only at hSw); go_simp; all_goals with_reducible rfl
    simp only [Act.put, zA, zB, zC]
    refine takeL 5 (v := ?_) ?_ ‹_› ?_
    rotate_left
    ·intro w hSw; (try dsimp only at hSw); go_simp; all_goals with_reducible rfl
    simp only [Act.put, zA, zB, zC]
    refine wpAnyH_ready (rs := [6]) (by kernel_rfl) (by simp) (.cons rfl (fun K hK => ?_) .nil)
    go_simp
    refine (HRi.out _ F).mono ?_
    rintro e wz ⟨hb, v, rfl, hv⟩
    replace F := below_on F hb
    clear hb
    obtain ⟨a6, c6, A6, C6, rfl⟩ := hv.form
    refine hK.out _ _ (HELD.out _ F) (fun hHeld => ?_)
    clear hK K
    try simp only [Act.put, zA, zB, zC]
    refine wpAnyH_ready (rs := [7]) (by kernel_rfl) (by simp) (.cons rfl (fun K hK => ?_) .nil)
    go_simp
    refine (HSm.out _ _ F hv).mono ?_
    rintro e wz ⟨rfl, hb⟩
    replace F := below_on F hb
    clear hb
    refine hK.out _ _ (HELD.out _ F) (fun hHeld => ?_)
    clear hK K
    try simp only [Act.put, zA, zB, zC]
    refine takeL 8 (v := ?_) ?_ ‹_› ?_
    rotate_left
    ·intro w hSw; (try dsimp only at hSw); go_simp; all_goals with_reducible rfl
    simp only [Act.put, zA, zB, zC]
    refine takeL 9 (v := ?_) ?_ ‹_› ?_
    rotate_left
    ·intro w hSw; (try dsimp only at hSw); go_simp; all_goals with_reducible rfl
    simp only [Act.put, zA, zB, zC]
    clear hHeld
    refine wpAnyH_done (by kernel_rfl) ?_ _
    have HF := h_ F
    clear F hv
    cases s
    ·have HNo : Hid (isP x = false) := no_path fun b zs' h1 h2 => by
       obtain ⟨h3, _, h4⟩ := head_path h2 HLl.out
       have h5 := HSs.out
       rw [HZs.out, h4, HGb.out, h3, ← h2, same_self] at h5
       cases h5
     obtain ⟨_, b0, b1, f0, f1⟩ := HX.out _ (HWr.out.trans (HF.out.mono HWr.out.size))
     have HBz : Hid (Below W.heap.size W _) := (HWr.out.trans (HF.out.mono HWr.out.size))
     go_wp2_with fail
     have s2 := set2_cells b0 b1 (.bool false) (.slice none 0 0)
     refine bodyPost_ret (v := .tuple #[.agg #[.bool false, .slice none 0 0], .bool false]) (by obtain ⟨s2, s3⟩ := s2; simp [results, Tryz.results49, go_sem, s2, s3]) rfl ⟨?_, .inr ⟨HNo.out, rfl⟩⟩
     exact HB0.out.trans (((HBz.out.mono HB0.out.size).setCell (by simp) _).setCell (by simp) _)
    ·have hxe : x = itP gb zs := (It.same_iff _ _).1 HSs.out.symm
     have HXe := h_ hxe
     clear hxe
     obtain ⟨_, b0, b1, f0, f1⟩ := HX.out _ (HWr.out.trans (HF.out.mono HWr.out.size))
     obtain ⟨_, v0, v1⟩ := HELD.out _ HF.out
     have HBz : Hid (Below W.heap.size W _) := HWr.out.trans (HF.out.mono HWr.out.size)
     have HRz : Hid (RdX _ _ A5 zs) := HRd.out.on HF.out
     go_wp2_with fail
     have s2 := set2_cells b0 b1 (.bool gb) (.slice A5 zs.length C5)
     refine bodyPost_ret (v := .tuple #[.agg #[.bool gb, .slice A5 zs.length C5], .bool true]) (by obtain ⟨s2, s3⟩ := s2; simp [results, Tryz.results49, go_sem, s2, s3]) rfl ⟨?_, .inl ⟨gb, zs, HRx.out, HXe.out, A5, C5, rfl, HC5.out, ?_, ?_⟩⟩
     ·exact HB0.out.trans (((HBz.out.mono HB0.out.size).setCell (by simp) _).setCell (by simp) _)
     ·rcases HG5.out with h | ⟨g5, rfl, _, hg5⟩
      ·exact .inl h
      ·rcases HRz.out with h | ⟨b, o', e, hlt', hc⟩
       ·exact .inl h
       ·cases e
        have hne : g5 ≠ w.heap.size + 1 := by have := HWs.out; omega
        refine .inr ⟨g5, 0, rfl, by rw [World.size_setCell, World.size_setCell]; exact hlt', fun j hj => ?_⟩
        exact ((hc j hj).kept (Below.heap_setCell _ _ _ _ hne)).kept (Below.heap_setCell _ _ _ _ hne)
     ·exact HG5.out.imp id fun ⟨g5, e, _, h⟩ => ⟨g5, e, by have := HB0.out.size; omega⟩

end Go.Proofs.YtiahakbkagipkaaGreatDoor
