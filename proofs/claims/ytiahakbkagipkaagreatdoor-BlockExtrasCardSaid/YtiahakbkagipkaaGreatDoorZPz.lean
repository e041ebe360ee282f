/- Joined texts. -/
import Derived.Test.YtiahakbkagipkaaGreatDoorZBt
import Derived.Test.YtiahakbkagipkaaGreatDoorZBk
import Derived.Test.YtiahakbkagipkaaGreatDoorZBx
import Derived.Test.YtiahakbkagipkaaGreatDoorZBu
import Derived.Deep.CutRange
import Derived.Deep.RegionHeld3
import Derived.Test.YtiahakbkagipkaaGreatDoorZNz
set_option maxHeartbeats 8000000
set_option linter.unusedSimpArgs false
set_option linter.unusedVariables false
set_option maxRecDepth 100000
namespace Go.Proofs.YtiahakbkagipkaaGreatDoor
open Go Go.RowKit Go.Shelf

theorem prUint_any (n : Int) (w : World) : Calls Tryz.prog 40 #[.int .u64 n] w fun e w' => e = .returned (.agg #[.int .i64 1, .int .u64 n, .slice none 0 0, .string ⟨#[]⟩, .slice none 0 0]) ∧ Below w.heap.size w w' := by
 go_enter Tryz.func40, Tryz.ntmps40
 go_wp2
 exact bodyPost_ret (v := .agg #[.int .i64 1, .int .u64 n, .slice none 0 0, .string ⟨#[]⟩, .slice none 0 0]) (by simp [results, Tryz.results40, go_sem]) rfl ⟨rfl, below_al bR _⟩

theorem prList_any (a : Option Addr) (n c : Nat) (w : World) : Calls Tryz.prog 41 #[.slice a n c] w fun e w' => e = .returned (.agg #[.int .i64 4, .int .u64 0, .slice none 0 0, .string ⟨#[]⟩, .slice a n c]) ∧ Below w.heap.size w w' := by
 go_enter Tryz.func41, Tryz.ntmps41
 go_wp2
 exact bodyPost_ret (v := .agg #[.int .i64 4, .int .u64 0, .slice none 0 0, .string ⟨#[]⟩, .slice a n c]) (by simp [results, Tryz.results41, go_sem]) rfl ⟨rfl, below_al bR _⟩

theorem prBool_any (q : Bool) (w : World) : Calls Tryz.prog 82 #[.bool q] w fun e w' => e = .returned (.agg #[.int .i64 5, .int .u64 (bN q), .slice none 0 0, .string ⟨#[]⟩, .slice none 0 0]) ∧ Below w.heap.size w w' := by
 cases q
 ·go_enter Tryz.func82, Tryz.ntmps82
  go_wp2
  exact bodyPost_ret (v := .agg #[.int .i64 5, .int .u64 0, .slice none 0 0, .string ⟨#[]⟩, .slice none 0 0]) (by simp [results, Tryz.results82, go_sem]) rfl ⟨rfl, by first | exact below_al bR _ | exact below_al (below_al bR _) _⟩
 ·go_enter Tryz.func82, Tryz.ntmps82
  go_wp2
  exact bodyPost_ret (v := .agg #[.int .i64 5, .int .u64 1, .slice none 0 0, .string ⟨#[]⟩, .slice none 0 0]) (by simp [results, Tryz.results82, go_sem]) rfl ⟨rfl, by first | exact below_al bR _ | exact below_al (below_al bR _) _⟩

theorem refPItem_any (bk : Bool) (a : Option Addr) (c : Nat) (xs : List Cr) (w : World) (hlen : xs.length ≤ 800000) (hr : RdX w w.heap.size a xs) :
  Calls Tryz.prog 42 #[.agg #[.bool bk, .slice a xs.length c]] w (NewP w (itP bk xs)) := by
 obtain ⟨W, hW⟩ : ∃ W, W = (w.alloc (.cells #[.bool bk, .slice a xs.length c] 44)).alloc (.cells #[.int .i64 0, .int .u64 0, .slice none 0 0, .string ⟨#[]⟩, .slice none 0 0] 83) := ⟨_, rfl⟩
 have HB0 : Hid (Below w.heap.size w W) := by rw [hW]; exact below_al (below_al bR _) _
 have HX : Hid (∀ w', Below W.heap.size W w' → (w'.cell? ⟨w.heap.size, 0, none⟩ = some (.bool bk) ∧ w'.cell? ⟨w.heap.size, 1, none⟩ = some (.slice a xs.length c)) ∧ ∀ i, w'.cell? ⟨w.heap.size + 1, i, none⟩ = (#[Value.int .i64 0, .int .u64 0, .slice none 0 0, .string ⟨#[]⟩, .slice none 0 0])[i]? ∧ w'.frozen? ⟨w.heap.size + 1, i, none⟩ = false) := fun w' h => by
  rw [hW] at h
  have h1 := below_on (below_al (Below.refl _ (w.alloc (.cells #[.bool bk, .slice a xs.length c] 44))) (.cells #[.int .i64 0, .int .u64 0, .slice none 0 0, .string ⟨#[]⟩, .slice none 0 0] 83)) h
  refine ⟨⟨box_at h1 0, box_at h1 1⟩, fun i => ?_⟩
  have q2 := box_at h i
  have f2 := frozen_at h i
  rw [World.size_alloc] at q2 f2
  exact ⟨q2, f2⟩
 have hWs : w.heap.size + 1 + 1 = W.heap.size := by rw [hW]; simp
 have HR : Hid (RdX w w.heap.size a xs) := hr
 have HW := h_ hW
 have HWs := h_ hWs
 clear hr hW hWs
 obtain ⟨⟨x0, x1⟩, _⟩ := HX.out W bR
 go_enter Tryz.func42, Tryz.ntmps42
 go_wp2_with fail
 rw [← HW.out]
 refine (prBool_any _ _).mono ?_
 rintro e w2 ⟨rfl, hb2⟩
 have hlit := ListO.lit (x := itB bk) hb2 (itS_bool w2 (newB W w2) bk)
 have HLit := h_ hlit
 clear hlit hb2 x0 x1
 go_wp2_with fail
 go_loopw [3, 4] (fun v i wr => ∃ k : Nat, k ≤ xs.length ∧ i = .int .i64 k ∧ Hid (ListO W wr v (itB bk :: (xs.take k).map itX))) (fun _ i _ => xs.length - (intOf i).toNat)
 case atStart => exact ⟨0, Nat.zero_le _, rfl, HLit⟩
 case round =>
  obtain ⟨k, hk, rfl, HI⟩ := hrel
  obtain ⟨⟨x0, x1⟩, hbx⟩ := HX.out wr HI.out.1
  by_cases hlt : k < xs.length
  ·clear hbx
   obtain ⟨g, o, rfl, hg, hc0⟩ := HR.out.cells k hlt
   have e1 : itB bk :: (xs.take (k + 1)).map itX = (itB bk :: (xs.take k).map itX) ++ [itX (atX xs k)] := by
    rw [take_atX xs k hlt, List.map_append]
    rfl
   have hl : (itB bk :: (xs.take k).map itX).length ≤ 900000 := by simp; omega
   have HE := h_ e1
   have HC0 : Hid (∀ w', Below W.heap.size W w' → CellX w' g (o + k * 2) (atX xs k)) := fun w' h => hc0.kept ((HB0.out.trans (h.mono HB0.out.size)).block g hg)
   have hgl := gate_lt (atX xs k)
   clear e1 hc0
   generalize atX xs k = x at *
   have hcv : IntKind.u64.wrap (x.1.toNat : Int) = (x.1.toNat : Int) := by
    have := x.1.toNat_lt
    simp [IntKind.wrap, IntKind.signed, IntKind.bits]
    omega
   obtain ⟨l, hl2⟩ : ∃ l, l = itB bk :: (xs.take k).map itX := ⟨_, rfl⟩
   rw [← hl2] at HI HE hl
   clear hl2
   have HELD : Hid (∀ w', Below W.heap.size W w' → (w'.cell? ⟨w.heap.size, 0, none⟩ = some (.bool bk) ∧ w'.cell? ⟨w.heap.size, 1, none⟩ = some (.slice (some ⟨g, o, none⟩) xs.length c)) ∧ (w'.cell? ⟨g, o + k * 2, none⟩ = some (.int .u32 x.1.toNat) ∧ w'.cell? ⟨g, o + k * 2 + 1, none⟩ = some (.bool x.2))) := fun w' h => ⟨(HX.out w' h).1, HC0.out w' h⟩
   go_wp2_with fail
   have F : Below W.heap.size W wr.drew := HI.out.1.drew
   have G : Below wr.heap.size wr wr.drew := bR.drew
   clear x0 x1
   refine wp_region_held_drew (S := fun w' => (w'.cell? ⟨w.heap.size, 0, none⟩ = some (.bool bk) ∧ w'.cell? ⟨w.heap.size, 1, none⟩ = some (.slice (some ⟨g, o, none⟩) xs.length c)) ∧ (w'.cell? ⟨g, o + k * 2, none⟩ = some (.int .u32 x.1.toNat) ∧ w'.cell? ⟨g, o + k * 2 + 1, none⟩ = some (.bool x.2))) (by kernel_rfl) (HELD.out _ F) (fun hHeld => ?_)
   refine takeL 0 (v := ?_) ?_ ‹_› ?_
   rotate_left
   ·intro w hSw; (try dsimp only at hSw); go_simp; all_goals with_reducible rfl
   simp only [Act.put, zA, zB, zC]
   refine takeL 1 (v := ?_) ?_ ‹_› ?_
   rotate_left
   ·intro w hSw; (try dsimp only at hSw); go_simp; all_goals with_reducible rfl
   simp only [Act.put, zA, zB, zC]
   refine takeL 2 (v := ?_) ?_ ‹_› ?_
   rotate_left
   ·intro w hSw; (try dsimp only at hSw); go_simp; all_goals with_reducible rfl
   simp only [Act.put, zA, zB, zC]
   refine takeL 3 (v := ?_) ?_ ‹_› ?_
   rotate_left
   ·intro w hSw; (try dsimp only at hSw); go_simp; all_goals with_reducible rfl
   simp only [Act.put, zA, zB, zC]
   refine takeL 4 (v := ?_) ?_ ‹_› ?_
   rotate_left
   ·intro w hSw; (try dsimp only at hSw); go_simp; all_goals with_reducible rfl
   simp only [Act.put, zA, zB, zC]
   refine takeL 5 (v := ?_) ?_ ‹_› ?_
   rotate_left
   ·intro w hSw; (try dsimp only at hSw); go_simp; all_goals with_reducible rfl
   simp only [Act.put, zA, zB, zC]
   refine takeL 6 (v := ?_) ?_ ‹_› ?_
   rotate_left
   ·intro w hSw; (try dsimp only at hSw); go_simp; all_goals with_reducible rfl
   simp only [Act.put, zA, zB, zC]
   refine takeL 7 (v := ?_) ?_ ‹_› ?_
   rotate_left
   ·intro w hSw; (try dsimp only at hSw); go_simp; all_goals with_reducible rfl
   simp only [Act.put, zA, zB, zC]
   refine takeL 9 (v := ?_) ?_ ‹_› ?_
   rotate_left
   ·intro w hSw; (try dsimp only at hSw); go_simp; all_goals with_reducible rfl
   simp only [Act.put, zA, zB, zC]
   refine takeL 10 (v := ?_) ?_ ‹_› ?_
   rotate_left
   ·intro w hSw; (try dsimp only at hSw); go_simp; all_goals with_reducible rfl
   simp only [Act.put, zA, zB, zC]
   refine takeL 11 (v := ?_) ?_ ‹_› ?_
   rotate_left
   ·intro w hSw; (try dsimp only at hSw); go_simp; all_goals with_reducible rfl
   simp only [Act.put, zA, zB, zC]
   refine takeL 12 (v := ?_) ?_ ‹_› ?_
   rotate_left
   ·intro w hSw; (try dsimp only at hSw); go_simp; all_goals with_reducible rfl
   simp only [Act.put, zA, zB, zC]
   refine takeL 13 (v := ?_) ?_ ‹_› ?_
   rotate_left
   ·intro w hSw; (try dsimp only at hSw); go_simp; all_goals with_reducible rfl
   simp only [Act.put, zA, zB, zC]
   refine takeL 14 (v := ?_) ?_ ‹_› ?_
   rotate_left
   ·intro w hSw; (try dsimp only at hSw); go_simp; all_goals with_reducible rfl
   simp only [Act.put, zA, zB, zC]
   refine wpAnyH_ready (rs := [8]) (by kernel_rfl) (by simp) (.cons rfl (fun K hK => ?_) .nil)
   go_simp
   refine (prUint_any _ _).mono ?_
   rintro e w1 ⟨rfl, hb⟩
   replace F := below_on F hb
   replace G := below_on G hb
   clear hb
   refine hK.out _ _ (HELD.out _ F) (fun hHeld => ?_)
   clear hK K
   try simp only [Act.put, zA, zB, zC]
   refine wpAnyH_ready (rs := [15]) (by kernel_rfl) (by simp) (.cons rfl (fun K hK => ?_) .nil)
   go_simp
   refine (prBool_any _ _).mono ?_
   rintro e w2 ⟨rfl, hb⟩
   replace F := below_on F hb
   replace G := below_on G hb
   clear hb
   refine hK.out _ _ (HELD.out _ F) (fun hHeld => ?_)
   clear hK K
   try simp only [Act.put, zA, zB, zC]
   refine wpAnyH_ready (rs := [16]) (by kernel_rfl) (by simp) (.cons rfl (fun K hK => ?_) .nil)
   go_simp
   replace F := below_al F (.cells #[.int .i64 1, .int .u64 x.1.toNat, .slice none 0 0, .string ⟨#[]⟩, .slice none 0 0, .int .i64 5, .int .u64 (bN x.2), .slice none 0 0, .string ⟨#[]⟩, .slice none 0 0] 83)
   have hs2 := G.size
   replace G := below_al G (.cells #[.int .i64 1, .int .u64 x.1.toNat, .slice none 0 0, .string ⟨#[]⟩, .slice none 0 0, .int .i64 5, .int .u64 (bN x.2), .slice none 0 0, .string ⟨#[]⟩, .slice none 0 0] 83)
   refine hK.out _ _ (HELD.out _ F) (fun hHeld => ?_)
   clear hK K
   try simp only [Act.put, zA, zB, zC]
   refine wpAnyH_ready (rs := [17]) (by kernel_rfl) (by simp) (.cons rfl (fun K hK => ?_) .nil)
   go_simp
   refine (prList_any _ _ _ _).mono ?_
   rintro e w4 ⟨rfl, hb⟩
   have hx : ItS w4 (newB wr w4) (listV (some ⟨w2.heap.size, 0, none⟩) 2 2) (itX x) := itS_two ⟨hs2, Nat.lt_of_lt_of_le (by simp) hb.size⟩ ⟨_, _, _, _, _, rfl, box_at hb 0, box_at hb 1, box_at hb 2, box_at hb 3, box_at hb 4⟩ ⟨_, _, _, _, _, rfl, box_at hb 5, box_at hb 6, box_at hb 7, box_at hb 8, box_at hb 9⟩ (itS_uint _ _ _ ⟨by omega, by omega⟩) (itS_bool _ _ _)
   replace F := below_on F hb
   replace G := below_on G hb
   obtain ⟨v', w6, hrun, hlo⟩ := listO_one HI.out G hx hl
   have HRun := h_ hrun
   have HLO := h_ hlo
   clear hb hrun hlo hx hs2
   refine hK.out _ _ (HELD.out _ F) (fun hHeld => ?_)
   clear hK K
   try simp only [Act.put, zA, zB, zC]
   refine wpAnyH_ready (rs := [18]) (by kernel_rfl) (by simp) (.cons rfl (fun K hK => ?_) .nil)
   go_simp
   replace F := below_al F (.cells #[.int .i64 4, .int .u64 0, .slice none 0 0, .string ⟨#[]⟩, .slice (some ⟨w2.heap.size, 0, none⟩) 2 2] 83)
   refine hK.out _ _ (HELD.out _ F) (fun hHeld => ?_)
   clear hK K
   try simp only [Act.put, zA, zB, zC]
   refine wpAnyH_ready (rs := [19]) (by kernel_rfl) (by simp) (.cons rfl (fun K hK => ?_) .nil)
   refine step_runX (by rfl) _ _ _ _ (by rfl) _ _ _ _ (by rfl) (by rfl) HRun.out ?_
   refine hK.out _ _ (HELD.out _ HLO.out.1) (fun hHeld => ?_)
   clear hK K
   try simp only [Act.put, zA, zB, zC]
   refine takeL 20 (v := ?_) ?_ ‹_› ?_
   rotate_left
   ·intro w hSw; (try dsimp only at hSw); go_simp; all_goals with_reducible rfl
   simp only [Act.put, zA, zB, zC]
   clear hHeld
   refine wpAnyH_done (by kernel_rfl) ?_ _
   go_wp2_with fail
   go_roundw
   case rel => exact ⟨k + 1, by omega, by go_num, by rw [Hid, HE.out]; exact HLO.out⟩
   case measure => simp [intOf]; omega
  ·obtain rfl : k = xs.length := by omega
   have h := HI.out
   rw [List.take_length] at h
   obtain ⟨A4, C4, rfl, hit4⟩ := h.item (by simp; omega)
   have hlen4 : (itB bk :: xs.map itX).length = xs.length + 1 := by simp
   rw [hlen4] at hit4 ⊢
   have HIt : Hid (ItS wr (newB W wr) (listV A4 (xs.length + 1) C4) (itP bk xs)) := hit4
   have HB4 : Hid (Below W.heap.size W wr) := h.1
   clear h HI hit4 hlen4 hbx
   go_wp2_with fail
   refine (prList_any _ _ _ _).mono ?_
   rintro e w5 ⟨rfl, hb5⟩
   clear x0 x1
   have HIt5 : Hid (ItS w5 (newB W w5) (listV A4 (xs.length + 1) C4) (itP bk xs)) := HIt.out.new_on hb5
   have HB5 := h_ (below_on HB4.out hb5)
   obtain ⟨_, hbx⟩ := HX.out w5 HB5.out
   obtain ⟨d0, f0⟩ := hbx 0
   obtain ⟨d1, f1⟩ := hbx 1
   obtain ⟨d2, f2⟩ := hbx 2
   obtain ⟨d3, f3⟩ := hbx 3
   obtain ⟨d4, f4⟩ := hbx 4
   have hq := set5_cells d0 d1 d2 d3 d4 (.int .i64 4) (.int .u64 0) (.slice none 0 0) (.string ⟨#[]⟩) (.slice A4 (xs.length + 1) C4)
   have hbel := set5_on (g := w.heap.size + 1) (HB0.out.trans (HB5.out.mono HB0.out.size)) (by omega) (.int .i64 4) (.int .u64 0) (.slice none 0 0) (.string ⟨#[]⟩) (.slice A4 (xs.length + 1) C4)
   have hit : ItS (set5 w5 (w.heap.size + 1) (.int .i64 4) (.int .u64 0) (.slice none 0 0) (.string ⟨#[]⟩) (.slice A4 (xs.length + 1) C4)) (newB w (set5 w5 (w.heap.size + 1) (.int .i64 4) (.int .u64 0) (.slice none 0 0) (.string ⟨#[]⟩) (.slice A4 (xs.length + 1) C4))) (listV A4 (xs.length + 1) C4) (itP bk xs) :=
    ItS.more (fun b hb => ⟨by have := hb.1; have := HWs.out; omega, by rw [set5_size]; exact hb.2⟩) _ (ItS.keep (fun b hb => set5_block (by have := hb.1; have := HWs.out; omega) _ _ _ _ _) _ HIt5.out)
   have HF := h_ (⟨hq, hbel, hit⟩ : _ ∧ _ ∧ _)
   clear hq hbel hit hbx hb5
   unfold set5 at HF
   go_wp2_with fail
   clear d0 d1 d2 d3 d4 f0 f1 f2 f3 f4
   obtain ⟨⟨q0, q1, q2, q3, q4⟩, hbel, hit⟩ := HF.out
   exact bodyPost_ret (v := .agg #[.int .i64 4, .int .u64 0, .slice none 0 0, .string ⟨#[]⟩, .slice A4 (xs.length + 1) C4]) (by simp [results, Tryz.results42, go_sem, q0, q1, q2, q3, q4]) rfl ⟨hbel, _, rfl, hit⟩

end Go.Proofs.YtiahakbkagipkaaGreatDoor

namespace Go.Proofs.YtiahakbkagipkaaGreatDoor
end Go.Proofs.YtiahakbkagipkaaGreatDoor

namespace Go.Proofs.YtiahakbkagipkaaGreatDoor
open Go Go.RowKit Go.Shelf

end Go.Proofs.YtiahakbkagipkaaGreatDoor
