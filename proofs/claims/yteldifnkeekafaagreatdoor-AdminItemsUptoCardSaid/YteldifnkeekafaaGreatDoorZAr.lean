/- Joined texts. -/
import Derived.Test.YteldifnkeekafaaGreatDoorZAdH
set_option maxHeartbeats 8000000
set_option linter.unusedSimpArgs false
set_option linter.unusedVariables false
set_option maxRecDepth 100000
namespace Go.Proofs.YteldifnkeekafaaGreatDoor
open Go Go.RowKit Go.Shelf

attribute [local go_sem] Oper.semAt_some

def bareR (k : Nat) (r : Rc) : Rc := if k = 1 then ⟨r.k, r.n, r.m, r.t, r.q, r.wh, r.wy, r.at0, 0, 0, 0, false, 0, 0, 0⟩ else if k = 2 then ⟨r.k, 0, 0, 0, 0, 0, 0, 0, r.no, r.nd, r.rg, false, 0, 0, 0⟩ else if k = 3 then ⟨r.k, 0, 0, 0, 0, 0, 0, 0, r.no, r.nd, r.rg, r.ys, 0, r.un, 0⟩ else if k = 4 then ⟨r.k, 0, 0, 0, 0, 0, 0, 0, 0, r.nd, 0, false, r.fr, r.un, r.lv⟩ else ⟨r.k, 0, 0, 0, 0, 0, 0, 0, r.no, r.nd, r.rg, r.ys, 0, 0, 0⟩

theorem rbare1_any (n m t q at0 no nd rg fr un lv : Nat) (wh wy : Int) (ys : Bool) (w : World) : Calls Tryz.prog 51 #[.agg #[.int .i64 1, .int .u32 n, .int .u32 m, .int .u64 t, .int .u32 q, .int .i64 wh, .int .i64 wy, .int .u64 at0, .int .u64 no, .int .u32 nd, .int .u32 rg, .bool ys, .int .u64 fr, .int .u64 un, .int .u8 lv]] w fun e w' => e = .returned (.agg #[.int .i64 1, .int .u32 n, .int .u32 m, .int .u64 t, .int .u32 q, .int .i64 wh, .int .i64 wy, .int .u64 at0, .int .u64 0, .int .u32 0, .int .u32 0, .bool false, .int .u64 0, .int .u64 0, .int .u8 0]) ∧ Below w.heap.size w w' := by
 obtain ⟨W, hW⟩ : ∃ W, W = (w.alloc (.cells #[.int .i64 1, .int .u32 n, .int .u32 m, .int .u64 t, .int .u32 q, .int .i64 wh, .int .i64 wy, .int .u64 at0, .int .u64 no, .int .u32 nd, .int .u32 rg, .bool ys, .int .u64 fr, .int .u64 un, .int .u8 lv] 32)).alloc (.cells #[.int .i64 0, .int .u32 0, .int .u32 0, .int .u64 0, .int .u32 0, .int .i64 0, .int .i64 0, .int .u64 0, .int .u64 0, .int .u32 0, .int .u32 0, .bool false, .int .u64 0, .int .u64 0, .int .u8 0] 32) := ⟨_, rfl⟩
 have HB0 : Hid (Below w.heap.size w W) := by rw [hW]; exact below_al (below_al bR _) _
 have HS0 : Hid (W.heap.size = w.heap.size + 2) := by rw [Hid, hW]; simp
 have HX : Hid (∀ w', Below W.heap.size W w' → w'.cell? ⟨w.heap.size, 0, none⟩ = some (.int .i64 1) ∧ w'.cell? ⟨w.heap.size, 1, none⟩ = some (.int .u32 n) ∧ w'.cell? ⟨w.heap.size, 2, none⟩ = some (.int .u32 m) ∧ w'.cell? ⟨w.heap.size, 3, none⟩ = some (.int .u64 t) ∧ w'.cell? ⟨w.heap.size, 4, none⟩ = some (.int .u32 q) ∧ w'.cell? ⟨w.heap.size, 5, none⟩ = some (.int .i64 wh) ∧ w'.cell? ⟨w.heap.size, 6, none⟩ = some (.int .i64 wy) ∧ w'.cell? ⟨w.heap.size, 7, none⟩ = some (.int .u64 at0) ∧ w'.cell? ⟨w.heap.size, 8, none⟩ = some (.int .u64 no) ∧ w'.cell? ⟨w.heap.size, 9, none⟩ = some (.int .u32 nd) ∧ w'.cell? ⟨w.heap.size, 10, none⟩ = some (.int .u32 rg) ∧ w'.cell? ⟨w.heap.size, 11, none⟩ = some (.bool ys) ∧ w'.cell? ⟨w.heap.size, 12, none⟩ = some (.int .u64 fr) ∧ w'.cell? ⟨w.heap.size, 13, none⟩ = some (.int .u64 un) ∧ w'.cell? ⟨w.heap.size, 14, none⟩ = some (.int .u8 lv)) := fun w' h => by
  rw [hW] at h
  have h1 := below_on (below_al (Below.refl _ (w.alloc (.cells #[.int .i64 1, .int .u32 n, .int .u32 m, .int .u64 t, .int .u32 q, .int .i64 wh, .int .i64 wy, .int .u64 at0, .int .u64 no, .int .u32 nd, .int .u32 rg, .bool ys, .int .u64 fr, .int .u64 un, .int .u8 lv] 32))) (.cells #[.int .i64 0, .int .u32 0, .int .u32 0, .int .u64 0, .int .u32 0, .int .i64 0, .int .i64 0, .int .u64 0, .int .u64 0, .int .u32 0, .int .u32 0, .bool false, .int .u64 0, .int .u64 0, .int .u8 0] 32)) h
  exact ⟨box_at h1 0, box_at h1 1, box_at h1 2, box_at h1 3, box_at h1 4, box_at h1 5, box_at h1 6, box_at h1 7, box_at h1 8, box_at h1 9, box_at h1 10, box_at h1 11, box_at h1 12, box_at h1 13, box_at h1 14⟩
 have HR2 : Hid (∀ w', Below W.heap.size W w' → RowB w' (w.heap.size + 1) [.int .i64 0, .int .u32 0, .int .u32 0, .int .u64 0, .int .u32 0, .int .i64 0, .int .i64 0, .int .u64 0, .int .u64 0, .int .u32 0, .int .u32 0, .bool false, .int .u64 0, .int .u64 0, .int .u8 0]) := fun w' h => by
  have h0 : RowB W (w.heap.size + 1) [.int .i64 0, .int .u32 0, .int .u32 0, .int .u64 0, .int .u32 0, .int .i64 0, .int .i64 0, .int .u64 0, .int .u64 0, .int .u32 0, .int .u32 0, .bool false, .int .u64 0, .int .u64 0, .int .u8 0] := by
   rw [hW]
   have h := RowB.new (w.alloc (.cells #[.int .i64 1, .int .u32 n, .int .u32 m, .int .u64 t, .int .u32 q, .int .i64 wh, .int .i64 wy, .int .u64 at0, .int .u64 no, .int .u32 nd, .int .u32 rg, .bool ys, .int .u64 fr, .int .u64 un, .int .u8 lv] 32)) [.int .i64 0, .int .u32 0, .int .u32 0, .int .u64 0, .int .u32 0, .int .i64 0, .int .i64 0, .int .u64 0, .int .u64 0, .int .u32 0, .int .u32 0, .bool false, .int .u64 0, .int .u64 0, .int .u8 0] 32
   rw [World.size_alloc] at h
   exact h
  exact h0.on h (by have := HS0.out; omega)
 obtain ⟨w3, hw3⟩ : ∃ w3, w3 = W.alloc (.cells #[.int .i64 1, .int .u32 0, .int .u32 0, .int .u64 0, .int .u32 0, .int .i64 0, .int .i64 0, .int .u64 0, .int .u64 0, .int .u32 0, .int .u32 0, .bool false, .int .u64 0, .int .u64 0, .int .u8 0] 32) := ⟨_, rfl⟩
 have F : Below W.heap.size W w3 := by rw [hw3]; exact below_al bR _
 have R : RowB w3 W.heap.size [.int .i64 1, .int .u32 0, .int .u32 0, .int .u64 0, .int .u32 0, .int .i64 0, .int .i64 0, .int .u64 0, .int .u64 0, .int .u32 0, .int .u32 0, .bool false, .int .u64 0, .int .u64 0, .int .u8 0] := by rw [hw3]; exact RowB.new W _ _
 have HW := h_ hW
 have HW3 := h_ hw3
 obtain ⟨x0, x1, x2, x3, x4, x5, x6, x7, x8, x9, x10, x11, x12, x13, x14⟩ := HX.out W bR
 rw [HW.out] at x0 x1 x2 x3 x4 x5 x6 x7 x8 x9 x10 x11 x12 x13 x14
 clear hW hw3
 go_enter Tryz.func51, Tryz.ntmps51
 go_upto_region 4 with fail
 rw [← HW.out]
 rw [← HW3.out]
 clear x0 x1 x2 x3 x4 x5 x6 x7 x8 x9 x10 x11 x12 x13 x14
 have hsz : w.heap.size + 1 + 1 = W.heap.size := by have := HS0.out; omega
 rw [hsz]
 clear hsz
 replace F := F.drew
 replace R : RowB w3.drew W.heap.size [.int .i64 1, .int .u32 0, .int .u32 0, .int .u64 0, .int .u32 0, .int .i64 0, .int .i64 0, .int .u64 0, .int .u64 0, .int .u32 0, .int .u32 0, .bool false, .int .u64 0, .int .u64 0, .int .u8 0] := R
 refine wp_region_held_drew (S := (fun w' => w'.cell? ⟨w.heap.size, 0, none⟩ = some (.int .i64 1) ∧ w'.cell? ⟨w.heap.size, 1, none⟩ = some (.int .u32 n) ∧ w'.cell? ⟨w.heap.size, 2, none⟩ = some (.int .u32 m) ∧ w'.cell? ⟨w.heap.size, 3, none⟩ = some (.int .u64 t) ∧ w'.cell? ⟨w.heap.size, 4, none⟩ = some (.int .u32 q) ∧ w'.cell? ⟨w.heap.size, 5, none⟩ = some (.int .i64 wh) ∧ w'.cell? ⟨w.heap.size, 6, none⟩ = some (.int .i64 wy) ∧ w'.cell? ⟨w.heap.size, 7, none⟩ = some (.int .u64 at0) ∧ w'.cell? ⟨w.heap.size, 8, none⟩ = some (.int .u64 no) ∧ w'.cell? ⟨w.heap.size, 9, none⟩ = some (.int .u32 nd) ∧ w'.cell? ⟨w.heap.size, 10, none⟩ = some (.int .u32 rg) ∧ w'.cell? ⟨w.heap.size, 11, none⟩ = some (.bool ys) ∧ w'.cell? ⟨w.heap.size, 12, none⟩ = some (.int .u64 fr) ∧ w'.cell? ⟨w.heap.size, 13, none⟩ = some (.int .u64 un) ∧ w'.cell? ⟨w.heap.size, 14, none⟩ = some (.int .u8 lv))) (by kernel_rfl) (HX.out _ F) (fun hHeld => ?_)
 generalize w3.drew = v0 at *
 refine takeL 0 (v := ?_) ?_ ‹_› ?_
 rotate_left
 ·intro w hSw; go_simp; all_goals with_reducible rfl
 simp only [Act.put, zA, zB, zC]
 refine takeL 1 (v := ?_) ?_ ‹_› ?_
 rotate_left
 ·intro w hSw; go_simp; all_goals with_reducible rfl
 simp only [Act.put, zA, zB, zC]
 refine takeL 2 (v := ?_) ?_ ‹_› ?_
 rotate_left
 ·intro w hSw; go_simp; all_goals with_reducible rfl
 simp only [Act.put, zA, zB, zC]
 refine takeL 3 (v := ?_) ?_ ‹_› ?_
 rotate_left
 ·intro w hSw; go_simp; all_goals with_reducible rfl
 simp only [Act.put, zA, zB, zC]
 refine takeL 4 (v := ?_) ?_ ‹_› ?_
 rotate_left
 ·intro w hSw; go_simp; all_goals with_reducible rfl
 simp only [Act.put, zA, zB, zC]
 refine takeL 5 (v := ?_) ?_ ‹_› ?_
 rotate_left
 ·intro w hSw; go_simp; all_goals with_reducible rfl
 simp only [Act.put, zA, zB, zC]
 refine takeL 6 (v := ?_) ?_ ‹_› ?_
 rotate_left
 ·intro w hSw; go_simp; all_goals with_reducible rfl
 simp only [Act.put, zA, zB, zC]
 refine takeL 7 (v := ?_) ?_ ‹_› ?_
 rotate_left
 ·intro w hSw; go_simp; all_goals with_reducible rfl
 simp only [Act.put, zA, zB, zC]
 refine takeL 8 (v := ?_) ?_ ‹_› ?_
 rotate_left
 ·intro w hSw; go_simp; all_goals with_reducible rfl
 simp only [Act.put, zA, zB, zC]
 refine wpAnyH_ready (rs := [9]) (by kernel_rfl) (by simp) (.cons rfl (fun K hK => ?_) .nil)
 have c1 := R.1 1 _ rfl
 have f1 := R.2 1
 have c2 := R.1 2 _ rfl
 have f2 := R.2 2
 have c3 := R.1 3 _ rfl
 have f3 := R.2 3
 have c4 := R.1 4 _ rfl
 have f4 := R.2 4
 go_simp
 replace R := R.set 1 (.int .u32 n)
 replace F := F.setCell (p := ⟨W.heap.size, 1, none⟩) (Nat.le_refl _) (.int .u32 n)
 clear c1 f1
 replace R := R.set 2 (.int .u32 m)
 replace F := F.setCell (p := ⟨W.heap.size, 2, none⟩) (Nat.le_refl _) (.int .u32 m)
 clear c2 f2
 replace R := R.set 3 (.int .u64 t)
 replace F := F.setCell (p := ⟨W.heap.size, 3, none⟩) (Nat.le_refl _) (.int .u64 t)
 clear c3 f3
 replace R := R.set 4 (.int .u32 q)
 replace F := F.setCell (p := ⟨W.heap.size, 4, none⟩) (Nat.le_refl _) (.int .u32 q)
 clear c4 f4
 simp only [zB, zC] at R
 refine hK.out _ _ (HX.out _ F) (fun hHeld => ?_)
 clear hK K
 try simp only [Act.put, zA, zB, zC]
 refine takeL 10 (v := ?_) ?_ ‹_› ?_
 rotate_left
 ·intro w hSw; go_simp; all_goals with_reducible rfl
 simp only [Act.put, zA, zB, zC]
 refine wpAnyH_ready (rs := [11]) (by kernel_rfl) (by simp) (.cons rfl (fun K hK => ?_) .nil)
 have c5 := R.1 5 _ rfl
 have f5 := R.2 5
 go_simp
 replace R := R.set 5 (.int .i64 wh)
 replace F := F.setCell (p := ⟨W.heap.size, 5, none⟩) (Nat.le_refl _) (.int .i64 wh)
 clear c5 f5
 simp only [zB, zC] at R
 refine hK.out _ _ (HX.out _ F) (fun hHeld => ?_)
 clear hK K
 try simp only [Act.put, zA, zB, zC]
 refine takeL 12 (v := ?_) ?_ ‹_› ?_
 rotate_left
 ·intro w hSw; go_simp; all_goals with_reducible rfl
 simp only [Act.put, zA, zB, zC]
 refine wpAnyH_ready (rs := [13]) (by kernel_rfl) (by simp) (.cons rfl (fun K hK => ?_) .nil)
 have c6 := R.1 6 _ rfl
 have f6 := R.2 6
 go_simp
 replace R := R.set 6 (.int .i64 wy)
 replace F := F.setCell (p := ⟨W.heap.size, 6, none⟩) (Nat.le_refl _) (.int .i64 wy)
 clear c6 f6
 simp only [zB, zC] at R
 refine hK.out _ _ (HX.out _ F) (fun hHeld => ?_)
 clear hK K
 try simp only [Act.put, zA, zB, zC]
 refine takeL 14 (v := ?_) ?_ ‹_› ?_
 rotate_left
 ·intro w hSw; go_simp; all_goals with_reducible rfl
 simp only [Act.put, zA, zB, zC]
 refine wpAnyH_ready (rs := [15]) (by kernel_rfl) (by simp) (.cons rfl (fun K hK => ?_) .nil)
 have c7 := R.1 7 _ rfl
 have f7 := R.2 7
 go_simp
 replace R := R.set 7 (.int .u64 at0)
 replace F := F.setCell (p := ⟨W.heap.size, 7, none⟩) (Nat.le_refl _) (.int .u64 at0)
 clear c7 f7
 simp only [zB, zC] at R
 refine hK.out _ _ (HX.out _ F) (fun hHeld => ?_)
 clear hK K
 try simp only [Act.put, zA, zB, zC]
 clear hHeld
 refine wpAnyH_done (by kernel_rfl) ?_ _
 have T := HR2.out _ F
 generalize (((((((v0.setCell ⟨W.heap.size, 1, none⟩ (.int .u32 n)).setCell ⟨W.heap.size, 2, none⟩ (.int .u32 m)).setCell ⟨W.heap.size, 3, none⟩ (.int .u64 t)).setCell ⟨W.heap.size, 4, none⟩ (.int .u32 q)).setCell ⟨W.heap.size, 5, none⟩ (.int .i64 wh)).setCell ⟨W.heap.size, 6, none⟩ (.int .i64 wy)).setCell ⟨W.heap.size, 7, none⟩ (.int .u64 at0)) = we at *
 have HF := h_ F
 have HT := h_ T
 have HR := h_ R
 clear F T R
 have y0 := HR.out.1 0 _ rfl
 have t0 := HT.out.1 0 _ rfl
 have g0 := HT.out.2 0
 have y1 := HR.out.1 1 _ rfl
 have t1 := HT.out.1 1 _ rfl
 have g1 := HT.out.2 1
 have y2 := HR.out.1 2 _ rfl
 have t2 := HT.out.1 2 _ rfl
 have g2 := HT.out.2 2
 have y3 := HR.out.1 3 _ rfl
 have t3 := HT.out.1 3 _ rfl
 have g3 := HT.out.2 3
 have y4 := HR.out.1 4 _ rfl
 have t4 := HT.out.1 4 _ rfl
 have g4 := HT.out.2 4
 have y5 := HR.out.1 5 _ rfl
 have t5 := HT.out.1 5 _ rfl
 have g5 := HT.out.2 5
 have y6 := HR.out.1 6 _ rfl
 have t6 := HT.out.1 6 _ rfl
 have g6 := HT.out.2 6
 have y7 := HR.out.1 7 _ rfl
 have t7 := HT.out.1 7 _ rfl
 have g7 := HT.out.2 7
 have y8 := HR.out.1 8 _ rfl
 have t8 := HT.out.1 8 _ rfl
 have g8 := HT.out.2 8
 have y9 := HR.out.1 9 _ rfl
 have t9 := HT.out.1 9 _ rfl
 have g9 := HT.out.2 9
 have y10 := HR.out.1 10 _ rfl
 have t10 := HT.out.1 10 _ rfl
 have g10 := HT.out.2 10
 have y11 := HR.out.1 11 _ rfl
 have t11 := HT.out.1 11 _ rfl
 have g11 := HT.out.2 11
 have y12 := HR.out.1 12 _ rfl
 have t12 := HT.out.1 12 _ rfl
 have g12 := HT.out.2 12
 have y13 := HR.out.1 13 _ rfl
 have t13 := HT.out.1 13 _ rfl
 have g13 := HT.out.2 13
 have y14 := HR.out.1 14 _ rfl
 have t14 := HT.out.1 14 _ rfl
 have g14 := HT.out.2 14
 go_wp2_with fail
 change bodyPost _ _ _ _ _ (putL we (w.heap.size + 1) 0 [.int .i64 1, .int .u32 n, .int .u32 m, .int .u64 t, .int .u32 q, .int .i64 wh, .int .i64 wy, .int .u64 at0, .int .u64 0, .int .u32 0, .int .u32 0, .bool false, .int .u64 0, .int .u64 0, .int .u8 0])
 have hrow : RowB (putL we (w.heap.size + 1) 0 [.int .i64 1, .int .u32 n, .int .u32 m, .int .u64 t, .int .u32 q, .int .i64 wh, .int .i64 wy, .int .u64 at0, .int .u64 0, .int .u32 0, .int .u32 0, .bool false, .int .u64 0, .int .u64 0, .int .u8 0]) (w.heap.size + 1) [.int .i64 1, .int .u32 n, .int .u32 m, .int .u64 t, .int .u32 q, .int .i64 wh, .int .i64 wy, .int .u64 at0, .int .u64 0, .int .u32 0, .int .u32 0, .bool false, .int .u64 0, .int .u64 0, .int .u8 0] := putL_row _ _ 0 _ HT.out
 have hbk : Below w.heap.size w (putL we (w.heap.size + 1) 0 [.int .i64 1, .int .u32 n, .int .u32 m, .int .u64 t, .int .u32 q, .int .i64 wh, .int .i64 wy, .int .u64 at0, .int .u64 0, .int .u32 0, .int .u32 0, .bool false, .int .u64 0, .int .u64 0, .int .u8 0]) := putL_bel (Nat.le_succ _) _ 0 _ (HB0.out.trans (HF.out.mono HB0.out.size))
 generalize putL we (w.heap.size + 1) 0 [.int .i64 1, .int .u32 n, .int .u32 m, .int .u64 t, .int .u32 q, .int .i64 wh, .int .i64 wy, .int .u64 at0, .int .u64 0, .int .u32 0, .int .u32 0, .bool false, .int .u64 0, .int .u64 0, .int .u8 0] = w30 at *
 obtain ⟨k0, k1, k2, k3, k4, k5, k6, k7, k8, k9, k10, k11, k12, k13, k14⟩ := r15 hrow
 exact bodyPost_ret (v := .agg #[.int .i64 1, .int .u32 n, .int .u32 m, .int .u64 t, .int .u32 q, .int .i64 wh, .int .i64 wy, .int .u64 at0, .int .u64 0, .int .u32 0, .int .u32 0, .bool false, .int .u64 0, .int .u64 0, .int .u8 0]) (by simp [results, Tryz.results51, go_sem, k0, k1, k2, k3, k4, k5, k6, k7, k8, k9, k10, k11, k12, k13, k14]) rfl ⟨rfl, hbk⟩

theorem rbare2_any (n m t q at0 no nd rg fr un lv : Nat) (wh wy : Int) (ys : Bool) (w : World) : Calls Tryz.prog 51 #[.agg #[.int .i64 2, .int .u32 n, .int .u32 m, .int .u64 t, .int .u32 q, .int .i64 wh, .int .i64 wy, .int .u64 at0, .int .u64 no, .int .u32 nd, .int .u32 rg, .bool ys, .int .u64 fr, .int .u64 un, .int .u8 lv]] w fun e w' => e = .returned (.agg #[.int .i64 2, .int .u32 0, .int .u32 0, .int .u64 0, .int .u32 0, .int .i64 0, .int .i64 0, .int .u64 0, .int .u64 no, .int .u32 nd, .int .u32 rg, .bool false, .int .u64 0, .int .u64 0, .int .u8 0]) ∧ Below w.heap.size w w' := by
 obtain ⟨W, hW⟩ : ∃ W, W = (w.alloc (.cells #[.int .i64 2, .int .u32 n, .int .u32 m, .int .u64 t, .int .u32 q, .int .i64 wh, .int .i64 wy, .int .u64 at0, .int .u64 no, .int .u32 nd, .int .u32 rg, .bool ys, .int .u64 fr, .int .u64 un, .int .u8 lv] 32)).alloc (.cells #[.int .i64 0, .int .u32 0, .int .u32 0, .int .u64 0, .int .u32 0, .int .i64 0, .int .i64 0, .int .u64 0, .int .u64 0, .int .u32 0, .int .u32 0, .bool false, .int .u64 0, .int .u64 0, .int .u8 0] 32) := ⟨_, rfl⟩
 have HB0 : Hid (Below w.heap.size w W) := by rw [hW]; exact below_al (below_al bR _) _
 have HS0 : Hid (W.heap.size = w.heap.size + 2) := by rw [Hid, hW]; simp
 have HX : Hid (∀ w', Below W.heap.size W w' → w'.cell? ⟨w.heap.size, 0, none⟩ = some (.int .i64 2) ∧ w'.cell? ⟨w.heap.size, 1, none⟩ = some (.int .u32 n) ∧ w'.cell? ⟨w.heap.size, 2, none⟩ = some (.int .u32 m) ∧ w'.cell? ⟨w.heap.size, 3, none⟩ = some (.int .u64 t) ∧ w'.cell? ⟨w.heap.size, 4, none⟩ = some (.int .u32 q) ∧ w'.cell? ⟨w.heap.size, 5, none⟩ = some (.int .i64 wh) ∧ w'.cell? ⟨w.heap.size, 6, none⟩ = some (.int .i64 wy) ∧ w'.cell? ⟨w.heap.size, 7, none⟩ = some (.int .u64 at0) ∧ w'.cell? ⟨w.heap.size, 8, none⟩ = some (.int .u64 no) ∧ w'.cell? ⟨w.heap.size, 9, none⟩ = some (.int .u32 nd) ∧ w'.cell? ⟨w.heap.size, 10, none⟩ = some (.int .u32 rg) ∧ w'.cell? ⟨w.heap.size, 11, none⟩ = some (.bool ys) ∧ w'.cell? ⟨w.heap.size, 12, none⟩ = some (.int .u64 fr) ∧ w'.cell? ⟨w.heap.size, 13, none⟩ = some (.int .u64 un) ∧ w'.cell? ⟨w.heap.size, 14, none⟩ = some (.int .u8 lv)) := fun w' h => by
  rw [hW] at h
  have h1 := below_on (below_al (Below.refl _ (w.alloc (.cells #[.int .i64 2, .int .u32 n, .int .u32 m, .int .u64 t, .int .u32 q, .int .i64 wh, .int .i64 wy, .int .u64 at0, .int .u64 no, .int .u32 nd, .int .u32 rg, .bool ys, .int .u64 fr, .int .u64 un, .int .u8 lv] 32))) (.cells #[.int .i64 0, .int .u32 0, .int .u32 0, .int .u64 0, .int .u32 0, .int .i64 0, .int .i64 0, .int .u64 0, .int .u64 0, .int .u32 0, .int .u32 0, .bool false, .int .u64 0, .int .u64 0, .int .u8 0] 32)) h
  exact ⟨box_at h1 0, box_at h1 1, box_at h1 2, box_at h1 3, box_at h1 4, box_at h1 5, box_at h1 6, box_at h1 7, box_at h1 8, box_at h1 9, box_at h1 10, box_at h1 11, box_at h1 12, box_at h1 13, box_at h1 14⟩
 have HR2 : Hid (∀ w', Below W.heap.size W w' → RowB w' (w.heap.size + 1) [.int .i64 0, .int .u32 0, .int .u32 0, .int .u64 0, .int .u32 0, .int .i64 0, .int .i64 0, .int .u64 0, .int .u64 0, .int .u32 0, .int .u32 0, .bool false, .int .u64 0, .int .u64 0, .int .u8 0]) := fun w' h => by
  have h0 : RowB W (w.heap.size + 1) [.int .i64 0, .int .u32 0, .int .u32 0, .int .u64 0, .int .u32 0, .int .i64 0, .int .i64 0, .int .u64 0, .int .u64 0, .int .u32 0, .int .u32 0, .bool false, .int .u64 0, .int .u64 0, .int .u8 0] := by
   rw [hW]
   have h := RowB.new (w.alloc (.cells #[.int .i64 2, .int .u32 n, .int .u32 m, .int .u64 t, .int .u32 q, .int .i64 wh, .int .i64 wy, .int .u64 at0, .int .u64 no, .int .u32 nd, .int .u32 rg, .bool ys, .int .u64 fr, .int .u64 un, .int .u8 lv] 32)) [.int .i64 0, .int .u32 0, .int .u32 0, .int .u64 0, .int .u32 0, .int .i64 0, .int .i64 0, .int .u64 0, .int .u64 0, .int .u32 0, .int .u32 0, .bool false, .int .u64 0, .int .u64 0, .int .u8 0] 32
   rw [World.size_alloc] at h
   exact h
  exact h0.on h (by have := HS0.out; omega)
 obtain ⟨w3, hw3⟩ : ∃ w3, w3 = W.alloc (.cells #[.int .i64 2, .int .u32 0, .int .u32 0, .int .u64 0, .int .u32 0, .int .i64 0, .int .i64 0, .int .u64 0, .int .u64 0, .int .u32 0, .int .u32 0, .bool false, .int .u64 0, .int .u64 0, .int .u8 0] 32) := ⟨_, rfl⟩
 have F : Below W.heap.size W w3 := by rw [hw3]; exact below_al bR _
 have R : RowB w3 W.heap.size [.int .i64 2, .int .u32 0, .int .u32 0, .int .u64 0, .int .u32 0, .int .i64 0, .int .i64 0, .int .u64 0, .int .u64 0, .int .u32 0, .int .u32 0, .bool false, .int .u64 0, .int .u64 0, .int .u8 0] := by rw [hw3]; exact RowB.new W _ _
 have HW := h_ hW
 have HW3 := h_ hw3
 obtain ⟨x0, x1, x2, x3, x4, x5, x6, x7, x8, x9, x10, x11, x12, x13, x14⟩ := HX.out W bR
 rw [HW.out] at x0 x1 x2 x3 x4 x5 x6 x7 x8 x9 x10 x11 x12 x13 x14
 clear hW hw3
 go_enter Tryz.func51, Tryz.ntmps51
 go_upto_region 6 with fail
 rw [← HW.out]
 rw [← HW3.out]
 clear x0 x1 x2 x3 x4 x5 x6 x7 x8 x9 x10 x11 x12 x13 x14
 have hsz : w.heap.size + 1 + 1 = W.heap.size := by have := HS0.out; omega
 rw [hsz]
 clear hsz
 replace F := F.drew
 replace R : RowB w3.drew W.heap.size [.int .i64 2, .int .u32 0, .int .u32 0, .int .u64 0, .int .u32 0, .int .i64 0, .int .i64 0, .int .u64 0, .int .u64 0, .int .u32 0, .int .u32 0, .bool false, .int .u64 0, .int .u64 0, .int .u8 0] := R
 refine wp_region_held_drew (S := (fun w' => w'.cell? ⟨w.heap.size, 0, none⟩ = some (.int .i64 2) ∧ w'.cell? ⟨w.heap.size, 1, none⟩ = some (.int .u32 n) ∧ w'.cell? ⟨w.heap.size, 2, none⟩ = some (.int .u32 m) ∧ w'.cell? ⟨w.heap.size, 3, none⟩ = some (.int .u64 t) ∧ w'.cell? ⟨w.heap.size, 4, none⟩ = some (.int .u32 q) ∧ w'.cell? ⟨w.heap.size, 5, none⟩ = some (.int .i64 wh) ∧ w'.cell? ⟨w.heap.size, 6, none⟩ = some (.int .i64 wy) ∧ w'.cell? ⟨w.heap.size, 7, none⟩ = some (.int .u64 at0) ∧ w'.cell? ⟨w.heap.size, 8, none⟩ = some (.int .u64 no) ∧ w'.cell? ⟨w.heap.size, 9, none⟩ = some (.int .u32 nd) ∧ w'.cell? ⟨w.heap.size, 10, none⟩ = some (.int .u32 rg) ∧ w'.cell? ⟨w.heap.size, 11, none⟩ = some (.bool ys) ∧ w'.cell? ⟨w.heap.size, 12, none⟩ = some (.int .u64 fr) ∧ w'.cell? ⟨w.heap.size, 13, none⟩ = some (.int .u64 un) ∧ w'.cell? ⟨w.heap.size, 14, none⟩ = some (.int .u8 lv))) (by kernel_rfl) (HX.out _ F) (fun hHeld => ?_)
 generalize w3.drew = v0 at *
 refine takeL 0 (v := ?_) ?_ ‹_› ?_
 rotate_left
 ·intro w hSw; go_simp; all_goals with_reducible rfl
 simp only [Act.put, zA, zB, zC]
 refine takeL 1 (v := ?_) ?_ ‹_› ?_
 rotate_left
 ·intro w hSw; go_simp; all_goals with_reducible rfl
 simp only [Act.put, zA, zB, zC]
 refine takeL 2 (v := ?_) ?_ ‹_› ?_
 rotate_left
 ·intro w hSw; go_simp; all_goals with_reducible rfl
 simp only [Act.put, zA, zB, zC]
 refine takeL 3 (v := ?_) ?_ ‹_› ?_
 rotate_left
 ·intro w hSw; go_simp; all_goals with_reducible rfl
 simp only [Act.put, zA, zB, zC]
 refine takeL 4 (v := ?_) ?_ ‹_› ?_
 rotate_left
 ·intro w hSw; go_simp; all_goals with_reducible rfl
 simp only [Act.put, zA, zB, zC]
 refine takeL 5 (v := ?_) ?_ ‹_› ?_
 rotate_left
 ·intro w hSw; go_simp; all_goals with_reducible rfl
 simp only [Act.put, zA, zB, zC]
 refine takeL 6 (v := ?_) ?_ ‹_› ?_
 rotate_left
 ·intro w hSw; go_simp; all_goals with_reducible rfl
 simp only [Act.put, zA, zB, zC]
 refine wpAnyH_ready (rs := [7]) (by kernel_rfl) (by simp) (.cons rfl (fun K hK => ?_) .nil)
 have c8 := R.1 8 _ rfl
 have f8 := R.2 8
 go_simp
 replace R := R.set 8 (.int .u64 no)
 replace F := F.setCell (p := ⟨W.heap.size, 8, none⟩) (Nat.le_refl _) (.int .u64 no)
 clear c8 f8
 simp only [zB, zC] at R
 refine hK.out _ _ (HX.out _ F) (fun hHeld => ?_)
 clear hK K
 try simp only [Act.put, zA, zB, zC]
 refine takeL 8 (v := ?_) ?_ ‹_› ?_
 rotate_left
 ·intro w hSw; go_simp; all_goals with_reducible rfl
 simp only [Act.put, zA, zB, zC]
 refine wpAnyH_ready (rs := [9]) (by kernel_rfl) (by simp) (.cons rfl (fun K hK => ?_) .nil)
 have c9 := R.1 9 _ rfl
 have f9 := R.2 9
 go_simp
 replace R := R.set 9 (.int .u32 nd)
 replace F := F.setCell (p := ⟨W.heap.size, 9, none⟩) (Nat.le_refl _) (.int .u32 nd)
 clear c9 f9
 simp only [zB, zC] at R
 refine hK.out _ _ (HX.out _ F) (fun hHeld => ?_)
 clear hK K
 try simp only [Act.put, zA, zB, zC]
 refine takeL 10 (v := ?_) ?_ ‹_› ?_
 rotate_left
 ·intro w hSw; go_simp; all_goals with_reducible rfl
 simp only [Act.put, zA, zB, zC]
 refine wpAnyH_ready (rs := [11]) (by kernel_rfl) (by simp) (.cons rfl (fun K hK => ?_) .nil)
 have c10 := R.1 10 _ rfl
 have f10 := R.2 10
 go_simp
 replace R := R.set 10 (.int .u32 rg)
 replace F := F.setCell (p := ⟨W.heap.size, 10, none⟩) (Nat.le_refl _) (.int .u32 rg)
 clear c10 f10
 simp only [zB, zC] at R
 refine hK.out _ _ (HX.out _ F) (fun hHeld => ?_)
 clear hK K
 try simp only [Act.put, zA, zB, zC]
 clear hHeld
 refine wpAnyH_done (by kernel_rfl) ?_ _
 have T := HR2.out _ F
 generalize (((v0.setCell ⟨W.heap.size, 8, none⟩ (.int .u64 no)).setCell ⟨W.heap.size, 9, none⟩ (.int .u32 nd)).setCell ⟨W.heap.size, 10, none⟩ (.int .u32 rg)) = we at *
 have HF := h_ F
 have HT := h_ T
 have HR := h_ R
 clear F T R
 have y0 := HR.out.1 0 _ rfl
 have t0 := HT.out.1 0 _ rfl
 have g0 := HT.out.2 0
 have y1 := HR.out.1 1 _ rfl
 have t1 := HT.out.1 1 _ rfl
 have g1 := HT.out.2 1
 have y2 := HR.out.1 2 _ rfl
 have t2 := HT.out.1 2 _ rfl
 have g2 := HT.out.2 2
 have y3 := HR.out.1 3 _ rfl
 have t3 := HT.out.1 3 _ rfl
 have g3 := HT.out.2 3
 have y4 := HR.out.1 4 _ rfl
 have t4 := HT.out.1 4 _ rfl
 have g4 := HT.out.2 4
 have y5 := HR.out.1 5 _ rfl
 have t5 := HT.out.1 5 _ rfl
 have g5 := HT.out.2 5
 have y6 := HR.out.1 6 _ rfl
 have t6 := HT.out.1 6 _ rfl
 have g6 := HT.out.2 6
 have y7 := HR.out.1 7 _ rfl
 have t7 := HT.out.1 7 _ rfl
 have g7 := HT.out.2 7
 have y8 := HR.out.1 8 _ rfl
 have t8 := HT.out.1 8 _ rfl
 have g8 := HT.out.2 8
 have y9 := HR.out.1 9 _ rfl
 have t9 := HT.out.1 9 _ rfl
 have g9 := HT.out.2 9
 have y10 := HR.out.1 10 _ rfl
 have t10 := HT.out.1 10 _ rfl
 have g10 := HT.out.2 10
 have y11 := HR.out.1 11 _ rfl
 have t11 := HT.out.1 11 _ rfl
 have g11 := HT.out.2 11
 have y12 := HR.out.1 12 _ rfl
 have t12 := HT.out.1 12 _ rfl
 have g12 := HT.out.2 12
 have y13 := HR.out.1 13 _ rfl
 have t13 := HT.out.1 13 _ rfl
 have g13 := HT.out.2 13
 have y14 := HR.out.1 14 _ rfl
 have t14 := HT.out.1 14 _ rfl
 have g14 := HT.out.2 14
 go_wp2_with fail
 change bodyPost _ _ _ _ _ (putL we (w.heap.size + 1) 0 [.int .i64 2, .int .u32 0, .int .u32 0, .int .u64 0, .int .u32 0, .int .i64 0, .int .i64 0, .int .u64 0, .int .u64 no, .int .u32 nd, .int .u32 rg, .bool false, .int .u64 0, .int .u64 0, .int .u8 0])
 have hrow : RowB (putL we (w.heap.size + 1) 0 [.int .i64 2, .int .u32 0, .int .u32 0, .int .u64 0, .int .u32 0, .int .i64 0, .int .i64 0, .int .u64 0, .int .u64 no, .int .u32 nd, .int .u32 rg, .bool false, .int .u64 0, .int .u64 0, .int .u8 0]) (w.heap.size + 1) [.int .i64 2, .int .u32 0, .int .u32 0, .int .u64 0, .int .u32 0, .int .i64 0, .int .i64 0, .int .u64 0, .int .u64 no, .int .u32 nd, .int .u32 rg, .bool false, .int .u64 0, .int .u64 0, .int .u8 0] := putL_row _ _ 0 _ HT.out
 have hbk : Below w.heap.size w (putL we (w.heap.size + 1) 0 [.int .i64 2, .int .u32 0, .int .u32 0, .int .u64 0, .int .u32 0, .int .i64 0, .int .i64 0, .int .u64 0, .int .u64 no, .int .u32 nd, .int .u32 rg, .bool false, .int .u64 0, .int .u64 0, .int .u8 0]) := putL_bel (Nat.le_succ _) _ 0 _ (HB0.out.trans (HF.out.mono HB0.out.size))
 generalize putL we (w.heap.size + 1) 0 [.int .i64 2, .int .u32 0, .int .u32 0, .int .u64 0, .int .u32 0, .int .i64 0, .int .i64 0, .int .u64 0, .int .u64 no, .int .u32 nd, .int .u32 rg, .bool false, .int .u64 0, .int .u64 0, .int .u8 0] = w30 at *
 obtain ⟨k0, k1, k2, k3, k4, k5, k6, k7, k8, k9, k10, k11, k12, k13, k14⟩ := r15 hrow
 exact bodyPost_ret (v := .agg #[.int .i64 2, .int .u32 0, .int .u32 0, .int .u64 0, .int .u32 0, .int .i64 0, .int .i64 0, .int .u64 0, .int .u64 no, .int .u32 nd, .int .u32 rg, .bool false, .int .u64 0, .int .u64 0, .int .u8 0]) (by simp [results, Tryz.results51, go_sem, k0, k1, k2, k3, k4, k5, k6, k7, k8, k9, k10, k11, k12, k13, k14]) rfl ⟨rfl, hbk⟩

theorem rbare3_any (n m t q at0 no nd rg fr un lv : Nat) (wh wy : Int) (ys : Bool) (w : World) : Calls Tryz.prog 51 #[.agg #[.int .i64 3, .int .u32 n, .int .u32 m, .int .u64 t, .int .u32 q, .int .i64 wh, .int .i64 wy, .int .u64 at0, .int .u64 no, .int .u32 nd, .int .u32 rg, .bool ys, .int .u64 fr, .int .u64 un, .int .u8 lv]] w fun e w' => e = .returned (.agg #[.int .i64 3, .int .u32 0, .int .u32 0, .int .u64 0, .int .u32 0, .int .i64 0, .int .i64 0, .int .u64 0, .int .u64 no, .int .u32 nd, .int .u32 rg, .bool ys, .int .u64 0, .int .u64 un, .int .u8 0]) ∧ Below w.heap.size w w' := by
 obtain ⟨W, hW⟩ : ∃ W, W = (w.alloc (.cells #[.int .i64 3, .int .u32 n, .int .u32 m, .int .u64 t, .int .u32 q, .int .i64 wh, .int .i64 wy, .int .u64 at0, .int .u64 no, .int .u32 nd, .int .u32 rg, .bool ys, .int .u64 fr, .int .u64 un, .int .u8 lv] 32)).alloc (.cells #[.int .i64 0, .int .u32 0, .int .u32 0, .int .u64 0, .int .u32 0, .int .i64 0, .int .i64 0, .int .u64 0, .int .u64 0, .int .u32 0, .int .u32 0, .bool false, .int .u64 0, .int .u64 0, .int .u8 0] 32) := ⟨_, rfl⟩
 have HB0 : Hid (Below w.heap.size w W) := by rw [hW]; exact below_al (below_al bR _) _
 have HS0 : Hid (W.heap.size = w.heap.size + 2) := by rw [Hid, hW]; simp
 have HX : Hid (∀ w', Below W.heap.size W w' → w'.cell? ⟨w.heap.size, 0, none⟩ = some (.int .i64 3) ∧ w'.cell? ⟨w.heap.size, 1, none⟩ = some (.int .u32 n) ∧ w'.cell? ⟨w.heap.size, 2, none⟩ = some (.int .u32 m) ∧ w'.cell? ⟨w.heap.size, 3, none⟩ = some (.int .u64 t) ∧ w'.cell? ⟨w.heap.size, 4, none⟩ = some (.int .u32 q) ∧ w'.cell? ⟨w.heap.size, 5, none⟩ = some (.int .i64 wh) ∧ w'.cell? ⟨w.heap.size, 6, none⟩ = some (.int .i64 wy) ∧ w'.cell? ⟨w.heap.size, 7, none⟩ = some (.int .u64 at0) ∧ w'.cell? ⟨w.heap.size, 8, none⟩ = some (.int .u64 no) ∧ w'.cell? ⟨w.heap.size, 9, none⟩ = some (.int .u32 nd) ∧ w'.cell? ⟨w.heap.size, 10, none⟩ = some (.int .u32 rg) ∧ w'.cell? ⟨w.heap.size, 11, none⟩ = some (.bool ys) ∧ w'.cell? ⟨w.heap.size, 12, none⟩ = some (.int .u64 fr) ∧ w'.cell? ⟨w.heap.size, 13, none⟩ = some (.int .u64 un) ∧ w'.cell? ⟨w.heap.size, 14, none⟩ = some (.int .u8 lv)) := fun w' h => by
  rw [hW] at h
  have h1 := below_on (below_al (Below.refl _ (w.alloc (.cells #[.int .i64 3, .int .u32 n, .int .u32 m, .int .u64 t, .int .u32 q, .int .i64 wh, .int .i64 wy, .int .u64 at0, .int .u64 no, .int .u32 nd, .int .u32 rg, .bool ys, .int .u64 fr, .int .u64 un, .int .u8 lv] 32))) (.cells #[.int .i64 0, .int .u32 0, .int .u32 0, .int .u64 0, .int .u32 0, .int .i64 0, .int .i64 0, .int .u64 0, .int .u64 0, .int .u32 0, .int .u32 0, .bool false, .int .u64 0, .int .u64 0, .int .u8 0] 32)) h
  exact ⟨box_at h1 0, box_at h1 1, box_at h1 2, box_at h1 3, box_at h1 4, box_at h1 5, box_at h1 6, box_at h1 7, box_at h1 8, box_at h1 9, box_at h1 10, box_at h1 11, box_at h1 12, box_at h1 13, box_at h1 14⟩
 have HR2 : Hid (∀ w', Below W.heap.size W w' → RowB w' (w.heap.size + 1) [.int .i64 0, .int .u32 0, .int .u32 0, .int .u64 0, .int .u32 0, .int .i64 0, .int .i64 0, .int .u64 0, .int .u64 0, .int .u32 0, .int .u32 0, .bool false, .int .u64 0, .int .u64 0, .int .u8 0]) := fun w' h => by
  have h0 : RowB W (w.heap.size + 1) [.int .i64 0, .int .u32 0, .int .u32 0, .int .u64 0, .int .u32 0, .int .i64 0, .int .i64 0, .int .u64 0, .int .u64 0, .int .u32 0, .int .u32 0, .bool false, .int .u64 0, .int .u64 0, .int .u8 0] := by
   rw [hW]
   have h := RowB.new (w.alloc (.cells #[.int .i64 3, .int .u32 n, .int .u32 m, .int .u64 t, .int .u32 q, .int .i64 wh, .int .i64 wy, .int .u64 at0, .int .u64 no, .int .u32 nd, .int .u32 rg, .bool ys, .int .u64 fr, .int .u64 un, .int .u8 lv] 32)) [.int .i64 0, .int .u32 0, .int .u32 0, .int .u64 0, .int .u32 0, .int .i64 0, .int .i64 0, .int .u64 0, .int .u64 0, .int .u32 0, .int .u32 0, .bool false, .int .u64 0, .int .u64 0, .int .u8 0] 32
   rw [World.size_alloc] at h
   exact h
  exact h0.on h (by have := HS0.out; omega)
 obtain ⟨w3, hw3⟩ : ∃ w3, w3 = W.alloc (.cells #[.int .i64 3, .int .u32 0, .int .u32 0, .int .u64 0, .int .u32 0, .int .i64 0, .int .i64 0, .int .u64 0, .int .u64 0, .int .u32 0, .int .u32 0, .bool false, .int .u64 0, .int .u64 0, .int .u8 0] 32) := ⟨_, rfl⟩
 have F : Below W.heap.size W w3 := by rw [hw3]; exact below_al bR _
 have R : RowB w3 W.heap.size [.int .i64 3, .int .u32 0, .int .u32 0, .int .u64 0, .int .u32 0, .int .i64 0, .int .i64 0, .int .u64 0, .int .u64 0, .int .u32 0, .int .u32 0, .bool false, .int .u64 0, .int .u64 0, .int .u8 0] := by rw [hw3]; exact RowB.new W _ _
 have HW := h_ hW
 have HW3 := h_ hw3
 obtain ⟨x0, x1, x2, x3, x4, x5, x6, x7, x8, x9, x10, x11, x12, x13, x14⟩ := HX.out W bR
 rw [HW.out] at x0 x1 x2 x3 x4 x5 x6 x7 x8 x9 x10 x11 x12 x13 x14
 clear hW hw3
 go_enter Tryz.func51, Tryz.ntmps51
 go_upto_region 8 with fail
 rw [← HW.out]
 rw [← HW3.out]
 clear x0 x1 x2 x3 x4 x5 x6 x7 x8 x9 x10 x11 x12 x13 x14
 have hsz : w.heap.size + 1 + 1 = W.heap.size := by have := HS0.out; omega
 rw [hsz]
 clear hsz
 replace F := F.drew
 replace R : RowB w3.drew W.heap.size [.int .i64 3, .int .u32 0, .int .u32 0, .int .u64 0, .int .u32 0, .int .i64 0, .int .i64 0, .int .u64 0, .int .u64 0, .int .u32 0, .int .u32 0, .bool false, .int .u64 0, .int .u64 0, .int .u8 0] := R
 refine wp_region_held_drew (S := (fun w' => w'.cell? ⟨w.heap.size, 0, none⟩ = some (.int .i64 3) ∧ w'.cell? ⟨w.heap.size, 1, none⟩ = some (.int .u32 n) ∧ w'.cell? ⟨w.heap.size, 2, none⟩ = some (.int .u32 m) ∧ w'.cell? ⟨w.heap.size, 3, none⟩ = some (.int .u64 t) ∧ w'.cell? ⟨w.heap.size, 4, none⟩ = some (.int .u32 q) ∧ w'.cell? ⟨w.heap.size, 5, none⟩ = some (.int .i64 wh) ∧ w'.cell? ⟨w.heap.size, 6, none⟩ = some (.int .i64 wy) ∧ w'.cell? ⟨w.heap.size, 7, none⟩ = some (.int .u64 at0) ∧ w'.cell? ⟨w.heap.size, 8, none⟩ = some (.int .u64 no) ∧ w'.cell? ⟨w.heap.size, 9, none⟩ = some (.int .u32 nd) ∧ w'.cell? ⟨w.heap.size, 10, none⟩ = some (.int .u32 rg) ∧ w'.cell? ⟨w.heap.size, 11, none⟩ = some (.bool ys) ∧ w'.cell? ⟨w.heap.size, 12, none⟩ = some (.int .u64 fr) ∧ w'.cell? ⟨w.heap.size, 13, none⟩ = some (.int .u64 un) ∧ w'.cell? ⟨w.heap.size, 14, none⟩ = some (.int .u8 lv))) (by kernel_rfl) (HX.out _ F) (fun hHeld => ?_)
 generalize w3.drew = v0 at *
 refine takeL 0 (v := ?_) ?_ ‹_› ?_
 rotate_left
 ·intro w hSw; go_simp; all_goals with_reducible rfl
 simp only [Act.put, zA, zB, zC]
 refine takeL 1 (v := ?_) ?_ ‹_› ?_
 rotate_left
 ·intro w hSw; go_simp; all_goals with_reducible rfl
 simp only [Act.put, zA, zB, zC]
 refine takeL 2 (v := ?_) ?_ ‹_› ?_
 rotate_left
 ·intro w hSw; go_simp; all_goals with_reducible rfl
 simp only [Act.put, zA, zB, zC]
 refine takeL 3 (v := ?_) ?_ ‹_› ?_
 rotate_left
 ·intro w hSw; go_simp; all_goals with_reducible rfl
 simp only [Act.put, zA, zB, zC]
 refine takeL 4 (v := ?_) ?_ ‹_› ?_
 rotate_left
 ·intro w hSw; go_simp; all_goals with_reducible rfl
 simp only [Act.put, zA, zB, zC]
 refine takeL 5 (v := ?_) ?_ ‹_› ?_
 rotate_left
 ·intro w hSw; go_simp; all_goals with_reducible rfl
 simp only [Act.put, zA, zB, zC]
 refine takeL 6 (v := ?_) ?_ ‹_› ?_
 rotate_left
 ·intro w hSw; go_simp; all_goals with_reducible rfl
 simp only [Act.put, zA, zB, zC]
 refine takeL 7 (v := ?_) ?_ ‹_› ?_
 rotate_left
 ·intro w hSw; go_simp; all_goals with_reducible rfl
 simp only [Act.put, zA, zB, zC]
 refine takeL 8 (v := ?_) ?_ ‹_› ?_
 rotate_left
 ·intro w hSw; go_simp; all_goals with_reducible rfl
 simp only [Act.put, zA, zB, zC]
 refine takeL 9 (v := ?_) ?_ ‹_› ?_
 rotate_left
 ·intro w hSw; go_simp; all_goals with_reducible rfl
 simp only [Act.put, zA, zB, zC]
 refine takeL 10 (v := ?_) ?_ ‹_› ?_
 rotate_left
 ·intro w hSw; go_simp; all_goals with_reducible rfl
 simp only [Act.put, zA, zB, zC]
 refine wpAnyH_ready (rs := [11]) (by kernel_rfl) (by simp) (.cons rfl (fun K hK => ?_) .nil)
 have c8 := R.1 8 _ rfl
 have f8 := R.2 8
 go_simp
 replace R := R.set 8 (.int .u64 no)
 replace F := F.setCell (p := ⟨W.heap.size, 8, none⟩) (Nat.le_refl _) (.int .u64 no)
 clear c8 f8
 simp only [zB, zC] at R
 refine hK.out _ _ (HX.out _ F) (fun hHeld => ?_)
 clear hK K
 try simp only [Act.put, zA, zB, zC]
 refine takeL 12 (v := ?_) ?_ ‹_› ?_
 rotate_left
 ·intro w hSw; go_simp; all_goals with_reducible rfl
 simp only [Act.put, zA, zB, zC]
 refine wpAnyH_ready (rs := [13]) (by kernel_rfl) (by simp) (.cons rfl (fun K hK => ?_) .nil)
 have c9 := R.1 9 _ rfl
 have f9 := R.2 9
 go_simp
 replace R := R.set 9 (.int .u32 nd)
 replace F := F.setCell (p := ⟨W.heap.size, 9, none⟩) (Nat.le_refl _) (.int .u32 nd)
 clear c9 f9
 simp only [zB, zC] at R
 refine hK.out _ _ (HX.out _ F) (fun hHeld => ?_)
 clear hK K
 try simp only [Act.put, zA, zB, zC]
 refine takeL 14 (v := ?_) ?_ ‹_› ?_
 rotate_left
 ·intro w hSw; go_simp; all_goals with_reducible rfl
 simp only [Act.put, zA, zB, zC]
 refine wpAnyH_ready (rs := [15]) (by kernel_rfl) (by simp) (.cons rfl (fun K hK => ?_) .nil)
 have c10 := R.1 10 _ rfl
 have f10 := R.2 10
 go_simp
 replace R := R.set 10 (.int .u32 rg)
 replace F := F.setCell (p := ⟨W.heap.size, 10, none⟩) (Nat.le_refl _) (.int .u32 rg)
 clear c10 f10
 simp only [zB, zC] at R
 refine hK.out _ _ (HX.out _ F) (fun hHeld => ?_)
 clear hK K
 try simp only [Act.put, zA, zB, zC]
 refine takeL 16 (v := ?_) ?_ ‹_› ?_
 rotate_left
 ·intro w hSw; go_simp; all_goals with_reducible rfl
 simp only [Act.put, zA, zB, zC]
 refine wpAnyH_ready (rs := [17]) (by kernel_rfl) (by simp) (.cons rfl (fun K hK => ?_) .nil)
 have c11 := R.1 11 _ rfl
 have f11 := R.2 11
 go_simp
 replace R := R.set 11 (.bool ys)
 replace F := F.setCell (p := ⟨W.heap.size, 11, none⟩) (Nat.le_refl _) (.bool ys)
 clear c11 f11
 simp only [zB, zC] at R
 refine hK.out _ _ (HX.out _ F) (fun hHeld => ?_)
 clear hK K
 try simp only [Act.put, zA, zB, zC]
 refine takeL 18 (v := ?_) ?_ ‹_› ?_
 rotate_left
 ·intro w hSw; go_simp; all_goals with_reducible rfl
 simp only [Act.put, zA, zB, zC]
 refine wpAnyH_ready (rs := [19]) (by kernel_rfl) (by simp) (.cons rfl (fun K hK => ?_) .nil)
 have c13 := R.1 13 _ rfl
 have f13 := R.2 13
 go_simp
 replace R := R.set 13 (.int .u64 un)
 replace F := F.setCell (p := ⟨W.heap.size, 13, none⟩) (Nat.le_refl _) (.int .u64 un)
 clear c13 f13
 simp only [zB, zC] at R
 refine hK.out _ _ (HX.out _ F) (fun hHeld => ?_)
 clear hK K
 try simp only [Act.put, zA, zB, zC]
 clear hHeld
 refine wpAnyH_done (by kernel_rfl) ?_ _
 have T := HR2.out _ F
 generalize (((((v0.setCell ⟨W.heap.size, 8, none⟩ (.int .u64 no)).setCell ⟨W.heap.size, 9, none⟩ (.int .u32 nd)).setCell ⟨W.heap.size, 10, none⟩ (.int .u32 rg)).setCell ⟨W.heap.size, 11, none⟩ (.bool ys)).setCell ⟨W.heap.size, 13, none⟩ (.int .u64 un)) = we at *
 have HF := h_ F
 have HT := h_ T
 have HR := h_ R
 clear F T R
 have y0 := HR.out.1 0 _ rfl
 have t0 := HT.out.1 0 _ rfl
 have g0 := HT.out.2 0
 have y1 := HR.out.1 1 _ rfl
 have t1 := HT.out.1 1 _ rfl
 have g1 := HT.out.2 1
 have y2 := HR.out.1 2 _ rfl
 have t2 := HT.out.1 2 _ rfl
 have g2 := HT.out.2 2
 have y3 := HR.out.1 3 _ rfl
 have t3 := HT.out.1 3 _ rfl
 have g3 := HT.out.2 3
 have y4 := HR.out.1 4 _ rfl
 have t4 := HT.out.1 4 _ rfl
 have g4 := HT.out.2 4
 have y5 := HR.out.1 5 _ rfl
 have t5 := HT.out.1 5 _ rfl
 have g5 := HT.out.2 5
 have y6 := HR.out.1 6 _ rfl
 have t6 := HT.out.1 6 _ rfl
 have g6 := HT.out.2 6
 have y7 := HR.out.1 7 _ rfl
 have t7 := HT.out.1 7 _ rfl
 have g7 := HT.out.2 7
 have y8 := HR.out.1 8 _ rfl
 have t8 := HT.out.1 8 _ rfl
 have g8 := HT.out.2 8
 have y9 := HR.out.1 9 _ rfl
 have t9 := HT.out.1 9 _ rfl
 have g9 := HT.out.2 9
 have y10 := HR.out.1 10 _ rfl
 have t10 := HT.out.1 10 _ rfl
 have g10 := HT.out.2 10
 have y11 := HR.out.1 11 _ rfl
 have t11 := HT.out.1 11 _ rfl
 have g11 := HT.out.2 11
 have y12 := HR.out.1 12 _ rfl
 have t12 := HT.out.1 12 _ rfl
 have g12 := HT.out.2 12
 have y13 := HR.out.1 13 _ rfl
 have t13 := HT.out.1 13 _ rfl
 have g13 := HT.out.2 13
 have y14 := HR.out.1 14 _ rfl
 have t14 := HT.out.1 14 _ rfl
 have g14 := HT.out.2 14
 go_wp2_with fail
 change bodyPost _ _ _ _ _ (putL we (w.heap.size + 1) 0 [.int .i64 3, .int .u32 0, .int .u32 0, .int .u64 0, .int .u32 0, .int .i64 0, .int .i64 0, .int .u64 0, .int .u64 no, .int .u32 nd, .int .u32 rg, .bool ys, .int .u64 0, .int .u64 un, .int .u8 0])
 have hrow : RowB (putL we (w.heap.size + 1) 0 [.int .i64 3, .int .u32 0, .int .u32 0, .int .u64 0, .int .u32 0, .int .i64 0, .int .i64 0, .int .u64 0, .int .u64 no, .int .u32 nd, .int .u32 rg, .bool ys, .int .u64 0, .int .u64 un, .int .u8 0]) (w.heap.size + 1) [.int .i64 3, .int .u32 0, .int .u32 0, .int .u64 0, .int .u32 0, .int .i64 0, .int .i64 0, .int .u64 0, .int .u64 no, .int .u32 nd, .int .u32 rg, .bool ys, .int .u64 0, .int .u64 un, .int .u8 0] := putL_row _ _ 0 _ HT.out
 have hbk : Below w.heap.size w (putL we (w.heap.size + 1) 0 [.int .i64 3, .int .u32 0, .int .u32 0, .int .u64 0, .int .u32 0, .int .i64 0, .int .i64 0, .int .u64 0, .int .u64 no, .int .u32 nd, .int .u32 rg, .bool ys, .int .u64 0, .int .u64 un, .int .u8 0]) := putL_bel (Nat.le_succ _) _ 0 _ (HB0.out.trans (HF.out.mono HB0.out.size))
 generalize putL we (w.heap.size + 1) 0 [.int .i64 3, .int .u32 0, .int .u32 0, .int .u64 0, .int .u32 0, .int .i64 0, .int .i64 0, .int .u64 0, .int .u64 no, .int .u32 nd, .int .u32 rg, .bool ys, .int .u64 0, .int .u64 un, .int .u8 0] = w30 at *
 obtain ⟨k0, k1, k2, k3, k4, k5, k6, k7, k8, k9, k10, k11, k12, k13, k14⟩ := r15 hrow
 exact bodyPost_ret (v := .agg #[.int .i64 3, .int .u32 0, .int .u32 0, .int .u64 0, .int .u32 0, .int .i64 0, .int .i64 0, .int .u64 0, .int .u64 no, .int .u32 nd, .int .u32 rg, .bool ys, .int .u64 0, .int .u64 un, .int .u8 0]) (by simp [results, Tryz.results51, go_sem, k0, k1, k2, k3, k4, k5, k6, k7, k8, k9, k10, k11, k12, k13, k14]) rfl ⟨rfl, hbk⟩

theorem rbare4_any (n m t q at0 no nd rg fr un lv : Nat) (wh wy : Int) (ys : Bool) (w : World) : Calls Tryz.prog 51 #[.agg #[.int .i64 4, .int .u32 n, .int .u32 m, .int .u64 t, .int .u32 q, .int .i64 wh, .int .i64 wy, .int .u64 at0, .int .u64 no, .int .u32 nd, .int .u32 rg, .bool ys, .int .u64 fr, .int .u64 un, .int .u8 lv]] w fun e w' => e = .returned (.agg #[.int .i64 4, .int .u32 0, .int .u32 0, .int .u64 0, .int .u32 0, .int .i64 0, .int .i64 0, .int .u64 0, .int .u64 0, .int .u32 nd, .int .u32 0, .bool false, .int .u64 fr, .int .u64 un, .int .u8 lv]) ∧ Below w.heap.size w w' := by
 obtain ⟨W, hW⟩ : ∃ W, W = (w.alloc (.cells #[.int .i64 4, .int .u32 n, .int .u32 m, .int .u64 t, .int .u32 q, .int .i64 wh, .int .i64 wy, .int .u64 at0, .int .u64 no, .int .u32 nd, .int .u32 rg, .bool ys, .int .u64 fr, .int .u64 un, .int .u8 lv] 32)).alloc (.cells #[.int .i64 0, .int .u32 0, .int .u32 0, .int .u64 0, .int .u32 0, .int .i64 0, .int .i64 0, .int .u64 0, .int .u64 0, .int .u32 0, .int .u32 0, .bool false, .int .u64 0, .int .u64 0, .int .u8 0] 32) := ⟨_, rfl⟩
 have HB0 : Hid (Below w.heap.size w W) := by rw [hW]; exact below_al (below_al bR _) _
 have HS0 : Hid (W.heap.size = w.heap.size + 2) := by rw [Hid, hW]; simp
 have HX : Hid (∀ w', Below W.heap.size W w' → w'.cell? ⟨w.heap.size, 0, none⟩ = some (.int .i64 4) ∧ w'.cell? ⟨w.heap.size, 1, none⟩ = some (.int .u32 n) ∧ w'.cell? ⟨w.heap.size, 2, none⟩ = some (.int .u32 m) ∧ w'.cell? ⟨w.heap.size, 3, none⟩ = some (.int .u64 t) ∧ w'.cell? ⟨w.heap.size, 4, none⟩ = some (.int .u32 q) ∧ w'.cell? ⟨w.heap.size, 5, none⟩ = some (.int .i64 wh) ∧ w'.cell? ⟨w.heap.size, 6, none⟩ = some (.int .i64 wy) ∧ w'.cell? ⟨w.heap.size, 7, none⟩ = some (.int .u64 at0) ∧ w'.cell? ⟨w.heap.size, 8, none⟩ = some (.int .u64 no) ∧ w'.cell? ⟨w.heap.size, 9, none⟩ = some (.int .u32 nd) ∧ w'.cell? ⟨w.heap.size, 10, none⟩ = some (.int .u32 rg) ∧ w'.cell? ⟨w.heap.size, 11, none⟩ = some (.bool ys) ∧ w'.cell? ⟨w.heap.size, 12, none⟩ = some (.int .u64 fr) ∧ w'.cell? ⟨w.heap.size, 13, none⟩ = some (.int .u64 un) ∧ w'.cell? ⟨w.heap.size, 14, none⟩ = some (.int .u8 lv)) := fun w' h => by
  rw [hW] at h
  have h1 := below_on (below_al (Below.refl _ (w.alloc (.cells #[.int .i64 4, .int .u32 n, .int .u32 m, .int .u64 t, .int .u32 q, .int .i64 wh, .int .i64 wy, .int .u64 at0, .int .u64 no, .int .u32 nd, .int .u32 rg, .bool ys, .int .u64 fr, .int .u64 un, .int .u8 lv] 32))) (.cells #[.int .i64 0, .int .u32 0, .int .u32 0, .int .u64 0, .int .u32 0, .int .i64 0, .int .i64 0, .int .u64 0, .int .u64 0, .int .u32 0, .int .u32 0, .bool false, .int .u64 0, .int .u64 0, .int .u8 0] 32)) h
  exact ⟨box_at h1 0, box_at h1 1, box_at h1 2, box_at h1 3, box_at h1 4, box_at h1 5, box_at h1 6, box_at h1 7, box_at h1 8, box_at h1 9, box_at h1 10, box_at h1 11, box_at h1 12, box_at h1 13, box_at h1 14⟩
 have HR2 : Hid (∀ w', Below W.heap.size W w' → RowB w' (w.heap.size + 1) [.int .i64 0, .int .u32 0, .int .u32 0, .int .u64 0, .int .u32 0, .int .i64 0, .int .i64 0, .int .u64 0, .int .u64 0, .int .u32 0, .int .u32 0, .bool false, .int .u64 0, .int .u64 0, .int .u8 0]) := fun w' h => by
  have h0 : RowB W (w.heap.size + 1) [.int .i64 0, .int .u32 0, .int .u32 0, .int .u64 0, .int .u32 0, .int .i64 0, .int .i64 0, .int .u64 0, .int .u64 0, .int .u32 0, .int .u32 0, .bool false, .int .u64 0, .int .u64 0, .int .u8 0] := by
   rw [hW]
   have h := RowB.new (w.alloc (.cells #[.int .i64 4, .int .u32 n, .int .u32 m, .int .u64 t, .int .u32 q, .int .i64 wh, .int .i64 wy, .int .u64 at0, .int .u64 no, .int .u32 nd, .int .u32 rg, .bool ys, .int .u64 fr, .int .u64 un, .int .u8 lv] 32)) [.int .i64 0, .int .u32 0, .int .u32 0, .int .u64 0, .int .u32 0, .int .i64 0, .int .i64 0, .int .u64 0, .int .u64 0, .int .u32 0, .int .u32 0, .bool false, .int .u64 0, .int .u64 0, .int .u8 0] 32
   rw [World.size_alloc] at h
   exact h
  exact h0.on h (by have := HS0.out; omega)
 obtain ⟨w3, hw3⟩ : ∃ w3, w3 = W.alloc (.cells #[.int .i64 4, .int .u32 0, .int .u32 0, .int .u64 0, .int .u32 0, .int .i64 0, .int .i64 0, .int .u64 0, .int .u64 0, .int .u32 0, .int .u32 0, .bool false, .int .u64 0, .int .u64 0, .int .u8 0] 32) := ⟨_, rfl⟩
 have F : Below W.heap.size W w3 := by rw [hw3]; exact below_al bR _
 have R : RowB w3 W.heap.size [.int .i64 4, .int .u32 0, .int .u32 0, .int .u64 0, .int .u32 0, .int .i64 0, .int .i64 0, .int .u64 0, .int .u64 0, .int .u32 0, .int .u32 0, .bool false, .int .u64 0, .int .u64 0, .int .u8 0] := by rw [hw3]; exact RowB.new W _ _
 have HW := h_ hW
 have HW3 := h_ hw3
 obtain ⟨x0, x1, x2, x3, x4, x5, x6, x7, x8, x9, x10, x11, x12, x13, x14⟩ := HX.out W bR
 rw [HW.out] at x0 x1 x2 x3 x4 x5 x6 x7 x8 x9 x10 x11 x12 x13 x14
 clear hW hw3
 go_enter Tryz.func51, Tryz.ntmps51
 go_upto_region 10 with fail
 rw [← HW.out]
 rw [← HW3.out]
 clear x0 x1 x2 x3 x4 x5 x6 x7 x8 x9 x10 x11 x12 x13 x14
 have hsz : w.heap.size + 1 + 1 = W.heap.size := by have := HS0.out; omega
 rw [hsz]
 clear hsz
 replace F := F.drew
 replace R : RowB w3.drew W.heap.size [.int .i64 4, .int .u32 0, .int .u32 0, .int .u64 0, .int .u32 0, .int .i64 0, .int .i64 0, .int .u64 0, .int .u64 0, .int .u32 0, .int .u32 0, .bool false, .int .u64 0, .int .u64 0, .int .u8 0] := R
 refine wp_region_held_drew (S := (fun w' => w'.cell? ⟨w.heap.size, 0, none⟩ = some (.int .i64 4) ∧ w'.cell? ⟨w.heap.size, 1, none⟩ = some (.int .u32 n) ∧ w'.cell? ⟨w.heap.size, 2, none⟩ = some (.int .u32 m) ∧ w'.cell? ⟨w.heap.size, 3, none⟩ = some (.int .u64 t) ∧ w'.cell? ⟨w.heap.size, 4, none⟩ = some (.int .u32 q) ∧ w'.cell? ⟨w.heap.size, 5, none⟩ = some (.int .i64 wh) ∧ w'.cell? ⟨w.heap.size, 6, none⟩ = some (.int .i64 wy) ∧ w'.cell? ⟨w.heap.size, 7, none⟩ = some (.int .u64 at0) ∧ w'.cell? ⟨w.heap.size, 8, none⟩ = some (.int .u64 no) ∧ w'.cell? ⟨w.heap.size, 9, none⟩ = some (.int .u32 nd) ∧ w'.cell? ⟨w.heap.size, 10, none⟩ = some (.int .u32 rg) ∧ w'.cell? ⟨w.heap.size, 11, none⟩ = some (.bool ys) ∧ w'.cell? ⟨w.heap.size, 12, none⟩ = some (.int .u64 fr) ∧ w'.cell? ⟨w.heap.size, 13, none⟩ = some (.int .u64 un) ∧ w'.cell? ⟨w.heap.size, 14, none⟩ = some (.int .u8 lv))) (by kernel_rfl) (HX.out _ F) (fun hHeld => ?_)
 generalize w3.drew = v0 at *
 refine takeL 0 (v := ?_) ?_ ‹_› ?_
 rotate_left
 ·intro w hSw; go_simp; all_goals with_reducible rfl
 simp only [Act.put, zA, zB, zC]
 refine takeL 1 (v := ?_) ?_ ‹_› ?_
 rotate_left
 ·intro w hSw; go_simp; all_goals with_reducible rfl
 simp only [Act.put, zA, zB, zC]
 refine takeL 2 (v := ?_) ?_ ‹_› ?_
 rotate_left
 ·intro w hSw; go_simp; all_goals with_reducible rfl
 simp only [Act.put, zA, zB, zC]
 refine takeL 3 (v := ?_) ?_ ‹_› ?_
 rotate_left
 ·intro w hSw; go_simp; all_goals with_reducible rfl
 simp only [Act.put, zA, zB, zC]
 refine takeL 4 (v := ?_) ?_ ‹_› ?_
 rotate_left
 ·intro w hSw; go_simp; all_goals with_reducible rfl
 simp only [Act.put, zA, zB, zC]
 refine takeL 5 (v := ?_) ?_ ‹_› ?_
 rotate_left
 ·intro w hSw; go_simp; all_goals with_reducible rfl
 simp only [Act.put, zA, zB, zC]
 refine takeL 6 (v := ?_) ?_ ‹_› ?_
 rotate_left
 ·intro w hSw; go_simp; all_goals with_reducible rfl
 simp only [Act.put, zA, zB, zC]
 refine takeL 7 (v := ?_) ?_ ‹_› ?_
 rotate_left
 ·intro w hSw; go_simp; all_goals with_reducible rfl
 simp only [Act.put, zA, zB, zC]
 refine takeL 8 (v := ?_) ?_ ‹_› ?_
 rotate_left
 ·intro w hSw; go_simp; all_goals with_reducible rfl
 simp only [Act.put, zA, zB, zC]
 refine wpAnyH_ready (rs := [9]) (by kernel_rfl) (by simp) (.cons rfl (fun K hK => ?_) .nil)
 have c9 := R.1 9 _ rfl
 have f9 := R.2 9
 go_simp
 replace R := R.set 9 (.int .u32 nd)
 replace F := F.setCell (p := ⟨W.heap.size, 9, none⟩) (Nat.le_refl _) (.int .u32 nd)
 clear c9 f9
 simp only [zB, zC] at R
 refine hK.out _ _ (HX.out _ F) (fun hHeld => ?_)
 clear hK K
 try simp only [Act.put, zA, zB, zC]
 refine takeL 10 (v := ?_) ?_ ‹_› ?_
 rotate_left
 ·intro w hSw; go_simp; all_goals with_reducible rfl
 simp only [Act.put, zA, zB, zC]
 refine wpAnyH_ready (rs := [11]) (by kernel_rfl) (by simp) (.cons rfl (fun K hK => ?_) .nil)
 have c12 := R.1 12 _ rfl
 have f12 := R.2 12
 go_simp
 replace R := R.set 12 (.int .u64 fr)
 replace F := F.setCell (p := ⟨W.heap.size, 12, none⟩) (Nat.le_refl _) (.int .u64 fr)
 clear c12 f12
 simp only [zB, zC] at R
 refine hK.out _ _ (HX.out _ F) (fun hHeld => ?_)
 clear hK K
 try simp only [Act.put, zA, zB, zC]
 refine takeL 12 (v := ?_) ?_ ‹_› ?_
 rotate_left
 ·intro w hSw; go_simp; all_goals with_reducible rfl
 simp only [Act.put, zA, zB, zC]
 refine wpAnyH_ready (rs := [13]) (by kernel_rfl) (by simp) (.cons rfl (fun K hK => ?_) .nil)
 have c13 := R.1 13 _ rfl
 have f13 := R.2 13
 go_simp
 replace R := R.set 13 (.int .u64 un)
 replace F := F.setCell (p := ⟨W.heap.size, 13, none⟩) (Nat.le_refl _) (.int .u64 un)
 clear c13 f13
 simp only [zB, zC] at R
 refine hK.out _ _ (HX.out _ F) (fun hHeld => ?_)
 clear hK K
 try simp only [Act.put, zA, zB, zC]
 refine takeL 14 (v := ?_) ?_ ‹_› ?_
 rotate_left
 ·intro w hSw; go_simp; all_goals with_reducible rfl
 simp only [Act.put, zA, zB, zC]
 refine wpAnyH_ready (rs := [15]) (by kernel_rfl) (by simp) (.cons rfl (fun K hK => ?_) .nil)
 have c14 := R.1 14 _ rfl
 have f14 := R.2 14
 go_simp
 replace R := R.set 14 (.int .u8 lv)
 replace F := F.setCell (p := ⟨W.heap.size, 14, none⟩) (Nat.le_refl _) (.int .u8 lv)
 clear c14 f14
 simp only [zB, zC] at R
 refine hK.out _ _ (HX.out _ F) (fun hHeld => ?_)
 clear hK K
 try simp only [Act.put, zA, zB, zC]
 clear hHeld
 refine wpAnyH_done (by kernel_rfl) ?_ _
 have T := HR2.out _ F
 generalize ((((v0.setCell ⟨W.heap.size, 9, none⟩ (.int .u32 nd)).setCell ⟨W.heap.size, 12, none⟩ (.int .u64 fr)).setCell ⟨W.heap.size, 13, none⟩ (.int .u64 un)).setCell ⟨W.heap.size, 14, none⟩ (.int .u8 lv)) = we at *
 have HF := h_ F
 have HT := h_ T
 have HR := h_ R
 clear F T R
 have y0 := HR.out.1 0 _ rfl
 have t0 := HT.out.1 0 _ rfl
 have g0 := HT.out.2 0
 have y1 := HR.out.1 1 _ rfl
 have t1 := HT.out.1 1 _ rfl
 have g1 := HT.out.2 1
 have y2 := HR.out.1 2 _ rfl
 have t2 := HT.out.1 2 _ rfl
 have g2 := HT.out.2 2
 have y3 := HR.out.1 3 _ rfl
 have t3 := HT.out.1 3 _ rfl
 have g3 := HT.out.2 3
 have y4 := HR.out.1 4 _ rfl
 have t4 := HT.out.1 4 _ rfl
 have g4 := HT.out.2 4
 have y5 := HR.out.1 5 _ rfl
 have t5 := HT.out.1 5 _ rfl
 have g5 := HT.out.2 5
 have y6 := HR.out.1 6 _ rfl
 have t6 := HT.out.1 6 _ rfl
 have g6 := HT.out.2 6
 have y7 := HR.out.1 7 _ rfl
 have t7 := HT.out.1 7 _ rfl
 have g7 := HT.out.2 7
 have y8 := HR.out.1 8 _ rfl
 have t8 := HT.out.1 8 _ rfl
 have g8 := HT.out.2 8
 have y9 := HR.out.1 9 _ rfl
 have t9 := HT.out.1 9 _ rfl
 have g9 := HT.out.2 9
 have y10 := HR.out.1 10 _ rfl
 have t10 := HT.out.1 10 _ rfl
 have g10 := HT.out.2 10
 have y11 := HR.out.1 11 _ rfl
 have t11 := HT.out.1 11 _ rfl
 have g11 := HT.out.2 11
 have y12 := HR.out.1 12 _ rfl
 have t12 := HT.out.1 12 _ rfl
 have g12 := HT.out.2 12
 have y13 := HR.out.1 13 _ rfl
 have t13 := HT.out.1 13 _ rfl
 have g13 := HT.out.2 13
 have y14 := HR.out.1 14 _ rfl
 have t14 := HT.out.1 14 _ rfl
 have g14 := HT.out.2 14
 go_wp2_with fail
 change bodyPost _ _ _ _ _ (putL we (w.heap.size + 1) 0 [.int .i64 4, .int .u32 0, .int .u32 0, .int .u64 0, .int .u32 0, .int .i64 0, .int .i64 0, .int .u64 0, .int .u64 0, .int .u32 nd, .int .u32 0, .bool false, .int .u64 fr, .int .u64 un, .int .u8 lv])
 have hrow : RowB (putL we (w.heap.size + 1) 0 [.int .i64 4, .int .u32 0, .int .u32 0, .int .u64 0, .int .u32 0, .int .i64 0, .int .i64 0, .int .u64 0, .int .u64 0, .int .u32 nd, .int .u32 0, .bool false, .int .u64 fr, .int .u64 un, .int .u8 lv]) (w.heap.size + 1) [.int .i64 4, .int .u32 0, .int .u32 0, .int .u64 0, .int .u32 0, .int .i64 0, .int .i64 0, .int .u64 0, .int .u64 0, .int .u32 nd, .int .u32 0, .bool false, .int .u64 fr, .int .u64 un, .int .u8 lv] := putL_row _ _ 0 _ HT.out
 have hbk : Below w.heap.size w (putL we (w.heap.size + 1) 0 [.int .i64 4, .int .u32 0, .int .u32 0, .int .u64 0, .int .u32 0, .int .i64 0, .int .i64 0, .int .u64 0, .int .u64 0, .int .u32 nd, .int .u32 0, .bool false, .int .u64 fr, .int .u64 un, .int .u8 lv]) := putL_bel (Nat.le_succ _) _ 0 _ (HB0.out.trans (HF.out.mono HB0.out.size))
 generalize putL we (w.heap.size + 1) 0 [.int .i64 4, .int .u32 0, .int .u32 0, .int .u64 0, .int .u32 0, .int .i64 0, .int .i64 0, .int .u64 0, .int .u64 0, .int .u32 nd, .int .u32 0, .bool false, .int .u64 fr, .int .u64 un, .int .u8 lv] = w30 at *
 obtain ⟨k0, k1, k2, k3, k4, k5, k6, k7, k8, k9, k10, k11, k12, k13, k14⟩ := r15 hrow
 exact bodyPost_ret (v := .agg #[.int .i64 4, .int .u32 0, .int .u32 0, .int .u64 0, .int .u32 0, .int .i64 0, .int .i64 0, .int .u64 0, .int .u64 0, .int .u32 nd, .int .u32 0, .bool false, .int .u64 fr, .int .u64 un, .int .u8 lv]) (by simp [results, Tryz.results51, go_sem, k0, k1, k2, k3, k4, k5, k6, k7, k8, k9, k10, k11, k12, k13, k14]) rfl ⟨rfl, hbk⟩

theorem rbare5_any (n m t q at0 no nd rg fr un lv : Nat) (wh wy : Int) (ys : Bool) (w : World) : Calls Tryz.prog 51 #[.agg #[.int .i64 5, .int .u32 n, .int .u32 m, .int .u64 t, .int .u32 q, .int .i64 wh, .int .i64 wy, .int .u64 at0, .int .u64 no, .int .u32 nd, .int .u32 rg, .bool ys, .int .u64 fr, .int .u64 un, .int .u8 lv]] w fun e w' => e = .returned (.agg #[.int .i64 5, .int .u32 0, .int .u32 0, .int .u64 0, .int .u32 0, .int .i64 0, .int .i64 0, .int .u64 0, .int .u64 no, .int .u32 nd, .int .u32 rg, .bool ys, .int .u64 0, .int .u64 0, .int .u8 0]) ∧ Below w.heap.size w w' := by
 obtain ⟨W, hW⟩ : ∃ W, W = (w.alloc (.cells #[.int .i64 5, .int .u32 n, .int .u32 m, .int .u64 t, .int .u32 q, .int .i64 wh, .int .i64 wy, .int .u64 at0, .int .u64 no, .int .u32 nd, .int .u32 rg, .bool ys, .int .u64 fr, .int .u64 un, .int .u8 lv] 32)).alloc (.cells #[.int .i64 0, .int .u32 0, .int .u32 0, .int .u64 0, .int .u32 0, .int .i64 0, .int .i64 0, .int .u64 0, .int .u64 0, .int .u32 0, .int .u32 0, .bool false, .int .u64 0, .int .u64 0, .int .u8 0] 32) := ⟨_, rfl⟩
 have HB0 : Hid (Below w.heap.size w W) := by rw [hW]; exact below_al (below_al bR _) _
 have HS0 : Hid (W.heap.size = w.heap.size + 2) := by rw [Hid, hW]; simp
 have HX : Hid (∀ w', Below W.heap.size W w' → w'.cell? ⟨w.heap.size, 0, none⟩ = some (.int .i64 5) ∧ w'.cell? ⟨w.heap.size, 1, none⟩ = some (.int .u32 n) ∧ w'.cell? ⟨w.heap.size, 2, none⟩ = some (.int .u32 m) ∧ w'.cell? ⟨w.heap.size, 3, none⟩ = some (.int .u64 t) ∧ w'.cell? ⟨w.heap.size, 4, none⟩ = some (.int .u32 q) ∧ w'.cell? ⟨w.heap.size, 5, none⟩ = some (.int .i64 wh) ∧ w'.cell? ⟨w.heap.size, 6, none⟩ = some (.int .i64 wy) ∧ w'.cell? ⟨w.heap.size, 7, none⟩ = some (.int .u64 at0) ∧ w'.cell? ⟨w.heap.size, 8, none⟩ = some (.int .u64 no) ∧ w'.cell? ⟨w.heap.size, 9, none⟩ = some (.int .u32 nd) ∧ w'.cell? ⟨w.heap.size, 10, none⟩ = some (.int .u32 rg) ∧ w'.cell? ⟨w.heap.size, 11, none⟩ = some (.bool ys) ∧ w'.cell? ⟨w.heap.size, 12, none⟩ = some (.int .u64 fr) ∧ w'.cell? ⟨w.heap.size, 13, none⟩ = some (.int .u64 un) ∧ w'.cell? ⟨w.heap.size, 14, none⟩ = some (.int .u8 lv)) := fun w' h => by
  rw [hW] at h
  have h1 := below_on (below_al (Below.refl _ (w.alloc (.cells #[.int .i64 5, .int .u32 n, .int .u32 m, .int .u64 t, .int .u32 q, .int .i64 wh, .int .i64 wy, .int .u64 at0, .int .u64 no, .int .u32 nd, .int .u32 rg, .bool ys, .int .u64 fr, .int .u64 un, .int .u8 lv] 32))) (.cells #[.int .i64 0, .int .u32 0, .int .u32 0, .int .u64 0, .int .u32 0, .int .i64 0, .int .i64 0, .int .u64 0, .int .u64 0, .int .u32 0, .int .u32 0, .bool false, .int .u64 0, .int .u64 0, .int .u8 0] 32)) h
  exact ⟨box_at h1 0, box_at h1 1, box_at h1 2, box_at h1 3, box_at h1 4, box_at h1 5, box_at h1 6, box_at h1 7, box_at h1 8, box_at h1 9, box_at h1 10, box_at h1 11, box_at h1 12, box_at h1 13, box_at h1 14⟩
 have HR2 : Hid (∀ w', Below W.heap.size W w' → RowB w' (w.heap.size + 1) [.int .i64 0, .int .u32 0, .int .u32 0, .int .u64 0, .int .u32 0, .int .i64 0, .int .i64 0, .int .u64 0, .int .u64 0, .int .u32 0, .int .u32 0, .bool false, .int .u64 0, .int .u64 0, .int .u8 0]) := fun w' h => by
  have h0 : RowB W (w.heap.size + 1) [.int .i64 0, .int .u32 0, .int .u32 0, .int .u64 0, .int .u32 0, .int .i64 0, .int .i64 0, .int .u64 0, .int .u64 0, .int .u32 0, .int .u32 0, .bool false, .int .u64 0, .int .u64 0, .int .u8 0] := by
   rw [hW]
   have h := RowB.new (w.alloc (.cells #[.int .i64 5, .int .u32 n, .int .u32 m, .int .u64 t, .int .u32 q, .int .i64 wh, .int .i64 wy, .int .u64 at0, .int .u64 no, .int .u32 nd, .int .u32 rg, .bool ys, .int .u64 fr, .int .u64 un, .int .u8 lv] 32)) [.int .i64 0, .int .u32 0, .int .u32 0, .int .u64 0, .int .u32 0, .int .i64 0, .int .i64 0, .int .u64 0, .int .u64 0, .int .u32 0, .int .u32 0, .bool false, .int .u64 0, .int .u64 0, .int .u8 0] 32
   rw [World.size_alloc] at h
   exact h
  exact h0.on h (by have := HS0.out; omega)
 obtain ⟨w3, hw3⟩ : ∃ w3, w3 = W.alloc (.cells #[.int .i64 5, .int .u32 0, .int .u32 0, .int .u64 0, .int .u32 0, .int .i64 0, .int .i64 0, .int .u64 0, .int .u64 0, .int .u32 0, .int .u32 0, .bool false, .int .u64 0, .int .u64 0, .int .u8 0] 32) := ⟨_, rfl⟩
 have F : Below W.heap.size W w3 := by rw [hw3]; exact below_al bR _
 have R : RowB w3 W.heap.size [.int .i64 5, .int .u32 0, .int .u32 0, .int .u64 0, .int .u32 0, .int .i64 0, .int .i64 0, .int .u64 0, .int .u64 0, .int .u32 0, .int .u32 0, .bool false, .int .u64 0, .int .u64 0, .int .u8 0] := by rw [hw3]; exact RowB.new W _ _
 have HW := h_ hW
 have HW3 := h_ hw3
 obtain ⟨x0, x1, x2, x3, x4, x5, x6, x7, x8, x9, x10, x11, x12, x13, x14⟩ := HX.out W bR
 rw [HW.out] at x0 x1 x2 x3 x4 x5 x6 x7 x8 x9 x10 x11 x12 x13 x14
 clear hW hw3
 go_enter Tryz.func51, Tryz.ntmps51
 go_upto_region 12 with fail
 rw [← HW.out]
 rw [← HW3.out]
 clear x0 x1 x2 x3 x4 x5 x6 x7 x8 x9 x10 x11 x12 x13 x14
 have hsz : w.heap.size + 1 + 1 = W.heap.size := by have := HS0.out; omega
 rw [hsz]
 clear hsz
 replace F := F.drew
 replace R : RowB w3.drew W.heap.size [.int .i64 5, .int .u32 0, .int .u32 0, .int .u64 0, .int .u32 0, .int .i64 0, .int .i64 0, .int .u64 0, .int .u64 0, .int .u32 0, .int .u32 0, .bool false, .int .u64 0, .int .u64 0, .int .u8 0] := R
 refine wp_region_held_drew (S := (fun w' => w'.cell? ⟨w.heap.size, 0, none⟩ = some (.int .i64 5) ∧ w'.cell? ⟨w.heap.size, 1, none⟩ = some (.int .u32 n) ∧ w'.cell? ⟨w.heap.size, 2, none⟩ = some (.int .u32 m) ∧ w'.cell? ⟨w.heap.size, 3, none⟩ = some (.int .u64 t) ∧ w'.cell? ⟨w.heap.size, 4, none⟩ = some (.int .u32 q) ∧ w'.cell? ⟨w.heap.size, 5, none⟩ = some (.int .i64 wh) ∧ w'.cell? ⟨w.heap.size, 6, none⟩ = some (.int .i64 wy) ∧ w'.cell? ⟨w.heap.size, 7, none⟩ = some (.int .u64 at0) ∧ w'.cell? ⟨w.heap.size, 8, none⟩ = some (.int .u64 no) ∧ w'.cell? ⟨w.heap.size, 9, none⟩ = some (.int .u32 nd) ∧ w'.cell? ⟨w.heap.size, 10, none⟩ = some (.int .u32 rg) ∧ w'.cell? ⟨w.heap.size, 11, none⟩ = some (.bool ys) ∧ w'.cell? ⟨w.heap.size, 12, none⟩ = some (.int .u64 fr) ∧ w'.cell? ⟨w.heap.size, 13, none⟩ = some (.int .u64 un) ∧ w'.cell? ⟨w.heap.size, 14, none⟩ = some (.int .u8 lv))) (by kernel_rfl) (HX.out _ F) (fun hHeld => ?_)
 generalize w3.drew = v0 at *
 refine takeL 0 (v := ?_) ?_ ‹_› ?_
 rotate_left
 ·intro w hSw; go_simp; all_goals with_reducible rfl
 simp only [Act.put, zA, zB, zC]
 refine takeL 1 (v := ?_) ?_ ‹_› ?_
 rotate_left
 ·intro w hSw; go_simp; all_goals with_reducible rfl
 simp only [Act.put, zA, zB, zC]
 refine takeL 2 (v := ?_) ?_ ‹_› ?_
 rotate_left
 ·intro w hSw; go_simp; all_goals with_reducible rfl
 simp only [Act.put, zA, zB, zC]
 refine takeL 3 (v := ?_) ?_ ‹_› ?_
 rotate_left
 ·intro w hSw; go_simp; all_goals with_reducible rfl
 simp only [Act.put, zA, zB, zC]
 refine takeL 4 (v := ?_) ?_ ‹_› ?_
 rotate_left
 ·intro w hSw; go_simp; all_goals with_reducible rfl
 simp only [Act.put, zA, zB, zC]
 refine takeL 5 (v := ?_) ?_ ‹_› ?_
 rotate_left
 ·intro w hSw; go_simp; all_goals with_reducible rfl
 simp only [Act.put, zA, zB, zC]
 refine takeL 6 (v := ?_) ?_ ‹_› ?_
 rotate_left
 ·intro w hSw; go_simp; all_goals with_reducible rfl
 simp only [Act.put, zA, zB, zC]
 refine takeL 7 (v := ?_) ?_ ‹_› ?_
 rotate_left
 ·intro w hSw; go_simp; all_goals with_reducible rfl
 simp only [Act.put, zA, zB, zC]
 refine takeL 8 (v := ?_) ?_ ‹_› ?_
 rotate_left
 ·intro w hSw; go_simp; all_goals with_reducible rfl
 simp only [Act.put, zA, zB, zC]
 refine wpAnyH_ready (rs := [9]) (by kernel_rfl) (by simp) (.cons rfl (fun K hK => ?_) .nil)
 have c9 := R.1 9 _ rfl
 have f9 := R.2 9
 go_simp
 replace R := R.set 9 (.int .u32 nd)
 replace F := F.setCell (p := ⟨W.heap.size, 9, none⟩) (Nat.le_refl _) (.int .u32 nd)
 clear c9 f9
 simp only [zB, zC] at R
 refine hK.out _ _ (HX.out _ F) (fun hHeld => ?_)
 clear hK K
 try simp only [Act.put, zA, zB, zC]
 refine takeL 10 (v := ?_) ?_ ‹_› ?_
 rotate_left
 ·intro w hSw; go_simp; all_goals with_reducible rfl
 simp only [Act.put, zA, zB, zC]
 refine wpAnyH_ready (rs := [11]) (by kernel_rfl) (by simp) (.cons rfl (fun K hK => ?_) .nil)
 have c10 := R.1 10 _ rfl
 have f10 := R.2 10
 go_simp
 replace R := R.set 10 (.int .u32 rg)
 replace F := F.setCell (p := ⟨W.heap.size, 10, none⟩) (Nat.le_refl _) (.int .u32 rg)
 clear c10 f10
 simp only [zB, zC] at R
 refine hK.out _ _ (HX.out _ F) (fun hHeld => ?_)
 clear hK K
 try simp only [Act.put, zA, zB, zC]
 refine takeL 12 (v := ?_) ?_ ‹_› ?_
 rotate_left
 ·intro w hSw; go_simp; all_goals with_reducible rfl
 simp only [Act.put, zA, zB, zC]
 refine wpAnyH_ready (rs := [13]) (by kernel_rfl) (by simp) (.cons rfl (fun K hK => ?_) .nil)
 have c8 := R.1 8 _ rfl
 have f8 := R.2 8
 go_simp
 replace R := R.set 8 (.int .u64 no)
 replace F := F.setCell (p := ⟨W.heap.size, 8, none⟩) (Nat.le_refl _) (.int .u64 no)
 clear c8 f8
 simp only [zB, zC] at R
 refine hK.out _ _ (HX.out _ F) (fun hHeld => ?_)
 clear hK K
 try simp only [Act.put, zA, zB, zC]
 refine takeL 14 (v := ?_) ?_ ‹_› ?_
 rotate_left
 ·intro w hSw; go_simp; all_goals with_reducible rfl
 simp only [Act.put, zA, zB, zC]
 refine wpAnyH_ready (rs := [15]) (by kernel_rfl) (by simp) (.cons rfl (fun K hK => ?_) .nil)
 have c11 := R.1 11 _ rfl
 have f11 := R.2 11
 go_simp
 replace R := R.set 11 (.bool ys)
 replace F := F.setCell (p := ⟨W.heap.size, 11, none⟩) (Nat.le_refl _) (.bool ys)
 clear c11 f11
 simp only [zB, zC] at R
 refine hK.out _ _ (HX.out _ F) (fun hHeld => ?_)
 clear hK K
 try simp only [Act.put, zA, zB, zC]
 clear hHeld
 refine wpAnyH_done (by kernel_rfl) ?_ _
 have T := HR2.out _ F
 generalize ((((v0.setCell ⟨W.heap.size, 9, none⟩ (.int .u32 nd)).setCell ⟨W.heap.size, 10, none⟩ (.int .u32 rg)).setCell ⟨W.heap.size, 8, none⟩ (.int .u64 no)).setCell ⟨W.heap.size, 11, none⟩ (.bool ys)) = we at *
 have HF := h_ F
 have HT := h_ T
 have HR := h_ R
 clear F T R
 have y0 := HR.out.1 0 _ rfl
 have t0 := HT.out.1 0 _ rfl
 have g0 := HT.out.2 0
 have y1 := HR.out.1 1 _ rfl
 have t1 := HT.out.1 1 _ rfl
 have g1 := HT.out.2 1
 have y2 := HR.out.1 2 _ rfl
 have t2 := HT.out.1 2 _ rfl
 have g2 := HT.out.2 2
 have y3 := HR.out.1 3 _ rfl
 have t3 := HT.out.1 3 _ rfl
 have g3 := HT.out.2 3
 have y4 := HR.out.1 4 _ rfl
 have t4 := HT.out.1 4 _ rfl
 have g4 := HT.out.2 4
 have y5 := HR.out.1 5 _ rfl
 have t5 := HT.out.1 5 _ rfl
 have g5 := HT.out.2 5
 have y6 := HR.out.1 6 _ rfl
 have t6 := HT.out.1 6 _ rfl
 have g6 := HT.out.2 6
 have y7 := HR.out.1 7 _ rfl
 have t7 := HT.out.1 7 _ rfl
 have g7 := HT.out.2 7
 have y8 := HR.out.1 8 _ rfl
 have t8 := HT.out.1 8 _ rfl
 have g8 := HT.out.2 8
 have y9 := HR.out.1 9 _ rfl
 have t9 := HT.out.1 9 _ rfl
 have g9 := HT.out.2 9
 have y10 := HR.out.1 10 _ rfl
 have t10 := HT.out.1 10 _ rfl
 have g10 := HT.out.2 10
 have y11 := HR.out.1 11 _ rfl
 have t11 := HT.out.1 11 _ rfl
 have g11 := HT.out.2 11
 have y12 := HR.out.1 12 _ rfl
 have t12 := HT.out.1 12 _ rfl
 have g12 := HT.out.2 12
 have y13 := HR.out.1 13 _ rfl
 have t13 := HT.out.1 13 _ rfl
 have g13 := HT.out.2 13
 have y14 := HR.out.1 14 _ rfl
 have t14 := HT.out.1 14 _ rfl
 have g14 := HT.out.2 14
 go_wp2_with fail
 change bodyPost _ _ _ _ _ (putL we (w.heap.size + 1) 0 [.int .i64 5, .int .u32 0, .int .u32 0, .int .u64 0, .int .u32 0, .int .i64 0, .int .i64 0, .int .u64 0, .int .u64 no, .int .u32 nd, .int .u32 rg, .bool ys, .int .u64 0, .int .u64 0, .int .u8 0])
 have hrow : RowB (putL we (w.heap.size + 1) 0 [.int .i64 5, .int .u32 0, .int .u32 0, .int .u64 0, .int .u32 0, .int .i64 0, .int .i64 0, .int .u64 0, .int .u64 no, .int .u32 nd, .int .u32 rg, .bool ys, .int .u64 0, .int .u64 0, .int .u8 0]) (w.heap.size + 1) [.int .i64 5, .int .u32 0, .int .u32 0, .int .u64 0, .int .u32 0, .int .i64 0, .int .i64 0, .int .u64 0, .int .u64 no, .int .u32 nd, .int .u32 rg, .bool ys, .int .u64 0, .int .u64 0, .int .u8 0] := putL_row _ _ 0 _ HT.out
 have hbk : Below w.heap.size w (putL we (w.heap.size + 1) 0 [.int .i64 5, .int .u32 0, .int .u32 0, .int .u64 0, .int .u32 0, .int .i64 0, .int .i64 0, .int .u64 0, .int .u64 no, .int .u32 nd, .int .u32 rg, .bool ys, .int .u64 0, .int .u64 0, .int .u8 0]) := putL_bel (Nat.le_succ _) _ 0 _ (HB0.out.trans (HF.out.mono HB0.out.size))
 generalize putL we (w.heap.size + 1) 0 [.int .i64 5, .int .u32 0, .int .u32 0, .int .u64 0, .int .u32 0, .int .i64 0, .int .i64 0, .int .u64 0, .int .u64 no, .int .u32 nd, .int .u32 rg, .bool ys, .int .u64 0, .int .u64 0, .int .u8 0] = w30 at *
 obtain ⟨k0, k1, k2, k3, k4, k5, k6, k7, k8, k9, k10, k11, k12, k13, k14⟩ := r15 hrow
 exact bodyPost_ret (v := .agg #[.int .i64 5, .int .u32 0, .int .u32 0, .int .u64 0, .int .u32 0, .int .i64 0, .int .i64 0, .int .u64 0, .int .u64 no, .int .u32 nd, .int .u32 rg, .bool ys, .int .u64 0, .int .u64 0, .int .u8 0]) (by simp [results, Tryz.results51, go_sem, k0, k1, k2, k3, k4, k5, k6, k7, k8, k9, k10, k11, k12, k13, k14]) rfl ⟨rfl, hbk⟩

theorem rbare_any (r : Rc) (h1 : 1 ≤ r.k) (h5 : r.k ≤ 5) (w : World) : Calls Tryz.prog 51 #[.agg #[.int .i64 r.k, .int .u32 r.n, .int .u32 r.m, .int .u64 r.t, .int .u32 r.q, .int .i64 r.wh, .int .i64 r.wy, .int .u64 r.at0, .int .u64 r.no, .int .u32 r.nd, .int .u32 r.rg, .bool r.ys, .int .u64 r.fr, .int .u64 r.un, .int .u8 r.lv]] w fun e w' => e = .returned (.agg #[.int .i64 (bareR r.k.toNat r).k, .int .u32 (bareR r.k.toNat r).n, .int .u32 (bareR r.k.toNat r).m, .int .u64 (bareR r.k.toNat r).t, .int .u32 (bareR r.k.toNat r).q, .int .i64 (bareR r.k.toNat r).wh, .int .i64 (bareR r.k.toNat r).wy, .int .u64 (bareR r.k.toNat r).at0, .int .u64 (bareR r.k.toNat r).no, .int .u32 (bareR r.k.toNat r).nd, .int .u32 (bareR r.k.toNat r).rg, .bool (bareR r.k.toNat r).ys, .int .u64 (bareR r.k.toNat r).fr, .int .u64 (bareR r.k.toNat r).un, .int .u8 (bareR r.k.toNat r).lv]) ∧ Below w.heap.size w w' := by
 obtain ⟨k, n, m, t, q, wh, wy, at0, no, nd, rg, ys, fr, un, lv⟩ := r
 dsimp only at h1 h5 ⊢
 rcases (show k = 1 ∨ k = 2 ∨ k = 3 ∨ k = 4 ∨ k = 5 by omega) with rfl | rfl | rfl | rfl | rfl
 ·exact rbare1_any n m t q at0 no nd rg fr un lv wh wy ys w
 ·exact rbare2_any n m t q at0 no nd rg fr un lv wh wy ys w
 ·exact rbare3_any n m t q at0 no nd rg fr un lv wh wy ys w
 ·exact rbare4_any n m t q at0 no nd rg fr un lv wh wy ys w
 ·exact rbare5_any n m t q at0 no nd rg fr un lv wh wy ys w

end Go.Proofs.YteldifnkeekafaaGreatDoor

namespace Go.Proofs.YteldifnkeekafaaGreatDoor
open Go Go.RowKit Go.Shelf

def tailR (k : Int) (r : Rc) : Bool := if k = 1 then r.name.may && (decide (1 ≤ r.wh) && (decide (r.wh ≤ 4) && (decide (0 ≤ r.wy) && (decide (r.wy ≤ 5) && ((r.wh == 4) == decide (0 < r.wy)))))) else if k = 4 then decide (0 < r.nd) && (decide (r.fr ≤ r.un) && decide (r.lv ≤ 3)) else decide (0 < r.nd) && decide (0 < r.rg)
def rightRc (r : Rc) : Bool := sameRc r (bareR r.k.toNat r) && (decide (r.no ≤ 4294967295) && (decide (r.at0 ≤ 4611686018427387903) && (decide (r.un ≤ 4611686018427387903) && tailR r.k r)))
def rightR (r : Rc) : Bool := decide (1 ≤ r.k) && (decide (r.k ≤ 5) && rightRc r)

end Go.Proofs.YteldifnkeekafaaGreatDoor
