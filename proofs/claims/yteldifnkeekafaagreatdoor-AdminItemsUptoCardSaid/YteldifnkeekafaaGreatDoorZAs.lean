/- Joined texts. -/
import Derived.Test.YteldifnkeekafaaGreatDoorZAr
import Derived.Test.YteldifnkeekafaaGreatDoorZKh
set_option maxHeartbeats 16000000
set_option linter.unusedSimpArgs false
set_option linter.unusedVariables false
set_option maxRecDepth 100000
namespace Go.Proofs.YteldifnkeekafaaGreatDoor
open Go Go.RowKit Go.Shelf

attribute [local go_sem] Oper.semAt_some

theorem dec_le (n c : Nat) : (n ≤ c ∧ decide ((c : Int) < (n : Int)) = false ∧ decide ((n : Int) ≤ (c : Int)) = true) ∨ (¬ n ≤ c ∧ decide ((c : Int) < (n : Int)) = true ∧ decide ((n : Int) ≤ (c : Int)) = false) := by
 by_cases h : n ≤ c
 ·exact .inl ⟨h, decide_eq_false (by omega), decide_eq_true (by omega)⟩
 ·exact .inr ⟨h, decide_eq_true (by omega), decide_eq_false (by omega)⟩
theorem dec_lei (n m : Nat) (c : Int) (hc : c = m) : (n ≤ m ∧ decide (c < (n : Int)) = false ∧ decide ((n : Int) ≤ c) = true) ∨ (¬ n ≤ m ∧ decide (c < (n : Int)) = true ∧ decide ((n : Int) ≤ c) = false) := by
 rw [hc]
 exact dec_le n m
theorem dec_pos (n : Nat) : (0 < n ∧ decide ((0 : Int) < (n : Int)) = true) ∨ (¬ 0 < n ∧ decide ((0 : Int) < (n : Int)) = false) := by
 by_cases h : 0 < n
 ·exact .inl ⟨h, decide_eq_true (by omega)⟩
 ·exact .inr ⟨h, decide_eq_false (by omega)⟩
theorem dec_int (a b : Int) : (a ≤ b ∧ decide (a ≤ b) = true) ∨ (¬ a ≤ b ∧ decide (a ≤ b) = false) := by
 by_cases h : a ≤ b
 ·exact .inl ⟨h, decide_eq_true h⟩
 ·exact .inr ⟨h, decide_eq_false h⟩

theorem rrA (r : Rc) (w : World) (h : r.k < 1) : Calls Tryz.prog 30 #[.agg #[.int .i64 r.k, .int .u32 r.n, .int .u32 r.m, .int .u64 r.t, .int .u32 r.q, .int .i64 r.wh, .int .i64 r.wy, .int .u64 r.at0, .int .u64 r.no, .int .u32 r.nd, .int .u32 r.rg, .bool r.ys, .int .u64 r.fr, .int .u64 r.un, .int .u8 r.lv]] w fun e w' => e = .returned (.bool false) ∧ Below w.heap.size w w' := by
 have g1 : decide (r.k < 1) = true := decide_eq_true h
 clear h
 obtain ⟨W, hW⟩ : ∃ W, W = w.alloc (.cells #[.int .i64 r.k, .int .u32 r.n, .int .u32 r.m, .int .u64 r.t, .int .u32 r.q, .int .i64 r.wh, .int .i64 r.wy, .int .u64 r.at0, .int .u64 r.no, .int .u32 r.nd, .int .u32 r.rg, .bool r.ys, .int .u64 r.fr, .int .u64 r.un, .int .u8 r.lv] 32) := ⟨_, rfl⟩
 have HB0 : Hid (Below w.heap.size w W) := by rw [hW]; exact below_al bR _
 have HX : Hid (∀ w', Below W.heap.size W w' → w'.cell? ⟨w.heap.size, 0, none⟩ = some (.int .i64 r.k) ∧ w'.cell? ⟨w.heap.size, 1, none⟩ = some (.int .u32 r.n) ∧ w'.cell? ⟨w.heap.size, 2, none⟩ = some (.int .u32 r.m) ∧ w'.cell? ⟨w.heap.size, 3, none⟩ = some (.int .u64 r.t) ∧ w'.cell? ⟨w.heap.size, 4, none⟩ = some (.int .u32 r.q) ∧ w'.cell? ⟨w.heap.size, 5, none⟩ = some (.int .i64 r.wh) ∧ w'.cell? ⟨w.heap.size, 6, none⟩ = some (.int .i64 r.wy) ∧ w'.cell? ⟨w.heap.size, 7, none⟩ = some (.int .u64 r.at0) ∧ w'.cell? ⟨w.heap.size, 8, none⟩ = some (.int .u64 r.no) ∧ w'.cell? ⟨w.heap.size, 9, none⟩ = some (.int .u32 r.nd) ∧ w'.cell? ⟨w.heap.size, 10, none⟩ = some (.int .u32 r.rg) ∧ w'.cell? ⟨w.heap.size, 11, none⟩ = some (.bool r.ys) ∧ w'.cell? ⟨w.heap.size, 12, none⟩ = some (.int .u64 r.fr) ∧ w'.cell? ⟨w.heap.size, 13, none⟩ = some (.int .u64 r.un) ∧ w'.cell? ⟨w.heap.size, 14, none⟩ = some (.int .u8 r.lv)) := fun w' h => by
  rw [hW] at h
  exact ⟨box_at h 0, box_at h 1, box_at h 2, box_at h 3, box_at h 4, box_at h 5, box_at h 6, box_at h 7, box_at h 8, box_at h 9, box_at h 10, box_at h 11, box_at h 12, box_at h 13, box_at h 14⟩
 have HW := h_ hW
 obtain ⟨x0, x1, x2, x3, x4, x5, x6, x7, x8, x9, x10, x11, x12, x13, x14⟩ := HX.out W bR
 rw [HW.out] at x0 x1 x2 x3 x4 x5 x6 x7 x8 x9 x10 x11 x12 x13 x14
 clear hW
 go_enter Tryz.func30, Tryz.ntmps30
 go_upto_region 2 with fail
 rw [← HW.out]
 clear x0 x1 x2 x3 x4 x5 x6 x7 x8 x9 x10 x11 x12 x13 x14
 have F : Below W.heap.size W W.drew := bR.drew
 refine wp_region_held_drew (S := (fun w' => w'.cell? ⟨w.heap.size, 0, none⟩ = some (.int .i64 r.k) ∧ w'.cell? ⟨w.heap.size, 1, none⟩ = some (.int .u32 r.n) ∧ w'.cell? ⟨w.heap.size, 2, none⟩ = some (.int .u32 r.m) ∧ w'.cell? ⟨w.heap.size, 3, none⟩ = some (.int .u64 r.t) ∧ w'.cell? ⟨w.heap.size, 4, none⟩ = some (.int .u32 r.q) ∧ w'.cell? ⟨w.heap.size, 5, none⟩ = some (.int .i64 r.wh) ∧ w'.cell? ⟨w.heap.size, 6, none⟩ = some (.int .i64 r.wy) ∧ w'.cell? ⟨w.heap.size, 7, none⟩ = some (.int .u64 r.at0) ∧ w'.cell? ⟨w.heap.size, 8, none⟩ = some (.int .u64 r.no) ∧ w'.cell? ⟨w.heap.size, 9, none⟩ = some (.int .u32 r.nd) ∧ w'.cell? ⟨w.heap.size, 10, none⟩ = some (.int .u32 r.rg) ∧ w'.cell? ⟨w.heap.size, 11, none⟩ = some (.bool r.ys) ∧ w'.cell? ⟨w.heap.size, 12, none⟩ = some (.int .u64 r.fr) ∧ w'.cell? ⟨w.heap.size, 13, none⟩ = some (.int .u64 r.un) ∧ w'.cell? ⟨w.heap.size, 14, none⟩ = some (.int .u8 r.lv))) (by kernel_rfl) (HX.out _ F) (fun hHeld => ?_)
 refine takeL 0 (v := ?_) ?_ ‹_› ?_
 rotate_left
 ·intro w hSw; go_simp; all_goals with_reducible rfl
 simp only [Act.put, zA, zB, zC]
 refine takeL 1 (v := ?_) ?_ ‹_› ?_
 rotate_left
 ·intro w hSw; go_simp; all_goals with_reducible rfl
 simp only [Act.put, zA, zB, zC]
 refine takeL 2 (v := ?_) ?_ ‹_› ?_
 rotate_left
 ·intro w hSw; go_simp; all_goals with_reducible rfl
 simp only [Act.put, zA, zB, zC]
 refine take_listed (i := 3) (v := undef) rfl (by kernel_rfl) (by kernel_rfl) (by kernel_rfl) (fun _ _ _ h => h) (Or.inr ⟨by rfl, rfl⟩) (by assumption) ?_
 simp only [Act.put, zA, zB, zC]
 refine take_listed (i := 4) (v := undef) rfl (by kernel_rfl) (by kernel_rfl) (by kernel_rfl) (fun _ _ _ h => h) (Or.inr ⟨by rfl, rfl⟩) (by assumption) ?_
 simp only [Act.put, zA, zB, zC]
 refine takeL 5 (v := ?_) ?_ ‹_› ?_
 rotate_left
 ·intro w hSw; go_simp; all_goals with_reducible rfl
 simp only [Act.put, zA, zB, zC]
 refine takeL 6 (v := ?_) ?_ ‹_› ?_
 rotate_left
 ·intro w hSw; go_simp; all_goals with_reducible rfl
 simp only [Act.put, zA, zB, zC]
 refine take_listed (i := 7) (v := undef) rfl (by kernel_rfl) (by kernel_rfl) (by kernel_rfl) (fun _ _ _ h => h) (Or.inr ⟨by rfl, rfl⟩) (by assumption) ?_
 simp only [Act.put, zA, zB, zC]
 refine take_listed (i := 8) (v := undef) rfl (by kernel_rfl) (by kernel_rfl) (by kernel_rfl) (fun _ _ _ h => h) (Or.inr ⟨by rfl, rfl⟩) (by assumption) ?_
 simp only [Act.put, zA, zB, zC]
 refine take_listed (i := 9) (v := undef) rfl (by kernel_rfl) (by kernel_rfl) (by kernel_rfl) (fun _ _ _ h => h) (Or.inr ⟨by rfl, rfl⟩) (by assumption) ?_
 simp only [Act.put, zA, zB, zC]
 refine take_listed (i := 10) (v := undef) rfl (by kernel_rfl) (by kernel_rfl) (by kernel_rfl) (fun _ _ _ h => h) (Or.inr ⟨by rfl, rfl⟩) (by assumption) ?_
 simp only [Act.put, zA, zB, zC]
 refine takeL 11 (v := ?_) ?_ ‹_› ?_
 rotate_left
 ·intro w hSw; go_simp; all_goals with_reducible rfl
 simp only [Act.put, zA, zB, zC]
 refine takeL 12 (v := ?_) ?_ ‹_› ?_
 rotate_left
 ·intro w hSw; go_simp; all_goals with_reducible rfl
 simp only [Act.put, zA, zB, zC]
 refine take_listed (i := 13) (v := undef) rfl (by kernel_rfl) (by kernel_rfl) (by kernel_rfl) (fun _ _ _ h => h) (Or.inr ⟨by rfl, rfl⟩) (by assumption) ?_
 simp only [Act.put, zA, zB, zC]
 refine take_listed (i := 14) (v := undef) rfl (by kernel_rfl) (by kernel_rfl) (by kernel_rfl) (fun _ _ _ h => h) (Or.inr ⟨by rfl, rfl⟩) (by assumption) ?_
 simp only [Act.put, zA, zB, zC]
 refine take_listed (i := 15) (v := undef) rfl (by kernel_rfl) (by kernel_rfl) (by kernel_rfl) (fun _ _ _ h => h) (Or.inr ⟨by rfl, rfl⟩) (by assumption) ?_
 simp only [Act.put, zA, zB, zC]
 refine takeL 16 (v := ?_) ?_ ‹_› ?_
 rotate_left
 ·intro w hSw; go_simp; all_goals with_reducible rfl
 simp only [Act.put, zA, zB, zC]
 refine takeL 17 (v := ?_) ?_ ‹_› ?_
 rotate_left
 ·intro w hSw; go_simp; all_goals with_reducible rfl
 simp only [Act.put, zA, zB, zC]
 refine take_listed (i := 18) (v := undef) rfl (by kernel_rfl) (by kernel_rfl) (by kernel_rfl) (fun _ _ _ h => h) (Or.inr ⟨by rfl, rfl⟩) (by assumption) ?_
 simp only [Act.put, zA, zB, zC]
 refine take_listed (i := 19) (v := undef) rfl (by kernel_rfl) (by kernel_rfl) (by kernel_rfl) (fun _ _ _ h => h) (Or.inr ⟨by rfl, rfl⟩) (by assumption) ?_
 simp only [Act.put, zA, zB, zC]
 refine take_listed (i := 20) (v := undef) rfl (by kernel_rfl) (by kernel_rfl) (by kernel_rfl) (fun _ _ _ h => h) (Or.inr ⟨by rfl, rfl⟩) (by assumption) ?_
 simp only [Act.put, zA, zB, zC]
 refine takeL 21 (v := ?_) ?_ ‹_› ?_
 rotate_left
 ·intro w hSw; go_simp; all_goals with_reducible rfl
 simp only [Act.put, zA, zB, zC]
 refine takeL 22 (v := ?_) ?_ ‹_› ?_
 rotate_left
 ·intro w hSw; go_simp; all_goals with_reducible rfl
 simp only [Act.put, zA, zB, zC]
 refine take_listed (i := 23) (v := undef) rfl (by kernel_rfl) (by kernel_rfl) (by kernel_rfl) (fun _ _ _ h => h) (Or.inr ⟨by rfl, rfl⟩) (by assumption) ?_
 simp only [Act.put, zA, zB, zC]
 refine take_listed (i := 24) (v := undef) rfl (by kernel_rfl) (by kernel_rfl) (by kernel_rfl) (fun _ _ _ h => h) (Or.inr ⟨by rfl, rfl⟩) (by assumption) ?_
 simp only [Act.put, zA, zB, zC]
 refine take_listed (i := 25) (v := undef) rfl (by kernel_rfl) (by kernel_rfl) (by kernel_rfl) (fun _ _ _ h => h) (Or.inr ⟨by rfl, rfl⟩) (by assumption) ?_
 simp only [Act.put, zA, zB, zC]
 refine takeL 26 (v := ?_) ?_ ‹_› ?_
 rotate_left
 ·intro w hSw; go_simp; all_goals with_reducible rfl
 simp only [Act.put, zA, zB, zC]
 clear hHeld
 refine wpAnyH_done (by kernel_rfl) ?_ _
 have HF := h_ F
 clear F
 go_wp2_with fail
 go_ret
 exact ⟨rfl, HB0.out.trans (HF.out.mono HB0.out.size)⟩

theorem rrB (r : Rc) (w : World) (h : 5 < r.k) : Calls Tryz.prog 30 #[.agg #[.int .i64 r.k, .int .u32 r.n, .int .u32 r.m, .int .u64 r.t, .int .u32 r.q, .int .i64 r.wh, .int .i64 r.wy, .int .u64 r.at0, .int .u64 r.no, .int .u32 r.nd, .int .u32 r.rg, .bool r.ys, .int .u64 r.fr, .int .u64 r.un, .int .u8 r.lv]] w fun e w' => e = .returned (.bool false) ∧ Below w.heap.size w w' := by
 have g1 : decide (r.k < 1) = false := decide_eq_false (by omega)
 have g2 : decide (5 < r.k) = true := decide_eq_true h
 clear h
 obtain ⟨W, hW⟩ : ∃ W, W = w.alloc (.cells #[.int .i64 r.k, .int .u32 r.n, .int .u32 r.m, .int .u64 r.t, .int .u32 r.q, .int .i64 r.wh, .int .i64 r.wy, .int .u64 r.at0, .int .u64 r.no, .int .u32 r.nd, .int .u32 r.rg, .bool r.ys, .int .u64 r.fr, .int .u64 r.un, .int .u8 r.lv] 32) := ⟨_, rfl⟩
 have HB0 : Hid (Below w.heap.size w W) := by rw [hW]; exact below_al bR _
 have HX : Hid (∀ w', Below W.heap.size W w' → w'.cell? ⟨w.heap.size, 0, none⟩ = some (.int .i64 r.k) ∧ w'.cell? ⟨w.heap.size, 1, none⟩ = some (.int .u32 r.n) ∧ w'.cell? ⟨w.heap.size, 2, none⟩ = some (.int .u32 r.m) ∧ w'.cell? ⟨w.heap.size, 3, none⟩ = some (.int .u64 r.t) ∧ w'.cell? ⟨w.heap.size, 4, none⟩ = some (.int .u32 r.q) ∧ w'.cell? ⟨w.heap.size, 5, none⟩ = some (.int .i64 r.wh) ∧ w'.cell? ⟨w.heap.size, 6, none⟩ = some (.int .i64 r.wy) ∧ w'.cell? ⟨w.heap.size, 7, none⟩ = some (.int .u64 r.at0) ∧ w'.cell? ⟨w.heap.size, 8, none⟩ = some (.int .u64 r.no) ∧ w'.cell? ⟨w.heap.size, 9, none⟩ = some (.int .u32 r.nd) ∧ w'.cell? ⟨w.heap.size, 10, none⟩ = some (.int .u32 r.rg) ∧ w'.cell? ⟨w.heap.size, 11, none⟩ = some (.bool r.ys) ∧ w'.cell? ⟨w.heap.size, 12, none⟩ = some (.int .u64 r.fr) ∧ w'.cell? ⟨w.heap.size, 13, none⟩ = some (.int .u64 r.un) ∧ w'.cell? ⟨w.heap.size, 14, none⟩ = some (.int .u8 r.lv)) := fun w' h => by
  rw [hW] at h
  exact ⟨box_at h 0, box_at h 1, box_at h 2, box_at h 3, box_at h 4, box_at h 5, box_at h 6, box_at h 7, box_at h 8, box_at h 9, box_at h 10, box_at h 11, box_at h 12, box_at h 13, box_at h 14⟩
 have HW := h_ hW
 obtain ⟨x0, x1, x2, x3, x4, x5, x6, x7, x8, x9, x10, x11, x12, x13, x14⟩ := HX.out W bR
 rw [HW.out] at x0 x1 x2 x3 x4 x5 x6 x7 x8 x9 x10 x11 x12 x13 x14
 clear hW
 go_enter Tryz.func30, Tryz.ntmps30
 go_upto_region 2 with fail
 rw [← HW.out]
 clear x0 x1 x2 x3 x4 x5 x6 x7 x8 x9 x10 x11 x12 x13 x14
 have F : Below W.heap.size W W.drew := bR.drew
 refine wp_region_held_drew (S := (fun w' => w'.cell? ⟨w.heap.size, 0, none⟩ = some (.int .i64 r.k) ∧ w'.cell? ⟨w.heap.size, 1, none⟩ = some (.int .u32 r.n) ∧ w'.cell? ⟨w.heap.size, 2, none⟩ = some (.int .u32 r.m) ∧ w'.cell? ⟨w.heap.size, 3, none⟩ = some (.int .u64 r.t) ∧ w'.cell? ⟨w.heap.size, 4, none⟩ = some (.int .u32 r.q) ∧ w'.cell? ⟨w.heap.size, 5, none⟩ = some (.int .i64 r.wh) ∧ w'.cell? ⟨w.heap.size, 6, none⟩ = some (.int .i64 r.wy) ∧ w'.cell? ⟨w.heap.size, 7, none⟩ = some (.int .u64 r.at0) ∧ w'.cell? ⟨w.heap.size, 8, none⟩ = some (.int .u64 r.no) ∧ w'.cell? ⟨w.heap.size, 9, none⟩ = some (.int .u32 r.nd) ∧ w'.cell? ⟨w.heap.size, 10, none⟩ = some (.int .u32 r.rg) ∧ w'.cell? ⟨w.heap.size, 11, none⟩ = some (.bool r.ys) ∧ w'.cell? ⟨w.heap.size, 12, none⟩ = some (.int .u64 r.fr) ∧ w'.cell? ⟨w.heap.size, 13, none⟩ = some (.int .u64 r.un) ∧ w'.cell? ⟨w.heap.size, 14, none⟩ = some (.int .u8 r.lv))) (by kernel_rfl) (HX.out _ F) (fun hHeld => ?_)
 refine takeL 0 (v := ?_) ?_ ‹_› ?_
 rotate_left
 ·intro w hSw; go_simp; all_goals with_reducible rfl
 simp only [Act.put, zA, zB, zC]
 refine takeL 1 (v := ?_) ?_ ‹_› ?_
 rotate_left
 ·intro w hSw; go_simp; all_goals with_reducible rfl
 simp only [Act.put, zA, zB, zC]
 refine takeL 2 (v := ?_) ?_ ‹_› ?_
 rotate_left
 ·intro w hSw; go_simp; all_goals with_reducible rfl
 simp only [Act.put, zA, zB, zC]
 refine takeL 3 (v := ?_) ?_ ‹_› ?_
 rotate_left
 ·intro w hSw; go_simp; all_goals with_reducible rfl
 simp only [Act.put, zA, zB, zC]
 refine takeL 4 (v := ?_) ?_ ‹_› ?_
 rotate_left
 ·intro w hSw; go_simp; all_goals with_reducible rfl
 simp only [Act.put, zA, zB, zC]
 refine takeL 5 (v := ?_) ?_ ‹_› ?_
 rotate_left
 ·intro w hSw; go_simp; all_goals with_reducible rfl
 simp only [Act.put, zA, zB, zC]
 refine takeL 6 (v := ?_) ?_ ‹_› ?_
 rotate_left
 ·intro w hSw; go_simp; all_goals with_reducible rfl
 simp only [Act.put, zA, zB, zC]
 refine take_listed (i := 7) (v := undef) rfl (by kernel_rfl) (by kernel_rfl) (by kernel_rfl) (fun _ _ _ h => h) (Or.inr ⟨by rfl, rfl⟩) (by assumption) ?_
 simp only [Act.put, zA, zB, zC]
 refine take_listed (i := 8) (v := undef) rfl (by kernel_rfl) (by kernel_rfl) (by kernel_rfl) (fun _ _ _ h => h) (Or.inr ⟨by rfl, rfl⟩) (by assumption) ?_
 simp only [Act.put, zA, zB, zC]
 refine take_listed (i := 9) (v := undef) rfl (by kernel_rfl) (by kernel_rfl) (by kernel_rfl) (fun _ _ _ h => h) (Or.inr ⟨by rfl, rfl⟩) (by assumption) ?_
 simp only [Act.put, zA, zB, zC]
 refine take_listed (i := 10) (v := undef) rfl (by kernel_rfl) (by kernel_rfl) (by kernel_rfl) (fun _ _ _ h => h) (Or.inr ⟨by rfl, rfl⟩) (by assumption) ?_
 simp only [Act.put, zA, zB, zC]
 refine takeL 11 (v := ?_) ?_ ‹_› ?_
 rotate_left
 ·intro w hSw; go_simp; all_goals with_reducible rfl
 simp only [Act.put, zA, zB, zC]
 refine takeL 12 (v := ?_) ?_ ‹_› ?_
 rotate_left
 ·intro w hSw; go_simp; all_goals with_reducible rfl
 simp only [Act.put, zA, zB, zC]
 refine take_listed (i := 13) (v := undef) rfl (by kernel_rfl) (by kernel_rfl) (by kernel_rfl) (fun _ _ _ h => h) (Or.inr ⟨by rfl, rfl⟩) (by assumption) ?_
 simp only [Act.put, zA, zB, zC]
 refine take_listed (i := 14) (v := undef) rfl (by kernel_rfl) (by kernel_rfl) (by kernel_rfl) (fun _ _ _ h => h) (Or.inr ⟨by rfl, rfl⟩) (by assumption) ?_
 simp only [Act.put, zA, zB, zC]
 refine take_listed (i := 15) (v := undef) rfl (by kernel_rfl) (by kernel_rfl) (by kernel_rfl) (fun _ _ _ h => h) (Or.inr ⟨by rfl, rfl⟩) (by assumption) ?_
 simp only [Act.put, zA, zB, zC]
 refine takeL 16 (v := ?_) ?_ ‹_› ?_
 rotate_left
 ·intro w hSw; go_simp; all_goals with_reducible rfl
 simp only [Act.put, zA, zB, zC]
 refine takeL 17 (v := ?_) ?_ ‹_› ?_
 rotate_left
 ·intro w hSw; go_simp; all_goals with_reducible rfl
 simp only [Act.put, zA, zB, zC]
 refine take_listed (i := 18) (v := undef) rfl (by kernel_rfl) (by kernel_rfl) (by kernel_rfl) (fun _ _ _ h => h) (Or.inr ⟨by rfl, rfl⟩) (by assumption) ?_
 simp only [Act.put, zA, zB, zC]
 refine take_listed (i := 19) (v := undef) rfl (by kernel_rfl) (by kernel_rfl) (by kernel_rfl) (fun _ _ _ h => h) (Or.inr ⟨by rfl, rfl⟩) (by assumption) ?_
 simp only [Act.put, zA, zB, zC]
 refine take_listed (i := 20) (v := undef) rfl (by kernel_rfl) (by kernel_rfl) (by kernel_rfl) (fun _ _ _ h => h) (Or.inr ⟨by rfl, rfl⟩) (by assumption) ?_
 simp only [Act.put, zA, zB, zC]
 refine takeL 21 (v := ?_) ?_ ‹_› ?_
 rotate_left
 ·intro w hSw; go_simp; all_goals with_reducible rfl
 simp only [Act.put, zA, zB, zC]
 refine takeL 22 (v := ?_) ?_ ‹_› ?_
 rotate_left
 ·intro w hSw; go_simp; all_goals with_reducible rfl
 simp only [Act.put, zA, zB, zC]
 refine take_listed (i := 23) (v := undef) rfl (by kernel_rfl) (by kernel_rfl) (by kernel_rfl) (fun _ _ _ h => h) (Or.inr ⟨by rfl, rfl⟩) (by assumption) ?_
 simp only [Act.put, zA, zB, zC]
 refine take_listed (i := 24) (v := undef) rfl (by kernel_rfl) (by kernel_rfl) (by kernel_rfl) (fun _ _ _ h => h) (Or.inr ⟨by rfl, rfl⟩) (by assumption) ?_
 simp only [Act.put, zA, zB, zC]
 refine take_listed (i := 25) (v := undef) rfl (by kernel_rfl) (by kernel_rfl) (by kernel_rfl) (fun _ _ _ h => h) (Or.inr ⟨by rfl, rfl⟩) (by assumption) ?_
 simp only [Act.put, zA, zB, zC]
 refine takeL 26 (v := ?_) ?_ ‹_› ?_
 rotate_left
 ·intro w hSw; go_simp; all_goals with_reducible rfl
 simp only [Act.put, zA, zB, zC]
 clear hHeld
 refine wpAnyH_done (by kernel_rfl) ?_ _
 have HF := h_ F
 clear F
 go_wp2_with fail
 go_ret
 exact ⟨rfl, HB0.out.trans (HF.out.mono HB0.out.size)⟩

theorem rrC (r : Rc) (h1 : 1 ≤ r.k) (h5 : r.k ≤ 5) (hs : sameRc r (bareR r.k.toNat r) = false) (w : World) : Calls Tryz.prog 30 #[.agg #[.int .i64 r.k, .int .u32 r.n, .int .u32 r.m, .int .u64 r.t, .int .u32 r.q, .int .i64 r.wh, .int .i64 r.wy, .int .u64 r.at0, .int .u64 r.no, .int .u32 r.nd, .int .u32 r.rg, .bool r.ys, .int .u64 r.fr, .int .u64 r.un, .int .u8 r.lv]] w fun e w' => e = .returned (.bool (rightRc r)) ∧ Below w.heap.size w w' := by
 have g1 : decide (r.k < 1) = false := decide_eq_false (by omega)
 have g2 : decide (5 < r.k) = false := decide_eq_false (by omega)
 obtain ⟨b, hb⟩ : ∃ b, b = bareR r.k.toNat r := ⟨_, rfl⟩
 have HBa : Hid (∀ w : World, Calls Tryz.prog 51 #[.agg #[.int .i64 r.k, .int .u32 r.n, .int .u32 r.m, .int .u64 r.t, .int .u32 r.q, .int .i64 r.wh, .int .i64 r.wy, .int .u64 r.at0, .int .u64 r.no, .int .u32 r.nd, .int .u32 r.rg, .bool r.ys, .int .u64 r.fr, .int .u64 r.un, .int .u8 r.lv]] w fun e w' => e = .returned (.agg #[.int .i64 b.k, .int .u32 b.n, .int .u32 b.m, .int .u64 b.t, .int .u32 b.q, .int .i64 b.wh, .int .i64 b.wy, .int .u64 b.at0, .int .u64 b.no, .int .u32 b.nd, .int .u32 b.rg, .bool b.ys, .int .u64 b.fr, .int .u64 b.un, .int .u8 b.lv]) ∧ Below w.heap.size w w') := fun w => by
  rw [hb]
  exact rbare_any r h1 h5 w
 have heq : ∀ w : World, (Op.equalIn 10000 32 (.agg #[.int .i64 r.k, .int .u32 r.n, .int .u32 r.m, .int .u64 r.t, .int .u32 r.q, .int .i64 r.wh, .int .i64 r.wy, .int .u64 r.at0, .int .u64 r.no, .int .u32 r.nd, .int .u32 r.rg, .bool r.ys, .int .u64 r.fr, .int .u64 r.un, .int .u8 r.lv]) (.agg #[.int .i64 b.k, .int .u32 b.n, .int .u32 b.m, .int .u64 b.t, .int .u32 b.q, .int .i64 b.wh, .int .i64 b.wy, .int .u64 b.at0, .int .u64 b.no, .int .u32 b.nd, .int .u32 b.rg, .bool b.ys, .int .u64 b.fr, .int .u64 b.un, .int .u8 b.lv])).run Tryz.prog w = .ok false w := fun w => by
  have h := eqRc_run r b w
  rw [hb, hs, ← hb] at h
  exact h
 clear hb
 have HQ : Hid (rightRc r = false) := by
  rw [Hid, rightRc, hs]
  rfl
 clear hs h1 h5
 obtain ⟨W, hW⟩ : ∃ W, W = w.alloc (.cells #[.int .i64 r.k, .int .u32 r.n, .int .u32 r.m, .int .u64 r.t, .int .u32 r.q, .int .i64 r.wh, .int .i64 r.wy, .int .u64 r.at0, .int .u64 r.no, .int .u32 r.nd, .int .u32 r.rg, .bool r.ys, .int .u64 r.fr, .int .u64 r.un, .int .u8 r.lv] 32) := ⟨_, rfl⟩
 have HB0 : Hid (Below w.heap.size w W) := by rw [hW]; exact below_al bR _
 have HX : Hid (∀ w', Below W.heap.size W w' → w'.cell? ⟨w.heap.size, 0, none⟩ = some (.int .i64 r.k) ∧ w'.cell? ⟨w.heap.size, 1, none⟩ = some (.int .u32 r.n) ∧ w'.cell? ⟨w.heap.size, 2, none⟩ = some (.int .u32 r.m) ∧ w'.cell? ⟨w.heap.size, 3, none⟩ = some (.int .u64 r.t) ∧ w'.cell? ⟨w.heap.size, 4, none⟩ = some (.int .u32 r.q) ∧ w'.cell? ⟨w.heap.size, 5, none⟩ = some (.int .i64 r.wh) ∧ w'.cell? ⟨w.heap.size, 6, none⟩ = some (.int .i64 r.wy) ∧ w'.cell? ⟨w.heap.size, 7, none⟩ = some (.int .u64 r.at0) ∧ w'.cell? ⟨w.heap.size, 8, none⟩ = some (.int .u64 r.no) ∧ w'.cell? ⟨w.heap.size, 9, none⟩ = some (.int .u32 r.nd) ∧ w'.cell? ⟨w.heap.size, 10, none⟩ = some (.int .u32 r.rg) ∧ w'.cell? ⟨w.heap.size, 11, none⟩ = some (.bool r.ys) ∧ w'.cell? ⟨w.heap.size, 12, none⟩ = some (.int .u64 r.fr) ∧ w'.cell? ⟨w.heap.size, 13, none⟩ = some (.int .u64 r.un) ∧ w'.cell? ⟨w.heap.size, 14, none⟩ = some (.int .u8 r.lv)) := fun w' h => by
  rw [hW] at h
  exact ⟨box_at h 0, box_at h 1, box_at h 2, box_at h 3, box_at h 4, box_at h 5, box_at h 6, box_at h 7, box_at h 8, box_at h 9, box_at h 10, box_at h 11, box_at h 12, box_at h 13, box_at h 14⟩
 have HW := h_ hW
 obtain ⟨x0, x1, x2, x3, x4, x5, x6, x7, x8, x9, x10, x11, x12, x13, x14⟩ := HX.out W bR
 rw [HW.out] at x0 x1 x2 x3 x4 x5 x6 x7 x8 x9 x10 x11 x12 x13 x14
 clear hW
 go_enter Tryz.func30, Tryz.ntmps30
 go_upto_region 2 with fail
 rw [← HW.out]
 clear x0 x1 x2 x3 x4 x5 x6 x7 x8 x9 x10 x11 x12 x13 x14
 have F : Below W.heap.size W W.drew := bR.drew
 refine wp_region_held_drew (S := (fun w' => w'.cell? ⟨w.heap.size, 0, none⟩ = some (.int .i64 r.k) ∧ w'.cell? ⟨w.heap.size, 1, none⟩ = some (.int .u32 r.n) ∧ w'.cell? ⟨w.heap.size, 2, none⟩ = some (.int .u32 r.m) ∧ w'.cell? ⟨w.heap.size, 3, none⟩ = some (.int .u64 r.t) ∧ w'.cell? ⟨w.heap.size, 4, none⟩ = some (.int .u32 r.q) ∧ w'.cell? ⟨w.heap.size, 5, none⟩ = some (.int .i64 r.wh) ∧ w'.cell? ⟨w.heap.size, 6, none⟩ = some (.int .i64 r.wy) ∧ w'.cell? ⟨w.heap.size, 7, none⟩ = some (.int .u64 r.at0) ∧ w'.cell? ⟨w.heap.size, 8, none⟩ = some (.int .u64 r.no) ∧ w'.cell? ⟨w.heap.size, 9, none⟩ = some (.int .u32 r.nd) ∧ w'.cell? ⟨w.heap.size, 10, none⟩ = some (.int .u32 r.rg) ∧ w'.cell? ⟨w.heap.size, 11, none⟩ = some (.bool r.ys) ∧ w'.cell? ⟨w.heap.size, 12, none⟩ = some (.int .u64 r.fr) ∧ w'.cell? ⟨w.heap.size, 13, none⟩ = some (.int .u64 r.un) ∧ w'.cell? ⟨w.heap.size, 14, none⟩ = some (.int .u8 r.lv))) (by kernel_rfl) (HX.out _ F) (fun hHeld => ?_)
 refine takeL 0 (v := ?_) ?_ ‹_› ?_
 rotate_left
 ·intro w hSw; go_simp; all_goals with_reducible rfl
 simp only [Act.put, zA, zB, zC]
 refine takeL 1 (v := ?_) ?_ ‹_› ?_
 rotate_left
 ·intro w hSw; go_simp; all_goals with_reducible rfl
 simp only [Act.put, zA, zB, zC]
 refine takeL 2 (v := ?_) ?_ ‹_› ?_
 rotate_left
 ·intro w hSw; go_simp; all_goals with_reducible rfl
 simp only [Act.put, zA, zB, zC]
 refine takeL 3 (v := ?_) ?_ ‹_› ?_
 rotate_left
 ·intro w hSw; go_simp; all_goals with_reducible rfl
 simp only [Act.put, zA, zB, zC]
 refine takeL 4 (v := ?_) ?_ ‹_› ?_
 rotate_left
 ·intro w hSw; go_simp; all_goals with_reducible rfl
 simp only [Act.put, zA, zB, zC]
 refine takeL 5 (v := ?_) ?_ ‹_› ?_
 rotate_left
 ·intro w hSw; go_simp; all_goals with_reducible rfl
 simp only [Act.put, zA, zB, zC]
 refine takeL 6 (v := ?_) ?_ ‹_› ?_
 rotate_left
 ·intro w hSw; go_simp; all_goals with_reducible rfl
 simp only [Act.put, zA, zB, zC]
 refine takeL 7 (v := ?_) ?_ ‹_› ?_
 rotate_left
 ·intro w hSw; go_simp; all_goals with_reducible rfl
 simp only [Act.put, zA, zB, zC]
 refine takeL 8 (v := ?_) ?_ ‹_› ?_
 rotate_left
 ·intro w hSw; go_simp; all_goals with_reducible rfl
 simp only [Act.put, zA, zB, zC]
 refine wpAnyH_ready (rs := [9]) (by kernel_rfl) (by simp) (.cons rfl (fun K hK => ?_) .nil)
 go_simp
 refine (HBa.out _).mono ?_
 rintro e w1 ⟨rfl, hb⟩
 replace F := below_on F hb
 clear hb
 refine hK.out _ _ (HX.out _ F) (fun hHeld => ?_)
 clear hK K
 try simp only [Act.put, zA, zB, zC]
 refine takeL 10 (v := ?_) ?_ ‹_› ?_
 rotate_left
 ·intro w hSw; go_simp; all_goals with_reducible rfl
 simp only [Act.put, zA, zB, zC]
 refine takeL 11 (v := ?_) ?_ ‹_› ?_
 rotate_left
 ·intro w hSw; go_simp; all_goals with_reducible rfl
 simp only [Act.put, zA, zB, zC]
 refine takeL 12 (v := ?_) ?_ ‹_› ?_
 rotate_left
 ·intro w hSw; go_simp; all_goals with_reducible rfl
 simp only [Act.put, zA, zB, zC]
 refine take_listed (i := 13) (v := undef) rfl (by kernel_rfl) (by kernel_rfl) (by kernel_rfl) (fun _ _ _ h => h) (Or.inr ⟨by rfl, rfl⟩) (by assumption) ?_
 simp only [Act.put, zA, zB, zC]
 refine take_listed (i := 14) (v := undef) rfl (by kernel_rfl) (by kernel_rfl) (by kernel_rfl) (fun _ _ _ h => h) (Or.inr ⟨by rfl, rfl⟩) (by assumption) ?_
 simp only [Act.put, zA, zB, zC]
 refine take_listed (i := 15) (v := undef) rfl (by kernel_rfl) (by kernel_rfl) (by kernel_rfl) (fun _ _ _ h => h) (Or.inr ⟨by rfl, rfl⟩) (by assumption) ?_
 simp only [Act.put, zA, zB, zC]
 refine takeL 16 (v := ?_) ?_ ‹_› ?_
 rotate_left
 ·intro w hSw; go_simp; all_goals with_reducible rfl
 simp only [Act.put, zA, zB, zC]
 refine takeL 17 (v := ?_) ?_ ‹_› ?_
 rotate_left
 ·intro w hSw; go_simp; all_goals with_reducible rfl
 simp only [Act.put, zA, zB, zC]
 refine take_listed (i := 18) (v := undef) rfl (by kernel_rfl) (by kernel_rfl) (by kernel_rfl) (fun _ _ _ h => h) (Or.inr ⟨by rfl, rfl⟩) (by assumption) ?_
 simp only [Act.put, zA, zB, zC]
 refine take_listed (i := 19) (v := undef) rfl (by kernel_rfl) (by kernel_rfl) (by kernel_rfl) (fun _ _ _ h => h) (Or.inr ⟨by rfl, rfl⟩) (by assumption) ?_
 simp only [Act.put, zA, zB, zC]
 refine take_listed (i := 20) (v := undef) rfl (by kernel_rfl) (by kernel_rfl) (by kernel_rfl) (fun _ _ _ h => h) (Or.inr ⟨by rfl, rfl⟩) (by assumption) ?_
 simp only [Act.put, zA, zB, zC]
 refine takeL 21 (v := ?_) ?_ ‹_› ?_
 rotate_left
 ·intro w hSw; go_simp; all_goals with_reducible rfl
 simp only [Act.put, zA, zB, zC]
 refine takeL 22 (v := ?_) ?_ ‹_› ?_
 rotate_left
 ·intro w hSw; go_simp; all_goals with_reducible rfl
 simp only [Act.put, zA, zB, zC]
 refine take_listed (i := 23) (v := undef) rfl (by kernel_rfl) (by kernel_rfl) (by kernel_rfl) (fun _ _ _ h => h) (Or.inr ⟨by rfl, rfl⟩) (by assumption) ?_
 simp only [Act.put, zA, zB, zC]
 refine take_listed (i := 24) (v := undef) rfl (by kernel_rfl) (by kernel_rfl) (by kernel_rfl) (fun _ _ _ h => h) (Or.inr ⟨by rfl, rfl⟩) (by assumption) ?_
 simp only [Act.put, zA, zB, zC]
 refine take_listed (i := 25) (v := undef) rfl (by kernel_rfl) (by kernel_rfl) (by kernel_rfl) (fun _ _ _ h => h) (Or.inr ⟨by rfl, rfl⟩) (by assumption) ?_
 simp only [Act.put, zA, zB, zC]
 refine takeL 26 (v := ?_) ?_ ‹_› ?_
 rotate_left
 ·intro w hSw; go_simp; all_goals with_reducible rfl
 simp only [Act.put, zA, zB, zC]
 clear hHeld
 refine wpAnyH_done (by kernel_rfl) ?_ _
 have HF := h_ F
 clear F
 go_wp2_with fail
 go_ret
 exact ⟨by rw [HQ.out]; rfl, HB0.out.trans (HF.out.mono HB0.out.size)⟩

theorem rrD (r : Rc) (h1 : 1 ≤ r.k) (h5 : r.k ≤ 5) (hs : sameRc r (bareR r.k.toNat r) = true) (hx : ¬ r.no ≤ 4294967295) (w : World) : Calls Tryz.prog 30 #[.agg #[.int .i64 r.k, .int .u32 r.n, .int .u32 r.m, .int .u64 r.t, .int .u32 r.q, .int .i64 r.wh, .int .i64 r.wy, .int .u64 r.at0, .int .u64 r.no, .int .u32 r.nd, .int .u32 r.rg, .bool r.ys, .int .u64 r.fr, .int .u64 r.un, .int .u8 r.lv]] w fun e w' => e = .returned (.bool (rightRc r)) ∧ Below w.heap.size w w' := by
 have g1 : decide (r.k < 1) = false := decide_eq_false (by omega)
 have g2 : decide (5 < r.k) = false := decide_eq_false (by omega)
 obtain ⟨b, hb⟩ : ∃ b, b = bareR r.k.toNat r := ⟨_, rfl⟩
 have HBa : Hid (∀ w : World, Calls Tryz.prog 51 #[.agg #[.int .i64 r.k, .int .u32 r.n, .int .u32 r.m, .int .u64 r.t, .int .u32 r.q, .int .i64 r.wh, .int .i64 r.wy, .int .u64 r.at0, .int .u64 r.no, .int .u32 r.nd, .int .u32 r.rg, .bool r.ys, .int .u64 r.fr, .int .u64 r.un, .int .u8 r.lv]] w fun e w' => e = .returned (.agg #[.int .i64 b.k, .int .u32 b.n, .int .u32 b.m, .int .u64 b.t, .int .u32 b.q, .int .i64 b.wh, .int .i64 b.wy, .int .u64 b.at0, .int .u64 b.no, .int .u32 b.nd, .int .u32 b.rg, .bool b.ys, .int .u64 b.fr, .int .u64 b.un, .int .u8 b.lv]) ∧ Below w.heap.size w w') := fun w => by
  rw [hb]
  exact rbare_any r h1 h5 w
 have heq : ∀ w : World, (Op.equalIn 10000 32 (.agg #[.int .i64 r.k, .int .u32 r.n, .int .u32 r.m, .int .u64 r.t, .int .u32 r.q, .int .i64 r.wh, .int .i64 r.wy, .int .u64 r.at0, .int .u64 r.no, .int .u32 r.nd, .int .u32 r.rg, .bool r.ys, .int .u64 r.fr, .int .u64 r.un, .int .u8 r.lv]) (.agg #[.int .i64 b.k, .int .u32 b.n, .int .u32 b.m, .int .u64 b.t, .int .u32 b.q, .int .i64 b.wh, .int .i64 b.wy, .int .u64 b.at0, .int .u64 b.no, .int .u32 b.nd, .int .u32 b.rg, .bool b.ys, .int .u64 b.fr, .int .u64 b.un, .int .u8 b.lv])).run Tryz.prog w = .ok true w := fun w => by
  have h := eqRc_run r b w
  rw [hb, hs, ← hb] at h
  exact h
 clear hb
 have e2 : decide ((4294967295 : Int) < (r.no : Int)) = true := decide_eq_true (by omega)
 have HQ : Hid (rightRc r = false) := by
  rw [Hid, rightRc, show decide (r.no ≤ 4294967295) = false from decide_eq_false hx]
  simp
 clear hs hx h1 h5
 obtain ⟨W, hW⟩ : ∃ W, W = w.alloc (.cells #[.int .i64 r.k, .int .u32 r.n, .int .u32 r.m, .int .u64 r.t, .int .u32 r.q, .int .i64 r.wh, .int .i64 r.wy, .int .u64 r.at0, .int .u64 r.no, .int .u32 r.nd, .int .u32 r.rg, .bool r.ys, .int .u64 r.fr, .int .u64 r.un, .int .u8 r.lv] 32) := ⟨_, rfl⟩
 have HB0 : Hid (Below w.heap.size w W) := by rw [hW]; exact below_al bR _
 have HX : Hid (∀ w', Below W.heap.size W w' → w'.cell? ⟨w.heap.size, 0, none⟩ = some (.int .i64 r.k) ∧ w'.cell? ⟨w.heap.size, 1, none⟩ = some (.int .u32 r.n) ∧ w'.cell? ⟨w.heap.size, 2, none⟩ = some (.int .u32 r.m) ∧ w'.cell? ⟨w.heap.size, 3, none⟩ = some (.int .u64 r.t) ∧ w'.cell? ⟨w.heap.size, 4, none⟩ = some (.int .u32 r.q) ∧ w'.cell? ⟨w.heap.size, 5, none⟩ = some (.int .i64 r.wh) ∧ w'.cell? ⟨w.heap.size, 6, none⟩ = some (.int .i64 r.wy) ∧ w'.cell? ⟨w.heap.size, 7, none⟩ = some (.int .u64 r.at0) ∧ w'.cell? ⟨w.heap.size, 8, none⟩ = some (.int .u64 r.no) ∧ w'.cell? ⟨w.heap.size, 9, none⟩ = some (.int .u32 r.nd) ∧ w'.cell? ⟨w.heap.size, 10, none⟩ = some (.int .u32 r.rg) ∧ w'.cell? ⟨w.heap.size, 11, none⟩ = some (.bool r.ys) ∧ w'.cell? ⟨w.heap.size, 12, none⟩ = some (.int .u64 r.fr) ∧ w'.cell? ⟨w.heap.size, 13, none⟩ = some (.int .u64 r.un) ∧ w'.cell? ⟨w.heap.size, 14, none⟩ = some (.int .u8 r.lv)) := fun w' h => by
  rw [hW] at h
  exact ⟨box_at h 0, box_at h 1, box_at h 2, box_at h 3, box_at h 4, box_at h 5, box_at h 6, box_at h 7, box_at h 8, box_at h 9, box_at h 10, box_at h 11, box_at h 12, box_at h 13, box_at h 14⟩
 have HW := h_ hW
 obtain ⟨x0, x1, x2, x3, x4, x5, x6, x7, x8, x9, x10, x11, x12, x13, x14⟩ := HX.out W bR
 rw [HW.out] at x0 x1 x2 x3 x4 x5 x6 x7 x8 x9 x10 x11 x12 x13 x14
 clear hW
 go_enter Tryz.func30, Tryz.ntmps30
 go_upto_region 2 with fail
 rw [← HW.out]
 clear x0 x1 x2 x3 x4 x5 x6 x7 x8 x9 x10 x11 x12 x13 x14
 have F : Below W.heap.size W W.drew := bR.drew
 refine wp_region_held_drew (S := (fun w' => w'.cell? ⟨w.heap.size, 0, none⟩ = some (.int .i64 r.k) ∧ w'.cell? ⟨w.heap.size, 1, none⟩ = some (.int .u32 r.n) ∧ w'.cell? ⟨w.heap.size, 2, none⟩ = some (.int .u32 r.m) ∧ w'.cell? ⟨w.heap.size, 3, none⟩ = some (.int .u64 r.t) ∧ w'.cell? ⟨w.heap.size, 4, none⟩ = some (.int .u32 r.q) ∧ w'.cell? ⟨w.heap.size, 5, none⟩ = some (.int .i64 r.wh) ∧ w'.cell? ⟨w.heap.size, 6, none⟩ = some (.int .i64 r.wy) ∧ w'.cell? ⟨w.heap.size, 7, none⟩ = some (.int .u64 r.at0) ∧ w'.cell? ⟨w.heap.size, 8, none⟩ = some (.int .u64 r.no) ∧ w'.cell? ⟨w.heap.size, 9, none⟩ = some (.int .u32 r.nd) ∧ w'.cell? ⟨w.heap.size, 10, none⟩ = some (.int .u32 r.rg) ∧ w'.cell? ⟨w.heap.size, 11, none⟩ = some (.bool r.ys) ∧ w'.cell? ⟨w.heap.size, 12, none⟩ = some (.int .u64 r.fr) ∧ w'.cell? ⟨w.heap.size, 13, none⟩ = some (.int .u64 r.un) ∧ w'.cell? ⟨w.heap.size, 14, none⟩ = some (.int .u8 r.lv))) (by kernel_rfl) (HX.out _ F) (fun hHeld => ?_)
 refine takeL 0 (v := ?_) ?_ ‹_› ?_
 rotate_left
 ·intro w hSw; go_simp; all_goals with_reducible rfl
 simp only [Act.put, zA, zB, zC]
 refine takeL 1 (v := ?_) ?_ ‹_› ?_
 rotate_left
 ·intro w hSw; go_simp; all_goals with_reducible rfl
 simp only [Act.put, zA, zB, zC]
 refine takeL 2 (v := ?_) ?_ ‹_› ?_
 rotate_left
 ·intro w hSw; go_simp; all_goals with_reducible rfl
 simp only [Act.put, zA, zB, zC]
 refine takeL 3 (v := ?_) ?_ ‹_› ?_
 rotate_left
 ·intro w hSw; go_simp; all_goals with_reducible rfl
 simp only [Act.put, zA, zB, zC]
 refine takeL 4 (v := ?_) ?_ ‹_› ?_
 rotate_left
 ·intro w hSw; go_simp; all_goals with_reducible rfl
 simp only [Act.put, zA, zB, zC]
 refine takeL 5 (v := ?_) ?_ ‹_› ?_
 rotate_left
 ·intro w hSw; go_simp; all_goals with_reducible rfl
 simp only [Act.put, zA, zB, zC]
 refine takeL 6 (v := ?_) ?_ ‹_› ?_
 rotate_left
 ·intro w hSw; go_simp; all_goals with_reducible rfl
 simp only [Act.put, zA, zB, zC]
 refine takeL 7 (v := ?_) ?_ ‹_› ?_
 rotate_left
 ·intro w hSw; go_simp; all_goals with_reducible rfl
 simp only [Act.put, zA, zB, zC]
 refine takeL 8 (v := ?_) ?_ ‹_› ?_
 rotate_left
 ·intro w hSw; go_simp; all_goals with_reducible rfl
 simp only [Act.put, zA, zB, zC]
 refine wpAnyH_ready (rs := [9]) (by kernel_rfl) (by simp) (.cons rfl (fun K hK => ?_) .nil)
 go_simp
 refine (HBa.out _).mono ?_
 rintro e w1 ⟨rfl, hb⟩
 replace F := below_on F hb
 clear hb
 refine hK.out _ _ (HX.out _ F) (fun hHeld => ?_)
 clear hK K
 try simp only [Act.put, zA, zB, zC]
 refine takeL 10 (v := ?_) ?_ ‹_› ?_
 rotate_left
 ·intro w hSw; go_simp; all_goals with_reducible rfl
 simp only [Act.put, zA, zB, zC]
 refine takeL 11 (v := ?_) ?_ ‹_› ?_
 rotate_left
 ·intro w hSw; go_simp; all_goals with_reducible rfl
 simp only [Act.put, zA, zB, zC]
 refine takeL 12 (v := ?_) ?_ ‹_› ?_
 rotate_left
 ·intro w hSw; go_simp; all_goals with_reducible rfl
 simp only [Act.put, zA, zB, zC]
 refine takeL 13 (v := ?_) ?_ ‹_› ?_
 rotate_left
 ·intro w hSw; go_simp; all_goals with_reducible rfl
 simp only [Act.put, zA, zB, zC]
 refine takeL 14 (v := ?_) ?_ ‹_› ?_
 rotate_left
 ·intro w hSw; go_simp; all_goals with_reducible rfl
 simp only [Act.put, zA, zB, zC]
 refine takeL 15 (v := ?_) ?_ ‹_› ?_
 rotate_left
 ·intro w hSw; go_simp; all_goals with_reducible rfl
 simp only [Act.put, zA, zB, zC]
 refine takeL 16 (v := ?_) ?_ ‹_› ?_
 rotate_left
 ·intro w hSw; go_simp; all_goals with_reducible rfl
 simp only [Act.put, zA, zB, zC]
 refine takeL 17 (v := ?_) ?_ ‹_› ?_
 rotate_left
 ·intro w hSw; go_simp; all_goals with_reducible rfl
 simp only [Act.put, zA, zB, zC]
 refine take_listed (i := 18) (v := undef) rfl (by kernel_rfl) (by kernel_rfl) (by kernel_rfl) (fun _ _ _ h => h) (Or.inr ⟨by rfl, rfl⟩) (by assumption) ?_
 simp only [Act.put, zA, zB, zC]
 refine take_listed (i := 19) (v := undef) rfl (by kernel_rfl) (by kernel_rfl) (by kernel_rfl) (fun _ _ _ h => h) (Or.inr ⟨by rfl, rfl⟩) (by assumption) ?_
 simp only [Act.put, zA, zB, zC]
 refine take_listed (i := 20) (v := undef) rfl (by kernel_rfl) (by kernel_rfl) (by kernel_rfl) (fun _ _ _ h => h) (Or.inr ⟨by rfl, rfl⟩) (by assumption) ?_
 simp only [Act.put, zA, zB, zC]
 refine takeL 21 (v := ?_) ?_ ‹_› ?_
 rotate_left
 ·intro w hSw; go_simp; all_goals with_reducible rfl
 simp only [Act.put, zA, zB, zC]
 refine takeL 22 (v := ?_) ?_ ‹_› ?_
 rotate_left
 ·intro w hSw; go_simp; all_goals with_reducible rfl
 simp only [Act.put, zA, zB, zC]
 refine take_listed (i := 23) (v := undef) rfl (by kernel_rfl) (by kernel_rfl) (by kernel_rfl) (fun _ _ _ h => h) (Or.inr ⟨by rfl, rfl⟩) (by assumption) ?_
 simp only [Act.put, zA, zB, zC]
 refine take_listed (i := 24) (v := undef) rfl (by kernel_rfl) (by kernel_rfl) (by kernel_rfl) (fun _ _ _ h => h) (Or.inr ⟨by rfl, rfl⟩) (by assumption) ?_
 simp only [Act.put, zA, zB, zC]
 refine take_listed (i := 25) (v := undef) rfl (by kernel_rfl) (by kernel_rfl) (by kernel_rfl) (fun _ _ _ h => h) (Or.inr ⟨by rfl, rfl⟩) (by assumption) ?_
 simp only [Act.put, zA, zB, zC]
 refine takeL 26 (v := ?_) ?_ ‹_› ?_
 rotate_left
 ·intro w hSw; go_simp; all_goals with_reducible rfl
 simp only [Act.put, zA, zB, zC]
 clear hHeld
 refine wpAnyH_done (by kernel_rfl) ?_ _
 have HF := h_ F
 clear F
 go_wp2_with fail
 go_ret
 exact ⟨by rw [HQ.out]; rfl, HB0.out.trans (HF.out.mono HB0.out.size)⟩

theorem rrE (r : Rc) (h1 : 1 ≤ r.k) (h5 : r.k ≤ 5) (hs : sameRc r (bareR r.k.toNat r) = true) (h2 : r.no ≤ 4294967295) (hx : ¬ r.at0 ≤ 4611686018427387903) (w : World) : Calls Tryz.prog 30 #[.agg #[.int .i64 r.k, .int .u32 r.n, .int .u32 r.m, .int .u64 r.t, .int .u32 r.q, .int .i64 r.wh, .int .i64 r.wy, .int .u64 r.at0, .int .u64 r.no, .int .u32 r.nd, .int .u32 r.rg, .bool r.ys, .int .u64 r.fr, .int .u64 r.un, .int .u8 r.lv]] w fun e w' => e = .returned (.bool (rightRc r)) ∧ Below w.heap.size w w' := by
 have g1 : decide (r.k < 1) = false := decide_eq_false (by omega)
 have g2 : decide (5 < r.k) = false := decide_eq_false (by omega)
 obtain ⟨b, hb⟩ : ∃ b, b = bareR r.k.toNat r := ⟨_, rfl⟩
 have HBa : Hid (∀ w : World, Calls Tryz.prog 51 #[.agg #[.int .i64 r.k, .int .u32 r.n, .int .u32 r.m, .int .u64 r.t, .int .u32 r.q, .int .i64 r.wh, .int .i64 r.wy, .int .u64 r.at0, .int .u64 r.no, .int .u32 r.nd, .int .u32 r.rg, .bool r.ys, .int .u64 r.fr, .int .u64 r.un, .int .u8 r.lv]] w fun e w' => e = .returned (.agg #[.int .i64 b.k, .int .u32 b.n, .int .u32 b.m, .int .u64 b.t, .int .u32 b.q, .int .i64 b.wh, .int .i64 b.wy, .int .u64 b.at0, .int .u64 b.no, .int .u32 b.nd, .int .u32 b.rg, .bool b.ys, .int .u64 b.fr, .int .u64 b.un, .int .u8 b.lv]) ∧ Below w.heap.size w w') := fun w => by
  rw [hb]
  exact rbare_any r h1 h5 w
 have heq : ∀ w : World, (Op.equalIn 10000 32 (.agg #[.int .i64 r.k, .int .u32 r.n, .int .u32 r.m, .int .u64 r.t, .int .u32 r.q, .int .i64 r.wh, .int .i64 r.wy, .int .u64 r.at0, .int .u64 r.no, .int .u32 r.nd, .int .u32 r.rg, .bool r.ys, .int .u64 r.fr, .int .u64 r.un, .int .u8 r.lv]) (.agg #[.int .i64 b.k, .int .u32 b.n, .int .u32 b.m, .int .u64 b.t, .int .u32 b.q, .int .i64 b.wh, .int .i64 b.wy, .int .u64 b.at0, .int .u64 b.no, .int .u32 b.nd, .int .u32 b.rg, .bool b.ys, .int .u64 b.fr, .int .u64 b.un, .int .u8 b.lv])).run Tryz.prog w = .ok true w := fun w => by
  have h := eqRc_run r b w
  rw [hb, hs, ← hb] at h
  exact h
 clear hb
 have e1 : decide ((4294967295 : Int) < (r.no : Int)) = false := decide_eq_false (by omega)
 have e2 : decide ((4611686018427387903 : Int) < (r.at0 : Int)) = true := decide_eq_true (by omega)
 have HQ : Hid (rightRc r = false) := by
  rw [Hid, rightRc, show decide (r.at0 ≤ 4611686018427387903) = false from decide_eq_false hx]
  simp
 clear hs hx h1 h5 h2
 obtain ⟨W, hW⟩ : ∃ W, W = w.alloc (.cells #[.int .i64 r.k, .int .u32 r.n, .int .u32 r.m, .int .u64 r.t, .int .u32 r.q, .int .i64 r.wh, .int .i64 r.wy, .int .u64 r.at0, .int .u64 r.no, .int .u32 r.nd, .int .u32 r.rg, .bool r.ys, .int .u64 r.fr, .int .u64 r.un, .int .u8 r.lv] 32) := ⟨_, rfl⟩
 have HB0 : Hid (Below w.heap.size w W) := by rw [hW]; exact below_al bR _
 have HX : Hid (∀ w', Below W.heap.size W w' → w'.cell? ⟨w.heap.size, 0, none⟩ = some (.int .i64 r.k) ∧ w'.cell? ⟨w.heap.size, 1, none⟩ = some (.int .u32 r.n) ∧ w'.cell? ⟨w.heap.size, 2, none⟩ = some (.int .u32 r.m) ∧ w'.cell? ⟨w.heap.size, 3, none⟩ = some (.int .u64 r.t) ∧ w'.cell? ⟨w.heap.size, 4, none⟩ = some (.int .u32 r.q) ∧ w'.cell? ⟨w.heap.size, 5, none⟩ = some (.int .i64 r.wh) ∧ w'.cell? ⟨w.heap.size, 6, none⟩ = some (.int .i64 r.wy) ∧ w'.cell? ⟨w.heap.size, 7, none⟩ = some (.int .u64 r.at0) ∧ w'.cell? ⟨w.heap.size, 8, none⟩ = some (.int .u64 r.no) ∧ w'.cell? ⟨w.heap.size, 9, none⟩ = some (.int .u32 r.nd) ∧ w'.cell? ⟨w.heap.size, 10, none⟩ = some (.int .u32 r.rg) ∧ w'.cell? ⟨w.heap.size, 11, none⟩ = some (.bool r.ys) ∧ w'.cell? ⟨w.heap.size, 12, none⟩ = some (.int .u64 r.fr) ∧ w'.cell? ⟨w.heap.size, 13, none⟩ = some (.int .u64 r.un) ∧ w'.cell? ⟨w.heap.size, 14, none⟩ = some (.int .u8 r.lv)) := fun w' h => by
  rw [hW] at h
  exact ⟨box_at h 0, box_at h 1, box_at h 2, box_at h 3, box_at h 4, box_at h 5, box_at h 6, box_at h 7, box_at h 8, box_at h 9, box_at h 10, box_at h 11, box_at h 12, box_at h 13, box_at h 14⟩
 have HW := h_ hW
 obtain ⟨x0, x1, x2, x3, x4, x5, x6, x7, x8, x9, x10, x11, x12, x13, x14⟩ := HX.out W bR
 rw [HW.out] at x0 x1 x2 x3 x4 x5 x6 x7 x8 x9 x10 x11 x12 x13 x14
 clear hW
 go_enter Tryz.func30, Tryz.ntmps30
 go_upto_region 2 with fail
 rw [← HW.out]
 clear x0 x1 x2 x3 x4 x5 x6 x7 x8 x9 x10 x11 x12 x13 x14
 have F : Below W.heap.size W W.drew := bR.drew
 refine wp_region_held_drew (S := (fun w' => w'.cell? ⟨w.heap.size, 0, none⟩ = some (.int .i64 r.k) ∧ w'.cell? ⟨w.heap.size, 1, none⟩ = some (.int .u32 r.n) ∧ w'.cell? ⟨w.heap.size, 2, none⟩ = some (.int .u32 r.m) ∧ w'.cell? ⟨w.heap.size, 3, none⟩ = some (.int .u64 r.t) ∧ w'.cell? ⟨w.heap.size, 4, none⟩ = some (.int .u32 r.q) ∧ w'.cell? ⟨w.heap.size, 5, none⟩ = some (.int .i64 r.wh) ∧ w'.cell? ⟨w.heap.size, 6, none⟩ = some (.int .i64 r.wy) ∧ w'.cell? ⟨w.heap.size, 7, none⟩ = some (.int .u64 r.at0) ∧ w'.cell? ⟨w.heap.size, 8, none⟩ = some (.int .u64 r.no) ∧ w'.cell? ⟨w.heap.size, 9, none⟩ = some (.int .u32 r.nd) ∧ w'.cell? ⟨w.heap.size, 10, none⟩ = some (.int .u32 r.rg) ∧ w'.cell? ⟨w.heap.size, 11, none⟩ = some (.bool r.ys) ∧ w'.cell? ⟨w.heap.size, 12, none⟩ = some (.int .u64 r.fr) ∧ w'.cell? ⟨w.heap.size, 13, none⟩ = some (.int .u64 r.un) ∧ w'.cell? ⟨w.heap.size, 14, none⟩ = some (.int .u8 r.lv))) (by kernel_rfl) (HX.out _ F) (fun hHeld => ?_)
 refine takeL 0 (v := ?_) ?_ ‹_› ?_
 rotate_left
 ·intro w hSw; go_simp; all_goals with_reducible rfl
 simp only [Act.put, zA, zB, zC]
 refine takeL 1 (v := ?_) ?_ ‹_› ?_
 rotate_left
 ·intro w hSw; go_simp; all_goals with_reducible rfl
 simp only [Act.put, zA, zB, zC]
 refine takeL 2 (v := ?_) ?_ ‹_› ?_
 rotate_left
 ·intro w hSw; go_simp; all_goals with_reducible rfl
 simp only [Act.put, zA, zB, zC]
 refine takeL 3 (v := ?_) ?_ ‹_› ?_
 rotate_left
 ·intro w hSw; go_simp; all_goals with_reducible rfl
 simp only [Act.put, zA, zB, zC]
 refine takeL 4 (v := ?_) ?_ ‹_› ?_
 rotate_left
 ·intro w hSw; go_simp; all_goals with_reducible rfl
 simp only [Act.put, zA, zB, zC]
 refine takeL 5 (v := ?_) ?_ ‹_› ?_
 rotate_left
 ·intro w hSw; go_simp; all_goals with_reducible rfl
 simp only [Act.put, zA, zB, zC]
 refine takeL 6 (v := ?_) ?_ ‹_› ?_
 rotate_left
 ·intro w hSw; go_simp; all_goals with_reducible rfl
 simp only [Act.put, zA, zB, zC]
 refine takeL 7 (v := ?_) ?_ ‹_› ?_
 rotate_left
 ·intro w hSw; go_simp; all_goals with_reducible rfl
 simp only [Act.put, zA, zB, zC]
 refine takeL 8 (v := ?_) ?_ ‹_› ?_
 rotate_left
 ·intro w hSw; go_simp; all_goals with_reducible rfl
 simp only [Act.put, zA, zB, zC]
 refine wpAnyH_ready (rs := [9]) (by kernel_rfl) (by simp) (.cons rfl (fun K hK => ?_) .nil)
 go_simp
 refine (HBa.out _).mono ?_
 rintro e w1 ⟨rfl, hb⟩
 replace F := below_on F hb
 clear hb
 refine hK.out _ _ (HX.out _ F) (fun hHeld => ?_)
 clear hK K
 try simp only [Act.put, zA, zB, zC]
 refine takeL 10 (v := ?_) ?_ ‹_› ?_
 rotate_left
 ·intro w hSw; go_simp; all_goals with_reducible rfl
 simp only [Act.put, zA, zB, zC]
 refine takeL 11 (v := ?_) ?_ ‹_› ?_
 rotate_left
 ·intro w hSw; go_simp; all_goals with_reducible rfl
 simp only [Act.put, zA, zB, zC]
 refine takeL 12 (v := ?_) ?_ ‹_› ?_
 rotate_left
 ·intro w hSw; go_simp; all_goals with_reducible rfl
 simp only [Act.put, zA, zB, zC]
 refine takeL 13 (v := ?_) ?_ ‹_› ?_
 rotate_left
 ·intro w hSw; go_simp; all_goals with_reducible rfl
 simp only [Act.put, zA, zB, zC]
 refine takeL 14 (v := ?_) ?_ ‹_› ?_
 rotate_left
 ·intro w hSw; go_simp; all_goals with_reducible rfl
 simp only [Act.put, zA, zB, zC]
 refine takeL 15 (v := ?_) ?_ ‹_› ?_
 rotate_left
 ·intro w hSw; go_simp; all_goals with_reducible rfl
 simp only [Act.put, zA, zB, zC]
 refine takeL 16 (v := ?_) ?_ ‹_› ?_
 rotate_left
 ·intro w hSw; go_simp; all_goals with_reducible rfl
 simp only [Act.put, zA, zB, zC]
 refine takeL 17 (v := ?_) ?_ ‹_› ?_
 rotate_left
 ·intro w hSw; go_simp; all_goals with_reducible rfl
 simp only [Act.put, zA, zB, zC]
 refine takeL 18 (v := ?_) ?_ ‹_› ?_
 rotate_left
 ·intro w hSw; go_simp; all_goals with_reducible rfl
 simp only [Act.put, zA, zB, zC]
 refine takeL 19 (v := ?_) ?_ ‹_› ?_
 rotate_left
 ·intro w hSw; go_simp; all_goals with_reducible rfl
 simp only [Act.put, zA, zB, zC]
 refine takeL 20 (v := ?_) ?_ ‹_› ?_
 rotate_left
 ·intro w hSw; go_simp; all_goals with_reducible rfl
 simp only [Act.put, zA, zB, zC]
 refine takeL 21 (v := ?_) ?_ ‹_› ?_
 rotate_left
 ·intro w hSw; go_simp; all_goals with_reducible rfl
 simp only [Act.put, zA, zB, zC]
 refine takeL 22 (v := ?_) ?_ ‹_› ?_
 rotate_left
 ·intro w hSw; go_simp; all_goals with_reducible rfl
 simp only [Act.put, zA, zB, zC]
 refine take_listed (i := 23) (v := undef) rfl (by kernel_rfl) (by kernel_rfl) (by kernel_rfl) (fun _ _ _ h => h) (Or.inr ⟨by rfl, rfl⟩) (by assumption) ?_
 simp only [Act.put, zA, zB, zC]
 refine take_listed (i := 24) (v := undef) rfl (by kernel_rfl) (by kernel_rfl) (by kernel_rfl) (fun _ _ _ h => h) (Or.inr ⟨by rfl, rfl⟩) (by assumption) ?_
 simp only [Act.put, zA, zB, zC]
 refine take_listed (i := 25) (v := undef) rfl (by kernel_rfl) (by kernel_rfl) (by kernel_rfl) (fun _ _ _ h => h) (Or.inr ⟨by rfl, rfl⟩) (by assumption) ?_
 simp only [Act.put, zA, zB, zC]
 refine takeL 26 (v := ?_) ?_ ‹_› ?_
 rotate_left
 ·intro w hSw; go_simp; all_goals with_reducible rfl
 simp only [Act.put, zA, zB, zC]
 clear hHeld
 refine wpAnyH_done (by kernel_rfl) ?_ _
 have HF := h_ F
 clear F
 go_wp2_with fail
 go_ret
 exact ⟨by rw [HQ.out]; rfl, HB0.out.trans (HF.out.mono HB0.out.size)⟩

attribute [local go_sem] Oper.semAt_some

theorem rrG (r : Rc) (h1 : 1 ≤ r.k) (h5 : r.k ≤ 5) (hs : sameRc r (bareR r.k.toNat r) = true) (h2 : r.no ≤ 4294967295) (h3 : r.at0 ≤ 4611686018427387903) (w : World) : Calls Tryz.prog 30 #[.agg #[.int .i64 r.k, .int .u32 r.n, .int .u32 r.m, .int .u64 r.t, .int .u32 r.q, .int .i64 r.wh, .int .i64 r.wy, .int .u64 r.at0, .int .u64 r.no, .int .u32 r.nd, .int .u32 r.rg, .bool r.ys, .int .u64 r.fr, .int .u64 r.un, .int .u8 r.lv]] w fun e w' => e = .returned (.bool (rightRc r)) ∧ Below w.heap.size w w' := by
 have g1 : decide (r.k < 1) = false := decide_eq_false (by omega)
 have g2 : decide (5 < r.k) = false := decide_eq_false (by omega)
 obtain ⟨b, hb⟩ : ∃ b, b = bareR r.k.toNat r := ⟨_, rfl⟩
 have HBa : Hid (∀ w : World, Calls Tryz.prog 51 #[.agg #[.int .i64 r.k, .int .u32 r.n, .int .u32 r.m, .int .u64 r.t, .int .u32 r.q, .int .i64 r.wh, .int .i64 r.wy, .int .u64 r.at0, .int .u64 r.no, .int .u32 r.nd, .int .u32 r.rg, .bool r.ys, .int .u64 r.fr, .int .u64 r.un, .int .u8 r.lv]] w fun e w' => e = .returned (.agg #[.int .i64 b.k, .int .u32 b.n, .int .u32 b.m, .int .u64 b.t, .int .u32 b.q, .int .i64 b.wh, .int .i64 b.wy, .int .u64 b.at0, .int .u64 b.no, .int .u32 b.nd, .int .u32 b.rg, .bool b.ys, .int .u64 b.fr, .int .u64 b.un, .int .u8 b.lv]) ∧ Below w.heap.size w w') := fun w => by
  rw [hb]
  exact rbare_any r h1 h5 w
 have heq : ∀ w : World, (Op.equalIn 10000 32 (.agg #[.int .i64 r.k, .int .u32 r.n, .int .u32 r.m, .int .u64 r.t, .int .u32 r.q, .int .i64 r.wh, .int .i64 r.wy, .int .u64 r.at0, .int .u64 r.no, .int .u32 r.nd, .int .u32 r.rg, .bool r.ys, .int .u64 r.fr, .int .u64 r.un, .int .u8 r.lv]) (.agg #[.int .i64 b.k, .int .u32 b.n, .int .u32 b.m, .int .u64 b.t, .int .u32 b.q, .int .i64 b.wh, .int .i64 b.wy, .int .u64 b.at0, .int .u64 b.no, .int .u32 b.nd, .int .u32 b.rg, .bool b.ys, .int .u64 b.fr, .int .u64 b.un, .int .u8 b.lv])).run Tryz.prog w = .ok true w := fun w => by
  have h := eqRc_run r b w
  rw [hb, hs, ← hb] at h
  exact h
 clear hb
 have e1 : decide ((4294967295 : Int) < (r.no : Int)) = false := decide_eq_false (by omega)
 have e2 : decide ((4611686018427387903 : Int) < (r.at0 : Int)) = false := decide_eq_false (by omega)
 have HQ : Hid (rightRc r = (decide (r.un ≤ 4611686018427387903) && tailR r.k r)) := by
  rw [Hid, rightRc, hs, show decide (r.no ≤ 4294967295) = true from decide_eq_true h2, show decide (r.at0 ≤ 4611686018427387903) = true from decide_eq_true h3]
  rfl
 have HU := h_ (dec_lei r.un 4611686018427387903 4611686018427387903 rfl)
 have HK : Hid ((r.k = 1 ∧ (r.k == 1) = true) ∨ (r.k = 4 ∧ (r.k == 1) = false ∧ (r.k == 4) = true) ∨ ((r.k ≠ 1 ∧ r.k ≠ 4) ∧ (r.k == 1) = false ∧ (r.k == 4) = false)) := by
  by_cases a : r.k = 1
  ·exact .inl ⟨a, by simp [a]⟩
  ·by_cases b : r.k = 4
   ·exact .inr (.inl ⟨b, by simp [b], by simp [b]⟩)
   ·exact .inr (.inr ⟨⟨a, b⟩, by simp [a], by simp [b]⟩)
 clear hs h1 h5 h2 h3
 obtain ⟨W, hW⟩ : ∃ W, W = w.alloc (.cells #[.int .i64 r.k, .int .u32 r.n, .int .u32 r.m, .int .u64 r.t, .int .u32 r.q, .int .i64 r.wh, .int .i64 r.wy, .int .u64 r.at0, .int .u64 r.no, .int .u32 r.nd, .int .u32 r.rg, .bool r.ys, .int .u64 r.fr, .int .u64 r.un, .int .u8 r.lv] 32) := ⟨_, rfl⟩
 have HB0 : Hid (Below w.heap.size w W) := by rw [hW]; exact below_al bR _
 have HX : Hid (∀ w', Below W.heap.size W w' → w'.cell? ⟨w.heap.size, 0, none⟩ = some (.int .i64 r.k) ∧ w'.cell? ⟨w.heap.size, 1, none⟩ = some (.int .u32 r.n) ∧ w'.cell? ⟨w.heap.size, 2, none⟩ = some (.int .u32 r.m) ∧ w'.cell? ⟨w.heap.size, 3, none⟩ = some (.int .u64 r.t) ∧ w'.cell? ⟨w.heap.size, 4, none⟩ = some (.int .u32 r.q) ∧ w'.cell? ⟨w.heap.size, 5, none⟩ = some (.int .i64 r.wh) ∧ w'.cell? ⟨w.heap.size, 6, none⟩ = some (.int .i64 r.wy) ∧ w'.cell? ⟨w.heap.size, 7, none⟩ = some (.int .u64 r.at0) ∧ w'.cell? ⟨w.heap.size, 8, none⟩ = some (.int .u64 r.no) ∧ w'.cell? ⟨w.heap.size, 9, none⟩ = some (.int .u32 r.nd) ∧ w'.cell? ⟨w.heap.size, 10, none⟩ = some (.int .u32 r.rg) ∧ w'.cell? ⟨w.heap.size, 11, none⟩ = some (.bool r.ys) ∧ w'.cell? ⟨w.heap.size, 12, none⟩ = some (.int .u64 r.fr) ∧ w'.cell? ⟨w.heap.size, 13, none⟩ = some (.int .u64 r.un) ∧ w'.cell? ⟨w.heap.size, 14, none⟩ = some (.int .u8 r.lv)) := fun w' h => by
  rw [hW] at h
  exact ⟨box_at h 0, box_at h 1, box_at h 2, box_at h 3, box_at h 4, box_at h 5, box_at h 6, box_at h 7, box_at h 8, box_at h 9, box_at h 10, box_at h 11, box_at h 12, box_at h 13, box_at h 14⟩
 have HW := h_ hW
 obtain ⟨x0, x1, x2, x3, x4, x5, x6, x7, x8, x9, x10, x11, x12, x13, x14⟩ := HX.out W bR
 rw [HW.out] at x0 x1 x2 x3 x4 x5 x6 x7 x8 x9 x10 x11 x12 x13 x14
 clear hW
 go_enter Tryz.func30, Tryz.ntmps30
 go_upto_region 2 with fail
 rw [← HW.out]
 clear x0 x1 x2 x3 x4 x5 x6 x7 x8 x9 x10 x11 x12 x13 x14
 rcases HU.out with ⟨hu, e3, _⟩ | ⟨hu, e3, _⟩
 rotate_left
 ·have F : Below W.heap.size W W.drew := bR.drew
  refine wp_region_held_drew (S := (fun w' => w'.cell? ⟨w.heap.size, 0, none⟩ = some (.int .i64 r.k) ∧ w'.cell? ⟨w.heap.size, 1, none⟩ = some (.int .u32 r.n) ∧ w'.cell? ⟨w.heap.size, 2, none⟩ = some (.int .u32 r.m) ∧ w'.cell? ⟨w.heap.size, 3, none⟩ = some (.int .u64 r.t) ∧ w'.cell? ⟨w.heap.size, 4, none⟩ = some (.int .u32 r.q) ∧ w'.cell? ⟨w.heap.size, 5, none⟩ = some (.int .i64 r.wh) ∧ w'.cell? ⟨w.heap.size, 6, none⟩ = some (.int .i64 r.wy) ∧ w'.cell? ⟨w.heap.size, 7, none⟩ = some (.int .u64 r.at0) ∧ w'.cell? ⟨w.heap.size, 8, none⟩ = some (.int .u64 r.no) ∧ w'.cell? ⟨w.heap.size, 9, none⟩ = some (.int .u32 r.nd) ∧ w'.cell? ⟨w.heap.size, 10, none⟩ = some (.int .u32 r.rg) ∧ w'.cell? ⟨w.heap.size, 11, none⟩ = some (.bool r.ys) ∧ w'.cell? ⟨w.heap.size, 12, none⟩ = some (.int .u64 r.fr) ∧ w'.cell? ⟨w.heap.size, 13, none⟩ = some (.int .u64 r.un) ∧ w'.cell? ⟨w.heap.size, 14, none⟩ = some (.int .u8 r.lv))) (by kernel_rfl) (HX.out _ F) (fun hHeld => ?_)
  refine takeL 0 (v := ?_) ?_ ‹_› ?_
  rotate_left
  ·intro w hSw; go_simp; all_goals with_reducible rfl
  simp only [Act.put, zA, zB, zC]
  refine takeL 1 (v := ?_) ?_ ‹_› ?_
  rotate_left
  ·intro w hSw; go_simp; all_goals with_reducible rfl
  simp only [Act.put, zA, zB, zC]
  refine takeL 2 (v := ?_) ?_ ‹_› ?_
  rotate_left
  ·intro w hSw; go_simp; all_goals with_reducible rfl
  simp only [Act.put, zA, zB, zC]
  refine takeL 3 (v := ?_) ?_ ‹_› ?_
  rotate_left
  ·intro w hSw; go_simp; all_goals with_reducible rfl
  simp only [Act.put, zA, zB, zC]
  refine takeL 4 (v := ?_) ?_ ‹_› ?_
  rotate_left
  ·intro w hSw; go_simp; all_goals with_reducible rfl
  simp only [Act.put, zA, zB, zC]
  refine takeL 5 (v := ?_) ?_ ‹_› ?_
  rotate_left
  ·intro w hSw; go_simp; all_goals with_reducible rfl
  simp only [Act.put, zA, zB, zC]
  refine takeL 6 (v := ?_) ?_ ‹_› ?_
  rotate_left
  ·intro w hSw; go_simp; all_goals with_reducible rfl
  simp only [Act.put, zA, zB, zC]
  refine takeL 7 (v := ?_) ?_ ‹_› ?_
  rotate_left
  ·intro w hSw; go_simp; all_goals with_reducible rfl
  simp only [Act.put, zA, zB, zC]
  refine takeL 8 (v := ?_) ?_ ‹_› ?_
  rotate_left
  ·intro w hSw; go_simp; all_goals with_reducible rfl
  simp only [Act.put, zA, zB, zC]
  refine wpAnyH_ready (rs := [9]) (by kernel_rfl) (by simp) (.cons rfl (fun K hK => ?_) .nil)
  go_simp
  refine (HBa.out _).mono ?_
  rintro e w1 ⟨rfl, hb⟩
  replace F := below_on F hb
  clear hb
  refine hK.out _ _ (HX.out _ F) (fun hHeld => ?_)
  clear hK K
  try simp only [Act.put, zA, zB, zC]
  refine takeL 10 (v := ?_) ?_ ‹_› ?_
  rotate_left
  ·intro w hSw; go_simp; all_goals with_reducible rfl
  simp only [Act.put, zA, zB, zC]
  refine takeL 11 (v := ?_) ?_ ‹_› ?_
  rotate_left
  ·intro w hSw; go_simp; all_goals with_reducible rfl
  simp only [Act.put, zA, zB, zC]
  refine takeL 12 (v := ?_) ?_ ‹_› ?_
  rotate_left
  ·intro w hSw; go_simp; all_goals with_reducible rfl
  simp only [Act.put, zA, zB, zC]
  refine takeL 13 (v := ?_) ?_ ‹_› ?_
  rotate_left
  ·intro w hSw; go_simp; all_goals with_reducible rfl
  simp only [Act.put, zA, zB, zC]
  refine takeL 14 (v := ?_) ?_ ‹_› ?_
  rotate_left
  ·intro w hSw; go_simp; all_goals with_reducible rfl
  simp only [Act.put, zA, zB, zC]
  refine takeL 15 (v := ?_) ?_ ‹_› ?_
  rotate_left
  ·intro w hSw; go_simp; all_goals with_reducible rfl
  simp only [Act.put, zA, zB, zC]
  refine takeL 16 (v := ?_) ?_ ‹_› ?_
  rotate_left
  ·intro w hSw; go_simp; all_goals with_reducible rfl
  simp only [Act.put, zA, zB, zC]
  refine takeL 17 (v := ?_) ?_ ‹_› ?_
  rotate_left
  ·intro w hSw; go_simp; all_goals with_reducible rfl
  simp only [Act.put, zA, zB, zC]
  refine takeL 18 (v := ?_) ?_ ‹_› ?_
  rotate_left
  ·intro w hSw; go_simp; all_goals with_reducible rfl
  simp only [Act.put, zA, zB, zC]
  refine takeL 19 (v := ?_) ?_ ‹_› ?_
  rotate_left
  ·intro w hSw; go_simp; all_goals with_reducible rfl
  simp only [Act.put, zA, zB, zC]
  refine takeL 20 (v := ?_) ?_ ‹_› ?_
  rotate_left
  ·intro w hSw; go_simp; all_goals with_reducible rfl
  simp only [Act.put, zA, zB, zC]
  refine takeL 21 (v := ?_) ?_ ‹_› ?_
  rotate_left
  ·intro w hSw; go_simp; all_goals with_reducible rfl
  simp only [Act.put, zA, zB, zC]
  refine takeL 22 (v := ?_) ?_ ‹_› ?_
  rotate_left
  ·intro w hSw; go_simp; all_goals with_reducible rfl
  simp only [Act.put, zA, zB, zC]
  refine takeL 23 (v := ?_) ?_ ‹_› ?_
  rotate_left
  ·intro w hSw; go_simp; all_goals with_reducible rfl
  simp only [Act.put, zA, zB, zC]
  refine takeL 24 (v := ?_) ?_ ‹_› ?_
  rotate_left
  ·intro w hSw; go_simp; all_goals with_reducible rfl
  simp only [Act.put, zA, zB, zC]
  refine takeL 25 (v := ?_) ?_ ‹_› ?_
  rotate_left
  ·intro w hSw; go_simp; all_goals with_reducible rfl
  simp only [Act.put, zA, zB, zC]
  refine takeL 26 (v := ?_) ?_ ‹_› ?_
  rotate_left
  ·intro w hSw; go_simp; all_goals with_reducible rfl
  simp only [Act.put, zA, zB, zC]
  clear hHeld
  refine wpAnyH_done (by kernel_rfl) ?_ _
  have HF := h_ F
  have HN : Hid (rightRc r = false) := by rw [Hid, HQ.out, show decide (r.un ≤ 4611686018427387903) = false from decide_eq_false hu]; rfl
  clear F hu
  go_wp2_with fail
  go_ret
  exact ⟨by rw [HN.out]; rfl, HB0.out.trans (HF.out.mono HB0.out.size)⟩
 have F : Below W.heap.size W W.drew := bR.drew
 refine wp_region_held_drew (S := (fun w' => w'.cell? ⟨w.heap.size, 0, none⟩ = some (.int .i64 r.k) ∧ w'.cell? ⟨w.heap.size, 1, none⟩ = some (.int .u32 r.n) ∧ w'.cell? ⟨w.heap.size, 2, none⟩ = some (.int .u32 r.m) ∧ w'.cell? ⟨w.heap.size, 3, none⟩ = some (.int .u64 r.t) ∧ w'.cell? ⟨w.heap.size, 4, none⟩ = some (.int .u32 r.q) ∧ w'.cell? ⟨w.heap.size, 5, none⟩ = some (.int .i64 r.wh) ∧ w'.cell? ⟨w.heap.size, 6, none⟩ = some (.int .i64 r.wy) ∧ w'.cell? ⟨w.heap.size, 7, none⟩ = some (.int .u64 r.at0) ∧ w'.cell? ⟨w.heap.size, 8, none⟩ = some (.int .u64 r.no) ∧ w'.cell? ⟨w.heap.size, 9, none⟩ = some (.int .u32 r.nd) ∧ w'.cell? ⟨w.heap.size, 10, none⟩ = some (.int .u32 r.rg) ∧ w'.cell? ⟨w.heap.size, 11, none⟩ = some (.bool r.ys) ∧ w'.cell? ⟨w.heap.size, 12, none⟩ = some (.int .u64 r.fr) ∧ w'.cell? ⟨w.heap.size, 13, none⟩ = some (.int .u64 r.un) ∧ w'.cell? ⟨w.heap.size, 14, none⟩ = some (.int .u8 r.lv))) (by kernel_rfl) (HX.out _ F) (fun hHeld => ?_)
 refine takeL 0 (v := ?_) ?_ ‹_› ?_
 rotate_left
 ·intro w hSw; go_simp; all_goals with_reducible rfl
 simp only [Act.put, zA, zB, zC]
 refine takeL 1 (v := ?_) ?_ ‹_› ?_
 rotate_left
 ·intro w hSw; go_simp; all_goals with_reducible rfl
 simp only [Act.put, zA, zB, zC]
 refine takeL 2 (v := ?_) ?_ ‹_› ?_
 rotate_left
 ·intro w hSw; go_simp; all_goals with_reducible rfl
 simp only [Act.put, zA, zB, zC]
 refine takeL 3 (v := ?_) ?_ ‹_› ?_
 rotate_left
 ·intro w hSw; go_simp; all_goals with_reducible rfl
 simp only [Act.put, zA, zB, zC]
 refine takeL 4 (v := ?_) ?_ ‹_› ?_
 rotate_left
 ·intro w hSw; go_simp; all_goals with_reducible rfl
 simp only [Act.put, zA, zB, zC]
 refine takeL 5 (v := ?_) ?_ ‹_› ?_
 rotate_left
 ·intro w hSw; go_simp; all_goals with_reducible rfl
 simp only [Act.put, zA, zB, zC]
 refine takeL 6 (v := ?_) ?_ ‹_› ?_
 rotate_left
 ·intro w hSw; go_simp; all_goals with_reducible rfl
 simp only [Act.put, zA, zB, zC]
 refine takeL 7 (v := ?_) ?_ ‹_› ?_
 rotate_left
 ·intro w hSw; go_simp; all_goals with_reducible rfl
 simp only [Act.put, zA, zB, zC]
 refine takeL 8 (v := ?_) ?_ ‹_› ?_
 rotate_left
 ·intro w hSw; go_simp; all_goals with_reducible rfl
 simp only [Act.put, zA, zB, zC]
 refine wpAnyH_ready (rs := [9]) (by kernel_rfl) (by simp) (.cons rfl (fun K hK => ?_) .nil)
 go_simp
 refine (HBa.out _).mono ?_
 rintro e w1 ⟨rfl, hb⟩
 replace F := below_on F hb
 clear hb
 refine hK.out _ _ (HX.out _ F) (fun hHeld => ?_)
 clear hK K
 try simp only [Act.put, zA, zB, zC]
 refine takeL 10 (v := ?_) ?_ ‹_› ?_
 rotate_left
 ·intro w hSw; go_simp; all_goals with_reducible rfl
 simp only [Act.put, zA, zB, zC]
 refine takeL 11 (v := ?_) ?_ ‹_› ?_
 rotate_left
 ·intro w hSw; go_simp; all_goals with_reducible rfl
 simp only [Act.put, zA, zB, zC]
 refine takeL 12 (v := ?_) ?_ ‹_› ?_
 rotate_left
 ·intro w hSw; go_simp; all_goals with_reducible rfl
 simp only [Act.put, zA, zB, zC]
 refine takeL 13 (v := ?_) ?_ ‹_› ?_
 rotate_left
 ·intro w hSw; go_simp; all_goals with_reducible rfl
 simp only [Act.put, zA, zB, zC]
 refine takeL 14 (v := ?_) ?_ ‹_› ?_
 rotate_left
 ·intro w hSw; go_simp; all_goals with_reducible rfl
 simp only [Act.put, zA, zB, zC]
 refine takeL 15 (v := ?_) ?_ ‹_› ?_
 rotate_left
 ·intro w hSw; go_simp; all_goals with_reducible rfl
 simp only [Act.put, zA, zB, zC]
 refine takeL 16 (v := ?_) ?_ ‹_› ?_
 rotate_left
 ·intro w hSw; go_simp; all_goals with_reducible rfl
 simp only [Act.put, zA, zB, zC]
 refine takeL 17 (v := ?_) ?_ ‹_› ?_
 rotate_left
 ·intro w hSw; go_simp; all_goals with_reducible rfl
 simp only [Act.put, zA, zB, zC]
 refine takeL 18 (v := ?_) ?_ ‹_› ?_
 rotate_left
 ·intro w hSw; go_simp; all_goals with_reducible rfl
 simp only [Act.put, zA, zB, zC]
 refine takeL 19 (v := ?_) ?_ ‹_› ?_
 rotate_left
 ·intro w hSw; go_simp; all_goals with_reducible rfl
 simp only [Act.put, zA, zB, zC]
 refine takeL 20 (v := ?_) ?_ ‹_› ?_
 rotate_left
 ·intro w hSw; go_simp; all_goals with_reducible rfl
 simp only [Act.put, zA, zB, zC]
 refine takeL 21 (v := ?_) ?_ ‹_› ?_
 rotate_left
 ·intro w hSw; go_simp; all_goals with_reducible rfl
 simp only [Act.put, zA, zB, zC]
 refine takeL 22 (v := ?_) ?_ ‹_› ?_
 rotate_left
 ·intro w hSw; go_simp; all_goals with_reducible rfl
 simp only [Act.put, zA, zB, zC]
 refine takeL 23 (v := ?_) ?_ ‹_› ?_
 rotate_left
 ·intro w hSw; go_simp; all_goals with_reducible rfl
 simp only [Act.put, zA, zB, zC]
 refine takeL 24 (v := ?_) ?_ ‹_› ?_
 rotate_left
 ·intro w hSw; go_simp; all_goals with_reducible rfl
 simp only [Act.put, zA, zB, zC]
 refine takeL 25 (v := ?_) ?_ ‹_› ?_
 rotate_left
 ·intro w hSw; go_simp; all_goals with_reducible rfl
 simp only [Act.put, zA, zB, zC]
 refine takeL 26 (v := ?_) ?_ ‹_› ?_
 rotate_left
 ·intro w hSw; go_simp; all_goals with_reducible rfl
 simp only [Act.put, zA, zB, zC]
 clear hHeld
 refine wpAnyH_done (by kernel_rfl) ?_ _
 have HF := h_ F
 have HT : Hid (rightRc r = tailR r.k r) := by rw [Hid, HQ.out, show decide (r.un ≤ 4611686018427387903) = true from decide_eq_true hu]; rfl
 have HNm := h_ (refRightName_any r.name w1)
 have HX1 := h_ (fun w' h => HX.out w' (below_on HF.out h))
 obtain ⟨x0, x1, x2, x3, x4, x5, x6, x7, x8, x9, x10, x11, x12, x13, x14⟩ := HX.out w1 HF.out
 clear F hu e1 e2 e3 heq g1 g2
 rcases HK.out with ⟨hk, kt⟩ | ⟨hk, kt, kt4⟩ | ⟨hk, kt, kt4⟩
 ·have HTl : Hid (tailR r.k r = (r.name.may && (decide (1 ≤ r.wh) && (decide (r.wh ≤ 4) && (decide (0 ≤ r.wy) && (decide (r.wy ≤ 5) && ((r.wh == 4) == decide (0 < r.wy)))))))) := by rw [Hid, tailR, if_pos hk]
  clear hk
  generalize hq : r.name.may = qm at *
  have HQm := h_ hq
  clear hq
  go_wp2_with fail
  refine HNm.out.mono ?_
  rintro e w2 ⟨rfl, hb2⟩
  have HB2 := h_ (below_on HF.out hb2)
  clear x0 x1 x2 x3 x4 x5 x6 x7 x8 x9 x10 x11 x12 x13 x14
  obtain ⟨x0, x1, x2, x3, x4, x5, x6, x7, x8, x9, x10, x11, x12, x13, x14⟩ := HX1.out w2 hb2
  clear hb2 kt
  cases qm
  ·go_wp2_with fail
   go_ret
   exact ⟨by rw [HT.out, HTl.out]; rfl, HB0.out.trans (HB2.out.mono HB0.out.size)⟩
  rcases dec_int (1) (r.wh) with ⟨h0, d0⟩ | ⟨h0, d0⟩
  rotate_left
  ·have HN : Hid (tailR r.k r = false) := by rw [Hid, HTl.out]; simp [d0]
   clear h0
   go_wp2_with fail
   go_ret
   exact ⟨by rw [HT.out, HN.out]; rfl, HB0.out.trans (HB2.out.mono HB0.out.size)⟩
  clear h0
  rcases dec_int (r.wh) (4) with ⟨h1, d1⟩ | ⟨h1, d1⟩
  rotate_left
  ·have HN : Hid (tailR r.k r = false) := by rw [Hid, HTl.out]; simp [d1]
   clear h1
   go_wp2_with fail
   go_ret
   exact ⟨by rw [HT.out, HN.out]; rfl, HB0.out.trans (HB2.out.mono HB0.out.size)⟩
  clear h1
  rcases dec_int (0) (r.wy) with ⟨h2, d2⟩ | ⟨h2, d2⟩
  rotate_left
  ·have HN : Hid (tailR r.k r = false) := by rw [Hid, HTl.out]; simp [d2]
   clear h2
   go_wp2_with fail
   go_ret
   exact ⟨by rw [HT.out, HN.out]; rfl, HB0.out.trans (HB2.out.mono HB0.out.size)⟩
  clear h2
  rcases dec_int (r.wy) (5) with ⟨h3, d3⟩ | ⟨h3, d3⟩
  rotate_left
  ·have HN : Hid (tailR r.k r = false) := by rw [Hid, HTl.out]; simp [d3]
   clear h3
   go_wp2_with fail
   go_ret
   exact ⟨by rw [HT.out, HN.out]; rfl, HB0.out.trans (HB2.out.mono HB0.out.size)⟩
  clear h3
  have HN : Hid (tailR r.k r = ((r.wh == 4) == decide (0 < r.wy))) := by rw [Hid, HTl.out, d0, d1, d2, d3]; simp
  go_wp2_with fail
  go_ret
  exact ⟨by rw [HT.out, HN.out]; rfl, HB0.out.trans (HB2.out.mono HB0.out.size)⟩
 ·have HTl : Hid (tailR r.k r = (decide (0 < r.nd) && (decide (r.fr ≤ r.un) && decide (r.lv ≤ 3)))) := by rw [Hid, tailR, if_neg (by omega), if_pos hk]
  clear hk
  rcases dec_pos r.nd with ⟨h0, d0⟩ | ⟨h0, d0⟩
  rotate_left
  ·have HN : Hid (tailR r.k r = false) := by rw [Hid, HTl.out]; simp [h0]
   skip
   go_wp2_with fail
   go_ret
   exact ⟨by rw [HT.out, HN.out]; rfl, HB0.out.trans (HF.out.mono HB0.out.size)⟩
  rcases dec_le r.fr r.un with ⟨h1, _, d1⟩ | ⟨h1, _, d1⟩
  rotate_left
  ·have HN : Hid (tailR r.k r = false) := by rw [Hid, HTl.out]; simp [h1]
   have d1' : decide (r.fr ≤ r.un) = false := decide_eq_false h1
   skip
   go_wp2_with fail
   go_ret
   exact ⟨by rw [HT.out, HN.out]; rfl, HB0.out.trans (HF.out.mono HB0.out.size)⟩
  have d1' : decide (r.fr ≤ r.un) = true := decide_eq_true h1
  have HL := h_ (dec_lei r.lv 3 3 rfl)
  have HN : Hid (tailR r.k r = decide (r.lv ≤ 3)) := by rw [Hid, HTl.out]; simp [h0, h1]
  skip
  rcases HL.out with ⟨h2, _, d2⟩ | ⟨h2, _, d2⟩
  ·have HM : Hid (tailR r.k r = true) := by rw [Hid, HN.out]; simp [h2]
   skip
   go_wp2_with fail
   go_ret
   exact ⟨by rw [HT.out, HM.out]; first | rfl | exact congrArg (fun b => Ending.returned (.bool b)) d2, HB0.out.trans (HF.out.mono HB0.out.size)⟩
  ·have HM : Hid (tailR r.k r = false) := by rw [Hid, HN.out]; simp [h2]
   skip
   go_wp2_with fail
   go_ret
   exact ⟨by rw [HT.out, HM.out]; first | rfl | exact congrArg (fun b => Ending.returned (.bool b)) d2, HB0.out.trans (HF.out.mono HB0.out.size)⟩
 ·have HTl : Hid (tailR r.k r = (decide (0 < r.nd) && decide (0 < r.rg))) := by rw [Hid, tailR, if_neg hk.1, if_neg hk.2]
  clear hk
  rcases dec_pos r.nd with ⟨h0, d0⟩ | ⟨h0, d0⟩
  rotate_left
  ·have HN : Hid (tailR r.k r = false) := by rw [Hid, HTl.out]; simp [h0]
   skip
   go_wp2_with fail
   go_ret
   exact ⟨by rw [HT.out, HN.out]; rfl, HB0.out.trans (HF.out.mono HB0.out.size)⟩
  rcases dec_pos r.rg with ⟨h1, d1⟩ | ⟨h1, d1⟩
  ·have HN : Hid (tailR r.k r = true) := by rw [Hid, HTl.out]; simp [h0, h1]
   skip
   go_wp2_with fail
   go_ret
   exact ⟨by rw [HT.out, HN.out]; first | rfl | exact congrArg (fun b => Ending.returned (.bool b)) d1, HB0.out.trans (HF.out.mono HB0.out.size)⟩
  ·have HN : Hid (tailR r.k r = false) := by rw [Hid, HTl.out]; simp [h0, h1]
   skip
   go_wp2_with fail
   go_ret
   exact ⟨by rw [HT.out, HN.out]; first | rfl | exact congrArg (fun b => Ending.returned (.bool b)) d1, HB0.out.trans (HF.out.mono HB0.out.size)⟩

theorem rRight10_any (r : Rc) (w : World) : Calls Tryz.prog 30 #[.agg #[.int .i64 r.k, .int .u32 r.n, .int .u32 r.m, .int .u64 r.t, .int .u32 r.q, .int .i64 r.wh, .int .i64 r.wy, .int .u64 r.at0, .int .u64 r.no, .int .u32 r.nd, .int .u32 r.rg, .bool r.ys, .int .u64 r.fr, .int .u64 r.un, .int .u8 r.lv]] w fun e w' => e = .returned (.bool (rightR r)) ∧ Below w.heap.size w w' := by
 rcases (show r.k < 1 ∨ 1 ≤ r.k by omega) with h | h1
 ·rw [show rightR r = false by rw [rightR, decide_eq_false (by omega : ¬ 1 ≤ r.k)]; rfl]
  exact rrA r w h
 rcases (show 5 < r.k ∨ r.k ≤ 5 by omega) with h | h5
 ·rw [show rightR r = false by rw [rightR, decide_eq_false (by omega : ¬ r.k ≤ 5)]; simp]
  exact rrB r w h
 rw [show rightR r = rightRc r by rw [rightR, decide_eq_true h1, decide_eq_true h5]; rfl]
 cases hs : sameRc r (bareR r.k.toNat r) with
 | false => exact rrC r h1 h5 hs w
 | true =>
  by_cases h2 : r.no ≤ 4294967295
  ·by_cases h3 : r.at0 ≤ 4611686018427387903
   ·exact rrG r h1 h5 hs h2 h3 w
   ·exact rrE r h1 h5 hs h2 h3 w
  ·exact rrD r h1 h5 hs h2 w

end Go.Proofs.YteldifnkeekafaaGreatDoor
