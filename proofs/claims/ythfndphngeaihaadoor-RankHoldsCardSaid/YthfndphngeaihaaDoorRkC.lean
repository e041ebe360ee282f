/- Package rank: has, roomy, queueOf; what asks. -/
import Derived.Test.YthfndphngeaihaaDoorRkB
import Derived.RegionTactic
import Derived.BigRegion
namespace Go.Proofs.YthfndphngeaihaaDoor
open Go Go.RowKit Go.Shelf
open Go.ChangeMaps (setBlock)
set_option linter.unusedSimpArgs false
set_option linter.unusedVariables false
set_option linter.unusedSectionVars false
set_option maxRecDepth 100000

attribute [local go_sem] Oper.semAt_some

theorem mkF (fn : Fn) (first cap : Array Value) (w : World) : (Instr.makeFunc fn first cap).run Tryd.prog w = .ok (.func fn first cap) w := rfl

theorem rnamed_any (x : Nm) (w : World) : Calls Tryd.prog 20 #[.agg #[.int .u32 x.n, .int .u32 x.m, .int .u64 x.t, .int .u32 x.q]] w fun e w' => e = .returned (.func (.func 46) #[] #[.pointer (some ⟨w.heap.size, 0, none⟩)]) ∧ w' = w.alloc (.cells #[.int .u32 x.n, .int .u32 x.m, .int .u64 x.t, .int .u32 x.q] 28) := by
  have hmf := mkF
  go_enter Tryd.func20, Tryd.ntmps20
  go_wp2_with fail
  go_ret
  exact ⟨rfl, rfl⟩
theorem near_any (n : Int) (w : World) : Calls Tryd.prog 21 #[.int .u32 n] w fun e w' => e = .returned (.func (.func 48) #[] #[.pointer (some ⟨w.heap.size, 0, none⟩)]) ∧ w' = w.alloc (.cells #[.int .u32 n] 23) := by
  have hmf := mkF
  go_enter Tryd.func21, Tryd.ntmps21
  go_wp2_with fail
  go_ret
  exact ⟨rfl, rfl⟩
theorem ranked_any (n : Int) (w : World) : Calls Tryd.prog 22 #[.int .i64 n] w fun e w' => e = .returned (.func (.func 49) #[] #[.pointer (some ⟨w.heap.size, 0, none⟩)]) ∧ w' = w.alloc (.cells #[.int .i64 n] 3) := by
  have hmf := mkF
  go_enter Tryd.func22, Tryd.ntmps22
  go_wp2_with fail
  go_ret
  exact ⟨rfl, rfl⟩
theorem sized_any (n : Int) (w : World) : Calls Tryd.prog 23 #[.int .i64 n] w fun e w' => e = .returned (.func (.func 50) #[] #[.pointer (some ⟨w.heap.size, 0, none⟩)]) ∧ w' = w.alloc (.cells #[.int .i64 n] 3) := by
  have hmf := mkF
  go_enter Tryd.func23, Tryd.ntmps23
  go_wp2_with fail
  go_ret
  exact ⟨rfl, rfl⟩
theorem bounded_any (n : Int) (w : World) : Calls Tryd.prog 18 #[.int .i64 n] w fun e w' => e = .returned (.func (.func 44) #[] #[.pointer (some ⟨w.heap.size, 0, none⟩)]) ∧ w' = w.alloc (.cells #[.int .i64 n] 3) := by
  have hmf := mkF
  go_enter Tryd.func18, Tryd.ntmps18
  go_wp2_with fail
  go_ret
  exact ⟨rfl, rfl⟩
theorem absent_any (v : Option Addr) (x : Nm) (w : World) : Calls Tryd.prog 24 #[.pointer v, .agg #[.int .u32 x.n, .int .u32 x.m, .int .u64 x.t, .int .u32 x.q]] w fun e w' => e = .returned (.func (.func 51) #[] #[.pointer (some ⟨w.heap.size, 0, none⟩), .pointer (some ⟨w.heap.size + 1, 0, none⟩)]) ∧ w' = (w.alloc (.cells #[.pointer v] 32)).alloc (.cells #[.int .u32 x.n, .int .u32 x.m, .int .u64 x.t, .int .u32 x.q] 28) := by
  have hmf := mkF
  go_enter Tryd.func24, Tryd.ntmps24
  go_wp2_with fail
  go_ret
  exact ⟨by simp, rfl⟩
theorem waiting_any (v : Option Addr) (x : Nm) (w : World) : Calls Tryd.prog 30 #[.pointer v, .agg #[.int .u32 x.n, .int .u32 x.m, .int .u64 x.t, .int .u32 x.q]] w fun e w' => e = .returned (.func (.func 56) #[] #[.pointer (some ⟨w.heap.size, 0, none⟩), .pointer (some ⟨w.heap.size + 1, 0, none⟩)]) ∧ w' = (w.alloc (.cells #[.pointer v] 32)).alloc (.cells #[.int .u32 x.n, .int .u32 x.m, .int .u64 x.t, .int .u32 x.q] 28) := by
  have hmf := mkF
  go_enter Tryd.func30, Tryd.ntmps30
  go_wp2_with fail
  go_ret
  exact ⟨by simp, rfl⟩

theorem load_qk {w : World} {g : Nat} {x : Qk} (h0 : w.cell? ⟨g, 0, none⟩ = some (.int .u32 x.node)) (h1 : w.cell? ⟨g, 1, none⟩ = some (.int .i64 x.rank)) : (loadVar 68 ⟨g, 0, none⟩).run Tryd.prog w = .ok (encQk x) w := by
  unfold encQk
  go_simp
theorem load_nm {w : World} {g : Nat} {x : Nm} (h0 : w.cell? ⟨g, 0, none⟩ = some (.int .u32 x.n)) (h1 : w.cell? ⟨g, 1, none⟩ = some (.int .u32 x.m)) (h2 : w.cell? ⟨g, 2, none⟩ = some (.int .u64 x.t)) (h3 : w.cell? ⟨g, 3, none⟩ = some (.int .u32 x.q)) : (loadVar 28 ⟨g, 0, none⟩).run Tryd.prog w = .ok (encNm x) w := by
  unfold encNm
  go_simp
theorem load_wt {w : World} {g : Nat} {x : Wt} (h : RowB w g x.cells) : (loadVar 30 ⟨g, 0, none⟩).run Tryd.prog w = .ok (encWt x) w := by
  have h0 := h.1 0 _ rfl
  have h1 := h.1 1 _ rfl
  have h2 := h.1 2 _ rfl
  have h3 := h.1 3 _ rfl
  have h4 := h.1 4 _ rfl
  have h5 := h.1 5 _ rfl
  have h6 := h.1 6 _ rfl
  clear h
  unfold encWt
  go_simp

theorem queueOf_any (x : Wt) (w : World) : Calls Tryd.prog 54 #[.agg #[.int .u32 x.nm.n, .int .u32 x.nm.m, .int .u64 x.nm.t, .int .u32 x.nm.q, .int .u32 x.node, .int .i64 x.rank, .int .i64 x.size]] w fun e w' => e = .returned (.agg #[.int .u32 x.node, .int .i64 x.rank]) ∧ Below w.heap.size w w' := by
  go_enter Tryd.func54, Tryd.ntmps54
  go_wp2_with fail
  refine bodyPost_ret (results_cell rfl (by rfl) (load_qk (x := x.qk) (by simp [Wt.qk]) (by simp [Wt.qk]))) rfl ⟨rfl, ?_⟩
  exact below_al (below_al (Below.refl _ _) _) _

/-- No wait at all. -/
def wtZ : Wt := ⟨⟨0, 0, 0, 0⟩, 0, 0, 0⟩
theorem WsAt.get {lw : List (Nm × Value)} {D : List Wt} (h : WsAt lw D) (x : Nm) : (lk lw x).getD (encWt wtZ) = encWt ((wt D x).getD wtZ) ∧ (lk lw x).isSome = (wt D x).isSome := by
  rw [h.1 x]
  cases wt D x <;> exact ⟨rfl, rfl⟩

theorem zeroWt (w : World) : (zeroValue 30).run Tryd.prog w = .ok (encWt wtZ) w := by
  unfold encWt wtZ
  kernel_rfl
theorem zeroNs (w : World) : (zeroValue 69).run Tryd.prog w = .ok (.slice none 0 0) w := by
  kernel_rfl

set_option maxHeartbeats 4000000 in
theorem has_any (S : Nat → Prop) (p : Nat) (most : Int) (D : List Wt) (x : Nm) (w : World) (h : LineAt w S p most D) :
    Calls Tryd.prog 52 #[.pointer (some ⟨p, 0, none⟩), .agg #[.int .u32 x.n, .int .u32 x.m, .int .u64 x.t, .int .u32 x.q]] w fun e w' => e = .returned (.bool (wt D x).isSome) ∧ Below w.heap.size w w' := by
  obtain ⟨bq, bw, lq, lw, h1, h2, h3, h4, h5, _⟩ := h
  obtain ⟨W, hW⟩ : ∃ W, W = w.alloc (.cells #[.int .u32 x.n, .int .u32 x.m, .int .u64 x.t, .int .u32 x.q] 28) := ⟨_, rfl⟩
  have HB0 : Hid (Below w.heap.size w W) := by rw [hW]; exact below_al (Below.refl _ _) _
  have hmw : ∀ X, Below W.heap.size W X → KMap encNm X bw lw := fun X hb => h3.kept ((hb.block _ (Nat.lt_of_lt_of_le h3.lt HB0.out.size)).trans (HB0.out.block _ h3.lt))
  obtain ⟨e1, e2⟩ := h5.get x
  obtain ⟨y, hy⟩ : ∃ y, y = (wt D x).getD wtZ := ⟨_, rfl⟩
  obtain ⟨q, hq⟩ : ∃ q, q = (wt D x).isSome := ⟨_, rfl⟩
  rw [← hy] at e1
  rw [← hq] at e2 ⊢
  have HX : Hid (∀ X, Below W.heap.size W X → X.cell? ⟨p, 2, none⟩ = some (.map (some bw)) ∧ (X.cell? ⟨w.heap.size, 0, none⟩ = some (.int .u32 x.n) ∧ X.cell? ⟨w.heap.size, 1, none⟩ = some (.int .u32 x.m) ∧ X.cell? ⟨w.heap.size, 2, none⟩ = some (.int .u64 x.t) ∧ X.cell? ⟨w.heap.size, 3, none⟩ = some (.int .u32 x.q)) ∧ (Instr.lookup 60 (.map (some bw)) (.agg #[.int .u32 x.n, .int .u32 x.m, .int .u64 x.t, .int .u32 x.q]) true).run Tryd.prog X = .ok (.tuple #[.agg #[.int .u32 y.nm.n, .int .u32 y.nm.m, .int .u64 y.nm.t, .int .u32 y.nm.q, .int .u32 y.node, .int .i64 y.rank, .int .i64 y.size], .bool q]) X) := fun X hb => by
    refine ⟨?_, ?_, ?_⟩
    · exact ((hb.cell (p := ⟨p, 2, none⟩) (Nat.lt_of_lt_of_le h1.lt HB0.out.size)).trans (HB0.out.cell (p := ⟨p, 2, none⟩) h1.lt)).trans (h1.1 2 _ rfl)
    · rw [hW] at hb
      exact ⟨box_at hb 0, box_at hb 1, box_at hb 2, box_at hb 3⟩
    · have := (hmw X hb).look keyNm Tryd.underlying60 zeroWt x true
      rw [if_pos rfl, e1, e2] at this
      exact this
  have HW := Lib.hid hW
  clear h1 h2 h3 h4 h5 hmw e1 e2 hy hq hW
  go_enter Tryd.func52, Tryd.ntmps52
  go_upto_region 1 with fail
  rw [← HW.out]
  have F : Below W.heap.size W W.drew := (Below.refl _ _).drew
  refine wp_region_held_drew (S := (fun X => X.cell? ⟨p, 2, none⟩ = some (.map (some bw)) ∧ (X.cell? ⟨w.heap.size, 0, none⟩ = some (.int .u32 x.n) ∧ X.cell? ⟨w.heap.size, 1, none⟩ = some (.int .u32 x.m) ∧ X.cell? ⟨w.heap.size, 2, none⟩ = some (.int .u64 x.t) ∧ X.cell? ⟨w.heap.size, 3, none⟩ = some (.int .u32 x.q)) ∧ (Instr.lookup 60 (.map (some bw)) (.agg #[.int .u32 x.n, .int .u32 x.m, .int .u64 x.t, .int .u32 x.q]) true).run Tryd.prog X = .ok (.tuple #[.agg #[.int .u32 y.nm.n, .int .u32 y.nm.m, .int .u64 y.nm.t, .int .u32 y.nm.q, .int .u32 y.node, .int .i64 y.rank, .int .i64 y.size], .bool q]) X)) (by kernel_rfl) (HX.out _ F) (fun hHeld => ?_)
  refine take_listed (i := 0) (v := ?_) rfl (by kernel_rfl) (by kernel_rfl) (by kernel_rfl) (fun _ _ _ h => h) (Or.inl ⟨by rfl, ?_⟩) (by assumption) ?_
  rotate_left
  · intro w hSw
    (try dsimp only at hSw)
    go_simp
    all_goals with_reducible rfl
  simp only [Act.put, List.setIfInBounds_toArray, List.set_cons_zero, List.set_cons_succ]
  refine take_listed (i := 1) (v := ?_) rfl (by kernel_rfl) (by kernel_rfl) (by kernel_rfl) (fun _ _ _ h => h) (Or.inl ⟨by rfl, ?_⟩) (by assumption) ?_
  rotate_left
  · intro w hSw
    (try dsimp only at hSw)
    go_simp
    all_goals with_reducible rfl
  simp only [Act.put, List.setIfInBounds_toArray, List.set_cons_zero, List.set_cons_succ]
  refine take_listed (i := 2) (v := ?_) rfl (by kernel_rfl) (by kernel_rfl) (by kernel_rfl) (fun _ _ _ h => h) (Or.inl ⟨by rfl, ?_⟩) (by assumption) ?_
  rotate_left
  · intro w hSw
    (try dsimp only at hSw)
    go_simp
    all_goals with_reducible rfl
  simp only [Act.put, List.setIfInBounds_toArray, List.set_cons_zero, List.set_cons_succ]
  refine take_listed (i := 3) (v := ?_) rfl (by kernel_rfl) (by kernel_rfl) (by kernel_rfl) (fun _ _ _ h => h) (Or.inl ⟨by rfl, ?_⟩) (by assumption) ?_
  rotate_left
  · intro w hSw
    (try dsimp only at hSw)
    go_simp
    all_goals with_reducible rfl
  simp only [Act.put, List.setIfInBounds_toArray, List.set_cons_zero, List.set_cons_succ]
  refine take_listed (i := 4) (v := ?_) rfl (by kernel_rfl) (by kernel_rfl) (by kernel_rfl) (fun _ _ _ h => h) (Or.inl ⟨by rfl, ?_⟩) (by assumption) ?_
  rotate_left
  · intro w hSw
    (try dsimp only at hSw)
    go_simp
    all_goals with_reducible rfl
  simp only [Act.put, List.setIfInBounds_toArray, List.set_cons_zero, List.set_cons_succ]
  refine take_listed (i := 5) (v := ?_) rfl (by kernel_rfl) (by kernel_rfl) (by kernel_rfl) (fun _ _ _ h => h) (Or.inl ⟨by rfl, ?_⟩) (by assumption) ?_
  rotate_left
  · intro w hSw
    (try dsimp only at hSw)
    go_simp
    all_goals with_reducible rfl
  simp only [Act.put, List.setIfInBounds_toArray, List.set_cons_zero, List.set_cons_succ]
  refine take_listed (i := 6) (v := ?_) rfl (by kernel_rfl) (by kernel_rfl) (by kernel_rfl) (fun _ _ _ h => h) (Or.inl ⟨by rfl, ?_⟩) (by assumption) ?_
  rotate_left
  · intro w hSw
    (try dsimp only at hSw)
    go_simp
    all_goals with_reducible rfl
  simp only [Act.put, List.setIfInBounds_toArray, List.set_cons_zero, List.set_cons_succ]
  refine take_listed (i := 7) (v := ?_) rfl (by kernel_rfl) (by kernel_rfl) (by kernel_rfl) (fun _ _ _ h => h) (Or.inl ⟨by rfl, ?_⟩) (by assumption) ?_
  rotate_left
  · intro w hSw
    (try dsimp only at hSw)
    go_simp
    all_goals with_reducible rfl
  simp only [Act.put, List.setIfInBounds_toArray, List.set_cons_zero, List.set_cons_succ]
  refine take_listed (i := 8) (v := ?_) rfl (by kernel_rfl) (by kernel_rfl) (by kernel_rfl) (fun _ _ _ h => h) (Or.inl ⟨by rfl, ?_⟩) (by assumption) ?_
  rotate_left
  · intro w hSw
    (try dsimp only at hSw)
    go_simp
    all_goals with_reducible rfl
  simp only [Act.put, List.setIfInBounds_toArray, List.set_cons_zero, List.set_cons_succ]
  refine wpAnyH_ready (rs := [9]) (by kernel_rfl) (by simp) ?_
  refine AllReadyH.cons rfl (fun K hK => ?_) AllReadyH.nil
  go_simp
  refine hK.out _ _ (HX.out _ (((Below.refl _ _).alloc (Nat.le_refl _) _).drew)) (fun hHeld => ?_)
  clear hK K
  try simp only [Act.put, List.setIfInBounds_toArray, List.set_cons_zero, List.set_cons_succ]
  refine wpAnyH_ready (rs := [10]) (by kernel_rfl) (by simp) ?_
  refine AllReadyH.cons rfl (fun K hK => ?_) AllReadyH.nil
  go_simp
  refine hK.out _ _ (HX.out _ (((Below.refl _ _).alloc (Nat.le_refl _) _).drew)) (fun hHeld => ?_)
  clear hK K
  try simp only [Act.put, List.setIfInBounds_toArray, List.set_cons_zero, List.set_cons_succ]
  refine wpAnyH_ready (rs := [11]) (by kernel_rfl) (by simp) ?_
  refine AllReadyH.cons rfl (fun K hK => ?_) AllReadyH.nil
  go_simp
  refine hK.out _ _ (HX.out _ (((Below.refl _ _).alloc (Nat.le_refl _) _).drew)) (fun hHeld => ?_)
  clear hK K
  try simp only [Act.put, List.setIfInBounds_toArray, List.set_cons_zero, List.set_cons_succ]
  clear hHeld
  refine wpAnyH_done (by kernel_rfl) ?_ _
  go_wp2_with fail
  go_ret
  exact ⟨rfl, HB0.out.trans (((Below.refl _ _).alloc (Nat.le_refl _) _).drew.mono HB0.out.size)⟩

end Go.Proofs.YthfndphngeaihaaDoor
