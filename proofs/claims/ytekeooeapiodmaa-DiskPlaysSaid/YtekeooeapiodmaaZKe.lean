/- Joined texts. -/
import Derived.Test.YtekeooeapiodmaaZDkM
import Derived.Test.YtekeooeapiodmaaZDkVl
import Derived.Test.YtekeooeapiodmaaZDkK
import Derived.Test.YtekeooeapiodmaaZDkE
import Derived.Test.YtekeooeapiodmaaZDkVs
import Derived.Test.YtekeooeapiodmaaZKf
namespace Go.Proofs.Ytekeooeapiodmaa
open Go Go.RowKit Go.Shelf
set_option linter.unusedSimpArgs false
set_option linter.unusedVariables false
set_option maxRecDepth 100000

attribute [local go_sem] Oper.semAt_some

/-- Where there is no disk, the first question answers. -/
theorem gone_at (v : Value) (rest : List Ask) (w : World) (hlen : rest.length ≤ 90) (h : DkN w v 0) :
    Calls Try.prog 26 #[.slice (some ⟨w.heap.size, 0, none⟩) (askThere v 0 :: rest).length (askThere v 0 :: rest).length] (w.alloc (.cells ((askThere v 0 :: rest).map fun q => Value.func (.func q.g) q.fs q.lb).toArray 59)) fun e w' => e = .returned (.int .i64 1) ∧ Below w.heap.size w w' := by
  have hf : firstE (askThere v 0 :: rest) = 1 := by
    unfold firstE
    have hn : ¬ (askThere v 0).e = 0 := fun h => absurd (show (1 : Int) = 0 from h) (by decide)
    rw [if_neg hn]
    rfl
  have hR := refusal_at (askThere v 0 :: rest) w (by simp; omega) (by simp) fun j q hq hb => by
    cases j with
    | zero =>
      injection hq with hq
      subst hq
      exact ⟨ent_there, fun w' hb => (dthere_any v 0 w' (h.on ((below_al (Below.refl _ _) _).trans (hb.mono (by simp))))).mono fun e w'' h => ⟨h.1, by rw [← h.2]; exact Below.refl _ _⟩⟩
    | succ j =>
      have h0 := hb 0 _ (Nat.succ_pos _) rfl
      exact absurd (show (1 : Int) = 0 from h0) (by decide)
  rw [hf] at hR
  exact hR

theorem arm_gone (a : Option Addr) (n : Int) (w : World) (h : DkN w (.pointer a) 0) : Calls Try.prog 22 #[.pointer a, .int .i64 n] w fun e w' => e = .returned (.int .i64 1) ∧ Below w.heap.size w w' := by
  have hmf : ∀ (fn : Fn) (first cap : Array Value) (w : World), (Instr.makeFunc fn first cap).run Try.prog w = .ok (.func fn first cap) w := fun _ _ _ _ => rfl
  have HH := Lib.hid h
  clear h
  go_enter Try.func22, Try.ntmps22
  go_wp2_with fail
  refine (gone_at (.pointer a) [] w (by simp) HH.out).mono ?_
  rintro e w1 ⟨rfl, hb1⟩
  have HB1 := Lib.hid hb1
  clear hb1
  go_wp2_with fail
  go_ret
  exact ⟨rfl, HB1.out⟩
theorem sync_gone (a : Option Addr) (w : World) (h : DkN w (.pointer a) 0) : Calls Try.prog 21 #[.pointer a] w fun e w' => e = .returned (.int .i64 1) ∧ Below w.heap.size w w' := by
  have hmf : ∀ (fn : Fn) (first cap : Array Value) (w : World), (Instr.makeFunc fn first cap).run Try.prog w = .ok (.func fn first cap) w := fun _ _ _ _ => rfl
  have HH := Lib.hid h
  clear h
  go_enter Try.func21, Try.ntmps21
  go_wp2_with fail
  refine (gone_at (.pointer a) [⟨50, #[.pointer a], #[], 0⟩] w (by simp) HH.out).mono ?_
  rintro e w1 ⟨rfl, hb1⟩
  have HB1 := Lib.hid hb1
  clear hb1
  go_wp2_with fail
  go_ret
  exact ⟨rfl, HB1.out⟩
theorem crash_gone (a A : Option Addr) (n C : Nat) (w : World) (h : DkN w (.pointer a) 0) : Calls Try.prog 23 #[.pointer a, .slice A n C] w fun e w' => e = .returned (.int .i64 1) ∧ Below w.heap.size w w' := by
  have hmf : ∀ (fn : Fn) (first cap : Array Value) (w : World), (Instr.makeFunc fn first cap).run Try.prog w = .ok (.func fn first cap) w := fun _ _ _ _ => rfl
  obtain ⟨W, hW⟩ : ∃ W, W = w.alloc (.cells #[.slice A n C] 38) := ⟨_, rfl⟩
  have HB0 : Hid (Below w.heap.size w W) := by rw [hW]; exact below_al (Below.refl _ _) _
  have HZ : Hid (w.heap.size + 1 = W.heap.size) := by rw [Hid, hW]; simp
  have HH : Hid (DkN W (.pointer a) 0) := h.on HB0.out
  have HW := Lib.hid hW
  clear h hW
  go_enter Try.func23, Try.ntmps23
  go_wp2_with fail
  rw [← HW.out, HZ.out]
  refine (gone_at (.pointer a) [] W (by simp) HH.out).mono ?_
  rintro e w1 ⟨rfl, hb1⟩
  have HB1 : Hid (Below w.heap.size w w1) := below_on HB0.out hb1
  clear hb1
  go_wp2_with fail
  go_ret
  exact ⟨rfl, HB1.out⟩
theorem len_gone (a : Option Addr) (w : World) (h : DkN w (.pointer a) 0) : Calls Try.prog 11 #[.pointer a] w fun e w' => e = .returned (.int .i64 0) ∧ Below w.heap.size w w' := by
  have hmf : ∀ (fn : Fn) (first cap : Array Value) (w : World), (Instr.makeFunc fn first cap).run Try.prog w = .ok (.func fn first cap) w := fun _ _ _ _ => rfl
  obtain ⟨W, hW⟩ : ∃ W, W = w.alloc (.cells #[.pointer a] 23) := ⟨_, rfl⟩
  have HB0 : Hid (Below w.heap.size w W) := by rw [hW]; exact below_al (Below.refl _ _) _
  have HZ : Hid (w.heap.size + 1 = W.heap.size) := by rw [Hid, hW]; simp
  have HH : Hid (DkN W (.pointer a) 0) := h.on HB0.out
  have x0 : W.cell? ⟨w.heap.size, 0, none⟩ = some (.pointer a) := by rw [hW]; exact box_at (Below.refl _ _) 0
  have HW := Lib.hid hW
  rw [hW] at x0
  clear h hW
  go_enter Try.func11, Try.ntmps11
  go_wp2_with fail
  rw [← HW.out, HZ.out]
  clear x0
  refine (gone_at (.pointer a) [] W (by simp) HH.out).mono ?_
  rintro e w1 ⟨rfl, hb1⟩
  have HB1 : Hid (Below w.heap.size w w1) := below_on HB0.out hb1
  clear hb1
  go_wp2_with fail
  refine (told_no2 1 (by decide) _ _).mono ?_
  rintro e w2 ⟨rfl, rfl⟩
  go_wp2_with fail
  go_ret
  exact ⟨rfl, HB1.out⟩
theorem copy_gone (a : Option Addr) (w : World) (h : DkN w (.pointer a) 0) : Calls Try.prog 16 #[.pointer a] w fun e w' => e = .returned (.pointer none) ∧ Below w.heap.size w w' := by
  have hmf : ∀ (fn : Fn) (first cap : Array Value) (w : World), (Instr.makeFunc fn first cap).run Try.prog w = .ok (.func fn first cap) w := fun _ _ _ _ => rfl
  obtain ⟨W, hW⟩ : ∃ W, W = w.alloc (.cells #[.pointer a] 23) := ⟨_, rfl⟩
  have HB0 : Hid (Below w.heap.size w W) := by rw [hW]; exact below_al (Below.refl _ _) _
  have HZ : Hid (w.heap.size + 1 = W.heap.size) := by rw [Hid, hW]; simp
  have HH : Hid (DkN W (.pointer a) 0) := h.on HB0.out
  have x0 : W.cell? ⟨w.heap.size, 0, none⟩ = some (.pointer a) := by rw [hW]; exact box_at (Below.refl _ _) 0
  have HW := Lib.hid hW
  rw [hW] at x0
  clear h hW
  go_enter Try.func16, Try.ntmps16
  go_wp2_with fail
  rw [← HW.out, HZ.out]
  clear x0
  refine (gone_at (.pointer a) [] W (by simp) HH.out).mono ?_
  rintro e w1 ⟨rfl, hb1⟩
  have HB1 : Hid (Below w.heap.size w w1) := below_on HB0.out hb1
  clear hb1
  go_wp2_with fail
  refine (told_no1 1 (by decide) _ _).mono ?_
  rintro e w2 ⟨rfl, rfl⟩
  go_wp2_with fail
  go_ret
  exact ⟨rfl, HB1.out⟩

end Go.Proofs.Ytekeooeapiodmaa

namespace Go.Proofs.Ytekeooeapiodmaa
open Go Go.RowKit Go.Shelf
set_option linter.unusedSimpArgs false
set_option linter.unusedVariables false
set_option maxRecDepth 100000

attribute [local go_sem] Oper.semAt_some

set_option maxHeartbeats 4000000 in
theorem read_gone (a : Option Addr) (k : Int) (w : World) (h : DkN w (.pointer a) 0) : Calls Try.prog 24 #[.pointer a, .int .i64 k] w fun e w' => e = .returned (.tuple #[.slice none 0 0, .int .i64 1]) ∧ Below w.heap.size w w' := by
  have hmf : ∀ (fn : Fn) (first cap : Array Value) (w : World), (Instr.makeFunc fn first cap).run Try.prog w = .ok (.func fn first cap) w := fun _ _ _ _ => rfl
  obtain ⟨W, hW⟩ : ∃ W, W = (w.alloc (.cells #[.pointer a] 23)).alloc (.cells #[.int .i64 k] 3) := ⟨_, rfl⟩
  have HB0 : Hid (Below w.heap.size w W) := by rw [hW]; exact below_al (below_al (Below.refl _ _) _) _
  have HZ : Hid (W.heap.size = w.heap.size + 2) := by rw [Hid, hW]; simp
  have HX : Hid (∀ w', Below W.heap.size W w' → (w'.cell? ⟨w.heap.size, 0, none⟩ = some (.pointer a) ∧ w'.cell? ⟨w.heap.size + 1, 0, none⟩ = some (.int .i64 k))) := fun w' h => by
    rw [hW] at h
    have h1 := box_at ((below_al (Below.refl _ _) _).trans (h.mono (by simp))) 0
    have h2 := box_at h 0
    rw [World.size_alloc] at h2
    exact ⟨h1, h2⟩
  have HH : Hid (DkN W (.pointer a) 0) := h.on HB0.out
  have HW := Lib.hid hW
  clear h hW
  go_enter Try.func24, Try.ntmps24
  go_upto_region 1 with fail
  rw [← HW.out]
  have F : Below W.heap.size W W.drew := (Below.refl _ _).drew
  refine wp_region_T (fun w' => (w'.cell? ⟨w.heap.size, 0, none⟩ = some (.pointer a) ∧ w'.cell? ⟨w.heap.size + 1, 0, none⟩ = some (.int .i64 k))) 13 (by kernel_rfl) ?_
  refine wpAnyT_take (i := 0) (v := ?_) rfl (by kernel_rfl) (by kernel_rfl) (by kernel_rfl) (by kernel_rfl) (fun _ _ _ h => h) (Or.inl ⟨by rfl, ?_⟩) (HX.out _ F) ?_
  rotate_left
  · intro w hSw
    (try dsimp only at hSw)
    go_simp
    all_goals with_reducible rfl
  simp only [Act.put, List.setIfInBounds_toArray, List.set_cons_zero, List.set_cons_succ]
  refine wpAnyT_take (i := 1) (v := ?_) rfl (by kernel_rfl) (by kernel_rfl) (by kernel_rfl) (by kernel_rfl) (fun _ _ _ h => h) (Or.inl ⟨by rfl, ?_⟩) (HX.out _ F) ?_
  rotate_left
  · intro w hSw
    (try dsimp only at hSw)
    go_simp
    all_goals with_reducible rfl
  simp only [Act.put, List.setIfInBounds_toArray, List.set_cons_zero, List.set_cons_succ]
  refine wpAnyT_take (i := 2) (v := ?_) rfl (by kernel_rfl) (by kernel_rfl) (by kernel_rfl) (by kernel_rfl) (fun _ _ _ h => h) (Or.inl ⟨by rfl, ?_⟩) (HX.out _ F) ?_
  rotate_left
  · intro w hSw
    (try dsimp only at hSw)
    go_simp
    all_goals with_reducible rfl
  simp only [Act.put, List.setIfInBounds_toArray, List.set_cons_zero, List.set_cons_succ]
  refine wpAnyT_take (i := 3) (v := ?_) rfl (by kernel_rfl) (by kernel_rfl) (by kernel_rfl) (by kernel_rfl) (fun _ _ _ h => h) (Or.inl ⟨by rfl, ?_⟩) (HX.out _ F) ?_
  rotate_left
  · intro w hSw
    (try dsimp only at hSw)
    go_simp
    all_goals with_reducible rfl
  simp only [Act.put, List.setIfInBounds_toArray, List.set_cons_zero, List.set_cons_succ]
  refine wpAnyT_take (i := 7) (v := ?_) rfl (by kernel_rfl) (by kernel_rfl) (by kernel_rfl) (by kernel_rfl) (fun _ _ _ h => h) (Or.inl ⟨by rfl, ?_⟩) (HX.out _ F) ?_
  rotate_left
  · intro w hSw
    (try dsimp only at hSw)
    go_simp
    all_goals with_reducible rfl
  simp only [Act.put, List.setIfInBounds_toArray, List.set_cons_zero, List.set_cons_succ]
  refine wpAnyT_one (i := 4) (by kernel_rfl) rfl (fun K hK => ?_)
  go_simp
  refine (dwithin_any _ k _).mono ?_
  rintro e v1 ⟨rfl, hv1⟩
  have hY : ∀ w', Below v1.heap.size v1 w' → w'.cell? ⟨W.heap.size, 0, none⟩ = some (.pointer a) ∧ w'.cell? ⟨W.heap.size + 1, 0, none⟩ = some (.int .i64 k) := fun w' hb => within_box (W := W) (v := W.drew) F hv1 w' hb
  have F1 : Below W.drew.heap.size W.drew v1 := by rw [hv1]; exact below_al (below_al (Below.refl _ _) _) _
  have HY := Lib.hid hY
  replace F := below_on F F1
  clear hv1 hY F1
  refine hK.out _ _ (fun _ => (HX.out _ F)) ?_
  clear hK K
  try simp only [Act.put, List.setIfInBounds_toArray, List.set_cons_zero, List.set_cons_succ]
  refine wpAnyT_one (i := 5) (by kernel_rfl) rfl (fun K hK => ?_)
  go_simp
  refine hK.out _ _ (fun _ => (HX.out _ (below_al F _))) ?_
  clear hK K
  try simp only [Act.put, List.setIfInBounds_toArray, List.set_cons_zero, List.set_cons_succ]
  refine wpAnyT_one (i := 6) (by kernel_rfl) rfl (fun K hK => ?_)
  go_simp
  refine (gone_at (.pointer a) [⟨66, #[], #[.pointer (some ⟨W.heap.size, 0, none⟩), .pointer (some ⟨W.heap.size + 1, 0, none⟩)], 0⟩] v1 (by simp) (HH.out.on F)).mono ?_
  rintro e v2 ⟨rfl, hb2⟩
  replace F := below_on F hb2
  clear hb2
  refine hK.out _ _ (fun _ => (HX.out _ F)) ?_
  clear hK K
  try simp only [Act.put, List.setIfInBounds_toArray, List.set_cons_zero, List.set_cons_succ]
  refine wpAnyT_one (i := 8) (by kernel_rfl) rfl (fun K hK => ?_)
  go_simp
  refine (told_no4 1 (by decide) _ _).mono ?_
  rintro e v3 ⟨rfl, h3⟩
  subst h3
  refine hK.out _ _ (fun _ => (HX.out _ F)) ?_
  clear hK K
  try simp only [Act.put, List.setIfInBounds_toArray, List.set_cons_zero, List.set_cons_succ]
  refine wpAnyT_take (i := 9) (v := ?_) rfl (by kernel_rfl) (by kernel_rfl) (by kernel_rfl) (by kernel_rfl) (fun _ _ _ h => h) (Or.inl ⟨by rfl, ?_⟩) (HX.out _ F) ?_
  rotate_left
  · intro w hSw
    (try dsimp only at hSw)
    go_simp
    all_goals with_reducible rfl
  simp only [Act.put, List.setIfInBounds_toArray, List.set_cons_zero, List.set_cons_succ]
  refine wpAnyT_take (i := 10) (v := ?_) rfl (by kernel_rfl) (by kernel_rfl) (by kernel_rfl) (by kernel_rfl) (fun _ _ _ h => h) (Or.inl ⟨by rfl, ?_⟩) (HX.out _ F) ?_
  rotate_left
  · intro w hSw
    (try dsimp only at hSw)
    go_simp
    all_goals with_reducible rfl
  simp only [Act.put, List.setIfInBounds_toArray, List.set_cons_zero, List.set_cons_succ]
  refine wpAnyT_take (i := 11) (v := ?_) rfl (by kernel_rfl) (by kernel_rfl) (by kernel_rfl) (by kernel_rfl) (fun _ _ _ h => h) (Or.inl ⟨by rfl, ?_⟩) (HX.out _ F) ?_
  rotate_left
  · intro w hSw
    (try dsimp only at hSw)
    go_simp
    all_goals with_reducible rfl
  simp only [Act.put, List.setIfInBounds_toArray, List.set_cons_zero, List.set_cons_succ]
  refine wpAnyT_take (i := 12) (v := ?_) rfl (by kernel_rfl) (by kernel_rfl) (by kernel_rfl) (by kernel_rfl) (fun _ _ _ h => h) (Or.inl ⟨by rfl, ?_⟩) (HX.out _ F) ?_
  rotate_left
  · intro w hSw
    (try dsimp only at hSw)
    go_simp
    all_goals with_reducible rfl
  simp only [Act.put, List.setIfInBounds_toArray, List.set_cons_zero, List.set_cons_succ]
  refine wpAnyT_done (by kernel_rfl) ?_ _
  have HF := Lib.hid F
  clear F
  go_wp2_with fail
  go_ret2
  exact ⟨rfl, HB0.out.trans (HF.out.mono HB0.out.size)⟩

set_option maxHeartbeats 4000000 in
theorem lies_gone (a : Option Addr) (k : Int) (w : World) (h : DkN w (.pointer a) 0) : Calls Try.prog 29 #[.pointer a, .int .i64 k] w fun e w' => e = .returned (.tuple #[.slice none 0 0, .int .i64 1]) ∧ Below w.heap.size w w' := by
  have hmf : ∀ (fn : Fn) (first cap : Array Value) (w : World), (Instr.makeFunc fn first cap).run Try.prog w = .ok (.func fn first cap) w := fun _ _ _ _ => rfl
  obtain ⟨W, hW⟩ : ∃ W, W = (w.alloc (.cells #[.pointer a] 23)).alloc (.cells #[.int .i64 k] 3) := ⟨_, rfl⟩
  have HB0 : Hid (Below w.heap.size w W) := by rw [hW]; exact below_al (below_al (Below.refl _ _) _) _
  have HZ : Hid (W.heap.size = w.heap.size + 2) := by rw [Hid, hW]; simp
  have HX : Hid (∀ w', Below W.heap.size W w' → (w'.cell? ⟨w.heap.size, 0, none⟩ = some (.pointer a) ∧ w'.cell? ⟨w.heap.size + 1, 0, none⟩ = some (.int .i64 k))) := fun w' h => by
    rw [hW] at h
    have h1 := box_at ((below_al (Below.refl _ _) _).trans (h.mono (by simp))) 0
    have h2 := box_at h 0
    rw [World.size_alloc] at h2
    exact ⟨h1, h2⟩
  have HH : Hid (DkN W (.pointer a) 0) := h.on HB0.out
  have HW := Lib.hid hW
  clear h hW
  go_enter Try.func29, Try.ntmps29
  go_upto_region 1 with fail
  rw [← HW.out]
  have F : Below W.heap.size W W.drew := (Below.refl _ _).drew
  refine wp_region_T (fun w' => (w'.cell? ⟨w.heap.size, 0, none⟩ = some (.pointer a) ∧ w'.cell? ⟨w.heap.size + 1, 0, none⟩ = some (.int .i64 k))) 13 (by kernel_rfl) ?_
  refine wpAnyT_take (i := 0) (v := ?_) rfl (by kernel_rfl) (by kernel_rfl) (by kernel_rfl) (by kernel_rfl) (fun _ _ _ h => h) (Or.inl ⟨by rfl, ?_⟩) (HX.out _ F) ?_
  rotate_left
  · intro w hSw
    (try dsimp only at hSw)
    go_simp
    all_goals with_reducible rfl
  simp only [Act.put, List.setIfInBounds_toArray, List.set_cons_zero, List.set_cons_succ]
  refine wpAnyT_take (i := 1) (v := ?_) rfl (by kernel_rfl) (by kernel_rfl) (by kernel_rfl) (by kernel_rfl) (fun _ _ _ h => h) (Or.inl ⟨by rfl, ?_⟩) (HX.out _ F) ?_
  rotate_left
  · intro w hSw
    (try dsimp only at hSw)
    go_simp
    all_goals with_reducible rfl
  simp only [Act.put, List.setIfInBounds_toArray, List.set_cons_zero, List.set_cons_succ]
  refine wpAnyT_take (i := 2) (v := ?_) rfl (by kernel_rfl) (by kernel_rfl) (by kernel_rfl) (by kernel_rfl) (fun _ _ _ h => h) (Or.inl ⟨by rfl, ?_⟩) (HX.out _ F) ?_
  rotate_left
  · intro w hSw
    (try dsimp only at hSw)
    go_simp
    all_goals with_reducible rfl
  simp only [Act.put, List.setIfInBounds_toArray, List.set_cons_zero, List.set_cons_succ]
  refine wpAnyT_take (i := 3) (v := ?_) rfl (by kernel_rfl) (by kernel_rfl) (by kernel_rfl) (by kernel_rfl) (fun _ _ _ h => h) (Or.inl ⟨by rfl, ?_⟩) (HX.out _ F) ?_
  rotate_left
  · intro w hSw
    (try dsimp only at hSw)
    go_simp
    all_goals with_reducible rfl
  simp only [Act.put, List.setIfInBounds_toArray, List.set_cons_zero, List.set_cons_succ]
  refine wpAnyT_take (i := 7) (v := ?_) rfl (by kernel_rfl) (by kernel_rfl) (by kernel_rfl) (by kernel_rfl) (fun _ _ _ h => h) (Or.inl ⟨by rfl, ?_⟩) (HX.out _ F) ?_
  rotate_left
  · intro w hSw
    (try dsimp only at hSw)
    go_simp
    all_goals with_reducible rfl
  simp only [Act.put, List.setIfInBounds_toArray, List.set_cons_zero, List.set_cons_succ]
  refine wpAnyT_one (i := 4) (by kernel_rfl) rfl (fun K hK => ?_)
  go_simp
  refine (dwithin_any _ k _).mono ?_
  rintro e v1 ⟨rfl, hv1⟩
  have hY : ∀ w', Below v1.heap.size v1 w' → w'.cell? ⟨W.heap.size, 0, none⟩ = some (.pointer a) ∧ w'.cell? ⟨W.heap.size + 1, 0, none⟩ = some (.int .i64 k) := fun w' hb => within_box (W := W) (v := W.drew) F hv1 w' hb
  have F1 : Below W.drew.heap.size W.drew v1 := by rw [hv1]; exact below_al (below_al (Below.refl _ _) _) _
  have HY := Lib.hid hY
  replace F := below_on F F1
  clear hv1 hY F1
  refine hK.out _ _ (fun _ => (HX.out _ F)) ?_
  clear hK K
  try simp only [Act.put, List.setIfInBounds_toArray, List.set_cons_zero, List.set_cons_succ]
  refine wpAnyT_one (i := 5) (by kernel_rfl) rfl (fun K hK => ?_)
  go_simp
  refine hK.out _ _ (fun _ => (HX.out _ (below_al F _))) ?_
  clear hK K
  try simp only [Act.put, List.setIfInBounds_toArray, List.set_cons_zero, List.set_cons_succ]
  refine wpAnyT_one (i := 6) (by kernel_rfl) rfl (fun K hK => ?_)
  go_simp
  refine (gone_at (.pointer a) [⟨66, #[], #[.pointer (some ⟨W.heap.size, 0, none⟩), .pointer (some ⟨W.heap.size + 1, 0, none⟩)], 0⟩] v1 (by simp) (HH.out.on F)).mono ?_
  rintro e v2 ⟨rfl, hb2⟩
  replace F := below_on F hb2
  clear hb2
  refine hK.out _ _ (fun _ => (HX.out _ F)) ?_
  clear hK K
  try simp only [Act.put, List.setIfInBounds_toArray, List.set_cons_zero, List.set_cons_succ]
  refine wpAnyT_one (i := 8) (by kernel_rfl) rfl (fun K hK => ?_)
  go_simp
  refine (told_no4 1 (by decide) _ _).mono ?_
  rintro e v3 ⟨rfl, h3⟩
  subst h3
  refine hK.out _ _ (fun _ => (HX.out _ F)) ?_
  clear hK K
  try simp only [Act.put, List.setIfInBounds_toArray, List.set_cons_zero, List.set_cons_succ]
  refine wpAnyT_take (i := 9) (v := ?_) rfl (by kernel_rfl) (by kernel_rfl) (by kernel_rfl) (by kernel_rfl) (fun _ _ _ h => h) (Or.inl ⟨by rfl, ?_⟩) (HX.out _ F) ?_
  rotate_left
  · intro w hSw
    (try dsimp only at hSw)
    go_simp
    all_goals with_reducible rfl
  simp only [Act.put, List.setIfInBounds_toArray, List.set_cons_zero, List.set_cons_succ]
  refine wpAnyT_take (i := 10) (v := ?_) rfl (by kernel_rfl) (by kernel_rfl) (by kernel_rfl) (by kernel_rfl) (fun _ _ _ h => h) (Or.inl ⟨by rfl, ?_⟩) (HX.out _ F) ?_
  rotate_left
  · intro w hSw
    (try dsimp only at hSw)
    go_simp
    all_goals with_reducible rfl
  simp only [Act.put, List.setIfInBounds_toArray, List.set_cons_zero, List.set_cons_succ]
  refine wpAnyT_take (i := 11) (v := ?_) rfl (by kernel_rfl) (by kernel_rfl) (by kernel_rfl) (by kernel_rfl) (fun _ _ _ h => h) (Or.inl ⟨by rfl, ?_⟩) (HX.out _ F) ?_
  rotate_left
  · intro w hSw
    (try dsimp only at hSw)
    go_simp
    all_goals with_reducible rfl
  simp only [Act.put, List.setIfInBounds_toArray, List.set_cons_zero, List.set_cons_succ]
  refine wpAnyT_take (i := 12) (v := ?_) rfl (by kernel_rfl) (by kernel_rfl) (by kernel_rfl) (by kernel_rfl) (fun _ _ _ h => h) (Or.inl ⟨by rfl, ?_⟩) (HX.out _ F) ?_
  rotate_left
  · intro w hSw
    (try dsimp only at hSw)
    go_simp
    all_goals with_reducible rfl
  simp only [Act.put, List.setIfInBounds_toArray, List.set_cons_zero, List.set_cons_succ]
  refine wpAnyT_done (by kernel_rfl) ?_ _
  have HF := Lib.hid F
  clear F
  go_wp2_with fail
  go_ret2
  exact ⟨rfl, HB0.out.trans (HF.out.mono HB0.out.size)⟩

end Go.Proofs.Ytekeooeapiodmaa

namespace Go.Proofs.Ytekeooeapiodmaa
open Go Go.RowKit Go.Shelf
set_option linter.unusedSimpArgs false
set_option linter.unusedVariables false
set_option maxRecDepth 100000

attribute [local go_sem] Oper.semAt_some

theorem write_gone (q : Option Addr) (k : Int) (a : Option Addr) (m c : Nat) (w : World) (h : DkN w (.pointer q) 0) :
    Calls Try.prog 19 #[.pointer q, .int .i64 k, .slice a m c] w fun e w' => e = .returned (.int .i64 1) ∧ Below w.heap.size w w' := by
  have hmf : ∀ (fn : Fn) (first cap : Array Value) (w : World), (Instr.makeFunc fn first cap).run Try.prog w = .ok (.func fn first cap) w := fun _ _ _ _ => rfl
  have HH := Lib.hid h
  clear h
  go_enter Try.func19, Try.ntmps19
  go_wp2_with fail
  refine (dwhole_any a m c w).mono ?_
  rintro e w1 ⟨rfl, hw1⟩
  have HB1 : Hid (Below w.heap.size w w1) := by rw [hw1]; exact below_al (Below.refl _ _) _
  clear hw1
  go_wp2_with fail
  refine (dwithin_any _ k w1).mono ?_
  rintro e w2 ⟨rfl, hw2⟩
  have HB2 : Hid (Below w.heap.size w w2) := by rw [hw2]; exact below_on HB1.out (below_al (below_al (Below.refl _ _) _) _)
  clear hw2
  go_wp2_with fail
  refine (gone_at (.pointer q) [⟨65, #[], #[.pointer (some ⟨w.heap.size, 0, none⟩)], 0⟩, ⟨66, #[], #[.pointer (some ⟨w1.heap.size, 0, none⟩), .pointer (some ⟨w1.heap.size + 1, 0, none⟩)], 0⟩, ⟨50, #[.pointer q], #[], 0⟩] w2 (by simp) (HH.out.on HB2.out)).mono ?_
  rintro e w3 ⟨rfl, hb3⟩
  have HB3 := Lib.hid (below_on HB2.out hb3)
  clear hb3
  go_wp2_with fail
  go_ret
  exact ⟨rfl, HB3.out⟩

/-- Of two, of which one is no disk, both must be none. -/
theorem same_gone (u v : Value) (n m : Nat) (w : World) (h : DkN w u n) (h2 : DkN w v m) (hz : n = 0 ∨ m = 0) :
    Calls Try.prog 18 #[u, v] w fun e w' => e = .returned (.bool ((n == 0) && (m == 0))) ∧ Below w.heap.size w w' := by
  have HU := Lib.hid h
  have HV := Lib.hid h2
  clear h h2
  by_cases hn : n = 0
  · subst hn
    go_enter Try.func18, Try.ntmps18
    go_wp2_with fail
    refine (dnone_any _ _ w HU.out).mono ?_
    rintro e w1 ⟨rfl, hw1⟩
    rw [← hw1, show ((0 : Nat) == 0) = true from rfl]
    clear hw1 w1
    go_wp2_with fail
    refine (dnone_any _ _ w HU.out).mono ?_
    rintro e w1 ⟨rfl, hw1⟩
    rw [← hw1, show ((0 : Nat) == 0) = true from rfl]
    clear hw1 w1
    go_wp2_with fail
    refine (dnone_any _ _ w HV.out).mono ?_
    rintro e w1 ⟨rfl, hw1⟩
    rw [← hw1]
    clear hw1 w1
    go_wp2_with fail
    go_ret
    exact ⟨by cases (m == 0) <;> rfl, Below.refl _ _⟩
  · have hm : m = 0 := by omega
    subst hm
    have hnb : (n == 0) = false := by simpa using hn
    have HNb := Lib.hid hnb
    clear hnb hn
    go_enter Try.func18, Try.ntmps18
    go_wp2_with fail
    refine (dnone_any _ _ w HU.out).mono ?_
    rintro e w1 ⟨rfl, hw1⟩
    rw [← hw1, HNb.out]
    clear hw1 w1
    go_wp2_with fail
    refine (dnone_any _ _ w HV.out).mono ?_
    rintro e w1 ⟨rfl, hw1⟩
    rw [← hw1, show ((0 : Nat) == 0) = true from rfl]
    clear hw1 w1
    go_wp2_with fail
    refine (dnone_any _ _ w HU.out).mono ?_
    rintro e w1 ⟨rfl, hw1⟩
    rw [← hw1, HNb.out]
    clear hw1 w1
    go_wp2_with fail
    go_ret
    exact ⟨by rw [HNb.out]; rfl, Below.refl _ _⟩

theorem waits_gone (a : Option Addr) (w : World) (h : DkN w (.pointer a) 0) : Calls Try.prog 15 #[.pointer a] w fun e w' => ∃ b, e = .returned (.func (.func 40) #[] #[.pointer (some ⟨b, 0, none⟩)]) ∧ w'.cell? ⟨b, 0, none⟩ = some (.slice none 0 0) ∧ w.heap.size ≤ b ∧ Below w.heap.size w w' := by
  have hmf : ∀ (fn : Fn) (first cap : Array Value) (w : World), (Instr.makeFunc fn first cap).run Try.prog w = .ok (.func fn first cap) w := fun _ _ _ _ => rfl
  obtain ⟨W, hW⟩ : ∃ W, W = w.alloc (.cells #[.pointer a] 23) := ⟨_, rfl⟩
  have HB0 : Hid (Below w.heap.size w W) := by rw [hW]; exact below_al (Below.refl _ _) _
  have HZ : Hid (w.heap.size + 1 = W.heap.size) := by rw [Hid, hW]; simp
  have HH : Hid (DkN W (.pointer a) 0) := h.on HB0.out
  have x0 : W.cell? ⟨w.heap.size, 0, none⟩ = some (.pointer a) := by rw [hW]; exact box_at (Below.refl _ _) 0
  have HW := Lib.hid hW
  rw [hW] at x0
  clear h hW
  go_enter Try.func15, Try.ntmps15
  go_wp2_with fail
  rw [← HW.out, HZ.out]
  clear x0
  refine (gone_at (.pointer a) [] W (by simp) HH.out).mono ?_
  rintro e w1 ⟨rfl, hb1⟩
  have HB1 : Hid (Below w.heap.size w w1) := below_on HB0.out hb1
  clear hb1
  go_wp2_with fail
  refine (told_no3 1 (by decide) _ _).mono ?_
  rintro e w2 ⟨rfl, rfl⟩
  go_wp2_with fail
  go_ret
  exact ⟨_, rfl, box_at (Below.refl _ _) 0, HB1.out.size, below_al HB1.out _⟩

end Go.Proofs.Ytekeooeapiodmaa
