/- Package seen: Same, Prune, Len. -/
import Derived.Test.YtdnjoohicbdmiaaSeE
import Derived.Test.YtdnjoohicbdmiaaRgTwo
namespace Go.Proofs.Ytdnjoohicbdmiaa
open Go Go.RowKit Go.Shelf
open Go.ChangeMaps (setBlock)
set_option linter.unusedSimpArgs false
set_option linter.unusedVariables false
set_option linter.unusedSectionVars false
set_option maxRecDepth 100000

attribute [local go_sem] Oper.semAt_some

set_option maxHeartbeats 4000000 in
theorem sesame_any (S S' : Nat → Prop) (p p' : Nat) (most most' : Int) (l l' : List (Sg × Value)) (w : World) (h : TabAt w S p most l) (h' : TabAt w S' p' most' l') (hT : AllT l) (hT' : AllT l') :
    Calls Try.prog 15 #[.pointer (some ⟨p, 0, none⟩), .pointer (some ⟨p', 0, none⟩)] w fun e w' => (∃ t : Bool, e = .returned (.bool t) ∧ (t = true ↔ most = most' ∧ ∀ q, lk l q = lk l' q)) ∧ Below w.heap.size w w' := by
  obtain ⟨bq, h1, h2, _⟩ := h
  obtain ⟨bq', k1, k2, _⟩ := h'
  have HX : Hid (∀ X, Below w.heap.size w X → ((X.cell? ⟨p, 0, none⟩ = some (.int .i64 most) ∧ X.cell? ⟨p, 1, none⟩ = some (.map (some bq))) ∧ X.cell? ⟨p', 0, none⟩ = some (.int .i64 most') ∧ X.cell? ⟨p', 1, none⟩ = some (.map (some bq')))) := fun X hb =>
    have r := h1.on hb h1.lt
    have r' := k1.on hb k1.lt
    ⟨⟨r.1 0 _ rfl, r.1 1 _ rfl⟩, r'.1 0 _ rfl, r'.1 1 _ rfl⟩
  have HM : Hid (∀ X, Below w.heap.size w X → KMap encSg X bq l ∧ KMap encSg X bq' l') := fun X hb =>
    ⟨h2.kept (hb.block _ h2.lt), k2.kept (hb.block _ k2.lt)⟩
  have HTs := Lib.hid (And.intro hT hT')
  have d1 := h1.1 1 _ rfl
  have d2 := k1.1 1 _ rfl
  clear h1 h2 k1 k2 hT hT'
  by_cases hmm : most = most'
  · subst hmm
    go_enter Try.func15, Try.ntmps15
    go_wp2_with fail
    refine (senone_any p bq w d1).mono ?_
    rintro e w1 ⟨rfl, rfl⟩
    go_wp2_with fail
    refine (senone_any p' bq' w1 d2).mono ?_
    rintro e w' ⟨rfl, rfl⟩
    clear d1 d2
    go_upto_region 3 with fail
    obtain ⟨Wd, hWd⟩ : ∃ wd, wd = w'.drew := ⟨_, rfl⟩
    have HWd := Lib.hid hWd
    have HB0 : Hid (Below w'.heap.size w' Wd) := by rw [hWd]; exact (Below.refl _ _).drew
    clear hWd
    refine wp_region_T (fun X => ((X.cell? ⟨p, 0, none⟩ = some (.int .i64 most) ∧ X.cell? ⟨p, 1, none⟩ = some (.map (some bq))) ∧ X.cell? ⟨p', 0, none⟩ = some (.int .i64 most) ∧ X.cell? ⟨p', 1, none⟩ = some (.map (some bq')))) 21 (by kernel_rfl) ?_
    rw [← HWd.out]
    refine wpAnyT_take (i := 0) (v := ?_) rfl (by kernel_rfl) (by kernel_rfl) (by kernel_rfl) (by kernel_rfl) (fun _ _ _ h => h) (Or.inl ⟨by rfl, ?_⟩) (HX.out _ HB0.out) ?_
    rotate_left
    · intro w hSw
      (try dsimp only at hSw)
      go_simp
      all_goals with_reducible rfl
    simp only [Act.put, List.setIfInBounds_toArray, List.set_cons_zero, List.set_cons_succ]
    refine wpAnyT_take (i := 1) (v := ?_) rfl (by kernel_rfl) (by kernel_rfl) (by kernel_rfl) (by kernel_rfl) (fun _ _ _ h => h) (Or.inl ⟨by rfl, ?_⟩) (HX.out _ HB0.out) ?_
    rotate_left
    · intro w hSw
      (try dsimp only at hSw)
      go_simp
      all_goals with_reducible rfl
    simp only [Act.put, List.setIfInBounds_toArray, List.set_cons_zero, List.set_cons_succ]
    refine wpAnyT_take (i := 2) (v := ?_) rfl (by kernel_rfl) (by kernel_rfl) (by kernel_rfl) (by kernel_rfl) (fun _ _ _ h => h) (Or.inl ⟨by rfl, ?_⟩) (HX.out _ HB0.out) ?_
    rotate_left
    · intro w hSw
      (try dsimp only at hSw)
      go_simp
      all_goals with_reducible rfl
    simp only [Act.put, List.setIfInBounds_toArray, List.set_cons_zero, List.set_cons_succ]
    refine wpAnyT_take (i := 3) (v := ?_) rfl (by kernel_rfl) (by kernel_rfl) (by kernel_rfl) (by kernel_rfl) (fun _ _ _ h => h) (Or.inl ⟨by rfl, ?_⟩) (HX.out _ HB0.out) ?_
    rotate_left
    · intro w hSw
      (try dsimp only at hSw)
      go_simp
      all_goals with_reducible rfl
    simp only [Act.put, List.setIfInBounds_toArray, List.set_cons_zero, List.set_cons_succ]
    refine wpAnyT_take (i := 4) (v := ?_) rfl (by kernel_rfl) (by kernel_rfl) (by kernel_rfl) (by kernel_rfl) (fun _ _ _ h => h) (Or.inl ⟨by rfl, ?_⟩) (HX.out _ HB0.out) ?_
    rotate_left
    · intro w hSw
      (try dsimp only at hSw)
      go_simp
      all_goals with_reducible rfl
    simp only [Act.put, List.setIfInBounds_toArray, List.set_cons_zero, List.set_cons_succ]
    refine wpAnyT_take (i := 5) (v := ?_) rfl (by kernel_rfl) (by kernel_rfl) (by kernel_rfl) (by kernel_rfl) (fun _ _ _ h => h) (Or.inl ⟨by rfl, ?_⟩) (HX.out _ HB0.out) ?_
    rotate_left
    · intro w hSw
      (try dsimp only at hSw)
      go_simp
      all_goals with_reducible rfl
    simp only [Act.put, List.setIfInBounds_toArray, List.set_cons_zero, List.set_cons_succ]
    refine wpAnyT_take (i := 6) (v := ?_) rfl (by kernel_rfl) (by kernel_rfl) (by kernel_rfl) (by kernel_rfl) (fun _ _ _ h => h) (Or.inl ⟨by rfl, ?_⟩) (HX.out _ HB0.out) ?_
    rotate_left
    · intro w hSw
      (try dsimp only at hSw)
      go_simp
      all_goals with_reducible rfl
    simp only [Act.put, List.setIfInBounds_toArray, List.set_cons_zero, List.set_cons_succ]
    refine wpAnyT_take (i := 7) (v := ?_) rfl (by kernel_rfl) (by kernel_rfl) (by kernel_rfl) (by kernel_rfl) (fun _ _ _ h => h) (Or.inl ⟨by rfl, ?_⟩) (HX.out _ HB0.out) ?_
    rotate_left
    · intro w hSw
      (try dsimp only at hSw)
      go_simp
      all_goals with_reducible rfl
    simp only [Act.put, List.setIfInBounds_toArray, List.set_cons_zero, List.set_cons_succ]
    refine wpAnyT_take (i := 8) (v := ?_) rfl (by kernel_rfl) (by kernel_rfl) (by kernel_rfl) (by kernel_rfl) (fun _ _ _ h => h) (Or.inl ⟨by rfl, ?_⟩) (HX.out _ HB0.out) ?_
    rotate_left
    · intro w hSw
      (try dsimp only at hSw)
      go_simp
      all_goals with_reducible rfl
    simp only [Act.put, List.setIfInBounds_toArray, List.set_cons_zero, List.set_cons_succ]
    refine wpAnyT_take (i := 9) (v := ?_) rfl (by kernel_rfl) (by kernel_rfl) (by kernel_rfl) (by kernel_rfl) (fun _ _ _ h => h) (Or.inl ⟨by rfl, ?_⟩) (HX.out _ HB0.out) ?_
    rotate_left
    · intro w hSw
      (try dsimp only at hSw)
      go_simp
      all_goals with_reducible rfl
    simp only [Act.put, List.setIfInBounds_toArray, List.set_cons_zero, List.set_cons_succ]
    refine wpAnyT_take (i := 10) (v := ?_) rfl (by kernel_rfl) (by kernel_rfl) (by kernel_rfl) (by kernel_rfl) (fun _ _ _ h => h) (Or.inl ⟨by rfl, ?_⟩) (HX.out _ HB0.out) ?_
    rotate_left
    · intro w hSw
      (try dsimp only at hSw)
      go_simp
      all_goals with_reducible rfl
    simp only [Act.put, List.setIfInBounds_toArray, List.set_cons_zero, List.set_cons_succ]
    refine wpAnyT_take (i := 11) (v := ?_) rfl (by kernel_rfl) (by kernel_rfl) (by kernel_rfl) (by kernel_rfl) (fun _ _ _ h => h) (Or.inl ⟨by rfl, ?_⟩) (HX.out _ HB0.out) ?_
    rotate_left
    · intro w hSw
      (try dsimp only at hSw)
      go_simp
      all_goals with_reducible rfl
    simp only [Act.put, List.setIfInBounds_toArray, List.set_cons_zero, List.set_cons_succ]
    refine wpAnyT_take (i := 12) (v := ?_) rfl (by kernel_rfl) (by kernel_rfl) (by kernel_rfl) (by kernel_rfl) (fun _ _ _ h => h) (Or.inl ⟨by rfl, ?_⟩) (HX.out _ HB0.out) ?_
    rotate_left
    · intro w hSw
      (try dsimp only at hSw)
      go_simp
      all_goals with_reducible rfl
    simp only [Act.put, List.setIfInBounds_toArray, List.set_cons_zero, List.set_cons_succ]
    refine wpAnyT_take (i := 13) (v := ?_) rfl (by kernel_rfl) (by kernel_rfl) (by kernel_rfl) (by kernel_rfl) (fun _ _ _ h => h) (Or.inl ⟨by rfl, ?_⟩) (HX.out _ HB0.out) ?_
    rotate_left
    · intro w hSw
      (try dsimp only at hSw)
      go_simp
      all_goals with_reducible rfl
    simp only [Act.put, List.setIfInBounds_toArray, List.set_cons_zero, List.set_cons_succ]
    refine wpAnyT_take (i := 14) (v := ?_) rfl (by kernel_rfl) (by kernel_rfl) (by kernel_rfl) (by kernel_rfl) (fun _ _ _ h => h) (Or.inl ⟨by rfl, ?_⟩) (HX.out _ HB0.out) ?_
    rotate_left
    · intro w hSw
      (try dsimp only at hSw)
      go_simp
      all_goals with_reducible rfl
    simp only [Act.put, List.setIfInBounds_toArray, List.set_cons_zero, List.set_cons_succ]
    refine wpAnyT_take (i := 15) (v := ?_) rfl (by kernel_rfl) (by kernel_rfl) (by kernel_rfl) (by kernel_rfl) (fun _ _ _ h => h) (Or.inl ⟨by rfl, ?_⟩) (HX.out _ HB0.out) ?_
    rotate_left
    · intro w hSw
      (try dsimp only at hSw)
      go_simp
      all_goals with_reducible rfl
    simp only [Act.put, List.setIfInBounds_toArray, List.set_cons_zero, List.set_cons_succ]
    refine wpAnyT_take (i := 16) (v := ?_) rfl (by kernel_rfl) (by kernel_rfl) (by kernel_rfl) (by kernel_rfl) (fun _ _ _ h => h) (Or.inl ⟨by rfl, ?_⟩) (HX.out _ HB0.out) ?_
    rotate_left
    · intro w hSw
      (try dsimp only at hSw)
      go_simp
      all_goals with_reducible rfl
    simp only [Act.put, List.setIfInBounds_toArray, List.set_cons_zero, List.set_cons_succ]
    refine wpAnyT_take (i := 17) (v := ?_) rfl (by kernel_rfl) (by kernel_rfl) (by kernel_rfl) (by kernel_rfl) (fun _ _ _ h => h) (Or.inl ⟨by rfl, ?_⟩) (HX.out _ HB0.out) ?_
    rotate_left
    · intro w hSw
      (try dsimp only at hSw)
      go_simp
      all_goals with_reducible rfl
    simp only [Act.put, List.setIfInBounds_toArray, List.set_cons_zero, List.set_cons_succ]
    refine wpAnyT_one (i := 18) (by kernel_rfl) rfl (fun K hK => ?_)
    go_simp
    refine (seequal_any bq bq' l l' Wd (HM.out Wd HB0.out).1 (HM.out Wd HB0.out).2 HTs.out.1 HTs.out.2).mono ?_
    rintro e X ⟨⟨t, rfl, ht⟩, hbx⟩
    have HT := Lib.hid ht
    have HBx : Hid (Below w'.heap.size w' X) := HB0.out.trans (hbx.mono HB0.out.size)
    clear ht hbx
    refine hK.out _ _ (fun _ => (HX.out _ HBx.out)) ?_
    clear hK K
    try simp only [Act.put, List.setIfInBounds_toArray, List.set_cons_zero, List.set_cons_succ]
    refine wpAnyT_take (i := 19) (v := ?_) rfl (by kernel_rfl) (by kernel_rfl) (by kernel_rfl) (by kernel_rfl) (fun _ _ _ h => h) (Or.inl ⟨by rfl, ?_⟩) (HX.out _ HBx.out) ?_
    rotate_left
    · intro w hSw
      (try dsimp only at hSw)
      go_simp
      all_goals with_reducible rfl
    simp only [Act.put, List.setIfInBounds_toArray, List.set_cons_zero, List.set_cons_succ]
    refine wpAnyT_take (i := 20) (v := ?_) rfl (by kernel_rfl) (by kernel_rfl) (by kernel_rfl) (by kernel_rfl) (fun _ _ _ h => h) (Or.inl ⟨by rfl, ?_⟩) (HX.out _ HBx.out) ?_
    rotate_left
    · intro w hSw
      (try dsimp only at hSw)
      go_simp
      all_goals with_reducible rfl
    simp only [Act.put, List.setIfInBounds_toArray, List.set_cons_zero, List.set_cons_succ]
    refine wpAnyT_done (by kernel_rfl) ?_ _
    go_wp2_with fail
    go_ret
    exact ⟨⟨t, rfl, by simpa using HT.out⟩, HBx.out⟩
  · have hnn : (most == most') = false := by simpa using hmm
    have HNe := Lib.hid hmm
    clear hmm
    go_enter Try.func15, Try.ntmps15
    go_wp2_with fail
    refine (senone_any p bq w d1).mono ?_
    rintro e w1 ⟨rfl, rfl⟩
    go_wp2_with fail
    refine (senone_any p' bq' w1 d2).mono ?_
    rintro e w' ⟨rfl, rfl⟩
    clear d1 d2
    go_upto_region 3 with fail
    obtain ⟨Wd, hWd⟩ : ∃ wd, wd = w'.drew := ⟨_, rfl⟩
    have HWd := Lib.hid hWd
    have HB0 : Hid (Below w'.heap.size w' Wd) := by rw [hWd]; exact (Below.refl _ _).drew
    clear hWd
    refine wp_region_T (fun X => ((X.cell? ⟨p, 0, none⟩ = some (.int .i64 most) ∧ X.cell? ⟨p, 1, none⟩ = some (.map (some bq))) ∧ X.cell? ⟨p', 0, none⟩ = some (.int .i64 most') ∧ X.cell? ⟨p', 1, none⟩ = some (.map (some bq')))) 21 (by kernel_rfl) ?_
    rw [← HWd.out]
    refine wpAnyT_take (i := 0) (v := ?_) rfl (by kernel_rfl) (by kernel_rfl) (by kernel_rfl) (by kernel_rfl) (fun _ _ _ h => h) (Or.inl ⟨by rfl, ?_⟩) (HX.out _ HB0.out) ?_
    rotate_left
    · intro w hSw
      (try dsimp only at hSw)
      go_simp
      all_goals with_reducible rfl
    simp only [Act.put, List.setIfInBounds_toArray, List.set_cons_zero, List.set_cons_succ]
    refine wpAnyT_take (i := 1) (v := ?_) rfl (by kernel_rfl) (by kernel_rfl) (by kernel_rfl) (by kernel_rfl) (fun _ _ _ h => h) (Or.inl ⟨by rfl, ?_⟩) (HX.out _ HB0.out) ?_
    rotate_left
    · intro w hSw
      (try dsimp only at hSw)
      go_simp
      all_goals with_reducible rfl
    simp only [Act.put, List.setIfInBounds_toArray, List.set_cons_zero, List.set_cons_succ]
    refine wpAnyT_take (i := 2) (v := ?_) rfl (by kernel_rfl) (by kernel_rfl) (by kernel_rfl) (by kernel_rfl) (fun _ _ _ h => h) (Or.inl ⟨by rfl, ?_⟩) (HX.out _ HB0.out) ?_
    rotate_left
    · intro w hSw
      (try dsimp only at hSw)
      go_simp
      all_goals with_reducible rfl
    simp only [Act.put, List.setIfInBounds_toArray, List.set_cons_zero, List.set_cons_succ]
    refine wpAnyT_take (i := 3) (v := ?_) rfl (by kernel_rfl) (by kernel_rfl) (by kernel_rfl) (by kernel_rfl) (fun _ _ _ h => h) (Or.inl ⟨by rfl, ?_⟩) (HX.out _ HB0.out) ?_
    rotate_left
    · intro w hSw
      (try dsimp only at hSw)
      go_simp
      all_goals with_reducible rfl
    simp only [Act.put, List.setIfInBounds_toArray, List.set_cons_zero, List.set_cons_succ]
    refine wpAnyT_take (i := 4) (v := ?_) rfl (by kernel_rfl) (by kernel_rfl) (by kernel_rfl) (by kernel_rfl) (fun _ _ _ h => h) (Or.inl ⟨by rfl, ?_⟩) (HX.out _ HB0.out) ?_
    rotate_left
    · intro w hSw
      (try dsimp only at hSw)
      go_simp
      all_goals with_reducible rfl
    simp only [Act.put, List.setIfInBounds_toArray, List.set_cons_zero, List.set_cons_succ]
    refine wpAnyT_take (i := 5) (v := ?_) rfl (by kernel_rfl) (by kernel_rfl) (by kernel_rfl) (by kernel_rfl) (fun _ _ _ h => h) (Or.inl ⟨by rfl, ?_⟩) (HX.out _ HB0.out) ?_
    rotate_left
    · intro w hSw
      (try dsimp only at hSw)
      go_simp
      all_goals with_reducible rfl
    simp only [Act.put, List.setIfInBounds_toArray, List.set_cons_zero, List.set_cons_succ]
    refine wpAnyT_take (i := 6) (v := ?_) rfl (by kernel_rfl) (by kernel_rfl) (by kernel_rfl) (by kernel_rfl) (fun _ _ _ h => h) (Or.inl ⟨by rfl, ?_⟩) (HX.out _ HB0.out) ?_
    rotate_left
    · intro w hSw
      (try dsimp only at hSw)
      go_simp
      all_goals with_reducible rfl
    simp only [Act.put, List.setIfInBounds_toArray, List.set_cons_zero, List.set_cons_succ]
    refine wpAnyT_take (i := 7) (v := ?_) rfl (by kernel_rfl) (by kernel_rfl) (by kernel_rfl) (by kernel_rfl) (fun _ _ _ h => h) (Or.inl ⟨by rfl, ?_⟩) (HX.out _ HB0.out) ?_
    rotate_left
    · intro w hSw
      (try dsimp only at hSw)
      go_simp
      all_goals with_reducible rfl
    simp only [Act.put, List.setIfInBounds_toArray, List.set_cons_zero, List.set_cons_succ]
    refine wpAnyT_take (i := 8) (v := ?_) rfl (by kernel_rfl) (by kernel_rfl) (by kernel_rfl) (by kernel_rfl) (fun _ _ _ h => h) (Or.inl ⟨by rfl, ?_⟩) (HX.out _ HB0.out) ?_
    rotate_left
    · intro w hSw
      (try dsimp only at hSw)
      go_simp
      all_goals with_reducible rfl
    simp only [Act.put, List.setIfInBounds_toArray, List.set_cons_zero, List.set_cons_succ]
    refine wpAnyT_take (i := 9) (v := ?_) rfl (by kernel_rfl) (by kernel_rfl) (by kernel_rfl) (by kernel_rfl) (fun _ _ _ h => h) (Or.inl ⟨by rfl, ?_⟩) (HX.out _ HB0.out) ?_
    rotate_left
    · intro w hSw
      (try dsimp only at hSw)
      go_simp
      all_goals with_reducible rfl
    simp only [Act.put, List.setIfInBounds_toArray, List.set_cons_zero, List.set_cons_succ]
    refine wpAnyT_take (i := 10) (v := undef) rfl (by kernel_rfl) (by kernel_rfl) (by kernel_rfl) (by kernel_rfl) (fun _ _ _ h => h) (Or.inr ⟨by rfl, rfl⟩) (HX.out _ HB0.out) ?_
    simp only [Act.put, List.setIfInBounds_toArray, List.set_cons_zero, List.set_cons_succ]
    refine wpAnyT_take (i := 11) (v := undef) rfl (by kernel_rfl) (by kernel_rfl) (by kernel_rfl) (by kernel_rfl) (fun _ _ _ h => h) (Or.inr ⟨by rfl, rfl⟩) (HX.out _ HB0.out) ?_
    simp only [Act.put, List.setIfInBounds_toArray, List.set_cons_zero, List.set_cons_succ]
    refine wpAnyT_take (i := 12) (v := undef) rfl (by kernel_rfl) (by kernel_rfl) (by kernel_rfl) (by kernel_rfl) (fun _ _ _ h => h) (Or.inr ⟨by rfl, rfl⟩) (HX.out _ HB0.out) ?_
    simp only [Act.put, List.setIfInBounds_toArray, List.set_cons_zero, List.set_cons_succ]
    refine wpAnyT_take (i := 13) (v := undef) rfl (by kernel_rfl) (by kernel_rfl) (by kernel_rfl) (by kernel_rfl) (fun _ _ _ h => h) (Or.inr ⟨by rfl, rfl⟩) (HX.out _ HB0.out) ?_
    simp only [Act.put, List.setIfInBounds_toArray, List.set_cons_zero, List.set_cons_succ]
    refine wpAnyT_take (i := 14) (v := undef) rfl (by kernel_rfl) (by kernel_rfl) (by kernel_rfl) (by kernel_rfl) (fun _ _ _ h => h) (Or.inr ⟨by rfl, rfl⟩) (HX.out _ HB0.out) ?_
    simp only [Act.put, List.setIfInBounds_toArray, List.set_cons_zero, List.set_cons_succ]
    refine wpAnyT_take (i := 15) (v := undef) rfl (by kernel_rfl) (by kernel_rfl) (by kernel_rfl) (by kernel_rfl) (fun _ _ _ h => h) (Or.inr ⟨by rfl, rfl⟩) (HX.out _ HB0.out) ?_
    simp only [Act.put, List.setIfInBounds_toArray, List.set_cons_zero, List.set_cons_succ]
    refine wpAnyT_take (i := 16) (v := undef) rfl (by kernel_rfl) (by kernel_rfl) (by kernel_rfl) (by kernel_rfl) (fun _ _ _ h => h) (Or.inr ⟨by rfl, rfl⟩) (HX.out _ HB0.out) ?_
    simp only [Act.put, List.setIfInBounds_toArray, List.set_cons_zero, List.set_cons_succ]
    refine wpAnyT_take (i := 17) (v := undef) rfl (by kernel_rfl) (by kernel_rfl) (by kernel_rfl) (by kernel_rfl) (fun _ _ _ h => h) (Or.inr ⟨by rfl, rfl⟩) (HX.out _ HB0.out) ?_
    simp only [Act.put, List.setIfInBounds_toArray, List.set_cons_zero, List.set_cons_succ]
    refine wpAnyT_take (i := 18) (v := undef) rfl (by kernel_rfl) (by kernel_rfl) (by kernel_rfl) (by kernel_rfl) (fun _ _ _ h => h) (Or.inr ⟨by rfl, rfl⟩) (HX.out _ HB0.out) ?_
    simp only [Act.put, List.setIfInBounds_toArray, List.set_cons_zero, List.set_cons_succ]
    refine wpAnyT_take (i := 19) (v := ?_) rfl (by kernel_rfl) (by kernel_rfl) (by kernel_rfl) (by kernel_rfl) (fun _ _ _ h => h) (Or.inl ⟨by rfl, ?_⟩) (HX.out _ HB0.out) ?_
    rotate_left
    · intro w hSw
      (try dsimp only at hSw)
      go_simp
      all_goals with_reducible rfl
    simp only [Act.put, List.setIfInBounds_toArray, List.set_cons_zero, List.set_cons_succ]
    refine wpAnyT_take (i := 20) (v := ?_) rfl (by kernel_rfl) (by kernel_rfl) (by kernel_rfl) (by kernel_rfl) (fun _ _ _ h => h) (Or.inl ⟨by rfl, ?_⟩) (HX.out _ HB0.out) ?_
    rotate_left
    · intro w hSw
      (try dsimp only at hSw)
      go_simp
      all_goals with_reducible rfl
    simp only [Act.put, List.setIfInBounds_toArray, List.set_cons_zero, List.set_cons_succ]
    refine wpAnyT_done (by kernel_rfl) ?_ _
    go_wp2_with fail
    go_ret
    exact ⟨⟨false, rfl, by simp, fun h => absurd h.1 HNe.out⟩, HB0.out⟩

/-- A time, as a value. -/
def tI : Value → Int
  | .int _ n => n
  | _ => 0
/-- Those that count later than that. -/
def pruned (l : List (Sg × Value)) (at0 : Int) : List (Sg × Value) := l.filter fun q => decide (at0 < tI q.2)
/-- What is left while a table is pruned: those to come, and those that count later. -/
def prunedT (l todo : List (Sg × Value)) (at0 : Int) : List (Sg × Value) := l.filter fun q => (lk todo q.1).isSome || decide (at0 < tI q.2)
theorem prunedT_all (l : List (Sg × Value)) (at0 : Int) (hn : (l.map (·.1)).Nodup) : prunedT l l at0 = l := by
  refine List.filter_eq_self.2 fun q hq => ?_
  rw [lk_of_mem hn (k := q.1) (v := q.2) hq]
  rfl
theorem prunedT_end (l : List (Sg × Value)) (at0 : Int) : prunedT l [] at0 = pruned l at0 := by
  unfold prunedT pruned
  congr 1
theorem prunedT_keep {l todo rest : List (Sg × Value)} {at0 : Int} {q : Sg} {v : Value} (hn : (l.map (·.1)).Nodup) (hl : lk l q = some v) (hr : ∀ k, lk rest k = if k = q then none else lk todo k) (ht : at0 < tI v) : prunedT l rest at0 = prunedT l todo at0 := by
  unfold prunedT
  refine List.filter_congr fun x hx => ?_
  rw [hr]
  by_cases e : x.1 = q
  · have hxv : x.2 = v := by
      have := lk_of_mem hn (k := x.1) (v := x.2) hx
      rw [e, hl] at this
      injection this with this
      exact this.symm
    simp [e, hxv, ht]
  · simp [e]
theorem prunedT_drop {l todo rest : List (Sg × Value)} {at0 : Int} {q : Sg} {v : Value} (hn : (l.map (·.1)).Nodup) (hl : lk l q = some v) (hr : ∀ k, lk rest k = if k = q then none else lk todo k) (ht : ¬ at0 < tI v) : prunedT l rest at0 = dl (prunedT l todo at0) q := by
  unfold prunedT dl
  rw [List.filter_filter]
  refine List.filter_congr fun x hx => ?_
  rw [hr]
  by_cases e : x.1 = q
  · have hxv : x.2 = v := by
      have := lk_of_mem hn (k := x.1) (v := x.2) hx
      rw [e, hl] at this
      injection this with this
      exact this.symm
    simp [e, hxv, ht]
  · simp [e]

set_option maxHeartbeats 8000000 in
theorem prune_any (S : Nat → Prop) (p : Nat) (most : Int) (l : List (Sg × Value)) (at0 : Int) (w : World) (h : TabAt w S p most l) (hS : ∀ b, S b → b < w.heap.size) (hT : AllT l) (hlen : l.length ≤ 1000000) :
    Calls Try.prog 17 #[.pointer (some ⟨p, 0, none⟩), .int .u64 at0] w fun e w' => e = .returned (.tuple #[.int .i64 ((l.length : Int) - ((pruned l at0).length : Int)), .int .i64 0]) ∧ TabAt w' S p most (pruned l at0) ∧ ButS w.heap.size S w w' := by
  have hmf := mkF
  obtain ⟨bu, h1, h2, h3, h4⟩ := h
  have HTb : Hid (TabAt w S p most l) := ⟨bu, h1, h2, h3, h4⟩
  have HP := Lib.hid h1
  have HM := Lib.hid h2
  have HS3 := Lib.hid h3
  have HNe := Lib.hid h4
  have HT := Lib.hid hT
  have HLe := Lib.hid hlen
  have HSb : Hid (∀ b, S b → b < w.heap.size) := hS
  obtain ⟨n, hn⟩ : ∃ n, n = l.length := ⟨_, rfl⟩
  rw [← hn]
  have HN := Lib.hid hn
  clear h1 h2 h3 h4 hT hlen hS hn
  go_enter Try.func17, Try.ntmps17
  go_wp2_with fail
  obtain ⟨W, hW⟩ : ∃ W, W = w.alloc (.cells #[.func (.func 32) #[.pointer (some ⟨p, 0, none⟩)] #[]] 64) := ⟨_, rfl⟩
  rw [← hW]
  have HB : Hid (Below w.heap.size w W) := by rw [hW]; exact below_al (Below.refl _ _) _
  have HC1 : Hid (W.cell? ⟨w.heap.size, 0, none⟩ = some (.func (.func 32) #[.pointer (some ⟨p, 0, none⟩)] #[]) ∧ w.heap.size < W.heap.size) := by
    rw [Hid, hW]
    constructor
    · simp
    · simp
  clear hW
  refine (serefusal_any w.heap.size [⟨32, #[.pointer (some ⟨p, 0, none⟩)], #[], 0⟩] W (by simp) HC1.out.2 (fun j q hj => by
    cases j with
    | zero => injection hj with hj; subst hj; exact HC1.out.1
    | succ j => cases hj) (asks_one ent_sethere fun X hb => by
      have r := (HP.out.on HB.out HP.out.lt).on hb (Nat.lt_of_lt_of_le HP.out.lt HB.out.size)
      exact sethere_any p bu X (r.1 1 _ rfl))).mono ?_
  rintro e w1 ⟨rfl, hb1⟩
  rw [firstE_one]
  have HB1 := Lib.hid (below_on HB.out hb1)
  clear hb1
  have r1 := HP.out.on HB1.out HP.out.lt
  have m1 : KMap encSg w1 bu l := HM.out.kept (HB1.out.block _ HM.out.lt)
  have c1 := r1.1 1 _ rfl
  have hl1 : (Builtin.len_ #[67] 3 #[.map (some bu)]).run Try.prog w1 = .ok (.int .i64 (l.length : Int)) w1 := m1.len Try.underlying67 _
  clear r1
  rw [← HN.out] at hl1
  go_wp2_with (first
    | (at_range; refine wpList_range_K _ rfl _ 67 rfl _ _ Try.underlying67 bu l rfl m1 ?_; intro o7 hrg)
    | fail)
  go_frame
  obtain ⟨r, hr⟩ : ∃ r, r = w1.heap.size := ⟨_, rfl⟩
  obtain ⟨W7, hW7⟩ : ∃ W, W = w1.alloc o7 := ⟨_, rfl⟩
  rw [← hW7, ← hr] at hrg ⊢
  have HR7 : Hid (RngK encSg W7 bu r l l) := hrg
  have HB7 : Hid (Below w.heap.size w W7) := by rw [Hid, hW7]; exact below_al HB1.out _
  have HZ : Hid (w.heap.size ≤ r) := by rw [Hid, hr]; exact HB1.out.size
  clear hrg hr hW7 m1 hl1 c1
  go_loopw [27] (fun _ wr => ∃ todo lc : List (Sg × Value), RngK encSg wr bu r lc todo ∧ Hid (lc = prunedT l todo at0 ∧ RowB wr p [.int .i64 most, .map (some bu)] ∧ ButS w.heap.size S w wr ∧ todo.Sublist l)) (fun _ wr => wr.rangeLeft bu r)
  case atStart => exact ⟨l, l, HR7.out, (prunedT_all l at0 HM.out.nodup).symm, HP.out.on HB7.out HP.out.lt, ButS.of_below HB7.out, List.Sublist.refl _⟩
  case round =>
    rename_i wr hrel
    obtain ⟨todo, lc, c1, HI⟩ := hrel
    have HC1 := Lib.hid c1
    go_wp2_with (first
      | (at_next; refine wpList_next_K _ rfl _ rfl _ keySg bu r lc todo rfl c1 ?_ ?_)
      | fail)
    · intro ht
      have HT2 := Lib.hid ht
      have hle := HLe.out
      have hn1 := HN.out
      have hm : KMap encSg wr bu (pruned l at0) := by
        have h := c1.map
        rw [HI.out.1, ht, prunedT_end] at h
        exact h
      have cc := HI.out.2.1.1 1 _ rfl
      have hl1 : (Builtin.len_ #[67] 3 #[.map (some bu)]).run Try.prog wr = .ok (.int .i64 ((pruned l at0).length : Int)) wr := hm.len Try.underlying67 _
      have hpl : (pruned l at0).length ≤ n := by rw [hn1]; exact List.length_filter_le _ _
      have HMm := Lib.hid hm
      obtain ⟨k, hk⟩ : ∃ k, k = (pruned l at0).length := ⟨_, rfl⟩
      rw [← hk] at hl1 hpl
      have HK := Lib.hid hk
      have hn2 : n ≤ 1000000 := by omega
      clear ht c1 hm hk hle hn1
      go_wp2_with fail
      go_ret2
      exact ⟨by rw [← HK.out]; rfl, ⟨bu, HI.out.2.1, HMm.out, HS3.out, HNe.out⟩, HI.out.2.2.1⟩
    · intro q v w2 o1 pre post hsp hw1 hrg1 hen
      have hql : (q, v) ∈ l := HI.out.2.2.2.subset (by rw [hsp]; simp)
      have hlq : lk l q = some v := lk_of_mem HM.out.nodup hql
      clear c1
      obtain ⟨We, hWe⟩ : ∃ W, W = setBlock w2 r o1 := ⟨_, rfl⟩
      rw [← hWe] at hrg1 ⊢
      have hrl := HC1.out.rlt
      have hbl : bu < w.heap.size := HM.out.lt
      have hw1h : w2.heap = wr.heap ∧ ButS w.heap.size S w w2 := by
        rcases hw1 with rfl | rfl
        · exact ⟨rfl, HI.out.2.2.1⟩
        · exact ⟨rfl, HI.out.2.2.1.drew⟩
      have HWe : Hid (We.heap.size = wr.heap.size ∧ (∀ j, j ≠ r → We.heap[j]? = wr.heap[j]?) ∧ We.heap[r]? = some o1 ∧ ButS w.heap.size S w We) := by
        rw [Hid, hWe]
        refine ⟨by rw [setBlock_size, hw1h.1], fun j hj => by rw [setBlock_block _ _ _ _ hj, hw1h.1], heap_setBlock (by rw [hw1h.1]; exact hrl) o1, ?_⟩
        exact hw1h.2.setBlock (.inr HZ.out) o1
      have he := hen We (by rw [HWe.out.2.1 bu (by have := HZ.out; omega)]) HWe.out.2.2.1
      unfold encSg at he
      obtain ⟨tv, rfl⟩ := HT.out (q, v) hql
      have hls : ∀ q', lk (pre ++ post) q' = if q' = q then none else lk todo q' := fun q' => by
        have := (HI.out.2.2.2.map (·.1)).nodup HM.out.nodup
        rw [hsp] at this ⊢
        exact lk_split this q'
      have HLs := Lib.hid hls
      have HSP := Lib.hid hsp
      have HVq := Lib.hid hlq
      have hsz := HWe.out.1
      have HWb : Hid (p < wr.heap.size ∧ p ≠ r ∧ bu ≠ r ∧ bu < wr.heap.size ∧ r < wr.heap.size) := by
        have a1 := HP.out.lt
        have a2 := HI.out.2.1.lt
        have a3 := HZ.out
        exact ⟨a2, by omega, by omega, by have := HI.out.2.2.1.size; omega, hrl⟩
      obtain ⟨W8, hW8⟩ : ∃ W, W = We.alloc (.cells #[.int .u32 q.nm.n, .int .u32 q.nm.m, .int .u64 q.nm.t, .int .u32 q.nm.q, .bool q.back, .int .u8 q.cnt] 80) := ⟨_, rfl⟩
      have hk8 : ∀ j, j < We.heap.size → W8.heap[j]? = We.heap[j]? := fun j hj => by rw [hW8]; exact Below.heap_alloc We _ j hj
      have H8 : Hid (RngK encSg W8 bu r lc (pre ++ post) ∧ RowB W8 p [.int .i64 most, .map (some bu)] ∧ ButS w.heap.size S w W8 ∧ RowB W8 wr.heap.size q.cells) := by
        refine ⟨hrg1.kept (hk8 bu (by have := HWb.out; omega)) (hk8 r (by have := HWb.out; omega)), HI.out.2.1.kept ((hk8 p (by have := HWb.out; omega)).trans (HWe.out.2.1 p HWb.out.2.1)), by rw [hW8]; exact HWe.out.2.2.2.alloc (by have := HI.out.2.2.1.size; omega) _, ?_⟩
        have hr := RowB.new We q.cells 80
        rw [hsz] at hr
        rw [hW8]
        exact hr
      have HW8 := Lib.hid hW8
      have HSub : Hid ((pre ++ post).Sublist l) := List.Sublist.trans (by rw [hsp]; exact List.Sublist.append (List.Sublist.refl _) (List.sublist_cons_self _ _)) HI.out.2.2.2
      clear hen hrg1 hsp hlq hw1 hw1h hWe w2 hls hql hk8 hW8
      by_cases hle : tv ≤ at0
      · have hdr : Hid (prunedT l (pre ++ post) at0 = dl (prunedT l todo at0) q) := prunedT_drop HM.out.nodup HVq.out HLs.out (by show ¬ at0 < tv; omega)
        go_upto_region 9 with fail
        rw [← HW8.out]
        have hz8 : W8.heap.size = wr.heap.size + 1 := by rw [HW8.out, World.size_alloc, hsz]
        try rw [hsz]
        obtain ⟨Wd, hWd⟩ : ∃ W, W = W8.drew := ⟨_, rfl⟩
        have HWd := Lib.hid hWd
        obtain ⟨bk, hbk⟩ : ∃ b, b = wr.heap.size := ⟨_, rfl⟩
        rw [← hbk]
        have HSd : Hid (Wd.cell? ⟨p, 1, none⟩ = some (.map (some bu)) ∧ Wd.cell? ⟨bk, 0, none⟩ = some (.int .u32 q.nm.n) ∧ Wd.cell? ⟨bk, 1, none⟩ = some (.int .u32 q.nm.m) ∧ Wd.cell? ⟨bk, 2, none⟩ = some (.int .u64 q.nm.t) ∧ Wd.cell? ⟨bk, 3, none⟩ = some (.int .u32 q.nm.q) ∧ Wd.cell? ⟨bk, 4, none⟩ = some (.bool q.back) ∧ Wd.cell? ⟨bk, 5, none⟩ = some (.int .u8 q.cnt)) := by
          rw [Hid, hWd]
          obtain ⟨a1, a2, a3, a4⟩ := H8.out
          rw [← hbk] at a4
          exact ⟨a2.1 1 _ rfl, a4.1 0 _ rfl, a4.1 1 _ rfl, a4.1 2 _ rfl, a4.1 3 _ rfl, a4.1 4 _ rfl, a4.1 5 _ rfl⟩
        have hrd : RngK encSg Wd bu r lc (pre ++ post) := H8.out.1.kept (by rw [hWd]; rfl) (by rw [hWd]; rfl)
        obtain ⟨od, hdel, hrd2⟩ := hrd.delete keySg encSg_inj Try.underlying67 q 80 0
        unfold encSg at hdel
        have HRd2 : Hid (RngK encSg (setBlock Wd bu od) bu r (prunedT l (pre ++ post) at0) (pre ++ post)) := by
          rw [Hid, hdr.out, ← HI.out.1]
          have : dl (pre ++ post) q = pre ++ post := dl_new fun x hx e => by
            have h1 := HLs.out q
            rw [if_pos rfl] at h1
            exact lk_eq_none h1 (((HSub.out.map (·.1)).nodup HM.out.nodup)) x hx e
          rw [this] at hrd2
          exact hrd2
        have HDo : Hid (RowB (setBlock Wd bu od) p [.int .i64 most, .map (some bu)] ∧ ButS w.heap.size S w (setBlock Wd bu od)) := by
          refine ⟨(H8.out.2.1.kept (by rw [hWd]; rfl)).kept (setBlock_block _ _ _ _ HNe.out), ?_⟩
          refine ButS.setBlock ?_ (.inl HS3.out.2) od
          rw [hWd]
          exact H8.out.2.2.1.drew
        have HSe : Hid ((setBlock Wd bu od).cell? ⟨p, 1, none⟩ = some (.map (some bu)) ∧ (setBlock Wd bu od).cell? ⟨bk, 0, none⟩ = some (.int .u32 q.nm.n) ∧ (setBlock Wd bu od).cell? ⟨bk, 1, none⟩ = some (.int .u32 q.nm.m) ∧ (setBlock Wd bu od).cell? ⟨bk, 2, none⟩ = some (.int .u64 q.nm.t) ∧ (setBlock Wd bu od).cell? ⟨bk, 3, none⟩ = some (.int .u32 q.nm.q) ∧ (setBlock Wd bu od).cell? ⟨bk, 4, none⟩ = some (.bool q.back) ∧ (setBlock Wd bu od).cell? ⟨bk, 5, none⟩ = some (.int .u8 q.cnt)) := by
          have hcell : ∀ (b i : Nat), b ≠ bu → (setBlock Wd bu od).cell? ⟨b, i, none⟩ = Wd.cell? ⟨b, i, none⟩ := fun b i hb => setBlock_cell Wd bu od ⟨b, i, none⟩ hb
          have hbb : bk ≠ bu := by rw [hbk]; have := HWb.out; omega
          rw [Hid, hcell p 1 HNe.out, hcell bk 0 hbb, hcell bk 1 hbb, hcell bk 2 hbb, hcell bk 3 hbb, hcell bk 4 hbb, hcell bk 5 hbb]
          exact HSd.out
        clear hWd hrd hrd2 hle hbk
        refine wp_region_T (fun X => X.cell? ⟨p, 1, none⟩ = some (.map (some bu)) ∧ X.cell? ⟨bk, 0, none⟩ = some (.int .u32 q.nm.n) ∧ X.cell? ⟨bk, 1, none⟩ = some (.int .u32 q.nm.m) ∧ X.cell? ⟨bk, 2, none⟩ = some (.int .u64 q.nm.t) ∧ X.cell? ⟨bk, 3, none⟩ = some (.int .u32 q.nm.q) ∧ X.cell? ⟨bk, 4, none⟩ = some (.bool q.back) ∧ X.cell? ⟨bk, 5, none⟩ = some (.int .u8 q.cnt)) 6 (by kernel_rfl) ?_
        rw [← HWd.out]
        refine wpAnyT_take (i := 0) (v := ?_) rfl (by kernel_rfl) (by kernel_rfl) (by kernel_rfl) (by kernel_rfl) (fun _ _ _ h => h) (Or.inl ⟨by rfl, ?_⟩) HSd.out ?_
        rotate_left
        · intro w hSw
          (try dsimp only at hSw)
          go_simp
          all_goals with_reducible rfl
        simp only [Act.put, List.setIfInBounds_toArray, List.set_cons_zero, List.set_cons_succ]
        refine wpAnyT_take (i := 1) (v := ?_) rfl (by kernel_rfl) (by kernel_rfl) (by kernel_rfl) (by kernel_rfl) (fun _ _ _ h => h) (Or.inl ⟨by rfl, ?_⟩) HSd.out ?_
        rotate_left
        · intro w hSw
          (try dsimp only at hSw)
          go_simp
          all_goals with_reducible rfl
        simp only [Act.put, List.setIfInBounds_toArray, List.set_cons_zero, List.set_cons_succ]
        refine wpAnyT_take (i := 2) (v := ?_) rfl (by kernel_rfl) (by kernel_rfl) (by kernel_rfl) (by kernel_rfl) (fun _ _ _ h => h) (Or.inl ⟨by rfl, ?_⟩) HSd.out ?_
        rotate_left
        · intro w hSw
          (try dsimp only at hSw)
          go_simp
          all_goals with_reducible rfl
        simp only [Act.put, List.setIfInBounds_toArray, List.set_cons_zero, List.set_cons_succ]
        refine wpAnyT_take (i := 3) (v := ?_) rfl (by kernel_rfl) (by kernel_rfl) (by kernel_rfl) (by kernel_rfl) (fun _ _ _ h => h) (Or.inl ⟨by rfl, ?_⟩) HSd.out ?_
        rotate_left
        · intro w hSw
          (try dsimp only at hSw)
          go_simp
          all_goals with_reducible rfl
        simp only [Act.put, List.setIfInBounds_toArray, List.set_cons_zero, List.set_cons_succ]
        refine wpAnyT_take (i := 4) (v := ?_) rfl (by kernel_rfl) (by kernel_rfl) (by kernel_rfl) (by kernel_rfl) (fun _ _ _ h => h) (Or.inl ⟨by rfl, ?_⟩) HSd.out ?_
        rotate_left
        · intro w hSw
          (try dsimp only at hSw)
          go_simp
          all_goals with_reducible rfl
        simp only [Act.put, List.setIfInBounds_toArray, List.set_cons_zero, List.set_cons_succ]
        refine wpAnyT_one (i := 5) (by kernel_rfl) rfl (fun K hK => ?_)
        go_simp
        refine hK.out _ _ (fun _ => HSe.out) ?_
        clear hK K
        try simp only [Act.put, List.setIfInBounds_toArray, List.set_cons_zero, List.set_cons_succ]
        refine wpAnyT_done (by kernel_rfl) ?_ _
        go_wp2_with fail
        go_roundw
        case rel => exact ⟨pre ++ post, _, HRd2.out, rfl, HDo.out.1, HDo.out.2, HSub.out⟩
        case measure =>
          rw [HRd2.out.left, HC1.out.left, HSP.out]
          simp
      · have hke : Hid (prunedT l (pre ++ post) at0 = prunedT l todo at0) := prunedT_keep HM.out.nodup HVq.out HLs.out (by show at0 < tv; omega)
        have HR9 : Hid (RngK encSg W8 bu r (prunedT l (pre ++ post) at0) (pre ++ post)) := by
          rw [Hid, hke.out, ← HI.out.1]
          exact H8.out.1
        go_wp2_with fail
        rw [← HW8.out]
        go_roundw
        case rel => exact ⟨pre ++ post, _, HR9.out, rfl, H8.out.2.1, H8.out.2.2.1, HSub.out⟩
        case measure =>
          rw [HR9.out.left, HC1.out.left, HSP.out]
          simp

set_option maxHeartbeats 2000000 in
theorem selen_any (S : Nat → Prop) (p : Nat) (most : Int) (l : List (Sg × Value)) (w : World) (h : TabAt w S p most l) :
    Calls Try.prog 21 #[.pointer (some ⟨p, 0, none⟩)] w fun e w' => e = .returned (.tuple #[.int .i64 (l.length : Int), .int .i64 most]) ∧ Below w.heap.size w w' := by
  obtain ⟨bu, h1, h2, _⟩ := h
  obtain ⟨n, hn⟩ : ∃ n : Int, n = (l.length : Int) := ⟨_, rfl⟩
  have c0 : ∀ k, (w.drewN k).cell? ⟨p, 0, none⟩ = some (.int .i64 most) := fun _ => h1.1 0 _ rfl
  have c1 : ∀ k, (w.drewN k).cell? ⟨p, 1, none⟩ = some (.map (some bu)) := fun _ => h1.1 1 _ rfl
  have hl : ∀ k, (Builtin.len_ #[67] 3 #[.map (some bu)]).run Try.prog (w.drewN k) = .ok (.int .i64 n) (w.drewN k) := fun k => by
    have : KMap encSg (w.drewN k) bu l := h2.kept rfl
    rw [hn]
    exact this.len Try.underlying67 _
  rw [← hn]
  clear h1 h2 hn
  go_enter Try.func21, Try.ntmps21
  go_upto_region 1 with fail
  go_quiet (first
    | (go_at_call 37; exact Calls.quiet_of_same (sehere_any p bu _ (c1 _))))
  go_wp2_with fail
  go_ret2
  exact ⟨rfl, below_dr (Below.refl _ _) _⟩

end Go.Proofs.Ytdnjoohicbdmiaa
