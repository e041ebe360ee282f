/- The law of a primary's bytes, walked. -/
import Derived.Test.YtlmdbeccfoncpaaGreatDoorZMb
import Derived.Test.YtlmdbeccfoncpaaGreatDoorZMc
namespace Go.Proofs.YtlmdbeccfoncpaaGreatDoor
open Go Go.RowKit Go.Shelf
set_option linter.unusedSimpArgs false
set_option linter.unusedVariables false
set_option maxRecDepth 100000

attribute [local go_sem] Oper.semAt_some
attribute [local go_sem high] eqP_run

set_option maxHeartbeats 16000000 in
theorem walk_pblocks (p : Pm) (hp : p.ok) (w : World) (ht : TabW w) :
    Calls Tryz.prog 3 #[.agg #[.int .u32 p.f, .int .i64 p.s, .int .u32 p.tn, .int .u32 p.tm, .int .u32 p.sn, .int .u32 p.sm, .int .u32 p.rn, .int .u32 p.rm, .int .u64 p.t, .int .u32 p.q, .int .u64 p.l]] w fun e w' => e = .returned (.bool true) ∧ Below w.heap.size w w' := by
  obtain ⟨W, hW⟩ : ∃ W, W = w.alloc (.cells #[.int .u32 p.f, .int .i64 p.s, .int .u32 p.tn, .int .u32 p.tm, .int .u32 p.sn, .int .u32 p.sm, .int .u32 p.rn, .int .u32 p.rm, .int .u64 p.t, .int .u32 p.q, .int .u64 p.l] 28) := ⟨_, rfl⟩
  have HB0 : Hid (Below w.heap.size w W) := by rw [hW]; exact below_al (Below.refl _ _) _
  have HX : Hid (∀ w', Below W.heap.size W w' → (w'.cell? ⟨w.heap.size, 0, none⟩ = some (.int .u32 p.f) ∧ w'.cell? ⟨w.heap.size, 1, none⟩ = some (.int .i64 p.s) ∧ w'.cell? ⟨w.heap.size, 2, none⟩ = some (.int .u32 p.tn) ∧ w'.cell? ⟨w.heap.size, 3, none⟩ = some (.int .u32 p.tm) ∧ w'.cell? ⟨w.heap.size, 4, none⟩ = some (.int .u32 p.sn) ∧ w'.cell? ⟨w.heap.size, 5, none⟩ = some (.int .u32 p.sm) ∧ w'.cell? ⟨w.heap.size, 6, none⟩ = some (.int .u32 p.rn) ∧ w'.cell? ⟨w.heap.size, 7, none⟩ = some (.int .u32 p.rm) ∧ w'.cell? ⟨w.heap.size, 8, none⟩ = some (.int .u64 p.t) ∧ w'.cell? ⟨w.heap.size, 9, none⟩ = some (.int .u32 p.q) ∧ w'.cell? ⟨w.heap.size, 10, none⟩ = some (.int .u64 p.l))) := fun w' h => by
    rw [hW] at h
    exact pbox h
  have HT : Hid (∀ w', Below w.heap.size w w' → TabW w') := fun w' h => ht.on h
  have HP := Lib.hid hp
  have HW := Lib.hid hW
  clear hW ht hp
  obtain ⟨x0, x1, x2, x3, x4, x5, x6, x7, x8, x9, x10⟩ := HX.out W (Below.refl _ _)
  rw [HW.out] at x0 x1 x2 x3 x4 x5 x6 x7 x8 x9 x10
  go_enter Tryz.func3, Tryz.ntmps3
  go_wp2_with fail
  clear x0 x1 x2 x3 x4 x5 x6 x7 x8 x9 x10
  rw [← HW.out]
  refine (prEncodeR_any p HP.out W (HT.out W HB0.out)).mono ?_
  rintro e w1 ⟨hb1, hm⟩
  have HbW1 := Lib.hid hb1
  have HB1 := Lib.hid (below_on HB0.out hb1)
  obtain ⟨er, her⟩ : ∃ er, er = p.er := ⟨_, rfl⟩
  obtain ⟨rb, hrb⟩ : ∃ rb, rb = p.right := ⟨_, rfl⟩
  have HER : Hid (er = if rb = true then 0 else 2) := by rw [hrb]; exact her
  have HRB := Lib.hid hrb
  have HCk : Hid (∀ w, Calls Tryz.prog 7 #[.agg #[.int .u32 p.f, .int .i64 p.s, .int .u32 p.tn, .int .u32 p.tm, .int .u32 p.sn, .int .u32 p.sm, .int .u32 p.rn, .int .u32 p.rm, .int .u64 p.t, .int .u32 p.q, .int .u64 p.l]] w fun e w' => e = .returned (.int .i64 er) ∧ Below w.heap.size w w') := fun w => by rw [her]; exact prcheck_any p HP.out w
  have HRr : Hid (∀ w, Calls Tryz.prog 8 #[.agg #[.int .u32 p.f, .int .i64 p.s, .int .u32 p.tn, .int .u32 p.tm, .int .u32 p.sn, .int .u32 p.sm, .int .u32 p.rn, .int .u32 p.rm, .int .u64 p.t, .int .u32 p.q, .int .u64 p.l]] w fun e w' => e = .returned (.bool rb) ∧ Below w.heap.size w w') := fun w => by rw [hrb]; exact rRight_any p HP.out w
  have HM := Lib.hid hm
  rcases HM.out with ⟨hr, u, rfl, hown⟩ | ⟨hr, rfl⟩
  rotate_left
  · have hr2 : er = 2 := by rw [HER.out, hrb, hr]; rfl
    have hrf : rb = false := by rw [hrb]; exact hr
    subst hr2
    subst hrf
    clear hm her hrb hr HM
    obtain ⟨x0, x1, x2, x3, x4, x5, x6, x7, x8, x9, x10⟩ := HX.out w1 hb1
    clear hb1
    go_wp2_with fail
    refine (HCk.out _).mono ?_
    rintro e w2 ⟨rfl, hb2⟩
    clear x0 x1 x2 x3 x4 x5 x6 x7 x8 x9 x10
    obtain ⟨x0, x1, x2, x3, x4, x5, x6, x7, x8, x9, x10⟩ := HX.out w2 (below_on HbW1.out hb2)
    have HB2 := Lib.hid (below_on HB1.out hb2)
    clear hb2
    go_wp2_with fail
    refine (HRr.out _).mono ?_
    rintro e w3 ⟨rfl, hb3⟩
    have HB3 := Lib.hid (below_on HB2.out hb3)
    clear hb3 x0 x1 x2 x3 x4 x5 x6 x7 x8 x9 x10
    go_wp2_with fail
    refine (num6_any 2 _).mono ?_
    rintro e w4 ⟨rfl, rfl⟩
    go_wp2_with fail
    refine (num6_any 2 _).mono ?_
    rintro e w4 ⟨rfl, rfl⟩
    go_wp2_with fail
    refine (prWorks_any _ (HT.out _ HB3.out)).mono ?_
    rintro e w4 ⟨rfl, hb4⟩
    have HB4 := Lib.hid (below_on HB3.out hb4)
    clear hb4
    go_wp2_with fail
    go_ret
    exact ⟨rfl, HB4.out⟩
  have hr2 : er = 0 := by rw [HER.out, hrb, hr]; rfl
  have hrt : rb = true := by rw [hrb]; exact hr
  subst hr2
  subst hrt
  obtain ⟨ss, hss⟩ : ∃ ss, ss = encP p p.s.toNat := ⟨_, rfl⟩
  have hrd := rdBy_enc p HP.out hr
  rw [← hss] at hown hrd
  have hlen : ss.length ≤ 404 := by
    have h1 := preB_len p p.s.toNat
    have h2 := wdN_le4 p.s.toNat
    rw [hss, encP_len]
    omega
  have hpos : 0 < ss.length := by
    rw [hss, encP_len]
    have h1 : 1 ≤ (preB p p.s.toNat).length := by
      unfold preB
      split
      · rw [List.length_append]
        have := (head_length 4 (8 : Nat)).1
        omega
      · rw [List.length_append]
        have := (head_length 4 (9 : Nat)).1
        omega
    omega
  obtain ⟨G, C, rfl, hG2⟩ : ∃ G C, u = .slice (some ⟨G, 0, none⟩) ss.length C ∧ G < w1.heap.size := by
    rcases hown.form with ⟨_, h⟩ | ⟨g, cap, h, hg1, hg2, _⟩
    · have := congrArg List.length h
      simp at this
      rw [this] at hpos
      simp at hpos
    · rw [List.length_map] at h
      exact ⟨g, cap, h, hg2⟩
  have hC : ss.length ≤ C := by
    obtain ⟨A, C', h1, h2, _, _⟩ := hown.bytes
    injection h1 with _ _ h3
    omega
  have HRd := Lib.hid hrd
  have HR := Lib.hid hr
  have HSS := Lib.hid hss
  obtain ⟨L, hL⟩ : ∃ L, L = ss.length := ⟨_, rfl⟩
  have hL404 : L ≤ 404 := by omega
  have HC : Hid (ss.length ≤ C) := hC
  have HLn := Lib.hid hL
  have HRb : Hid (RdB w1 w1.heap.size (some ⟨G, 0, none⟩) ss) := RdB.of_own hown
  rw [← hL]
  clear hown hrd hr hss hlen hpos hC hL hG2 hm her hrb HM
  obtain ⟨x0, x1, x2, x3, x4, x5, x6, x7, x8, x9, x10⟩ := HX.out w1 hb1
  clear hb1
  go_wp2_with fail
  refine (HCk.out _).mono ?_
  rintro e w2 ⟨rfl, hb2⟩
  clear x0 x1 x2 x3 x4 x5 x6 x7 x8 x9 x10
  obtain ⟨x0, x1, x2, x3, x4, x5, x6, x7, x8, x9, x10⟩ := HX.out w2 (below_on HbW1.out hb2)
  have HB2 := Lib.hid (below_on HB1.out hb2)
  have HbW2 := Lib.hid (below_on HbW1.out hb2)
  have HRb2 : Hid (RdB w2 w2.heap.size (some ⟨G, 0, none⟩) ss) := (HRb.out.below hb2).mono hb2.size
  clear hb2
  go_wp2_with fail
  refine (HRr.out _).mono ?_
  rintro e w3 ⟨rfl, hb3⟩
  have HB3 := Lib.hid (below_on HB2.out hb3)
  have HbW3 := Lib.hid (below_on HbW2.out hb3)
  have HRb3 : Hid (RdB w3 w3.heap.size (some ⟨G, 0, none⟩) ss) := (HRb2.out.below hb3).mono hb3.size
  clear hb3 x0 x1 x2 x3 x4 x5 x6 x7 x8 x9 x10
  go_wp2_with fail
  refine (prDecode_any (some ⟨G, 0, none⟩) L C ss HLn.out w3 HRb3.out (by have := HC.out; have := HLn.out; omega) (by have := HLn.out; omega) (HT.out w3 HB3.out)).mono ?_
  rintro e w4 ⟨hb4, hm⟩
  rw [HRd.out] at hm
  have hm : e = .returned (.tuple #[.agg #[.int .u32 p.f, .int .i64 p.s, .int .u32 p.tn, .int .u32 p.tm, .int .u32 p.sn, .int .u32 p.sm, .int .u32 p.rn, .int .u32 p.rm, .int .u64 p.t, .int .u32 p.q, .int .u64 p.l], .int .i64 0]) := hm
  subst hm
  obtain ⟨w5, hw5⟩ : ∃ w5, w5 = w4.alloc (.cells #[.int .u32 p.f, .int .i64 p.s, .int .u32 p.tn, .int .u32 p.tm, .int .u32 p.sn, .int .u32 p.sm, .int .u32 p.rn, .int .u32 p.rm, .int .u64 p.t, .int .u32 p.q, .int .u64 p.l] 28) := ⟨_, rfl⟩
  have hb5 : Below w4.heap.size w4 w5 := by rw [hw5]; exact below_al (Below.refl _ _) _
  have HB5 := Lib.hid (below_on HB3.out (below_on hb4 hb5))
  have HbW5 := Lib.hid (below_on HbW3.out (below_on hb4 hb5))
  have HRb5 : Hid (RdB w5 w5.heap.size (some ⟨G, 0, none⟩) ss) := (HRb3.out.below (below_on hb4 hb5)).mono (below_on hb4 hb5).size
  have HQ : Hid (∀ w', Below w5.heap.size w5 w' → (w'.cell? ⟨w4.heap.size, 0, none⟩ = some (.int .u32 p.f) ∧ w'.cell? ⟨w4.heap.size, 1, none⟩ = some (.int .i64 p.s) ∧ w'.cell? ⟨w4.heap.size, 2, none⟩ = some (.int .u32 p.tn) ∧ w'.cell? ⟨w4.heap.size, 3, none⟩ = some (.int .u32 p.tm) ∧ w'.cell? ⟨w4.heap.size, 4, none⟩ = some (.int .u32 p.sn) ∧ w'.cell? ⟨w4.heap.size, 5, none⟩ = some (.int .u32 p.sm) ∧ w'.cell? ⟨w4.heap.size, 6, none⟩ = some (.int .u32 p.rn) ∧ w'.cell? ⟨w4.heap.size, 7, none⟩ = some (.int .u32 p.rm) ∧ w'.cell? ⟨w4.heap.size, 8, none⟩ = some (.int .u64 p.t) ∧ w'.cell? ⟨w4.heap.size, 9, none⟩ = some (.int .u32 p.q) ∧ w'.cell? ⟨w4.heap.size, 10, none⟩ = some (.int .u64 p.l))) := fun w' h => by
    rw [hw5] at h
    exact pbox h
  have HS : Hid (∀ w', Below w5.heap.size w5 w' → (w'.cell? ⟨w.heap.size, 0, none⟩ = some (.int .u32 p.f) ∧ w'.cell? ⟨w.heap.size, 1, none⟩ = some (.int .i64 p.s) ∧ w'.cell? ⟨w.heap.size, 2, none⟩ = some (.int .u32 p.tn) ∧ w'.cell? ⟨w.heap.size, 3, none⟩ = some (.int .u32 p.tm) ∧ w'.cell? ⟨w.heap.size, 4, none⟩ = some (.int .u32 p.sn) ∧ w'.cell? ⟨w.heap.size, 5, none⟩ = some (.int .u32 p.sm) ∧ w'.cell? ⟨w.heap.size, 6, none⟩ = some (.int .u32 p.rn) ∧ w'.cell? ⟨w.heap.size, 7, none⟩ = some (.int .u32 p.rm) ∧ w'.cell? ⟨w.heap.size, 8, none⟩ = some (.int .u64 p.t) ∧ w'.cell? ⟨w.heap.size, 9, none⟩ = some (.int .u32 p.q) ∧ w'.cell? ⟨w.heap.size, 10, none⟩ = some (.int .u64 p.l)) ∧ (w'.cell? ⟨w4.heap.size, 0, none⟩ = some (.int .u32 p.f) ∧ w'.cell? ⟨w4.heap.size, 1, none⟩ = some (.int .i64 p.s) ∧ w'.cell? ⟨w4.heap.size, 2, none⟩ = some (.int .u32 p.tn) ∧ w'.cell? ⟨w4.heap.size, 3, none⟩ = some (.int .u32 p.tm) ∧ w'.cell? ⟨w4.heap.size, 4, none⟩ = some (.int .u32 p.sn) ∧ w'.cell? ⟨w4.heap.size, 5, none⟩ = some (.int .u32 p.sm) ∧ w'.cell? ⟨w4.heap.size, 6, none⟩ = some (.int .u32 p.rn) ∧ w'.cell? ⟨w4.heap.size, 7, none⟩ = some (.int .u32 p.rm) ∧ w'.cell? ⟨w4.heap.size, 8, none⟩ = some (.int .u64 p.t) ∧ w'.cell? ⟨w4.heap.size, 9, none⟩ = some (.int .u32 p.q) ∧ w'.cell? ⟨w4.heap.size, 10, none⟩ = some (.int .u64 p.l)) ∧ (convert 29 9 (.slice (some ⟨G, 0, none⟩) L C)).run Tryz.prog w' = .ok (.string ⟨ss.toArray⟩) w') := fun w' h => ⟨HX.out w' (below_on HbW5.out h), HQ.out w' h,
    (HRb5.out.below h).text (P := Tryz.prog) 29 9 5 L C HLn.out Tryz.underlying29 Tryz.underlying5 Tryz.underlying9⟩
  have HW5 := Lib.hid hw5
  clear hb4 hb5 hw5 hm
  go_wp2_with fail
  rw [← HW5.out]
  have F : Below w5.heap.size w5 w5.drew := (Below.refl _ _).drew
  refine wp_region_held_drew (S := fun w' => (w'.cell? ⟨w.heap.size, 0, none⟩ = some (.int .u32 p.f) ∧ w'.cell? ⟨w.heap.size, 1, none⟩ = some (.int .i64 p.s) ∧ w'.cell? ⟨w.heap.size, 2, none⟩ = some (.int .u32 p.tn) ∧ w'.cell? ⟨w.heap.size, 3, none⟩ = some (.int .u32 p.tm) ∧ w'.cell? ⟨w.heap.size, 4, none⟩ = some (.int .u32 p.sn) ∧ w'.cell? ⟨w.heap.size, 5, none⟩ = some (.int .u32 p.sm) ∧ w'.cell? ⟨w.heap.size, 6, none⟩ = some (.int .u32 p.rn) ∧ w'.cell? ⟨w.heap.size, 7, none⟩ = some (.int .u32 p.rm) ∧ w'.cell? ⟨w.heap.size, 8, none⟩ = some (.int .u64 p.t) ∧ w'.cell? ⟨w.heap.size, 9, none⟩ = some (.int .u32 p.q) ∧ w'.cell? ⟨w.heap.size, 10, none⟩ = some (.int .u64 p.l)) ∧ (w'.cell? ⟨w4.heap.size, 0, none⟩ = some (.int .u32 p.f) ∧ w'.cell? ⟨w4.heap.size, 1, none⟩ = some (.int .i64 p.s) ∧ w'.cell? ⟨w4.heap.size, 2, none⟩ = some (.int .u32 p.tn) ∧ w'.cell? ⟨w4.heap.size, 3, none⟩ = some (.int .u32 p.tm) ∧ w'.cell? ⟨w4.heap.size, 4, none⟩ = some (.int .u32 p.sn) ∧ w'.cell? ⟨w4.heap.size, 5, none⟩ = some (.int .u32 p.sm) ∧ w'.cell? ⟨w4.heap.size, 6, none⟩ = some (.int .u32 p.rn) ∧ w'.cell? ⟨w4.heap.size, 7, none⟩ = some (.int .u32 p.rm) ∧ w'.cell? ⟨w4.heap.size, 8, none⟩ = some (.int .u64 p.t) ∧ w'.cell? ⟨w4.heap.size, 9, none⟩ = some (.int .u32 p.q) ∧ w'.cell? ⟨w4.heap.size, 10, none⟩ = some (.int .u64 p.l)) ∧ (convert 29 9 (.slice (some ⟨G, 0, none⟩) L C)).run Tryz.prog w' = .ok (.string ⟨ss.toArray⟩) w') (by kernel_rfl) (HS.out _ F) (fun hHeld => ?_)
  refine take_listed (i := 0) (v := ?_) rfl (by kernel_rfl) (by kernel_rfl) (by kernel_rfl) (fun _ _ _ h => h) (Or.inl ⟨by rfl, ?_⟩) (by assumption) ?_
  rotate_left
  · intro w hSw
    (try dsimp only at hSw)
    go_simp
    all_goals with_reducible rfl
  simp only [Act.put, List.setIfInBounds_toArray, List.set_cons_zero, List.set_cons_succ]
  refine take_listed (i := 1) (v := ?_) rfl (by kernel_rfl) (by kernel_rfl) (by kernel_rfl) (fun _ _ _ h => h) (Or.inl ⟨by rfl, ?_⟩) (by assumption) ?_
  rotate_left
  · intro w hSw
    (try dsimp only at hSw)
    go_simp
    all_goals with_reducible rfl
  simp only [Act.put, List.setIfInBounds_toArray, List.set_cons_zero, List.set_cons_succ]
  refine take_listed (i := 2) (v := ?_) rfl (by kernel_rfl) (by kernel_rfl) (by kernel_rfl) (fun _ _ _ h => h) (Or.inl ⟨by rfl, ?_⟩) (by assumption) ?_
  rotate_left
  · intro w hSw
    (try dsimp only at hSw)
    go_simp
    all_goals with_reducible rfl
  simp only [Act.put, List.setIfInBounds_toArray, List.set_cons_zero, List.set_cons_succ]
  refine wpAnyH_ready (rs := [3]) (by kernel_rfl) (by simp) ?_
  refine AllReadyH.cons rfl (fun K hK => ?_) AllReadyH.nil
  go_simp
  refine (rEncode_any p HP.out HR.out _).mono ?_
  rintro e w6 ⟨u, rfl, hown, hb⟩
  obtain ⟨aR, cR, rfl, _, hrR, _⟩ := hown.bytes
  rw [← HSS.out] at hrR
  have hlR : (encP p p.s.toNat).length = L := by rw [← HSS.out]; exact HLn.out.symm
  rw [hlR]
  have kR := hrR.text (P := Tryz.prog) 29 9 5 L cR HLn.out Tryz.underlying29 Tryz.underlying5 Tryz.underlying9
  replace F := below_on F hb
  clear hown hrR hb hlR
  refine hK.out _ _ (HS.out _ F) (fun hHeld => ?_)
  clear hK K
  try simp only [Act.put, List.setIfInBounds_toArray, List.set_cons_zero, List.set_cons_succ]
  refine wpAnyH_ready (rs := [4]) (by kernel_rfl) (by simp) ?_
  refine AllReadyH.cons rfl (fun K hK => ?_) AllReadyH.nil
  go_simp
  clear kR
  refine hK.out _ _ (HS.out _ F) (fun hHeld => ?_)
  clear hK K
  try simp only [Act.put, List.setIfInBounds_toArray, List.set_cons_zero, List.set_cons_succ]
  refine take_listed (i := 5) (v := ?_) rfl (by kernel_rfl) (by kernel_rfl) (by kernel_rfl) (fun _ _ _ h => h) (Or.inl ⟨by rfl, ?_⟩) (by assumption) ?_
  rotate_left
  · intro w hSw
    (try dsimp only at hSw)
    go_simp
    all_goals with_reducible rfl
  simp only [Act.put, List.setIfInBounds_toArray, List.set_cons_zero, List.set_cons_succ]
  refine take_listed (i := 6) (v := ?_) rfl (by kernel_rfl) (by kernel_rfl) (by kernel_rfl) (fun _ _ _ h => h) (Or.inl ⟨by rfl, ?_⟩) (by assumption) ?_
  rotate_left
  · intro w hSw
    (try dsimp only at hSw)
    go_simp
    all_goals with_reducible rfl
  simp only [Act.put, List.setIfInBounds_toArray, List.set_cons_zero, List.set_cons_succ]
  refine take_listed (i := 7) (v := ?_) rfl (by kernel_rfl) (by kernel_rfl) (by kernel_rfl) (fun _ _ _ h => h) (Or.inl ⟨by rfl, ?_⟩) (by assumption) ?_
  rotate_left
  · intro w hSw
    (try dsimp only at hSw)
    go_simp
    all_goals with_reducible rfl
  simp only [Act.put, List.setIfInBounds_toArray, List.set_cons_zero, List.set_cons_succ]
  refine take_listed (i := 9) (v := ?_) rfl (by kernel_rfl) (by kernel_rfl) (by kernel_rfl) (fun _ _ _ h => h) (Or.inl ⟨by rfl, ?_⟩) (by assumption) ?_
  rotate_left
  · intro w hSw
    (try dsimp only at hSw)
    go_simp
    all_goals with_reducible rfl
  simp only [Act.put, List.setIfInBounds_toArray, List.set_cons_zero, List.set_cons_succ]
  refine take_listed (i := 12) (v := ?_) rfl (by kernel_rfl) (by kernel_rfl) (by kernel_rfl) (fun _ _ _ h => h) (Or.inl ⟨by rfl, ?_⟩) (by assumption) ?_
  rotate_left
  · intro w hSw
    (try dsimp only at hSw)
    go_simp
    all_goals with_reducible rfl
  simp only [Act.put, List.setIfInBounds_toArray, List.set_cons_zero, List.set_cons_succ]
  refine wpAnyH_ready (rs := [8]) (by kernel_rfl) (by simp) ?_
  refine AllReadyH.cons rfl (fun K hK => ?_) AllReadyH.nil
  go_simp
  refine (num6_any 0 _).mono ?_
  rintro e wz ⟨rfl, rfl⟩
  refine hK.out _ _ (HS.out _ F) (fun hHeld => ?_)
  clear hK K
  try simp only [Act.put, List.setIfInBounds_toArray, List.set_cons_zero, List.set_cons_succ]
  refine wpAnyH_ready (rs := [10]) (by kernel_rfl) (by simp) ?_
  refine AllReadyH.cons rfl (fun K hK => ?_) AllReadyH.nil
  go_simp
  refine (num6_any 0 _).mono ?_
  rintro e wz ⟨rfl, rfl⟩
  refine hK.out _ _ (HS.out _ F) (fun hHeld => ?_)
  clear hK K
  try simp only [Act.put, List.setIfInBounds_toArray, List.set_cons_zero, List.set_cons_succ]
  refine take_listed (i := 11) (v := ?_) rfl (by kernel_rfl) (by kernel_rfl) (by kernel_rfl) (fun _ _ _ h => h) (Or.inl ⟨by rfl, ?_⟩) (by assumption) ?_
  rotate_left
  · intro w hSw
    (try dsimp only at hSw)
    go_simp
    all_goals with_reducible rfl
  simp only [Act.put, List.setIfInBounds_toArray, List.set_cons_zero, List.set_cons_succ]
  refine wpAnyH_ready (rs := [13]) (by kernel_rfl) (by simp) ?_
  refine AllReadyH.cons rfl (fun K hK => ?_) AllReadyH.nil
  go_simp
  refine (num6_any 0 _).mono ?_
  rintro e wz ⟨rfl, rfl⟩
  refine hK.out _ _ (HS.out _ F) (fun hHeld => ?_)
  clear hK K
  try simp only [Act.put, List.setIfInBounds_toArray, List.set_cons_zero, List.set_cons_succ]
  refine take_listed (i := 14) (v := ?_) rfl (by kernel_rfl) (by kernel_rfl) (by kernel_rfl) (fun _ _ _ h => h) (Or.inl ⟨by rfl, ?_⟩) (by assumption) ?_
  rotate_left
  · intro w hSw
    (try dsimp only at hSw)
    go_simp
    all_goals with_reducible rfl
  simp only [Act.put, List.setIfInBounds_toArray, List.set_cons_zero, List.set_cons_succ]
  refine take_listed (i := 15) (v := ?_) rfl (by kernel_rfl) (by kernel_rfl) (by kernel_rfl) (fun _ _ _ h => h) (Or.inl ⟨by rfl, ?_⟩) (by assumption) ?_
  rotate_left
  · intro w hSw
    (try dsimp only at hSw)
    go_simp
    all_goals with_reducible rfl
  simp only [Act.put, List.setIfInBounds_toArray, List.set_cons_zero, List.set_cons_succ]
  refine take_listed (i := 16) (v := ?_) rfl (by kernel_rfl) (by kernel_rfl) (by kernel_rfl) (fun _ _ _ h => h) (Or.inl ⟨by rfl, ?_⟩) (by assumption) ?_
  rotate_left
  · intro w hSw
    (try dsimp only at hSw)
    go_simp
    all_goals with_reducible rfl
  simp only [Act.put, List.setIfInBounds_toArray, List.set_cons_zero, List.set_cons_succ]
  refine take_listed (i := 17) (v := ?_) rfl (by kernel_rfl) (by kernel_rfl) (by kernel_rfl) (fun _ _ _ h => h) (Or.inl ⟨by rfl, ?_⟩) (by assumption) ?_
  rotate_left
  · intro w hSw
    (try dsimp only at hSw)
    go_simp
    all_goals with_reducible rfl
  simp only [Act.put, List.setIfInBounds_toArray, List.set_cons_zero, List.set_cons_succ]
  refine take_listed (i := 18) (v := ?_) rfl (by kernel_rfl) (by kernel_rfl) (by kernel_rfl) (fun _ _ _ h => h) (Or.inl ⟨by rfl, ?_⟩) (by assumption) ?_
  rotate_left
  · intro w hSw
    (try dsimp only at hSw)
    go_simp
    all_goals with_reducible rfl
  simp only [Act.put, List.setIfInBounds_toArray, List.set_cons_zero, List.set_cons_succ]
  refine take_listed (i := 19) (v := ?_) rfl (by kernel_rfl) (by kernel_rfl) (by kernel_rfl) (fun _ _ _ h => h) (Or.inl ⟨by rfl, ?_⟩) (by assumption) ?_
  rotate_left
  · intro w hSw
    (try dsimp only at hSw)
    go_simp
    all_goals with_reducible rfl
  simp only [Act.put, List.setIfInBounds_toArray, List.set_cons_zero, List.set_cons_succ]
  refine take_listed (i := 20) (v := ?_) rfl (by kernel_rfl) (by kernel_rfl) (by kernel_rfl) (fun _ _ _ h => h) (Or.inl ⟨by rfl, ?_⟩) (by assumption) ?_
  rotate_left
  · intro w hSw
    (try dsimp only at hSw)
    go_simp
    all_goals with_reducible rfl
  simp only [Act.put, List.setIfInBounds_toArray, List.set_cons_zero, List.set_cons_succ]
  refine take_listed (i := 21) (v := ?_) rfl (by kernel_rfl) (by kernel_rfl) (by kernel_rfl) (fun _ _ _ h => h) (Or.inl ⟨by rfl, ?_⟩) (by assumption) ?_
  rotate_left
  · intro w hSw
    (try dsimp only at hSw)
    go_simp
    all_goals with_reducible rfl
  simp only [Act.put, List.setIfInBounds_toArray, List.set_cons_zero, List.set_cons_succ]
  refine take_listed (i := 22) (v := ?_) rfl (by kernel_rfl) (by kernel_rfl) (by kernel_rfl) (fun _ _ _ h => h) (Or.inl ⟨by rfl, ?_⟩) (by assumption) ?_
  rotate_left
  · intro w hSw
    (try dsimp only at hSw)
    go_simp
    all_goals with_reducible rfl
  simp only [Act.put, List.setIfInBounds_toArray, List.set_cons_zero, List.set_cons_succ]
  refine wpAnyH_ready (rs := [23]) (by kernel_rfl) (by simp) ?_
  refine AllReadyH.cons rfl (fun K hK => ?_) AllReadyH.nil
  go_simp
  refine (prWorks_any _ (HT.out _ (below_on HB5.out F))).mono ?_
  rintro e w9 ⟨rfl, hb⟩
  replace F := below_on F hb
  clear hb
  refine hK.out _ _ (HS.out _ F) (fun hHeld => ?_)
  clear hK K
  try simp only [Act.put, List.setIfInBounds_toArray, List.set_cons_zero, List.set_cons_succ]
  refine take_listed (i := 24) (v := ?_) rfl (by kernel_rfl) (by kernel_rfl) (by kernel_rfl) (fun _ _ _ h => h) (Or.inl ⟨by rfl, ?_⟩) (by assumption) ?_
  rotate_left
  · intro w hSw
    (try dsimp only at hSw)
    go_simp
    all_goals with_reducible rfl
  simp only [Act.put, List.setIfInBounds_toArray, List.set_cons_zero, List.set_cons_succ]
  refine take_listed (i := 25) (v := ?_) rfl (by kernel_rfl) (by kernel_rfl) (by kernel_rfl) (fun _ _ _ h => h) (Or.inl ⟨by rfl, ?_⟩) (by assumption) ?_
  rotate_left
  · intro w hSw
    (try dsimp only at hSw)
    go_simp
    all_goals with_reducible rfl
  simp only [Act.put, List.setIfInBounds_toArray, List.set_cons_zero, List.set_cons_succ]
  clear hHeld
  refine wpAnyH_done (by kernel_rfl) ?_ _
  have HF := Lib.hid (below_on HB5.out F)
  clear F
  go_wp2_with fail
  go_ret
  exact ⟨rfl, HF.out⟩

end Go.Proofs.YtlmdbeccfoncpaaGreatDoor
