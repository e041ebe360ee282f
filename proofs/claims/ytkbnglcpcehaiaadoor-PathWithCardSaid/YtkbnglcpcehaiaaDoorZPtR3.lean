/- PathWith, walked. -/
import Derived.Test.YtkbnglcpcehaiaaDoorZPtR1
namespace Go.Proofs.YtkbnglcpcehaiaaDoor
open Go Go.RowKit Go.Shelf
set_option linter.unusedSimpArgs false
set_option linter.unusedVariables false
set_option maxRecDepth 100000

set_option maxHeartbeats 16000000 in
theorem pathWith_goodno (bk : Bool) (a : Option Addr) (c : Nat) (xs : List Cr) (x : Cr) (w : World) (hcap : xs.length ≤ c) (hr : RdX w w.heap.size a xs) (ht : TabW w) (h100 : xs.length ≤ 100) (hq : rightX xs = true) (E : Int) (hE : wiE xs x = E) (hE0 : E ≠ 0) :
    Calls Tryd.prog 3 #[.agg #[.bool bk, .slice a xs.length c], .agg #[.int .u32 x.1.toNat, .bool x.2]] w fun e w' => e = .returned (.bool true) ∧ Below w.heap.size w w' := by
  obtain ⟨W, hW⟩ : ∃ W, W = (w.alloc (.cells #[.bool bk, .slice a xs.length c] 24)).alloc (.cells #[.int .u32 x.1.toNat, .bool x.2] 27) := ⟨_, rfl⟩
  have HB0 : Hid (Below w.heap.size w W) := by rw [hW]; exact below_al (below_al (Below.refl _ _) _) _
  have HS : Hid (∀ w', Below W.heap.size W w' → ((w'.cell? ⟨w.heap.size, 0, none⟩ = some (.bool bk) ∧ w'.cell? ⟨w.heap.size, 1, none⟩ = some (.slice a xs.length c)) ∧ (w'.cell? ⟨w.heap.size + 1, 0, none⟩ = some (.int .u32 x.1.toNat) ∧ w'.cell? ⟨w.heap.size + 1, 1, none⟩ = some (.bool x.2)))) := fun w' h => by
    rw [hW] at h
    have h1 := below_on (below_al (Below.refl _ (w.alloc (.cells #[.bool bk, .slice a xs.length c] 24))) (.cells #[.int .u32 x.1.toNat, .bool x.2] 27)) h
    have q1 := box_at h 0
    have q2 := box_at h 1
    rw [World.size_alloc] at q1 q2
    exact ⟨⟨box_at h1 0, box_at h1 1⟩, q1, q2⟩
  have HT : Hid (∀ w', Below W.heap.size W w' → TabW w') := fun w' h => (ht.on HB0.out).on h
  have HR : Hid (∀ w', Below W.heap.size W w' → RdX w' w'.heap.size a xs) := fun w' h => (hr.on HB0.out).on h
  have HRl : Hid (∀ w', Below W.heap.size W w' → RdX w' w.heap.size a xs) := fun w' h => hr.below (HB0.out.trans (h.mono HB0.out.size))
  have HW := Lib.hid hW
  clear hW ht hr
  obtain ⟨⟨x0, x1⟩, x2, x3⟩ := HS.out W (Below.refl _ _)
  go_enter Tryd.func3, Tryd.ntmps3
  go_upto_region 3 with fail
  rw [← HW.out]
  go_cut [5] from 18 to 24 (fun v5 wx => ∃ O, v5 = .pointer (some ⟨O, 0, none⟩) ∧ OwnP W wx O bk xs)
  case first =>
    refine wp_region_T (fun w' => ((w'.cell? ⟨w.heap.size, 0, none⟩ = some (.bool bk) ∧ w'.cell? ⟨w.heap.size, 1, none⟩ = some (.slice a xs.length c)) ∧ (w'.cell? ⟨w.heap.size + 1, 0, none⟩ = some (.int .u32 x.1.toNat) ∧ w'.cell? ⟨w.heap.size + 1, 1, none⟩ = some (.bool x.2)))) 8 (by kernel_rfl) ?_
    have hS := HS.out W.drew (Below.refl _ _).drew
    refine wpAnyT_take (i := 0) (v := ?_) rfl (by kernel_rfl) (by kernel_rfl) (by kernel_rfl) (by kernel_rfl) (fun _ _ _ h => h) (Or.inl ⟨by rfl, ?_⟩) hS ?_
    rotate_left
    · intro w hSw
      (try dsimp only at hSw)
      go_simp
      all_goals with_reducible rfl
    simp only [Act.put, List.setIfInBounds_toArray, List.set_cons_zero, List.set_cons_succ]
    refine wpAnyT_take (i := 1) (v := ?_) rfl (by kernel_rfl) (by kernel_rfl) (by kernel_rfl) (by kernel_rfl) (fun _ _ _ h => h) (Or.inl ⟨by rfl, ?_⟩) hS ?_
    rotate_left
    · intro w hSw
      (try dsimp only at hSw)
      go_simp
      all_goals with_reducible rfl
    simp only [Act.put, List.setIfInBounds_toArray, List.set_cons_zero, List.set_cons_succ]
    refine wpAnyT_take (i := 3) (v := ?_) rfl (by kernel_rfl) (by kernel_rfl) (by kernel_rfl) (by kernel_rfl) (fun _ _ _ h => h) (Or.inl ⟨by rfl, ?_⟩) hS ?_
    rotate_left
    · intro w hSw
      (try dsimp only at hSw)
      go_simp
      all_goals with_reducible rfl
    simp only [Act.put, List.setIfInBounds_toArray, List.set_cons_zero, List.set_cons_succ]
    refine wpAnyT_take (i := 4) (v := ?_) rfl (by kernel_rfl) (by kernel_rfl) (by kernel_rfl) (by kernel_rfl) (fun _ _ _ h => h) (Or.inl ⟨by rfl, ?_⟩) hS ?_
    rotate_left
    · intro w hSw
      (try dsimp only at hSw)
      go_simp
      all_goals with_reducible rfl
    simp only [Act.put, List.setIfInBounds_toArray, List.set_cons_zero, List.set_cons_succ]
    clear hS
    refine wpAnyT_two (i := 2) (k := 7) (by kernel_rfl) rfl rfl (fun K hK => ?_) (fun K hK => ?_)
    · skip
      go_simp
      refine hK.out _ _ (fun _ => HS.out _ (below_dr (below_al (Below.refl W.heap.size W) (.cells #[] 27)) 1)) ?_
      clear hK K
      try simp only [Act.put, List.setIfInBounds_toArray, List.set_cons_zero, List.set_cons_succ]
      refine wpAnyT_two (i := 5) (k := 7) (by kernel_rfl) rfl rfl (fun K hK => ?_) (fun K hK => ?_)
      · skip
        obtain ⟨v1, w4, hrun1, hown1, hgr1, hob⟩ := appX2 (W.alloc (.cells #[] 27)).drew W.heap.size (.slice (some ⟨W.heap.size, 0, none⟩) 0 0) [] (own_empty W) (below_dr (below_al (Below.refl W.heap.size W) (.cells #[] 27)) 1).size a c w.heap.size xs (HRl.out _ (below_dr (below_al (Below.refl W.heap.size W) (.cells #[] 27)) 1)) (by simp; omega)
        have HB4 : Hid (Below W.heap.size W w4) := (below_dr (below_al (Below.refl W.heap.size W) (.cells #[] 27)) 1).grown hgr1 (below_dr (below_al (Below.refl W.heap.size W) (.cells #[] 27)) 1).size (fun r e => by cases e; simp)
        simp only [List.nil_append] at hown1
        obtain ⟨A, C, rfl, hC, hrd, hblk⟩ := own_rd hown1
        refine step_runX (by rfl) _ _ _ _ (by rfl) _ _ _ _ (by rfl) (by rfl) hrun1 ?_
        refine hK.out _ _ (fun _ => HS.out _ HB4.out) ?_
        clear hrun1
        clear hK K
        try simp only [Act.put, List.setIfInBounds_toArray, List.set_cons_zero, List.set_cons_succ]
        have hS4 := HS.out w4 HB4.out
        refine wpAnyT_take (i := 6) (v := ?_) rfl (by kernel_rfl) (by kernel_rfl) (by kernel_rfl) (by kernel_rfl) (fun _ _ _ h => h) (Or.inl ⟨by rfl, ?_⟩) hS4 ?_
        rotate_left
        · intro w hSw
          (try dsimp only at hSw)
          go_simp
          all_goals with_reducible rfl
        simp only [Act.put, List.setIfInBounds_toArray, List.set_cons_zero, List.set_cons_succ]
        refine wpAnyT_one (i := 7) (by kernel_rfl) rfl (fun K hK => ?_)
        go_simp
        refine hK.out _ _ (fun _ => HS.out _ (below_al HB4.out (.cells #[.bool false, .slice none 0 0] 24))) ?_
        clear hK K
        try simp only [Act.put, List.setIfInBounds_toArray, List.set_cons_zero, List.set_cons_succ]
        have q0 := box_at (w := w4) (cs := #[.bool false, .slice none 0 0]) (t := 24) (Below.refl _ _) 0
        have q1 := box_at (w := w4) (cs := #[.bool false, .slice none 0 0]) (t := 24) (Below.refl _ _) 1
        refine wpAnyT_one (i := 8) (by kernel_rfl) rfl (fun K hK => ?_)
        go_simp
        refine hK.out _ _ (fun h => absurd h (by decide)) ?_
        clear hK K
        try simp only [Act.put, List.setIfInBounds_toArray, List.set_cons_zero, List.set_cons_succ]
        refine wpAnyT_done (by kernel_rfl) ?_ _
        go_wp2_with fail
        go_meet
        case rel =>
          refine ⟨w4.heap.size, rfl, below_al HB4.out _, A, C, ⟨box_at (Below.refl _ _) 0, box_at (Below.refl _ _) 1⟩, hC, hrd.on (below_al (Below.refl _ _) _)⟩
      · skip
        go_simp
        refine hK.out _ _ (fun _ => HS.out _ (below_dr (below_al (below_al (Below.refl W.heap.size W) (.cells #[] 27)) (.cells #[.bool false, .slice none 0 0] 24)) 1)) ?_
        clear hK K
        try simp only [Act.put, List.setIfInBounds_toArray, List.set_cons_zero, List.set_cons_succ]
        refine wpAnyT_one (i := 5) (by kernel_rfl) rfl (fun K hK => ?_)
        obtain ⟨v1, w4, hrun1, hown1, hgr1, hob⟩ := appX2 ((W.alloc (.cells #[] 27)).alloc (.cells #[.bool false, .slice none 0 0] 24)).drew W.heap.size (.slice (some ⟨W.heap.size, 0, none⟩) 0 0) [] (World.ownsRow.alloc (own_empty W) _) (below_dr (below_al (below_al (Below.refl W.heap.size W) (.cells #[] 27)) (.cells #[.bool false, .slice none 0 0] 24)) 1).size a c w.heap.size xs (HRl.out _ (below_dr (below_al (below_al (Below.refl W.heap.size W) (.cells #[] 27)) (.cells #[.bool false, .slice none 0 0] 24)) 1)) (by simp; omega)
        have HB4 : Hid (Below W.heap.size W w4) := (below_dr (below_al (below_al (Below.refl W.heap.size W) (.cells #[] 27)) (.cells #[.bool false, .slice none 0 0] 24)) 1).grown hgr1 (below_dr (below_al (below_al (Below.refl W.heap.size W) (.cells #[] 27)) (.cells #[.bool false, .slice none 0 0] 24)) 1).size (fun r e => by cases e; simp)
        simp only [List.nil_append] at hown1
        obtain ⟨A, C, rfl, hC, hrd, hblk⟩ := own_rd hown1
        refine step_runX (by rfl) _ _ _ _ (by rfl) _ _ _ _ (by rfl) (by rfl) hrun1 ?_
        refine hK.out _ _ (fun _ => HS.out _ HB4.out) ?_
        clear hrun1
        clear hK K
        try simp only [Act.put, List.setIfInBounds_toArray, List.set_cons_zero, List.set_cons_succ]
        have q0 := grown_box hgr1 (heap_two W _ _).2 (by simp [Value.ownBlock]) 0
        have q1 := grown_box hgr1 (heap_two W _ _).2 (by simp [Value.ownBlock]) 1
        obtain ⟨q0, q2⟩ := q0
        obtain ⟨q1, q3⟩ := q1
        refine wpAnyT_one (i := 6) (by kernel_rfl) rfl (fun K hK => ?_)
        go_simp
        refine hK.out _ _ (fun _ => HS.out _ HB4.out) ?_
        clear hK K
        try simp only [Act.put, List.setIfInBounds_toArray, List.set_cons_zero, List.set_cons_succ]
        refine wpAnyT_one (i := 8) (by kernel_rfl) rfl (fun K hK => ?_)
        go_simp
        refine hK.out _ _ (fun h => absurd h (by decide)) ?_
        clear hK K
        try simp only [Act.put, List.setIfInBounds_toArray, List.set_cons_zero, List.set_cons_succ]
        refine wpAnyT_done (by kernel_rfl) ?_ _
        go_wp2_with fail
        go_meet
        case rel =>
          refine ⟨W.heap.size + 1, rfl, own_set HB4.out (by omega) q0 q1 hC hrd ?_⟩
          have hsz : ((W.alloc (.cells #[] 27)).alloc (.cells #[.bool false, .slice none 0 0] 24)).drew.heap.size = W.heap.size + 1 + 1 := by
            show ((W.alloc (.cells #[] 27)).alloc (.cells #[.bool false, .slice none 0 0] 24)).heap.size = _
            simp
          rw [hsz] at hob
          rcases hblk with h | ⟨g, e, e2, _⟩
          · exact .inl h
          · refine .inr ⟨g, e, fun e3 => ?_⟩
            rw [e2] at hob
            simp [Value.ownBlock] at hob
            omega
    · skip
      go_simp
      refine hK.out _ _ (fun _ => HS.out _ (below_dr (below_al (Below.refl W.heap.size W) (.cells #[.bool false, .slice none 0 0] 24)) 1)) ?_
      clear hK K
      try simp only [Act.put, List.setIfInBounds_toArray, List.set_cons_zero, List.set_cons_succ]
      refine wpAnyT_one (i := 2) (by kernel_rfl) rfl (fun K hK => ?_)
      go_simp
      refine hK.out _ _ (fun _ => HS.out _ (below_dr (below_al (below_al (Below.refl W.heap.size W) (.cells #[.bool false, .slice none 0 0] 24)) (.cells #[] 27)) 1)) ?_
      clear hK K
      try simp only [Act.put, List.setIfInBounds_toArray, List.set_cons_zero, List.set_cons_succ]
      refine wpAnyT_one (i := 5) (by kernel_rfl) rfl (fun K hK => ?_)
      obtain ⟨v1, w4, hrun1, hown1, hgr1, hob⟩ := appX2 ((W.alloc (.cells #[.bool false, .slice none 0 0] 24)).alloc (.cells #[] 27)).drew W.heap.size (.slice (some ⟨W.heap.size + 1, 0, none⟩) 0 0) [] (own_empty2 W _) (below_dr (below_al (below_al (Below.refl W.heap.size W) (.cells #[.bool false, .slice none 0 0] 24)) (.cells #[] 27)) 1).size a c w.heap.size xs (HRl.out _ (below_dr (below_al (below_al (Below.refl W.heap.size W) (.cells #[.bool false, .slice none 0 0] 24)) (.cells #[] 27)) 1)) (by simp; omega)
      have HB4 : Hid (Below W.heap.size W w4) := (below_dr (below_al (below_al (Below.refl W.heap.size W) (.cells #[.bool false, .slice none 0 0] 24)) (.cells #[] 27)) 1).grown hgr1 (below_dr (below_al (below_al (Below.refl W.heap.size W) (.cells #[.bool false, .slice none 0 0] 24)) (.cells #[] 27)) 1).size (fun r e => by cases e; simp)
      simp only [List.nil_append] at hown1
      obtain ⟨A, C, rfl, hC, hrd, hblk⟩ := own_rd hown1
      refine step_runX (by rfl) _ _ _ _ (by rfl) _ _ _ _ (by rfl) (by rfl) hrun1 ?_
      refine hK.out _ _ (fun _ => HS.out _ HB4.out) ?_
      clear hrun1
      clear hK K
      try simp only [Act.put, List.setIfInBounds_toArray, List.set_cons_zero, List.set_cons_succ]
      have q0 := grown_box hgr1 (heap_two W _ _).1 (by simp [Value.ownBlock]) 0
      have q1 := grown_box hgr1 (heap_two W _ _).1 (by simp [Value.ownBlock]) 1
      obtain ⟨q0, q2⟩ := q0
      obtain ⟨q1, q3⟩ := q1
      refine wpAnyT_one (i := 6) (by kernel_rfl) rfl (fun K hK => ?_)
      go_simp
      refine hK.out _ _ (fun _ => HS.out _ HB4.out) ?_
      clear hK K
      try simp only [Act.put, List.setIfInBounds_toArray, List.set_cons_zero, List.set_cons_succ]
      refine wpAnyT_one (i := 8) (by kernel_rfl) rfl (fun K hK => ?_)
      go_simp
      refine hK.out _ _ (fun h => absurd h (by decide)) ?_
      clear hK K
      try simp only [Act.put, List.setIfInBounds_toArray, List.set_cons_zero, List.set_cons_succ]
      refine wpAnyT_done (by kernel_rfl) ?_ _
      go_wp2_with fail
      go_meet
      case rel =>
        refine ⟨W.heap.size, rfl, own_set HB4.out (by omega) q0 q1 hC hrd ?_⟩
        have hsz : ((W.alloc (.cells #[.bool false, .slice none 0 0] 24)).alloc (.cells #[] 27)).drew.heap.size = W.heap.size + 1 + 1 := by
          show ((W.alloc (.cells #[.bool false, .slice none 0 0] 24)).alloc (.cells #[] 27)).heap.size = _
          simp
        rw [hsz] at hob
        rcases hblk with h | ⟨g, e, e2, _⟩
        · exact .inl h
        · refine .inr ⟨g, e, fun e3 => ?_⟩
          rw [e2] at hob
          simp [Value.ownBlock] at hob
          omega
  case rest =>
    obtain ⟨O, rfl, hbc, A, C, ⟨o0, o1⟩, hC, hrd⟩ := hcut
    have hO := World.block_lt_of_cell? _ _ o0
    have HBc := Lib.hid hbc
    have HX : Hid (∀ w', Below wc.heap.size wc w' → (((w'.cell? ⟨w.heap.size, 0, none⟩ = some (.bool bk) ∧ w'.cell? ⟨w.heap.size, 1, none⟩ = some (.slice a xs.length c)) ∧ (w'.cell? ⟨w.heap.size + 1, 0, none⟩ = some (.int .u32 x.1.toNat) ∧ w'.cell? ⟨w.heap.size + 1, 1, none⟩ = some (.bool x.2))) ∧ (w'.cell? ⟨O, 0, none⟩ = some (.bool bk) ∧ w'.cell? ⟨O, 1, none⟩ = some (.slice A xs.length C)))) := fun w' h =>
      ⟨HS.out w' (below_on HBc.out h), (h.cell (p := ⟨O, 0, none⟩) hO).trans o0, (h.cell (p := ⟨O, 1, none⟩) hO).trans o1⟩
    have HT1 : Hid (∀ w', Below wc.heap.size wc w' → TabW w') := fun w' h => HT.out w' (below_on HBc.out h)
    have HR1 : Hid (∀ w', Below wc.heap.size wc w' → RdX w' w'.heap.size a xs) := fun w' h => HR.out w' (below_on HBc.out h)
    have HRo : Hid (∀ w', Below wc.heap.size wc w' → RdX w' w'.heap.size A xs) := fun w' h => hrd.on h
    have HB1 : Hid (Below w.heap.size w wc) := HB0.out.trans (HBc.out.mono HB0.out.size)
    have hchk : chX xs = 0 := by unfold chX; rw [hq]; rfl
    have HWi : Hid (∀ w', Below wc.heap.size wc w' → Calls Tryd.prog 9 #[.agg #[.bool bk, .slice A xs.length C], .agg #[.int .u32 x.1.toNat, .bool x.2]] w' fun e w'' => e = .returned (.tuple #[.agg #[.bool false, .slice none 0 0], .int .i64 E]) ∧ Below w'.heap.size w' w'') := fun w' h => with_not w' bk A C xs x (by omega) hC (HRo.out w' h) E (hE) (hE0)
    have HRw : Hid (∀ w', Below wc.heap.size wc w' → Calls Tryd.prog 10 #[.agg #[.bool bk, .slice a xs.length c], .agg #[.int .u32 x.1.toNat, .bool x.2]] w' fun e w'' => e = .returned (.tuple #[.agg #[.bool false, .slice none 0 0], .int .i64 E]) ∧ Below w'.heap.size w' w'') := fun w' h => by
      refine (refWith_any bk a c xs x w' (by omega) hcap (HR1.out w' h)).mono ?_
      rintro e w'' ⟨hb, ⟨_, rfl⟩ | ⟨h1, _⟩⟩
      · exact ⟨by rw [hE], hb⟩
      · rw [hE] at h1
        exact absurd h1 (hE0)
    have HTu : Hid (∀ w', Below wc.heap.size wc w' → Calls Tryd.prog 11 #[.agg #[.bool bk, .slice A xs.length C]] w' fun e w'' => e = .returned (.tuple #[.agg #[.bool true, .slice none 0 0], .int .i64 0]) ∧ Below w'.heap.size w' w'') := fun w' h => by
      have h1 := pturned_any bk A C xs w' (by omega) (HRo.out w' h)
      rw [hq, hchk] at h1
      exact h1
    have HRr : Hid (∀ w', Below wc.heap.size wc w' → Calls Tryd.prog 12 #[.agg #[.bool bk, .slice a xs.length c]] w' fun e w'' => e = .returned (.bool true) ∧ Below w'.heap.size w' w'') := fun w' h => by
      have h1 := refRight_any bk a c xs w' (by omega) hcap (HR1.out w' h)
      rw [hq] at h1
      exact h1
    have HCk : Hid (∀ w', Below wc.heap.size wc w' → Calls Tryd.prog 17 #[.agg #[.bool bk, .slice A xs.length C]] w' fun e w'' => e = .returned (.int .i64 0) ∧ Below w'.heap.size w' w'') := fun w' h => by
      have h1 := pcheck_any bk A C xs w' (by omega) (HRo.out w' h)
      rw [hchk] at h1
      exact h1
    obtain ⟨m, hm⟩ : ∃ m, m = decide (x ∈ xs) := ⟨_, rfl⟩
    have HHs : Hid (∀ w', Below wc.heap.size wc w' → Calls Tryd.prog 15 #[.agg #[.bool bk, .slice A xs.length C], .agg #[.int .u32 x.1.toNat, .bool x.2]] w' fun e w'' => e = .returned (.bool m) ∧ Below w'.heap.size w' w'') := fun w' h => by
      rw [hm]
      exact phas_any bk A C xs x w' (by omega) (HRo.out w' h)
    have HRh : Hid (∀ w', Below wc.heap.size wc w' → Calls Tryd.prog 16 #[.agg #[.bool bk, .slice a xs.length c], .agg #[.int .u32 x.1.toNat, .bool x.2]] w' fun e w'' => e = .returned (.bool m) ∧ Below w'.heap.size w' w'') := fun w' h => by
      rw [hm]
      exact refHas_any bk a c xs x w' (by omega) (HR1.out w' h)
    have HSo : Hid (∀ w', Below wc.heap.size wc w' → Calls Tryd.prog 13 #[.agg #[.bool bk, .slice A xs.length C], .agg #[.bool bk, .slice a xs.length c]] w' fun e w'' => e = .returned (.bool true) ∧ Below w'.heap.size w' w'') := fun w' h => by
      have h1 := refPSame_any bk bk A a C c xs xs w' (by omega) (by omega) (HRo.out w' h) (HR1.out w' h)
      rw [sameP_self] at h1
      exact h1
    have HSt : Hid (∀ w', Calls Tryd.prog 13 #[.agg #[.bool true, .slice none 0 0], .agg #[.bool true, .slice none 0 0]] w' fun e w'' => e = .returned (.bool true) ∧ Below w'.heap.size w' w'') := fun w' => by
      have h1 := refPSame_any true true none none 0 0 [] [] w' (by decide) (by decide) (.inl rfl) (.inl rfl)
      rw [sameP_self] at h1
      exact h1
    have HCl : Hid (xs.length ≤ 100) := h100
    clear hbc hrd hO hC hcap HS HR HT HRl HW HBc HB0 hq hchk hE hE0 hm
    clear x0 x1 x2 x3
    obtain ⟨⟨⟨x0, x1⟩, x2, x3⟩, o0, o1⟩ := HX.out wc (Below.refl _ _)
    go_wp2_with fail
    refine (HWi.out wc (Below.refl _ _)).mono ?_
    rintro e w1 ⟨rfl, hb⟩
    obtain ⟨W1, hW1⟩ : ∃ W, W = w1.alloc (.cells #[.bool false, .slice none 0 0] 24) := ⟨_, rfl⟩
    have HB2 : Hid (Below wc.heap.size wc W1) := by rw [hW1]; exact below_al hb _
    have HA1 : Hid (∀ w', Below W1.heap.size W1 w' → (w'.cell? ⟨w1.heap.size, 0, none⟩ = some (.bool false) ∧ w'.cell? ⟨w1.heap.size, 1, none⟩ = some (.slice none 0 0))) := fun w' h => by
      rw [hW1] at h
      exact box2_all h
    have HW1 := Lib.hid hW1
    clear x0 x1 x2 x3 o0 o1
    obtain ⟨⟨⟨x0, x1⟩, x2, x3⟩, o0, o1⟩ := HX.out W1 HB2.out
    rw [hW1] at x0 x1 x2 x3 o0 o1
    clear hW1 hb
    go_wp2_with fail
    rw [← HW1.out]
    refine (HRw.out W1 HB2.out).mono ?_
    rintro e w2 ⟨rfl, hb⟩
    obtain ⟨W2, hW2⟩ : ∃ W, W = w2.alloc (.cells #[.bool false, .slice none 0 0] 24) := ⟨_, rfl⟩
    have HB12 : Hid (Below W1.heap.size W1 W2) := by rw [hW2]; exact below_al hb _
    have HB3 : Hid (Below wc.heap.size wc W2) := below_on HB2.out HB12.out
    have HA2 : Hid (∀ w', Below W2.heap.size W2 w' → (w'.cell? ⟨w2.heap.size, 0, none⟩ = some (.bool false) ∧ w'.cell? ⟨w2.heap.size, 1, none⟩ = some (.slice none 0 0))) := fun w' h => by
      rw [hW2] at h
      exact box2_all h
    have HSm : Hid (∀ w', Below W2.heap.size W2 w' → Calls Tryd.prog 13 #[.agg #[.bool false, .slice none 0 0], .agg #[.bool false, .slice none 0 0]] w' fun e w'' => e = .returned (.bool true) ∧ Below w'.heap.size w' w'') := fun w' h => by
      have h1 := refPSame_any false false none none 0 0 [] [] w' (by decide) (by decide) (.inl rfl) (.inl rfl)
      rw [sameP_self] at h1
      exact h1
    have HW2 := Lib.hid hW2
    clear x0 x1 x2 x3 o0 o1
    obtain ⟨⟨⟨x0, x1⟩, x2, x3⟩, o0, o1⟩ := HX.out W2 HB3.out
    rw [hW2] at x0 x1 x2 x3 o0 o1
    clear hW2 hb
    go_wp2_with fail
    rw [← HW2.out]
    refine (HTu.out W2 HB3.out).mono ?_
    rintro e w3 ⟨rfl, hb⟩
    obtain ⟨W3, hW3⟩ : ∃ W, W = w3.alloc (.cells #[.bool true, .slice none 0 0] 24) := ⟨_, rfl⟩
    have HB23 : Hid (Below W2.heap.size W2 W3) := by rw [hW3]; exact below_al hb _
    have HB4 : Hid (Below wc.heap.size wc W3) := below_on HB3.out HB23.out
    have HELD : Hid (∀ w', Below W3.heap.size W3 w' → (((w'.cell? ⟨w.heap.size, 0, none⟩ = some (.bool bk) ∧ w'.cell? ⟨w.heap.size, 1, none⟩ = some (.slice a xs.length c)) ∧ (w'.cell? ⟨w.heap.size + 1, 0, none⟩ = some (.int .u32 x.1.toNat) ∧ w'.cell? ⟨w.heap.size + 1, 1, none⟩ = some (.bool x.2))) ∧ (w'.cell? ⟨O, 0, none⟩ = some (.bool bk) ∧ w'.cell? ⟨O, 1, none⟩ = some (.slice A xs.length C))) ∧ (w'.cell? ⟨w1.heap.size, 0, none⟩ = some (.bool false) ∧ w'.cell? ⟨w1.heap.size, 1, none⟩ = some (.slice none 0 0)) ∧ (w'.cell? ⟨w2.heap.size, 0, none⟩ = some (.bool false) ∧ w'.cell? ⟨w2.heap.size, 1, none⟩ = some (.slice none 0 0)) ∧ (w'.cell? ⟨w3.heap.size, 0, none⟩ = some (.bool true) ∧ w'.cell? ⟨w3.heap.size, 1, none⟩ = some (.slice none 0 0))) := fun w' h => by
      refine ⟨HX.out w' (below_on HB4.out h), HA1.out w' (below_on (below_on HB12.out HB23.out) h), HA2.out w' (below_on HB23.out h), ?_⟩
      rw [hW3] at h
      exact box2_all h
    have HW3 := Lib.hid hW3
    clear x0 x1 x2 x3 o0 o1
    obtain ⟨⟨⟨⟨x0, x1⟩, x2, x3⟩, o0, o1⟩, ⟨y0, y1⟩, ⟨y2, y3⟩, y4, y5⟩ := HELD.out W3 (Below.refl _ _)
    rw [hW3] at x0 x1 x2 x3 o0 o1 y0 y1 y2 y3 y4 y5
    clear hW3 hb
    go_wp2_with fail
    rw [← HW3.out]
    refine (HRr.out W3 HB4.out).mono ?_
    rintro e w4 ⟨rfl, hb⟩
    clear x0 x1 x2 x3 o0 o1 y0 y1 y2 y3 y4 y5
    obtain ⟨⟨⟨⟨x0, x1⟩, x2, x3⟩, o0, o1⟩, ⟨y0, y1⟩, ⟨y2, y3⟩, y4, y5⟩ := HELD.out w4 hb
    have hne : ((E : Int) != E) = false := by simp
    have hnm : (m != m) = false := by simp
    go_wp2_with fail
    have F : Below W3.heap.size W3 w4.drew := hb.drew
    clear hb
    clear x0 x1 x2 x3 o0 o1 y0 y1 y2 y3 y4 y5
    refine wp_region_held_drew (S := fun w' => (((w'.cell? ⟨w.heap.size, 0, none⟩ = some (.bool bk) ∧ w'.cell? ⟨w.heap.size, 1, none⟩ = some (.slice a xs.length c)) ∧ (w'.cell? ⟨w.heap.size + 1, 0, none⟩ = some (.int .u32 x.1.toNat) ∧ w'.cell? ⟨w.heap.size + 1, 1, none⟩ = some (.bool x.2))) ∧ (w'.cell? ⟨O, 0, none⟩ = some (.bool bk) ∧ w'.cell? ⟨O, 1, none⟩ = some (.slice A xs.length C))) ∧ (w'.cell? ⟨w1.heap.size, 0, none⟩ = some (.bool false) ∧ w'.cell? ⟨w1.heap.size, 1, none⟩ = some (.slice none 0 0)) ∧ (w'.cell? ⟨w2.heap.size, 0, none⟩ = some (.bool false) ∧ w'.cell? ⟨w2.heap.size, 1, none⟩ = some (.slice none 0 0)) ∧ (w'.cell? ⟨w3.heap.size, 0, none⟩ = some (.bool true) ∧ w'.cell? ⟨w3.heap.size, 1, none⟩ = some (.slice none 0 0))) (by kernel_rfl) (HELD.out _ F) (fun hHeld => ?_)
    refine take_listed (i := 0) (v := ?_) rfl (by kernel_rfl) (by kernel_rfl) (by kernel_rfl) (fun _ _ _ h => h) (Or.inl ⟨by rfl, ?_⟩) (by assumption) ?_
    rotate_left
    · intro w hSw
      (try dsimp only at hSw)
      go_simp
      all_goals with_reducible rfl
    simp only [Act.put, List.setIfInBounds_toArray, List.set_cons_zero, List.set_cons_succ]
    refine take_listed (i := 1) (v := ?_) rfl (by kernel_rfl) (by kernel_rfl) (by kernel_rfl) (fun _ _ _ h => h) (Or.inl ⟨by rfl, ?_⟩) (by assumption) ?_
    rotate_left
    · intro w hSw
      (try dsimp only at hSw)
      go_simp
      all_goals with_reducible rfl
    simp only [Act.put, List.setIfInBounds_toArray, List.set_cons_zero, List.set_cons_succ]
    refine wpAnyH_ready (rs := [2]) (by kernel_rfl) (by simp) ?_
    refine AllReadyH.cons rfl (fun K hK => ?_) AllReadyH.nil
    go_simp
    refine (HSm.out _ (below_on HB23.out F)).mono ?_
    rintro e wz ⟨rfl, hb⟩
    replace F := below_on F hb
    clear hb
    refine hK.out _ _ (HELD.out _ F) (fun hHeld => ?_)
    clear hK K
    try simp only [Act.put, List.setIfInBounds_toArray, List.set_cons_zero, List.set_cons_succ]
    refine take_listed (i := 3) (v := ?_) rfl (by kernel_rfl) (by kernel_rfl) (by kernel_rfl) (fun _ _ _ h => h) (Or.inl ⟨by rfl, ?_⟩) (by assumption) ?_
    rotate_left
    · intro w hSw
      (try dsimp only at hSw)
      go_simp
      all_goals with_reducible rfl
    simp only [Act.put, List.setIfInBounds_toArray, List.set_cons_zero, List.set_cons_succ]
    refine take_listed (i := 4) (v := ?_) rfl (by kernel_rfl) (by kernel_rfl) (by kernel_rfl) (fun _ _ _ h => h) (Or.inl ⟨by rfl, ?_⟩) (by assumption) ?_
    rotate_left
    · intro w hSw
      (try dsimp only at hSw)
      go_simp
      all_goals with_reducible rfl
    simp only [Act.put, List.setIfInBounds_toArray, List.set_cons_zero, List.set_cons_succ]
    refine take_listed (i := 5) (v := ?_) rfl (by kernel_rfl) (by kernel_rfl) (by kernel_rfl) (fun _ _ _ h => h) (Or.inl ⟨by rfl, ?_⟩) (by assumption) ?_
    rotate_left
    · intro w hSw
      (try dsimp only at hSw)
      go_simp
      all_goals with_reducible rfl
    simp only [Act.put, List.setIfInBounds_toArray, List.set_cons_zero, List.set_cons_succ]
    refine take_listed (i := 7) (v := ?_) rfl (by kernel_rfl) (by kernel_rfl) (by kernel_rfl) (fun _ _ _ h => h) (Or.inl ⟨by rfl, ?_⟩) (by assumption) ?_
    rotate_left
    · intro w hSw
      (try dsimp only at hSw)
      go_simp
      all_goals with_reducible rfl
    simp only [Act.put, List.setIfInBounds_toArray, List.set_cons_zero, List.set_cons_succ]
    refine wpAnyH_ready (rs := [6]) (by kernel_rfl) (by simp) ?_
    refine AllReadyH.cons rfl (fun K hK => ?_) AllReadyH.nil
    go_simp
    refine (ptNum_any _ _).mono ?_
    rintro e wz ⟨rfl, rfl⟩
    refine hK.out _ _ (HELD.out _ F) (fun hHeld => ?_)
    clear hK K
    try simp only [Act.put, List.setIfInBounds_toArray, List.set_cons_zero, List.set_cons_succ]
    refine take_listed (i := 8) (v := ?_) rfl (by kernel_rfl) (by kernel_rfl) (by kernel_rfl) (fun _ _ _ h => h) (Or.inl ⟨by rfl, ?_⟩) (by assumption) ?_
    rotate_left
    · intro w hSw
      (try dsimp only at hSw)
      go_simp
      all_goals with_reducible rfl
    simp only [Act.put, List.setIfInBounds_toArray, List.set_cons_zero, List.set_cons_succ]
    refine take_listed (i := 9) (v := ?_) rfl (by kernel_rfl) (by kernel_rfl) (by kernel_rfl) (fun _ _ _ h => h) (Or.inl ⟨by rfl, ?_⟩) (by assumption) ?_
    rotate_left
    · intro w hSw
      (try dsimp only at hSw)
      go_simp
      all_goals with_reducible rfl
    simp only [Act.put, List.setIfInBounds_toArray, List.set_cons_zero, List.set_cons_succ]
    refine take_listed (i := 10) (v := ?_) rfl (by kernel_rfl) (by kernel_rfl) (by kernel_rfl) (fun _ _ _ h => h) (Or.inl ⟨by rfl, ?_⟩) (by assumption) ?_
    rotate_left
    · intro w hSw
      (try dsimp only at hSw)
      go_simp
      all_goals with_reducible rfl
    simp only [Act.put, List.setIfInBounds_toArray, List.set_cons_zero, List.set_cons_succ]
    refine take_listed (i := 11) (v := ?_) rfl (by kernel_rfl) (by kernel_rfl) (by kernel_rfl) (fun _ _ _ h => h) (Or.inl ⟨by rfl, ?_⟩) (by assumption) ?_
    rotate_left
    · intro w hSw
      (try dsimp only at hSw)
      go_simp
      all_goals with_reducible rfl
    simp only [Act.put, List.setIfInBounds_toArray, List.set_cons_zero, List.set_cons_succ]
    refine take_listed (i := 12) (v := ?_) rfl (by kernel_rfl) (by kernel_rfl) (by kernel_rfl) (fun _ _ _ h => h) (Or.inl ⟨by rfl, ?_⟩) (by assumption) ?_
    rotate_left
    · intro w hSw
      (try dsimp only at hSw)
      go_simp
      all_goals with_reducible rfl
    simp only [Act.put, List.setIfInBounds_toArray, List.set_cons_zero, List.set_cons_succ]
    refine take_listed (i := 14) (v := ?_) rfl (by kernel_rfl) (by kernel_rfl) (by kernel_rfl) (fun _ _ _ h => h) (Or.inl ⟨by rfl, ?_⟩) (by assumption) ?_
    rotate_left
    · intro w hSw
      (try dsimp only at hSw)
      go_simp
      all_goals with_reducible rfl
    simp only [Act.put, List.setIfInBounds_toArray, List.set_cons_zero, List.set_cons_succ]
    refine take_listed (i := 15) (v := ?_) rfl (by kernel_rfl) (by kernel_rfl) (by kernel_rfl) (fun _ _ _ h => h) (Or.inl ⟨by rfl, ?_⟩) (by assumption) ?_
    rotate_left
    · intro w hSw
      (try dsimp only at hSw)
      go_simp
      all_goals with_reducible rfl
    simp only [Act.put, List.setIfInBounds_toArray, List.set_cons_zero, List.set_cons_succ]
    refine wpAnyH_ready (rs := [13]) (by kernel_rfl) (by simp) ?_
    refine AllReadyH.cons rfl (fun K hK => ?_) AllReadyH.nil
    go_simp
    refine (HHs.out _ (below_on HB4.out F)).mono ?_
    rintro e wz ⟨rfl, hb⟩
    replace F := below_on F hb
    clear hb
    refine hK.out _ _ (HELD.out _ F) (fun hHeld => ?_)
    clear hK K
    try simp only [Act.put, List.setIfInBounds_toArray, List.set_cons_zero, List.set_cons_succ]
    refine wpAnyH_ready (rs := [16]) (by kernel_rfl) (by simp) ?_
    refine AllReadyH.cons rfl (fun K hK => ?_) AllReadyH.nil
    go_simp
    refine (HRh.out _ (below_on HB4.out F)).mono ?_
    rintro e wz ⟨rfl, hb⟩
    replace F := below_on F hb
    clear hb
    refine hK.out _ _ (HELD.out _ F) (fun hHeld => ?_)
    clear hK K
    try simp only [Act.put, List.setIfInBounds_toArray, List.set_cons_zero, List.set_cons_succ]
    refine take_listed (i := 17) (v := ?_) rfl (by kernel_rfl) (by kernel_rfl) (by kernel_rfl) (fun _ _ _ h => h) (Or.inl ⟨by rfl, ?_⟩) (by assumption) ?_
    rotate_left
    · intro w hSw
      (try dsimp only at hSw)
      go_simp
      all_goals with_reducible rfl
    simp only [Act.put, List.setIfInBounds_toArray, List.set_cons_zero, List.set_cons_succ]
    refine take_listed (i := 18) (v := ?_) rfl (by kernel_rfl) (by kernel_rfl) (by kernel_rfl) (fun _ _ _ h => h) (Or.inl ⟨by rfl, ?_⟩) (by assumption) ?_
    rotate_left
    · intro w hSw
      (try dsimp only at hSw)
      go_simp
      all_goals with_reducible rfl
    simp only [Act.put, List.setIfInBounds_toArray, List.set_cons_zero, List.set_cons_succ]
    refine take_listed (i := 19) (v := ?_) rfl (by kernel_rfl) (by kernel_rfl) (by kernel_rfl) (fun _ _ _ h => h) (Or.inl ⟨by rfl, ?_⟩) (by assumption) ?_
    rotate_left
    · intro w hSw
      (try dsimp only at hSw)
      go_simp
      all_goals with_reducible rfl
    simp only [Act.put, List.setIfInBounds_toArray, List.set_cons_zero, List.set_cons_succ]
    refine take_listed (i := 20) (v := ?_) rfl (by kernel_rfl) (by kernel_rfl) (by kernel_rfl) (fun _ _ _ h => h) (Or.inl ⟨by rfl, ?_⟩) (by assumption) ?_
    rotate_left
    · intro w hSw
      (try dsimp only at hSw)
      go_simp
      all_goals with_reducible rfl
    simp only [Act.put, List.setIfInBounds_toArray, List.set_cons_zero, List.set_cons_succ]
    refine take_listed (i := 24) (v := ?_) rfl (by kernel_rfl) (by kernel_rfl) (by kernel_rfl) (fun _ _ _ h => h) (Or.inl ⟨by rfl, ?_⟩) (by assumption) ?_
    rotate_left
    · intro w hSw
      (try dsimp only at hSw)
      go_simp
      all_goals with_reducible rfl
    simp only [Act.put, List.setIfInBounds_toArray, List.set_cons_zero, List.set_cons_succ]
    refine wpAnyH_ready (rs := [21]) (by kernel_rfl) (by simp) ?_
    refine AllReadyH.cons rfl (fun K hK => ?_) AllReadyH.nil
    go_simp
    refine (HCk.out _ (below_on HB4.out F)).mono ?_
    rintro e wz ⟨rfl, hb⟩
    replace F := below_on F hb
    clear hb
    refine hK.out _ _ (HELD.out _ F) (fun hHeld => ?_)
    clear hK K
    try simp only [Act.put, List.setIfInBounds_toArray, List.set_cons_zero, List.set_cons_succ]
    refine wpAnyH_ready (rs := [22]) (by kernel_rfl) (by simp) ?_
    refine AllReadyH.cons rfl (fun K hK => ?_) AllReadyH.nil
    go_simp
    refine (ptNum_any _ _).mono ?_
    rintro e wz ⟨rfl, rfl⟩
    refine hK.out _ _ (HELD.out _ F) (fun hHeld => ?_)
    clear hK K
    try simp only [Act.put, List.setIfInBounds_toArray, List.set_cons_zero, List.set_cons_succ]
    refine take_listed (i := 23) (v := ?_) rfl (by kernel_rfl) (by kernel_rfl) (by kernel_rfl) (fun _ _ _ h => h) (Or.inl ⟨by rfl, ?_⟩) (by assumption) ?_
    rotate_left
    · intro w hSw
      (try dsimp only at hSw)
      go_simp
      all_goals with_reducible rfl
    simp only [Act.put, List.setIfInBounds_toArray, List.set_cons_zero, List.set_cons_succ]
    refine take_listed (i := 25) (v := ?_) rfl (by kernel_rfl) (by kernel_rfl) (by kernel_rfl) (fun _ _ _ h => h) (Or.inl ⟨by rfl, ?_⟩) (by assumption) ?_
    rotate_left
    · intro w hSw
      (try dsimp only at hSw)
      go_simp
      all_goals with_reducible rfl
    simp only [Act.put, List.setIfInBounds_toArray, List.set_cons_zero, List.set_cons_succ]
    refine take_listed (i := 26) (v := ?_) rfl (by kernel_rfl) (by kernel_rfl) (by kernel_rfl) (fun _ _ _ h => h) (Or.inl ⟨by rfl, ?_⟩) (by assumption) ?_
    rotate_left
    · intro w hSw
      (try dsimp only at hSw)
      go_simp
      all_goals with_reducible rfl
    simp only [Act.put, List.setIfInBounds_toArray, List.set_cons_zero, List.set_cons_succ]
    refine take_listed (i := 27) (v := ?_) rfl (by kernel_rfl) (by kernel_rfl) (by kernel_rfl) (fun _ _ _ h => h) (Or.inl ⟨by rfl, ?_⟩) (by assumption) ?_
    rotate_left
    · intro w hSw
      (try dsimp only at hSw)
      go_simp
      all_goals with_reducible rfl
    simp only [Act.put, List.setIfInBounds_toArray, List.set_cons_zero, List.set_cons_succ]
    refine take_listed (i := 28) (v := ?_) rfl (by kernel_rfl) (by kernel_rfl) (by kernel_rfl) (fun _ _ _ h => h) (Or.inl ⟨by rfl, ?_⟩) (by assumption) ?_
    rotate_left
    · intro w hSw
      (try dsimp only at hSw)
      go_simp
      all_goals with_reducible rfl
    simp only [Act.put, List.setIfInBounds_toArray, List.set_cons_zero, List.set_cons_succ]
    refine take_listed (i := 29) (v := ?_) rfl (by kernel_rfl) (by kernel_rfl) (by kernel_rfl) (fun _ _ _ h => h) (Or.inl ⟨by rfl, ?_⟩) (by assumption) ?_
    rotate_left
    · intro w hSw
      (try dsimp only at hSw)
      go_simp
      all_goals with_reducible rfl
    simp only [Act.put, List.setIfInBounds_toArray, List.set_cons_zero, List.set_cons_succ]
    refine take_listed (i := 30) (v := ?_) rfl (by kernel_rfl) (by kernel_rfl) (by kernel_rfl) (fun _ _ _ h => h) (Or.inl ⟨by rfl, ?_⟩) (by assumption) ?_
    rotate_left
    · intro w hSw
      (try dsimp only at hSw)
      go_simp
      all_goals with_reducible rfl
    simp only [Act.put, List.setIfInBounds_toArray, List.set_cons_zero, List.set_cons_succ]
    refine take_listed (i := 31) (v := undef) rfl (by kernel_rfl) (by kernel_rfl) (by kernel_rfl) (fun _ _ _ h => h) (Or.inr ⟨by rfl, rfl⟩) (by assumption) ?_
    simp only [Act.put, List.setIfInBounds_toArray, List.set_cons_zero, List.set_cons_succ]
    refine take_listed (i := 32) (v := undef) rfl (by kernel_rfl) (by kernel_rfl) (by kernel_rfl) (fun _ _ _ h => h) (Or.inr ⟨by rfl, rfl⟩) (by assumption) ?_
    simp only [Act.put, List.setIfInBounds_toArray, List.set_cons_zero, List.set_cons_succ]
    refine take_listed (i := 33) (v := undef) rfl (by kernel_rfl) (by kernel_rfl) (by kernel_rfl) (fun _ _ _ h => h) (Or.inr ⟨by rfl, rfl⟩) (by assumption) ?_
    simp only [Act.put, List.setIfInBounds_toArray, List.set_cons_zero, List.set_cons_succ]
    refine take_listed (i := 34) (v := undef) rfl (by kernel_rfl) (by kernel_rfl) (by kernel_rfl) (fun _ _ _ h => h) (Or.inr ⟨by rfl, rfl⟩) (by assumption) ?_
    simp only [Act.put, List.setIfInBounds_toArray, List.set_cons_zero, List.set_cons_succ]
    refine take_listed (i := 35) (v := ?_) rfl (by kernel_rfl) (by kernel_rfl) (by kernel_rfl) (fun _ _ _ h => h) (Or.inl ⟨by rfl, ?_⟩) (by assumption) ?_
    rotate_left
    · intro w hSw
      (try dsimp only at hSw)
      go_simp
      all_goals with_reducible rfl
    simp only [Act.put, List.setIfInBounds_toArray, List.set_cons_zero, List.set_cons_succ]
    refine take_listed (i := 36) (v := ?_) rfl (by kernel_rfl) (by kernel_rfl) (by kernel_rfl) (fun _ _ _ h => h) (Or.inl ⟨by rfl, ?_⟩) (by assumption) ?_
    rotate_left
    · intro w hSw
      (try dsimp only at hSw)
      go_simp
      all_goals with_reducible rfl
    simp only [Act.put, List.setIfInBounds_toArray, List.set_cons_zero, List.set_cons_succ]
    refine wpAnyH_done (by kernel_rfl) ?_ _
    clear hHeld
    have HF := Lib.hid F
    clear F
    obtain ⟨⟨⟨⟨x0, x1⟩, x2, x3⟩, o0, o1⟩, ⟨y0, y1⟩, ⟨y2, y3⟩, y4, y5⟩ := HELD.out _ HF.out
    go_wp2_with (go_at_call 14; refine (ptNum_any _ _).mono ?_; rintro e w' ⟨rfl, rfl⟩)
    refine (HSt.out _).mono ?_
    rintro e w5 ⟨rfl, hb⟩
    have HF2 := Lib.hid (below_on HF.out hb)
    clear hb HF
    clear x0 x1 x2 x3 o0 o1 y0 y1 y2 y3 y4 y5
    obtain ⟨⟨⟨⟨x0, x1⟩, x2, x3⟩, o0, o1⟩, ⟨y0, y1⟩, ⟨y2, y3⟩, y4, y5⟩ := HELD.out _ HF2.out
    go_wp2_with fail
    refine (HSo.out _ (below_on HB4.out HF2.out)).mono ?_
    rintro e w5 ⟨rfl, hb⟩
    have HF3 : Hid (Below wc.heap.size wc w5) := below_on HB4.out (below_on HF2.out hb)
    clear hb x0 x1 x2 x3 o0 o1 y0 y1 y2 y3 y4 y5
    go_wp2_with fail
    refine (ptWorks_any w5 (HT1.out w5 HF3.out)).mono ?_
    rintro e w6 ⟨rfl, hb⟩
    have HF5 := Lib.hid (below_on HF3.out hb)
    clear hb
    go_wp2
    go_ret
    exact ⟨rfl, HB1.out.trans (HF5.out.mono HB1.out.size)⟩

end Go.Proofs.YtkbnglcpcehaiaaDoor
