/- Package disk: Copy. -/
import Derived.Test.YtekeooeapiodmaaZDkL
namespace Go.Proofs.Ytekeooeapiodmaa
open Go Go.RowKit Go.Shelf
set_option linter.unusedSimpArgs false
set_option linter.unusedVariables false
set_option maxRecDepth 100000

attribute [local go_sem] Oper.semAt_some

theorem own_form {w : World} {v : Value} {n : Nat} {xs : List Value} (h : w.ownsRow 0 88 65 v n xs) : ∃ A C, v = .slice A n C := by
  rcases h.2 with ⟨rfl, h0⟩ | ⟨g', cap, cur, rfl, _⟩
  · exact ⟨none, 0, by rw [h0]⟩
  · exact ⟨_, cap, rfl⟩

/-- The copy, laid. -/
theorem copy_end {w cur X8 X13 X18 : World} {D : DkM} {f g : Int → Option Value} {c8 c18 n13 : Nat} {v13 : Value} {e : Ending}
    (he : e = .returned (.pointer (some ⟨cur.heap.size, 0, none⟩))) (F : Below w.heap.size w cur)
    (C8 : IMap X8 c8 f) (G8 : Below X8.heap.size X8 cur) (Z8 : X8.heap.size = c8 + 1)
    (C13 : X13.ownsRow 0 88 65 v13 D.wt.length (flatW D.wt)) (G13 : Below X13.heap.size X13 cur) (Z13 : ∀ j, v13.ownBlock = some j → n13 ≤ j)
    (C18 : IMap X18 c18 g) (G18 : Below X18.heap.size X18 cur) (Z18 : X18.heap.size = c18 + 1)
    (q3 : ∀ k, (f k).getD (secV zeroS) = secV (D.lie k)) (q5 : ∀ k, g k = (lastI D.wt k).map fun i => .int .i64 (i : Nat))
    (hsz : w.heap.size ≤ c8 ∧ w.heap.size ≤ c18 ∧ w.heap.size ≤ n13 ∧ c8 ≠ c18 ∧ (X13.heap.size ≤ c8 ∨ c8 + 1 ≤ n13) ∧ (X13.heap.size ≤ c18 ∨ c18 + 1 ≤ n13)) :
    (∃ q, e = .returned (.pointer (some ⟨q, 0, none⟩)) ∧ DkAt (cur.alloc (.cells #[.int .i64 D.n, .map (some c8), v13, .map (some c18), .int .i64 D.left] 73)) (newS w (cur.alloc (.cells #[.int .i64 D.n, .map (some c8), v13, .map (some c18), .int .i64 D.left] 73))) q D) ∧ Below w.heap.size w (cur.alloc (.cells #[.int .i64 D.n, .map (some c8), v13, .map (some c18), .int .i64 D.left] 73)) := by
  obtain ⟨h1, h2, h3, h4, h5, h6⟩ := hsz
  have b0 := below_al (Below.refl cur.heap.size cur) (.cells #[.int .i64 D.n, .map (some c8), v13, .map (some c18), .int .i64 D.left] 73)
  have k8 : c8 < cur.heap.size := by have := G8.size; omega
  have k18 : c18 < cur.heap.size := by have := G18.size; omega
  have hj : ∀ j, v13.ownBlock = some j → n13 ≤ j ∧ j < X13.heap.size := fun j hj => ⟨Z13 j hj, (C13.lt j hj).2⟩
  have e1 : (cur.alloc (.cells #[.int .i64 D.n, .map (some c8), v13, .map (some c18), .int .i64 D.left] 73)).heap.size = cur.heap.size + 1 := by simp
  have g13 := G13.size
  refine ⟨⟨cur.heap.size, he, c8, c18, v13, f, g, RowB.new cur _ _, ?_, q3, ?_, q5, ?_, ⟨F.size, by omega⟩, ⟨h1, by omega⟩, ⟨h2, by omega⟩, fun j hj' => ⟨by have := (hj j hj').1; omega, by have := (hj j hj').2; omega⟩, h4, by omega, by omega, ?_, ?_, ?_⟩, below_on F b0⟩
  · exact C8.kept ((b0.block c8 k8).trans (G8.block c8 (by omega)))
  · exact C18.kept ((b0.block c18 k18).trans (G18.block c18 (by omega)))
  · exact ownsRow_kept C13 fun j hj' => (b0.block j (by have := (hj j hj').2; omega)).trans (G13.block j (hj j hj').2)
  · intro h; have := (hj _ h).2; omega
  · intro h; have := hj _ h; omega
  · intro h; have := hj _ h; omega

set_option maxHeartbeats 4000000 in
theorem copy1_any (S : Nat → Prop) (p b : Nat) (D : DkM) (hok : D.ok) (w : World) (hc : w.cell? ⟨b, 0, none⟩ = some (.pointer (some ⟨p, 0, none⟩))) (h : DkAt w S p D) :
    Calls Try.prog 42 #[.pointer (some ⟨b, 0, none⟩)] w fun e w' => (∃ q, e = .returned (.pointer (some ⟨q, 0, none⟩)) ∧ DkAt w' (newS w w') q D) ∧ Below w.heap.size w w' := by
  have hbl := World.block_lt_of_cell? w _ hc
  obtain ⟨m1, m2, v, f, g, q1, q2, q3, q4, q5, q6, _⟩ := h
  have HX : Hid (∀ w', Below w.heap.size w w' → (w'.cell? ⟨b, 0, none⟩ = some (.pointer (some ⟨p, 0, none⟩)) ∧ w'.cell? ⟨p, 0, none⟩ = some (.int .i64 D.n) ∧ w'.cell? ⟨p, 1, none⟩ = some (.map (some m1)) ∧ w'.cell? ⟨p, 2, none⟩ = some v ∧ w'.cell? ⟨p, 3, none⟩ = some (.map (some m2)) ∧ w'.cell? ⟨p, 4, none⟩ = some (.int .i64 D.left))) := fun w' hb =>
    ⟨(hb.cell (p := ⟨b, 0, none⟩) hbl).trans hc, (hb.cell (p := ⟨p, 0, none⟩) q1.lt).trans (q1.1 0 _ rfl), (hb.cell (p := ⟨p, 1, none⟩) q1.lt).trans (q1.1 1 _ rfl), (hb.cell (p := ⟨p, 2, none⟩) q1.lt).trans (q1.1 2 _ rfl), (hb.cell (p := ⟨p, 3, none⟩) q1.lt).trans (q1.1 3 _ rfl), (hb.cell (p := ⟨p, 4, none⟩) q1.lt).trans (q1.1 4 _ rfl)⟩
  have HM1 : Hid (∀ w', Below w.heap.size w w' → IMap w' m1 f) := fun w' hb => q2.kept (hb.block m1 q2.lt)
  have HM2 : Hid (∀ w', Below w.heap.size w w' → IMap w' m2 g) := fun w' hb => q4.kept (hb.block m2 q4.lt)
  have HRo : Hid (∀ w', Below w.heap.size w w' → w'.ownsRow 0 88 65 v D.wt.length (flatW D.wt)) := fun w' hb => ownsRow_kept q6 fun j hj => hb.block j (q6.lt j hj).2
  have HOk := Lib.hid hok
  have HQ3 := Lib.hid q3
  have HQ5 := Lib.hid q5
  obtain ⟨A, C, hv⟩ : ∃ A C, v = .slice A D.wt.length C := by
    rcases q6.2 with ⟨rfl, h⟩ | ⟨g', cap, cur, rfl, _⟩
    · exact ⟨none, 0, by rw [h]⟩
    · exact ⟨_, cap, rfl⟩
  subst hv
  clear q1 q2 q3 q4 q5 q6 hok hc
  have F : Below w.heap.size w w.drew := (Below.refl _ _).drew
  go_enter Try.func42, Try.ntmps42
  go_upto_region 1 with fail
  refine wp_region_held_drew (S := (fun w' => (w'.cell? ⟨b, 0, none⟩ = some (.pointer (some ⟨p, 0, none⟩)) ∧ w'.cell? ⟨p, 0, none⟩ = some (.int .i64 D.n) ∧ w'.cell? ⟨p, 1, none⟩ = some (.map (some m1)) ∧ w'.cell? ⟨p, 2, none⟩ = some (.slice A D.wt.length C) ∧ w'.cell? ⟨p, 3, none⟩ = some (.map (some m2)) ∧ w'.cell? ⟨p, 4, none⟩ = some (.int .i64 D.left)))) (by kernel_rfl) (HX.out _ F) (fun hHeld => ?_)
  refine take_listed (i := 0) (v := ?_) rfl (by kernel_rfl) (by kernel_rfl) (by kernel_rfl) (fun _ _ _ h => h) (Or.inl ⟨by rfl, ?_⟩) (by assumption) ?_
  rotate_left
  · intro w hSw
    (try dsimp only at hSw)
    go_simp
    all_goals with_reducible rfl
  simp only [Act.put, List.setIfInBounds_toArray, List.set_cons_zero, List.set_cons_succ]
  refine take_listed (i := 1) (v := ?_) rfl (by kernel_rfl) (by kernel_rfl) (by kernel_rfl) (fun _ _ _ h => h) (Or.inl ⟨by rfl, ?_⟩) (by assumption) ?_
  rotate_left
  · intro w hSw
    (try dsimp only at hSw)
    go_simp
    all_goals with_reducible rfl
  simp only [Act.put, List.setIfInBounds_toArray, List.set_cons_zero, List.set_cons_succ]
  refine take_listed (i := 2) (v := ?_) rfl (by kernel_rfl) (by kernel_rfl) (by kernel_rfl) (fun _ _ _ h => h) (Or.inl ⟨by rfl, ?_⟩) (by assumption) ?_
  rotate_left
  · intro w hSw
    (try dsimp only at hSw)
    go_simp
    all_goals with_reducible rfl
  simp only [Act.put, List.setIfInBounds_toArray, List.set_cons_zero, List.set_cons_succ]
  refine take_listed (i := 3) (v := ?_) rfl (by kernel_rfl) (by kernel_rfl) (by kernel_rfl) (fun _ _ _ h => h) (Or.inl ⟨by rfl, ?_⟩) (by assumption) ?_
  rotate_left
  · intro w hSw
    (try dsimp only at hSw)
    go_simp
    all_goals with_reducible rfl
  simp only [Act.put, List.setIfInBounds_toArray, List.set_cons_zero, List.set_cons_succ]
  refine take_listed (i := 4) (v := ?_) rfl (by kernel_rfl) (by kernel_rfl) (by kernel_rfl) (fun _ _ _ h => h) (Or.inl ⟨by rfl, ?_⟩) (by assumption) ?_
  rotate_left
  · intro w hSw
    (try dsimp only at hSw)
    go_simp
    all_goals with_reducible rfl
  simp only [Act.put, List.setIfInBounds_toArray, List.set_cons_zero, List.set_cons_succ]
  refine take_listed (i := 5) (v := ?_) rfl (by kernel_rfl) (by kernel_rfl) (by kernel_rfl) (fun _ _ _ h => h) (Or.inl ⟨by rfl, ?_⟩) (by assumption) ?_
  rotate_left
  · intro w hSw
    (try dsimp only at hSw)
    go_simp
    all_goals with_reducible rfl
  simp only [Act.put, List.setIfInBounds_toArray, List.set_cons_zero, List.set_cons_succ]
  refine take_listed (i := 6) (v := ?_) rfl (by kernel_rfl) (by kernel_rfl) (by kernel_rfl) (fun _ _ _ h => h) (Or.inl ⟨by rfl, ?_⟩) (by assumption) ?_
  rotate_left
  · intro w hSw
    (try dsimp only at hSw)
    go_simp
    all_goals with_reducible rfl
  simp only [Act.put, List.setIfInBounds_toArray, List.set_cons_zero, List.set_cons_succ]
  refine take_listed (i := 7) (v := ?_) rfl (by kernel_rfl) (by kernel_rfl) (by kernel_rfl) (fun _ _ _ h => h) (Or.inl ⟨by rfl, ?_⟩) (by assumption) ?_
  rotate_left
  · intro w hSw
    (try dsimp only at hSw)
    go_simp
    all_goals with_reducible rfl
  simp only [Act.put, List.setIfInBounds_toArray, List.set_cons_zero, List.set_cons_succ]
  refine take_listed (i := 9) (v := ?_) rfl (by kernel_rfl) (by kernel_rfl) (by kernel_rfl) (fun _ _ _ h => h) (Or.inl ⟨by rfl, ?_⟩) (by assumption) ?_
  rotate_left
  · intro w hSw
    (try dsimp only at hSw)
    go_simp
    all_goals with_reducible rfl
  simp only [Act.put, List.setIfInBounds_toArray, List.set_cons_zero, List.set_cons_succ]
  refine take_listed (i := 10) (v := ?_) rfl (by kernel_rfl) (by kernel_rfl) (by kernel_rfl) (fun _ _ _ h => h) (Or.inl ⟨by rfl, ?_⟩) (by assumption) ?_
  rotate_left
  · intro w hSw
    (try dsimp only at hSw)
    go_simp
    all_goals with_reducible rfl
  simp only [Act.put, List.setIfInBounds_toArray, List.set_cons_zero, List.set_cons_succ]
  refine take_listed (i := 11) (v := ?_) rfl (by kernel_rfl) (by kernel_rfl) (by kernel_rfl) (fun _ _ _ h => h) (Or.inl ⟨by rfl, ?_⟩) (by assumption) ?_
  rotate_left
  · intro w hSw
    (try dsimp only at hSw)
    go_simp
    all_goals with_reducible rfl
  simp only [Act.put, List.setIfInBounds_toArray, List.set_cons_zero, List.set_cons_succ]
  refine take_listed (i := 12) (v := ?_) rfl (by kernel_rfl) (by kernel_rfl) (by kernel_rfl) (fun _ _ _ h => h) (Or.inl ⟨by rfl, ?_⟩) (by assumption) ?_
  rotate_left
  · intro w hSw
    (try dsimp only at hSw)
    go_simp
    all_goals with_reducible rfl
  simp only [Act.put, List.setIfInBounds_toArray, List.set_cons_zero, List.set_cons_succ]
  refine take_listed (i := 14) (v := ?_) rfl (by kernel_rfl) (by kernel_rfl) (by kernel_rfl) (fun _ _ _ h => h) (Or.inl ⟨by rfl, ?_⟩) (by assumption) ?_
  rotate_left
  · intro w hSw
    (try dsimp only at hSw)
    go_simp
    all_goals with_reducible rfl
  simp only [Act.put, List.setIfInBounds_toArray, List.set_cons_zero, List.set_cons_succ]
  refine take_listed (i := 15) (v := ?_) rfl (by kernel_rfl) (by kernel_rfl) (by kernel_rfl) (fun _ _ _ h => h) (Or.inl ⟨by rfl, ?_⟩) (by assumption) ?_
  rotate_left
  · intro w hSw
    (try dsimp only at hSw)
    go_simp
    all_goals with_reducible rfl
  simp only [Act.put, List.setIfInBounds_toArray, List.set_cons_zero, List.set_cons_succ]
  refine take_listed (i := 16) (v := ?_) rfl (by kernel_rfl) (by kernel_rfl) (by kernel_rfl) (fun _ _ _ h => h) (Or.inl ⟨by rfl, ?_⟩) (by assumption) ?_
  rotate_left
  · intro w hSw
    (try dsimp only at hSw)
    go_simp
    all_goals with_reducible rfl
  simp only [Act.put, List.setIfInBounds_toArray, List.set_cons_zero, List.set_cons_succ]
  refine take_listed (i := 17) (v := ?_) rfl (by kernel_rfl) (by kernel_rfl) (by kernel_rfl) (fun _ _ _ h => h) (Or.inl ⟨by rfl, ?_⟩) (by assumption) ?_
  rotate_left
  · intro w hSw
    (try dsimp only at hSw)
    go_simp
    all_goals with_reducible rfl
  simp only [Act.put, List.setIfInBounds_toArray, List.set_cons_zero, List.set_cons_succ]
  refine take_listed (i := 19) (v := ?_) rfl (by kernel_rfl) (by kernel_rfl) (by kernel_rfl) (fun _ _ _ h => h) (Or.inl ⟨by rfl, ?_⟩) (by assumption) ?_
  rotate_left
  · intro w hSw
    (try dsimp only at hSw)
    go_simp
    all_goals with_reducible rfl
  simp only [Act.put, List.setIfInBounds_toArray, List.set_cons_zero, List.set_cons_succ]
  refine take_listed (i := 20) (v := ?_) rfl (by kernel_rfl) (by kernel_rfl) (by kernel_rfl) (fun _ _ _ h => h) (Or.inl ⟨by rfl, ?_⟩) (by assumption) ?_
  rotate_left
  · intro w hSw
    (try dsimp only at hSw)
    go_simp
    all_goals with_reducible rfl
  simp only [Act.put, List.setIfInBounds_toArray, List.set_cons_zero, List.set_cons_succ]
  refine take_listed (i := 21) (v := ?_) rfl (by kernel_rfl) (by kernel_rfl) (by kernel_rfl) (fun _ _ _ h => h) (Or.inl ⟨by rfl, ?_⟩) (by assumption) ?_
  rotate_left
  · intro w hSw
    (try dsimp only at hSw)
    go_simp
    all_goals with_reducible rfl
  simp only [Act.put, List.setIfInBounds_toArray, List.set_cons_zero, List.set_cons_succ]
  refine take_listed (i := 22) (v := ?_) rfl (by kernel_rfl) (by kernel_rfl) (by kernel_rfl) (fun _ _ _ h => h) (Or.inl ⟨by rfl, ?_⟩) (by assumption) ?_
  rotate_left
  · intro w hSw
    (try dsimp only at hSw)
    go_simp
    all_goals with_reducible rfl
  simp only [Act.put, List.setIfInBounds_toArray, List.set_cons_zero, List.set_cons_succ]
  refine wpAnyH_ready (rs := [8]) (by kernel_rfl) (by simp) ?_
  refine AllReadyH.cons rfl (fun K hK => ?_) AllReadyH.nil
  have L8 := Lib.hid F.size
  go_simp
  refine (mclone1_any m1 f _ (HM1.out _ F)).mono ?_
  rintro e X8 ⟨rfl, hm, hb, hz⟩
  have C8 := Lib.hid hm
  have Z8 := Lib.hid hz
  replace F := below_on F hb
  have F8 : Below X8.heap.size X8 X8 := Below.refl _ _
  have B8 := Lib.hid hb.size
  clear hm hb hz
  refine hK.out _ _ (HX.out _ F) (fun hHeld => ?_)
  clear hK K
  try simp only [Act.put, List.setIfInBounds_toArray, List.set_cons_zero, List.set_cons_succ]
  refine wpAnyH_ready (rs := [13]) (by kernel_rfl) (by simp) ?_
  refine AllReadyH.cons rfl (fun K hK => ?_) AllReadyH.nil
  have L13 := Lib.hid F.size
  go_simp
  refine (wclone_any (.slice A D.wt.length C) D.wt HOk.out.wt HOk.out.few _ (HRo.out _ F)).mono ?_
  rintro e X13 ⟨v13, rfl, hm, hb, hz⟩
  obtain ⟨A13, K13, rfl⟩ := own_form hm
  have C13 := Lib.hid hm
  have Z13 := Lib.hid hz
  replace F := below_on F hb
  replace F8 := below_on F8 hb
  have F13 : Below X13.heap.size X13 X13 := Below.refl _ _
  have B13 := Lib.hid hb.size
  clear hm hb hz
  refine hK.out _ _ (HX.out _ F) (fun hHeld => ?_)
  clear hK K
  try simp only [Act.put, List.setIfInBounds_toArray, List.set_cons_zero, List.set_cons_succ]
  refine wpAnyH_ready (rs := [18]) (by kernel_rfl) (by simp) ?_
  refine AllReadyH.cons rfl (fun K hK => ?_) AllReadyH.nil
  have L18 := Lib.hid F.size
  go_simp
  refine (mclone2_any m2 g _ (HM2.out _ F)).mono ?_
  rintro e X18 ⟨rfl, hm, hb, hz⟩
  have C18 := Lib.hid hm
  have Z18 := Lib.hid hz
  replace F := below_on F hb
  replace F8 := below_on F8 hb
  replace F13 := below_on F13 hb
  have F18 : Below X18.heap.size X18 X18 := Below.refl _ _
  have B18 := Lib.hid hb.size
  clear hm hb hz
  refine hK.out _ _ (HX.out _ F) (fun hHeld => ?_)
  clear hK K
  try simp only [Act.put, List.setIfInBounds_toArray, List.set_cons_zero, List.set_cons_succ]
  refine take_listed (i := 23) (v := ?_) rfl (by kernel_rfl) (by kernel_rfl) (by kernel_rfl) (fun _ _ _ h => h) (Or.inl ⟨by rfl, ?_⟩) (by assumption) ?_
  rotate_left
  · intro w hSw
    (try dsimp only at hSw)
    go_simp
    all_goals with_reducible rfl
  simp only [Act.put, List.setIfInBounds_toArray, List.set_cons_zero, List.set_cons_succ]
  refine wpAnyH_ready (rs := [24]) (by kernel_rfl) (by simp) ?_
  refine AllReadyH.cons rfl (fun K hK => ?_) AllReadyH.nil
  go_simp
  refine hK.out _ _ (HX.out _ (below_al F _)) (fun hHeld => ?_)
  clear hK K
  try simp only [Act.put, List.setIfInBounds_toArray, List.set_cons_zero, List.set_cons_succ]
  refine take_listed (i := 25) (v := ?_) rfl (by kernel_rfl) (by kernel_rfl) (by kernel_rfl) (fun _ _ _ h => h) (Or.inl ⟨by rfl, ?_⟩) (by assumption) ?_
  rotate_left
  · intro w hSw
    (try dsimp only at hSw)
    go_simp
    all_goals with_reducible rfl
  simp only [Act.put, List.setIfInBounds_toArray, List.set_cons_zero, List.set_cons_succ]
  clear hHeld
  refine wpAnyH_done (by kernel_rfl) ?_ _
  have G8 := Lib.hid F8
  have G13 := Lib.hid F13
  have G18 := Lib.hid F18
  have GF := Lib.hid F
  go_wp2_with fail
  go_ret
  exact copy_end rfl GF.out C8.out G8.out Z8.out C13.out G13.out Z13.out C18.out G18.out Z18.out HQ3.out HQ5.out (by have := L8.out; have := L13.out; have := L18.out; have := B8.out; have := B13.out; have := B18.out; have hdr : w.drew.heap.size = w.heap.size := rfl; have := Z8.out; have := Z18.out; omega)

theorem ent_copy1 : ∀ args w, (callFunc 42 args).run Try.prog w = .ok (.enter 42 args) w := enters_of Try.func42 (by kernel_rfl) rfl

set_option maxHeartbeats 4000000 in
theorem copy_any (S : Nat → Prop) (p : Nat) (D : DkM) (hok : D.ok) (w : World) (h : DkAt w S p D) :
    Calls Try.prog 16 #[.pointer (some ⟨p, 0, none⟩)] w fun e w' => (∃ q, e = .returned (.pointer (some ⟨q, 0, none⟩)) ∧ DkAt w' (newS w w') q D) ∧ Below w.heap.size w w' := by
  have hmf : ∀ (fn : Fn) (first cap : Array Value) (w : World), (Instr.makeFunc fn first cap).run Try.prog w = .ok (.func fn first cap) w := fun _ _ _ _ => rfl
  obtain ⟨W, hW⟩ : ∃ W, W = w.alloc (.cells #[.pointer (some ⟨p, 0, none⟩)] 23) := ⟨_, rfl⟩
  have HB0 : Hid (Below w.heap.size w W) := by rw [hW]; exact below_al (Below.refl _ _) _
  have HZ : Hid (w.heap.size + 1 = W.heap.size) := by rw [Hid, hW]; simp
  have HX : Hid (∀ w', Below W.heap.size W w' → w'.cell? ⟨w.heap.size, 0, none⟩ = some (.pointer (some ⟨p, 0, none⟩))) := fun w' h => by rw [hW] at h; exact box_at h 0
  have HO := Lib.hid hok
  have HD0 : Hid (DkAt W S p D) := h.on HB0.out
  have x0 := HX.out W (Below.refl _ _)
  have HW := Lib.hid hW
  rw [hW] at x0
  clear h hok hW
  go_enter Try.func16, Try.ntmps16
  go_wp2_with fail
  rw [← HW.out, HZ.out]
  clear x0
  refine (there_at _ _ W HD0.out.n).mono ?_
  rintro e w1 ⟨rfl, hb1⟩
  rw [unE_there HO.out.n1]
  have HB1 := Lib.hid hb1
  have HD1 := Lib.hid (HD0.out.on hb1)
  have hx1 := HX.out w1 hb1
  clear hb1
  go_wp2_with fail
  refine told_yes1 _ _ _ w1 _ ent_copy1 ((copy1_any S p w.heap.size D HO.out w1 hx1 HD1.out).mono ?_)
  rintro e w2 ⟨⟨q, rfl, hd⟩, hb2⟩
  have HB2 := Lib.hid (below_on HB1.out hb2)
  have HD := Lib.hid (hd.new (w := w) (Nat.le_trans HB0.out.size HB1.out.size))
  refine ⟨_, rfl, ?_⟩
  clear hd hb2 hx1
  go_wp2_with fail
  go_ret
  exact ⟨⟨q, rfl, HD.out⟩, HB0.out.trans (HB2.out.mono HB0.out.size)⟩

end Go.Proofs.Ytekeooeapiodmaa

