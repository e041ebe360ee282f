/- Package disk: Read, Lies. -/
import Derived.Test.YtekeooeapiodmaaZDkJ
namespace Go.Proofs.Ytekeooeapiodmaa
open Go Go.RowKit Go.Shelf
set_option linter.unusedSimpArgs false
set_option linter.unusedVariables false
set_option maxRecDepth 100000

attribute [local go_sem] Oper.semAt_some

/-- Two questions: is there a disk, has it that sector? -/
theorem in_at (n p b1 b2 : Nat) (k : Int) (w : World) (hn : 1 ≤ n) (h : ∀ w', Below w.heap.size w w' → DkN w' (.pointer (some ⟨p, 0, none⟩)) n ∧ w'.cell? ⟨p, 0, none⟩ = some (.int .i64 n) ∧ w'.cell? ⟨b1, 0, none⟩ = some (.pointer (some ⟨p, 0, none⟩)) ∧ w'.cell? ⟨b2, 0, none⟩ = some (.int .i64 k)) :
    Calls Try.prog 26 #[.slice (some ⟨w.heap.size, 0, none⟩) 2 2] (w.alloc (.cells #[.func (.func 31) #[.pointer (some ⟨p, 0, none⟩)] #[], .func (.func 66) #[] #[.pointer (some ⟨b1, 0, none⟩), .pointer (some ⟨b2, 0, none⟩)]] 59)) fun e w' => e = .returned (.int .i64 (unE (hasS n k) 4)) ∧ Below w.heap.size w w' := by
  have e0 := unE_there hn
  obtain ⟨l, hl⟩ : ∃ l : List Ask, l = [⟨31, #[.pointer (some ⟨p, 0, none⟩)], #[], unE (!(n == 0)) 1⟩, ⟨66, #[], #[.pointer (some ⟨b1, 0, none⟩), .pointer (some ⟨b2, 0, none⟩)], unE (hasS n k) 4⟩] := ⟨_, rfl⟩
  have hf : firstE l = unE (hasS n k) 4 := by
    rw [hl, firstE, if_pos e0]
    exact firstE_one _
  have hlen : l.length = 2 := by rw [hl]; rfl
  have hm : (l.map fun q => Value.func (.func q.g) q.fs q.lb).toArray = #[.func (.func 31) #[.pointer (some ⟨p, 0, none⟩)] #[], .func (.func 66) #[] #[.pointer (some ⟨b1, 0, none⟩), .pointer (some ⟨b2, 0, none⟩)]] := by rw [hl]; rfl
  have hA : AsksAt (w.alloc (.cells (l.map fun q => Value.func (.func q.g) q.fs q.lb).toArray 59)) l := by
    intro j q hq _
    have hb0 : ∀ w', Below (w.alloc (.cells (l.map fun q => Value.func (.func q.g) q.fs q.lb).toArray 59)).heap.size (w.alloc (.cells (l.map fun q => Value.func (.func q.g) q.fs q.lb).toArray 59)) w' → Below w.heap.size w w' := fun w' hb => (below_al (Below.refl _ _) _).trans (hb.mono (by simp))
    rw [hl] at hq
    match j, hq with
    | 0, hq =>
      injection hq with hq
      subst hq
      exact ⟨ent_there, fun w' hb => (dthere_any _ n w' (h w' (hb0 w' hb)).1).mono fun e w'' h => ⟨h.1, by rw [← h.2]; exact Below.refl _ _⟩⟩
    | 1, hq =>
      injection hq with hq
      subst hq
      refine ⟨ent_within, fun w' hb => ?_⟩
      obtain ⟨_, h1, h2, h3⟩ := h w' (hb0 w' hb)
      exact dwithin1_any p b1 b2 n k w' h1 h2 h3
    | j + 2, hq => simp at hq
  have hR := refusal_at l w (by omega) (by omega) hA
  rw [hf, hlen, hm] at hR
  exact hR

theorem shown_len {D : DkM} (h : D.ok) (k : Int) : (D.shown k).length = 64 := by
  unfold DkM.shown
  cases hl : lastI D.wt k with
  | none => exact h.lie k
  | some i =>
    obtain ⟨s, hs⟩ := lastI_lt hl
    simp only [hs, Option.map_some, Option.getD_some]
    exact h.wt _ (List.mem_of_getElem? hs)
theorem within_box {W v v1 : World} {q : Option Addr} {k : Int} (F : Below W.heap.size W v) (h : v1 = (v.alloc (.cells #[.pointer q] 23)).alloc (.cells #[.int .i64 k] 3)) : ∀ w', Below v1.heap.size v1 w' → w'.cell? ⟨v.heap.size, 0, none⟩ = some (.pointer q) ∧ w'.cell? ⟨v.heap.size + 1, 0, none⟩ = some (.int .i64 k) := fun w' hb => by
  rw [h] at hb
  have h1 := box_at ((below_al (Below.refl _ _) _).trans (hb.mono (by simp))) 0
  have h2 := box_at hb 0
  rw [World.size_alloc] at h2
  exact ⟨h1, h2⟩

/-- What Read answers. -/
def readP (p : Nat) (D : DkM) (k : Int) (w : World) (e : Ending) (w' : World) : Prop :=
  Below w.heap.size w w' ∧ ((hasS D.n k = true ∧ ∃ g, e = .returned (.tuple #[.slice (some ⟨g, 0, none⟩) 64 64, .int .i64 0]) ∧ Row64 w' g (D.shown k) ∧ w.heap.size ≤ g) ∨ (hasS D.n k = false ∧ e = .returned (.tuple #[.slice none 0 0, .int .i64 4])))

set_option maxHeartbeats 2000000 in
theorem read1_any (S : Nat → Prop) (p b1 b2 : Nat) (D : DkM) (hok : D.ok) (k : Int) (w : World) (h : DkAt w S p D) (h1 : w.cell? ⟨b1, 0, none⟩ = some (.pointer (some ⟨p, 0, none⟩))) (h2 : w.cell? ⟨b2, 0, none⟩ = some (.int .i64 k)) :
    Calls Try.prog 56 #[.pointer (some ⟨b1, 0, none⟩), .pointer (some ⟨b2, 0, none⟩)] w fun e w' => (∃ g, e = .returned (.slice (some ⟨g, 0, none⟩) 64 64) ∧ Row64 w' g (D.shown k) ∧ w.heap.size ≤ g) ∧ Below w.heap.size w w' := by
  have HS := Lib.hid (shown_any S p D hok k w h)
  have HL : Hid ((D.shown k).length = 64) := shown_len hok k
  clear h hok
  go_enter Try.func56, Try.ntmps56
  go_wp2_with fail
  refine HS.out.mono ?_
  rintro e w1 ⟨rfl, hb1⟩
  have HB1 := Lib.hid hb1
  clear hb1 h1 h2
  go_wp2_with fail
  refine (sbytes_any _ HL.out w1).mono ?_
  rintro e w2 ⟨rfl, hr2, hb2⟩
  have HR2 := Lib.hid hr2
  have HB2 := Lib.hid (below_on HB1.out hb2)
  clear hr2 hb2
  go_wp2_with fail
  go_ret
  exact ⟨⟨_, rfl, HR2.out, HB1.out.size⟩, HB2.out⟩

set_option maxHeartbeats 4000000 in
theorem read_any (S : Nat → Prop) (p : Nat) (D : DkM) (hok : D.ok) (k : Int) (w : World) (h : DkAt w S p D) : Calls Try.prog 24 #[.pointer (some ⟨p, 0, none⟩), .int .i64 k] w (readP p D k w) := by
  have hmf : ∀ (fn : Fn) (first cap : Array Value) (w : World), (Instr.makeFunc fn first cap).run Try.prog w = .ok (.func fn first cap) w := fun _ _ _ _ => rfl
  obtain ⟨W, hW⟩ : ∃ W, W = (w.alloc (.cells #[.pointer (some ⟨p, 0, none⟩)] 23)).alloc (.cells #[.int .i64 k] 3) := ⟨_, rfl⟩
  have HB0 : Hid (Below w.heap.size w W) := by rw [hW]; exact below_al (below_al (Below.refl _ _) _) _
  have HZ : Hid (W.heap.size = w.heap.size + 2) := by rw [Hid, hW]; simp
  have HX : Hid (∀ w', Below W.heap.size W w' → (w'.cell? ⟨w.heap.size, 0, none⟩ = some (.pointer (some ⟨p, 0, none⟩)) ∧ w'.cell? ⟨w.heap.size + 1, 0, none⟩ = some (.int .i64 k))) := fun w' h => by
    rw [hW] at h
    have h1 := box_at ((below_al (Below.refl _ _) _).trans (h.mono (by simp))) 0
    have h2 := box_at h 0
    rw [World.size_alloc] at h2
    exact ⟨h1, h2⟩
  have HO := Lib.hid hok
  have HD0 : Hid (DkAt W S p D) := h.on HB0.out
  have HW := Lib.hid hW
  clear h hok hW
  go_enter Try.func24, Try.ntmps24
  go_upto_region 1 with fail
  rw [← HW.out]
  have F : Below W.heap.size W W.drew := (Below.refl _ _).drew
  cases hq : hasS D.n k
  · have HQ := Lib.hid hq
    clear hq
    refine wp_region_T (fun w' => (w'.cell? ⟨w.heap.size, 0, none⟩ = some (.pointer (some ⟨p, 0, none⟩)) ∧ w'.cell? ⟨w.heap.size + 1, 0, none⟩ = some (.int .i64 k))) 13 (by kernel_rfl) ?_
    refine wpAnyT_take (i := 0) (v := ?_) rfl (by kernel_rfl) (by kernel_rfl) (by kernel_rfl) (by kernel_rfl) (fun _ _ _ h => h) (Or.inl ⟨by rfl, ?_⟩) (HX.out _ F) ?_
    rotate_left
    · intro w hSw
      (try dsimp only at hSw)
      go_simp
      all_goals with_reducible rfl
    simp only [Act.put, List.setIfInBounds_toArray, List.set_cons_zero, List.set_cons_succ]
    refine wpAnyT_take (i := 1) (v := ?_) rfl (by kernel_rfl) (by kernel_rfl) (by kernel_rfl) (by kernel_rfl) (fun _ _ _ h => h) (Or.inl ⟨by rfl, ?_⟩) (HX.out _ F) ?_
    rotate_left
    · intro w hSw
      (try dsimp only at hSw)
      go_simp
      all_goals with_reducible rfl
    simp only [Act.put, List.setIfInBounds_toArray, List.set_cons_zero, List.set_cons_succ]
    refine wpAnyT_take (i := 2) (v := ?_) rfl (by kernel_rfl) (by kernel_rfl) (by kernel_rfl) (by kernel_rfl) (fun _ _ _ h => h) (Or.inl ⟨by rfl, ?_⟩) (HX.out _ F) ?_
    rotate_left
    · intro w hSw
      (try dsimp only at hSw)
      go_simp
      all_goals with_reducible rfl
    simp only [Act.put, List.setIfInBounds_toArray, List.set_cons_zero, List.set_cons_succ]
    refine wpAnyT_take (i := 3) (v := ?_) rfl (by kernel_rfl) (by kernel_rfl) (by kernel_rfl) (by kernel_rfl) (fun _ _ _ h => h) (Or.inl ⟨by rfl, ?_⟩) (HX.out _ F) ?_
    rotate_left
    · intro w hSw
      (try dsimp only at hSw)
      go_simp
      all_goals with_reducible rfl
    simp only [Act.put, List.setIfInBounds_toArray, List.set_cons_zero, List.set_cons_succ]
    refine wpAnyT_take (i := 7) (v := ?_) rfl (by kernel_rfl) (by kernel_rfl) (by kernel_rfl) (by kernel_rfl) (fun _ _ _ h => h) (Or.inl ⟨by rfl, ?_⟩) (HX.out _ F) ?_
    rotate_left
    · intro w hSw
      (try dsimp only at hSw)
      go_simp
      all_goals with_reducible rfl
    simp only [Act.put, List.setIfInBounds_toArray, List.set_cons_zero, List.set_cons_succ]
    refine wpAnyT_one (i := 4) (by kernel_rfl) rfl (fun K hK => ?_)
    go_simp
    refine (dwithin_any _ k _).mono ?_
    rintro e v1 ⟨rfl, hv1⟩
    have hY : ∀ w', Below v1.heap.size v1 w' → w'.cell? ⟨W.heap.size, 0, none⟩ = some (.pointer (some ⟨p, 0, none⟩)) ∧ w'.cell? ⟨W.heap.size + 1, 0, none⟩ = some (.int .i64 k) := fun w' hb => within_box (W := W) (v := W.drew) F hv1 w' hb
    have F1 : Below W.drew.heap.size W.drew v1 := by rw [hv1]; exact below_al (below_al (Below.refl _ _) _) _
    have HY := Lib.hid hY
    replace F := below_on F F1
    clear hv1 hY F1
    refine hK.out _ _ (fun _ => (HX.out _ F)) ?_
    clear hK K
    try simp only [Act.put, List.setIfInBounds_toArray, List.set_cons_zero, List.set_cons_succ]
    refine wpAnyT_one (i := 5) (by kernel_rfl) rfl (fun K hK => ?_)
    go_simp
    refine hK.out _ _ (fun _ => (HX.out _ (below_al F _))) ?_
    clear hK K
    try simp only [Act.put, List.setIfInBounds_toArray, List.set_cons_zero, List.set_cons_succ]
    refine wpAnyT_one (i := 6) (by kernel_rfl) rfl (fun K hK => ?_)
    go_simp
    refine (in_at D.n p W.heap.size (W.heap.size + 1) k v1 HO.out.n1 (fun w' hb => ?_)).mono ?_
    · obtain ⟨y0, y1⟩ := HY.out w' hb
      have hd := HD0.out.on (below_on F hb)
      obtain ⟨_, m1, m2, v, hr⟩ := hd.row
      exact ⟨hd.n, hr.1 0 _ rfl, y0, y1⟩
    rintro e v2 ⟨rfl, hb2⟩
    rw [HQ.out, show unE false 4 = 4 from rfl]
    replace F := below_on F hb2
    clear hb2
    refine hK.out _ _ (fun _ => (HX.out _ F)) ?_
    clear hK K
    try simp only [Act.put, List.setIfInBounds_toArray, List.set_cons_zero, List.set_cons_succ]
    refine wpAnyT_one (i := 8) (by kernel_rfl) rfl (fun K hK => ?_)
    go_simp
    refine (told_no4 4 (by decide) _ _).mono ?_
    rintro e v3 ⟨rfl, h3⟩
    subst h3
    refine hK.out _ _ (fun _ => (HX.out _ F)) ?_
    clear hK K
    try simp only [Act.put, List.setIfInBounds_toArray, List.set_cons_zero, List.set_cons_succ]
    refine wpAnyT_take (i := 9) (v := ?_) rfl (by kernel_rfl) (by kernel_rfl) (by kernel_rfl) (by kernel_rfl) (fun _ _ _ h => h) (Or.inl ⟨by rfl, ?_⟩) (HX.out _ F) ?_
    rotate_left
    · intro w hSw
      (try dsimp only at hSw)
      go_simp
      all_goals with_reducible rfl
    simp only [Act.put, List.setIfInBounds_toArray, List.set_cons_zero, List.set_cons_succ]
    refine wpAnyT_take (i := 10) (v := ?_) rfl (by kernel_rfl) (by kernel_rfl) (by kernel_rfl) (by kernel_rfl) (fun _ _ _ h => h) (Or.inl ⟨by rfl, ?_⟩) (HX.out _ F) ?_
    rotate_left
    · intro w hSw
      (try dsimp only at hSw)
      go_simp
      all_goals with_reducible rfl
    simp only [Act.put, List.setIfInBounds_toArray, List.set_cons_zero, List.set_cons_succ]
    refine wpAnyT_take (i := 11) (v := ?_) rfl (by kernel_rfl) (by kernel_rfl) (by kernel_rfl) (by kernel_rfl) (fun _ _ _ h => h) (Or.inl ⟨by rfl, ?_⟩) (HX.out _ F) ?_
    rotate_left
    · intro w hSw
      (try dsimp only at hSw)
      go_simp
      all_goals with_reducible rfl
    simp only [Act.put, List.setIfInBounds_toArray, List.set_cons_zero, List.set_cons_succ]
    refine wpAnyT_take (i := 12) (v := ?_) rfl (by kernel_rfl) (by kernel_rfl) (by kernel_rfl) (by kernel_rfl) (fun _ _ _ h => h) (Or.inl ⟨by rfl, ?_⟩) (HX.out _ F) ?_
    rotate_left
    · intro w hSw
      (try dsimp only at hSw)
      go_simp
      all_goals with_reducible rfl
    simp only [Act.put, List.setIfInBounds_toArray, List.set_cons_zero, List.set_cons_succ]
    refine wpAnyT_done (by kernel_rfl) ?_ _
    have HF := Lib.hid F
    clear F
    go_wp2_with fail
    go_ret2
    exact ⟨HB0.out.trans (HF.out.mono HB0.out.size), .inr ⟨HQ.out, rfl⟩⟩
  · have HQ := Lib.hid hq
    clear hq
    refine wp_region_T (fun w' => (w'.cell? ⟨w.heap.size, 0, none⟩ = some (.pointer (some ⟨p, 0, none⟩)) ∧ w'.cell? ⟨w.heap.size + 1, 0, none⟩ = some (.int .i64 k))) 13 (by kernel_rfl) ?_
    refine wpAnyT_take (i := 0) (v := ?_) rfl (by kernel_rfl) (by kernel_rfl) (by kernel_rfl) (by kernel_rfl) (fun _ _ _ h => h) (Or.inl ⟨by rfl, ?_⟩) (HX.out _ F) ?_
    rotate_left
    · intro w hSw
      (try dsimp only at hSw)
      go_simp
      all_goals with_reducible rfl
    simp only [Act.put, List.setIfInBounds_toArray, List.set_cons_zero, List.set_cons_succ]
    refine wpAnyT_take (i := 1) (v := ?_) rfl (by kernel_rfl) (by kernel_rfl) (by kernel_rfl) (by kernel_rfl) (fun _ _ _ h => h) (Or.inl ⟨by rfl, ?_⟩) (HX.out _ F) ?_
    rotate_left
    · intro w hSw
      (try dsimp only at hSw)
      go_simp
      all_goals with_reducible rfl
    simp only [Act.put, List.setIfInBounds_toArray, List.set_cons_zero, List.set_cons_succ]
    refine wpAnyT_take (i := 2) (v := ?_) rfl (by kernel_rfl) (by kernel_rfl) (by kernel_rfl) (by kernel_rfl) (fun _ _ _ h => h) (Or.inl ⟨by rfl, ?_⟩) (HX.out _ F) ?_
    rotate_left
    · intro w hSw
      (try dsimp only at hSw)
      go_simp
      all_goals with_reducible rfl
    simp only [Act.put, List.setIfInBounds_toArray, List.set_cons_zero, List.set_cons_succ]
    refine wpAnyT_take (i := 3) (v := ?_) rfl (by kernel_rfl) (by kernel_rfl) (by kernel_rfl) (by kernel_rfl) (fun _ _ _ h => h) (Or.inl ⟨by rfl, ?_⟩) (HX.out _ F) ?_
    rotate_left
    · intro w hSw
      (try dsimp only at hSw)
      go_simp
      all_goals with_reducible rfl
    simp only [Act.put, List.setIfInBounds_toArray, List.set_cons_zero, List.set_cons_succ]
    refine wpAnyT_take (i := 7) (v := ?_) rfl (by kernel_rfl) (by kernel_rfl) (by kernel_rfl) (by kernel_rfl) (fun _ _ _ h => h) (Or.inl ⟨by rfl, ?_⟩) (HX.out _ F) ?_
    rotate_left
    · intro w hSw
      (try dsimp only at hSw)
      go_simp
      all_goals with_reducible rfl
    simp only [Act.put, List.setIfInBounds_toArray, List.set_cons_zero, List.set_cons_succ]
    refine wpAnyT_one (i := 4) (by kernel_rfl) rfl (fun K hK => ?_)
    go_simp
    refine (dwithin_any _ k _).mono ?_
    rintro e v1 ⟨rfl, hv1⟩
    have hY : ∀ w', Below v1.heap.size v1 w' → w'.cell? ⟨W.heap.size, 0, none⟩ = some (.pointer (some ⟨p, 0, none⟩)) ∧ w'.cell? ⟨W.heap.size + 1, 0, none⟩ = some (.int .i64 k) := fun w' hb => within_box (W := W) (v := W.drew) F hv1 w' hb
    have F1 : Below W.drew.heap.size W.drew v1 := by rw [hv1]; exact below_al (below_al (Below.refl _ _) _) _
    have HY := Lib.hid hY
    replace F := below_on F F1
    clear hv1 hY F1
    refine hK.out _ _ (fun _ => (HX.out _ F)) ?_
    clear hK K
    try simp only [Act.put, List.setIfInBounds_toArray, List.set_cons_zero, List.set_cons_succ]
    refine wpAnyT_one (i := 5) (by kernel_rfl) rfl (fun K hK => ?_)
    go_simp
    refine hK.out _ _ (fun _ => (HX.out _ (below_al F _))) ?_
    clear hK K
    try simp only [Act.put, List.setIfInBounds_toArray, List.set_cons_zero, List.set_cons_succ]
    refine wpAnyT_one (i := 6) (by kernel_rfl) rfl (fun K hK => ?_)
    go_simp
    refine (in_at D.n p W.heap.size (W.heap.size + 1) k v1 HO.out.n1 (fun w' hb => ?_)).mono ?_
    · obtain ⟨y0, y1⟩ := HY.out w' hb
      have hd := HD0.out.on (below_on F hb)
      obtain ⟨_, m1, m2, v, hr⟩ := hd.row
      exact ⟨hd.n, hr.1 0 _ rfl, y0, y1⟩
    rintro e v2 ⟨rfl, hb2⟩
    rw [HQ.out, show unE true 4 = 0 from rfl]
    replace F := below_on F hb2
    clear hb2
    refine hK.out _ _ (fun _ => (HX.out _ F)) ?_
    clear hK K
    try simp only [Act.put, List.setIfInBounds_toArray, List.set_cons_zero, List.set_cons_succ]
    refine wpAnyT_one (i := 8) (by kernel_rfl) rfl (fun K hK => ?_)
    go_simp
    obtain ⟨y0, y1⟩ := HX.out _ F
    refine told_yes4 _ _ _ v2 _ (enters_of Try.func56 (by kernel_rfl) rfl) ((read1_any S p w.heap.size (w.heap.size + 1) D HO.out k v2 (HD0.out.on F) y0 y1).mono ?_)
    rintro e v3 ⟨⟨gg, rfl, hr3, hg3⟩, hb3⟩
    refine ⟨_, rfl, ?_⟩
    have HR3 := Lib.hid hr3
    have HG3 : Hid (w.heap.size ≤ gg) := by have := HB0.out.size; have := F.size; rw [Hid]; omega
    replace F := below_on F hb3
    clear hr3 hg3 hb3 y0 y1
    refine hK.out _ _ (fun _ => (HX.out _ F)) ?_
    clear hK K
    try simp only [Act.put, List.setIfInBounds_toArray, List.set_cons_zero, List.set_cons_succ]
    refine wpAnyT_take (i := 9) (v := ?_) rfl (by kernel_rfl) (by kernel_rfl) (by kernel_rfl) (by kernel_rfl) (fun _ _ _ h => h) (Or.inl ⟨by rfl, ?_⟩) (HX.out _ F) ?_
    rotate_left
    · intro w hSw
      (try dsimp only at hSw)
      go_simp
      all_goals with_reducible rfl
    simp only [Act.put, List.setIfInBounds_toArray, List.set_cons_zero, List.set_cons_succ]
    refine wpAnyT_take (i := 10) (v := ?_) rfl (by kernel_rfl) (by kernel_rfl) (by kernel_rfl) (by kernel_rfl) (fun _ _ _ h => h) (Or.inl ⟨by rfl, ?_⟩) (HX.out _ F) ?_
    rotate_left
    · intro w hSw
      (try dsimp only at hSw)
      go_simp
      all_goals with_reducible rfl
    simp only [Act.put, List.setIfInBounds_toArray, List.set_cons_zero, List.set_cons_succ]
    refine wpAnyT_take (i := 11) (v := ?_) rfl (by kernel_rfl) (by kernel_rfl) (by kernel_rfl) (by kernel_rfl) (fun _ _ _ h => h) (Or.inl ⟨by rfl, ?_⟩) (HX.out _ F) ?_
    rotate_left
    · intro w hSw
      (try dsimp only at hSw)
      go_simp
      all_goals with_reducible rfl
    simp only [Act.put, List.setIfInBounds_toArray, List.set_cons_zero, List.set_cons_succ]
    refine wpAnyT_take (i := 12) (v := ?_) rfl (by kernel_rfl) (by kernel_rfl) (by kernel_rfl) (by kernel_rfl) (fun _ _ _ h => h) (Or.inl ⟨by rfl, ?_⟩) (HX.out _ F) ?_
    rotate_left
    · intro w hSw
      (try dsimp only at hSw)
      go_simp
      all_goals with_reducible rfl
    simp only [Act.put, List.setIfInBounds_toArray, List.set_cons_zero, List.set_cons_succ]
    refine wpAnyT_done (by kernel_rfl) ?_ _
    have HF := Lib.hid F
    clear F
    go_wp2_with fail
    go_ret2
    exact ⟨HB0.out.trans (HF.out.mono HB0.out.size), .inl ⟨HQ.out, gg, rfl, HR3.out, HG3.out⟩⟩

end Go.Proofs.Ytekeooeapiodmaa

