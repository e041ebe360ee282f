/- Joined texts. -/
import Derived.Test.YtlmdbeccfoncpaaGreatDoorZRfS
import Derived.Test.YtlmdbeccfoncpaaGreatDoorZPmU
import Derived.Test.YtlmdbeccfoncpaaGreatDoorZKk
namespace Go.Proofs.YtlmdbeccfoncpaaGreatDoor
open Go Go.RowKit Go.Shelf
set_option linter.unusedSimpArgs false
set_option linter.unusedVariables false
set_option maxRecDepth 100000

attribute [local go_sem] Oper.semAt_some

set_option maxRecDepth 100000
theorem ritemS_any (n m : Nat) (h : 0 < n ∨ m = 0) (hn : n ≤ 4294967295) (hm : m ≤ 4294967295) (w : World) :
    Calls Tryz.prog 71 #[.agg #[.int .u32 n, .int .u32 m]] w fun e w' => ∃ a c A C, e = .returned (.agg #[.int .i64 4, .int .u64 0, .slice a 0 c, .string ⟨#[]⟩, .slice A 2 C]) ∧ ItS w' (newB w w') (.agg #[.int .i64 4, .int .u64 0, .slice a 0 c, .string ⟨#[]⟩, .slice A 2 C]) (itE n m) ∧ Below w.heap.size w w' := by
  have hex : ∃ y0 y1, itE n m = itLs [y0, y1] := by
    unfold itE
    split
    · exact ⟨_, _, rfl⟩
    · exact ⟨_, _, rfl⟩
  obtain ⟨y0, y1, hy⟩ := hex
  refine (refItem_any n m h hn hm w).mono ?_
  rintro e w' ⟨⟨v, rfl, hv⟩, hb⟩
  obtain ⟨a, c, A, C, e1⟩ := hv.form
  rw [hy] at e1
  have e2 : v = .agg #[.int .i64 4, .int .u64 0, .slice a 0 c, .string ⟨#[]⟩, .slice A 2 C] := e1
  subst e2
  exact ⟨a, c, A, C, rfl, hv, hb⟩

theorem its_late {w0 w w' : World} {v : Value} {x : It} (h : ItS w (newB w0 w) v x) (hb : Below w.heap.size w w') : ItS w' (newB (bare w') w') v x :=
  ItS.more (S := newB w0 w) (fun b q => ⟨Nat.zero_le _, Nat.lt_of_lt_of_le q.2 hb.size⟩) _ (ItS.keep (S := newB w0 w) (fun b q => hb.block b q.2) _ h)

theorem li_cons {w : World} {S : Nat → Prop} {x : It} {l : List It} {v0 v1 v2 v3 v4 : Value} {ys : List Value} (hx : ItS w S (.agg #[v0, v1, v2, v3, v4]) x) (h : LI w S ys l) : LI w S (v0 :: v1 :: v2 :: v3 :: v4 :: ys) (x :: l) :=
  LI.app (l := [x]) (m := l) h (LI.one hx)

/-- A row of items just laid. -/
theorem row_items {w : World} {ys : List Value} {l : List It} {cs : Array Value} {t : TypeId} (hcs : cs.toList = ys) (hl : LI (w.alloc (.cells cs t)) (newB (bare (w.alloc (.cells cs t))) (w.alloc (.cells cs t))) ys l) (hn : l.length ≤ 1000) :
    ItV (w.alloc (.cells cs t)) (w.alloc (.cells cs t)).heap.size (listV (some ⟨w.heap.size, 0, none⟩) l.length l.length) (itLs l) ∧ SrcI (w.alloc (.cells cs t)) (some ⟨w.heap.size, 0, none⟩) l := by
  have hc : ∀ j u, ys[j]? = some u → (w.alloc (.cells cs t)).cell? ⟨w.heap.size, 0 + j, none⟩ = some u := fun j u hu => by
    rw [Nat.zero_add, World.cell?_alloc_mark, ← hu, ← hcs]
    simp
  have hg : w.heap.size < (w.alloc (.cells cs t)).heap.size := by simp
  refine ⟨ItS.itV (fun b q => q.2) _ (itS_list rfl (Nat.le_refl _) (by omega) ⟨Nat.zero_le _, hg⟩ (LI.itSL hl hc)), ys, hl, .inr ⟨_, 0, rfl, hg, hc⟩⟩

set_option maxHeartbeats 16000000 in
theorem ritems_any (p : Pm) (hp : p.fine) (w : World) : Calls Tryz.prog 41 #[.agg #[.int .u32 p.f, .int .i64 p.s, .int .u32 p.tn, .int .u32 p.tm, .int .u32 p.sn, .int .u32 p.sm, .int .u32 p.rn, .int .u32 p.rm, .int .u64 p.t, .int .u32 p.q, .int .u64 p.l]] w fun e w' => ∃ g, e = .returned (.slice (some ⟨g, 0, none⟩) 8 8) ∧ ItV w' w'.heap.size (listV (some ⟨g, 0, none⟩) 8 8) (itLs (itsP p)) ∧ SrcI w' (some ⟨g, 0, none⟩) (itsP p) ∧ Below w.heap.size w w' := by
  obtain ⟨W, hW⟩ : ∃ W, W = w.alloc (.cells #[.int .u32 p.f, .int .i64 p.s, .int .u32 p.tn, .int .u32 p.tm, .int .u32 p.sn, .int .u32 p.sm, .int .u32 p.rn, .int .u32 p.rm, .int .u64 p.t, .int .u32 p.q, .int .u64 p.l] 28) := ⟨_, rfl⟩
  have HB0 : Hid (Below w.heap.size w W) := by rw [hW]; exact below_al (Below.refl _ _) _
  have HX : Hid (∀ w', Below W.heap.size W w' → (w'.cell? ⟨w.heap.size, 0, none⟩ = some (.int .u32 p.f) ∧ w'.cell? ⟨w.heap.size, 1, none⟩ = some (.int .i64 p.s) ∧ w'.cell? ⟨w.heap.size, 2, none⟩ = some (.int .u32 p.tn) ∧ w'.cell? ⟨w.heap.size, 3, none⟩ = some (.int .u32 p.tm) ∧ w'.cell? ⟨w.heap.size, 4, none⟩ = some (.int .u32 p.sn) ∧ w'.cell? ⟨w.heap.size, 5, none⟩ = some (.int .u32 p.sm) ∧ w'.cell? ⟨w.heap.size, 6, none⟩ = some (.int .u32 p.rn) ∧ w'.cell? ⟨w.heap.size, 7, none⟩ = some (.int .u32 p.rm) ∧ w'.cell? ⟨w.heap.size, 8, none⟩ = some (.int .u64 p.t) ∧ w'.cell? ⟨w.heap.size, 9, none⟩ = some (.int .u32 p.q) ∧ w'.cell? ⟨w.heap.size, 10, none⟩ = some (.int .u64 p.l))) := fun w' h => by
    rw [hW] at h
    exact pbox h
  have HW := Lib.hid hW
  have hs1 := hp.s
  have hf1 := hp.ok.f
  have hq1 := hp.ok.q
  have ht1 := hp.ok.t
  have hl1 := hp.ok.l
  have hcf : IntKind.u64.wrap (p.f : Int) = (p.f : Int) := by rw [IntKind.wrap_u64]; omega
  have hcq : IntKind.u64.wrap (p.q : Int) = (p.q : Int) := by rw [IntKind.wrap_u64]; omega
  have hcs : IntKind.u64.wrap p.s = p.s := by rw [IntKind.wrap_u64]; omega
  clear hW
  go_enter Tryz.func41, Tryz.ntmps41
  go_wp2_with fail
  rw [← HW.out]
  have F : Below W.heap.size W W.drew := (Below.refl _ _).drew
  refine wp_region_held_drew (S := fun w' => (w'.cell? ⟨w.heap.size, 0, none⟩ = some (.int .u32 p.f) ∧ w'.cell? ⟨w.heap.size, 1, none⟩ = some (.int .i64 p.s) ∧ w'.cell? ⟨w.heap.size, 2, none⟩ = some (.int .u32 p.tn) ∧ w'.cell? ⟨w.heap.size, 3, none⟩ = some (.int .u32 p.tm) ∧ w'.cell? ⟨w.heap.size, 4, none⟩ = some (.int .u32 p.sn) ∧ w'.cell? ⟨w.heap.size, 5, none⟩ = some (.int .u32 p.sm) ∧ w'.cell? ⟨w.heap.size, 6, none⟩ = some (.int .u32 p.rn) ∧ w'.cell? ⟨w.heap.size, 7, none⟩ = some (.int .u32 p.rm) ∧ w'.cell? ⟨w.heap.size, 8, none⟩ = some (.int .u64 p.t) ∧ w'.cell? ⟨w.heap.size, 9, none⟩ = some (.int .u32 p.q) ∧ w'.cell? ⟨w.heap.size, 10, none⟩ = some (.int .u64 p.l))) (by kernel_rfl) (HX.out _ F) (fun hHeld => ?_)
  refine take_listed (i := 1) (v := ?_) rfl (by kernel_rfl) (by kernel_rfl) (by kernel_rfl) (fun _ _ _ h => h) (Or.inl ⟨by rfl, ?_⟩) (by assumption) ?_
  rotate_left
  · intro w hSw
    (try dsimp only at hSw)
    go_simp
    all_goals with_reducible rfl
  simp only [Act.put, List.setIfInBounds_toArray, List.set_cons_zero, List.set_cons_succ]
  refine take_listed (i := 2) (v := ?_) rfl (by kernel_rfl) (by kernel_rfl) (by kernel_rfl) (fun _ _ _ h => h) (Or.inl ⟨by rfl, ?_⟩) (by assumption) ?_
  rotate_left
  · intro w hSw
    (try dsimp only at hSw)
    go_simp
    all_goals with_reducible rfl
  simp only [Act.put, List.setIfInBounds_toArray, List.set_cons_zero, List.set_cons_succ]
  refine take_listed (i := 3) (v := ?_) rfl (by kernel_rfl) (by kernel_rfl) (by kernel_rfl) (fun _ _ _ h => h) (Or.inl ⟨by rfl, ?_⟩) (by assumption) ?_
  rotate_left
  · intro w hSw
    (try dsimp only at hSw)
    go_simp
    all_goals with_reducible rfl
  simp only [Act.put, List.setIfInBounds_toArray, List.set_cons_zero, List.set_cons_succ]
  refine take_listed (i := 5) (v := ?_) rfl (by kernel_rfl) (by kernel_rfl) (by kernel_rfl) (fun _ _ _ h => h) (Or.inl ⟨by rfl, ?_⟩) (by assumption) ?_
  rotate_left
  · intro w hSw
    (try dsimp only at hSw)
    go_simp
    all_goals with_reducible rfl
  simp only [Act.put, List.setIfInBounds_toArray, List.set_cons_zero, List.set_cons_succ]
  refine take_listed (i := 6) (v := ?_) rfl (by kernel_rfl) (by kernel_rfl) (by kernel_rfl) (fun _ _ _ h => h) (Or.inl ⟨by rfl, ?_⟩) (by assumption) ?_
  rotate_left
  · intro w hSw
    (try dsimp only at hSw)
    go_simp
    all_goals with_reducible rfl
  simp only [Act.put, List.setIfInBounds_toArray, List.set_cons_zero, List.set_cons_succ]
  refine take_listed (i := 7) (v := ?_) rfl (by kernel_rfl) (by kernel_rfl) (by kernel_rfl) (fun _ _ _ h => h) (Or.inl ⟨by rfl, ?_⟩) (by assumption) ?_
  rotate_left
  · intro w hSw
    (try dsimp only at hSw)
    go_simp
    all_goals with_reducible rfl
  simp only [Act.put, List.setIfInBounds_toArray, List.set_cons_zero, List.set_cons_succ]
  refine take_listed (i := 9) (v := ?_) rfl (by kernel_rfl) (by kernel_rfl) (by kernel_rfl) (fun _ _ _ h => h) (Or.inl ⟨by rfl, ?_⟩) (by assumption) ?_
  rotate_left
  · intro w hSw
    (try dsimp only at hSw)
    go_simp
    all_goals with_reducible rfl
  simp only [Act.put, List.setIfInBounds_toArray, List.set_cons_zero, List.set_cons_succ]
  refine take_listed (i := 10) (v := ?_) rfl (by kernel_rfl) (by kernel_rfl) (by kernel_rfl) (fun _ _ _ h => h) (Or.inl ⟨by rfl, ?_⟩) (by assumption) ?_
  rotate_left
  · intro w hSw
    (try dsimp only at hSw)
    go_simp
    all_goals with_reducible rfl
  simp only [Act.put, List.setIfInBounds_toArray, List.set_cons_zero, List.set_cons_succ]
  refine take_listed (i := 12) (v := ?_) rfl (by kernel_rfl) (by kernel_rfl) (by kernel_rfl) (fun _ _ _ h => h) (Or.inl ⟨by rfl, ?_⟩) (by assumption) ?_
  rotate_left
  · intro w hSw
    (try dsimp only at hSw)
    go_simp
    all_goals with_reducible rfl
  simp only [Act.put, List.setIfInBounds_toArray, List.set_cons_zero, List.set_cons_succ]
  refine take_listed (i := 13) (v := ?_) rfl (by kernel_rfl) (by kernel_rfl) (by kernel_rfl) (fun _ _ _ h => h) (Or.inl ⟨by rfl, ?_⟩) (by assumption) ?_
  rotate_left
  · intro w hSw
    (try dsimp only at hSw)
    go_simp
    all_goals with_reducible rfl
  simp only [Act.put, List.setIfInBounds_toArray, List.set_cons_zero, List.set_cons_succ]
  refine take_listed (i := 15) (v := ?_) rfl (by kernel_rfl) (by kernel_rfl) (by kernel_rfl) (fun _ _ _ h => h) (Or.inl ⟨by rfl, ?_⟩) (by assumption) ?_
  rotate_left
  · intro w hSw
    (try dsimp only at hSw)
    go_simp
    all_goals with_reducible rfl
  simp only [Act.put, List.setIfInBounds_toArray, List.set_cons_zero, List.set_cons_succ]
  refine take_listed (i := 16) (v := ?_) rfl (by kernel_rfl) (by kernel_rfl) (by kernel_rfl) (fun _ _ _ h => h) (Or.inl ⟨by rfl, ?_⟩) (by assumption) ?_
  rotate_left
  · intro w hSw
    (try dsimp only at hSw)
    go_simp
    all_goals with_reducible rfl
  simp only [Act.put, List.setIfInBounds_toArray, List.set_cons_zero, List.set_cons_succ]
  refine take_listed (i := 18) (v := ?_) rfl (by kernel_rfl) (by kernel_rfl) (by kernel_rfl) (fun _ _ _ h => h) (Or.inl ⟨by rfl, ?_⟩) (by assumption) ?_
  rotate_left
  · intro w hSw
    (try dsimp only at hSw)
    go_simp
    all_goals with_reducible rfl
  simp only [Act.put, List.setIfInBounds_toArray, List.set_cons_zero, List.set_cons_succ]
  refine take_listed (i := 19) (v := ?_) rfl (by kernel_rfl) (by kernel_rfl) (by kernel_rfl) (fun _ _ _ h => h) (Or.inl ⟨by rfl, ?_⟩) (by assumption) ?_
  rotate_left
  · intro w hSw
    (try dsimp only at hSw)
    go_simp
    all_goals with_reducible rfl
  simp only [Act.put, List.setIfInBounds_toArray, List.set_cons_zero, List.set_cons_succ]
  refine take_listed (i := 21) (v := ?_) rfl (by kernel_rfl) (by kernel_rfl) (by kernel_rfl) (fun _ _ _ h => h) (Or.inl ⟨by rfl, ?_⟩) (by assumption) ?_
  rotate_left
  · intro w hSw
    (try dsimp only at hSw)
    go_simp
    all_goals with_reducible rfl
  simp only [Act.put, List.setIfInBounds_toArray, List.set_cons_zero, List.set_cons_succ]
  refine take_listed (i := 22) (v := ?_) rfl (by kernel_rfl) (by kernel_rfl) (by kernel_rfl) (fun _ _ _ h => h) (Or.inl ⟨by rfl, ?_⟩) (by assumption) ?_
  rotate_left
  · intro w hSw
    (try dsimp only at hSw)
    go_simp
    all_goals with_reducible rfl
  simp only [Act.put, List.setIfInBounds_toArray, List.set_cons_zero, List.set_cons_succ]
  refine take_listed (i := 23) (v := ?_) rfl (by kernel_rfl) (by kernel_rfl) (by kernel_rfl) (fun _ _ _ h => h) (Or.inl ⟨by rfl, ?_⟩) (by assumption) ?_
  rotate_left
  · intro w hSw
    (try dsimp only at hSw)
    go_simp
    all_goals with_reducible rfl
  simp only [Act.put, List.setIfInBounds_toArray, List.set_cons_zero, List.set_cons_succ]
  refine take_listed (i := 27) (v := ?_) rfl (by kernel_rfl) (by kernel_rfl) (by kernel_rfl) (fun _ _ _ h => h) (Or.inl ⟨by rfl, ?_⟩) (by assumption) ?_
  rotate_left
  · intro w hSw
    (try dsimp only at hSw)
    go_simp
    all_goals with_reducible rfl
  simp only [Act.put, List.setIfInBounds_toArray, List.set_cons_zero, List.set_cons_succ]
  refine take_listed (i := 28) (v := ?_) rfl (by kernel_rfl) (by kernel_rfl) (by kernel_rfl) (fun _ _ _ h => h) (Or.inl ⟨by rfl, ?_⟩) (by assumption) ?_
  rotate_left
  · intro w hSw
    (try dsimp only at hSw)
    go_simp
    all_goals with_reducible rfl
  simp only [Act.put, List.setIfInBounds_toArray, List.set_cons_zero, List.set_cons_succ]
  refine wpAnyH_ready (rs := [0]) (by kernel_rfl) (by simp) ?_
  refine AllReadyH.cons rfl (fun K hK => ?_) AllReadyH.nil
  go_simp
  refine (refUint_any _ _).mono ?_
  rintro e w0 ⟨rfl, hb⟩
  replace F := below_on F hb
  clear hb
  refine hK.out _ _ (HX.out _ F) (fun hHeld => ?_)
  clear hK K
  try simp only [Act.put, List.setIfInBounds_toArray, List.set_cons_zero, List.set_cons_succ]
  refine wpAnyH_ready (rs := [4]) (by kernel_rfl) (by simp) ?_
  refine AllReadyH.cons rfl (fun K hK => ?_) AllReadyH.nil
  go_simp
  refine (refUint_any _ _).mono ?_
  rintro e w1 ⟨rfl, hb⟩
  replace F := below_on F hb
  clear hb
  refine hK.out _ _ (HX.out _ F) (fun hHeld => ?_)
  clear hK K
  try simp only [Act.put, List.setIfInBounds_toArray, List.set_cons_zero, List.set_cons_succ]
  refine wpAnyH_ready (rs := [8]) (by kernel_rfl) (by simp) ?_
  refine AllReadyH.cons rfl (fun K hK => ?_) AllReadyH.nil
  go_simp
  refine (refUint_any _ _).mono ?_
  rintro e w2 ⟨rfl, hb⟩
  replace F := below_on F hb
  clear hb
  refine hK.out _ _ (HX.out _ F) (fun hHeld => ?_)
  clear hK K
  try simp only [Act.put, List.setIfInBounds_toArray, List.set_cons_zero, List.set_cons_succ]
  refine wpAnyH_ready (rs := [11]) (by kernel_rfl) (by simp) ?_
  refine AllReadyH.cons rfl (fun K hK => ?_) AllReadyH.nil
  go_simp
  refine (ritemS_any p.tn p.tm hp.ht hp.ok.tn hp.ok.tm _).mono ?_
  rintro e w3 ⟨a3, c3, A3, C3, rfl, hi3, hb⟩
  replace F := below_on F hb
  have HI3 := Lib.hid hi3
  have T3 := Below.refl w3.heap.size w3
  clear hb hi3
  refine hK.out _ _ (HX.out _ F) (fun hHeld => ?_)
  clear hK K
  try simp only [Act.put, List.setIfInBounds_toArray, List.set_cons_zero, List.set_cons_succ]
  refine wpAnyH_ready (rs := [14]) (by kernel_rfl) (by simp) ?_
  refine AllReadyH.cons rfl (fun K hK => ?_) AllReadyH.nil
  go_simp
  refine (ritemS_any p.sn p.sm hp.hso hp.ok.sn hp.ok.sm _).mono ?_
  rintro e w4 ⟨a4, c4, A4, C4, rfl, hi4, hb⟩
  replace F := below_on F hb
  replace T3 := below_on T3 hb
  have HI4 := Lib.hid hi4
  have T4 := Below.refl w4.heap.size w4
  clear hb hi4
  refine hK.out _ _ (HX.out _ F) (fun hHeld => ?_)
  clear hK K
  try simp only [Act.put, List.setIfInBounds_toArray, List.set_cons_zero, List.set_cons_succ]
  refine wpAnyH_ready (rs := [17]) (by kernel_rfl) (by simp) ?_
  refine AllReadyH.cons rfl (fun K hK => ?_) AllReadyH.nil
  go_simp
  refine (ritemS_any p.rn p.rm hp.hre hp.ok.rn hp.ok.rm _).mono ?_
  rintro e w5 ⟨a5, c5, A5, C5, rfl, hi5, hb⟩
  replace F := below_on F hb
  replace T3 := below_on T3 hb
  replace T4 := below_on T4 hb
  have HI5 := Lib.hid hi5
  have T5 := Below.refl w5.heap.size w5
  clear hb hi5
  refine hK.out _ _ (HX.out _ F) (fun hHeld => ?_)
  clear hK K
  try simp only [Act.put, List.setIfInBounds_toArray, List.set_cons_zero, List.set_cons_succ]
  refine wpAnyH_ready (rs := [20]) (by kernel_rfl) (by simp) ?_
  refine AllReadyH.cons rfl (fun K hK => ?_) AllReadyH.nil
  go_simp
  refine (refUint_any _ _).mono ?_
  rintro e w6 ⟨rfl, hb⟩
  replace F := below_on F hb
  replace T3 := below_on T3 hb
  replace T4 := below_on T4 hb
  replace T5 := below_on T5 hb
  clear hb
  refine hK.out _ _ (HX.out _ F) (fun hHeld => ?_)
  clear hK K
  try simp only [Act.put, List.setIfInBounds_toArray, List.set_cons_zero, List.set_cons_succ]
  refine wpAnyH_ready (rs := [24]) (by kernel_rfl) (by simp) ?_
  refine AllReadyH.cons rfl (fun K hK => ?_) AllReadyH.nil
  go_simp
  refine (refUint_any _ _).mono ?_
  rintro e w7 ⟨rfl, hb⟩
  replace F := below_on F hb
  replace T3 := below_on T3 hb
  replace T4 := below_on T4 hb
  replace T5 := below_on T5 hb
  clear hb
  refine hK.out _ _ (HX.out _ F) (fun hHeld => ?_)
  clear hK K
  try simp only [Act.put, List.setIfInBounds_toArray, List.set_cons_zero, List.set_cons_succ]
  refine wpAnyH_ready (rs := [25]) (by kernel_rfl) (by simp) ?_
  refine AllReadyH.cons rfl (fun K hK => ?_) AllReadyH.nil
  go_simp
  have hs7 := F.size
  have hbA := below_al (Below.refl w7.heap.size w7) (.cells #[.int .i64 1, .int .u64 p.t, .slice none 0 0, .string ⟨#[]⟩, .slice none 0 0, .int .i64 1, .int .u64 p.q, .slice none 0 0, .string ⟨#[]⟩, .slice none 0 0] 84)
  replace F := below_on F hbA
  replace T3 := below_on T3 hbA
  replace T4 := below_on T4 hbA
  replace T5 := below_on T5 hbA
  clear hbA
  refine hK.out _ _ (HX.out _ F) (fun hHeld => ?_)
  clear hK K
  try simp only [Act.put, List.setIfInBounds_toArray, List.set_cons_zero, List.set_cons_succ]
  refine wpAnyH_ready (rs := [26]) (by kernel_rfl) (by simp) ?_
  refine AllReadyH.cons rfl (fun K hK => ?_) AllReadyH.nil
  go_simp
  refine (refList_any _ _ _ _).mono ?_
  rintro e w8 ⟨rfl, hb⟩
  have hx : ItS w8 (newB (bare w7) w8) (listV (some ⟨w7.heap.size, 0, none⟩) 2 2) (itLs [itU p.t, itU p.q]) := itS_two ⟨Nat.zero_le _, Nat.lt_of_lt_of_le (by simp) hb.size⟩ ⟨_, _, _, _, _, rfl, box_at hb 0, box_at hb 1, box_at hb 2, box_at hb 3, box_at hb 4⟩ ⟨_, _, _, _, _, rfl, box_at hb 5, box_at hb 6, box_at hb 7, box_at hb 8, box_at hb 9⟩ (itS_uint _ _ _ ⟨by omega, by omega⟩) (itS_uint _ _ _ ⟨by omega, by omega⟩)
  replace F := below_on F hb
  replace T3 := below_on T3 hb
  replace T4 := below_on T4 hb
  replace T5 := below_on T5 hb
  have HI6 := Lib.hid hx
  have T6 := Below.refl w8.heap.size w8
  clear hb hx hs7
  refine hK.out _ _ (HX.out _ F) (fun hHeld => ?_)
  clear hK K
  try simp only [Act.put, List.setIfInBounds_toArray, List.set_cons_zero, List.set_cons_succ]
  refine wpAnyH_ready (rs := [29]) (by kernel_rfl) (by simp) ?_
  refine AllReadyH.cons rfl (fun K hK => ?_) AllReadyH.nil
  go_simp
  refine (refUint_any _ _).mono ?_
  rintro e w9 ⟨rfl, hb⟩
  replace F := below_on F hb
  replace T3 := below_on T3 hb
  replace T4 := below_on T4 hb
  replace T5 := below_on T5 hb
  replace T6 := below_on T6 hb
  clear hb
  refine hK.out _ _ (HX.out _ F) (fun hHeld => ?_)
  clear hK K
  try simp only [Act.put, List.setIfInBounds_toArray, List.set_cons_zero, List.set_cons_succ]
  refine wpAnyH_ready (rs := [30]) (by kernel_rfl) (by simp) ?_
  refine AllReadyH.cons rfl (fun K hK => ?_) AllReadyH.nil
  go_simp
  have hbA := below_al (Below.refl w9.heap.size w9) (.cells #[.int .i64 1, .int .u64 7, .slice none 0 0, .string ⟨#[]⟩, .slice none 0 0, .int .i64 1, .int .u64 p.f, .slice none 0 0, .string ⟨#[]⟩, .slice none 0 0, .int .i64 1, .int .u64 p.s, .slice none 0 0, .string ⟨#[]⟩, .slice none 0 0, .int .i64 4, .int .u64 0, .slice a3 0 c3, .string ⟨#[]⟩, .slice A3 2 C3, .int .i64 4, .int .u64 0, .slice a4 0 c4, .string ⟨#[]⟩, .slice A4 2 C4, .int .i64 4, .int .u64 0, .slice a5 0 c5, .string ⟨#[]⟩, .slice A5 2 C5, .int .i64 4, .int .u64 0, .slice none 0 0, .string ⟨#[]⟩, .slice (some ⟨w7.heap.size, 0, none⟩) 2 2, .int .i64 1, .int .u64 p.l, .slice none 0 0, .string ⟨#[]⟩, .slice none 0 0] 84)
  replace F := below_on F hbA
  replace T3 := below_on T3 hbA
  replace T4 := below_on T4 hbA
  replace T5 := below_on T5 hbA
  replace T6 := below_on T6 hbA
  clear hbA
  refine hK.out _ _ (HX.out _ F) (fun hHeld => ?_)
  clear hK K
  try simp only [Act.put, List.setIfInBounds_toArray, List.set_cons_zero, List.set_cons_succ]
  refine take_listed (i := 31) (v := ?_) rfl (by kernel_rfl) (by kernel_rfl) (by kernel_rfl) (fun _ _ _ h => h) (Or.inl ⟨by rfl, ?_⟩) (by assumption) ?_
  rotate_left
  · intro w hSw
    (try dsimp only at hSw)
    go_simp
    all_goals with_reducible rfl
  simp only [Act.put, List.setIfInBounds_toArray, List.set_cons_zero, List.set_cons_succ]
  clear hHeld
  refine wpAnyH_done (by kernel_rfl) ?_ _
  have HF := Lib.hid (HB0.out.trans (F.mono HB0.out.size))
  have hli : LI (w9.alloc (.cells #[.int .i64 1, .int .u64 7, .slice none 0 0, .string ⟨#[]⟩, .slice none 0 0, .int .i64 1, .int .u64 p.f, .slice none 0 0, .string ⟨#[]⟩, .slice none 0 0, .int .i64 1, .int .u64 p.s, .slice none 0 0, .string ⟨#[]⟩, .slice none 0 0, .int .i64 4, .int .u64 0, .slice a3 0 c3, .string ⟨#[]⟩, .slice A3 2 C3, .int .i64 4, .int .u64 0, .slice a4 0 c4, .string ⟨#[]⟩, .slice A4 2 C4, .int .i64 4, .int .u64 0, .slice a5 0 c5, .string ⟨#[]⟩, .slice A5 2 C5, .int .i64 4, .int .u64 0, .slice none 0 0, .string ⟨#[]⟩, .slice (some ⟨w7.heap.size, 0, none⟩) 2 2, .int .i64 1, .int .u64 p.l, .slice none 0 0, .string ⟨#[]⟩, .slice none 0 0] 84)) (newB (bare (w9.alloc (.cells #[.int .i64 1, .int .u64 7, .slice none 0 0, .string ⟨#[]⟩, .slice none 0 0, .int .i64 1, .int .u64 p.f, .slice none 0 0, .string ⟨#[]⟩, .slice none 0 0, .int .i64 1, .int .u64 p.s, .slice none 0 0, .string ⟨#[]⟩, .slice none 0 0, .int .i64 4, .int .u64 0, .slice a3 0 c3, .string ⟨#[]⟩, .slice A3 2 C3, .int .i64 4, .int .u64 0, .slice a4 0 c4, .string ⟨#[]⟩, .slice A4 2 C4, .int .i64 4, .int .u64 0, .slice a5 0 c5, .string ⟨#[]⟩, .slice A5 2 C5, .int .i64 4, .int .u64 0, .slice none 0 0, .string ⟨#[]⟩, .slice (some ⟨w7.heap.size, 0, none⟩) 2 2, .int .i64 1, .int .u64 p.l, .slice none 0 0, .string ⟨#[]⟩, .slice none 0 0] 84))) (w9.alloc (.cells #[.int .i64 1, .int .u64 7, .slice none 0 0, .string ⟨#[]⟩, .slice none 0 0, .int .i64 1, .int .u64 p.f, .slice none 0 0, .string ⟨#[]⟩, .slice none 0 0, .int .i64 1, .int .u64 p.s, .slice none 0 0, .string ⟨#[]⟩, .slice none 0 0, .int .i64 4, .int .u64 0, .slice a3 0 c3, .string ⟨#[]⟩, .slice A3 2 C3, .int .i64 4, .int .u64 0, .slice a4 0 c4, .string ⟨#[]⟩, .slice A4 2 C4, .int .i64 4, .int .u64 0, .slice a5 0 c5, .string ⟨#[]⟩, .slice A5 2 C5, .int .i64 4, .int .u64 0, .slice none 0 0, .string ⟨#[]⟩, .slice (some ⟨w7.heap.size, 0, none⟩) 2 2, .int .i64 1, .int .u64 p.l, .slice none 0 0, .string ⟨#[]⟩, .slice none 0 0] 84))) [.int .i64 1, .int .u64 7, .slice none 0 0, .string ⟨#[]⟩, .slice none 0 0, .int .i64 1, .int .u64 p.f, .slice none 0 0, .string ⟨#[]⟩, .slice none 0 0, .int .i64 1, .int .u64 p.s, .slice none 0 0, .string ⟨#[]⟩, .slice none 0 0, .int .i64 4, .int .u64 0, .slice a3 0 c3, .string ⟨#[]⟩, .slice A3 2 C3, .int .i64 4, .int .u64 0, .slice a4 0 c4, .string ⟨#[]⟩, .slice A4 2 C4, .int .i64 4, .int .u64 0, .slice a5 0 c5, .string ⟨#[]⟩, .slice A5 2 C5, .int .i64 4, .int .u64 0, .slice none 0 0, .string ⟨#[]⟩, .slice (some ⟨w7.heap.size, 0, none⟩) 2 2, .int .i64 1, .int .u64 p.l, .slice none 0 0, .string ⟨#[]⟩, .slice none 0 0] (itsP p) := by
    refine li_cons (itS_uint _ _ 7 ⟨by decide, by decide⟩) (li_cons (itS_uint _ _ p.f ⟨by omega, by omega⟩) (li_cons (itS_uint _ _ p.s ⟨by omega, by omega⟩) (li_cons (its_late HI3.out T3) (li_cons (its_late HI4.out T4) (li_cons (its_late HI5.out T5) (li_cons (its_late HI6.out T6) (LI.one (itS_uint _ _ p.l ⟨by omega, by omega⟩))))))))
  have HRow := Lib.hid (row_items (w := w9) (t := 84) (cs := #[.int .i64 1, .int .u64 7, .slice none 0 0, .string ⟨#[]⟩, .slice none 0 0, .int .i64 1, .int .u64 p.f, .slice none 0 0, .string ⟨#[]⟩, .slice none 0 0, .int .i64 1, .int .u64 p.s, .slice none 0 0, .string ⟨#[]⟩, .slice none 0 0, .int .i64 4, .int .u64 0, .slice a3 0 c3, .string ⟨#[]⟩, .slice A3 2 C3, .int .i64 4, .int .u64 0, .slice a4 0 c4, .string ⟨#[]⟩, .slice A4 2 C4, .int .i64 4, .int .u64 0, .slice a5 0 c5, .string ⟨#[]⟩, .slice A5 2 C5, .int .i64 4, .int .u64 0, .slice none 0 0, .string ⟨#[]⟩, .slice (some ⟨w7.heap.size, 0, none⟩) 2 2, .int .i64 1, .int .u64 p.l, .slice none 0 0, .string ⟨#[]⟩, .slice none 0 0]) (l := itsP p) rfl hli (show (itsP p).length ≤ 1000 from (show 8 ≤ 1000 by decide)))
  clear hli T3 T4 T5 T6 F
  go_wp2_with fail
  go_ret
  exact ⟨_, rfl, HRow.out.1, HRow.out.2, HF.out⟩

/-- The document's bytes of a primary. -/
theorem rEncode_any (p : Pm) (hp : p.ok) (hr : p.right = true) (w : World) : Calls Tryz.prog 12 #[.agg #[.int .u32 p.f, .int .i64 p.s, .int .u32 p.tn, .int .u32 p.tm, .int .u32 p.sn, .int .u32 p.sm, .int .u32 p.rn, .int .u32 p.rm, .int .u64 p.t, .int .u32 p.q, .int .u64 p.l]] w (JoinP w (encP p p.s.toNat)) := by
  obtain ⟨hf, k, hk, hks⟩ := fine_of hp hr
  have e1 : p.s.toNat = k := by omega
  have hz : sealN k (itsP p) = encP p k := by
    unfold sealN encP zeroB itO
    split <;> rfl
  have hIt := fun w => ritems_any p hf w
  have h5 : (bytesL (itsP p)).length ≤ 400 := by
    have := preB_len p k
    unfold preB at this
    split at this
    · rw [List.length_append] at this; omega
    · rw [List.length_append, List.length_append] at this; omega
  have hsub : (itLs (itsP p)).bytes.length ≤ 1000000 := by
    have e : (itLs (itsP p)).bytes = headB 4 ((itsP p).length : Int) ++ bytesL (itsP p) := by simp [itLs, It.bytes, ownB4]
    have h4 := (head_length 4 ((itsP p).length : Int)).2
    rw [e, List.length_append]
    omega
  have hHd : ∀ bs, bs.length = wdN k → (itLs (itsP p ++ [.mk 2 0 bs [] []])).bytes.length ≤ 1000000 := fun bs hb => by
    have e : (itLs (itsP p ++ [.mk 2 0 bs [] []])).bytes = headB 4 ((itsP p ++ [It.mk 2 0 bs [] []]).length : Int) ++ (bytesL (itsP p) ++ (headB 2 (bs.length : Int) ++ bs)) := by simp [itLs, It.bytes, ownB4, bytesL_append, bytesL, ownB2]
    have h4 := (head_length 4 ((itsP p ++ [It.mk 2 0 bs [] []]).length : Int)).2
    have h2 := (head_length 2 (bs.length : Int)).2
    have h3 := wdN_le4 k
    have l1 : ∀ (a b c d : List UInt8), (a ++ (b ++ (c ++ d))).length = a.length + (b.length + (c.length + d.length)) := fun a b c d => by simp
    rw [e, l1]
    omega
  have hrr : (itLs (itsP p)).right = true := by
    have h1 := itE_right p.tn p.tm
    have h2 := itE_right p.sn p.sm
    have h3 := itE_right p.rn p.rm
    simp [itsP, itLs, itU, It.right, rightL, rightN, h1, h2, h3]
  have hrb : ∀ bs, (itLs (itsP p ++ [.mk 2 0 bs [] []])).right = true := fun bs => by
    have h1 := itE_right p.tn p.tm
    have h2 := itE_right p.sn p.sm
    have h3 := itE_right p.rn p.rm
    simp [itsP, itLs, itU, It.right, rightL, rightN, h1, h2, h3]
  rw [e1, ← hz]
  obtain ⟨W, hW⟩ : ∃ W, W = w.alloc (.cells #[.int .u32 p.f, .int .i64 p.s, .int .u32 p.tn, .int .u32 p.tm, .int .u32 p.sn, .int .u32 p.sm, .int .u32 p.rn, .int .u32 p.rm, .int .u64 p.t, .int .u32 p.q, .int .u64 p.l] 28) := ⟨_, rfl⟩
  have HB0 : Hid (Below w.heap.size w W) := by rw [hW]; exact below_al (Below.refl _ _) _
  have HX : Hid (∀ w', Below W.heap.size W w' → (w'.cell? ⟨w.heap.size, 0, none⟩ = some (.int .u32 p.f) ∧ w'.cell? ⟨w.heap.size, 1, none⟩ = some (.int .i64 p.s) ∧ w'.cell? ⟨w.heap.size, 2, none⟩ = some (.int .u32 p.tn) ∧ w'.cell? ⟨w.heap.size, 3, none⟩ = some (.int .u32 p.tm) ∧ w'.cell? ⟨w.heap.size, 4, none⟩ = some (.int .u32 p.sn) ∧ w'.cell? ⟨w.heap.size, 5, none⟩ = some (.int .u32 p.sm) ∧ w'.cell? ⟨w.heap.size, 6, none⟩ = some (.int .u32 p.rn) ∧ w'.cell? ⟨w.heap.size, 7, none⟩ = some (.int .u32 p.rm) ∧ w'.cell? ⟨w.heap.size, 8, none⟩ = some (.int .u64 p.t) ∧ w'.cell? ⟨w.heap.size, 9, none⟩ = some (.int .u32 p.q) ∧ w'.cell? ⟨w.heap.size, 10, none⟩ = some (.int .u64 p.l))) := fun w' h => by
    rw [hW] at h
    exact pbox h
  have HW := Lib.hid hW
  have HI := Lib.hid hIt
  have HSe := Lib.hid (fun (A : Option Addr) (w : World) (hit : ItV w w.heap.size (listV A 8 8) (itLs (itsP p))) (hs : SrcI w A (itsP p)) (hn : A = none → itsP p = []) => refSealed_any k hk A 8 (itsP p) w (show (itsP p).length ≤ 1000 from (show 8 ≤ 1000 by decide)) hit hs hn hrr hrb hsub hHd)
  have HKs := Lib.hid hks
  clear hW hIt h5 hsub hHd hrr hrb hz e1 hks
  go_enter Tryz.func12, Tryz.ntmps12
  go_wp2_with fail
  rw [← HW.out]
  have F : Below W.heap.size W W.drew := (Below.refl _ _).drew
  refine wp_region_held_drew (S := fun w' => (w'.cell? ⟨w.heap.size, 0, none⟩ = some (.int .u32 p.f) ∧ w'.cell? ⟨w.heap.size, 1, none⟩ = some (.int .i64 p.s) ∧ w'.cell? ⟨w.heap.size, 2, none⟩ = some (.int .u32 p.tn) ∧ w'.cell? ⟨w.heap.size, 3, none⟩ = some (.int .u32 p.tm) ∧ w'.cell? ⟨w.heap.size, 4, none⟩ = some (.int .u32 p.sn) ∧ w'.cell? ⟨w.heap.size, 5, none⟩ = some (.int .u32 p.sm) ∧ w'.cell? ⟨w.heap.size, 6, none⟩ = some (.int .u32 p.rn) ∧ w'.cell? ⟨w.heap.size, 7, none⟩ = some (.int .u32 p.rm) ∧ w'.cell? ⟨w.heap.size, 8, none⟩ = some (.int .u64 p.t) ∧ w'.cell? ⟨w.heap.size, 9, none⟩ = some (.int .u32 p.q) ∧ w'.cell? ⟨w.heap.size, 10, none⟩ = some (.int .u64 p.l))) (by kernel_rfl) (HX.out _ F) (fun hHeld => ?_)
  refine take_listed (i := 0) (v := ?_) rfl (by kernel_rfl) (by kernel_rfl) (by kernel_rfl) (fun _ _ _ h => h) (Or.inl ⟨by rfl, ?_⟩) (by assumption) ?_
  rotate_left
  · intro w hSw
    (try dsimp only at hSw)
    go_simp
    all_goals with_reducible rfl
  simp only [Act.put, List.setIfInBounds_toArray, List.set_cons_zero, List.set_cons_succ]
  refine take_listed (i := 2) (v := ?_) rfl (by kernel_rfl) (by kernel_rfl) (by kernel_rfl) (fun _ _ _ h => h) (Or.inl ⟨by rfl, ?_⟩) (by assumption) ?_
  rotate_left
  · intro w hSw
    (try dsimp only at hSw)
    go_simp
    all_goals with_reducible rfl
  simp only [Act.put, List.setIfInBounds_toArray, List.set_cons_zero, List.set_cons_succ]
  refine take_listed (i := 3) (v := ?_) rfl (by kernel_rfl) (by kernel_rfl) (by kernel_rfl) (fun _ _ _ h => h) (Or.inl ⟨by rfl, ?_⟩) (by assumption) ?_
  rotate_left
  · intro w hSw
    (try dsimp only at hSw)
    go_simp
    all_goals with_reducible rfl
  simp only [Act.put, List.setIfInBounds_toArray, List.set_cons_zero, List.set_cons_succ]
  refine wpAnyH_ready (rs := [1]) (by kernel_rfl) (by simp) ?_
  refine AllReadyH.cons rfl (fun K hK => ?_) AllReadyH.nil
  go_simp
  refine (HI.out _).mono ?_
  rintro e w1 ⟨g, rfl, hit, hsr, hb⟩
  replace F := below_on F hb
  have HIt := Lib.hid hit
  have HSr := Lib.hid hsr
  clear hit hsr hb
  refine hK.out _ _ (HX.out _ F) (fun hHeld => ?_)
  clear hK K
  try simp only [Act.put, List.setIfInBounds_toArray, List.set_cons_zero, List.set_cons_succ]
  refine wpAnyH_ready (rs := [4]) (by kernel_rfl) (by simp) ?_
  refine AllReadyH.cons rfl (fun K hK => ?_) AllReadyH.nil
  go_simp
  rw [HKs.out]
  refine (HSe.out (some ⟨g, 0, none⟩) w1 HIt.out HSr.out (fun h => by cases h)).mono ?_
  rintro e w2 ⟨u, rfl, hown, hb⟩
  have HOw : Hid (OwnV w2 w.heap.size 5 u ((sealN k (itsP p)).map encB)) := ⟨hown.1, hown.2.imp id fun ⟨g, cap, cur, e, h0, r⟩ => ⟨g, cap, cur, e, Nat.le_trans (HB0.out.trans (F.mono HB0.out.size)).size h0, r⟩⟩
  replace F := below_on F hb
  clear hown hb
  refine hK.out _ _ (HX.out _ F) (fun hHeld => ?_)
  clear hK K
  try simp only [Act.put, List.setIfInBounds_toArray, List.set_cons_zero, List.set_cons_succ]
  refine take_listed (i := 5) (v := ?_) rfl (by kernel_rfl) (by kernel_rfl) (by kernel_rfl) (fun _ _ _ h => h) (Or.inl ⟨by rfl, ?_⟩) (by assumption) ?_
  rotate_left
  · intro w hSw
    (try dsimp only at hSw)
    go_simp
    all_goals with_reducible rfl
  simp only [Act.put, List.setIfInBounds_toArray, List.set_cons_zero, List.set_cons_succ]
  clear hHeld
  refine wpAnyH_done (by kernel_rfl) ?_ _
  have HF := Lib.hid (HB0.out.trans (F.mono HB0.out.size))
  clear F
  go_wp2_with fail
  go_ret
  exact ⟨u, rfl, HOw.out, HF.out⟩

end Go.Proofs.YtlmdbeccfoncpaaGreatDoor

namespace Go.Proofs.YtlmdbeccfoncpaaGreatDoor
open Go Go.RowKit Go.Shelf
set_option linter.unusedSimpArgs false
set_option linter.unusedVariables false
set_option maxRecDepth 100000

attribute [local go_sem] Oper.semAt_some

set_option maxHeartbeats 8000000 in
theorem rRight_any (p : Pm) (hp : p.ok) (w : World) : Calls Tryz.prog 8 #[.agg #[.int .u32 p.f, .int .i64 p.s, .int .u32 p.tn, .int .u32 p.tm, .int .u32 p.sn, .int .u32 p.sm, .int .u32 p.rn, .int .u32 p.rm, .int .u64 p.t, .int .u32 p.q, .int .u64 p.l]] w fun e w' => e = .returned (.bool p.right) ∧ Below w.heap.size w w' := by
  obtain ⟨W, hW⟩ : ∃ W, W = w.alloc (.cells #[.int .u32 p.f, .int .i64 p.s, .int .u32 p.tn, .int .u32 p.tm, .int .u32 p.sn, .int .u32 p.sm, .int .u32 p.rn, .int .u32 p.rm, .int .u64 p.t, .int .u32 p.q, .int .u64 p.l] 28) := ⟨_, rfl⟩
  have HB0 : Hid (Below w.heap.size w W) := by rw [hW]; exact below_al (Below.refl _ _) _
  have HX : Hid (∀ w', Below W.heap.size W w' → (w'.cell? ⟨w.heap.size, 0, none⟩ = some (.int .u32 p.f) ∧ w'.cell? ⟨w.heap.size, 1, none⟩ = some (.int .i64 p.s) ∧ w'.cell? ⟨w.heap.size, 2, none⟩ = some (.int .u32 p.tn) ∧ w'.cell? ⟨w.heap.size, 3, none⟩ = some (.int .u32 p.tm) ∧ w'.cell? ⟨w.heap.size, 4, none⟩ = some (.int .u32 p.sn) ∧ w'.cell? ⟨w.heap.size, 5, none⟩ = some (.int .u32 p.sm) ∧ w'.cell? ⟨w.heap.size, 6, none⟩ = some (.int .u32 p.rn) ∧ w'.cell? ⟨w.heap.size, 7, none⟩ = some (.int .u32 p.rm) ∧ w'.cell? ⟨w.heap.size, 8, none⟩ = some (.int .u64 p.t) ∧ w'.cell? ⟨w.heap.size, 9, none⟩ = some (.int .u32 p.q) ∧ w'.cell? ⟨w.heap.size, 10, none⟩ = some (.int .u64 p.l))) := fun w' h => by
    rw [hW] at h
    exact pbox h
  have HFl := Lib.hid (fun w => refFlagsRight_any p.f (by have := hp.f; omega) w)
  have HKd := Lib.hid (fun w => refKind_any p.s w)
  have HRp := Lib.hid (fun w => nmRefRight_any p.rn p.rm w)
  have HRi : Hid (p.right = ((flB p.f) && ((isK p.s) && ((decide (0 < p.tn)) && (((decide (0 < p.sn)) && (decide (p.t ≤ 4611686018427387903))) && ((decide (0 < p.rn ∨ p.rm = 0)) && (decide ((p.l : Int) ≤ 4611686018427387903)))))))) := rfl
  have HW := Lib.hid hW
  clear hW
  obtain ⟨x0, x1, x2, x3, x4, x5, x6, x7, x8, x9, x10⟩ := HX.out W (Below.refl _ _)
  obtain ⟨b1, h1⟩ : ∃ b, b = flB p.f := ⟨_, rfl⟩
  obtain ⟨b2, h2⟩ : ∃ b, b = isK p.s := ⟨_, rfl⟩
  obtain ⟨b5, h5⟩ : ∃ b, b = decide (0 < p.rn ∨ p.rm = 0) := ⟨_, rfl⟩
  rw [← h1] at HFl HRi
  rw [← h2] at HKd HRi
  rw [← h5] at HRp HRi
  clear h1 h2 h5
  have e3 : (0 < p.tn ∧ decide ((0 : Int) < (p.tn : Int)) = true) ∨ (¬ 0 < p.tn ∧ decide ((0 : Int) < (p.tn : Int)) = false) := by
    by_cases h : 0 < p.tn
    · exact .inl ⟨h, decide_eq_true (by omega)⟩
    · exact .inr ⟨h, decide_eq_false (by omega)⟩
  have e4 : (0 < p.sn ∧ decide ((0 : Int) < (p.sn : Int)) = true) ∨ (¬ 0 < p.sn ∧ decide ((0 : Int) < (p.sn : Int)) = false) := by
    by_cases h : 0 < p.sn
    · exact .inl ⟨h, decide_eq_true (by omega)⟩
    · exact .inr ⟨h, decide_eq_false (by omega)⟩
  have e6 : (p.t ≤ 4611686018427387903 ∧ decide ((p.t : Int) ≤ 4611686018427387903) = true) ∨ (¬ p.t ≤ 4611686018427387903 ∧ decide ((p.t : Int) ≤ 4611686018427387903) = false) := by
    by_cases h : p.t ≤ 4611686018427387903
    · exact .inl ⟨h, decide_eq_true (by omega)⟩
    · exact .inr ⟨h, decide_eq_false (by omega)⟩
  have HE3 := Lib.hid e3
  have HE4 := Lib.hid e4
  have HE6 := Lib.hid e6
  clear e3 e4 e6
  rw [HW.out] at x0 x1 x2 x3 x4 x5 x6 x7 x8 x9 x10
  go_enter Tryz.func8, Tryz.ntmps8
  go_wp2_with fail
  clear x0 x1 x2 x3 x4 x5 x6 x7 x8 x9 x10
  rw [← HW.out]
  refine (HFl.out _).mono ?_
  rintro e w1 ⟨rfl, rfl⟩
  cases b1
  · go_wp2_with fail
    go_ret
    exact ⟨by rw [HRi.out]; rfl, HB0.out⟩
  obtain ⟨x0, x1, x2, x3, x4, x5, x6, x7, x8, x9, x10⟩ := HX.out W (Below.refl _ _)
  go_wp2_with fail
  refine (HKd.out _).mono ?_
  rintro e w1 ⟨rfl, rfl⟩
  cases b2
  · go_wp2_with fail
    go_ret
    exact ⟨by rw [HRi.out]; rfl, HB0.out⟩
  rcases HE3.out with ⟨h3, e3⟩ | ⟨h3, e3⟩
  rotate_left
  · have HQ : Hid (p.right = false) := by rw [Hid, HRi.out]; simp [h3]
    go_wp2_with fail
    go_ret
    exact ⟨by rw [HQ.out]; rfl, HB0.out⟩
  rcases HE4.out with ⟨h4, e4⟩ | ⟨h4, e4⟩
  rotate_left
  · have HQ : Hid (p.right = false) := by rw [Hid, HRi.out]; simp [h4]
    go_wp2_with fail
    go_ret
    exact ⟨by rw [HQ.out]; rfl, HB0.out⟩
  have HQ3 := Lib.hid h3
  have HQ4 := Lib.hid h4
  clear h3 h4
  go_wp2_with fail
  refine (HRp.out _).mono ?_
  rintro e w1 ⟨rfl, hb1⟩
  have HB1 := Lib.hid (below_on HB0.out hb1)
  clear x0 x1 x2 x3 x4 x5 x6 x7 x8 x9 x10 e3 e4
  cases b5
  · clear hb1
    go_wp2_with fail
    go_ret
    exact ⟨by rw [HRi.out]; simp, HB1.out⟩
  obtain ⟨x0, x1, x2, x3, x4, x5, x6, x7, x8, x9, x10⟩ := HX.out w1 hb1
  clear hb1
  rcases HE6.out with ⟨h6, e6⟩ | ⟨h6, e6⟩
  rotate_left
  · have HQ : Hid (p.right = false) := by rw [Hid, HRi.out]; simp [h6]
    clear h6
    go_wp2_with fail
    go_ret
    exact ⟨by rw [HQ.out]; rfl, HB1.out⟩
  have HQ : Hid (p.right = decide ((p.l : Int) ≤ 4611686018427387903)) := by
    have h3 := HQ3.out
    have h4 := HQ4.out
    rw [Hid, HRi.out]
    simp [h3, h4, h6]
  clear h6
  go_wp2_with fail
  go_ret
  exact ⟨by rw [HQ.out]; rfl, HB1.out⟩

end Go.Proofs.YtlmdbeccfoncpaaGreatDoor
