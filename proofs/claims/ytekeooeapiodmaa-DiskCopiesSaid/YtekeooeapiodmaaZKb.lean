/- Joined texts. -/
import Derived.Test.YtekeooeapiodmaaZKa
namespace Go.Proofs.Ytekeooeapiodmaa
open Go Go.RowKit Go.Shelf
set_option linter.unusedSimpArgs false
set_option linter.unusedVariables false
set_option maxRecDepth 100000

attribute [local go_sem] Oper.semAt_some

/-- All writes that wait have a place. -/
def DkM.pl (D : DkM) : Prop := ∀ x ∈ D.wt, hasS D.n x.1 = true
theorem pl_at {n : Nat} {wt : List (Int × List UInt8)} (h : ∀ x ∈ wt, hasS n x.1 = true) {j : Nat} {x : Int × List UInt8} (hx : wt[j]? = some x) : ∃ k : Nat, k < n ∧ x.1 = (k : Nat) := by
  have h1 := h x (List.mem_of_getElem? hx)
  unfold hasS at h1
  simp only [Bool.and_eq_true, decide_eq_true_eq] at h1
  exact ⟨x.1.toNat, by omega, by omega⟩
theorem RdO.set3 {w : World} {N : Nat → List Value → Prop} {A : Option Addr} {l : List Value} (h : RdO w N A l) {b : Nat} (hne : ∀ g l, N g l → b ≠ g) (c0 c1 c2 : Value) : RdO (set3 w b c0 c1 c2) N A l := by
  rcases h with h | ⟨g, rfl, hg, hr, hn⟩
  · exact .inl h
  · exact .inr ⟨g, rfl, by rw [set3_size]; exact hg, set3_other hr (hne g l hn) _ _ _, hn⟩
theorem RdO.set1 {w : World} {N : Nat → List Value → Prop} {A : Option Addr} {l : List Value} (h : RdO w N A l) {b : Nat} (hne : ∀ g l, N g l → b ≠ g) (i : Nat) (c : Value) : RdO (w.setCell ⟨b, i, none⟩ c) N A l := by
  rcases h with h | ⟨g, rfl, hg, hr, hn⟩
  · exact .inl h
  · exact .inr ⟨g, rfl, by rw [World.size_setCell]; exact hg, hr.other (hne g l hn) _, hn⟩
/-- The boxes of a call at w, and rows that are none of them. -/
def BoxR (w : World) (N : Nat → List Value → Prop) (wr : World) (n : Nat) (lie : Int → List UInt8) (wt : List (Int × List UInt8)) (lf : Int) : Prop :=
  ∃ A1 C1 A2 C2, RowB wr w.heap.size [.slice A1 n C1, .slice A2 wt.length C2, .int .i64 lf] ∧ RowB wr (w.heap.size + 1) [.slice none 0 0, .slice none 0 0, .int .i64 0] ∧ RdO wr N A1 (lieL lie n) ∧ RdO wr N A2 (putsL wt) ∧ Below w.heap.size w wr ∧ w.heap.size + 2 ≤ wr.heap.size
/-- Rows of old, or laid behind the boxes. -/
def offN (N : Nat → List Value → Prop) (w : World) : Nat → List Value → Prop := fun g l => (N g l ∧ g < w.heap.size) ∨ w.heap.size + 2 ≤ g
theorem off_ne {N : Nat → List Value → Prop} {w : World} : ∀ g l, offN N w g l → w.heap.size ≠ g := by
  intro g l h
  rcases h with ⟨_, h⟩ | h <;> omega
theorem off_ne1 {N : Nat → List Value → Prop} {w : World} : ∀ g l, offN N w g l → w.heap.size + 1 ≠ g := by
  intro g l h
  rcases h with ⟨_, h⟩ | h <;> omega
theorem off_since {N : Nat → List Value → Prop} {w : World} {g : Nat} {l : List Value} (h : offN N w g l) : sinceN N w g l := by
  rcases h with ⟨h, _⟩ | h
  · exact .inl h
  · exact .inr (by omega)
theorem settle_step (wt : List (Int × List UInt8)) (bec : Nat → Bool) (lie : Int → List UInt8) {j : Nat} {x : Int × List UInt8} (hx : wt[j]? = some x) : settleN wt bec lie (j + 1) = if bec j = true then layM (settleN wt bec lie j) x else settleN wt bec lie j := by
  have e : wAt wt j = x := by simp [wAt, hx]
  funext k
  rw [settleN, e]
/-- Behind lay: the row stored anew. -/
theorem box_lay {w wr v2 : World} {N : Nat → List Value → Prop} {n : Nat} {lie lie' : Int → List UInt8} {wt : List (Int × List UInt8)} {lf : Int} {A1 A2 : Option Addr} {C1 C2 : Nat} (h : BoxR w (offN N w) wr n lie wt lf) (hb : Below wr.heap.size wr v2)
    (h1 : RdO v2 (sinceN (offN N w) wr) A1 (lieL lie' n)) (h2 : RdO v2 (sinceN (offN N w) wr) A2 (putsL wt)) :
    BoxR w (offN N w) (set3 v2 w.heap.size (.slice A1 n C1) (.slice A2 wt.length C2) (.int .i64 lf)) n lie' wt lf := by
  obtain ⟨_, _, _, _, r0, r1, _, _, hB, hs⟩ := h
  have hm : ∀ g l, g < v2.heap.size → sinceN (offN N w) wr g l → offN N w g l := fun g l _ h => by
    rcases h with h | h
    · exact h
    · exact .inr (by omega)
  exact ⟨A1, C1, A2, C2, set3_row (r0.on hb (by omega)) _ _ _, set3_other (r1.on hb (by omega)) (by omega) _ _ _, (h1.mono hm).set3 off_ne _ _ _, (h2.mono hm).set3 off_ne _ _ _, set3_on (below_on hB hb) (Nat.le_refl _) _ _ _, by rw [set3_size]; exact Nat.le_trans hs hb.size⟩
/-- What waited is gone. -/
theorem box_gone {w wr : World} {N : Nat → List Value → Prop} {n : Nat} {lie : Int → List UInt8} {wt : List (Int × List UInt8)} {lf : Int} (h : BoxR w (offN N w) wr n lie wt lf) : BoxR w (offN N w) (wr.setCell ⟨w.heap.size, 1, none⟩ (.slice none 0 0)) n lie [] lf := by
  obtain ⟨A1, C1, A2, C2, r0, r1, h1, h2, hB, hs⟩ := h
  exact ⟨A1, C1, none, 0, r0.set 1 _, r1.other (by omega) _, h1.set1 off_ne _ _, .inl rfl, hB.setCell (Nat.le_refl _) _, by rw [World.size_setCell]; exact hs⟩
theorem box_left {w wr : World} {N : Nat → List Value → Prop} {n : Nat} {lie : Int → List UInt8} {wt : List (Int × List UInt8)} {lf : Int} (h : BoxR w (offN N w) wr n lie wt lf) (z : Int) : BoxR w (offN N w) (wr.setCell ⟨w.heap.size, 2, none⟩ (.int .i64 z)) n lie wt z := by
  obtain ⟨A1, C1, A2, C2, r0, r1, h1, h2, hB, hs⟩ := h
  exact ⟨A1, C1, A2, C2, r0.set 2 _, r1.other (by omega) _, h1.set1 off_ne _ _, h2.set1 off_ne _ _, hB.setCell (Nat.le_refl _) _, by rw [World.size_setCell]; exact hs⟩
/-- What is told at the end. -/
theorem box_end {w wr : World} {N : Nat → List Value → Prop} {D : DkM} {A1 A2 : Option Addr} {C1 C2 : Nat} (r1 : RowB wr (w.heap.size + 1) [.slice none 0 0, .slice none 0 0, .int .i64 0]) (h1 : RdO wr (offN N w) A1 (lieL D.lie D.n)) (h2 : RdO wr (offN N w) A2 (putsL D.wt)) (hB : Below w.heap.size w wr) :
    RowB (set3 wr (w.heap.size + 1) (.slice A1 D.n C1) (.slice A2 D.wt.length C2) (.int .i64 D.left)) (w.heap.size + 1) [.slice A1 D.n C1, .slice A2 D.wt.length C2, .int .i64 D.left] ∧
      RfV (set3 wr (w.heap.size + 1) (.slice A1 D.n C1) (.slice A2 D.wt.length C2) (.int .i64 D.left)) (sinceN N w) (.agg #[.slice A1 D.n C1, .slice A2 D.wt.length C2, .int .i64 D.left]) D ∧ Below w.heap.size w (set3 wr (w.heap.size + 1) (.slice A1 D.n C1) (.slice A2 D.wt.length C2) (.int .i64 D.left)) :=
  ⟨set3_row r1 _ _ _, ⟨A1, C1, A2, C2, rfl, (h1.set3 off_ne1 _ _ _).mono fun _ _ _ h => off_since h, (h2.set3 off_ne1 _ _ _).mono fun _ _ _ h => off_since h⟩, set3_on hB (by omega) _ _ _⟩
theorem box_start {w : World} {N : Nat → List Value → Prop} {n : Nat} {lie : Int → List UInt8} {wt : List (Int × List UInt8)} {lf : Int} {A1 A2 : Option Addr} {C1 C2 : Nat} (h1 : RdO w N A1 (lieL lie n)) (h2 : RdO w N A2 (putsL wt)) (t : TypeId) :
    BoxR w (offN N w) ((w.alloc (.cells #[.slice A1 n C1, .slice A2 wt.length C2, .int .i64 lf] t)).alloc (.cells #[.slice none 0 0, .slice none 0 0, .int .i64 0] t)) n lie wt lf := by
  have hb : Below w.heap.size w ((w.alloc (.cells #[.slice A1 n C1, .slice A2 wt.length C2, .int .i64 lf] t)).alloc (.cells #[.slice none 0 0, .slice none 0 0, .int .i64 0] t)) := below_al (below_al (Below.refl _ _) _) _
  obtain ⟨r0, r1⟩ := two_rows (w := w) (t := t) (u := t) (vs := [.slice A1 n C1, .slice A2 wt.length C2, .int .i64 lf]) (us := [.slice none 0 0, .slice none 0 0, .int .i64 0]) (Below.refl _ _)
  exact ⟨A1, C1, A2, C2, r0, r1, (h1.mono fun g l hg h => (.inl ⟨h, hg⟩ : offN N w g l)).on hb, (h2.mono fun g l hg h => (.inl ⟨h, hg⟩ : offN N w g l)).on hb, hb, by simp⟩
theorem boxR_drew {w wr : World} {N : Nat → List Value → Prop} {n : Nat} {lie : Int → List UInt8} {wt : List (Int × List UInt8)} {lf : Int} (h : BoxR w N wr n lie wt lf) : BoxR w N wr.drew n lie wt lf := by
  obtain ⟨A1, C1, A2, C2, r0, r1, h1, h2, hB, hs⟩ := h
  have hb : Below wr.heap.size wr wr.drew := (Below.refl _ _).drew
  exact ⟨A1, C1, A2, C2, r0.on hb (by omega), r1.on hb (by omega), h1.on hb, h2.on hb, below_on hB hb, hs⟩

theorem box_cells {w wr : World} {N : Nat → List Value → Prop} {n : Nat} {lie : Int → List UInt8} {wt : List (Int × List UInt8)} {lf : Int} (h : BoxR w N wr n lie wt lf) :
    ∃ A1 C1 A2 C2, (wr.cell? ⟨w.heap.size, 0, none⟩ = some (.slice A1 n C1) ∧ wr.cell? ⟨w.heap.size, 1, none⟩ = some (.slice A2 wt.length C2) ∧ wr.cell? ⟨w.heap.size, 2, none⟩ = some (.int .i64 lf)) ∧ wr.frozen? ⟨w.heap.size, 0, none⟩ = false ∧ wr.frozen? ⟨w.heap.size, 1, none⟩ = false ∧ wr.frozen? ⟨w.heap.size, 2, none⟩ = false := by
  obtain ⟨A1, C1, A2, C2, r0, _⟩ := h
  exact ⟨A1, C1, A2, C2, r3 r0⟩

set_option maxHeartbeats 8000000 in
theorem rsync_any (N : Nat → List Value → Prop) (n : Nat) (hn : n ≤ 4096) (lie : Int → List UInt8) (wt : List (Int × List UInt8)) (hwt : wt.length < 1000001) (hpl : ∀ x ∈ wt, hasS n x.1 = true) (lf : Int) (hlf : -1 ≤ lf ∧ lf < 9223372036854775808) (hl0 : ¬ lf = 0) (v : Value) (w : World) (h : RfV w N v ⟨n, lie, wt, lf⟩) :
    Calls Try.prog 34 #[v] w fun e w' => ∃ v', e = .returned (.tuple #[v', .int .i64 0]) ∧ RfV w' (sinceN N w) v' (DkM.synced ⟨n, lie, wt, lf⟩) ∧ Below w.heap.size w w' := by
  obtain ⟨A1, C1, A2, C2, rfl, h1, h2⟩ := h
  have HWr : Hid (DkM.synced ⟨n, lie, wt, lf⟩ = ⟨n, settleN wt (fun _ => true) lie wt.length, [], if 0 < lf then lf - 1 else lf⟩) := rfl
  have H1 := Lib.hid h1
  have H2 := Lib.hid h2
  have HP : Hid (∀ x ∈ wt, hasS n x.1 = true) := hpl
  have HN : Hid (n ≤ 4096) := hn
  obtain ⟨m, hm⟩ : ∃ m, m = wt.length := ⟨_, rfl⟩
  have HMe := Lib.hid hm
  have HM : Hid (m < 1000001) := by rw [Hid, hm]; exact hwt
  show Calls _ _ #[.agg #[.slice A1 n C1, .slice A2 wt.length C2, .int .i64 lf]] _ _
  rw [← hm]
  clear h1 h2 hpl hn hwt hm
  by_cases hpos : lf = -1
  · subst hpos
    have HI0 : Hid (BoxR w (offN N w) ((w.alloc (.cells #[.slice A1 n C1, .slice A2 m C2, .int .i64 (-1)] 30)).alloc (.cells #[.slice none 0 0, .slice none 0 0, .int .i64 0] 30)) n lie wt (-1)) := by
      rw [HMe.out]
      exact box_start H1.out H2.out _
    go_enter Try.func34, Try.ntmps34
    go_upto_region 4 with fail
    generalize (w.alloc (.cells #[.slice A1 n C1, .slice A2 m C2, .int .i64 (-1)] 30)).alloc (.cells #[.slice none 0 0, .slice none 0 0, .int .i64 0] 30) = W at HI0 ⊢
    clear hl0
    go_wp2_with fail
    go_loopw [4] (fun v4 wr => ∃ j : Nat, j ≤ m ∧ v4 = .int .i64 j ∧ Hid (BoxR w (offN N w) wr n (settleN wt (fun _ => true) lie j) wt (-1))) (fun v4 _ => m - (intOf v4).toNat)
    case atStart => exact ⟨0, Nat.zero_le _, rfl, HI0.out⟩
    case round =>
      obtain ⟨j, hj, rfl, HI⟩ := hrel
      by_cases hlt : j < m
      · have hltI : (j : Int) < (m : Int) := by omega
        have hms := mless hlt
        obtain ⟨x, hx⟩ : ∃ x, wt[j]? = some x := ⟨_, List.getElem?_eq_getElem (by have := HMe.out; omega)⟩
        obtain ⟨A5, C5, A6, C6, ⟨x0, x1, x2⟩, f0, f1, f2⟩ := box_cells HI.out
        rw [← HMe.out] at x1
        go_upto_region 7 with fail
        clear x0 x1 x2 f0 f1 f2
        obtain ⟨A1, C1, A2, C2, r0, r1, h1, h2, hB, hs⟩ := HI.out
        obtain ⟨g2, rfl, d0⟩ := rdO_at h2 (putsL_at hx).1
        obtain ⟨g2', e2, d1⟩ := rdO_at h2 (putsL_at hx).2
        injection e2 with e2
        injection e2 with e2
        subst e2
        obtain ⟨kx, hkx, hkx2⟩ := pl_at HP.out hx
        rw [hkx2] at d0
        have hgl : g2 < wr.heap.size := World.block_lt_of_cell? wr _ d0
        rw [← HMe.out] at r0
        have HSx : Hid (∀ w', Below wr.heap.size wr w' → (w'.cell? ⟨w.heap.size, 0, none⟩ = some (.slice A1 n C1) ∧ w'.cell? ⟨w.heap.size, 1, none⟩ = some (.slice (some ⟨g2, 0, none⟩) m C2) ∧ w'.cell? ⟨w.heap.size, 2, none⟩ = some (.int .i64 (-1))) ∧ (w'.cell? ⟨g2, j * 2, none⟩ = some (.int .i64 (kx : Nat)) ∧ w'.cell? ⟨g2, j * 2 + 1, none⟩ = some (.string (txt x.2)))) := fun w' hb => by
          obtain ⟨⟨x0, x1, x2⟩, _⟩ := r3 (r0.on hb (by omega))
          exact ⟨⟨x0, x1, x2⟩, (hb.cell (p := ⟨g2, j * 2, none⟩) hgl).trans d0, (hb.cell (p := ⟨g2, j * 2 + 1, none⟩) hgl).trans d1⟩
        have HV : Hid (RfV wr.drew (offN N w) (.agg #[.slice A1 n C1, .slice (some ⟨g2, 0, none⟩) m C2, .int .i64 (-1)]) ⟨n, settleN wt (fun _ => true) lie j, wt, (-1)⟩) := by
          have h : RfV wr (offN N w) (.agg #[.slice A1 n C1, .slice (some ⟨g2, 0, none⟩) wt.length C2, .int .i64 (-1)]) ⟨n, settleN wt (fun _ => true) lie j, wt, (-1)⟩ := ⟨A1, C1, _, C2, rfl, h1, h2⟩
          rw [← HMe.out] at h
          exact h.on (Below.refl _ _).drew
        have HT : Hid (settleN wt (fun _ => true) lie (j + 1) = layM (settleN wt (fun _ => true) lie j) ((kx : Nat), x.2)) := by rw [Hid, settle_step _ _ _ hx, if_pos rfl, ← hkx2]
        have HK : Hid (kx < n) := hkx
        have HR0 := Lib.hid r0
        have F : Below wr.heap.size wr wr.drew := (Below.refl _ _).drew
        have hM := HM.out
        clear r0 r1 h1 h2 hB hs d0 d1 hgl hkx2 hx
        refine wp_region_T (fun w' => (w'.cell? ⟨w.heap.size, 0, none⟩ = some (.slice A1 n C1) ∧ w'.cell? ⟨w.heap.size, 1, none⟩ = some (.slice (some ⟨g2, 0, none⟩) m C2) ∧ w'.cell? ⟨w.heap.size, 2, none⟩ = some (.int .i64 (-1))) ∧ (w'.cell? ⟨g2, j * 2, none⟩ = some (.int .i64 (kx : Nat)) ∧ w'.cell? ⟨g2, j * 2 + 1, none⟩ = some (.string (txt x.2)))) 14 (by kernel_rfl) ?_
        refine wpAnyT_take (i := 0) (v := ?_) rfl (by kernel_rfl) (by kernel_rfl) (by kernel_rfl) (by kernel_rfl) (fun _ _ _ h => h) (Or.inl ⟨by rfl, ?_⟩) (HSx.out _ F) ?_
        rotate_left
        · intro w hSw
          (try dsimp only at hSw)
          go_simp
          all_goals with_reducible rfl
        simp only [Act.put, List.setIfInBounds_toArray, List.set_cons_zero, List.set_cons_succ]
        refine wpAnyT_take (i := 1) (v := ?_) rfl (by kernel_rfl) (by kernel_rfl) (by kernel_rfl) (by kernel_rfl) (fun _ _ _ h => h) (Or.inl ⟨by rfl, ?_⟩) (HSx.out _ F) ?_
        rotate_left
        · intro w hSw
          (try dsimp only at hSw)
          go_simp
          all_goals with_reducible rfl
        simp only [Act.put, List.setIfInBounds_toArray, List.set_cons_zero, List.set_cons_succ]
        refine wpAnyT_take (i := 2) (v := ?_) rfl (by kernel_rfl) (by kernel_rfl) (by kernel_rfl) (by kernel_rfl) (fun _ _ _ h => h) (Or.inl ⟨by rfl, ?_⟩) (HSx.out _ F) ?_
        rotate_left
        · intro w hSw
          (try dsimp only at hSw)
          go_simp
          all_goals with_reducible rfl
        simp only [Act.put, List.setIfInBounds_toArray, List.set_cons_zero, List.set_cons_succ]
        refine wpAnyT_take (i := 3) (v := ?_) rfl (by kernel_rfl) (by kernel_rfl) (by kernel_rfl) (by kernel_rfl) (fun _ _ _ h => h) (Or.inl ⟨by rfl, ?_⟩) (HSx.out _ F) ?_
        rotate_left
        · intro w hSw
          (try dsimp only at hSw)
          go_simp
          all_goals with_reducible rfl
        simp only [Act.put, List.setIfInBounds_toArray, List.set_cons_zero, List.set_cons_succ]
        refine wpAnyT_take (i := 4) (v := ?_) rfl (by kernel_rfl) (by kernel_rfl) (by kernel_rfl) (by kernel_rfl) (fun _ _ _ h => h) (Or.inl ⟨by rfl, ?_⟩) (HSx.out _ F) ?_
        rotate_left
        · intro w hSw
          (try dsimp only at hSw)
          go_simp
          all_goals with_reducible rfl
        simp only [Act.put, List.setIfInBounds_toArray, List.set_cons_zero, List.set_cons_succ]
        refine wpAnyT_take (i := 5) (v := ?_) rfl (by kernel_rfl) (by kernel_rfl) (by kernel_rfl) (by kernel_rfl) (fun _ _ _ h => h) (Or.inl ⟨by rfl, ?_⟩) (HSx.out _ F) ?_
        rotate_left
        · intro w hSw
          (try dsimp only at hSw)
          go_simp
          all_goals with_reducible rfl
        simp only [Act.put, List.setIfInBounds_toArray, List.set_cons_zero, List.set_cons_succ]
        refine wpAnyT_take (i := 6) (v := ?_) rfl (by kernel_rfl) (by kernel_rfl) (by kernel_rfl) (by kernel_rfl) (fun _ _ _ h => h) (Or.inl ⟨by rfl, ?_⟩) (HSx.out _ F) ?_
        rotate_left
        · intro w hSw
          (try dsimp only at hSw)
          go_simp
          all_goals with_reducible rfl
        simp only [Act.put, List.setIfInBounds_toArray, List.set_cons_zero, List.set_cons_succ]
        refine wpAnyT_take (i := 7) (v := ?_) rfl (by kernel_rfl) (by kernel_rfl) (by kernel_rfl) (by kernel_rfl) (fun _ _ _ h => h) (Or.inl ⟨by rfl, ?_⟩) (HSx.out _ F) ?_
        rotate_left
        · intro w hSw
          (try dsimp only at hSw)
          go_simp
          all_goals with_reducible rfl
        simp only [Act.put, List.setIfInBounds_toArray, List.set_cons_zero, List.set_cons_succ]
        refine wpAnyT_take (i := 8) (v := ?_) rfl (by kernel_rfl) (by kernel_rfl) (by kernel_rfl) (by kernel_rfl) (fun _ _ _ h => h) (Or.inl ⟨by rfl, ?_⟩) (HSx.out _ F) ?_
        rotate_left
        · intro w hSw
          (try dsimp only at hSw)
          go_simp
          all_goals with_reducible rfl
        simp only [Act.put, List.setIfInBounds_toArray, List.set_cons_zero, List.set_cons_succ]
        refine wpAnyT_take (i := 9) (v := ?_) rfl (by kernel_rfl) (by kernel_rfl) (by kernel_rfl) (by kernel_rfl) (fun _ _ _ h => h) (Or.inl ⟨by rfl, ?_⟩) (HSx.out _ F) ?_
        rotate_left
        · intro w hSw
          (try dsimp only at hSw)
          go_simp
          all_goals with_reducible rfl
        simp only [Act.put, List.setIfInBounds_toArray, List.set_cons_zero, List.set_cons_succ]
        refine wpAnyT_take (i := 10) (v := ?_) rfl (by kernel_rfl) (by kernel_rfl) (by kernel_rfl) (by kernel_rfl) (fun _ _ _ h => h) (Or.inl ⟨by rfl, ?_⟩) (HSx.out _ F) ?_
        rotate_left
        · intro w hSw
          (try dsimp only at hSw)
          go_simp
          all_goals with_reducible rfl
        simp only [Act.put, List.setIfInBounds_toArray, List.set_cons_zero, List.set_cons_succ]
        refine wpAnyT_take (i := 11) (v := ?_) rfl (by kernel_rfl) (by kernel_rfl) (by kernel_rfl) (by kernel_rfl) (fun _ _ _ h => h) (Or.inl ⟨by rfl, ?_⟩) (HSx.out _ F) ?_
        rotate_left
        · intro w hSw
          (try dsimp only at hSw)
          go_simp
          all_goals with_reducible rfl
        simp only [Act.put, List.setIfInBounds_toArray, List.set_cons_zero, List.set_cons_succ]
        refine wpAnyT_take (i := 12) (v := ?_) rfl (by kernel_rfl) (by kernel_rfl) (by kernel_rfl) (by kernel_rfl) (fun _ _ _ h => h) (Or.inl ⟨by rfl, ?_⟩) (HSx.out _ F) ?_
        rotate_left
        · intro w hSw
          (try dsimp only at hSw)
          go_simp
          all_goals with_reducible rfl
        simp only [Act.put, List.setIfInBounds_toArray, List.set_cons_zero, List.set_cons_succ]
        refine wpAnyT_one (i := 13) (by kernel_rfl) rfl (fun K hK => ?_)
        go_simp
        refine (rlay_any (offN N w) ⟨n, settleN wt (fun _ => true) lie j, wt, (-1)⟩ HN.out _ kx HK.out x.2 wr.drew HV.out).mono ?_
        rintro e v2 ⟨v', rfl, hv', hb2⟩
        obtain ⟨A3, C3, A4, C4, rfl, q1, q2⟩ := hv'
        have HB2 := Lib.hid (F.trans (hb2.mono F.size))
        have HI2 : Hid (BoxR w (offN N w) (set3 v2 w.heap.size (.slice A3 n C3) (.slice A4 wt.length C4) (.int .i64 (-1))) n (settleN wt (fun _ => true) lie (j + 1)) wt (-1)) := by
          rw [HT.out]
          exact box_lay (wr := wr.drew) ((boxR_drew HI.out)) hb2 q1 q2
        obtain ⟨⟨y0, y1, y2⟩, g0, g1, g2'⟩ := r3 (HR0.out.on HB2.out (World.block_lt_of_cell? wr _ (HR0.out.1 0 _ rfl)))
        clear q1 q2 hb2
        refine hK.out _ _ (fun _ => (HSx.out _ HB2.out)) ?_
        clear hK K
        try simp only [Act.put, List.setIfInBounds_toArray, List.set_cons_zero, List.set_cons_succ]
        refine wpAnyT_one (i := 14) (by kernel_rfl) rfl (fun K hK => ?_)
        go_simp
        refine hK.out _ _ (fun h => absurd h (by decide)) ?_
        clear hK K
        try simp only [Act.put, List.setIfInBounds_toArray, List.set_cons_zero, List.set_cons_succ]
        refine wpAnyT_done (by kernel_rfl) ?_ _
        go_wp2_with fail
        go_roundw
        case rel => exact ⟨j + 1, hlt, by go_num, HI2.out⟩
        case measure => exact hms
      · obtain rfl : j = m := by omega
        obtain ⟨A5, C5, A6, C6, ⟨x0, x1, x2⟩, f0, f1, f2⟩ := box_cells HI.out
        rw [← HMe.out] at x1
        go_upto_region 9 with fail
        have HI2 := Lib.hid (box_gone HI.out)
        generalize hw2 : wr.setCell ⟨w.heap.size, 1, none⟩ (.slice none 0 0) = w2 at HI2 ⊢
        clear x0 x1 x2 f0 f1 f2 hw2
        obtain ⟨A3, C3, A4, C4, r0, r1, h1, h2, hB, hs⟩ := HI2.out
        obtain ⟨⟨x0, x1, x2⟩, f0, f1, f2⟩ := r3 r0
        obtain ⟨⟨y0, y1, y2⟩, g0, g1, g2⟩ := r3 r1
        have HEnd := Lib.hid (box_end (D := ⟨n, settleN wt (fun _ => true) lie j, [], (-1)⟩) (C1 := C3) (C2 := C4) r1 h1 h2 hB)
        clear r0 r1 h1 h2 hB hs
        go_wp2_with fail
        refine bodyPost_ret (results_two rfl (by rfl) (by rfl) (rf_load HEnd.out.1)) rfl ?_
        refine ⟨_, rfl, ?_, HEnd.out.2.2⟩
        rw [HWr.out, ← HMe.out]
        rw [if_neg (by decide)]
        exact HEnd.out.2.1
  · have hpos2 : 0 < lf := by omega
    have HI0 : Hid (BoxR w (offN N w) ((w.alloc (.cells #[.slice A1 n C1, .slice A2 m C2, .int .i64 (lf - 1)] 30)).alloc (.cells #[.slice none 0 0, .slice none 0 0, .int .i64 0] 30)) n lie wt (lf - 1)) := by
      rw [HMe.out]
      exact box_start H1.out H2.out _
    go_enter Try.func34, Try.ntmps34
    go_upto_region 4 with fail
    generalize (w.alloc (.cells #[.slice A1 n C1, .slice A2 m C2, .int .i64 (lf - 1)] 30)).alloc (.cells #[.slice none 0 0, .slice none 0 0, .int .i64 0] 30) = W at HI0 ⊢
    clear hl0
    go_wp2_with fail
    go_loopw [4] (fun v4 wr => ∃ j : Nat, j ≤ m ∧ v4 = .int .i64 j ∧ Hid (BoxR w (offN N w) wr n (settleN wt (fun _ => true) lie j) wt (lf - 1))) (fun v4 _ => m - (intOf v4).toNat)
    case atStart => exact ⟨0, Nat.zero_le _, rfl, HI0.out⟩
    case round =>
      obtain ⟨j, hj, rfl, HI⟩ := hrel
      by_cases hlt : j < m
      · have hltI : (j : Int) < (m : Int) := by omega
        have hms := mless hlt
        obtain ⟨x, hx⟩ : ∃ x, wt[j]? = some x := ⟨_, List.getElem?_eq_getElem (by have := HMe.out; omega)⟩
        obtain ⟨A5, C5, A6, C6, ⟨x0, x1, x2⟩, f0, f1, f2⟩ := box_cells HI.out
        rw [← HMe.out] at x1
        go_upto_region 7 with fail
        clear x0 x1 x2 f0 f1 f2
        obtain ⟨A1, C1, A2, C2, r0, r1, h1, h2, hB, hs⟩ := HI.out
        obtain ⟨g2, rfl, d0⟩ := rdO_at h2 (putsL_at hx).1
        obtain ⟨g2', e2, d1⟩ := rdO_at h2 (putsL_at hx).2
        injection e2 with e2
        injection e2 with e2
        subst e2
        obtain ⟨kx, hkx, hkx2⟩ := pl_at HP.out hx
        rw [hkx2] at d0
        have hgl : g2 < wr.heap.size := World.block_lt_of_cell? wr _ d0
        rw [← HMe.out] at r0
        have HSx : Hid (∀ w', Below wr.heap.size wr w' → (w'.cell? ⟨w.heap.size, 0, none⟩ = some (.slice A1 n C1) ∧ w'.cell? ⟨w.heap.size, 1, none⟩ = some (.slice (some ⟨g2, 0, none⟩) m C2) ∧ w'.cell? ⟨w.heap.size, 2, none⟩ = some (.int .i64 (lf - 1))) ∧ (w'.cell? ⟨g2, j * 2, none⟩ = some (.int .i64 (kx : Nat)) ∧ w'.cell? ⟨g2, j * 2 + 1, none⟩ = some (.string (txt x.2)))) := fun w' hb => by
          obtain ⟨⟨x0, x1, x2⟩, _⟩ := r3 (r0.on hb (by omega))
          exact ⟨⟨x0, x1, x2⟩, (hb.cell (p := ⟨g2, j * 2, none⟩) hgl).trans d0, (hb.cell (p := ⟨g2, j * 2 + 1, none⟩) hgl).trans d1⟩
        have HV : Hid (RfV wr.drew (offN N w) (.agg #[.slice A1 n C1, .slice (some ⟨g2, 0, none⟩) m C2, .int .i64 (lf - 1)]) ⟨n, settleN wt (fun _ => true) lie j, wt, (lf - 1)⟩) := by
          have h : RfV wr (offN N w) (.agg #[.slice A1 n C1, .slice (some ⟨g2, 0, none⟩) wt.length C2, .int .i64 (lf - 1)]) ⟨n, settleN wt (fun _ => true) lie j, wt, (lf - 1)⟩ := ⟨A1, C1, _, C2, rfl, h1, h2⟩
          rw [← HMe.out] at h
          exact h.on (Below.refl _ _).drew
        have HT : Hid (settleN wt (fun _ => true) lie (j + 1) = layM (settleN wt (fun _ => true) lie j) ((kx : Nat), x.2)) := by rw [Hid, settle_step _ _ _ hx, if_pos rfl, ← hkx2]
        have HK : Hid (kx < n) := hkx
        have HR0 := Lib.hid r0
        have F : Below wr.heap.size wr wr.drew := (Below.refl _ _).drew
        have hM := HM.out
        clear r0 r1 h1 h2 hB hs d0 d1 hgl hkx2 hx
        refine wp_region_T (fun w' => (w'.cell? ⟨w.heap.size, 0, none⟩ = some (.slice A1 n C1) ∧ w'.cell? ⟨w.heap.size, 1, none⟩ = some (.slice (some ⟨g2, 0, none⟩) m C2) ∧ w'.cell? ⟨w.heap.size, 2, none⟩ = some (.int .i64 (lf - 1))) ∧ (w'.cell? ⟨g2, j * 2, none⟩ = some (.int .i64 (kx : Nat)) ∧ w'.cell? ⟨g2, j * 2 + 1, none⟩ = some (.string (txt x.2)))) 14 (by kernel_rfl) ?_
        refine wpAnyT_take (i := 0) (v := ?_) rfl (by kernel_rfl) (by kernel_rfl) (by kernel_rfl) (by kernel_rfl) (fun _ _ _ h => h) (Or.inl ⟨by rfl, ?_⟩) (HSx.out _ F) ?_
        rotate_left
        · intro w hSw
          (try dsimp only at hSw)
          go_simp
          all_goals with_reducible rfl
        simp only [Act.put, List.setIfInBounds_toArray, List.set_cons_zero, List.set_cons_succ]
        refine wpAnyT_take (i := 1) (v := ?_) rfl (by kernel_rfl) (by kernel_rfl) (by kernel_rfl) (by kernel_rfl) (fun _ _ _ h => h) (Or.inl ⟨by rfl, ?_⟩) (HSx.out _ F) ?_
        rotate_left
        · intro w hSw
          (try dsimp only at hSw)
          go_simp
          all_goals with_reducible rfl
        simp only [Act.put, List.setIfInBounds_toArray, List.set_cons_zero, List.set_cons_succ]
        refine wpAnyT_take (i := 2) (v := ?_) rfl (by kernel_rfl) (by kernel_rfl) (by kernel_rfl) (by kernel_rfl) (fun _ _ _ h => h) (Or.inl ⟨by rfl, ?_⟩) (HSx.out _ F) ?_
        rotate_left
        · intro w hSw
          (try dsimp only at hSw)
          go_simp
          all_goals with_reducible rfl
        simp only [Act.put, List.setIfInBounds_toArray, List.set_cons_zero, List.set_cons_succ]
        refine wpAnyT_take (i := 3) (v := ?_) rfl (by kernel_rfl) (by kernel_rfl) (by kernel_rfl) (by kernel_rfl) (fun _ _ _ h => h) (Or.inl ⟨by rfl, ?_⟩) (HSx.out _ F) ?_
        rotate_left
        · intro w hSw
          (try dsimp only at hSw)
          go_simp
          all_goals with_reducible rfl
        simp only [Act.put, List.setIfInBounds_toArray, List.set_cons_zero, List.set_cons_succ]
        refine wpAnyT_take (i := 4) (v := ?_) rfl (by kernel_rfl) (by kernel_rfl) (by kernel_rfl) (by kernel_rfl) (fun _ _ _ h => h) (Or.inl ⟨by rfl, ?_⟩) (HSx.out _ F) ?_
        rotate_left
        · intro w hSw
          (try dsimp only at hSw)
          go_simp
          all_goals with_reducible rfl
        simp only [Act.put, List.setIfInBounds_toArray, List.set_cons_zero, List.set_cons_succ]
        refine wpAnyT_take (i := 5) (v := ?_) rfl (by kernel_rfl) (by kernel_rfl) (by kernel_rfl) (by kernel_rfl) (fun _ _ _ h => h) (Or.inl ⟨by rfl, ?_⟩) (HSx.out _ F) ?_
        rotate_left
        · intro w hSw
          (try dsimp only at hSw)
          go_simp
          all_goals with_reducible rfl
        simp only [Act.put, List.setIfInBounds_toArray, List.set_cons_zero, List.set_cons_succ]
        refine wpAnyT_take (i := 6) (v := ?_) rfl (by kernel_rfl) (by kernel_rfl) (by kernel_rfl) (by kernel_rfl) (fun _ _ _ h => h) (Or.inl ⟨by rfl, ?_⟩) (HSx.out _ F) ?_
        rotate_left
        · intro w hSw
          (try dsimp only at hSw)
          go_simp
          all_goals with_reducible rfl
        simp only [Act.put, List.setIfInBounds_toArray, List.set_cons_zero, List.set_cons_succ]
        refine wpAnyT_take (i := 7) (v := ?_) rfl (by kernel_rfl) (by kernel_rfl) (by kernel_rfl) (by kernel_rfl) (fun _ _ _ h => h) (Or.inl ⟨by rfl, ?_⟩) (HSx.out _ F) ?_
        rotate_left
        · intro w hSw
          (try dsimp only at hSw)
          go_simp
          all_goals with_reducible rfl
        simp only [Act.put, List.setIfInBounds_toArray, List.set_cons_zero, List.set_cons_succ]
        refine wpAnyT_take (i := 8) (v := ?_) rfl (by kernel_rfl) (by kernel_rfl) (by kernel_rfl) (by kernel_rfl) (fun _ _ _ h => h) (Or.inl ⟨by rfl, ?_⟩) (HSx.out _ F) ?_
        rotate_left
        · intro w hSw
          (try dsimp only at hSw)
          go_simp
          all_goals with_reducible rfl
        simp only [Act.put, List.setIfInBounds_toArray, List.set_cons_zero, List.set_cons_succ]
        refine wpAnyT_take (i := 9) (v := ?_) rfl (by kernel_rfl) (by kernel_rfl) (by kernel_rfl) (by kernel_rfl) (fun _ _ _ h => h) (Or.inl ⟨by rfl, ?_⟩) (HSx.out _ F) ?_
        rotate_left
        · intro w hSw
          (try dsimp only at hSw)
          go_simp
          all_goals with_reducible rfl
        simp only [Act.put, List.setIfInBounds_toArray, List.set_cons_zero, List.set_cons_succ]
        refine wpAnyT_take (i := 10) (v := ?_) rfl (by kernel_rfl) (by kernel_rfl) (by kernel_rfl) (by kernel_rfl) (fun _ _ _ h => h) (Or.inl ⟨by rfl, ?_⟩) (HSx.out _ F) ?_
        rotate_left
        · intro w hSw
          (try dsimp only at hSw)
          go_simp
          all_goals with_reducible rfl
        simp only [Act.put, List.setIfInBounds_toArray, List.set_cons_zero, List.set_cons_succ]
        refine wpAnyT_take (i := 11) (v := ?_) rfl (by kernel_rfl) (by kernel_rfl) (by kernel_rfl) (by kernel_rfl) (fun _ _ _ h => h) (Or.inl ⟨by rfl, ?_⟩) (HSx.out _ F) ?_
        rotate_left
        · intro w hSw
          (try dsimp only at hSw)
          go_simp
          all_goals with_reducible rfl
        simp only [Act.put, List.setIfInBounds_toArray, List.set_cons_zero, List.set_cons_succ]
        refine wpAnyT_take (i := 12) (v := ?_) rfl (by kernel_rfl) (by kernel_rfl) (by kernel_rfl) (by kernel_rfl) (fun _ _ _ h => h) (Or.inl ⟨by rfl, ?_⟩) (HSx.out _ F) ?_
        rotate_left
        · intro w hSw
          (try dsimp only at hSw)
          go_simp
          all_goals with_reducible rfl
        simp only [Act.put, List.setIfInBounds_toArray, List.set_cons_zero, List.set_cons_succ]
        refine wpAnyT_one (i := 13) (by kernel_rfl) rfl (fun K hK => ?_)
        go_simp
        refine (rlay_any (offN N w) ⟨n, settleN wt (fun _ => true) lie j, wt, (lf - 1)⟩ HN.out _ kx HK.out x.2 wr.drew HV.out).mono ?_
        rintro e v2 ⟨v', rfl, hv', hb2⟩
        obtain ⟨A3, C3, A4, C4, rfl, q1, q2⟩ := hv'
        have HB2 := Lib.hid (F.trans (hb2.mono F.size))
        have HI2 : Hid (BoxR w (offN N w) (set3 v2 w.heap.size (.slice A3 n C3) (.slice A4 wt.length C4) (.int .i64 (lf - 1))) n (settleN wt (fun _ => true) lie (j + 1)) wt (lf - 1)) := by
          rw [HT.out]
          exact box_lay (wr := wr.drew) ((boxR_drew HI.out)) hb2 q1 q2
        obtain ⟨⟨y0, y1, y2⟩, g0, g1, g2'⟩ := r3 (HR0.out.on HB2.out (World.block_lt_of_cell? wr _ (HR0.out.1 0 _ rfl)))
        clear q1 q2 hb2
        refine hK.out _ _ (fun _ => (HSx.out _ HB2.out)) ?_
        clear hK K
        try simp only [Act.put, List.setIfInBounds_toArray, List.set_cons_zero, List.set_cons_succ]
        refine wpAnyT_one (i := 14) (by kernel_rfl) rfl (fun K hK => ?_)
        go_simp
        refine hK.out _ _ (fun h => absurd h (by decide)) ?_
        clear hK K
        try simp only [Act.put, List.setIfInBounds_toArray, List.set_cons_zero, List.set_cons_succ]
        refine wpAnyT_done (by kernel_rfl) ?_ _
        go_wp2_with fail
        go_roundw
        case rel => exact ⟨j + 1, hlt, by go_num, HI2.out⟩
        case measure => exact hms
      · obtain rfl : j = m := by omega
        obtain ⟨A5, C5, A6, C6, ⟨x0, x1, x2⟩, f0, f1, f2⟩ := box_cells HI.out
        rw [← HMe.out] at x1
        go_upto_region 9 with fail
        have HI2 := Lib.hid (box_gone HI.out)
        generalize hw2 : wr.setCell ⟨w.heap.size, 1, none⟩ (.slice none 0 0) = w2 at HI2 ⊢
        clear x0 x1 x2 f0 f1 f2 hw2
        obtain ⟨A3, C3, A4, C4, r0, r1, h1, h2, hB, hs⟩ := HI2.out
        obtain ⟨⟨x0, x1, x2⟩, f0, f1, f2⟩ := r3 r0
        obtain ⟨⟨y0, y1, y2⟩, g0, g1, g2⟩ := r3 r1
        have HEnd := Lib.hid (box_end (D := ⟨n, settleN wt (fun _ => true) lie j, [], (lf - 1)⟩) (C1 := C3) (C2 := C4) r1 h1 h2 hB)
        clear r0 r1 h1 h2 hB hs
        go_wp2_with fail
        refine bodyPost_ret (results_two rfl (by rfl) (by rfl) (rf_load HEnd.out.1)) rfl ?_
        refine ⟨_, rfl, ?_, HEnd.out.2.2⟩
        rw [HWr.out, ← HMe.out]
        rw [if_pos hpos2]
        exact HEnd.out.2.1

theorem rdT_at {w : World} {B : Nat} {A : Option Addr} {l : List Bool} (h : RdT w B A l) {i : Nat} {q : Bool} (hi : l[i]? = some q) : ∃ g o, A = some ⟨g, o, none⟩ ∧ g < B ∧ w.cell? ⟨g, o + i, none⟩ = some (.bool q) := by
  rcases h with rfl | ⟨g, o, rfl, hg, hc⟩
  · simp at hi
  · exact ⟨g, o, rfl, hg, hc i q hi⟩
theorem rdT_later {w w' : World} {B : Nat} {A : Option Addr} {l : List Bool} (h : RdT w B A l) (hb : Below B w w') : RdT w' B A l := by
  rcases h with h | ⟨g, o, rfl, hg, hc⟩
  · exact .inl h
  · exact .inr ⟨g, o, rfl, hg, fun k q hq => (hb.cell (p := ⟨g, o + k, none⟩) hg).trans (hc k q hq)⟩

set_option maxHeartbeats 8000000 in
theorem rcrash_any (N : Nat → List Value → Prop) (n : Nat) (hn : n ≤ 4096) (lie : Int → List UInt8) (wt : List (Int × List UInt8)) (hwt : wt.length < 1000001) (hpl : ∀ x ∈ wt, hasS n x.1 = true) (lf : Int) (v : Value) (A : Option Addr) (C : Nat) (l : List Bool) (w : World) (h : RfV w N v ⟨n, lie, wt, lf⟩) (hk : RdT w w.heap.size A l) :
    Calls Try.prog 35 #[v, .slice A l.length C] w fun e w' => ∃ v', e = .returned v' ∧ RfV w' (sinceN N w) v' (DkM.crashed ⟨n, lie, wt, lf⟩ l) ∧ Below w.heap.size w w' := by
  obtain ⟨A1, C1, A2, C2, rfl, h1, h2⟩ := h
  have HWr : Hid (DkM.crashed ⟨n, lie, wt, lf⟩ l = ⟨n, settleN wt (keepAt l) lie wt.length, [], -1⟩) := rfl
  have H1 := Lib.hid h1
  have H2 := Lib.hid h2
  have HP : Hid (∀ x ∈ wt, hasS n x.1 = true) := hpl
  have HN : Hid (n ≤ 4096) := hn
  have HRT := Lib.hid hk
  obtain ⟨m, hm⟩ : ∃ m, m = wt.length := ⟨_, rfl⟩
  have HMe := Lib.hid hm
  have HM : Hid (m < 1000001) := by rw [Hid, hm]; exact hwt
  obtain ⟨nl, hnl⟩ : ∃ m, m = l.length := ⟨_, rfl⟩
  have HNl := Lib.hid hnl
  show Calls _ _ #[.agg #[.slice A1 n C1, .slice A2 wt.length C2, .int .i64 lf], _] _ _
  rw [← hm, ← hnl]
  clear h1 h2 hpl hn hwt hm hk hnl
  have HI0 : Hid (BoxR w (offN N w) ((w.alloc (.cells #[.slice A1 n C1, .slice A2 m C2, .int .i64 lf] 30)).alloc (.cells #[.slice none 0 0, .slice none 0 0, .int .i64 0] 30)) n lie wt lf) := by
    rw [HMe.out]
    exact box_start H1.out H2.out _
  go_enter Try.func35, Try.ntmps35
  go_upto_region 1 with fail
  generalize (w.alloc (.cells #[.slice A1 n C1, .slice A2 m C2, .int .i64 lf] 30)).alloc (.cells #[.slice none 0 0, .slice none 0 0, .int .i64 0] 30) = W at HI0 ⊢
  go_wp2_with fail
  go_loopw [5] (fun v4 wr => ∃ j : Nat, j ≤ m ∧ v4 = .int .i64 j ∧ Hid (BoxR w (offN N w) wr n (settleN wt (keepAt l) lie j) wt lf)) (fun v4 _ => m - (intOf v4).toNat)
  case atStart => exact ⟨0, Nat.zero_le _, rfl, HI0.out⟩
  case round =>
    obtain ⟨j, hj, rfl, HI⟩ := hrel
    by_cases hlt : j < m
    · have hltI : (j : Int) < (m : Int) := by omega
      have hms := mless hlt
      obtain ⟨x, hx⟩ : ∃ x, wt[j]? = some x := ⟨_, List.getElem?_eq_getElem (by have := HMe.out; omega)⟩
      obtain ⟨A5, C5, A6, C6, ⟨x0, x1, x2⟩, f0, f1, f2⟩ := box_cells HI.out
      rw [← HMe.out] at x1
      by_cases hin : j < nl
      · have hinI : (j : Int) < (nl : Int) := by omega
        obtain ⟨q, hq⟩ : ∃ q, l[j]? = some q := ⟨_, List.getElem?_eq_getElem (by have := HNl.out; omega)⟩
        obtain ⟨gk, ok, rfl, hgk, hck⟩ := rdT_at (rdT_later HRT.out (by obtain ⟨_, _, _, _, _, _, _, _, hB, _⟩ := HI.out; exact hB)) hq
        have HQ0 : Hid (keepAt l j = q) := by rw [Hid, keepAt, hq]; rfl
        have HXx := Lib.hid hx
        have hM := HM.out
        clear hq hx
        cases q
        · go_wp2_with fail
          go_roundw
          case rel =>
            refine ⟨j + 1, hlt, by go_num, ?_⟩
            rw [settle_step _ _ _ HXx.out, if_neg (by rw [HQ0.out]; decide)]
            exact HI.out
          case measure => exact hms
        · have HQ : Hid (keepAt l j = true) := HQ0.out
          go_upto_region 5 with fail
          have hx := HXx.out
          clear x0 x1 x2 f0 f1 f2 hck
          obtain ⟨A1, C1, A2, C2, r0, r1, h1, h2, hB, hs⟩ := HI.out
          obtain ⟨g2, rfl, d0⟩ := rdO_at h2 (putsL_at hx).1
          obtain ⟨g2', e2, d1⟩ := rdO_at h2 (putsL_at hx).2
          injection e2 with e2
          injection e2 with e2
          subst e2
          obtain ⟨kx, hkx, hkx2⟩ := pl_at HP.out hx
          rw [hkx2] at d0
          have hgl : g2 < wr.heap.size := World.block_lt_of_cell? wr _ d0
          rw [← HMe.out] at r0
          have HSx : Hid (∀ w', Below wr.heap.size wr w' → (w'.cell? ⟨w.heap.size, 0, none⟩ = some (.slice A1 n C1) ∧ w'.cell? ⟨w.heap.size, 1, none⟩ = some (.slice (some ⟨g2, 0, none⟩) m C2) ∧ w'.cell? ⟨w.heap.size, 2, none⟩ = some (.int .i64 lf)) ∧ (w'.cell? ⟨g2, j * 2, none⟩ = some (.int .i64 (kx : Nat)) ∧ w'.cell? ⟨g2, j * 2 + 1, none⟩ = some (.string (txt x.2)))) := fun w' hb => by
            obtain ⟨⟨x0, x1, x2⟩, _⟩ := r3 (r0.on hb (by omega))
            exact ⟨⟨x0, x1, x2⟩, (hb.cell (p := ⟨g2, j * 2, none⟩) hgl).trans d0, (hb.cell (p := ⟨g2, j * 2 + 1, none⟩) hgl).trans d1⟩
          have HV : Hid (RfV wr.drew (offN N w) (.agg #[.slice A1 n C1, .slice (some ⟨g2, 0, none⟩) m C2, .int .i64 lf]) ⟨n, settleN wt (keepAt l) lie j, wt, lf⟩) := by
            have h : RfV wr (offN N w) (.agg #[.slice A1 n C1, .slice (some ⟨g2, 0, none⟩) wt.length C2, .int .i64 lf]) ⟨n, settleN wt (keepAt l) lie j, wt, lf⟩ := ⟨A1, C1, _, C2, rfl, h1, h2⟩
            rw [← HMe.out] at h
            exact h.on (Below.refl _ _).drew
          have HT : Hid (settleN wt (keepAt l) lie (j + 1) = layM (settleN wt (keepAt l) lie j) ((kx : Nat), x.2)) := by rw [Hid, settle_step _ _ _ hx, if_pos HQ.out, ← hkx2]
          have HK : Hid (kx < n) := hkx
          have HR0 := Lib.hid r0
          have F : Below wr.heap.size wr wr.drew := (Below.refl _ _).drew
          have hM := HM.out
          clear r0 r1 h1 h2 hB hs d0 d1 hgl hkx2 hx
          refine wp_region_T (fun w' => (w'.cell? ⟨w.heap.size, 0, none⟩ = some (.slice A1 n C1) ∧ w'.cell? ⟨w.heap.size, 1, none⟩ = some (.slice (some ⟨g2, 0, none⟩) m C2) ∧ w'.cell? ⟨w.heap.size, 2, none⟩ = some (.int .i64 lf)) ∧ (w'.cell? ⟨g2, j * 2, none⟩ = some (.int .i64 (kx : Nat)) ∧ w'.cell? ⟨g2, j * 2 + 1, none⟩ = some (.string (txt x.2)))) 14 (by kernel_rfl) ?_
          refine wpAnyT_take (i := 0) (v := ?_) rfl (by kernel_rfl) (by kernel_rfl) (by kernel_rfl) (by kernel_rfl) (fun _ _ _ h => h) (Or.inl ⟨by rfl, ?_⟩) (HSx.out _ F) ?_
          rotate_left
          · intro w hSw
            (try dsimp only at hSw)
            go_simp
            all_goals with_reducible rfl
          simp only [Act.put, List.setIfInBounds_toArray, List.set_cons_zero, List.set_cons_succ]
          refine wpAnyT_take (i := 1) (v := ?_) rfl (by kernel_rfl) (by kernel_rfl) (by kernel_rfl) (by kernel_rfl) (fun _ _ _ h => h) (Or.inl ⟨by rfl, ?_⟩) (HSx.out _ F) ?_
          rotate_left
          · intro w hSw
            (try dsimp only at hSw)
            go_simp
            all_goals with_reducible rfl
          simp only [Act.put, List.setIfInBounds_toArray, List.set_cons_zero, List.set_cons_succ]
          refine wpAnyT_take (i := 2) (v := ?_) rfl (by kernel_rfl) (by kernel_rfl) (by kernel_rfl) (by kernel_rfl) (fun _ _ _ h => h) (Or.inl ⟨by rfl, ?_⟩) (HSx.out _ F) ?_
          rotate_left
          · intro w hSw
            (try dsimp only at hSw)
            go_simp
            all_goals with_reducible rfl
          simp only [Act.put, List.setIfInBounds_toArray, List.set_cons_zero, List.set_cons_succ]
          refine wpAnyT_take (i := 3) (v := ?_) rfl (by kernel_rfl) (by kernel_rfl) (by kernel_rfl) (by kernel_rfl) (fun _ _ _ h => h) (Or.inl ⟨by rfl, ?_⟩) (HSx.out _ F) ?_
          rotate_left
          · intro w hSw
            (try dsimp only at hSw)
            go_simp
            all_goals with_reducible rfl
          simp only [Act.put, List.setIfInBounds_toArray, List.set_cons_zero, List.set_cons_succ]
          refine wpAnyT_take (i := 4) (v := ?_) rfl (by kernel_rfl) (by kernel_rfl) (by kernel_rfl) (by kernel_rfl) (fun _ _ _ h => h) (Or.inl ⟨by rfl, ?_⟩) (HSx.out _ F) ?_
          rotate_left
          · intro w hSw
            (try dsimp only at hSw)
            go_simp
            all_goals with_reducible rfl
          simp only [Act.put, List.setIfInBounds_toArray, List.set_cons_zero, List.set_cons_succ]
          refine wpAnyT_take (i := 5) (v := ?_) rfl (by kernel_rfl) (by kernel_rfl) (by kernel_rfl) (by kernel_rfl) (fun _ _ _ h => h) (Or.inl ⟨by rfl, ?_⟩) (HSx.out _ F) ?_
          rotate_left
          · intro w hSw
            (try dsimp only at hSw)
            go_simp
            all_goals with_reducible rfl
          simp only [Act.put, List.setIfInBounds_toArray, List.set_cons_zero, List.set_cons_succ]
          refine wpAnyT_take (i := 6) (v := ?_) rfl (by kernel_rfl) (by kernel_rfl) (by kernel_rfl) (by kernel_rfl) (fun _ _ _ h => h) (Or.inl ⟨by rfl, ?_⟩) (HSx.out _ F) ?_
          rotate_left
          · intro w hSw
            (try dsimp only at hSw)
            go_simp
            all_goals with_reducible rfl
          simp only [Act.put, List.setIfInBounds_toArray, List.set_cons_zero, List.set_cons_succ]
          refine wpAnyT_take (i := 7) (v := ?_) rfl (by kernel_rfl) (by kernel_rfl) (by kernel_rfl) (by kernel_rfl) (fun _ _ _ h => h) (Or.inl ⟨by rfl, ?_⟩) (HSx.out _ F) ?_
          rotate_left
          · intro w hSw
            (try dsimp only at hSw)
            go_simp
            all_goals with_reducible rfl
          simp only [Act.put, List.setIfInBounds_toArray, List.set_cons_zero, List.set_cons_succ]
          refine wpAnyT_take (i := 8) (v := ?_) rfl (by kernel_rfl) (by kernel_rfl) (by kernel_rfl) (by kernel_rfl) (fun _ _ _ h => h) (Or.inl ⟨by rfl, ?_⟩) (HSx.out _ F) ?_
          rotate_left
          · intro w hSw
            (try dsimp only at hSw)
            go_simp
            all_goals with_reducible rfl
          simp only [Act.put, List.setIfInBounds_toArray, List.set_cons_zero, List.set_cons_succ]
          refine wpAnyT_take (i := 9) (v := ?_) rfl (by kernel_rfl) (by kernel_rfl) (by kernel_rfl) (by kernel_rfl) (fun _ _ _ h => h) (Or.inl ⟨by rfl, ?_⟩) (HSx.out _ F) ?_
          rotate_left
          · intro w hSw
            (try dsimp only at hSw)
            go_simp
            all_goals with_reducible rfl
          simp only [Act.put, List.setIfInBounds_toArray, List.set_cons_zero, List.set_cons_succ]
          refine wpAnyT_take (i := 10) (v := ?_) rfl (by kernel_rfl) (by kernel_rfl) (by kernel_rfl) (by kernel_rfl) (fun _ _ _ h => h) (Or.inl ⟨by rfl, ?_⟩) (HSx.out _ F) ?_
          rotate_left
          · intro w hSw
            (try dsimp only at hSw)
            go_simp
            all_goals with_reducible rfl
          simp only [Act.put, List.setIfInBounds_toArray, List.set_cons_zero, List.set_cons_succ]
          refine wpAnyT_take (i := 11) (v := ?_) rfl (by kernel_rfl) (by kernel_rfl) (by kernel_rfl) (by kernel_rfl) (fun _ _ _ h => h) (Or.inl ⟨by rfl, ?_⟩) (HSx.out _ F) ?_
          rotate_left
          · intro w hSw
            (try dsimp only at hSw)
            go_simp
            all_goals with_reducible rfl
          simp only [Act.put, List.setIfInBounds_toArray, List.set_cons_zero, List.set_cons_succ]
          refine wpAnyT_take (i := 12) (v := ?_) rfl (by kernel_rfl) (by kernel_rfl) (by kernel_rfl) (by kernel_rfl) (fun _ _ _ h => h) (Or.inl ⟨by rfl, ?_⟩) (HSx.out _ F) ?_
          rotate_left
          · intro w hSw
            (try dsimp only at hSw)
            go_simp
            all_goals with_reducible rfl
          simp only [Act.put, List.setIfInBounds_toArray, List.set_cons_zero, List.set_cons_succ]
          refine wpAnyT_one (i := 13) (by kernel_rfl) rfl (fun K hK => ?_)
          go_simp
          refine (rlay_any (offN N w) ⟨n, settleN wt (keepAt l) lie j, wt, lf⟩ HN.out _ kx HK.out x.2 wr.drew HV.out).mono ?_
          rintro e v2 ⟨v', rfl, hv', hb2⟩
          obtain ⟨A3, C3, A4, C4, rfl, q1, q2⟩ := hv'
          have HB2 := Lib.hid (F.trans (hb2.mono F.size))
          have HI2 : Hid (BoxR w (offN N w) (set3 v2 w.heap.size (.slice A3 n C3) (.slice A4 wt.length C4) (.int .i64 lf)) n (settleN wt (keepAt l) lie (j + 1)) wt lf) := by
            rw [HT.out]
            exact box_lay (wr := wr.drew) ((boxR_drew HI.out)) hb2 q1 q2
          obtain ⟨⟨y0, y1, y2⟩, g0, g1, g2'⟩ := r3 (HR0.out.on HB2.out (World.block_lt_of_cell? wr _ (HR0.out.1 0 _ rfl)))
          clear q1 q2 hb2
          refine hK.out _ _ (fun _ => (HSx.out _ HB2.out)) ?_
          clear hK K
          try simp only [Act.put, List.setIfInBounds_toArray, List.set_cons_zero, List.set_cons_succ]
          refine wpAnyT_one (i := 14) (by kernel_rfl) rfl (fun K hK => ?_)
          go_simp
          refine hK.out _ _ (fun h => absurd h (by decide)) ?_
          clear hK K
          try simp only [Act.put, List.setIfInBounds_toArray, List.set_cons_zero, List.set_cons_succ]
          refine wpAnyT_done (by kernel_rfl) ?_ _
          go_wp2_with fail
          go_roundw
          case rel => exact ⟨j + 1, hlt, by go_num, HI2.out⟩
          case measure => exact hms
      · have hM := HM.out
        have hinD : decide ((j : Int) < (nl : Int)) = false := by simp; omega
        have HQ0 : Hid (keepAt l j = false) := by rw [Hid, keepAt, List.getElem?_eq_none (by have := HNl.out; omega)]; rfl
        have HXx := Lib.hid hx
        clear hx
        go_wp2_with fail
        go_roundw
        case rel =>
          refine ⟨j + 1, hlt, by go_num, ?_⟩
          rw [settle_step _ _ _ HXx.out, if_neg (by rw [HQ0.out]; decide)]
          exact HI.out
        case measure => exact hms
    · obtain rfl : j = m := by omega
      obtain ⟨A5, C5, A6, C6, ⟨x0, x1, x2⟩, f0, f1, f2⟩ := box_cells HI.out
      rw [← HMe.out] at x1
      go_upto_region 8 with fail
      have HI2 := Lib.hid (box_left (box_gone HI.out) (-1))
      generalize hw2 : (wr.setCell ⟨w.heap.size, 1, none⟩ (.slice none 0 0)).setCell ⟨w.heap.size, 2, none⟩ (.int .i64 (-1)) = w2 at HI2 ⊢
      clear x0 x1 x2 f0 f1 f2 hw2
      obtain ⟨A3, C3, A4, C4, r0, r1, h1, h2, hB, hs⟩ := HI2.out
      obtain ⟨⟨x0, x1, x2⟩, f0, f1, f2⟩ := r3 r0
      obtain ⟨⟨y0, y1, y2⟩, g0, g1, g2⟩ := r3 r1
      have HEnd := Lib.hid (box_end (D := ⟨n, settleN wt (keepAt l) lie j, [], -1⟩) (C1 := C3) (C2 := C4) r1 h1 h2 hB)
      clear r0 r1 h1 h2 hB hs
      go_wp2_with fail
      refine bodyPost_ret (results_cell rfl (by rfl) (rf_load HEnd.out.1)) rfl ?_
      refine ⟨_, rfl, ?_, HEnd.out.2.2⟩
      rw [HWr.out, ← HMe.out]
      exact HEnd.out.2.1

set_option maxHeartbeats 4000000 in
theorem rsyncNot_any (N : Nat → List Value → Prop) (n : Nat) (lie : Int → List UInt8) (wt : List (Int × List UInt8)) (v : Value) (w : World) (h : RfV w N v ⟨n, lie, wt, 0⟩) :
    Calls Try.prog 34 #[v] w fun e w' => ∃ v', e = .returned (.tuple #[v', .int .i64 190]) ∧ RfV w' N v' ⟨n, lie, wt, 0⟩ ∧ Below w.heap.size w w' := by
  obtain ⟨A1, C1, A2, C2, rfl, h1, h2⟩ := h
  have HB : Hid (Below w.heap.size w ((w.alloc (.cells #[.slice A1 n C1, .slice A2 wt.length C2, .int .i64 0] 30)).alloc (.cells #[.slice A1 n C1, .slice A2 wt.length C2, .int .i64 0] 30))) := below_al (below_al (Below.refl _ _) _) _
  have hr := RowB.new (w.alloc (.cells #[.slice A1 n C1, .slice A2 wt.length C2, .int .i64 0] 30)) [.slice A1 n C1, .slice A2 wt.length C2, .int .i64 0] 30
  rw [World.size_alloc] at hr
  have HR := Lib.hid hr
  have HV : Hid (RfV ((w.alloc (.cells #[.slice A1 n C1, .slice A2 wt.length C2, .int .i64 0] 30)).alloc (.cells #[.slice A1 n C1, .slice A2 wt.length C2, .int .i64 0] 30)) N (.agg #[.slice A1 n C1, .slice A2 wt.length C2, .int .i64 0]) ⟨n, lie, wt, 0⟩) := ⟨A1, C1, A2, C2, rfl, h1.on HB.out, h2.on HB.out⟩
  clear h1 h2 hr
  show Calls _ _ #[.agg #[.slice A1 n C1, .slice A2 wt.length C2, .int .i64 0]] _ _
  go_enter Try.func34, Try.ntmps34
  go_wp2_with fail
  refine bodyPost_ret (results_two rfl (by rfl) (by rfl) (rf_load HR.out)) rfl ?_
  exact ⟨_, rfl, HV.out, HB.out⟩

end Go.Proofs.Ytekeooeapiodmaa

namespace Go.Proofs.Ytekeooeapiodmaa
open Go Go.RowKit Go.Shelf
set_option linter.unusedSimpArgs false
set_option linter.unusedVariables false
set_option maxRecDepth 100000

attribute [local go_sem] Oper.semAt_some

theorem step_runD {P : Program} {ops : Array Oper} {o : Oper} {a : Act} {w : World} {K : Act → World → Prop} {Q : Exit → Act → World → Prop} {E : Prop} (hgd : o.guard = none) (s x : Operand) (t u : TypeId)
    (ho : o.op = .call { callee := .builtin .append, args := #[s, x], argTypes := #[t, u] }) (v y v' : Value) (w' : World) (hv : a.eval s = v) (hy : a.eval x = y)
    (hrun : (Builtin.append_ #[t, u] o.type #[v, y]).run P w = .ok v' w') (h : K (a.put o.dst v') w') : if Region.wanted o (yielded ops a.tmps) = true then Oper.wp P o a w K Q else E := by
  have hw : Region.wanted o (yielded ops a.tmps) = true := by simp [Region.wanted, hgd]
  rw [if_pos hw]
  unfold Oper.wp execOp
  simp only [ho, resolve, invoke, builtin, Sem.run_bind, Sem.run_pure, Result.andThen_ok, List.map_toArray, List.map_cons, List.map_nil, hv, hy, hrun]
  exact h
theorem zero_txt (u : World) : (convert 57 9 (.slice (some ⟨u.heap.size, 0, none⟩) 64 64)).run Try.prog (u.alloc (.cells (madeCells #[.int .u8 0] 64) 5)) = .ok (.string (txt zeroS)) (u.alloc (.cells (madeCells #[.int .u8 0] 64) 5)) :=
  RdB.text (zero64 u).rd 57 9 5 64 64 (by simp) Try.underlying57 Try.underlying5 Try.underlying9
theorem lieL_push (lie : Int → List UInt8) (n : Nat) : lieL lie (n + 1) = lieL lie n ++ [strV (lie (n : Nat))] := by simp [lieL, List.range_succ]
/-- The boxes of New, and the sectors laid so far. -/
def NewR (w wr : World) (i : Nat) : Prop :=
  ∃ A C, RowB wr w.heap.size [.slice none 0 0, .slice none 0 0, .int .i64 0] ∧ RowB wr (w.heap.size + 1) [.slice A i C, .slice none 0 0, .int .i64 (-1)] ∧ OwnV wr (w.heap.size + 2) 9 (.slice A i C) (lieL (fun _ => zeroS) i) ∧ Below w.heap.size w wr ∧ w.heap.size + 2 ≤ wr.heap.size

set_option maxHeartbeats 8000000 in
theorem rnew_any (n : Nat) (h1 : 1 ≤ n) (h2 : n ≤ 4096) (w : World) :
    Calls Try.prog 7 #[.int .i64 n] w fun e w' => ∃ v, e = .returned (.tuple #[v, .bool true]) ∧ RfV w' (fun g _ => w.heap.size ≤ g) v (newM n) ∧ Below w.heap.size w w' := by
  have hmk := mk_64
  have h1I : ¬ (n : Int) < 1 := by omega
  have h2I : ¬ (4096 : Int) < n := by omega
  have HI0 : Hid (NewR w ((w.alloc (.cells #[.slice none 0 0, .slice none 0 0, .int .i64 0] 30)).alloc (.cells #[.slice none 0 0, .slice none 0 0, .int .i64 (-1)] 30)) 0) := by
    obtain ⟨r0, r1⟩ := two_rows (w := w) (t := 30) (u := 30) (vs := [.slice none 0 0, .slice none 0 0, .int .i64 0]) (us := [.slice none 0 0, .slice none 0 0, .int .i64 (-1)]) (Below.refl _ _)
    exact ⟨none, 0, r0, r1, OwnV.nil _ _ _, below_al (below_al (Below.refl _ _) _) _, by simp⟩
  have HM : Hid (1 ≤ n ∧ n ≤ 4096) := ⟨h1, h2⟩
  clear h1 h2
  go_enter Try.func7, Try.ntmps7
  go_upto_region 4 with fail
  generalize (w.alloc (.cells #[.slice none 0 0, .slice none 0 0, .int .i64 0] 30)).alloc (.cells #[.slice none 0 0, .slice none 0 0, .int .i64 (-1)] 30) = W at HI0 ⊢
  clear h1I h2I
  go_wp2_with fail
  go_loopw [5] (fun v5 wr => ∃ i : Nat, i ≤ n ∧ v5 = .int .i64 i ∧ Hid (NewR w wr i)) (fun v5 _ => n - (intOf v5).toNat)
  case atStart => exact ⟨0, Nat.zero_le _, rfl, HI0.out⟩
  case round =>
    obtain ⟨i, hi, rfl, HI⟩ := hrel
    by_cases hlt : i < n
    · have hltI : (i : Int) < (n : Int) := by omega
      have hms := mless hlt
      obtain ⟨A, C, r0, r1, ho, hB, hs⟩ := HI.out
      have HSx : Hid (∀ w', Below wr.heap.size wr w' → w'.cell? ⟨w.heap.size + 1, 0, none⟩ = some (.slice A i C)) := fun w' hb => (r1.on hb (by omega)).1 0 _ rfl
      have HR0 := Lib.hid r0
      have HR1 := Lib.hid r1
      have HB := Lib.hid hB
      have HS := Lib.hid hs
      obtain ⟨wd, hwd⟩ : ∃ wd, wd = wr.drew := ⟨_, rfl⟩
      have F : Below wr.heap.size wr wd := by rw [hwd]; exact (Below.refl _ _).drew
      have HSz : Hid (wd.heap.size = wr.heap.size) := by rw [hwd]; rfl
      have HO : Hid (OwnV ((wd.alloc (.cells (madeCells #[.int .u8 0] 64) 5)).alloc (.cells #[.string (txt zeroS)] 9)) (w.heap.size + 2) 9 (.slice A i C) (lieL (fun _ => zeroS) i)) := by rw [hwd]; exact OwnV.alloc (OwnV.alloc ho _) _
      have hM := HM.out
      have hnI : (n : Int) ≤ 4096 := by omega
      have hcv : (convert 57 9 (.slice (some ⟨wd.heap.size, 0, none⟩) 64 64)).run Try.prog (wd.alloc (.cells (madeCells #[.int .u8 0] 64) 5)) = .ok (.string (txt zeroS)) (wd.alloc (.cells (madeCells #[.int .u8 0] 64) 5)) := zero_txt wd
      have HWd := Lib.hid hwd
      clear r0 r1 ho hB hs hwd
      go_upto_region 7 with fail
      refine wp_region_T (fun w' => w'.cell? ⟨w.heap.size + 1, 0, none⟩ = some (.slice A i C)) 7 (by kernel_rfl) ?_
      rw [← HWd.out]
      refine wpAnyT_take (i := 0) (v := ?_) rfl (by kernel_rfl) (by kernel_rfl) (by kernel_rfl) (by kernel_rfl) (fun _ _ _ h => h) (Or.inl ⟨by rfl, ?_⟩) (HSx.out _ F) ?_
      rotate_left
      · intro w hSw
        (try dsimp only at hSw)
        go_simp
        all_goals with_reducible rfl
      simp only [Act.put, List.setIfInBounds_toArray, List.set_cons_zero, List.set_cons_succ]
      refine wpAnyT_take (i := 1) (v := ?_) rfl (by kernel_rfl) (by kernel_rfl) (by kernel_rfl) (by kernel_rfl) (fun _ _ _ h => h) (Or.inl ⟨by rfl, ?_⟩) (HSx.out _ F) ?_
      rotate_left
      · intro w hSw
        (try dsimp only at hSw)
        go_simp
        all_goals with_reducible rfl
      simp only [Act.put, List.setIfInBounds_toArray, List.set_cons_zero, List.set_cons_succ]
      refine wpAnyT_one (i := 2) (by kernel_rfl) rfl (fun K hK => ?_)
      go_simp
      refine hK.out _ _ (fun _ => (HSx.out _ (below_al F _))) ?_
      clear hK K
      try simp only [Act.put, List.setIfInBounds_toArray, List.set_cons_zero, List.set_cons_succ]
      refine wpAnyT_one (i := 3) (by kernel_rfl) rfl (fun K hK => ?_)
      go_simp
      refine hK.out _ _ (fun _ => (HSx.out _ (below_al F _))) ?_
      clear hK K
      try simp only [Act.put, List.setIfInBounds_toArray, List.set_cons_zero, List.set_cons_succ]
      refine wpAnyT_one (i := 4) (by kernel_rfl) rfl (fun K hK => ?_)
      go_simp
      refine hK.out _ _ (fun _ => (HSx.out _ (below_al (below_al F _) _))) ?_
      clear hK K
      try simp only [Act.put, List.setIfInBounds_toArray, List.set_cons_zero, List.set_cons_succ]
      refine wpAnyT_one (i := 5) (by kernel_rfl) rfl (fun K hK => ?_)
      obtain ⟨v', w4, hrun, hap⟩ := run_app (P := Try.prog) ((wd.alloc (.cells (madeCells #[.int .u8 0] 64) 5)).alloc (.cells #[.string (txt zeroS)] 9)) (w.heap.size + 2) 27 27 9 _ 16 Try.underlying27 info_text (by kernel_rfl) (.slice A i C) (lieL (fun _ => zeroS) i) HO.out (some ⟨wd.heap.size + 1, 0, none⟩) 1 1 [.string (txt zeroS)] rfl (by have h := src_one (wd.alloc (.cells (madeCells #[.int .u8 0] 64) 5)) (.string (txt zeroS)) 9; rw [World.size_alloc] at h; exact h) (by intro u hu; rw [List.mem_singleton.1 hu]; rfl) (by have := HM.out; rw [lieL_len]; simp [maxLen]; omega) (by have := HM.out; rw [lieL_len]; simp; omega) (by have := HS.out; have := HSz.out; simp; omega)
      have hb4 : Below (w.heap.size + 2) wr w4 := (((F.mono HS.out).alloc (by have := HS.out; have := HSz.out; omega) _).alloc (by have := HS.out; have := HSz.out; simp; omega) _).grown hap.2.1 (by have := HS.out; have := HSz.out; simp; omega) (fun r e => (HO.out.row r e).1)
      have HF4 := Lib.hid hb4
      have HR1' : Hid (RowB w4 (w.heap.size + 1) [.slice A i C, .slice none 0 0, .int .i64 (-1)]) := HR1.out.kept (hb4.block _ (by omega))
      have HR0' : Hid (RowB w4 w.heap.size [.slice none 0 0, .slice none 0 0, .int .i64 0]) := HR0.out.kept (hb4.block _ (by omega))
      obtain ⟨⟨y0, y1, y2⟩, f0, f1, f2⟩ := r3 HR1'.out
      have hown : OwnV w4 (w.heap.size + 2) 9 v' (lieL (fun _ => zeroS) (i + 1)) := by rw [lieL_push]; exact hap.1
      obtain ⟨A4, C4, rfl⟩ : ∃ A4 C4, v' = .slice A4 (i + 1) C4 := by
        obtain ⟨A4, C4, h⟩ := own_slice hown
        rw [lieL_len] at h
        exact ⟨A4, C4, h⟩
      have HO4 := Lib.hid hown
      refine step_runD (by rfl) _ _ _ _ (by rfl) _ _ _ _ (by rfl) (by rfl) hrun ?_
      clear hrun hap hown hb4
      refine hK.out _ _ (fun _ => y0) ?_
      clear hK K
      try simp only [Act.put, List.setIfInBounds_toArray, List.set_cons_zero, List.set_cons_succ]
      refine wpAnyT_take (i := 6) (v := ?_) rfl (by kernel_rfl) (by kernel_rfl) (by kernel_rfl) (by kernel_rfl) (fun _ _ _ h => h) (Or.inl ⟨by rfl, ?_⟩) y0 ?_
      rotate_left
      · intro w hSw
        (try dsimp only at hSw)
        go_simp
        all_goals with_reducible rfl
      simp only [Act.put, List.setIfInBounds_toArray, List.set_cons_zero, List.set_cons_succ]
      refine wpAnyT_one (i := 7) (by kernel_rfl) rfl (fun K hK => ?_)
      go_simp
      refine hK.out _ _ (fun h => absurd h (by decide)) ?_
      clear hK K
      try simp only [Act.put, List.setIfInBounds_toArray, List.set_cons_zero, List.set_cons_succ]
      refine wpAnyT_done (by kernel_rfl) ?_ _
      go_wp2_with fail
      go_roundw
      case rel =>
        refine ⟨i + 1, hlt, by go_num, A4, C4, HR0'.out.other (by omega) _, HR1'.out.set 0 _, ?_, (HB.out.trans (HF4.out.mono (by omega))).setCell (by show _ ≤ _ + 1; omega) _, by rw [World.size_setCell]; exact Nat.le_trans HS.out HF4.out.size⟩
        exact ownsRow_kept HO4.out fun j hj => Below.heap_setCell _ _ _ _ (by have := (HO4.out.row j hj).1; show j ≠ w.heap.size + 1; omega)
      case measure => exact hms
    · obtain rfl : i = n := by omega
      obtain ⟨A, C, r0, r1, ho, hB, hs⟩ := HI.out
      obtain ⟨⟨x0, x1, x2⟩, f0, f1, f2⟩ := r3 r0
      obtain ⟨⟨y0, y1, y2⟩, g0, g1, g2⟩ := r3 r1
      have HR0 := Lib.hid (set3_row r0 (.slice A i C) (.slice none 0 0) (.int .i64 (-1)))
      have HBe := Lib.hid (set3_on hB (Nat.le_refl _) (.slice A i C) (.slice none 0 0) (.int .i64 (-1)))
      have HRd : Hid (RdO (set3 wr w.heap.size (.slice A i C) (.slice none 0 0) (.int .i64 (-1))) (fun g _ => w.heap.size ≤ g) A (lieL (fun _ => zeroS) i)) := by
        have h : RdO wr (fun g _ => w.heap.size + 2 ≤ g) A (lieL (fun _ => zeroS) i) := by
          have h := ho
          exact h.rdO fun g _ hg => hg
        exact (h.set3 (fun g _ hg => by omega) _ _ _).mono fun g _ _ hg => by omega
      clear r0 r1 ho hB hs
      go_wp2_with fail
      refine bodyPost_ret (results_two rfl (by rfl) (by rfl) (rf_load HR0.out)) rfl ?_
      exact ⟨_, rfl, ⟨A, C, none, 0, rfl, HRd.out, .inl rfl⟩, HBe.out⟩

end Go.Proofs.Ytekeooeapiodmaa
