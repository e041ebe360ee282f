/- DiskPlays, walked: the loop. -/
import Derived.Test.YtekeooeapiodmaaZDkM1
namespace Go.Proofs.Ytekeooeapiodmaa
open Go Go.RowKit Go.Shelf
set_option linter.unusedSimpArgs false
set_option linter.unusedVariables false
set_option maxRecDepth 100000

attribute [local go_sem] Oper.semAt_some

set_option maxHeartbeats 16000000 in
theorem plays_all (n : Nat) (h1 : 1 ≤ n) (h2 : n ≤ 4096) (A : Option Addr) (C : Nat) (l : List AcT) (hlen : l.length ≤ 9223372036854775807) (w : World) (hr : RdAc w w.heap.size A l) (h30 : n ≤ 30) (hf : fewA l 40 = true) :
    Calls Try.prog 3 #[.int .i64 n, .slice A l.length C] w fun e w' => e = .returned (.bool true) ∧ Below w.heap.size w w' := by
  have HM : Hid (1 ≤ n ∧ n ≤ 4096) := ⟨h1, h2⟩
  have HBn : Hid (bndS (n : Nat) = true) := by
    unfold Hid bndS
    simp only [Bool.and_eq_true, decide_eq_true_eq]
    omega
  have HFw : Hid (∀ X, Below w.heap.size w X → Calls Try.prog 10 #[.slice A l.length C, .int .i64 (40 : Nat)] X fun e w' => e = .returned (.bool (fewA l 40)) ∧ X = w') := fun X hX => few_any A C l 40 (by decide) X hlen (by
    rcases hr.later hX with h | ⟨g, o, e, hg, hc⟩
    · exact .inl h
    · exact .inr ⟨g, o, e, Nat.lt_of_lt_of_le hg hX.size, fun i x hx => ⟨(hc i x hx).1, (hc i x hx).2.1, (hc i x hx).2.2.1, by
        rcases (hc i x hx).2.2.2 with h | ⟨g', o', e', hg', hc'⟩
        · exact .inl h
        · exact .inr ⟨g', o', e', Nat.lt_of_lt_of_le hg' hX.size, hc'⟩⟩⟩)
  have HRA := Lib.hid hr
  have h30I : ¬ (30 : Int) < (n : Int) := by omega
  have HFine : Hid (∀ (i : Nat) (x : AcT), l[i]? = some x → x.fine = true) := fun i x hx => few_at hf hx
  have HL40 : Hid (l.length ≤ 40) := few_len hf
  rw [hf] at HFw
  obtain ⟨nl, hnl⟩ : ∃ nl, nl = l.length := ⟨_, rfl⟩
  have HNl := Lib.hid hnl
  rw [← hnl] at HFw HL40 ⊢
  clear h1 h2 h30 hr hlen hf hnl
  go_enter Try.func3, Try.ntmps3
  go_wp2_with fail

  refine (new_any (n : Nat) ⟨by have := HM.out; omega, by have := HM.out; omega⟩ w).mono ?_
  rintro e w1 ⟨hb, ⟨_, p, rfl, hd⟩ | ⟨hz, _⟩⟩
  rotate_left
  · rw [HBn.out] at hz; cases hz
  rw [Int.toNat_natCast] at hd
  have HD1 : Hid (DSt w w1 p (newM n) []) := .start (k := 0) hd hb (newM_ok HM.out.1 HM.out.2)
  clear hb hd
  have hmin : ¬ (4097 : Int) < (n : Int) := by have := HM.out; omega
  have hmin2 : ¬ (4097 : Int) ≤ (n : Int) := by have := HM.out; omega
  go_wp2_with fail
  refine (rnew_any n HM.out.1 HM.out.2 w1).mono ?_
  rintro e w2 ⟨vr, rfl, hv, hb⟩
  obtain ⟨R0, hd2, hv2, hR0⟩ := DSt.ref (R := []) HD1.out (fun r hr => hr) hb (hv.mono fun g l _ h => .inr h)
  have HD2 : Hid (DSt w w2 p (newM n) (R0 ++ [])) := hd2
  obtain ⟨A1, C1, A2, C2, rfl, q1, q2⟩ := hv2
  have HV2 : Hid (RfV w2 (inR (R0 ++ [])) (.agg #[.slice A1 (newM n).n C1, .slice A2 (newM n).wt.length C2, .int .i64 (newM n).left]) (newM n)) := ⟨A1, C1, A2, C2, rfl, q1, q2⟩
  clear hv hb hd2 hR0 q1 q2 hmin hmin2
  obtain ⟨bw, hbw⟩ : ∃ bw, bw = w2.heap.size := ⟨_, rfl⟩
  obtain ⟨W3, hW3⟩ : ∃ W3, W3 = w2.alloc (.cells #[.slice A1 (newM n).n C1, .slice A2 (newM n).wt.length C2, .int .i64 (newM n).left] 30) := ⟨_, rfl⟩
  have hd3 : DSt w W3 p (newM n) ((bw, [.slice A1 (newM n).n C1, .slice A2 (newM n).wt.length C2, .int .i64 (newM n).left]) :: (R0 ++ [])) := by rw [hW3, hbw]; exact HD2.out.alloc1 _ _
  have HBt0 : Hid (Both w W3 p (newM n) bw) := ⟨A1, C1, A2, C2, _, hd3, List.mem_cons_self .., HV2.out.stay hd3 fun r hr => List.mem_cons_of_mem _ hr, newM_pl n⟩
  have HBw : Hid (w.heap.size ≤ bw) := by rw [hbw]; exact HD2.out.size
  have HB3 := Lib.hid hd3.below
  go_upto_region 5 with fail
  rw [← hW3]
  rw [← hbw]
  clear hW3 hd3 hbw HV2 HD2
  go_wp2_with fail
  refine (HFw.out _ HB3.out).mono ?_
  rintro e w9 ⟨rfl, h9⟩
  rw [← h9]
  clear h9 w9
  go_wp2_with fail
  go_loopw [9] (fun v9 wr => ∃ i : Nat, i ≤ nl ∧ v9 = .int .i64 i ∧ Hid (Both w wr p (runM (l.take i) (newM n)) bw)) (fun v9 _ => nl - (intOf v9).toNat)
  case atStart => exact ⟨0, Nat.zero_le _, rfl, HBt0.out⟩
  case round =>
    obtain ⟨i, hi, rfl, HI⟩ := hrel
    have hM := HL40.out
    by_cases hlt : i < nl
    · have hltI : (i : Int) < (nl : Int) := by omega
      have hms := mless hlt
      obtain ⟨x, hx⟩ : ∃ x, l[i]? = some x := ⟨_, List.getElem?_eq_getElem (by have := HNl.out; omega)⟩
      have HRun : Hid (runM (l.take (i + 1)) (newM n) = nextM (runM (l.take i) (newM n)) x.what x.ka x.mo x.bt x.keep) := by rw [Hid, takeA hx, runM_push]
      have HFewI : Hid ((runM (l.take i) (newM n)).wt.length < 1000000) := Lib.hid (show (runM (l.take i) (newM n)).wt.length < 1000000 by
        have h1 := runM_few (l.take i) (newM n)
        have h2 : (newM n).wt.length = 0 := rfl
        have h3 := List.length_take_le i l
        omega)
      have HAok : Hid (ActOk w x.what x.ka x.mo x.kA x.keep) := act_ok (HFine.out i x hx) (by obtain ⟨_, _, _, _, _, h⟩ := HRA.out.at hx; exact h)
      generalize runM (l.take i) (newM n) = D at HI HRun HFewI
      obtain ⟨A3, C3, A4, C4, Q, hd, hm, hv, hpl⟩ := HI.out
      have HQm := Lib.hid hm
      have HPl := Lib.hid hpl
      have HDp := Lib.hid hd
      obtain ⟨g, og, rfl, hg, ⟨c0, c1, c2, c3, c4⟩, _⟩ := HRA.out.at hx
      have HS : Hid (∀ X D' Q', DSt w X p D' Q' → (bw, [.slice A3 D.n C3, .slice A4 D.wt.length C4, .int .i64 D.left]) ∈ Q' → (X.cell? ⟨bw, 0, none⟩ = some (.slice A3 D.n C3) ∧ X.cell? ⟨bw, 1, none⟩ = some (.slice A4 D.wt.length C4) ∧ X.cell? ⟨bw, 2, none⟩ = some (.int .i64 D.left)) ∧
          X.cell? ⟨g, og + i * 5, none⟩ = some (.int .i64 x.what) ∧ X.cell? ⟨g, og + i * 5 + 1, none⟩ = some (.int .i64 x.ka) ∧ X.cell? ⟨g, og + i * 5 + 2, none⟩ = some (.int .i64 x.mo) ∧ X.cell? ⟨g, og + i * 5 + 3, none⟩ = some (.int .u8 (x.bt.toNat : Int)) ∧ X.cell? ⟨g, og + i * 5 + 4, none⟩ = some (.slice x.kA x.keep.length x.kC)) := fun X D' Q' h hq =>
        have hb := h.below
        ⟨(r3 (h.row hq)).1, (hb.cell (p := ⟨g, _, none⟩) hg).trans c0, (hb.cell (p := ⟨g, _, none⟩) hg).trans c1, (hb.cell (p := ⟨g, _, none⟩) hg).trans c2, (hb.cell (p := ⟨g, _, none⟩) hg).trans c3, (hb.cell (p := ⟨g, _, none⟩) hg).trans c4⟩
      have HXk : Hid (x.bt.toNat < 256) := x.bt.toNat_lt
      clear hd hm hpl hx c0 c1 c2 c3 c4 hg
      go_upto_region 10 with fail
      obtain ⟨wd, hwd⟩ : ∃ wd, wd = wr.drew := ⟨_, rfl⟩
      have HDd : Hid (DSt w wd p D Q) := by rw [hwd]; exact HDp.out.drew
      have HVd : Hid (RfV wd (inR Q) (.agg #[.slice A3 D.n C3, .slice A4 D.wt.length C4, .int .i64 D.left]) D) := hv.stay HDd.out fun r hr => hr
      have HWd := Lib.hid hwd
      clear hwd hv
      have HNeq : Hid (decide (bw ≠ wd.heap.size) = true) := by
        have h1 := HDd.out.lt HQm.out
        have h2 : bw < wd.heap.size := h1
        rw [Hid, decide_eq_true_eq]
        omega
      refine wp_region_T (fun X => (X.cell? ⟨bw, 0, none⟩ = some (.slice A3 D.n C3) ∧ X.cell? ⟨bw, 1, none⟩ = some (.slice A4 D.wt.length C4) ∧ X.cell? ⟨bw, 2, none⟩ = some (.int .i64 D.left)) ∧ X.cell? ⟨g, og + i * 5, none⟩ = some (.int .i64 x.what) ∧ X.cell? ⟨g, og + i * 5 + 1, none⟩ = some (.int .i64 x.ka) ∧ X.cell? ⟨g, og + i * 5 + 2, none⟩ = some (.int .i64 x.mo) ∧ X.cell? ⟨g, og + i * 5 + 3, none⟩ = some (.int .u8 (x.bt.toNat : Int)) ∧ X.cell? ⟨g, og + i * 5 + 4, none⟩ = some (.slice x.kA x.keep.length x.kC)) 12 (by kernel_rfl) ?_
      rw [← HWd.out]
      refine wpAnyT_take (i := 0) (v := ?_) rfl (by kernel_rfl) (by kernel_rfl) (by kernel_rfl) (by kernel_rfl) (fun _ _ _ h => h) (Or.inl ⟨by rfl, ?_⟩) (HS.out _ _ _ HDd.out HQm.out) ?_
      rotate_left
      · intro w hSw
        (try dsimp only at hSw)
        go_simp
        all_goals with_reducible rfl
      simp only [Act.put, List.setIfInBounds_toArray, List.set_cons_zero, List.set_cons_succ]
      refine wpAnyT_take (i := 1) (v := ?_) rfl (by kernel_rfl) (by kernel_rfl) (by kernel_rfl) (by kernel_rfl) (fun _ _ _ h => h) (Or.inl ⟨by rfl, ?_⟩) (HS.out _ _ _ HDd.out HQm.out) ?_
      rotate_left
      · intro w hSw
        (try dsimp only at hSw)
        go_simp
        all_goals with_reducible rfl
      simp only [Act.put, List.setIfInBounds_toArray, List.set_cons_zero, List.set_cons_succ]
      refine wpAnyT_take (i := 2) (v := ?_) rfl (by kernel_rfl) (by kernel_rfl) (by kernel_rfl) (by kernel_rfl) (fun _ _ _ h => h) (Or.inl ⟨by rfl, ?_⟩) (HS.out _ _ _ HDd.out HQm.out) ?_
      rotate_left
      · intro w hSw
        (try dsimp only at hSw)
        go_simp
        all_goals with_reducible rfl
      simp only [Act.put, List.setIfInBounds_toArray, List.set_cons_zero, List.set_cons_succ]
      refine wpAnyT_take (i := 3) (v := ?_) rfl (by kernel_rfl) (by kernel_rfl) (by kernel_rfl) (by kernel_rfl) (fun _ _ _ h => h) (Or.inl ⟨by rfl, ?_⟩) (HS.out _ _ _ HDd.out HQm.out) ?_
      rotate_left
      · intro w hSw
        (try dsimp only at hSw)
        go_simp
        all_goals with_reducible rfl
      simp only [Act.put, List.setIfInBounds_toArray, List.set_cons_zero, List.set_cons_succ]
      refine wpAnyT_take (i := 4) (v := ?_) rfl (by kernel_rfl) (by kernel_rfl) (by kernel_rfl) (by kernel_rfl) (fun _ _ _ h => h) (Or.inl ⟨by rfl, ?_⟩) (HS.out _ _ _ HDd.out HQm.out) ?_
      rotate_left
      · intro w hSw
        (try dsimp only at hSw)
        go_simp
        all_goals with_reducible rfl
      simp only [Act.put, List.setIfInBounds_toArray, List.set_cons_zero, List.set_cons_succ]
      refine wpAnyT_take (i := 5) (v := ?_) rfl (by kernel_rfl) (by kernel_rfl) (by kernel_rfl) (by kernel_rfl) (fun _ _ _ h => h) (Or.inl ⟨by rfl, ?_⟩) (HS.out _ _ _ HDd.out HQm.out) ?_
      rotate_left
      · intro w hSw
        (try dsimp only at hSw)
        go_simp
        all_goals with_reducible rfl
      simp only [Act.put, List.setIfInBounds_toArray, List.set_cons_zero, List.set_cons_succ]
      refine wpAnyT_two (i := 6) (k := 10) (by kernel_rfl) rfl rfl (fun K hK => ?_) (fun K hK => ?_)
      · go_simp
        refine (act_any w wd p D Q _ HDd.out HPl.out HFewI.out HVd.out x.what x.ka x.mo x.bt x.kA x.kC x.keep HAok.out).mono ?_
        rintro e w6 ⟨vr, R', rfl, hd6, hv6⟩
        have HD6 := Lib.hid hd6
        obtain ⟨A5, C5, A6, C6, rfl, q1, q2⟩ := hv6
        have HV6 : Hid (RfV w6 (inR (R' ++ Q)) (.agg #[.slice A5 (nextM D x.what x.ka x.mo x.bt x.keep).n C5, .slice A6 (nextM D x.what x.ka x.mo x.bt x.keep).wt.length C6, .int .i64 (nextM D x.what x.ka x.mo x.bt x.keep).left]) (nextM D x.what x.ka x.mo x.bt x.keep)) := ⟨A5, C5, A6, C6, rfl, q1, q2⟩
        clear hd6 q1 q2
        refine hK.out _ _ (fun _ => (HS.out _ _ _ HD6.out (List.mem_append_right _ HQm.out))) ?_
        clear hK K
        try simp only [Act.put, List.setIfInBounds_toArray, List.set_cons_zero, List.set_cons_succ]
        refine wpAnyT_take (i := 7) (v := ?_) rfl (by kernel_rfl) (by kernel_rfl) (by kernel_rfl) (by kernel_rfl) (fun _ _ _ h => h) (Or.inl ⟨by rfl, ?_⟩) (HS.out _ _ _ HD6.out (List.mem_append_right _ HQm.out)) ?_
        rotate_left
        · intro w hSw
          (try dsimp only at hSw)
          go_simp
          all_goals with_reducible rfl
        simp only [Act.put, List.setIfInBounds_toArray, List.set_cons_zero, List.set_cons_succ]
        refine wpAnyT_take (i := 8) (v := ?_) rfl (by kernel_rfl) (by kernel_rfl) (by kernel_rfl) (by kernel_rfl) (fun _ _ _ h => h) (Or.inl ⟨by rfl, ?_⟩) (HS.out _ _ _ HD6.out (List.mem_append_right _ HQm.out)) ?_
        rotate_left
        · intro w hSw
          (try dsimp only at hSw)
          go_simp
          all_goals with_reducible rfl
        simp only [Act.put, List.setIfInBounds_toArray, List.set_cons_zero, List.set_cons_succ]
        refine wpAnyT_take (i := 9) (v := ?_) rfl (by kernel_rfl) (by kernel_rfl) (by kernel_rfl) (by kernel_rfl) (fun _ _ _ h => h) (Or.inl ⟨by rfl, ?_⟩) (HS.out _ _ _ HD6.out (List.mem_append_right _ HQm.out)) ?_
        rotate_left
        · intro w hSw
          (try dsimp only at hSw)
          go_simp
          all_goals with_reducible rfl
        simp only [Act.put, List.setIfInBounds_toArray, List.set_cons_zero, List.set_cons_succ]
        refine wpAnyT_one (i := 10) (by kernel_rfl) rfl (fun K hK => ?_)
        have HDb : Hid (DSt w (w6.alloc (.cells #[.slice none 0 0, .slice none 0 0, .int .i64 0] 30)) p (nextM D x.what x.ka x.mo x.bt x.keep) ((w6.heap.size, [.slice none 0 0, .slice none 0 0, .int .i64 0]) :: (R' ++ Q))) := HD6.out.alloc1 _ _
        go_simp
        refine hK.out _ _ (fun _ => (HS.out _ _ _ HDb.out (List.mem_cons_of_mem _ (List.mem_append_right _ HQm.out)))) ?_
        clear hK K
        try simp only [Act.put, List.setIfInBounds_toArray, List.set_cons_zero, List.set_cons_succ]
        refine wpAnyT_one (i := 11) (by kernel_rfl) rfl (fun K hK => ?_)
        have HDc : Hid (DSt w (w6.alloc (.cells #[.slice A5 (nextM D x.what x.ka x.mo x.bt x.keep).n C5, .slice A6 (nextM D x.what x.ka x.mo x.bt x.keep).wt.length C6, .int .i64 (nextM D x.what x.ka x.mo x.bt x.keep).left] 30)) p (nextM D x.what x.ka x.mo x.bt x.keep) ((w6.heap.size, [.slice A5 (nextM D x.what x.ka x.mo x.bt x.keep).n C5, .slice A6 (nextM D x.what x.ka x.mo x.bt x.keep).wt.length C6, .int .i64 (nextM D x.what x.ka x.mo x.bt x.keep).left]) :: (R' ++ Q))) := HD6.out.alloc1 _ _
        have HVc : Hid (RfV (w6.alloc (.cells #[.slice A5 (nextM D x.what x.ka x.mo x.bt x.keep).n C5, .slice A6 (nextM D x.what x.ka x.mo x.bt x.keep).wt.length C6, .int .i64 (nextM D x.what x.ka x.mo x.bt x.keep).left] 30)) (inR ((w6.heap.size, [.slice A5 (nextM D x.what x.ka x.mo x.bt x.keep).n C5, .slice A6 (nextM D x.what x.ka x.mo x.bt x.keep).wt.length C6, .int .i64 (nextM D x.what x.ka x.mo x.bt x.keep).left]) :: (R' ++ Q))) (.agg #[.slice A5 (nextM D x.what x.ka x.mo x.bt x.keep).n C5, .slice A6 (nextM D x.what x.ka x.mo x.bt x.keep).wt.length C6, .int .i64 (nextM D x.what x.ka x.mo x.bt x.keep).left]) (nextM D x.what x.ka x.mo x.bt x.keep)) := HV6.out.stay HDc.out fun r hr => List.mem_cons_of_mem _ hr
        go_simp
        refine hK.out _ _ (fun _ => (HS.out _ _ _ HDc.out (List.mem_cons_of_mem _ (List.mem_append_right _ HQm.out)))) ?_
        clear hK K
        try simp only [Act.put, List.setIfInBounds_toArray, List.set_cons_zero, List.set_cons_succ]
        refine wpAnyT_one (i := 12) (by kernel_rfl) rfl (fun K hK => ?_)
        go_simp
        refine hK.out _ _ (fun h => absurd h (by decide)) ?_
        clear hK K
        try simp only [Act.put, List.setIfInBounds_toArray, List.set_cons_zero, List.set_cons_succ]
        refine wpAnyT_done (by kernel_rfl) ?_ _
        obtain ⟨X, hX⟩ : ∃ X, X = (w6.alloc (.cells #[.slice A5 (nextM D x.what x.ka x.mo x.bt x.keep).n C5, .slice A6 (nextM D x.what x.ka x.mo x.bt x.keep).wt.length C6, .int .i64 (nextM D x.what x.ka x.mo x.bt x.keep).left] 30)) := ⟨_, rfl⟩
        have HDx := Lib.hid HDc.out
        have HVx := Lib.hid HVc.out
        rw [← hX] at HDx HVx
        try unfold set3 at hX
        obtain ⟨⟨y0, y1, y2⟩, f0, f1, f2⟩ := r3 (HDx.out.row (List.mem_cons_of_mem _ (List.mem_append_right _ HQm.out)))
        obtain ⟨⟨z0, z1, z2⟩, _⟩ := r3 (HDx.out.row (List.mem_cons_self ..))
        have hbp := both_put HDx.out (List.mem_cons_of_mem _ (List.mem_append_right _ HQm.out)) HVx.out HBw.out (next_pl HPl.out _ _ _ _ _)
        have HBp := Lib.hid hbp
        clear hbp
        rw [← hX]
        clear hX
        go_wp2_with fail
        go_roundw
        case rel =>
          refine ⟨i + 1, hlt, by go_num, ?_⟩
          rw [HRun.out]
          exact HBp.out
        case measure => exact hms
      · have HDa : Hid (DSt w (wd.alloc (.cells #[.slice none 0 0, .slice none 0 0, .int .i64 0] 30)) p D ((wd.heap.size, [.slice none 0 0, .slice none 0 0, .int .i64 0]) :: Q)) := HDd.out.alloc1 _ _
        have HVa : Hid (RfV (wd.alloc (.cells #[.slice none 0 0, .slice none 0 0, .int .i64 0] 30)) (inR ((wd.heap.size, [.slice none 0 0, .slice none 0 0, .int .i64 0]) :: Q)) (.agg #[.slice A3 D.n C3, .slice A4 D.wt.length C4, .int .i64 D.left]) D) := HVd.out.stay HDa.out fun r hr => List.mem_cons_of_mem _ hr
        go_simp
        refine hK.out _ _ (fun _ => (HS.out _ _ _ HDa.out (List.mem_cons_of_mem _ HQm.out))) ?_
        clear hK K
        try simp only [Act.put, List.setIfInBounds_toArray, List.set_cons_zero, List.set_cons_succ]
        refine wpAnyT_one (i := 6) (by kernel_rfl) rfl (fun K hK => ?_)
        go_simp
        refine (act_any w (wd.alloc (.cells #[.slice none 0 0, .slice none 0 0, .int .i64 0] 30)) p D ((wd.heap.size, [.slice none 0 0, .slice none 0 0, .int .i64 0]) :: Q) _ HDa.out HPl.out HFewI.out HVa.out x.what x.ka x.mo x.bt x.kA x.kC x.keep HAok.out).mono ?_
        rintro e w6 ⟨vr, R', rfl, hd6, hv6⟩
        have HD6 := Lib.hid hd6
        obtain ⟨A5, C5, A6, C6, rfl, q1, q2⟩ := hv6
        have HV6 : Hid (RfV w6 (inR (R' ++ ((wd.heap.size, [.slice none 0 0, .slice none 0 0, .int .i64 0]) :: Q))) (.agg #[.slice A5 (nextM D x.what x.ka x.mo x.bt x.keep).n C5, .slice A6 (nextM D x.what x.ka x.mo x.bt x.keep).wt.length C6, .int .i64 (nextM D x.what x.ka x.mo x.bt x.keep).left]) (nextM D x.what x.ka x.mo x.bt x.keep)) := ⟨A5, C5, A6, C6, rfl, q1, q2⟩
        clear hd6 q1 q2
        refine hK.out _ _ (fun _ => (HS.out _ _ _ HD6.out (List.mem_append_right _ (List.mem_cons_of_mem _ HQm.out)))) ?_
        clear hK K
        try simp only [Act.put, List.setIfInBounds_toArray, List.set_cons_zero, List.set_cons_succ]
        refine wpAnyT_take (i := 7) (v := ?_) rfl (by kernel_rfl) (by kernel_rfl) (by kernel_rfl) (by kernel_rfl) (fun _ _ _ h => h) (Or.inl ⟨by rfl, ?_⟩) (HS.out _ _ _ HD6.out (List.mem_append_right _ (List.mem_cons_of_mem _ HQm.out))) ?_
        rotate_left
        · intro w hSw
          (try dsimp only at hSw)
          go_simp
          all_goals with_reducible rfl
        simp only [Act.put, List.setIfInBounds_toArray, List.set_cons_zero, List.set_cons_succ]
        refine wpAnyT_take (i := 8) (v := ?_) rfl (by kernel_rfl) (by kernel_rfl) (by kernel_rfl) (by kernel_rfl) (fun _ _ _ h => h) (Or.inl ⟨by rfl, ?_⟩) (HS.out _ _ _ HD6.out (List.mem_append_right _ (List.mem_cons_of_mem _ HQm.out))) ?_
        rotate_left
        · intro w hSw
          (try dsimp only at hSw)
          go_simp
          all_goals with_reducible rfl
        simp only [Act.put, List.setIfInBounds_toArray, List.set_cons_zero, List.set_cons_succ]
        refine wpAnyT_take (i := 9) (v := ?_) rfl (by kernel_rfl) (by kernel_rfl) (by kernel_rfl) (by kernel_rfl) (fun _ _ _ h => h) (Or.inl ⟨by rfl, ?_⟩) (HS.out _ _ _ HD6.out (List.mem_append_right _ (List.mem_cons_of_mem _ HQm.out))) ?_
        rotate_left
        · intro w hSw
          (try dsimp only at hSw)
          go_simp
          all_goals with_reducible rfl
        simp only [Act.put, List.setIfInBounds_toArray, List.set_cons_zero, List.set_cons_succ]
        refine wpAnyT_one (i := 11) (by kernel_rfl) rfl (fun K hK => ?_)
        obtain ⟨⟨y0, y1, y2⟩, f0, f1, f2⟩ := r3 (HD6.out.row (List.mem_append_right _ (List.mem_cons_self ..)))
        obtain ⟨hdp, hvp⟩ := HD6.out.put (b := wd.heap.size) (List.mem_append_right _ (List.mem_cons_self ..)) HV6.out (by have := HDd.out.size; omega) (.slice A5 (nextM D x.what x.ka x.mo x.bt x.keep).n C5) (.slice A6 (nextM D x.what x.ka x.mo x.bt x.keep).wt.length C6) (.int .i64 (nextM D x.what x.ka x.mo x.bt x.keep).left)
        have HDc := Lib.hid hdp
        have HVc := Lib.hid hvp
        clear hdp hvp
        go_simp
        refine hK.out _ _ (fun _ => (HS.out _ _ _ HDc.out (List.mem_cons_of_mem _ (List.mem_filter.2 ⟨(List.mem_append_right _ (List.mem_cons_of_mem _ HQm.out)), HNeq.out⟩)))) ?_
        clear hK K
        try simp only [Act.put, List.setIfInBounds_toArray, List.set_cons_zero, List.set_cons_succ]
        refine wpAnyT_one (i := 12) (by kernel_rfl) rfl (fun K hK => ?_)
        go_simp
        refine hK.out _ _ (fun h => absurd h (by decide)) ?_
        clear hK K
        try simp only [Act.put, List.setIfInBounds_toArray, List.set_cons_zero, List.set_cons_succ]
        refine wpAnyT_done (by kernel_rfl) ?_ _
        obtain ⟨X, hX⟩ : ∃ X, X = (set3 w6 wd.heap.size (.slice A5 (nextM D x.what x.ka x.mo x.bt x.keep).n C5) (.slice A6 (nextM D x.what x.ka x.mo x.bt x.keep).wt.length C6) (.int .i64 (nextM D x.what x.ka x.mo x.bt x.keep).left)) := ⟨_, rfl⟩
        have HDx := Lib.hid HDc.out
        have HVx := Lib.hid HVc.out
        rw [← hX] at HDx HVx
        try unfold set3 at hX
        obtain ⟨⟨y0, y1, y2⟩, f0, f1, f2⟩ := r3 (HDx.out.row (List.mem_cons_of_mem _ (List.mem_filter.2 ⟨(List.mem_append_right _ (List.mem_cons_of_mem _ HQm.out)), HNeq.out⟩)))
        obtain ⟨⟨z0, z1, z2⟩, _⟩ := r3 (HDx.out.row (List.mem_cons_self ..))
        have hbp := both_put HDx.out (List.mem_cons_of_mem _ (List.mem_filter.2 ⟨(List.mem_append_right _ (List.mem_cons_of_mem _ HQm.out)), HNeq.out⟩)) HVx.out HBw.out (next_pl HPl.out _ _ _ _ _)
        have HBp := Lib.hid hbp
        clear hbp
        rw [← hX]
        clear hX
        go_wp2_with fail
        go_roundw
        case rel =>
          refine ⟨i + 1, hlt, by go_num, ?_⟩
          rw [HRun.out]
          exact HBp.out
        case measure => exact hms
    · obtain rfl : i = nl := by omega
      have HFewI : Hid ((runM (l.take i) (newM n)).wt.length < 1000000) := Lib.hid (show (runM (l.take i) (newM n)).wt.length < 1000000 by
        have h1 := runM_few (l.take i) (newM n)
        have h2 : (newM n).wt.length = 0 := rfl
        have h3 := List.length_take_le i l
        omega)
      generalize runM (l.take i) (newM n) = D at HI HFewI
      obtain ⟨A3, C3, A4, C4, Q, hd, hm, hv, hpl⟩ := HI.out
      obtain ⟨⟨z0, z1, z2⟩, _⟩ := r3 (hd.row hm)
      have HIs := Lib.hid (is_any w wr p D Q _ hd HFewI.out hv)
      clear hd hm hv hpl
      go_wp2_with fail
      refine HIs.out.mono ?_
      rintro e w5 ⟨rfl, hd5, _⟩
      have HB5 := Lib.hid hd5.below
      clear hd5 z0 z1 z2
      go_wp2_with fail
      refine (none_any _).mono ?_
      rintro e w6 ⟨rfl, hb⟩
      have HB6 := Lib.hid (below_on HB5.out hb)
      clear hb
      go_wp2_with fail
      refine (dkworks_any _).mono ?_
      rintro e w7 ⟨rfl, hb⟩
      have HB7 := Lib.hid (below_on HB6.out hb)
      clear hb
      go_wp2_with fail
      go_ret
      exact ⟨rfl, HB7.out⟩

end Go.Proofs.Ytekeooeapiodmaa

