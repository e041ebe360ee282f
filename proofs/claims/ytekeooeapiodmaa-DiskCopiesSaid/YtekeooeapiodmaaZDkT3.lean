/- Package disk: the law's act: Write. -/
import Derived.Test.YtekeooeapiodmaaZKc
namespace Go.Proofs.Ytekeooeapiodmaa
open Go Go.RowKit Go.Shelf
set_option linter.unusedSimpArgs false
set_option linter.unusedVariables false
set_option maxRecDepth 100000

attribute [local go_sem] Oper.semAt_some

variable {Kp : Nat → Prop} {wk : World}

/-- A row of bytes, whatever they are. -/
def RowU (vs : List Value) (n : Nat) : Prop := vs.length = n ∧ ∀ i, i < n → ∃ z, vs[i]? = some (.int .u8 z)
theorem rowU_bytes (bs : List UInt8) : RowU (bs.map encB) bs.length := ⟨by simp, fun i hi => ⟨_, encB_at bs i hi⟩⟩
theorem RowU.set {vs : List Value} {n : Nat} (h : RowU vs n) (i : Nat) (z : Int) : RowU (vs.set i (.int .u8 z)) n := by
  refine ⟨by simp [h.1], fun j hj => ?_⟩
  by_cases e : i = j
  · subst e
    exact ⟨z, by rw [List.getElem?_set]; simp [h.1, hj]⟩
  · rw [List.getElem?_set_ne e]
    exact h.2 j hj
theorem mk_n (n : Nat) (hn : n ≤ 1000) (w : World) : (Instr.makeSlice 57 (.int .i64 n) (.int .i64 n)).run Try.prog w = .ok (.slice (some ⟨w.heap.size, 0, none⟩) n n) (w.alloc (.cells (madeCells #[.int .u8 0] n) 5)) :=
  run_make_row' (P := Try.prog) 57 5 (.int .u8 0) 1 Try.underlying57 (by kernel_rfl) rfl .i64 .i64 n (by omega) (by omega) w
theorem zero_n (w : World) (n : Nat) (t : TypeId) : RowB (w.alloc (.cells (madeCells #[.int .u8 0] n) t)) w.heap.size ((List.replicate n (0 : UInt8)).map encB) := by
  refine ⟨fun i v hv => ?_, fun i => World.frozen?_alloc_new _ _ _ _⟩
  rw [World.cell?_alloc_mark, ← Array.getElem?_toList, toList_madeCells_one]
  simpa [encB] using hv
theorem full2_any (c : UInt8) (w : World) : Calls Try.prog 20 #[.int .u8 (c.toNat : Int)] w fun e w' => ∃ g n, e = .returned (.slice (some ⟨g, 0, none⟩) n n) ∧ n = (fullB c).length ∧ w.heap.size ≤ g ∧ g < w'.heap.size ∧ RowB w' g ((fullB c).map encB) ∧ Below w.heap.size w w' := by
  refine (full_any c w).mono ?_
  rintro e w' ⟨rfl, hr, hb⟩
  exact ⟨_, 64, rfl, (fullB_len c).symm, Nat.le_refl _, hr.lt, hr.1, hb⟩
theorem rowB_rd {w : World} {g : Nat} {bs : List UInt8} (h : RowB w g (bs.map encB)) (hg : g < w.heap.size) : RdB w w.heap.size (some ⟨g, 0, none⟩) bs :=
  .inr ⟨g, 0, rfl, hg, fun j hj => by rw [Nat.zero_add]; exact h.1 j _ (encB_at bs j hj)⟩
theorem rowB_text {w : World} {g n : Nat} {bs : List UInt8} (h : RowB w g (bs.map encB)) (hg : g < w.heap.size) (hn : n = bs.length) : (convert 57 9 (.slice (some ⟨g, 0, none⟩) n n)).run Try.prog w = .ok (.string (txt bs)) w :=
  (rowB_rd h hg).text 57 9 5 n n hn Try.underlying57 Try.underlying5 Try.underlying9

set_option maxHeartbeats 16000000 in
theorem act_writeF (w0 w : World) (p : Nat) (D : DkM) (R : List (Nat × List Value)) (v : Value) (h : DStK Kp wk w0 w p D R) (hpl : D.pl) (hfew : D.wt.length < 1000000) (hv : RfV w (inR R) v D) (ka mo : Int) (bt : UInt8) (kA : Option Addr) (kC : Nat) (keep : List Bool) (hka : -9223372036854775808 ≤ ka ∧ ka < 9223372036854775808) (hmo : mo ≤ 0) :
    Calls Try.prog 12 #[.pointer (some ⟨p, 0, none⟩), v, .agg #[.int .i64 0, .int .i64 ka, .int .i64 mo, .int .u8 (bt.toNat : Int), .slice kA keep.length kC]] w (ActP Kp wk w0 p (if D.wrE ka (fullB bt).length = 0 then D.wrote ka (fullB bt) else D) R) := by
  have HOk := Lib.hid h.ok
  have HPl := Lib.hid hpl
  have HFew := Lib.hid hfew
  have HLt : Hid (∀ r ∈ R, r.1 < w.heap.size) := fun r hr => h.lt hr
  have HSz : Hid (w0.heap.size ≤ w.heap.size) := h.size
  obtain ⟨A1, C1, A2, C2, rfl, q1, q2⟩ := hv
  have hv : RfV w (inR R) (.agg #[.slice A1 D.n C1, .slice A2 D.wt.length C2, .int .i64 D.left]) D := ⟨A1, C1, A2, C2, rfl, q1, q2⟩
  have HV := Lib.hid hv
  obtain ⟨W, hW⟩ : ∃ W, W = ((w.alloc (.cells #[.slice A1 D.n C1, .slice A2 D.wt.length C2, .int .i64 D.left] 30)).alloc (.cells #[.int .i64 0, .int .i64 ka, .int .i64 mo, .int .u8 (bt.toNat : Int), .slice kA keep.length kC] 40)).alloc (.cells #[.slice none 0 0, .slice none 0 0, .int .i64 0] 30) := ⟨_, rfl⟩
  have HWz : Hid (W.heap.size = w.heap.size + 3) := by rw [Hid, hW]; simp
  have HD0 : Hid (DStK Kp wk w0 W p D ([] ++ (boxA w.heap.size [.slice A1 D.n C1, .slice A2 D.wt.length C2, .int .i64 D.left] [.int .i64 0, .int .i64 ka, .int .i64 mo, .int .u8 (bt.toNat : Int), .slice kA keep.length kC] ++ R))) := by rw [hW]; exact act_start h _ _ _ _
  have HW := Lib.hid hW
  clear h hpl hfew hv q1 q2 hW
  obtain ⟨bs, hbs0⟩ : ∃ bs : List UInt8, bs = (fullB bt) := ⟨_, rfl⟩
  rw [← hbs0]
  have HBs := Lib.hid hbs0
  clear hbs0
  obtain ⟨D', hD0⟩ : ∃ D', D' = (if D.wrE ka bs.length = 0 then D.wrote ka bs else D) := ⟨_, rfl⟩
  rw [← hD0]
  have HDe := Lib.hid hD0
  clear hD0
  have hmo2 : ¬ 0 < mo := by omega
  have HKa := Lib.hid hka
  clear hka
  obtain ⟨x0, x1, x2, x3, x4⟩ := r5 (HD0.out.row box_x)
  go_enter Try.func12, Try.ntmps12
  go_upto_region 1 with fail
  rw [← HW.out]
  go_wp2_with fail
  refine (full2_any bt _).mono ?_
  rintro e wb ⟨g, n, rfl, hn, hgn, hgl, hrow, hbb⟩
  rw [← HBs.out] at hrow hn
  have hdb := HD0.out.add hbb hrow hgn hgl
  rw [HWz.out] at hgn
  have hbs : bs.length ≤ 99 := by rw [HBs.out, fullB_len]; decide
  have HN := Lib.hid hn
  clear hn
  obtain ⟨x0, x1, x2, x3, x4⟩ := r5 (hdb.row (List.mem_cons_of_mem _ box_x))
  go_upto_region 6 with fail
  clear x0 x1 x2 x3 x4 hbb hrow hgl hmo hmo2
  have HDb : Hid (DStK Kp wk w0 wb p D ((g, bs.map encB) :: ([] ++ (boxA w.heap.size [.slice A1 D.n C1, .slice A2 D.wt.length C2, .int .i64 D.left] [.int .i64 0, .int .i64 ka, .int .i64 mo, .int .u8 (bt.toNat : Int), .slice kA keep.length kC] ++ R)))) := hdb
  have HGn : Hid (w.heap.size + 3 ≤ g) := hgn
  have HN9 : Hid (bs.length ≤ 99) := hbs
  have HVb : Hid (RfV wb (inR R) (.agg #[.slice A1 D.n C1, .slice A2 D.wt.length C2, .int .i64 D.left]) D) := HV.out.stay (R' := R) (HDb.out.sub fun r hr => List.mem_cons_of_mem _ (box_R r hr)) fun r hr => hr
  have hwc := rwrite2_any (inR R) D HOk.out HFew.out _ ka HKa.out bs wb HVb.out
  rw [← HDe.out] at hwc
  have HWc := Lib.hid hwc
  clear hwc
  have HWd : Hid (∀ (w' : World) (Q : List (Nat × List Value)), DStK Kp wk w0 w' p D ((g, bs.map encB) :: Q) → Calls Try.prog 19 #[.pointer (some ⟨p, 0, none⟩), .int .i64 ka, .slice (some ⟨g, 0, none⟩) n n] w' fun e w'' => e = .returned (.int .i64 (D.wrE ka bs.length)) ∧ DStK Kp wk w0 w'' p D' ((g, bs.map encB) :: Q)) := fun w' Q h => by
    have h1 := h.write2 ka HKa.out (some ⟨g, 0, none⟩) n bs HFew.out (by rw [HN.out]; exact Nat.le_refl _) (rowB_rd (h.row (List.mem_cons_self ..)) (h.lt (List.mem_cons_self ..)))
    have e := HN.out
    rw [← HDe.out] at h1
    rw [show (bs.length : Nat) = n from e.symm] at h1 ⊢
    exact h1
  have hcv : (convert 57 9 (.slice (some ⟨g, 0, none⟩) n n)).run Try.prog wb = .ok (.string (txt bs)) wb := rowB_text (HDb.out.row (List.mem_cons_self ..)) (HDb.out.lt (List.mem_cons_self ..)) HN.out
  clear HDe
  generalize D.wrE ka bs.length = E at HWc HWd
  have HU : Hid (RowU (bs.map encB) n) := by rw [Hid, HN.out]; exact rowU_bytes _
  generalize bs.map encB = us at HDb HWd HU
  obtain ⟨x0, x1, x2, x3, x4⟩ := r5 (HDb.out.row (List.mem_cons_of_mem _ box_x))
  obtain ⟨⟨z0, z1, z2⟩, _⟩ := r3 (HDb.out.row (List.mem_cons_of_mem _ box_w))
  clear hdb hgn hbs
  go_wp2_with fail
  refine HWc.out.mono ?_
  rintro e w1 ⟨vr, rfl, hvr, hb1⟩
  obtain ⟨R', hd1, hv1, hR'⟩ := DStK.ref HDb.out (fun r hr => List.mem_cons_of_mem _ (box_R r hr)) hb1 hvr
  have HD1 : Hid (DStK Kp wk w0 w1 p D ((g, us) :: (R' ++ (boxA w.heap.size [.slice A1 D.n C1, .slice A2 D.wt.length C2, .int .i64 D.left] [.int .i64 0, .int .i64 ka, .int .i64 mo, .int .u8 (bt.toNat : Int), .slice kA keep.length kC] ++ R)))) := hd1.sub fun r hr => by
    simp only [List.nil_append, List.mem_cons, List.mem_append] at hr ⊢
    rcases hr with hr | hr | hr
    · exact .inr (.inl hr)
    · exact .inl hr
    · exact .inr (.inr hr)
  have HgB : Hid (g < wb.heap.size) := HDb.out.lt (List.mem_cons_self ..)
  have HR' : Hid (∀ r ∈ R', w.heap.size + 2 < r.1 ∧ r.1 ≠ g) := fun r hr => by have := hR' r hr; have := HgB.out; have := HDb.out.lt (List.mem_cons_of_mem _ box_r); simp only at this; omega
  obtain ⟨A3, C3, A4, C4, rfl, q3, q4⟩ := hv1
  have HV3 : Hid (RfV w1 (inR (R' ++ R)) (.agg #[.slice A3 D'.n C3, .slice A4 D'.wt.length C4, .int .i64 D'.left]) D') := ⟨A3, C3, A4, C4, rfl, q3, q4⟩
  clear hvr hb1 hd1 hR' q3 q4 x0 x1 x2 x3 x4 z0 z1 z2 hcv
  go_upto_region 7 with fail
  obtain ⟨W1, hW1⟩ : ∃ W1, W1 = w1.alloc (.cells #[.slice A3 D'.n C3, .slice A4 D'.wt.length C4, .int .i64 D'.left] 30) := ⟨_, rfl⟩
  rw [← hW1]
  have HDo : Hid (DStK Kp wk w0 W1 p D ((g, us) :: (w1.heap.size, [.slice A3 D'.n C3, .slice A4 D'.wt.length C4, .int .i64 D'.left]) :: (R' ++ (boxA w.heap.size [.slice A1 D.n C1, .slice A2 D.wt.length C2, .int .i64 D.left] [.int .i64 0, .int .i64 ka, .int .i64 mo, .int .u8 (bt.toNat : Int), .slice kA keep.length kC] ++ R)))) := by
    rw [hW1]
    refine (HD1.out.alloc1 _ _).sub fun r hr => ?_
    simp only [List.mem_cons] at hr ⊢
    rcases hr with hr | hr | hr
    · exact .inr (.inl hr)
    · exact .inl hr
    · exact .inr (.inr hr)
  have HNe : Hid (w.heap.size + 2 < w1.heap.size ∧ g < w1.heap.size) := ⟨HD1.out.lt (List.mem_cons_of_mem _ box_r), HD1.out.lt (List.mem_cons_self ..)⟩
  clear hW1
  obtain ⟨x0, x1, x2, x3, x4⟩ := r5 (HDo.out.row (List.mem_cons_of_mem _ (List.mem_cons_of_mem _ box_x)))
  go_wp2_with fail
  refine (HWd.out _ _ HDo.out).mono ?_
  rintro e w2 ⟨rfl, hd2⟩
  have HD2 := Lib.hid hd2
  clear hd2 x0 x1 x2 x3 x4
  go_wp2_with fail
  go_loopw [12] (fun v12 wr => ∃ i : Nat, i ≤ n ∧ v12 = .int .i64 i ∧ Hid (∃ vs, RowU vs n ∧ DStK Kp wk w0 wr p D' ((g, vs) :: (w1.heap.size, [.slice A3 D'.n C3, .slice A4 D'.wt.length C4, .int .i64 D'.left]) :: (R' ++ (boxA w.heap.size [.slice A1 D.n C1, .slice A2 D.wt.length C2, .int .i64 D.left] [.int .i64 0, .int .i64 ka, .int .i64 mo, .int .u8 (bt.toNat : Int), .slice kA keep.length kC] ++ R))))) (fun v12 _ => n - (intOf v12).toNat)
  case atStart => exact ⟨0, Nat.zero_le _, rfl, us, HU.out, HD2.out⟩
  case round =>
    obtain ⟨i, hi, rfl, HI⟩ := hrel
    have hM := HN9.out
    rw [← HN.out] at hM
    obtain ⟨vs, hvs, hds⟩ := HI.out
    have HDs := Lib.hid hds
    have HVs := Lib.hid hvs
    clear hds hvs HI
    by_cases hlt : i < n
    · have hltI : (i : Int) < (n : Int) := by omega
      have hms := mless hlt
      obtain ⟨z, hz⟩ := HVs.out.2 i hlt
      have c0 := (HDs.out.row (List.mem_cons_self ..)).1 i _ hz
      have c1 := (HDs.out.row (List.mem_cons_self ..)).2 i
      go_wp2_with fail
      go_roundw
      case rel =>
        refine ⟨i + 1, hlt, by go_num, _, HVs.out.set i _, HDs.out.setH (by have := HGn.out; have := HSz.out; omega) (fun r hr => ?_) i _⟩
        simp only [boxA, List.mem_cons, List.mem_append] at hr
        have a1 := HGn.out
        have a2 := HNe.out
        rcases hr with rfl | hr | (rfl | rfl | rfl | hr) | hr
        · show w1.heap.size ≠ g; omega
        · exact (HR'.out r hr).2
        · show w.heap.size + 2 ≠ g; omega
        · show w.heap.size + 1 ≠ g; omega
        · show w.heap.size ≠ g; omega
        · cases hr
        · have := HLt.out r hr; omega
      case measure => exact hms
    · obtain rfl : i = n := by omega
      go_upto_region 12 with fail
      obtain ⟨wd, hwd⟩ : ∃ wd, wd = wr.drew := ⟨_, rfl⟩
      have HDd : Hid (DStK Kp wk w0 wd p D' ((w1.heap.size, [.slice A3 D'.n C3, .slice A4 D'.wt.length C4, .int .i64 D'.left]) :: (R' ++ (boxA w.heap.size [.slice A1 D.n C1, .slice A2 D.wt.length C2, .int .i64 D.left] [.int .i64 0, .int .i64 ka, .int .i64 mo, .int .u8 (bt.toNat : Int), .slice kA keep.length kC] ++ R)))) := by rw [hwd]; exact (HDs.out.sub fun r hr => List.mem_cons_of_mem _ hr).drew
      have HWz := Lib.hid hwd
      have HNe2 : Hid (w.heap.size + 2 ≠ w1.heap.size) := by have := HNe.out; exact Nat.ne_of_lt this.1
      have HRr : Hid (∀ r ∈ R', w.heap.size + 2 < r.1) := fun r hr => (HR'.out r hr).1
      clear hwd
      refine wp_region_T (fun w' => w'.cell? ⟨w1.heap.size, 0, none⟩ = some (.slice A3 D'.n C3) ∧ w'.cell? ⟨w1.heap.size, 1, none⟩ = some (.slice A4 D'.wt.length C4) ∧ w'.cell? ⟨w1.heap.size, 2, none⟩ = some (.int .i64 D'.left)) 6 (by kernel_rfl) ?_
      rw [← HWz.out]
      refine wpAnyT_take (i := 0) (v := ?_) rfl (by kernel_rfl) (by kernel_rfl) (by kernel_rfl) (by kernel_rfl) (fun _ _ _ h => h) (Or.inl ⟨by rfl, ?_⟩) ((r3 (HDd.out.row (List.mem_cons_self ..))).1) ?_
      rotate_left
      · intro w hSw
        (try dsimp only at hSw)
        go_simp
        all_goals with_reducible rfl
      simp only [Act.put, List.setIfInBounds_toArray, List.set_cons_zero, List.set_cons_succ]
      refine wpAnyT_take (i := 1) (v := ?_) rfl (by kernel_rfl) (by kernel_rfl) (by kernel_rfl) (by kernel_rfl) (fun _ _ _ h => h) (Or.inl ⟨by rfl, ?_⟩) ((r3 (HDd.out.row (List.mem_cons_self ..))).1) ?_
      rotate_left
      · intro w hSw
        (try dsimp only at hSw)
        go_simp
        all_goals with_reducible rfl
      simp only [Act.put, List.setIfInBounds_toArray, List.set_cons_zero, List.set_cons_succ]
      refine wpAnyT_take (i := 3) (v := ?_) rfl (by kernel_rfl) (by kernel_rfl) (by kernel_rfl) (by kernel_rfl) (fun _ _ _ h => h) (Or.inl ⟨by rfl, ?_⟩) ((r3 (HDd.out.row (List.mem_cons_self ..))).1) ?_
      rotate_left
      · intro w hSw
        (try dsimp only at hSw)
        go_simp
        all_goals with_reducible rfl
      simp only [Act.put, List.setIfInBounds_toArray, List.set_cons_zero, List.set_cons_succ]
      refine wpAnyT_one (i := 2) (by kernel_rfl) rfl (fun K hK => ?_)
      go_simp
      refine (dknum_any E _).mono ?_
      rintro e9 w9 ⟨rfl, h9⟩
      rw [← h9]
      clear h9 w9
      refine hK.out _ _ (fun _ => (r3 (HDd.out.row (List.mem_cons_self ..))).1) ?_
      clear hK K
      try simp only [Act.put, List.setIfInBounds_toArray, List.set_cons_zero, List.set_cons_succ]
      refine wpAnyT_take (i := 4) (v := ?_) rfl (by kernel_rfl) (by kernel_rfl) (by kernel_rfl) (by kernel_rfl) (fun _ _ _ h => h) (Or.inl ⟨by rfl, ?_⟩) ((r3 (HDd.out.row (List.mem_cons_self ..))).1) ?_
      rotate_left
      · intro w hSw
        (try dsimp only at hSw)
        go_simp
        all_goals with_reducible rfl
      simp only [Act.put, List.setIfInBounds_toArray, List.set_cons_zero, List.set_cons_succ]
      refine wpAnyT_one (i := 5) (by kernel_rfl) rfl (fun K hK => ?_)
      obtain ⟨⟨y0, y1, y2⟩, f0, f1, f2⟩ := r3 (HDd.out.row (List.mem_cons_of_mem _ box_r))
      go_simp
      refine hK.out _ _ (fun _ => (r3 (set3_other (HDd.out.row (List.mem_cons_self ..)) HNe2.out _ _ _)).1) ?_
      clear hK K
      try simp only [Act.put, List.setIfInBounds_toArray, List.set_cons_zero, List.set_cons_succ]
      refine wpAnyT_one (i := 6) (by kernel_rfl) rfl (fun K hK => ?_)
      go_simp
      refine hK.out _ _ (fun h => absurd h (by decide)) ?_
      clear hK K
      try simp only [Act.put, List.setIfInBounds_toArray, List.set_cons_zero, List.set_cons_succ]
      refine wpAnyT_done (by kernel_rfl) ?_ _
      have HE := Lib.hid (act_end (c0 := .slice A3 (D').n C3) (c1 := .slice A4 (D').wt.length C4) (c2 := .int .i64 (D').left) (HDd.out.sub fun r hr => List.mem_cons_of_mem _ hr) (HV3.out.stay (HDd.out.sub (R' := R' ++ R) fun r hr => by rcases List.mem_append.1 hr with hr | hr; exact List.mem_cons_of_mem _ (List.mem_append_left _ hr); exact List.mem_cons_of_mem _ (box_R r hr)) fun r hr => hr) HRr.out HLt.out HSz.out)
      go_wp2_with fail
      refine bodyPost_ret (results_two rfl (by rfl) (by rfl) (rf_load HE.out.1)) rfl ?_
      exact ⟨_, _, rfl, HE.out.2.1, HE.out.2.2⟩

set_option maxHeartbeats 16000000 in
theorem act_writeM (w0 w : World) (p : Nat) (D : DkM) (R : List (Nat × List Value)) (v : Value) (h : DStK Kp wk w0 w p D R) (hpl : D.pl) (hfew : D.wt.length < 1000000) (hv : RfV w (inR R) v D) (ka mo : Int) (bt : UInt8) (kA : Option Addr) (kC : Nat) (keep : List Bool) (hka : -9223372036854775808 ≤ ka ∧ ka < 9223372036854775808) (n : Nat) (hmo : mo = (n : Int) + 1) (hn9 : n ≤ 99) :
    Calls Try.prog 12 #[.pointer (some ⟨p, 0, none⟩), v, .agg #[.int .i64 0, .int .i64 ka, .int .i64 mo, .int .u8 (bt.toNat : Int), .slice kA keep.length kC]] w (ActP Kp wk w0 p (if D.wrE ka (List.replicate n (0 : UInt8)).length = 0 then D.wrote ka (List.replicate n (0 : UInt8)) else D) R) := by
  have HOk := Lib.hid h.ok
  have HPl := Lib.hid hpl
  have HFew := Lib.hid hfew
  have HLt : Hid (∀ r ∈ R, r.1 < w.heap.size) := fun r hr => h.lt hr
  have HSz : Hid (w0.heap.size ≤ w.heap.size) := h.size
  obtain ⟨A1, C1, A2, C2, rfl, q1, q2⟩ := hv
  have hv : RfV w (inR R) (.agg #[.slice A1 D.n C1, .slice A2 D.wt.length C2, .int .i64 D.left]) D := ⟨A1, C1, A2, C2, rfl, q1, q2⟩
  have HV := Lib.hid hv
  obtain ⟨W, hW⟩ : ∃ W, W = ((w.alloc (.cells #[.slice A1 D.n C1, .slice A2 D.wt.length C2, .int .i64 D.left] 30)).alloc (.cells #[.int .i64 0, .int .i64 ka, .int .i64 mo, .int .u8 (bt.toNat : Int), .slice kA keep.length kC] 40)).alloc (.cells #[.slice none 0 0, .slice none 0 0, .int .i64 0] 30) := ⟨_, rfl⟩
  have HWz : Hid (W.heap.size = w.heap.size + 3) := by rw [Hid, hW]; simp
  have HD0 : Hid (DStK Kp wk w0 W p D ([] ++ (boxA w.heap.size [.slice A1 D.n C1, .slice A2 D.wt.length C2, .int .i64 D.left] [.int .i64 0, .int .i64 ka, .int .i64 mo, .int .u8 (bt.toNat : Int), .slice kA keep.length kC] ++ R))) := by rw [hW]; exact act_start h _ _ _ _
  have HW := Lib.hid hW
  clear h hpl hfew hv q1 q2 hW
  obtain ⟨bs, hbs0⟩ : ∃ bs : List UInt8, bs = (List.replicate n (0 : UInt8)) := ⟨_, rfl⟩
  rw [← hbs0]
  have HBs := Lib.hid hbs0
  clear hbs0
  obtain ⟨D', hD0⟩ : ∃ D', D' = (if D.wrE ka bs.length = 0 then D.wrote ka bs else D) := ⟨_, rfl⟩
  rw [← hD0]
  have HDe := Lib.hid hD0
  clear hD0
  have hmo2 : 0 < mo := by omega
  have hmk := mk_n n (by omega)
  have hmo3 : mo - 1 = (n : Int) := by omega
  clear hmo
  have HKa := Lib.hid hka
  clear hka
  obtain ⟨x0, x1, x2, x3, x4⟩ := r5 (HD0.out.row box_x)
  go_enter Try.func12, Try.ntmps12
  go_upto_region 1 with fail
  rw [← HW.out]
  go_wp2_with fail
  refine (full2_any bt _).mono ?_
  rintro e wa ⟨ga, na, rfl, hna, hga, hgla, hrowa, hba⟩
  have HDa : Hid (DStK Kp wk w0 wa p D ([] ++ (boxA w.heap.size [.slice A1 D.n C1, .slice A2 D.wt.length C2, .int .i64 D.left] [.int .i64 0, .int .i64 ka, .int .i64 mo, .int .u8 (bt.toNat : Int), .slice kA keep.length kC] ++ R))) := HD0.out.on hba
  have HZa : Hid (w.heap.size + 3 ≤ wa.heap.size) := Lib.hid (show w.heap.size + 3 ≤ wa.heap.size by have := hba.size; have := HWz.out; omega)
  obtain ⟨x0, x1, x2, x3, x4⟩ := r5 (HDa.out.row box_x)
  clear hrowa hna hga hgla hba
  go_upto_region 6 with fail
  obtain ⟨wb, hwb⟩ : ∃ wb, wb = wa.alloc (.cells (madeCells #[.int .u8 0] n) 5) := ⟨_, rfl⟩
  have hdb : DStK Kp wk w0 wb p D ((wa.heap.size, bs.map encB) :: ([] ++ (boxA w.heap.size [.slice A1 D.n C1, .slice A2 D.wt.length C2, .int .i64 D.left] [.int .i64 0, .int .i64 ka, .int .i64 mo, .int .u8 (bt.toNat : Int), .slice kA keep.length kC] ++ R))) := by
    rw [hwb, HBs.out]
    exact HDa.out.add (below_al (Below.refl _ _) _) (zero_n _ _ _) (Nat.le_refl _) (by simp)
  rw [← hwb]
  have hgn := HZa.out
  clear hwb HDa HZa x0 x1 x2 x3 x4 hmo2 hmk hmo3
  generalize wa.heap.size = g at hdb hgn ⊢
  have HN : Hid (n = bs.length) := Lib.hid (show n = bs.length by rw [HBs.out]; simp)
  have hbs : bs.length ≤ 99 := by rw [HBs.out]; simpa using hn9
  clear hn9
  have HDb : Hid (DStK Kp wk w0 wb p D ((g, bs.map encB) :: ([] ++ (boxA w.heap.size [.slice A1 D.n C1, .slice A2 D.wt.length C2, .int .i64 D.left] [.int .i64 0, .int .i64 ka, .int .i64 mo, .int .u8 (bt.toNat : Int), .slice kA keep.length kC] ++ R)))) := hdb
  have HGn : Hid (w.heap.size + 3 ≤ g) := hgn
  have HN9 : Hid (bs.length ≤ 99) := hbs
  have HVb : Hid (RfV wb (inR R) (.agg #[.slice A1 D.n C1, .slice A2 D.wt.length C2, .int .i64 D.left]) D) := HV.out.stay (R' := R) (HDb.out.sub fun r hr => List.mem_cons_of_mem _ (box_R r hr)) fun r hr => hr
  have hwc := rwrite2_any (inR R) D HOk.out HFew.out _ ka HKa.out bs wb HVb.out
  rw [← HDe.out] at hwc
  have HWc := Lib.hid hwc
  clear hwc
  have HWd : Hid (∀ (w' : World) (Q : List (Nat × List Value)), DStK Kp wk w0 w' p D ((g, bs.map encB) :: Q) → Calls Try.prog 19 #[.pointer (some ⟨p, 0, none⟩), .int .i64 ka, .slice (some ⟨g, 0, none⟩) n n] w' fun e w'' => e = .returned (.int .i64 (D.wrE ka bs.length)) ∧ DStK Kp wk w0 w'' p D' ((g, bs.map encB) :: Q)) := fun w' Q h => by
    have h1 := h.write2 ka HKa.out (some ⟨g, 0, none⟩) n bs HFew.out (by rw [HN.out]; exact Nat.le_refl _) (rowB_rd (h.row (List.mem_cons_self ..)) (h.lt (List.mem_cons_self ..)))
    have e := HN.out
    rw [← HDe.out] at h1
    rw [show (bs.length : Nat) = n from e.symm] at h1 ⊢
    exact h1
  have hcv : (convert 57 9 (.slice (some ⟨g, 0, none⟩) n n)).run Try.prog wb = .ok (.string (txt bs)) wb := rowB_text (HDb.out.row (List.mem_cons_self ..)) (HDb.out.lt (List.mem_cons_self ..)) HN.out
  clear HDe
  generalize D.wrE ka bs.length = E at HWc HWd
  have HU : Hid (RowU (bs.map encB) n) := by rw [Hid, HN.out]; exact rowU_bytes _
  generalize bs.map encB = us at HDb HWd HU
  obtain ⟨x0, x1, x2, x3, x4⟩ := r5 (HDb.out.row (List.mem_cons_of_mem _ box_x))
  obtain ⟨⟨z0, z1, z2⟩, _⟩ := r3 (HDb.out.row (List.mem_cons_of_mem _ box_w))
  clear hdb hgn hbs
  go_wp2_with fail
  refine HWc.out.mono ?_
  rintro e w1 ⟨vr, rfl, hvr, hb1⟩
  obtain ⟨R', hd1, hv1, hR'⟩ := DStK.ref HDb.out (fun r hr => List.mem_cons_of_mem _ (box_R r hr)) hb1 hvr
  have HD1 : Hid (DStK Kp wk w0 w1 p D ((g, us) :: (R' ++ (boxA w.heap.size [.slice A1 D.n C1, .slice A2 D.wt.length C2, .int .i64 D.left] [.int .i64 0, .int .i64 ka, .int .i64 mo, .int .u8 (bt.toNat : Int), .slice kA keep.length kC] ++ R)))) := hd1.sub fun r hr => by
    simp only [List.nil_append, List.mem_cons, List.mem_append] at hr ⊢
    rcases hr with hr | hr | hr
    · exact .inr (.inl hr)
    · exact .inl hr
    · exact .inr (.inr hr)
  have HgB : Hid (g < wb.heap.size) := HDb.out.lt (List.mem_cons_self ..)
  have HR' : Hid (∀ r ∈ R', w.heap.size + 2 < r.1 ∧ r.1 ≠ g) := fun r hr => by have := hR' r hr; have := HgB.out; have := HDb.out.lt (List.mem_cons_of_mem _ box_r); simp only at this; omega
  obtain ⟨A3, C3, A4, C4, rfl, q3, q4⟩ := hv1
  have HV3 : Hid (RfV w1 (inR (R' ++ R)) (.agg #[.slice A3 D'.n C3, .slice A4 D'.wt.length C4, .int .i64 D'.left]) D') := ⟨A3, C3, A4, C4, rfl, q3, q4⟩
  clear hvr hb1 hd1 hR' q3 q4 x0 x1 x2 x3 x4 z0 z1 z2 hcv
  go_upto_region 7 with fail
  obtain ⟨W1, hW1⟩ : ∃ W1, W1 = w1.alloc (.cells #[.slice A3 D'.n C3, .slice A4 D'.wt.length C4, .int .i64 D'.left] 30) := ⟨_, rfl⟩
  rw [← hW1]
  have HDo : Hid (DStK Kp wk w0 W1 p D ((g, us) :: (w1.heap.size, [.slice A3 D'.n C3, .slice A4 D'.wt.length C4, .int .i64 D'.left]) :: (R' ++ (boxA w.heap.size [.slice A1 D.n C1, .slice A2 D.wt.length C2, .int .i64 D.left] [.int .i64 0, .int .i64 ka, .int .i64 mo, .int .u8 (bt.toNat : Int), .slice kA keep.length kC] ++ R)))) := by
    rw [hW1]
    refine (HD1.out.alloc1 _ _).sub fun r hr => ?_
    simp only [List.mem_cons] at hr ⊢
    rcases hr with hr | hr | hr
    · exact .inr (.inl hr)
    · exact .inl hr
    · exact .inr (.inr hr)
  have HNe : Hid (w.heap.size + 2 < w1.heap.size ∧ g < w1.heap.size) := ⟨HD1.out.lt (List.mem_cons_of_mem _ box_r), HD1.out.lt (List.mem_cons_self ..)⟩
  clear hW1
  obtain ⟨x0, x1, x2, x3, x4⟩ := r5 (HDo.out.row (List.mem_cons_of_mem _ (List.mem_cons_of_mem _ box_x)))
  go_wp2_with fail
  refine (HWd.out _ _ HDo.out).mono ?_
  rintro e w2 ⟨rfl, hd2⟩
  have HD2 := Lib.hid hd2
  clear hd2 x0 x1 x2 x3 x4
  go_wp2_with fail
  go_loopw [12] (fun v12 wr => ∃ i : Nat, i ≤ n ∧ v12 = .int .i64 i ∧ Hid (∃ vs, RowU vs n ∧ DStK Kp wk w0 wr p D' ((g, vs) :: (w1.heap.size, [.slice A3 D'.n C3, .slice A4 D'.wt.length C4, .int .i64 D'.left]) :: (R' ++ (boxA w.heap.size [.slice A1 D.n C1, .slice A2 D.wt.length C2, .int .i64 D.left] [.int .i64 0, .int .i64 ka, .int .i64 mo, .int .u8 (bt.toNat : Int), .slice kA keep.length kC] ++ R))))) (fun v12 _ => n - (intOf v12).toNat)
  case atStart => exact ⟨0, Nat.zero_le _, rfl, us, HU.out, HD2.out⟩
  case round =>
    obtain ⟨i, hi, rfl, HI⟩ := hrel
    have hM := HN9.out
    rw [← HN.out] at hM
    obtain ⟨vs, hvs, hds⟩ := HI.out
    have HDs := Lib.hid hds
    have HVs := Lib.hid hvs
    clear hds hvs HI
    by_cases hlt : i < n
    · have hltI : (i : Int) < (n : Int) := by omega
      have hms := mless hlt
      obtain ⟨z, hz⟩ := HVs.out.2 i hlt
      have c0 := (HDs.out.row (List.mem_cons_self ..)).1 i _ hz
      have c1 := (HDs.out.row (List.mem_cons_self ..)).2 i
      go_wp2_with fail
      go_roundw
      case rel =>
        refine ⟨i + 1, hlt, by go_num, _, HVs.out.set i _, HDs.out.setH (by have := HGn.out; have := HSz.out; omega) (fun r hr => ?_) i _⟩
        simp only [boxA, List.mem_cons, List.mem_append] at hr
        have a1 := HGn.out
        have a2 := HNe.out
        rcases hr with rfl | hr | (rfl | rfl | rfl | hr) | hr
        · show w1.heap.size ≠ g; omega
        · exact (HR'.out r hr).2
        · show w.heap.size + 2 ≠ g; omega
        · show w.heap.size + 1 ≠ g; omega
        · show w.heap.size ≠ g; omega
        · cases hr
        · have := HLt.out r hr; omega
      case measure => exact hms
    · obtain rfl : i = n := by omega
      go_upto_region 12 with fail
      obtain ⟨wd, hwd⟩ : ∃ wd, wd = wr.drew := ⟨_, rfl⟩
      have HDd : Hid (DStK Kp wk w0 wd p D' ((w1.heap.size, [.slice A3 D'.n C3, .slice A4 D'.wt.length C4, .int .i64 D'.left]) :: (R' ++ (boxA w.heap.size [.slice A1 D.n C1, .slice A2 D.wt.length C2, .int .i64 D.left] [.int .i64 0, .int .i64 ka, .int .i64 mo, .int .u8 (bt.toNat : Int), .slice kA keep.length kC] ++ R)))) := by rw [hwd]; exact (HDs.out.sub fun r hr => List.mem_cons_of_mem _ hr).drew
      have HWz := Lib.hid hwd
      have HNe2 : Hid (w.heap.size + 2 ≠ w1.heap.size) := by have := HNe.out; exact Nat.ne_of_lt this.1
      have HRr : Hid (∀ r ∈ R', w.heap.size + 2 < r.1) := fun r hr => (HR'.out r hr).1
      clear hwd
      refine wp_region_T (fun w' => w'.cell? ⟨w1.heap.size, 0, none⟩ = some (.slice A3 D'.n C3) ∧ w'.cell? ⟨w1.heap.size, 1, none⟩ = some (.slice A4 D'.wt.length C4) ∧ w'.cell? ⟨w1.heap.size, 2, none⟩ = some (.int .i64 D'.left)) 6 (by kernel_rfl) ?_
      rw [← HWz.out]
      refine wpAnyT_take (i := 0) (v := ?_) rfl (by kernel_rfl) (by kernel_rfl) (by kernel_rfl) (by kernel_rfl) (fun _ _ _ h => h) (Or.inl ⟨by rfl, ?_⟩) ((r3 (HDd.out.row (List.mem_cons_self ..))).1) ?_
      rotate_left
      · intro w hSw
        (try dsimp only at hSw)
        go_simp
        all_goals with_reducible rfl
      simp only [Act.put, List.setIfInBounds_toArray, List.set_cons_zero, List.set_cons_succ]
      refine wpAnyT_take (i := 1) (v := ?_) rfl (by kernel_rfl) (by kernel_rfl) (by kernel_rfl) (by kernel_rfl) (fun _ _ _ h => h) (Or.inl ⟨by rfl, ?_⟩) ((r3 (HDd.out.row (List.mem_cons_self ..))).1) ?_
      rotate_left
      · intro w hSw
        (try dsimp only at hSw)
        go_simp
        all_goals with_reducible rfl
      simp only [Act.put, List.setIfInBounds_toArray, List.set_cons_zero, List.set_cons_succ]
      refine wpAnyT_take (i := 3) (v := ?_) rfl (by kernel_rfl) (by kernel_rfl) (by kernel_rfl) (by kernel_rfl) (fun _ _ _ h => h) (Or.inl ⟨by rfl, ?_⟩) ((r3 (HDd.out.row (List.mem_cons_self ..))).1) ?_
      rotate_left
      · intro w hSw
        (try dsimp only at hSw)
        go_simp
        all_goals with_reducible rfl
      simp only [Act.put, List.setIfInBounds_toArray, List.set_cons_zero, List.set_cons_succ]
      refine wpAnyT_one (i := 2) (by kernel_rfl) rfl (fun K hK => ?_)
      go_simp
      refine (dknum_any E _).mono ?_
      rintro e9 w9 ⟨rfl, h9⟩
      rw [← h9]
      clear h9 w9
      refine hK.out _ _ (fun _ => (r3 (HDd.out.row (List.mem_cons_self ..))).1) ?_
      clear hK K
      try simp only [Act.put, List.setIfInBounds_toArray, List.set_cons_zero, List.set_cons_succ]
      refine wpAnyT_take (i := 4) (v := ?_) rfl (by kernel_rfl) (by kernel_rfl) (by kernel_rfl) (by kernel_rfl) (fun _ _ _ h => h) (Or.inl ⟨by rfl, ?_⟩) ((r3 (HDd.out.row (List.mem_cons_self ..))).1) ?_
      rotate_left
      · intro w hSw
        (try dsimp only at hSw)
        go_simp
        all_goals with_reducible rfl
      simp only [Act.put, List.setIfInBounds_toArray, List.set_cons_zero, List.set_cons_succ]
      refine wpAnyT_one (i := 5) (by kernel_rfl) rfl (fun K hK => ?_)
      obtain ⟨⟨y0, y1, y2⟩, f0, f1, f2⟩ := r3 (HDd.out.row (List.mem_cons_of_mem _ box_r))
      go_simp
      refine hK.out _ _ (fun _ => (r3 (set3_other (HDd.out.row (List.mem_cons_self ..)) HNe2.out _ _ _)).1) ?_
      clear hK K
      try simp only [Act.put, List.setIfInBounds_toArray, List.set_cons_zero, List.set_cons_succ]
      refine wpAnyT_one (i := 6) (by kernel_rfl) rfl (fun K hK => ?_)
      go_simp
      refine hK.out _ _ (fun h => absurd h (by decide)) ?_
      clear hK K
      try simp only [Act.put, List.setIfInBounds_toArray, List.set_cons_zero, List.set_cons_succ]
      refine wpAnyT_done (by kernel_rfl) ?_ _
      have HE := Lib.hid (act_end (c0 := .slice A3 (D').n C3) (c1 := .slice A4 (D').wt.length C4) (c2 := .int .i64 (D').left) (HDd.out.sub fun r hr => List.mem_cons_of_mem _ hr) (HV3.out.stay (HDd.out.sub (R' := R' ++ R) fun r hr => by rcases List.mem_append.1 hr with hr | hr; exact List.mem_cons_of_mem _ (List.mem_append_left _ hr); exact List.mem_cons_of_mem _ (box_R r hr)) fun r hr => hr) HRr.out HLt.out HSz.out)
      go_wp2_with fail
      refine bodyPost_ret (results_two rfl (by rfl) (by rfl) (rf_load HE.out.1)) rfl ?_
      exact ⟨_, _, rfl, HE.out.2.1, HE.out.2.2⟩

end Go.Proofs.Ytekeooeapiodmaa

