/- Joined texts. -/
import Derived.Test.YtekeooeapiodmaaZDkT3
namespace Go.Proofs.Ytekeooeapiodmaa
open Go Go.RowKit Go.Shelf
set_option linter.unusedSimpArgs false
set_option linter.unusedVariables false
set_option maxRecDepth 100000

attribute [local go_sem] Oper.semAt_some

variable {Kp : Nat → Prop} {wk : World}

theorem DStK.lies3 {w0 w : World} {p : Nat} {D : DkM} {R : List (Nat × List Value)} (h : DStK Kp wk w0 w p D R) (k : Int) (hk : hasS D.n k = true) :
    Calls Try.prog 29 #[.pointer (some ⟨p, 0, none⟩), .int .i64 k] w fun e w' => ∃ g n, e = .returned (.tuple #[.slice (some ⟨g, 0, none⟩) n n, .int .i64 0]) ∧ n = (D.lie k).length ∧ n = 64 ∧ w.heap.size ≤ g ∧ DStK Kp wk w0 w' p D ((g, (D.lie k).map encB) :: R) ∧ Below w.heap.size w w' := by
  refine (h.lies2 k).mono ?_
  rintro e w' ⟨hb, ⟨_, g, rfl, hd, hg, hl⟩ | ⟨hz, _⟩⟩
  · exact ⟨g, 64, rfl, hl.symm, rfl, hg, hd, hb⟩
  · rw [hk] at hz; cases hz
theorem DStK.read3 {w0 w : World} {p : Nat} {D : DkM} {R : List (Nat × List Value)} (h : DStK Kp wk w0 w p D R) (k : Int) (hk : hasS D.n k = true) :
    Calls Try.prog 24 #[.pointer (some ⟨p, 0, none⟩), .int .i64 k] w fun e w' => ∃ g n, e = .returned (.tuple #[.slice (some ⟨g, 0, none⟩) n n, .int .i64 0]) ∧ n = (D.shown k).length ∧ n = 64 ∧ w.heap.size ≤ g ∧ DStK Kp wk w0 w' p D ((g, (D.shown k).map encB) :: R) ∧ Below w.heap.size w w' := by
  refine (h.read2 k).mono ?_
  rintro e w' ⟨hb, ⟨_, g, rfl, hd, hg, hl⟩ | ⟨hz, _⟩⟩
  · exact ⟨g, 64, rfl, hl.symm, rfl, hg, hd, hb⟩
  · rw [hk] at hz; cases hz
theorem RfV.lie {w : World} {N : Nat → List Value → Prop} {A1 A2 : Option Addr} {n C1 m C2 : Nat} {l : Int} {D : DkM} (h : RfV w N (.agg #[.slice A1 n C1, .slice A2 m C2, .int .i64 l]) D) : RdO w N A1 (lieL D.lie D.n) := by
  obtain ⟨A3, C3, A4, C4, e, h1, _⟩ := h
  injection e with e
  injection e with e
  injection e with e1 _
  injection e1 with e1
  rw [e1]
  exact h1
theorem has_nat {n k : Nat} (h : k < n) : hasS n (k : Nat) = true := by
  unfold hasS
  simp only [Bool.and_eq_true, decide_eq_true_eq]
  omega
theorem txt_ne {s : List UInt8} (h : s.length = 64) : ((txt s).toList == ([] : List UInt8)) = false := by
  rw [txt_list]
  cases s with
  | nil => simp at h
  | cons c r => rfl

set_option maxHeartbeats 16000000 in
theorem act_lies (w0 w : World) (p : Nat) (D : DkM) (R : List (Nat × List Value)) (v : Value) (h : DStK Kp wk w0 w p D R) (hpl : D.pl) (hfew : D.wt.length < 1000000) (hv : RfV w (inR R) v D) (what : Int) (mo by_ : Int) (kA : Option Addr) (kC : Nat) (keep : List Bool) (k : Nat) (hk : k < D.n) (hw : what ≠ 0 ∧ what ≠ 1 ∧ what ≠ 2 ∧ what ≠ 3 ∧ what ≠ 4) :
    Calls Try.prog 12 #[.pointer (some ⟨p, 0, none⟩), v, .agg #[.int .i64 what, .int .i64 (k : Nat), .int .i64 mo, .int .u8 by_, .slice kA keep.length kC]] w (ActP Kp wk w0 p (D) R) := by
  have HOk := Lib.hid h.ok
  have HPl := Lib.hid hpl
  have HFew := Lib.hid hfew
  have HLt : Hid (∀ r ∈ R, r.1 < w.heap.size) := fun r hr => h.lt hr
  have HSz : Hid (w0.heap.size ≤ w.heap.size) := h.size
  obtain ⟨A1, C1, A2, C2, rfl, q1, q2⟩ := hv
  have hv : RfV w (inR R) (.agg #[.slice A1 D.n C1, .slice A2 D.wt.length C2, .int .i64 D.left]) D := ⟨A1, C1, A2, C2, rfl, q1, q2⟩
  have HV := Lib.hid hv
  obtain ⟨W, hW⟩ : ∃ W, W = ((w.alloc (.cells #[.slice A1 D.n C1, .slice A2 D.wt.length C2, .int .i64 D.left] 30)).alloc (.cells #[.int .i64 what, .int .i64 (k : Nat), .int .i64 mo, .int .u8 by_, .slice kA keep.length kC] 40)).alloc (.cells #[.slice none 0 0, .slice none 0 0, .int .i64 0] 30) := ⟨_, rfl⟩
  have HWz : Hid (W.heap.size = w.heap.size + 3) := by rw [Hid, hW]; simp
  have HD0 : Hid (DStK Kp wk w0 W p D ([] ++ (boxA w.heap.size [.slice A1 D.n C1, .slice A2 D.wt.length C2, .int .i64 D.left] [.int .i64 what, .int .i64 (k : Nat), .int .i64 mo, .int .u8 by_, .slice kA keep.length kC] ++ R))) := by rw [hW]; exact act_start h _ _ _ _
  have HW := Lib.hid hW
  clear h hpl hfew hv q1 q2 hW
  obtain ⟨hw0, hw1, hw2, hw3, hw4⟩ := hw
  have HK : Hid (k < D.n) := hk
  have hkI : (k : Int) < (D.n : Int) := by omega
  have HL64 : Hid (∀ j : Int, (D.lie j).length = 64 ∧ (D.shown j).length = 64) := fun j => ⟨HOk.out.lie j, shown_len HOk.out j⟩
  obtain ⟨x0, x1, x2, x3, x4⟩ := r5 (HD0.out.row box_x)
  clear hk
  go_enter Try.func12, Try.ntmps12
  go_upto_region 1 with fail
  rw [← HW.out]
  go_wp2_with fail
  refine (HD0.out.lies3 (k : Nat) (has_nat HK.out)).mono ?_
  rintro e w1 ⟨g, n, rfl, hn, hn64, hg, hd1, hb1⟩
  have HN := Lib.hid hn
  have HN64 := Lib.hid hn64
  have HD1 := Lib.hid hd1
  have HB1 := Lib.hid hb1
  have HG : Hid (w.heap.size + 3 ≤ g) := Lib.hid (show w.heap.size + 3 ≤ g by have := HWz.out; omega)
  have HV1 : Hid (RfV w1 (inR R) (.agg #[.slice A1 D.n C1, .slice A2 D.wt.length C2, .int .i64 D.left]) D) := HV.out.stay (R' := R) (HD1.out.sub fun r hr => List.mem_cons_of_mem _ (box_R r hr)) fun r hr => hr
  obtain ⟨g1, hA1, c0⟩ := rdO_at HV1.out.lie (lieL_at D.lie HK.out)
  obtain ⟨⟨z0, z1, z2⟩, _⟩ := r3 (HD1.out.row (List.mem_cons_of_mem _ box_w))
  rw [hA1] at z0
  clear x0 x1 x2 x3 x4 hn hn64 hd1 hb1 hg
  obtain ⟨x0, x1, x2, x3, x4⟩ := r5 (HD1.out.row (List.mem_cons_of_mem _ box_x))
  have hne := txt_ne (HL64.out (k : Nat)).1
  go_upto_region 28 with fail
  clear hne hA1
  have hne := txt_ne (HL64.out (k : Nat)).1
  have hcv : (convert 57 9 (.slice (some ⟨g, 0, none⟩) n n)).run Try.prog w1 = .ok (.string (txt (D.lie (k : Nat)))) w1 := rowB_text (HD1.out.row (List.mem_cons_self ..)) (HD1.out.lt (List.mem_cons_self ..)) HN.out
  have HU : Hid (RowU ((D.lie (k : Nat)).map encB) n) := by rw [Hid, HN.out]; exact rowU_bytes _
  go_wp2_with fail
  refine (dknum_any 0 _).mono ?_
  rintro e9 w9 ⟨rfl, h9⟩
  rw [← h9]
  clear h9 w9
  generalize (D.lie (k : Nat)).map encB = us at HD1 HU
  clear hne hcv x0 x1 x2 x3 x4 z0 z1 z2 c0
  go_wp2_with fail
  go_loopw [19] (fun v19 wr => ∃ i : Nat, i ≤ n ∧ v19 = .int .i64 i ∧ Hid (∃ vs, RowU vs n ∧ DStK Kp wk w0 wr p D ((g, vs) :: ([] ++ (boxA w.heap.size [.slice A1 D.n C1, .slice A2 D.wt.length C2, .int .i64 D.left] [.int .i64 what, .int .i64 (k : Nat), .int .i64 mo, .int .u8 by_, .slice kA keep.length kC] ++ R))))) (fun v19 _ => n - (intOf v19).toNat)
  case atStart => exact ⟨0, Nat.zero_le _, rfl, us, HU.out, HD1.out⟩
  case round =>
    obtain ⟨i, hi, rfl, HI⟩ := hrel
    have hM : n = 64 := HN64.out
    obtain ⟨vs, hvs, hds⟩ := HI.out
    have HDs := Lib.hid hds
    have HVs := Lib.hid hvs
    clear hds hvs HI
    by_cases hlt : i < n
    · have hltI : (i : Int) < (n : Int) := by omega
      have hms := mless hlt
      have hnb : n ≤ 64 := by omega
      obtain ⟨z, hz⟩ := HVs.out.2 i hlt
      have c0 := (HDs.out.row (List.mem_cons_self ..)).1 i _ hz
      have c1 := (HDs.out.row (List.mem_cons_self ..)).2 i
      clear hM
      go_wp2_with fail
      go_roundw
      case rel =>
        refine ⟨i + 1, hlt, by go_num, _, HVs.out.set i _, HDs.out.setH (by have := HG.out; have := HSz.out; omega) (fun r hr => ?_) i _⟩
        have a1 := HG.out
        simp only [boxA, List.mem_cons, List.mem_append] at hr
        rcases hr with hr | (rfl | rfl | rfl | hr) | hr
        · cases hr
        · show w.heap.size + 2 ≠ g; omega
        · show w.heap.size + 1 ≠ g; omega
        · show w.heap.size ≠ g; omega
        · cases hr
        · have := HLt.out r hr; omega
      case measure => exact hms
    · obtain rfl : i = n := by omega
      clear hM
      have HDq : Hid (DStK Kp wk w0 wr p D ([] ++ (boxA w.heap.size [.slice A1 D.n C1, .slice A2 D.wt.length C2, .int .i64 D.left] [.int .i64 what, .int .i64 (k : Nat), .int .i64 mo, .int .u8 by_, .slice kA keep.length kC] ++ R))) := HDs.out.sub fun r hr => List.mem_cons_of_mem _ hr
      obtain ⟨⟨y0, y1, y2⟩, f0, f1, f2⟩ := r3 (HDq.out.row box_r)
      obtain ⟨⟨z0, z1, z2⟩, _⟩ := r3 (HDq.out.row box_w)
      have HE := Lib.hid (act_end (c0 := .slice A1 D.n C1) (c1 := .slice A2 D.wt.length C2) (c2 := .int .i64 D.left) HDq.out (HV.out.stay (R' := [] ++ R) (HDq.out.sub fun r hr => box_R r hr) fun r hr => hr) (fun r hr => by cases hr) HLt.out HSz.out)
      go_wp2_with fail
      refine bodyPost_ret (results_two rfl (by rfl) (by rfl) (rf_load HE.out.1)) rfl ?_
      exact ⟨_, _, rfl, HE.out.2.1, HE.out.2.2⟩

set_option maxHeartbeats 16000000 in
theorem act_read (w0 w : World) (p : Nat) (D : DkM) (R : List (Nat × List Value)) (v : Value) (h : DStK Kp wk w0 w p D R) (hpl : D.pl) (hfew : D.wt.length < 1000000) (hv : RfV w (inR R) v D) (mo by_ : Int) (kA : Option Addr) (kC : Nat) (keep : List Bool) (k : Nat) (hk : k < D.n) :
    Calls Try.prog 12 #[.pointer (some ⟨p, 0, none⟩), v, .agg #[.int .i64 1, .int .i64 (k : Nat), .int .i64 mo, .int .u8 by_, .slice kA keep.length kC]] w (ActP Kp wk w0 p (D) R) := by
  have HOk := Lib.hid h.ok
  have HPl := Lib.hid hpl
  have HFew := Lib.hid hfew
  have HLt : Hid (∀ r ∈ R, r.1 < w.heap.size) := fun r hr => h.lt hr
  have HSz : Hid (w0.heap.size ≤ w.heap.size) := h.size
  obtain ⟨A1, C1, A2, C2, rfl, q1, q2⟩ := hv
  have hv : RfV w (inR R) (.agg #[.slice A1 D.n C1, .slice A2 D.wt.length C2, .int .i64 D.left]) D := ⟨A1, C1, A2, C2, rfl, q1, q2⟩
  have HV := Lib.hid hv
  obtain ⟨W, hW⟩ : ∃ W, W = ((w.alloc (.cells #[.slice A1 D.n C1, .slice A2 D.wt.length C2, .int .i64 D.left] 30)).alloc (.cells #[.int .i64 1, .int .i64 (k : Nat), .int .i64 mo, .int .u8 by_, .slice kA keep.length kC] 40)).alloc (.cells #[.slice none 0 0, .slice none 0 0, .int .i64 0] 30) := ⟨_, rfl⟩
  have HWz : Hid (W.heap.size = w.heap.size + 3) := by rw [Hid, hW]; simp
  have HD0 : Hid (DStK Kp wk w0 W p D ([] ++ (boxA w.heap.size [.slice A1 D.n C1, .slice A2 D.wt.length C2, .int .i64 D.left] [.int .i64 1, .int .i64 (k : Nat), .int .i64 mo, .int .u8 by_, .slice kA keep.length kC] ++ R))) := by rw [hW]; exact act_start h _ _ _ _
  have HW := Lib.hid hW
  clear h hpl hfew hv q1 q2 hW
  have HK : Hid (k < D.n) := hk
  have hkI : (k : Int) < (D.n : Int) := by omega
  have HL64 : Hid (∀ j : Int, (D.lie j).length = 64 ∧ (D.shown j).length = 64) := fun j => ⟨HOk.out.lie j, shown_len HOk.out j⟩
  obtain ⟨x0, x1, x2, x3, x4⟩ := r5 (HD0.out.row box_x)
  clear hk
  go_enter Try.func12, Try.ntmps12
  go_upto_region 1 with fail
  rw [← HW.out]
  go_wp2_with fail
  refine (HD0.out.lies3 (k : Nat) (has_nat HK.out)).mono ?_
  rintro e w1 ⟨g, n, rfl, hn, hn64, hg, hd1, hb1⟩
  have HN := Lib.hid hn
  have HN64 := Lib.hid hn64
  have HD1 := Lib.hid hd1
  have HB1 := Lib.hid hb1
  have HG : Hid (w.heap.size + 3 ≤ g) := Lib.hid (show w.heap.size + 3 ≤ g by have := HWz.out; omega)
  have HV1 : Hid (RfV w1 (inR R) (.agg #[.slice A1 D.n C1, .slice A2 D.wt.length C2, .int .i64 D.left]) D) := HV.out.stay (R' := R) (HD1.out.sub fun r hr => List.mem_cons_of_mem _ (box_R r hr)) fun r hr => hr
  obtain ⟨g1, hA1, c0⟩ := rdO_at HV1.out.lie (lieL_at D.lie HK.out)
  obtain ⟨⟨z0, z1, z2⟩, _⟩ := r3 (HD1.out.row (List.mem_cons_of_mem _ box_w))
  rw [hA1] at z0
  clear x0 x1 x2 x3 x4 hn hn64 hd1 hb1 hg
  obtain ⟨x0, x1, x2, x3, x4⟩ := r5 (HD1.out.row (List.mem_cons_of_mem _ box_x))
  have hne := txt_ne (HL64.out (k : Nat)).1
  go_upto_region 25 with fail
  clear hA1
  go_wp2_with fail
  refine (HD1.out.read3 (k : Nat) (has_nat HK.out)).mono ?_
  rintro e w2 ⟨g9, n9, rfl, hn9, hn64, hg9, hd2, hb2⟩
  have HN9 := Lib.hid hn9
  have HN649 := Lib.hid hn64
  have HD2 := Lib.hid hd2
  have HG9 : Hid (w.heap.size + 3 ≤ g9 ∧ g9 ≠ g) := Lib.hid (show w.heap.size + 3 ≤ g9 ∧ g9 ≠ g by have := HD1.out.lt (List.mem_cons_self ..); have := HG.out; simp only at *; omega)
  have HV2 : Hid (RfV w2 (inR R) (.agg #[.slice A1 D.n C1, .slice A2 D.wt.length C2, .int .i64 D.left]) D) := HV.out.stay (R' := R) (HD2.out.sub fun r hr => List.mem_cons_of_mem _ (List.mem_cons_of_mem _ (box_R r hr))) fun r hr => hr
  clear x0 x1 x2 x3 x4 z0 z1 z2 c0 hn9 hn64 hd2 hb2 hg9
  obtain ⟨x0, x1, x2, x3, x4⟩ := r5 (HD2.out.row (List.mem_cons_of_mem _ (List.mem_cons_of_mem _ box_x)))
  obtain ⟨⟨z0, z1, z2⟩, _⟩ := r3 (HD2.out.row (List.mem_cons_of_mem _ (List.mem_cons_of_mem _ box_w)))
  go_wp2_with fail
  refine (rread_any (inR R) D HOk.out.n2 (by have := HFew.out; omega) _ k HK.out w2 HV2.out).mono ?_
  rintro e w3 ⟨rfl, hb3⟩
  have HD3 : Hid (DStK Kp wk w0 w3 p D ((g9, (D.shown (k : Nat)).map encB) :: (g, (D.lie (k : Nat)).map encB) :: ([] ++ (boxA w.heap.size [.slice A1 D.n C1, .slice A2 D.wt.length C2, .int .i64 D.left] [.int .i64 1, .int .i64 (k : Nat), .int .i64 mo, .int .u8 by_, .slice kA keep.length kC] ++ R)))) := HD2.out.on hb3
  clear hb3 x0 x1 x2 x3 x4 z0 z1 z2 hne
  obtain ⟨x0, x1, x2, x3, x4⟩ := r5 (HD3.out.row (List.mem_cons_of_mem _ (List.mem_cons_of_mem _ box_x)))
  obtain ⟨⟨z0, z1, z2⟩, _⟩ := r3 (HD3.out.row (List.mem_cons_of_mem _ (List.mem_cons_of_mem _ box_w)))
  go_upto_region 28 with fail
  have hne := txt_ne (HL64.out (k : Nat)).2
  have hcv : (convert 57 9 (.slice (some ⟨g9, 0, none⟩) n9 n9)).run Try.prog w3 = .ok (.string (txt (D.shown (k : Nat)))) w3 := rowB_text (HD3.out.row (List.mem_cons_self ..)) (HD3.out.lt (List.mem_cons_self ..)) HN9.out
  have HU : Hid (RowU ((D.shown (k : Nat)).map encB) n9) := by rw [Hid, HN9.out]; exact rowU_bytes _
  go_wp2_with fail
  refine (dknum_any 0 _).mono ?_
  rintro e9 w9 ⟨rfl, h9⟩
  rw [← h9]
  clear h9 w9
  generalize (D.shown (k : Nat)).map encB = us at HD3 HU
  clear hne hcv x0 x1 x2 x3 x4 z0 z1 z2
  go_wp2_with fail
  go_loopw [19] (fun v19 wr => ∃ i : Nat, i ≤ n9 ∧ v19 = .int .i64 i ∧ Hid (∃ vs, RowU vs n9 ∧ DStK Kp wk w0 wr p D ((g9, vs) :: (g, (D.lie (k : Nat)).map encB) :: ([] ++ (boxA w.heap.size [.slice A1 D.n C1, .slice A2 D.wt.length C2, .int .i64 D.left] [.int .i64 1, .int .i64 (k : Nat), .int .i64 mo, .int .u8 by_, .slice kA keep.length kC] ++ R))))) (fun v19 _ => n9 - (intOf v19).toNat)
  case atStart => exact ⟨0, Nat.zero_le _, rfl, us, HU.out, HD3.out⟩
  case round =>
    obtain ⟨i, hi, rfl, HI⟩ := hrel
    have hM : n9 = 64 := HN649.out
    obtain ⟨vs, hvs, hds⟩ := HI.out
    have HDs := Lib.hid hds
    have HVs := Lib.hid hvs
    clear hds hvs HI
    by_cases hlt : i < n9
    · have hltI : (i : Int) < (n9 : Int) := by omega
      have hms := mless hlt
      have hnb : n9 ≤ 64 := by omega
      obtain ⟨z, hz⟩ := HVs.out.2 i hlt
      have c0 := (HDs.out.row (List.mem_cons_self ..)).1 i _ hz
      have c1 := (HDs.out.row (List.mem_cons_self ..)).2 i
      clear hM
      go_wp2_with fail
      go_roundw
      case rel =>
        refine ⟨i + 1, hlt, by go_num, _, HVs.out.set i _, HDs.out.setH (by have := HG9.out; have := HSz.out; omega) (fun r hr => ?_) i _⟩
        have a1 := HG9.out
        simp only [boxA, List.mem_cons, List.mem_append] at hr
        rcases hr with rfl | hr | (rfl | rfl | rfl | hr) | hr
        · show g ≠ g9; omega
        · cases hr
        · show w.heap.size + 2 ≠ g9; omega
        · show w.heap.size + 1 ≠ g9; omega
        · show w.heap.size ≠ g9; omega
        · cases hr
        · have := HLt.out r hr; omega
      case measure => exact hms
    · obtain rfl : i = n9 := by omega
      clear hM
      have HDq : Hid (DStK Kp wk w0 wr p D ([] ++ (boxA w.heap.size [.slice A1 D.n C1, .slice A2 D.wt.length C2, .int .i64 D.left] [.int .i64 1, .int .i64 (k : Nat), .int .i64 mo, .int .u8 by_, .slice kA keep.length kC] ++ R))) := HDs.out.sub fun r hr => List.mem_cons_of_mem _ (List.mem_cons_of_mem _ hr)
      obtain ⟨⟨y0, y1, y2⟩, f0, f1, f2⟩ := r3 (HDq.out.row box_r)
      obtain ⟨⟨z0, z1, z2⟩, _⟩ := r3 (HDq.out.row box_w)
      have HE := Lib.hid (act_end (c0 := .slice A1 D.n C1) (c1 := .slice A2 D.wt.length C2) (c2 := .int .i64 D.left) HDq.out (HV.out.stay (R' := [] ++ R) (HDq.out.sub fun r hr => box_R r hr) fun r hr => hr) (fun r hr => by cases hr) HLt.out HSz.out)
      go_wp2_with fail
      refine bodyPost_ret (results_two rfl (by rfl) (by rfl) (rf_load HE.out.1)) rfl ?_
      exact ⟨_, _, rfl, HE.out.2.1, HE.out.2.2⟩

end Go.Proofs.Ytekeooeapiodmaa

namespace Go.Proofs.Ytekeooeapiodmaa
open Go Go.RowKit Go.Shelf
set_option linter.unusedSimpArgs false
set_option linter.unusedVariables false
set_option maxRecDepth 100000

attribute [local go_sem] Oper.semAt_some

variable {Kp : Nat → Prop} {wk : World}

theorem DStK.lies4 {w0 w : World} {p : Nat} {D : DkM} {R : List (Nat × List Value)} (h : DStK Kp wk w0 w p D R) (k : Int) (hk : hasS D.n k = false) :
    Calls Try.prog 29 #[.pointer (some ⟨p, 0, none⟩), .int .i64 k] w fun e w' => e = .returned (.tuple #[.slice none 0 0, .int .i64 4]) ∧ DStK Kp wk w0 w' p D R := by
  refine (h.lies2 k).mono ?_
  rintro e w' ⟨hb, ⟨hz, _⟩ | ⟨_, rfl⟩⟩
  · rw [hk] at hz; cases hz
  · exact ⟨rfl, h.on hb⟩
theorem DStK.read4 {w0 w : World} {p : Nat} {D : DkM} {R : List (Nat × List Value)} (h : DStK Kp wk w0 w p D R) (k : Int) (hk : hasS D.n k = false) :
    Calls Try.prog 24 #[.pointer (some ⟨p, 0, none⟩), .int .i64 k] w fun e w' => e = .returned (.tuple #[.slice none 0 0, .int .i64 4]) ∧ DStK Kp wk w0 w' p D R := by
  refine (h.read2 k).mono ?_
  rintro e w' ⟨hb, ⟨hz, _⟩ | ⟨_, rfl⟩⟩
  · rw [hk] at hz; cases hz
  · exact ⟨rfl, h.on hb⟩

set_option maxHeartbeats 16000000 in
theorem act_liesNeg (w0 w : World) (p : Nat) (D : DkM) (R : List (Nat × List Value)) (v : Value) (h : DStK Kp wk w0 w p D R) (hpl : D.pl) (hfew : D.wt.length < 1000000) (hv : RfV w (inR R) v D) (what : Int) (ka mo by_ : Int) (kA : Option Addr) (kC : Nat) (keep : List Bool) (hk : ka < 0) (hw : what ≠ 0 ∧ what ≠ 1 ∧ what ≠ 2 ∧ what ≠ 3 ∧ what ≠ 4) :
    Calls Try.prog 12 #[.pointer (some ⟨p, 0, none⟩), v, .agg #[.int .i64 what, .int .i64 ka, .int .i64 mo, .int .u8 by_, .slice kA keep.length kC]] w (ActP Kp wk w0 p (D) R) := by
  have HOk := Lib.hid h.ok
  have HPl := Lib.hid hpl
  have HFew := Lib.hid hfew
  have HLt : Hid (∀ r ∈ R, r.1 < w.heap.size) := fun r hr => h.lt hr
  have HSz : Hid (w0.heap.size ≤ w.heap.size) := h.size
  obtain ⟨A1, C1, A2, C2, rfl, q1, q2⟩ := hv
  have hv : RfV w (inR R) (.agg #[.slice A1 D.n C1, .slice A2 D.wt.length C2, .int .i64 D.left]) D := ⟨A1, C1, A2, C2, rfl, q1, q2⟩
  have HV := Lib.hid hv
  obtain ⟨W, hW⟩ : ∃ W, W = ((w.alloc (.cells #[.slice A1 D.n C1, .slice A2 D.wt.length C2, .int .i64 D.left] 30)).alloc (.cells #[.int .i64 what, .int .i64 ka, .int .i64 mo, .int .u8 by_, .slice kA keep.length kC] 40)).alloc (.cells #[.slice none 0 0, .slice none 0 0, .int .i64 0] 30) := ⟨_, rfl⟩
  have HWz : Hid (W.heap.size = w.heap.size + 3) := by rw [Hid, hW]; simp
  have HD0 : Hid (DStK Kp wk w0 W p D ([] ++ (boxA w.heap.size [.slice A1 D.n C1, .slice A2 D.wt.length C2, .int .i64 D.left] [.int .i64 what, .int .i64 ka, .int .i64 mo, .int .u8 by_, .slice kA keep.length kC] ++ R))) := by rw [hW]; exact act_start h _ _ _ _
  have HW := Lib.hid hW
  clear h hpl hfew hv q1 q2 hW
  obtain ⟨hw0, hw1, hw2, hw3, hw4⟩ := hw
  have hneg : ¬ 0 ≤ ka := by omega

  have HH : Hid (hasS D.n ka = false) := by
    unfold Hid hasS
    simp only [Bool.and_eq_false_iff, decide_eq_false_iff_not]
    omega
  clear hk
  obtain ⟨x0, x1, x2, x3, x4⟩ := r5 (HD0.out.row box_x)
  go_enter Try.func12, Try.ntmps12
  go_upto_region 1 with fail
  rw [← HW.out]
  go_wp2_with fail
  refine (HD0.out.lies4 ka HH.out).mono ?_
  rintro e w1 ⟨rfl, hd1⟩
  have HD1 := Lib.hid hd1
  clear x0 x1 x2 x3 x4 hd1
  obtain ⟨x0, x1, x2, x3, x4⟩ := r5 (HD1.out.row box_x)
  obtain ⟨⟨z0, z1, z2⟩, _⟩ := r3 (HD1.out.row box_w)
  go_upto_region 29 with fail
  clear x0 x1 x2 x3 x4 z0 z1 z2
  obtain ⟨wd, hwd⟩ : ∃ wd, wd = w1.drew := ⟨_, rfl⟩
  have HDd : Hid (DStK Kp wk w0 wd p D ([] ++ (boxA w.heap.size [.slice A1 D.n C1, .slice A2 D.wt.length C2, .int .i64 D.left] [.int .i64 what, .int .i64 ka, .int .i64 mo, .int .u8 by_, .slice kA keep.length kC] ++ R))) := by rw [hwd]; exact HD1.out.drew
  have HWd := Lib.hid hwd
  clear hwd
  refine wp_region_T (fun w' => w'.cell? ⟨w.heap.size, 0, none⟩ = some (.slice A1 D.n C1) ∧ w'.cell? ⟨w.heap.size, 1, none⟩ = some (.slice A2 D.wt.length C2) ∧ w'.cell? ⟨w.heap.size, 2, none⟩ = some (.int .i64 D.left)) 10 (by kernel_rfl) ?_
  rw [← HWd.out]
  refine wpAnyT_take (i := 0) (v := ?_) rfl (by kernel_rfl) (by kernel_rfl) (by kernel_rfl) (by kernel_rfl) (fun _ _ _ h => h) (Or.inl ⟨by rfl, ?_⟩) ((r3 (HDd.out.row box_w)).1) ?_
  rotate_left
  · intro w hSw
    (try dsimp only at hSw)
    go_simp
    all_goals with_reducible rfl
  simp only [Act.put, List.setIfInBounds_toArray, List.set_cons_zero, List.set_cons_succ]
  refine wpAnyT_take (i := 1) (v := ?_) rfl (by kernel_rfl) (by kernel_rfl) (by kernel_rfl) (by kernel_rfl) (fun _ _ _ h => h) (Or.inl ⟨by rfl, ?_⟩) ((r3 (HDd.out.row box_w)).1) ?_
  rotate_left
  · intro w hSw
    (try dsimp only at hSw)
    go_simp
    all_goals with_reducible rfl
  simp only [Act.put, List.setIfInBounds_toArray, List.set_cons_zero, List.set_cons_succ]
  refine wpAnyT_take (i := 2) (v := ?_) rfl (by kernel_rfl) (by kernel_rfl) (by kernel_rfl) (by kernel_rfl) (fun _ _ _ h => h) (Or.inl ⟨by rfl, ?_⟩) ((r3 (HDd.out.row box_w)).1) ?_
  rotate_left
  · intro w hSw
    (try dsimp only at hSw)
    go_simp
    all_goals with_reducible rfl
  simp only [Act.put, List.setIfInBounds_toArray, List.set_cons_zero, List.set_cons_succ]
  refine wpAnyT_take (i := 3) (v := ?_) rfl (by kernel_rfl) (by kernel_rfl) (by kernel_rfl) (by kernel_rfl) (fun _ _ _ h => h) (Or.inl ⟨by rfl, ?_⟩) ((r3 (HDd.out.row box_w)).1) ?_
  rotate_left
  · intro w hSw
    (try dsimp only at hSw)
    go_simp
    all_goals with_reducible rfl
  simp only [Act.put, List.setIfInBounds_toArray, List.set_cons_zero, List.set_cons_succ]
  refine wpAnyT_take (i := 4) (v := ?_) rfl (by kernel_rfl) (by kernel_rfl) (by kernel_rfl) (by kernel_rfl) (fun _ _ _ h => h) (Or.inl ⟨by rfl, ?_⟩) ((r3 (HDd.out.row box_w)).1) ?_
  rotate_left
  · intro w hSw
    (try dsimp only at hSw)
    go_simp
    all_goals with_reducible rfl
  simp only [Act.put, List.setIfInBounds_toArray, List.set_cons_zero, List.set_cons_succ]
  refine wpAnyT_take (i := 5) (v := ?_) rfl (by kernel_rfl) (by kernel_rfl) (by kernel_rfl) (by kernel_rfl) (fun _ _ _ h => h) (Or.inl ⟨by rfl, ?_⟩) ((r3 (HDd.out.row box_w)).1) ?_
  rotate_left
  · intro w hSw
    (try dsimp only at hSw)
    go_simp
    all_goals with_reducible rfl
  simp only [Act.put, List.setIfInBounds_toArray, List.set_cons_zero, List.set_cons_succ]
  refine wpAnyT_one (i := 6) (by kernel_rfl) rfl (fun K hK => ?_)
  go_simp
  refine (dknum_any 4 _).mono ?_
  rintro e9 w9 ⟨rfl, h9⟩
  rw [← h9]
  clear h9 w9
  refine hK.out _ _ (fun _ => (r3 (HDd.out.row box_w)).1) ?_
  clear hK K
  try simp only [Act.put, List.setIfInBounds_toArray, List.set_cons_zero, List.set_cons_succ]
  refine wpAnyT_take (i := 7) (v := ?_) rfl (by kernel_rfl) (by kernel_rfl) (by kernel_rfl) (by kernel_rfl) (fun _ _ _ h => h) (Or.inl ⟨by rfl, ?_⟩) ((r3 (HDd.out.row box_w)).1) ?_
  rotate_left
  · intro w hSw
    (try dsimp only at hSw)
    go_simp
    all_goals with_reducible rfl
  simp only [Act.put, List.setIfInBounds_toArray, List.set_cons_zero, List.set_cons_succ]
  refine wpAnyT_take (i := 8) (v := ?_) rfl (by kernel_rfl) (by kernel_rfl) (by kernel_rfl) (by kernel_rfl) (fun _ _ _ h => h) (Or.inl ⟨by rfl, ?_⟩) ((r3 (HDd.out.row box_w)).1) ?_
  rotate_left
  · intro w hSw
    (try dsimp only at hSw)
    go_simp
    all_goals with_reducible rfl
  simp only [Act.put, List.setIfInBounds_toArray, List.set_cons_zero, List.set_cons_succ]
  refine wpAnyT_one (i := 9) (by kernel_rfl) rfl (fun K hK => ?_)
  obtain ⟨⟨y0, y1, y2⟩, f0, f1, f2⟩ := r3 (HDd.out.row box_r)
  go_simp
  refine hK.out _ _ (fun _ => (r3 (set3_other (HDd.out.row box_w) (by omega) _ _ _)).1) ?_
  clear hK K
  try simp only [Act.put, List.setIfInBounds_toArray, List.set_cons_zero, List.set_cons_succ]
  refine wpAnyT_one (i := 10) (by kernel_rfl) rfl (fun K hK => ?_)
  go_simp
  refine hK.out _ _ (fun h => absurd h (by decide)) ?_
  clear hK K
  try simp only [Act.put, List.setIfInBounds_toArray, List.set_cons_zero, List.set_cons_succ]
  refine wpAnyT_done (by kernel_rfl) ?_ _
  have HE := Lib.hid (act_end (c0 := .slice A1 D.n C1) (c1 := .slice A2 D.wt.length C2) (c2 := .int .i64 D.left) HDd.out (HV.out.stay (R' := [] ++ R) (HDd.out.sub fun r hr => box_R r hr) fun r hr => hr) (fun r hr => by cases hr) HLt.out HSz.out)
  go_wp2_with fail
  refine bodyPost_ret (results_two rfl (by rfl) (by rfl) (rf_load HE.out.1)) rfl ?_
  exact ⟨_, _, rfl, HE.out.2.1, HE.out.2.2⟩

set_option maxHeartbeats 16000000 in
theorem act_liesFar (w0 w : World) (p : Nat) (D : DkM) (R : List (Nat × List Value)) (v : Value) (h : DStK Kp wk w0 w p D R) (hpl : D.pl) (hfew : D.wt.length < 1000000) (hv : RfV w (inR R) v D) (what : Int) (ka mo by_ : Int) (kA : Option Addr) (kC : Nat) (keep : List Bool) (hk : (D.n : Int) ≤ ka) (hw : what ≠ 0 ∧ what ≠ 1 ∧ what ≠ 2 ∧ what ≠ 3 ∧ what ≠ 4) :
    Calls Try.prog 12 #[.pointer (some ⟨p, 0, none⟩), v, .agg #[.int .i64 what, .int .i64 ka, .int .i64 mo, .int .u8 by_, .slice kA keep.length kC]] w (ActP Kp wk w0 p (D) R) := by
  have HOk := Lib.hid h.ok
  have HPl := Lib.hid hpl
  have HFew := Lib.hid hfew
  have HLt : Hid (∀ r ∈ R, r.1 < w.heap.size) := fun r hr => h.lt hr
  have HSz : Hid (w0.heap.size ≤ w.heap.size) := h.size
  obtain ⟨A1, C1, A2, C2, rfl, q1, q2⟩ := hv
  have hv : RfV w (inR R) (.agg #[.slice A1 D.n C1, .slice A2 D.wt.length C2, .int .i64 D.left]) D := ⟨A1, C1, A2, C2, rfl, q1, q2⟩
  have HV := Lib.hid hv
  obtain ⟨W, hW⟩ : ∃ W, W = ((w.alloc (.cells #[.slice A1 D.n C1, .slice A2 D.wt.length C2, .int .i64 D.left] 30)).alloc (.cells #[.int .i64 what, .int .i64 ka, .int .i64 mo, .int .u8 by_, .slice kA keep.length kC] 40)).alloc (.cells #[.slice none 0 0, .slice none 0 0, .int .i64 0] 30) := ⟨_, rfl⟩
  have HWz : Hid (W.heap.size = w.heap.size + 3) := by rw [Hid, hW]; simp
  have HD0 : Hid (DStK Kp wk w0 W p D ([] ++ (boxA w.heap.size [.slice A1 D.n C1, .slice A2 D.wt.length C2, .int .i64 D.left] [.int .i64 what, .int .i64 ka, .int .i64 mo, .int .u8 by_, .slice kA keep.length kC] ++ R))) := by rw [hW]; exact act_start h _ _ _ _
  have HW := Lib.hid hW
  clear h hpl hfew hv q1 q2 hW
  obtain ⟨hw0, hw1, hw2, hw3, hw4⟩ := hw
  have hneg : 0 ≤ ka := by have := HOk.out.n1; omega
  have hfar : ¬ ka < (D.n : Int) := by omega
  have HH : Hid (hasS D.n ka = false) := by
    unfold Hid hasS
    simp only [Bool.and_eq_false_iff, decide_eq_false_iff_not]
    omega
  clear hk
  obtain ⟨x0, x1, x2, x3, x4⟩ := r5 (HD0.out.row box_x)
  go_enter Try.func12, Try.ntmps12
  go_upto_region 1 with fail
  rw [← HW.out]
  go_wp2_with fail
  refine (HD0.out.lies4 ka HH.out).mono ?_
  rintro e w1 ⟨rfl, hd1⟩
  have HD1 := Lib.hid hd1
  clear x0 x1 x2 x3 x4 hd1
  obtain ⟨x0, x1, x2, x3, x4⟩ := r5 (HD1.out.row box_x)
  obtain ⟨⟨z0, z1, z2⟩, _⟩ := r3 (HD1.out.row box_w)
  go_upto_region 29 with fail
  clear x0 x1 x2 x3 x4 z0 z1 z2
  obtain ⟨wd, hwd⟩ : ∃ wd, wd = w1.drew := ⟨_, rfl⟩
  have HDd : Hid (DStK Kp wk w0 wd p D ([] ++ (boxA w.heap.size [.slice A1 D.n C1, .slice A2 D.wt.length C2, .int .i64 D.left] [.int .i64 what, .int .i64 ka, .int .i64 mo, .int .u8 by_, .slice kA keep.length kC] ++ R))) := by rw [hwd]; exact HD1.out.drew
  have HWd := Lib.hid hwd
  clear hwd
  refine wp_region_T (fun w' => w'.cell? ⟨w.heap.size, 0, none⟩ = some (.slice A1 D.n C1) ∧ w'.cell? ⟨w.heap.size, 1, none⟩ = some (.slice A2 D.wt.length C2) ∧ w'.cell? ⟨w.heap.size, 2, none⟩ = some (.int .i64 D.left)) 10 (by kernel_rfl) ?_
  rw [← HWd.out]
  refine wpAnyT_take (i := 0) (v := ?_) rfl (by kernel_rfl) (by kernel_rfl) (by kernel_rfl) (by kernel_rfl) (fun _ _ _ h => h) (Or.inl ⟨by rfl, ?_⟩) ((r3 (HDd.out.row box_w)).1) ?_
  rotate_left
  · intro w hSw
    (try dsimp only at hSw)
    go_simp
    all_goals with_reducible rfl
  simp only [Act.put, List.setIfInBounds_toArray, List.set_cons_zero, List.set_cons_succ]
  refine wpAnyT_take (i := 1) (v := ?_) rfl (by kernel_rfl) (by kernel_rfl) (by kernel_rfl) (by kernel_rfl) (fun _ _ _ h => h) (Or.inl ⟨by rfl, ?_⟩) ((r3 (HDd.out.row box_w)).1) ?_
  rotate_left
  · intro w hSw
    (try dsimp only at hSw)
    go_simp
    all_goals with_reducible rfl
  simp only [Act.put, List.setIfInBounds_toArray, List.set_cons_zero, List.set_cons_succ]
  refine wpAnyT_take (i := 2) (v := ?_) rfl (by kernel_rfl) (by kernel_rfl) (by kernel_rfl) (by kernel_rfl) (fun _ _ _ h => h) (Or.inl ⟨by rfl, ?_⟩) ((r3 (HDd.out.row box_w)).1) ?_
  rotate_left
  · intro w hSw
    (try dsimp only at hSw)
    go_simp
    all_goals with_reducible rfl
  simp only [Act.put, List.setIfInBounds_toArray, List.set_cons_zero, List.set_cons_succ]
  refine wpAnyT_take (i := 3) (v := ?_) rfl (by kernel_rfl) (by kernel_rfl) (by kernel_rfl) (by kernel_rfl) (fun _ _ _ h => h) (Or.inl ⟨by rfl, ?_⟩) ((r3 (HDd.out.row box_w)).1) ?_
  rotate_left
  · intro w hSw
    (try dsimp only at hSw)
    go_simp
    all_goals with_reducible rfl
  simp only [Act.put, List.setIfInBounds_toArray, List.set_cons_zero, List.set_cons_succ]
  refine wpAnyT_take (i := 4) (v := ?_) rfl (by kernel_rfl) (by kernel_rfl) (by kernel_rfl) (by kernel_rfl) (fun _ _ _ h => h) (Or.inl ⟨by rfl, ?_⟩) ((r3 (HDd.out.row box_w)).1) ?_
  rotate_left
  · intro w hSw
    (try dsimp only at hSw)
    go_simp
    all_goals with_reducible rfl
  simp only [Act.put, List.setIfInBounds_toArray, List.set_cons_zero, List.set_cons_succ]
  refine wpAnyT_take (i := 5) (v := ?_) rfl (by kernel_rfl) (by kernel_rfl) (by kernel_rfl) (by kernel_rfl) (fun _ _ _ h => h) (Or.inl ⟨by rfl, ?_⟩) ((r3 (HDd.out.row box_w)).1) ?_
  rotate_left
  · intro w hSw
    (try dsimp only at hSw)
    go_simp
    all_goals with_reducible rfl
  simp only [Act.put, List.setIfInBounds_toArray, List.set_cons_zero, List.set_cons_succ]
  refine wpAnyT_one (i := 6) (by kernel_rfl) rfl (fun K hK => ?_)
  go_simp
  refine (dknum_any 4 _).mono ?_
  rintro e9 w9 ⟨rfl, h9⟩
  rw [← h9]
  clear h9 w9
  refine hK.out _ _ (fun _ => (r3 (HDd.out.row box_w)).1) ?_
  clear hK K
  try simp only [Act.put, List.setIfInBounds_toArray, List.set_cons_zero, List.set_cons_succ]
  refine wpAnyT_take (i := 7) (v := ?_) rfl (by kernel_rfl) (by kernel_rfl) (by kernel_rfl) (by kernel_rfl) (fun _ _ _ h => h) (Or.inl ⟨by rfl, ?_⟩) ((r3 (HDd.out.row box_w)).1) ?_
  rotate_left
  · intro w hSw
    (try dsimp only at hSw)
    go_simp
    all_goals with_reducible rfl
  simp only [Act.put, List.setIfInBounds_toArray, List.set_cons_zero, List.set_cons_succ]
  refine wpAnyT_take (i := 8) (v := ?_) rfl (by kernel_rfl) (by kernel_rfl) (by kernel_rfl) (by kernel_rfl) (fun _ _ _ h => h) (Or.inl ⟨by rfl, ?_⟩) ((r3 (HDd.out.row box_w)).1) ?_
  rotate_left
  · intro w hSw
    (try dsimp only at hSw)
    go_simp
    all_goals with_reducible rfl
  simp only [Act.put, List.setIfInBounds_toArray, List.set_cons_zero, List.set_cons_succ]
  refine wpAnyT_one (i := 9) (by kernel_rfl) rfl (fun K hK => ?_)
  obtain ⟨⟨y0, y1, y2⟩, f0, f1, f2⟩ := r3 (HDd.out.row box_r)
  go_simp
  refine hK.out _ _ (fun _ => (r3 (set3_other (HDd.out.row box_w) (by omega) _ _ _)).1) ?_
  clear hK K
  try simp only [Act.put, List.setIfInBounds_toArray, List.set_cons_zero, List.set_cons_succ]
  refine wpAnyT_one (i := 10) (by kernel_rfl) rfl (fun K hK => ?_)
  go_simp
  refine hK.out _ _ (fun h => absurd h (by decide)) ?_
  clear hK K
  try simp only [Act.put, List.setIfInBounds_toArray, List.set_cons_zero, List.set_cons_succ]
  refine wpAnyT_done (by kernel_rfl) ?_ _
  have HE := Lib.hid (act_end (c0 := .slice A1 D.n C1) (c1 := .slice A2 D.wt.length C2) (c2 := .int .i64 D.left) HDd.out (HV.out.stay (R' := [] ++ R) (HDd.out.sub fun r hr => box_R r hr) fun r hr => hr) (fun r hr => by cases hr) HLt.out HSz.out)
  go_wp2_with fail
  refine bodyPost_ret (results_two rfl (by rfl) (by rfl) (rf_load HE.out.1)) rfl ?_
  exact ⟨_, _, rfl, HE.out.2.1, HE.out.2.2⟩

set_option maxHeartbeats 16000000 in
theorem act_readNeg (w0 w : World) (p : Nat) (D : DkM) (R : List (Nat × List Value)) (v : Value) (h : DStK Kp wk w0 w p D R) (hpl : D.pl) (hfew : D.wt.length < 1000000) (hv : RfV w (inR R) v D) (ka mo by_ : Int) (kA : Option Addr) (kC : Nat) (keep : List Bool) (hk : ka < 0) :
    Calls Try.prog 12 #[.pointer (some ⟨p, 0, none⟩), v, .agg #[.int .i64 1, .int .i64 ka, .int .i64 mo, .int .u8 by_, .slice kA keep.length kC]] w (ActP Kp wk w0 p (D) R) := by
  have HOk := Lib.hid h.ok
  have HPl := Lib.hid hpl
  have HFew := Lib.hid hfew
  have HLt : Hid (∀ r ∈ R, r.1 < w.heap.size) := fun r hr => h.lt hr
  have HSz : Hid (w0.heap.size ≤ w.heap.size) := h.size
  obtain ⟨A1, C1, A2, C2, rfl, q1, q2⟩ := hv
  have hv : RfV w (inR R) (.agg #[.slice A1 D.n C1, .slice A2 D.wt.length C2, .int .i64 D.left]) D := ⟨A1, C1, A2, C2, rfl, q1, q2⟩
  have HV := Lib.hid hv
  obtain ⟨W, hW⟩ : ∃ W, W = ((w.alloc (.cells #[.slice A1 D.n C1, .slice A2 D.wt.length C2, .int .i64 D.left] 30)).alloc (.cells #[.int .i64 1, .int .i64 ka, .int .i64 mo, .int .u8 by_, .slice kA keep.length kC] 40)).alloc (.cells #[.slice none 0 0, .slice none 0 0, .int .i64 0] 30) := ⟨_, rfl⟩
  have HWz : Hid (W.heap.size = w.heap.size + 3) := by rw [Hid, hW]; simp
  have HD0 : Hid (DStK Kp wk w0 W p D ([] ++ (boxA w.heap.size [.slice A1 D.n C1, .slice A2 D.wt.length C2, .int .i64 D.left] [.int .i64 1, .int .i64 ka, .int .i64 mo, .int .u8 by_, .slice kA keep.length kC] ++ R))) := by rw [hW]; exact act_start h _ _ _ _
  have HW := Lib.hid hW
  clear h hpl hfew hv q1 q2 hW
  have hneg : ¬ 0 ≤ ka := by omega

  have HH : Hid (hasS D.n ka = false) := by
    unfold Hid hasS
    simp only [Bool.and_eq_false_iff, decide_eq_false_iff_not]
    omega
  clear hk
  obtain ⟨x0, x1, x2, x3, x4⟩ := r5 (HD0.out.row box_x)
  go_enter Try.func12, Try.ntmps12
  go_upto_region 1 with fail
  rw [← HW.out]
  go_wp2_with fail
  refine (HD0.out.lies4 ka HH.out).mono ?_
  rintro e w1 ⟨rfl, hd1⟩
  have HD1 := Lib.hid hd1
  clear x0 x1 x2 x3 x4 hd1
  obtain ⟨x0, x1, x2, x3, x4⟩ := r5 (HD1.out.row box_x)
  obtain ⟨⟨z0, z1, z2⟩, _⟩ := r3 (HD1.out.row box_w)
  go_upto_region 25 with fail
  go_wp2_with fail
  refine (HD1.out.read4 ka HH.out).mono ?_
  rintro e w2 ⟨rfl, hd2⟩
  have HD2 := Lib.hid hd2
  clear x0 x1 x2 x3 x4 z0 z1 z2 hd2
  obtain ⟨x0, x1, x2, x3, x4⟩ := r5 (HD2.out.row box_x)
  obtain ⟨⟨z0, z1, z2⟩, _⟩ := r3 (HD2.out.row box_w)
  go_upto_region 29 with fail
  clear x0 x1 x2 x3 x4 z0 z1 z2
  obtain ⟨wd, hwd⟩ : ∃ wd, wd = w2.drew := ⟨_, rfl⟩
  have HDd : Hid (DStK Kp wk w0 wd p D ([] ++ (boxA w.heap.size [.slice A1 D.n C1, .slice A2 D.wt.length C2, .int .i64 D.left] [.int .i64 1, .int .i64 ka, .int .i64 mo, .int .u8 by_, .slice kA keep.length kC] ++ R))) := by rw [hwd]; exact HD2.out.drew
  have HWd := Lib.hid hwd
  clear hwd
  refine wp_region_T (fun w' => w'.cell? ⟨w.heap.size, 0, none⟩ = some (.slice A1 D.n C1) ∧ w'.cell? ⟨w.heap.size, 1, none⟩ = some (.slice A2 D.wt.length C2) ∧ w'.cell? ⟨w.heap.size, 2, none⟩ = some (.int .i64 D.left)) 10 (by kernel_rfl) ?_
  rw [← HWd.out]
  refine wpAnyT_take (i := 0) (v := ?_) rfl (by kernel_rfl) (by kernel_rfl) (by kernel_rfl) (by kernel_rfl) (fun _ _ _ h => h) (Or.inl ⟨by rfl, ?_⟩) ((r3 (HDd.out.row box_w)).1) ?_
  rotate_left
  · intro w hSw
    (try dsimp only at hSw)
    go_simp
    all_goals with_reducible rfl
  simp only [Act.put, List.setIfInBounds_toArray, List.set_cons_zero, List.set_cons_succ]
  refine wpAnyT_take (i := 1) (v := ?_) rfl (by kernel_rfl) (by kernel_rfl) (by kernel_rfl) (by kernel_rfl) (fun _ _ _ h => h) (Or.inl ⟨by rfl, ?_⟩) ((r3 (HDd.out.row box_w)).1) ?_
  rotate_left
  · intro w hSw
    (try dsimp only at hSw)
    go_simp
    all_goals with_reducible rfl
  simp only [Act.put, List.setIfInBounds_toArray, List.set_cons_zero, List.set_cons_succ]
  refine wpAnyT_take (i := 2) (v := ?_) rfl (by kernel_rfl) (by kernel_rfl) (by kernel_rfl) (by kernel_rfl) (fun _ _ _ h => h) (Or.inl ⟨by rfl, ?_⟩) ((r3 (HDd.out.row box_w)).1) ?_
  rotate_left
  · intro w hSw
    (try dsimp only at hSw)
    go_simp
    all_goals with_reducible rfl
  simp only [Act.put, List.setIfInBounds_toArray, List.set_cons_zero, List.set_cons_succ]
  refine wpAnyT_take (i := 3) (v := ?_) rfl (by kernel_rfl) (by kernel_rfl) (by kernel_rfl) (by kernel_rfl) (fun _ _ _ h => h) (Or.inl ⟨by rfl, ?_⟩) ((r3 (HDd.out.row box_w)).1) ?_
  rotate_left
  · intro w hSw
    (try dsimp only at hSw)
    go_simp
    all_goals with_reducible rfl
  simp only [Act.put, List.setIfInBounds_toArray, List.set_cons_zero, List.set_cons_succ]
  refine wpAnyT_take (i := 4) (v := ?_) rfl (by kernel_rfl) (by kernel_rfl) (by kernel_rfl) (by kernel_rfl) (fun _ _ _ h => h) (Or.inl ⟨by rfl, ?_⟩) ((r3 (HDd.out.row box_w)).1) ?_
  rotate_left
  · intro w hSw
    (try dsimp only at hSw)
    go_simp
    all_goals with_reducible rfl
  simp only [Act.put, List.setIfInBounds_toArray, List.set_cons_zero, List.set_cons_succ]
  refine wpAnyT_take (i := 5) (v := ?_) rfl (by kernel_rfl) (by kernel_rfl) (by kernel_rfl) (by kernel_rfl) (fun _ _ _ h => h) (Or.inl ⟨by rfl, ?_⟩) ((r3 (HDd.out.row box_w)).1) ?_
  rotate_left
  · intro w hSw
    (try dsimp only at hSw)
    go_simp
    all_goals with_reducible rfl
  simp only [Act.put, List.setIfInBounds_toArray, List.set_cons_zero, List.set_cons_succ]
  refine wpAnyT_one (i := 6) (by kernel_rfl) rfl (fun K hK => ?_)
  go_simp
  refine (dknum_any 4 _).mono ?_
  rintro e9 w9 ⟨rfl, h9⟩
  rw [← h9]
  clear h9 w9
  refine hK.out _ _ (fun _ => (r3 (HDd.out.row box_w)).1) ?_
  clear hK K
  try simp only [Act.put, List.setIfInBounds_toArray, List.set_cons_zero, List.set_cons_succ]
  refine wpAnyT_take (i := 7) (v := ?_) rfl (by kernel_rfl) (by kernel_rfl) (by kernel_rfl) (by kernel_rfl) (fun _ _ _ h => h) (Or.inl ⟨by rfl, ?_⟩) ((r3 (HDd.out.row box_w)).1) ?_
  rotate_left
  · intro w hSw
    (try dsimp only at hSw)
    go_simp
    all_goals with_reducible rfl
  simp only [Act.put, List.setIfInBounds_toArray, List.set_cons_zero, List.set_cons_succ]
  refine wpAnyT_take (i := 8) (v := ?_) rfl (by kernel_rfl) (by kernel_rfl) (by kernel_rfl) (by kernel_rfl) (fun _ _ _ h => h) (Or.inl ⟨by rfl, ?_⟩) ((r3 (HDd.out.row box_w)).1) ?_
  rotate_left
  · intro w hSw
    (try dsimp only at hSw)
    go_simp
    all_goals with_reducible rfl
  simp only [Act.put, List.setIfInBounds_toArray, List.set_cons_zero, List.set_cons_succ]
  refine wpAnyT_one (i := 9) (by kernel_rfl) rfl (fun K hK => ?_)
  obtain ⟨⟨y0, y1, y2⟩, f0, f1, f2⟩ := r3 (HDd.out.row box_r)
  go_simp
  refine hK.out _ _ (fun _ => (r3 (set3_other (HDd.out.row box_w) (by omega) _ _ _)).1) ?_
  clear hK K
  try simp only [Act.put, List.setIfInBounds_toArray, List.set_cons_zero, List.set_cons_succ]
  refine wpAnyT_one (i := 10) (by kernel_rfl) rfl (fun K hK => ?_)
  go_simp
  refine hK.out _ _ (fun h => absurd h (by decide)) ?_
  clear hK K
  try simp only [Act.put, List.setIfInBounds_toArray, List.set_cons_zero, List.set_cons_succ]
  refine wpAnyT_done (by kernel_rfl) ?_ _
  have HE := Lib.hid (act_end (c0 := .slice A1 D.n C1) (c1 := .slice A2 D.wt.length C2) (c2 := .int .i64 D.left) HDd.out (HV.out.stay (R' := [] ++ R) (HDd.out.sub fun r hr => box_R r hr) fun r hr => hr) (fun r hr => by cases hr) HLt.out HSz.out)
  go_wp2_with fail
  refine bodyPost_ret (results_two rfl (by rfl) (by rfl) (rf_load HE.out.1)) rfl ?_
  exact ⟨_, _, rfl, HE.out.2.1, HE.out.2.2⟩

set_option maxHeartbeats 16000000 in
theorem act_readFar (w0 w : World) (p : Nat) (D : DkM) (R : List (Nat × List Value)) (v : Value) (h : DStK Kp wk w0 w p D R) (hpl : D.pl) (hfew : D.wt.length < 1000000) (hv : RfV w (inR R) v D) (ka mo by_ : Int) (kA : Option Addr) (kC : Nat) (keep : List Bool) (hk : (D.n : Int) ≤ ka) :
    Calls Try.prog 12 #[.pointer (some ⟨p, 0, none⟩), v, .agg #[.int .i64 1, .int .i64 ka, .int .i64 mo, .int .u8 by_, .slice kA keep.length kC]] w (ActP Kp wk w0 p (D) R) := by
  have HOk := Lib.hid h.ok
  have HPl := Lib.hid hpl
  have HFew := Lib.hid hfew
  have HLt : Hid (∀ r ∈ R, r.1 < w.heap.size) := fun r hr => h.lt hr
  have HSz : Hid (w0.heap.size ≤ w.heap.size) := h.size
  obtain ⟨A1, C1, A2, C2, rfl, q1, q2⟩ := hv
  have hv : RfV w (inR R) (.agg #[.slice A1 D.n C1, .slice A2 D.wt.length C2, .int .i64 D.left]) D := ⟨A1, C1, A2, C2, rfl, q1, q2⟩
  have HV := Lib.hid hv
  obtain ⟨W, hW⟩ : ∃ W, W = ((w.alloc (.cells #[.slice A1 D.n C1, .slice A2 D.wt.length C2, .int .i64 D.left] 30)).alloc (.cells #[.int .i64 1, .int .i64 ka, .int .i64 mo, .int .u8 by_, .slice kA keep.length kC] 40)).alloc (.cells #[.slice none 0 0, .slice none 0 0, .int .i64 0] 30) := ⟨_, rfl⟩
  have HWz : Hid (W.heap.size = w.heap.size + 3) := by rw [Hid, hW]; simp
  have HD0 : Hid (DStK Kp wk w0 W p D ([] ++ (boxA w.heap.size [.slice A1 D.n C1, .slice A2 D.wt.length C2, .int .i64 D.left] [.int .i64 1, .int .i64 ka, .int .i64 mo, .int .u8 by_, .slice kA keep.length kC] ++ R))) := by rw [hW]; exact act_start h _ _ _ _
  have HW := Lib.hid hW
  clear h hpl hfew hv q1 q2 hW
  have hneg : 0 ≤ ka := by have := HOk.out.n1; omega
  have hfar : ¬ ka < (D.n : Int) := by omega
  have HH : Hid (hasS D.n ka = false) := by
    unfold Hid hasS
    simp only [Bool.and_eq_false_iff, decide_eq_false_iff_not]
    omega
  clear hk
  obtain ⟨x0, x1, x2, x3, x4⟩ := r5 (HD0.out.row box_x)
  go_enter Try.func12, Try.ntmps12
  go_upto_region 1 with fail
  rw [← HW.out]
  go_wp2_with fail
  refine (HD0.out.lies4 ka HH.out).mono ?_
  rintro e w1 ⟨rfl, hd1⟩
  have HD1 := Lib.hid hd1
  clear x0 x1 x2 x3 x4 hd1
  obtain ⟨x0, x1, x2, x3, x4⟩ := r5 (HD1.out.row box_x)
  obtain ⟨⟨z0, z1, z2⟩, _⟩ := r3 (HD1.out.row box_w)
  go_upto_region 25 with fail
  go_wp2_with fail
  refine (HD1.out.read4 ka HH.out).mono ?_
  rintro e w2 ⟨rfl, hd2⟩
  have HD2 := Lib.hid hd2
  clear x0 x1 x2 x3 x4 z0 z1 z2 hd2
  obtain ⟨x0, x1, x2, x3, x4⟩ := r5 (HD2.out.row box_x)
  obtain ⟨⟨z0, z1, z2⟩, _⟩ := r3 (HD2.out.row box_w)
  go_upto_region 29 with fail
  clear x0 x1 x2 x3 x4 z0 z1 z2
  obtain ⟨wd, hwd⟩ : ∃ wd, wd = w2.drew := ⟨_, rfl⟩
  have HDd : Hid (DStK Kp wk w0 wd p D ([] ++ (boxA w.heap.size [.slice A1 D.n C1, .slice A2 D.wt.length C2, .int .i64 D.left] [.int .i64 1, .int .i64 ka, .int .i64 mo, .int .u8 by_, .slice kA keep.length kC] ++ R))) := by rw [hwd]; exact HD2.out.drew
  have HWd := Lib.hid hwd
  clear hwd
  refine wp_region_T (fun w' => w'.cell? ⟨w.heap.size, 0, none⟩ = some (.slice A1 D.n C1) ∧ w'.cell? ⟨w.heap.size, 1, none⟩ = some (.slice A2 D.wt.length C2) ∧ w'.cell? ⟨w.heap.size, 2, none⟩ = some (.int .i64 D.left)) 10 (by kernel_rfl) ?_
  rw [← HWd.out]
  refine wpAnyT_take (i := 0) (v := ?_) rfl (by kernel_rfl) (by kernel_rfl) (by kernel_rfl) (by kernel_rfl) (fun _ _ _ h => h) (Or.inl ⟨by rfl, ?_⟩) ((r3 (HDd.out.row box_w)).1) ?_
  rotate_left
  · intro w hSw
    (try dsimp only at hSw)
    go_simp
    all_goals with_reducible rfl
  simp only [Act.put, List.setIfInBounds_toArray, List.set_cons_zero, List.set_cons_succ]
  refine wpAnyT_take (i := 1) (v := ?_) rfl (by kernel_rfl) (by kernel_rfl) (by kernel_rfl) (by kernel_rfl) (fun _ _ _ h => h) (Or.inl ⟨by rfl, ?_⟩) ((r3 (HDd.out.row box_w)).1) ?_
  rotate_left
  · intro w hSw
    (try dsimp only at hSw)
    go_simp
    all_goals with_reducible rfl
  simp only [Act.put, List.setIfInBounds_toArray, List.set_cons_zero, List.set_cons_succ]
  refine wpAnyT_take (i := 2) (v := ?_) rfl (by kernel_rfl) (by kernel_rfl) (by kernel_rfl) (by kernel_rfl) (fun _ _ _ h => h) (Or.inl ⟨by rfl, ?_⟩) ((r3 (HDd.out.row box_w)).1) ?_
  rotate_left
  · intro w hSw
    (try dsimp only at hSw)
    go_simp
    all_goals with_reducible rfl
  simp only [Act.put, List.setIfInBounds_toArray, List.set_cons_zero, List.set_cons_succ]
  refine wpAnyT_take (i := 3) (v := ?_) rfl (by kernel_rfl) (by kernel_rfl) (by kernel_rfl) (by kernel_rfl) (fun _ _ _ h => h) (Or.inl ⟨by rfl, ?_⟩) ((r3 (HDd.out.row box_w)).1) ?_
  rotate_left
  · intro w hSw
    (try dsimp only at hSw)
    go_simp
    all_goals with_reducible rfl
  simp only [Act.put, List.setIfInBounds_toArray, List.set_cons_zero, List.set_cons_succ]
  refine wpAnyT_take (i := 4) (v := ?_) rfl (by kernel_rfl) (by kernel_rfl) (by kernel_rfl) (by kernel_rfl) (fun _ _ _ h => h) (Or.inl ⟨by rfl, ?_⟩) ((r3 (HDd.out.row box_w)).1) ?_
  rotate_left
  · intro w hSw
    (try dsimp only at hSw)
    go_simp
    all_goals with_reducible rfl
  simp only [Act.put, List.setIfInBounds_toArray, List.set_cons_zero, List.set_cons_succ]
  refine wpAnyT_take (i := 5) (v := ?_) rfl (by kernel_rfl) (by kernel_rfl) (by kernel_rfl) (by kernel_rfl) (fun _ _ _ h => h) (Or.inl ⟨by rfl, ?_⟩) ((r3 (HDd.out.row box_w)).1) ?_
  rotate_left
  · intro w hSw
    (try dsimp only at hSw)
    go_simp
    all_goals with_reducible rfl
  simp only [Act.put, List.setIfInBounds_toArray, List.set_cons_zero, List.set_cons_succ]
  refine wpAnyT_one (i := 6) (by kernel_rfl) rfl (fun K hK => ?_)
  go_simp
  refine (dknum_any 4 _).mono ?_
  rintro e9 w9 ⟨rfl, h9⟩
  rw [← h9]
  clear h9 w9
  refine hK.out _ _ (fun _ => (r3 (HDd.out.row box_w)).1) ?_
  clear hK K
  try simp only [Act.put, List.setIfInBounds_toArray, List.set_cons_zero, List.set_cons_succ]
  refine wpAnyT_take (i := 7) (v := ?_) rfl (by kernel_rfl) (by kernel_rfl) (by kernel_rfl) (by kernel_rfl) (fun _ _ _ h => h) (Or.inl ⟨by rfl, ?_⟩) ((r3 (HDd.out.row box_w)).1) ?_
  rotate_left
  · intro w hSw
    (try dsimp only at hSw)
    go_simp
    all_goals with_reducible rfl
  simp only [Act.put, List.setIfInBounds_toArray, List.set_cons_zero, List.set_cons_succ]
  refine wpAnyT_take (i := 8) (v := ?_) rfl (by kernel_rfl) (by kernel_rfl) (by kernel_rfl) (by kernel_rfl) (fun _ _ _ h => h) (Or.inl ⟨by rfl, ?_⟩) ((r3 (HDd.out.row box_w)).1) ?_
  rotate_left
  · intro w hSw
    (try dsimp only at hSw)
    go_simp
    all_goals with_reducible rfl
  simp only [Act.put, List.setIfInBounds_toArray, List.set_cons_zero, List.set_cons_succ]
  refine wpAnyT_one (i := 9) (by kernel_rfl) rfl (fun K hK => ?_)
  obtain ⟨⟨y0, y1, y2⟩, f0, f1, f2⟩ := r3 (HDd.out.row box_r)
  go_simp
  refine hK.out _ _ (fun _ => (r3 (set3_other (HDd.out.row box_w) (by omega) _ _ _)).1) ?_
  clear hK K
  try simp only [Act.put, List.setIfInBounds_toArray, List.set_cons_zero, List.set_cons_succ]
  refine wpAnyT_one (i := 10) (by kernel_rfl) rfl (fun K hK => ?_)
  go_simp
  refine hK.out _ _ (fun h => absurd h (by decide)) ?_
  clear hK K
  try simp only [Act.put, List.setIfInBounds_toArray, List.set_cons_zero, List.set_cons_succ]
  refine wpAnyT_done (by kernel_rfl) ?_ _
  have HE := Lib.hid (act_end (c0 := .slice A1 D.n C1) (c1 := .slice A2 D.wt.length C2) (c2 := .int .i64 D.left) HDd.out (HV.out.stay (R' := [] ++ R) (HDd.out.sub fun r hr => box_R r hr) fun r hr => hr) (fun r hr => by cases hr) HLt.out HSz.out)
  go_wp2_with fail
  refine bodyPost_ret (results_two rfl (by rfl) (by rfl) (rf_load HE.out.1)) rfl ?_
  exact ⟨_, _, rfl, HE.out.2.1, HE.out.2.2⟩

/-- A call that the law may make. -/
structure ActOk (w0 : World) (what ka mo : Int) (kA : Option Addr) (keep : List Bool) : Prop where
  rka : -9223372036854775808 ≤ ka ∧ ka < 9223372036854775808
  rmo : -9223372036854775808 ≤ mo ∧ mo < 9223372036854775808
  rd : RdT w0 w0.heap.size kA keep
  few : keep.length ≤ 60
  more : what = 0 → mo ≤ 100

theorem act_any (w0 w : World) (p : Nat) (D : DkM) (R : List (Nat × List Value)) (v : Value) (h : DStK Kp wk w0 w p D R) (hpl : D.pl) (hfew : D.wt.length < 1000000) (hv : RfV w (inR R) v D) (what ka mo : Int) (bt : UInt8) (kA : Option Addr) (kC : Nat) (keep : List Bool) (hx : ActOk w0 what ka mo kA keep) :
    Calls Try.prog 12 #[.pointer (some ⟨p, 0, none⟩), v, .agg #[.int .i64 what, .int .i64 ka, .int .i64 mo, .int .u8 (bt.toNat : Int), .slice kA keep.length kC]] w (ActP Kp wk w0 p (nextM D what ka mo bt keep) R) := by
  by_cases h0 : what = 0
  · subst h0
    have e : nextM D 0 ka mo bt keep = if D.wrE ka (actB mo bt).length = 0 then D.wrote ka (actB mo bt) else D := rfl
    rw [e]
    by_cases hm : 0 < mo
    · have hmo := hx.more rfl
      obtain ⟨n, hn⟩ : ∃ n : Nat, mo = (n : Int) + 1 := ⟨(mo - 1).toNat, by omega⟩
      have e2 : actB mo bt = List.replicate n 0 := by
        unfold actB
        rw [if_pos hm, hn]
        congr 1
        omega
      rw [e2]
      exact act_writeM w0 w p D R v h hpl hfew hv ka mo bt kA kC keep hx.rka n hn (by omega)
    · have e2 : actB mo bt = fullB bt := by unfold actB; rw [if_neg hm]
      rw [e2]
      exact act_writeF w0 w p D R v h hpl hfew hv ka mo bt kA kC keep hx.rka (by omega)
  by_cases h2 : what = 2
  · subst h2
    have e : nextM D 2 ka mo bt keep = if D.left = 0 then D else D.synced := rfl
    rw [e]
    exact act_sync w0 w p D R v h hpl hfew hv ka mo _ kA kC keep
  by_cases h3 : what = 3
  · subst h3
    have e : nextM D 3 ka mo bt keep = D.crashed keep := rfl
    rw [e]
    exact act_crash w0 w p D R v h hpl hfew hv ka mo _ kA kC keep hx.rd hx.few
  by_cases h4 : what = 4
  · subst h4
    have e : nextM D 4 ka mo bt keep = D.armM mo := rfl
    rw [e]
    exact act_arm w0 w p D R v h hpl hfew hv ka mo _ kA kC keep hx.rmo
  have e : nextM D what ka mo bt keep = D := by unfold nextM; rw [if_neg h0, if_neg h2, if_neg h3, if_neg h4]
  rw [e]
  by_cases h1 : what = 1
  · subst h1
    by_cases hn : ka < 0
    · exact act_readNeg w0 w p D R v h hpl hfew hv ka mo _ kA kC keep hn
    by_cases hf : (D.n : Int) ≤ ka
    · exact act_readFar w0 w p D R v h hpl hfew hv ka mo _ kA kC keep hf
    obtain ⟨k, rfl⟩ : ∃ k : Nat, ka = k := ⟨ka.toNat, by omega⟩
    exact act_read w0 w p D R v h hpl hfew hv mo _ kA kC keep k (by omega)
  · by_cases hn : ka < 0
    · exact act_liesNeg w0 w p D R v h hpl hfew hv what ka mo _ kA kC keep hn ⟨h0, h1, h2, h3, h4⟩
    by_cases hf : (D.n : Int) ≤ ka
    · exact act_liesFar w0 w p D R v h hpl hfew hv what ka mo _ kA kC keep hf ⟨h0, h1, h2, h3, h4⟩
    obtain ⟨k, rfl⟩ : ∃ k : Nat, ka = k := ⟨ka.toNat, by omega⟩
    exact act_lies w0 w p D R v h hpl hfew hv what mo _ kA kC keep k (by omega) ⟨h0, h1, h2, h3, h4⟩

end Go.Proofs.Ytekeooeapiodmaa
