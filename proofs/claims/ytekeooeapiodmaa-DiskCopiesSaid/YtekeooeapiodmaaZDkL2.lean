/- Package disk: the law's is. -/
import Derived.Test.YtekeooeapiodmaaZDkL1
import Derived.Test.YtekeooeapiodmaaZKf
namespace Go.Proofs.Ytekeooeapiodmaa
open Go Go.RowKit Go.Shelf
set_option linter.unusedSimpArgs false
set_option linter.unusedVariables false
set_option maxRecDepth 100000

attribute [local go_sem] Oper.semAt_some

variable {Kp : Nat → Prop} {wk : World}

theorem RfV.put {w : World} {N : Nat → List Value → Prop} {A1 A2 : Option Addr} {n C1 m C2 : Nat} {l : Int} {D : DkM} (h : RfV w N (.agg #[.slice A1 n C1, .slice A2 m C2, .int .i64 l]) D) : RdO w N A2 (putsL D.wt) := by
  obtain ⟨A3, C3, A4, C4, e, _, h1⟩ := h
  injection e with e
  injection e with e
  injection e with _ e
  injection e with e _
  injection e with e
  rw [e]
  exact h1
/-- The place of a write. -/
def zAt (l : List (Int × List UInt8)) (k : Nat) : Int := ((l[k]?).map (·.1)).getD 0
theorem zAt_eq {l : List (Int × List UInt8)} {k : Nat} {x : Int × List UInt8} (h : l[k]? = some x) : zAt l k = x.1 := by simp [zAt, h]
/-- What Waits answers, to be gone over. -/
theorem waits_goes {D : DkM} {w w' : World} {b : Nat} {v : Value} (hfew : D.wt.length ≤ 140737488355328) (hc : w'.cell? ⟨b, 0, none⟩ = some v) (hv : OwnV w' w.heap.size 3 v (atL D.wt)) (hb : b < w'.heap.size) :
    ∃ S : Nat → Prop, (∀ b, S b → w.heap.size ≤ b ∧ b < w'.heap.size) ∧ ∀ X, Below w'.heap.size w' X → GoesO Try.prog 40 #[.pointer (some ⟨b, 0, none⟩)] (fun k => #[.int .i64 (k : Nat), .int .i64 (zAt D.wt k)]) S D.wt.length X := by
  have hlen : (atL D.wt).length = D.wt.length := by simp [atL]
  obtain ⟨A, C, rfl⟩ : ∃ A C, v = .slice A D.wt.length C := by
    obtain ⟨A, C, h⟩ := own_slice hv
    rw [hlen] at h
    exact ⟨A, C, h⟩
  have hp : ∀ X, Below w'.heap.size w' X → PlAt X (fun g => A = some ⟨g, 0, none⟩ ∧ w.heap.size ≤ g ∧ g < w'.heap.size) A D.wt.length (zAt D.wt) := fun X hX k hk => by
    rcases hv.form with ⟨e, h0⟩ | ⟨g, cap, e, hg, hl, _, _, hcc, _⟩
    · rw [h0] at hlen; simp at hlen; omega
    · injection e with e
      subst e
      obtain ⟨x, hx⟩ : ∃ x, D.wt[k]? = some x := ⟨_, List.getElem?_eq_getElem hk⟩
      refine ⟨g, rfl, ⟨rfl, hg, hl⟩, Nat.lt_of_lt_of_le hl hX.size, (hX.cell (p := ⟨g, k, none⟩) hl).trans ?_⟩
      rw [hcc k (by rw [hlen]; exact hk), zAt_eq hx]
      simp [atL, hx]
  exact ⟨_, fun b h => h.2, fun X hX => waits2_goes b _ A C D.wt.length (zAt D.wt) X hfew (Nat.lt_of_lt_of_le hb hX.size) (fun b h => Nat.lt_of_lt_of_le h.2.2 hX.size) ((hX.cell (p := ⟨b, 0, none⟩) hb).trans hc) (hp X hX)⟩
/-- All below n lies as it lay, but block M. -/
def ButD (n M : Nat) (w0 X : World) : Prop := ButS n (· = M) w0 X
theorem butD_own {B n M : Nat} {w0 : World} (hB : n ≤ B) (h0 : n ≤ w0.heap.size) : OwnFrom B (fun (_ : Nat) X => ButD n M w0 X) := fun s X Y row hs hg hr =>
  ⟨hg.os.trans hs.os, hg.tape.trans hs.tape, hg.output.trans hs.output, Nat.le_trans hs.size hg.size, fun j hj hne => (hg.block j (by have := hs.size; omega) (fun e => by have := (hr j e.symm).1; omega)).trans (hs.block j hj hne)⟩
/-- A row that is none of the disk's may be turned. -/
theorem DStK.but {w0 w w' : World} {p : Nat} {D : DkM} {R : List (Nat × List Value)} {M : Nat} {vs : List Value} (h : DStK Kp wk w0 w p D ((M, vs) :: R)) (hM : w0.heap.size ≤ M) (hne : ∀ r ∈ R, r.1 ≠ M) (hb : ButD w.heap.size M w w') : DStK Kp wk w0 w' p D R := by
  obtain ⟨S, hd, hk, hS, hB, hR, hK⟩ := h
  obtain ⟨_, hn, _⟩ := hR _ (List.mem_cons_self ..)
  refine ⟨S, hd.kept (fun b h1 h2 => hb.block b h2 (by rintro rfl; exact hn h1)) fun _ h => h, hk, fun b h => ⟨(hS b h).1, Nat.lt_of_lt_of_le (hS b h).2 hb.size⟩, ?_, fun r hr => ?_, fun b hbk => ?_⟩
  · exact hB.trans (ButS.below hb hB.size fun k hk => by rw [hk]; exact hM)
  · obtain ⟨h1, h2, h3⟩ := hR r (List.mem_cons_of_mem _ hr)
    exact ⟨h1.kept (hb.block _ h3 (hne r hr)), h2, Nat.lt_of_lt_of_le h3 hb.size⟩
  · obtain ⟨k1, k2, k3, k4⟩ := hK b hbk
    exact ⟨(hb.block b k3 (Ne.symm (k4 _ (List.mem_cons_self ..)))).trans k1, k2, Nat.lt_of_lt_of_le k3 hb.size, fun r hr => k4 r (List.mem_cons_of_mem _ hr)⟩
/-- Rows that are none of the disk's may be turned. -/
theorem DStK.buts {w0 w w' : World} {p : Nat} {D : DkM} {Q R : List (Nat × List Value)} {M : Nat → Prop} (h : DStK Kp wk w0 w p D Q) (hM : ∀ b, M b → w0.heap.size ≤ b ∧ ∃ vs, (b, vs) ∈ Q) (hR : ∀ r ∈ R, r ∈ Q ∧ ¬ M r.1) (hb : ButS w.heap.size M w w') : DStK Kp wk w0 w' p D R := by
  obtain ⟨S, hd, hk, hS, hB, hQ, hK⟩ := h
  refine ⟨S, hd.kept (fun b h1 h2 => hb.block b h2 (fun hm => by
    obtain ⟨_, vs, hq⟩ := hM b hm
    exact (hQ _ hq).2.1 h1)) fun _ h => h, hk, fun b h => ⟨(hS b h).1, Nat.lt_of_lt_of_le (hS b h).2 hb.size⟩, hB.trans (ButS.below hb hB.size fun k hk => (hM k hk).1), fun r hr => ?_, fun b hbk => ?_⟩
  · obtain ⟨h1, h2, h3⟩ := hQ r (hR r hr).1
    exact ⟨h1.kept (hb.block _ h3 (hR r hr).2), h2, Nat.lt_of_lt_of_le h3 hb.size⟩
  · obtain ⟨k1, k2, k3, k4⟩ := hK b hbk
    refine ⟨(hb.block b k3 (fun hm => ?_)).trans k1, k2, Nat.lt_of_lt_of_le k3 hb.size, fun r hr => k4 r (hR r hr).1⟩
    obtain ⟨_, vs, hq⟩ := hM b hm
    exact k4 _ hq rfl
theorem buts_put {B : Nat} {M : Nat → Prop} {w0 w : World} (h : ButS B M w0 w) {d : Nat} (hd : B ≤ d) (hB : B ≤ w.heap.size) (o : Obj) : ButS B M w0 (w.putObj d o) := by
  have hg := grownBy_putObj' w d o
  exact ⟨hg.os.trans h.os, hg.tape.trans h.tape, hg.output.trans h.output, Nat.le_trans h.size hg.size, fun k hk hn => (hg.block k (by omega) (fun e => by injection e with e; omega)).trans (h.block k hk hn)⟩
theorem DStK.waits {w0 w : World} {p : Nat} {D : DkM} {R : List (Nat × List Value)} (h : DStK Kp wk w0 w p D R) :
    Calls Try.prog 15 #[.pointer (some ⟨p, 0, none⟩)] w fun e w' => ∃ b, e = .returned (.func (.func 40) #[] #[.pointer (some ⟨b, 0, none⟩)]) ∧ DStK Kp wk w0 w' p D R ∧ Below w.heap.size w w' ∧
      ∃ S : Nat → Prop, (∀ b, S b → w.heap.size ≤ b ∧ b < w'.heap.size) ∧ ∀ X, Below w'.heap.size w' X → GoesO Try.prog 40 #[.pointer (some ⟨b, 0, none⟩)] (fun k => #[.int .i64 (k : Nat), .int .i64 (zAt D.wt k)]) S D.wt.length X := by
  have h1 := h
  obtain ⟨S, hd, hok, hS, hB, hR⟩ := h
  refine (waits_any S p D hok w hd).mono ?_
  rintro e w' ⟨b, v, rfl, hc, hv, _, hl, hb⟩
  exact ⟨b, rfl, h1.on hb, hb, waits_goes (by have := hok.few; omega) hc hv hl⟩
theorem DStK.len {w0 w : World} {p : Nat} {D : DkM} {R : List (Nat × List Value)} (h : DStK Kp wk w0 w p D R) :
    Calls Try.prog 11 #[.pointer (some ⟨p, 0, none⟩)] w fun e w' => e = .returned (.int .i64 D.n) ∧ DStK Kp wk w0 w' p D R ∧ Below w.heap.size w w' := by
  have h1 := h
  obtain ⟨S, hd, hok, hS, hB, hR⟩ := h
  refine (len_any S p D hok w hd).mono ?_
  rintro e w' ⟨rfl, hb⟩
  exact ⟨rfl, h1.on hb, hb⟩
theorem bool_load {w : World} {b : Nat} {q : Bool} (h : w.cell? ⟨b, 0, none⟩ = some (.bool q)) : (loadVar 4 ⟨b, 0, none⟩).run Try.prog w = .ok (.bool q) w := by go_simp

set_option maxHeartbeats 16000000 in
theorem is_any (w0 w : World) (p : Nat) (D : DkM) (R : List (Nat × List Value)) (v : Value) (h : DStK Kp wk w0 w p D R) (hfew : D.wt.length < 1000000) (hv : RfV w (inR R) v D) :
    Calls Try.prog 13 #[.pointer (some ⟨p, 0, none⟩), v] w fun e w' => e = .returned (.bool true) ∧ DStK Kp wk w0 w' p D R ∧ Below w.heap.size w w' := by
  have HOk := Lib.hid h.ok
  have HFew := Lib.hid hfew
  have HLt : Hid (∀ r ∈ R, r.1 < w.heap.size) := fun r hr => h.lt hr
  have HSz : Hid (w0.heap.size ≤ w.heap.size) := h.size
  obtain ⟨A1, C1, A2, C2, rfl, q1, q2⟩ := hv
  have hv : RfV w (inR R) (.agg #[.slice A1 D.n C1, .slice A2 D.wt.length C2, .int .i64 D.left]) D := ⟨A1, C1, A2, C2, rfl, q1, q2⟩
  have HV := Lib.hid hv
  obtain ⟨W, hW⟩ : ∃ W, W = (w.alloc (.cells #[.slice A1 D.n C1, .slice A2 D.wt.length C2, .int .i64 D.left] 30)).alloc (.cells #[.bool false] 4) := ⟨_, rfl⟩
  have HWz : Hid (W.heap.size = w.heap.size + 2) := by rw [Hid, hW]; simp
  have HB0 : Hid (Below w.heap.size w W) := by rw [hW]; exact below_al (below_al (Below.refl _ _) _) _
  have HD0 : Hid (DStK Kp wk w0 W p D ((w.heap.size + 1, [.bool false]) :: (w.heap.size, [.slice A1 D.n C1, .slice A2 D.wt.length C2, .int .i64 D.left]) :: R)) := by
    rw [hW]
    have h3 := (h.alloc1 [.slice A1 D.n C1, .slice A2 D.wt.length C2, .int .i64 D.left] 30).alloc1 [.bool false] 4
    rw [World.size_alloc] at h3
    exact h3
  have HW := Lib.hid hW
  have HL64 : Hid (∀ j : Int, (D.lie j).length = 64 ∧ (D.shown j).length = 64) := fun j => ⟨HOk.out.lie j, shown_len HOk.out j⟩
  have HN1 : Hid (D.n ≤ 4096) := HOk.out.n2
  obtain ⟨n, hn⟩ : ∃ n, n = D.n := ⟨_, rfl⟩
  have HNn := Lib.hid hn
  obtain ⟨m, hm⟩ : ∃ m, m = D.wt.length := ⟨_, rfl⟩
  have HMm := Lib.hid hm
  clear h hfew hv q1 q2 hW hn hm
  refine calls_of_marks Try.func13 rfl ?_
  simp only [Try.ntmps13, List.size_toArray, List.length_cons, List.length_nil, Nat.reduceAdd, Nat.reduceSub, Array.replicate_succ, Array.replicate_zero, List.push_toArray, List.append_toArray, List.nil_append, List.cons_append]
  go_upto_region 1 with fail
  rw [← HW.out]
  go_wp2_with fail
  go_loopw [5] (fun v5 wr => ∃ i : Nat, i ≤ n ∧ v5 = .int .i64 i ∧ Hid (DStK Kp wk w0 wr p D ((w.heap.size + 1, [.bool false]) :: (w.heap.size, [.slice A1 D.n C1, .slice A2 D.wt.length C2, .int .i64 D.left]) :: R) ∧ Below w.heap.size w wr)) (fun v5 _ => n - (intOf v5).toNat)
  case atStart => exact ⟨0, Nat.zero_le _, rfl, HD0.out, HB0.out⟩
  case round =>
    obtain ⟨i, hi, rfl, HI⟩ := hrel
    obtain ⟨⟨z0, z1, z2⟩, _⟩ := r3 (HI.out.1.row (List.mem_cons_of_mem _ (List.mem_cons_self ..)))
    rw [← HNn.out] at z0
    by_cases hlt : i < n
    · have hltI : (i : Int) < (n : Int) := by omega
      have hms := mless hlt
      have HK : Hid (i < D.n) := Lib.hid (show i < D.n by rw [← HNn.out]; exact hlt)
      have hnb : n ≤ 4096 := by have := HN1.out; have := HNn.out; omega
      go_upto_region 4 with fail
      clear z0 z1 z2
      go_wp2_with fail
      refine (HI.out.1.lies3 (i : Nat) (has_nat HK.out)).mono ?_
      rintro e w1 ⟨g, n1, rfl, hn, hn64, hg, hd1, hb1⟩
      have HN := Lib.hid hn
      have HD1 := Lib.hid hd1
      have HB1 := Lib.hid (below_on HI.out.2 hb1)
      clear hn hn64 hg hd1 hb1
      go_wp2_with fail
      refine (HD1.out.read3 (i : Nat) (has_nat HK.out)).mono ?_
      rintro e w2 ⟨g9, n9, rfl, hn, hn64, hg, hd2, hb2⟩
      have HN9 := Lib.hid hn
      have HD2 := Lib.hid hd2
      have HB2 := Lib.hid (below_on HB1.out hb2)
      clear hn hn64 hg hd2 hb2
      go_upto_region 6 with fail
      obtain ⟨wd, hwd⟩ : ∃ wd, wd = w2.drew := ⟨_, rfl⟩
      have HDd : Hid (DStK Kp wk w0 wd p D ((g9, (D.shown (i : Nat)).map encB) :: (g, (D.lie (i : Nat)).map encB) :: ((w.heap.size + 1, [.bool false]) :: (w.heap.size, [.slice A1 D.n C1, .slice A2 D.wt.length C2, .int .i64 D.left]) :: R))) := by rw [hwd]; exact HD2.out.drew
      have HBd : Hid (Below w.heap.size w wd) := by rw [hwd]; exact HB2.out.drew
      have HVd : Hid (RfV wd (inR R) (.agg #[.slice A1 D.n C1, .slice A2 D.wt.length C2, .int .i64 D.left]) D) := HV.out.stay (R' := R) (HDd.out.sub fun r hr => List.mem_cons_of_mem _ (List.mem_cons_of_mem _ (List.mem_cons_of_mem _ (List.mem_cons_of_mem _ hr)))) fun r hr => hr
      obtain ⟨g1, hA1, c0⟩ := rdO_at HVd.out.lie (lieL_at D.lie HK.out)
      have HS : Hid (∀ X, Below wd.heap.size wd X → (X.cell? ⟨w.heap.size, 0, none⟩ = some (.slice (some ⟨g1, 0, none⟩) n C1) ∧ X.cell? ⟨w.heap.size, 1, none⟩ = some (.slice A2 D.wt.length C2) ∧ X.cell? ⟨w.heap.size, 2, none⟩ = some (.int .i64 D.left)) ∧ X.cell? ⟨g1, i, none⟩ = some (strV (D.lie (i : Nat))) ∧
          (convert 57 9 (.slice (some ⟨g, 0, none⟩) n1 n1)).run Try.prog X = .ok (.string (txt (D.lie (i : Nat)))) X ∧ (convert 57 9 (.slice (some ⟨g9, 0, none⟩) n9 n9)).run Try.prog X = .ok (.string (txt (D.shown (i : Nat)))) X) := fun X hX => by
        have hd := HDd.out.on hX
        obtain ⟨⟨z0, z1, z2⟩, _⟩ := r3 (hd.row (List.mem_cons_of_mem _ (List.mem_cons_of_mem _ (List.mem_cons_of_mem _ (List.mem_cons_self ..)))))
        rw [← HNn.out, hA1] at z0
        exact ⟨⟨z0, z1, z2⟩, (hX.cell (p := ⟨g1, i, none⟩) (World.block_lt_of_cell? wd _ c0)).trans c0, rowB_text (hd.row (List.mem_cons_of_mem _ (List.mem_cons_self ..))) (hd.lt (List.mem_cons_of_mem _ (List.mem_cons_self ..))) HN.out, rowB_text (hd.row (List.mem_cons_self ..)) (hd.lt (List.mem_cons_self ..)) HN9.out⟩
      have F : Below wd.heap.size wd wd := Below.refl _ _
      have HWd := Lib.hid hwd
      have HVc : Hid (RfV wd (inR R) (.agg #[.slice (some ⟨g1, 0, none⟩) n C1, .slice A2 D.wt.length C2, .int .i64 D.left]) D) := by
        have h := HVd.out
        rw [hA1, ← HNn.out] at h
        exact h
      clear hwd hA1 c0
      refine wp_onlyN ?_
      refine wp_region_T (fun X => (X.cell? ⟨w.heap.size, 0, none⟩ = some (.slice (some ⟨g1, 0, none⟩) n C1) ∧ X.cell? ⟨w.heap.size, 1, none⟩ = some (.slice A2 D.wt.length C2) ∧ X.cell? ⟨w.heap.size, 2, none⟩ = some (.int .i64 D.left)) ∧ X.cell? ⟨g1, i, none⟩ = some (strV (D.lie (i : Nat))) ∧ (convert 57 9 (.slice (some ⟨g, 0, none⟩) n1 n1)).run Try.prog X = .ok (.string (txt (D.lie (i : Nat)))) X ∧ (convert 57 9 (.slice (some ⟨g9, 0, none⟩) n9 n9)).run Try.prog X = .ok (.string (txt (D.shown (i : Nat)))) X) 24 (by kernel_rfl) ?_
      rw [← HWd.out]
      refine wpAnyT_take (i := 0) (v := ?_) rfl (by kernel_rfl) (by kernel_rfl) (by kernel_rfl) (by kernel_rfl) (fun _ _ _ h => h) (Or.inl ⟨by rfl, ?_⟩) (HS.out _ F) ?_
      rotate_left
      · intro w hSw
        (try dsimp only at hSw)
        go_simp
        all_goals with_reducible rfl
      simp only [Act.put, List.setIfInBounds_toArray, List.set_cons_zero, List.set_cons_succ]
      refine wpAnyT_take (i := 1) (v := ?_) rfl (by kernel_rfl) (by kernel_rfl) (by kernel_rfl) (by kernel_rfl) (fun _ _ _ h => h) (Or.inl ⟨by rfl, ?_⟩) (HS.out _ F) ?_
      rotate_left
      · intro w hSw
        (try dsimp only at hSw)
        go_simp
        all_goals with_reducible rfl
      simp only [Act.put, List.setIfInBounds_toArray, List.set_cons_zero, List.set_cons_succ]
      refine wpAnyT_take (i := 2) (v := ?_) rfl (by kernel_rfl) (by kernel_rfl) (by kernel_rfl) (by kernel_rfl) (fun _ _ _ h => h) (Or.inl ⟨by rfl, ?_⟩) (HS.out _ F) ?_
      rotate_left
      · intro w hSw
        (try dsimp only at hSw)
        go_simp
        all_goals with_reducible rfl
      simp only [Act.put, List.setIfInBounds_toArray, List.set_cons_zero, List.set_cons_succ]
      refine wpAnyT_take (i := 3) (v := ?_) rfl (by kernel_rfl) (by kernel_rfl) (by kernel_rfl) (by kernel_rfl) (fun _ _ _ h => h) (Or.inl ⟨by rfl, ?_⟩) (HS.out _ F) ?_
      rotate_left
      · intro w hSw
        (try dsimp only at hSw)
        go_simp
        all_goals with_reducible rfl
      simp only [Act.put, List.setIfInBounds_toArray, List.set_cons_zero, List.set_cons_succ]
      refine wpAnyT_take (i := 4) (v := ?_) rfl (by kernel_rfl) (by kernel_rfl) (by kernel_rfl) (by kernel_rfl) (fun _ _ _ h => h) (Or.inl ⟨by rfl, ?_⟩) (HS.out _ F) ?_
      rotate_left
      · intro w hSw
        (try dsimp only at hSw)
        go_simp
        all_goals with_reducible rfl
      simp only [Act.put, List.setIfInBounds_toArray, List.set_cons_zero, List.set_cons_succ]
      refine wpAnyT_take (i := 5) (v := ?_) rfl (by kernel_rfl) (by kernel_rfl) (by kernel_rfl) (by kernel_rfl) (fun _ _ _ h => h) (Or.inl ⟨by rfl, ?_⟩) (HS.out _ F) ?_
      rotate_left
      · intro w hSw
        (try dsimp only at hSw)
        go_simp
        all_goals with_reducible rfl
      simp only [Act.put, List.setIfInBounds_toArray, List.set_cons_zero, List.set_cons_succ]
      refine wpAnyT_take (i := 6) (v := ?_) rfl (by kernel_rfl) (by kernel_rfl) (by kernel_rfl) (by kernel_rfl) (fun _ _ _ h => h) (Or.inl ⟨by rfl, ?_⟩) (HS.out _ F) ?_
      rotate_left
      · intro w hSw
        (try dsimp only at hSw)
        go_simp
        all_goals with_reducible rfl
      simp only [Act.put, List.setIfInBounds_toArray, List.set_cons_zero, List.set_cons_succ]
      refine wpAnyT_take (i := 7) (v := ?_) rfl (by kernel_rfl) (by kernel_rfl) (by kernel_rfl) (by kernel_rfl) (fun _ _ _ h => h) (Or.inl ⟨by rfl, ?_⟩) (HS.out _ F) ?_
      rotate_left
      · intro w hSw
        (try dsimp only at hSw)
        go_simp
        all_goals with_reducible rfl
      simp only [Act.put, List.setIfInBounds_toArray, List.set_cons_zero, List.set_cons_succ]
      refine wpAnyT_take (i := 8) (v := ?_) rfl (by kernel_rfl) (by kernel_rfl) (by kernel_rfl) (by kernel_rfl) (fun _ _ _ h => h) (Or.inl ⟨by rfl, ?_⟩) (HS.out _ F) ?_
      rotate_left
      · intro w hSw
        (try dsimp only at hSw)
        go_simp
        all_goals with_reducible rfl
      simp only [Act.put, List.setIfInBounds_toArray, List.set_cons_zero, List.set_cons_succ]
      refine wpAnyT_take (i := 9) (v := ?_) rfl (by kernel_rfl) (by kernel_rfl) (by kernel_rfl) (by kernel_rfl) (fun _ _ _ h => h) (Or.inl ⟨by rfl, ?_⟩) (HS.out _ F) ?_
      rotate_left
      · intro w hSw
        (try dsimp only at hSw)
        go_simp
        all_goals with_reducible rfl
      simp only [Act.put, List.setIfInBounds_toArray, List.set_cons_zero, List.set_cons_succ]
      refine wpAnyT_take (i := 10) (v := ?_) rfl (by kernel_rfl) (by kernel_rfl) (by kernel_rfl) (by kernel_rfl) (fun _ _ _ h => h) (Or.inl ⟨by rfl, ?_⟩) (HS.out _ F) ?_
      rotate_left
      · intro w hSw
        (try dsimp only at hSw)
        go_simp
        all_goals with_reducible rfl
      simp only [Act.put, List.setIfInBounds_toArray, List.set_cons_zero, List.set_cons_succ]
      refine wpAnyT_take (i := 11) (v := ?_) rfl (by kernel_rfl) (by kernel_rfl) (by kernel_rfl) (by kernel_rfl) (fun _ _ _ h => h) (Or.inl ⟨by rfl, ?_⟩) (HS.out _ F) ?_
      rotate_left
      · intro w hSw
        (try dsimp only at hSw)
        go_simp
        all_goals with_reducible rfl
      simp only [Act.put, List.setIfInBounds_toArray, List.set_cons_zero, List.set_cons_succ]
      refine wpAnyT_take (i := 12) (v := ?_) rfl (by kernel_rfl) (by kernel_rfl) (by kernel_rfl) (by kernel_rfl) (fun _ _ _ h => h) (Or.inl ⟨by rfl, ?_⟩) (HS.out _ F) ?_
      rotate_left
      · intro w hSw
        (try dsimp only at hSw)
        go_simp
        all_goals with_reducible rfl
      simp only [Act.put, List.setIfInBounds_toArray, List.set_cons_zero, List.set_cons_succ]
      refine wpAnyT_one (i := 13) (by kernel_rfl) rfl (fun K hK => ?_)
      go_simp
      refine (rread_any (inR R) D HN1.out (by have := HFew.out; omega) _ i HK.out wd HVc.out).mono ?_
      rintro e w3 ⟨rfl, hb3⟩
      have F3 : Below wd.heap.size wd w3 := hb3
      clear hb3
      refine hK.out _ _ (fun _ => (HS.out _ F3)) ?_
      clear hK K
      try simp only [Act.put, List.setIfInBounds_toArray, List.set_cons_zero, List.set_cons_succ]
      refine wpAnyT_take (i := 14) (v := ?_) rfl (by kernel_rfl) (by kernel_rfl) (by kernel_rfl) (by kernel_rfl) (fun _ _ _ h => h) (Or.inl ⟨by rfl, ?_⟩) (HS.out _ F3) ?_
      rotate_left
      · intro w hSw
        (try dsimp only at hSw)
        go_simp
        all_goals with_reducible rfl
      simp only [Act.put, List.setIfInBounds_toArray, List.set_cons_zero, List.set_cons_succ]
      refine wpAnyT_take (i := 15) (v := ?_) rfl (by kernel_rfl) (by kernel_rfl) (by kernel_rfl) (by kernel_rfl) (fun _ _ _ h => h) (Or.inl ⟨by rfl, ?_⟩) (HS.out _ F3) ?_
      rotate_left
      · intro w hSw
        (try dsimp only at hSw)
        go_simp
        all_goals with_reducible rfl
      simp only [Act.put, List.setIfInBounds_toArray, List.set_cons_zero, List.set_cons_succ]
      refine wpAnyT_take (i := 16) (v := ?_) rfl (by kernel_rfl) (by kernel_rfl) (by kernel_rfl) (by kernel_rfl) (fun _ _ _ h => h) (Or.inl ⟨by rfl, ?_⟩) (HS.out _ F3) ?_
      rotate_left
      · intro w hSw
        (try dsimp only at hSw)
        go_simp
        all_goals with_reducible rfl
      simp only [Act.put, List.setIfInBounds_toArray, List.set_cons_zero, List.set_cons_succ]
      refine wpAnyT_take (i := 17) (v := ?_) rfl (by kernel_rfl) (by kernel_rfl) (by kernel_rfl) (by kernel_rfl) (fun _ _ _ h => h) (Or.inl ⟨by rfl, ?_⟩) (HS.out _ F3) ?_
      rotate_left
      · intro w hSw
        (try dsimp only at hSw)
        go_simp
        all_goals with_reducible rfl
      simp only [Act.put, List.setIfInBounds_toArray, List.set_cons_zero, List.set_cons_succ]
      refine wpAnyT_take (i := 19) (v := ?_) rfl (by kernel_rfl) (by kernel_rfl) (by kernel_rfl) (by kernel_rfl) (fun _ _ _ h => h) (Or.inl ⟨by rfl, ?_⟩) (HS.out _ F3) ?_
      rotate_left
      · intro w hSw
        (try dsimp only at hSw)
        go_simp
        all_goals with_reducible rfl
      simp only [Act.put, List.setIfInBounds_toArray, List.set_cons_zero, List.set_cons_succ]
      refine wpAnyT_one (i := 18) (by kernel_rfl) rfl (fun K hK => ?_)
      go_simp
      refine (dknum_any 0 _).mono ?_
      rintro e9 w9 ⟨rfl, h9⟩
      rw [← h9]
      clear h9 w9
      refine hK.out _ _ (fun _ => (HS.out _ F3)) ?_
      clear hK K
      try simp only [Act.put, List.setIfInBounds_toArray, List.set_cons_zero, List.set_cons_succ]
      refine wpAnyT_one (i := 20) (by kernel_rfl) rfl (fun K hK => ?_)
      go_simp
      refine (dknum_any 0 _).mono ?_
      rintro e9 w9 ⟨rfl, h9⟩
      rw [← h9]
      clear h9 w9
      refine hK.out _ _ (fun _ => (HS.out _ F3)) ?_
      clear hK K
      try simp only [Act.put, List.setIfInBounds_toArray, List.set_cons_zero, List.set_cons_succ]
      refine wpAnyT_take (i := 21) (v := ?_) rfl (by kernel_rfl) (by kernel_rfl) (by kernel_rfl) (by kernel_rfl) (fun _ _ _ h => h) (Or.inl ⟨by rfl, ?_⟩) (HS.out _ F3) ?_
      rotate_left
      · intro w hSw
        (try dsimp only at hSw)
        go_simp
        all_goals with_reducible rfl
      simp only [Act.put, List.setIfInBounds_toArray, List.set_cons_zero, List.set_cons_succ]
      refine wpAnyT_take (i := 22) (v := ?_) rfl (by kernel_rfl) (by kernel_rfl) (by kernel_rfl) (by kernel_rfl) (fun _ _ _ h => h) (Or.inl ⟨by rfl, ?_⟩) (HS.out _ F3) ?_
      rotate_left
      · intro w hSw
        (try dsimp only at hSw)
        go_simp
        all_goals with_reducible rfl
      simp only [Act.put, List.setIfInBounds_toArray, List.set_cons_zero, List.set_cons_succ]
      refine wpAnyT_take (i := 23) (v := ?_) rfl (by kernel_rfl) (by kernel_rfl) (by kernel_rfl) (by kernel_rfl) (fun _ _ _ h => h) (Or.inl ⟨by rfl, ?_⟩) (HS.out _ F3) ?_
      rotate_left
      · intro w hSw
        (try dsimp only at hSw)
        go_simp
        all_goals with_reducible rfl
      simp only [Act.put, List.setIfInBounds_toArray, List.set_cons_zero, List.set_cons_succ]
      refine wpAnyT_done (by kernel_rfl) ?_ _
      have HDe : Hid (DStK Kp wk w0 w3 p D ((w.heap.size + 1, [.bool false]) :: (w.heap.size, [.slice A1 D.n C1, .slice A2 D.wt.length C2, .int .i64 D.left]) :: R)) := (HDd.out.on F3).sub fun r hr => List.mem_cons_of_mem _ (List.mem_cons_of_mem _ hr)
      have HBe : Hid (Below w.heap.size w w3) := below_on HBd.out F3
      clear F F3
      simp only [onlyN]
      go_wp2_with fail
      go_roundw
      case rel => exact ⟨i + 1, hlt, by go_num, HDe.out, HBe.out⟩
      case measure => exact hms
    · obtain rfl : i = n := by omega
      have hnil : ∀ (w : World) (g : Nat), (binOp .eql 45 (.func (.func 40) #[] #[.pointer (some ⟨g, 0, none⟩)]) .nilFunc).run Try.prog w = .ok (.bool false) w := fun w g => eql_func_nil w _ _ _ _ _ _ _ Try.underlying45
      go_upto_region 9 with fail
      obtain ⟨W3, hW3⟩ : ∃ W3, W3 = wr.alloc (.cells #[.int .i64 0] 3) := ⟨_, rfl⟩
      obtain ⟨nb, hnb⟩ : ∃ nb, nb = wr.heap.size := ⟨_, rfl⟩
      have HBx3 : Hid (Boxed W3 nb 3 (.int .i64 ((0 : Nat) : Int))) := by rw [hW3, hnb]; exact Boxed.new wr _ _
      have HB3 : Hid (Below w.heap.size w W3) := by rw [hW3]; exact below_al HI.out.2 _
      have HD3 : Hid (DStK Kp wk w0 W3 p D ((nb, [.int .i64 0]) :: ((w.heap.size + 1, [.bool false]) :: (w.heap.size, [.slice A1 D.n C1, .slice A2 D.wt.length C2, .int .i64 D.left]) :: R))) := by rw [hW3, hnb]; exact HI.out.1.alloc1 _ _
      have HNb : Hid (w.heap.size + 2 ≤ nb ∧ nb < W3.heap.size) := by
        have := HI.out.1.lt (List.mem_cons_self ..)
        refine ⟨?_, ?_⟩
        · rw [hnb]; exact this
        · rw [hnb, hW3]; simp
      rw [← hW3]
      rw [← hnb]
      clear hW3 hnb z0 z1 z2 HI
      go_wp2_with fail
      refine (HD3.out.waits).mono ?_
      rintro e w4 ⟨b4, rfl, hd4, hb4, _⟩
      have HD4 := Lib.hid hd4
      have HB4 := Lib.hid hb4
      clear hd4 hb4
      go_wp2_with fail
      refine (HD4.out.waits).mono ?_
      rintro e w5 ⟨b5, rfl, hd5, hb5, S5, hS5, hgo⟩
      have HD5 : Hid (DStK Kp wk w0 w5 p D ((nb, [.int .i64 0]) :: ((w.heap.size + 1, [.bool false]) :: (w.heap.size, [.slice A1 D.n C1, .slice A2 D.wt.length C2, .int .i64 D.left]) :: R))) := hd5
      have HB35 : Hid (Below W3.heap.size W3 w5) := below_on HB4.out hb5
      have HBx5 : Hid (Boxed w5 nb 3 (.int .i64 ((0 : Nat) : Int))) := (HB35.out.block nb HNb.out.2).trans HBx3.out
      have HG := Lib.hid (hgo w5 (Below.refl _ _))
      have HS5 : Hid (∀ b, S5 b → nb < b ∧ b < w5.heap.size) := fun b hb => by
        obtain ⟨h1, h2⟩ := hS5 b hb
        have := HNb.out.2
        have := HB4.out.size
        exact ⟨by omega, h2⟩
      have HB5 : Hid (Below w.heap.size w w5) := HB3.out.trans (HB35.out.mono HB3.out.size)
      have HNb5 : Hid (nb < w5.heap.size) := Lib.hid (show nb < w5.heap.size by have := HNb.out.2; have := HB35.out.size; omega)
      clear hd5 hb5 hS5 hgo hnil
      go_wp2_with fail
      have HFact : Hid (∀ X, ButD w5.heap.size nb w5 X → DStK Kp wk w0 X p D ((w.heap.size + 1, [.bool false]) :: (w.heap.size, [.slice A1 D.n C1, .slice A2 D.wt.length C2, .int .i64 D.left]) :: R)) := fun X hX => HD5.out.but (by have := HNb.out.1; have := HSz.out; omega) (fun r hr => by
        have := HNb.out.1
        simp only [List.mem_cons] at hr
        rcases hr with rfl | rfl | hr
        · show w.heap.size + 1 ≠ nb; omega
        · show w.heap.size ≠ nb; omega
        · have := HLt.out r hr; omega) hX
      refine wp_rangeGoesO_at2 11 12 (fun k => .int .i64 (k : Nat)) (fun k => .int .i64 (zAt D.wt k)) (gf := 40) (lb := #[.pointer (some ⟨b5, 0, none⟩)]) rfl (enters_of Try.func40 (by kernel_rfl) rfl)
        HG.out (fun b hb => (HS5.out b hb).2)
        (fun k X => ButD w5.heap.size nb w5 X ∧ Boxed X nb 3 (.int .i64 (k : Nat)))
        (fun _ _ _ => False)
        (OwnFrom.and (butD_own (Nat.le_refl _) (Nat.le_refl _)) ((boxed_own _ _ _).from _)) (fun _ _ _ _ _ h _ _ => h) ⟨ButS.refl _ _ _, HBx5.out⟩ ?assign ?body ?done ?stop
      case assign =>
        intro ll k X K hK
        gi_wp2
        exact hK
      case body =>
        rintro ll k X hk hl _ ⟨hbu, hbx⟩
        have HBu := Lib.hid hbu
        have HBx := Lib.hid hbx
        have HDX := Lib.hid (HFact.out X hbu)
        have HVX : Hid (RfV X (inR R) (.agg #[.slice A1 D.n C1, .slice A2 D.wt.length C2, .int .i64 D.left]) D) := HV.out.stay (R' := R) (HDX.out.sub fun r hr => List.mem_cons_of_mem _ (List.mem_cons_of_mem _ hr)) fun r hr => hr
        obtain ⟨x, hx⟩ : ∃ x, D.wt[k]? = some x := ⟨_, List.getElem?_eq_getElem hk⟩
        obtain ⟨g2, hA2, d0⟩ := rdO_at HVX.out.put (putsL_at hx).1
        have hz : zAt D.wt k = x.1 := zAt_eq hx
        obtain ⟨⟨z0, z1, z2⟩, _⟩ := r3 (HDX.out.row (List.mem_cons_of_mem _ (List.mem_cons_self ..)))
        have y0 := hbx.cell
        have y1 := hbx.frozen
        rw [hA2, ← HMm.out] at z1
        rw [hz]
        have hkI : (k : Int) < (m : Int) := by have := HMm.out; omega
        have hmb : m < 1000000 := by have := HFew.out; have := HMm.out; omega
        clear hbu hbx hx hz hA2
        refine wpIn_block ?_
        gi_wp2
        have hn5 := HNb5.out
        refine ⟨⟨by rw [World.size_setCell]; exact Nat.le_refl _, fun i' o' hi' ho _ => (Below.heap_setCell _ _ _ _ (show i' ≠ nb by omega)).trans ho⟩, fun b hb => Below.heap_setCell _ _ _ _ (show b ≠ nb by
          rcases hb with hb | hb
          · have := (HS5.out b hb).1; omega
          · have := hb.1; omega), HBu.out.set (.inl rfl) 0 _, ?_⟩
        rw [Int.natCast_add]
        exact HBx.out.set _
      case done =>
        rintro Dd X hDd ⟨hbu, hbx⟩ hK
        have HK := Lib.hid hK
        have HBuX := Lib.hid hbu
        have HDX := Lib.hid (HFact.out X hbu)
        have HBX : Hid (Below w.heap.size w X) := HB5.out.trans (ButS.below hbu (HB5.out.size) fun k hk => by rw [hk]; have := HNb.out.1; omega)
        rw [← HMm.out] at hbx
        have HBx := Lib.hid hbx
        clear hbu hbx hK
        go_upto_region 17 with fail
        obtain ⟨wd, hwd⟩ : ∃ wd, wd = X.drew := ⟨_, rfl⟩
        have HDd : Hid (DStK Kp wk w0 wd p D ((w.heap.size + 1, [.bool false]) :: (w.heap.size, [.slice A1 D.n C1, .slice A2 D.wt.length C2, .int .i64 D.left]) :: R)) := by rw [hwd]; exact HDX.out.drew
        have HBxd : Hid (Boxed wd nb 3 (.int .i64 (m : Nat))) := by rw [hwd]; exact HBx.out
        have HBd : Hid (Below w.heap.size w wd) := by rw [hwd]; exact HBX.out.drew
        have HKd : Hid (wd.heap[Dd]? = some (.deferred (some []))) := by rw [hwd]; exact HK.out
        have HS : Hid (∀ Y, Below wd.heap.size wd Y → (Y.cell? ⟨w.heap.size, 0, none⟩ = some (.slice A1 i C1) ∧ Y.cell? ⟨w.heap.size, 1, none⟩ = some (.slice A2 m C2)) ∧ Y.cell? ⟨nb, 0, none⟩ = some (.int .i64 (m : Nat))) := fun Y hY => by
          obtain ⟨⟨z0, z1, z2⟩, _⟩ := r3 ((HDd.out.on hY).row (List.mem_cons_of_mem _ (List.mem_cons_self ..)))
          rw [← HNn.out] at z0
          rw [← HMm.out] at z1
          exact ⟨⟨z0, z1⟩, (hY.cell (p := ⟨nb, 0, none⟩) HBxd.out.lt).trans HBxd.out.cell⟩
        have F : Below wd.heap.size wd wd := Below.refl _ _
        have HWd := Lib.hid hwd
        clear hwd
        refine wp_onlyN ?_
        refine wp_region_T (fun Y => (Y.cell? ⟨w.heap.size, 0, none⟩ = some (.slice A1 i C1) ∧ Y.cell? ⟨w.heap.size, 1, none⟩ = some (.slice A2 m C2)) ∧ Y.cell? ⟨nb, 0, none⟩ = some (.int .i64 (m : Nat))) 13 (by kernel_rfl) ?_
        rw [← HWd.out]
        refine wpAnyT_take (i := 0) (v := ?_) rfl (by kernel_rfl) (by kernel_rfl) (by kernel_rfl) (by kernel_rfl) (fun _ _ _ h => h) (Or.inl ⟨by rfl, ?_⟩) (HS.out _ F) ?_
        rotate_left
        · intro w hSw
          (try dsimp only at hSw)
          go_simp
          all_goals with_reducible rfl
        simp only [Act.put, List.setIfInBounds_toArray, List.set_cons_zero, List.set_cons_succ]
        refine wpAnyT_take (i := 1) (v := ?_) rfl (by kernel_rfl) (by kernel_rfl) (by kernel_rfl) (by kernel_rfl) (fun _ _ _ h => h) (Or.inl ⟨by rfl, ?_⟩) (HS.out _ F) ?_
        rotate_left
        · intro w hSw
          (try dsimp only at hSw)
          go_simp
          all_goals with_reducible rfl
        simp only [Act.put, List.setIfInBounds_toArray, List.set_cons_zero, List.set_cons_succ]
        refine wpAnyT_take (i := 2) (v := ?_) rfl (by kernel_rfl) (by kernel_rfl) (by kernel_rfl) (by kernel_rfl) (fun _ _ _ h => h) (Or.inl ⟨by rfl, ?_⟩) (HS.out _ F) ?_
        rotate_left
        · intro w hSw
          (try dsimp only at hSw)
          go_simp
          all_goals with_reducible rfl
        simp only [Act.put, List.setIfInBounds_toArray, List.set_cons_zero, List.set_cons_succ]
        refine wpAnyT_take (i := 3) (v := ?_) rfl (by kernel_rfl) (by kernel_rfl) (by kernel_rfl) (by kernel_rfl) (fun _ _ _ h => h) (Or.inl ⟨by rfl, ?_⟩) (HS.out _ F) ?_
        rotate_left
        · intro w hSw
          (try dsimp only at hSw)
          go_simp
          all_goals with_reducible rfl
        simp only [Act.put, List.setIfInBounds_toArray, List.set_cons_zero, List.set_cons_succ]
        refine wpAnyT_take (i := 4) (v := ?_) rfl (by kernel_rfl) (by kernel_rfl) (by kernel_rfl) (by kernel_rfl) (fun _ _ _ h => h) (Or.inl ⟨by rfl, ?_⟩) (HS.out _ F) ?_
        rotate_left
        · intro w hSw
          (try dsimp only at hSw)
          go_simp
          all_goals with_reducible rfl
        simp only [Act.put, List.setIfInBounds_toArray, List.set_cons_zero, List.set_cons_succ]
        refine wpAnyT_take (i := 5) (v := ?_) rfl (by kernel_rfl) (by kernel_rfl) (by kernel_rfl) (by kernel_rfl) (fun _ _ _ h => h) (Or.inl ⟨by rfl, ?_⟩) (HS.out _ F) ?_
        rotate_left
        · intro w hSw
          (try dsimp only at hSw)
          go_simp
          all_goals with_reducible rfl
        simp only [Act.put, List.setIfInBounds_toArray, List.set_cons_zero, List.set_cons_succ]
        refine wpAnyT_take (i := 6) (v := ?_) rfl (by kernel_rfl) (by kernel_rfl) (by kernel_rfl) (by kernel_rfl) (fun _ _ _ h => h) (Or.inl ⟨by rfl, ?_⟩) (HS.out _ F) ?_
        rotate_left
        · intro w hSw
          (try dsimp only at hSw)
          go_simp
          all_goals with_reducible rfl
        simp only [Act.put, List.setIfInBounds_toArray, List.set_cons_zero, List.set_cons_succ]
        refine wpAnyT_take (i := 8) (v := ?_) rfl (by kernel_rfl) (by kernel_rfl) (by kernel_rfl) (by kernel_rfl) (fun _ _ _ h => h) (Or.inl ⟨by rfl, ?_⟩) (HS.out _ F) ?_
        rotate_left
        · intro w hSw
          (try dsimp only at hSw)
          go_simp
          all_goals with_reducible rfl
        simp only [Act.put, List.setIfInBounds_toArray, List.set_cons_zero, List.set_cons_succ]
        refine wpAnyT_take (i := 9) (v := ?_) rfl (by kernel_rfl) (by kernel_rfl) (by kernel_rfl) (by kernel_rfl) (fun _ _ _ h => h) (Or.inl ⟨by rfl, ?_⟩) (HS.out _ F) ?_
        rotate_left
        · intro w hSw
          (try dsimp only at hSw)
          go_simp
          all_goals with_reducible rfl
        simp only [Act.put, List.setIfInBounds_toArray, List.set_cons_zero, List.set_cons_succ]
        refine wpAnyT_take (i := 10) (v := ?_) rfl (by kernel_rfl) (by kernel_rfl) (by kernel_rfl) (by kernel_rfl) (fun _ _ _ h => h) (Or.inl ⟨by rfl, ?_⟩) (HS.out _ F) ?_
        rotate_left
        · intro w hSw
          (try dsimp only at hSw)
          go_simp
          all_goals with_reducible rfl
        simp only [Act.put, List.setIfInBounds_toArray, List.set_cons_zero, List.set_cons_succ]
        refine wpAnyT_one (i := 7) (by kernel_rfl) rfl (fun K hK => ?_)
        go_simp
        refine (HDd.out.len).mono ?_
        rintro e w8 ⟨rfl, hd8, hb8⟩
        rw [← HNn.out]
        have HD8 := Lib.hid hd8
        have HB8 := Lib.hid hb8
        have F8 : Below wd.heap.size wd w8 := hb8
        clear hd8 hb8
        refine hK.out _ _ (fun _ => (HS.out _ F8)) ?_
        clear hK K
        try simp only [Act.put, List.setIfInBounds_toArray, List.set_cons_zero, List.set_cons_succ]
        refine wpAnyT_take (i := 11) (v := ?_) rfl (by kernel_rfl) (by kernel_rfl) (by kernel_rfl) (by kernel_rfl) (fun _ _ _ h => h) (Or.inl ⟨by rfl, ?_⟩) (HS.out _ F8) ?_
        rotate_left
        · intro w hSw
          (try dsimp only at hSw)
          go_simp
          all_goals with_reducible rfl
        simp only [Act.put, List.setIfInBounds_toArray, List.set_cons_zero, List.set_cons_succ]
        refine wpAnyT_take (i := 12) (v := ?_) rfl (by kernel_rfl) (by kernel_rfl) (by kernel_rfl) (by kernel_rfl) (fun _ _ _ h => h) (Or.inl ⟨by rfl, ?_⟩) (HS.out _ F8) ?_
        rotate_left
        · intro w hSw
          (try dsimp only at hSw)
          go_simp
          all_goals with_reducible rfl
        simp only [Act.put, List.setIfInBounds_toArray, List.set_cons_zero, List.set_cons_succ]
        refine wpAnyT_one (i := 13) (by kernel_rfl) rfl (fun K hK => ?_)
        have y0 := (HD8.out.row (List.mem_cons_self ..)).1 0 _ rfl
        have f0 := (HD8.out.row (List.mem_cons_self ..)).2 0
        go_simp
        refine hK.out _ _ (fun h => absurd h (by decide)) ?_
        clear hK K
        try simp only [Act.put, List.setIfInBounds_toArray, List.set_cons_zero, List.set_cons_succ]
        refine wpAnyT_done (by kernel_rfl) ?_ _
        simp only [onlyN]
        go_wp2_with fail
        have hKf : (w8.setCell ⟨w.heap.size + 1, 0, none⟩ (.bool true)).heap[Dd]? = some (.deferred (some [])) := (Below.heap_setCell _ _ _ _ (show Dd ≠ w.heap.size + 1 by have := HNb.out.1; have := HNb5.out; omega)).trans ((HB8.out.block Dd (Array.getElem?_eq_some_iff.1 HKd.out).1).trans HKd.out)
        have hBu : ButS w5.heap.size (fun b => b = nb ∨ b = w.heap.size + 1) w5 ((w8.setCell ⟨w.heap.size + 1, 0, none⟩ (.bool true)).putObj Dd (.deferred none)) := by
          have e : wd.heap.size = X.heap.size := by rw [HWd.out]; rfl
          have h5 := HBuX.out.size
          have h8 := HB8.out.size
          refine buts_put (ButS.set ?_ (.inl (.inr rfl)) 0 _) hDd (by rw [World.size_setCell]; omega) _
          refine ((HBuX.out.mono (Nat.le_refl _) fun b _ h => .inl h).trans (.of_below ?_))
          refine Below.trans (b := wd) ?_ (HB8.out.mono (by omega))
          rw [HWd.out]
          exact (Below.refl _ _).drew
        have hD9 : DStK Kp wk w0 ((w8.setCell ⟨w.heap.size + 1, 0, none⟩ (.bool true)).putObj Dd (.deferred none)) p D R := HD5.out.buts (fun b hb => by
            have := HNb.out.1
            have := HSz.out
            rcases hb with rfl | rfl
            · exact ⟨by omega, _, List.mem_cons_self ..⟩
            · exact ⟨by omega, _, List.mem_cons_of_mem _ (List.mem_cons_self ..)⟩) (fun r hr => ⟨List.mem_cons_of_mem _ (List.mem_cons_of_mem _ (List.mem_cons_of_mem _ hr)), fun hm => by
            have := HLt.out r hr
            have := HNb.out.1
            rcases hm with hm | hm <;> omega⟩) hBu
        have hcell : ((w8.setCell ⟨w.heap.size + 1, 0, none⟩ (.bool true)).putObj Dd (.deferred none)).cell? ⟨w.heap.size + 1, 0, none⟩ = some (.bool true) := by
          have h1 := (HD8.out.row (List.mem_cons_self ..)).set 0 (.bool true)
          have hg := grownBy_putObj' (w8.setCell ⟨w.heap.size + 1, 0, none⟩ (.bool true)) Dd (.deferred none)
          have h2 := h1.1 0 _ rfl
          refine (World.cell?_of_block (a := ⟨w.heap.size + 1, 0, none⟩) (hg.block _ (World.block_lt_of_cell? _ _ h2) (fun e => ?_))).trans h2
          injection e with e
          have := HNb.out.1
          have := HNb5.out
          simp only at e
          omega
        refine marks_one hKf (results_cell rfl (by rfl) (bool_load hcell)) ?_
        exact ⟨rfl, hD9, HB5.out.trans (ButS.below hBu HB5.out.size fun k hk => by
          have := HNb.out.1
          rcases hk with rfl | rfl <;> omega)⟩
      case stop =>
        rintro Dd c k X hDd hk hx hK
        exact hx.elim

end Go.Proofs.Ytekeooeapiodmaa

