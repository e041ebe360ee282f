/- Package disk: settle. -/
import Derived.Test.YtekeooeapiodmaaZDkG
namespace Go.Proofs.Ytekeooeapiodmaa
open Go Go.RowKit Go.Shelf
set_option linter.unusedSimpArgs false
set_option linter.unusedVariables false
set_option maxRecDepth 100000

attribute [local go_sem] Oper.semAt_some

/-- What lies behind the first k writes. -/
def settleN (l : List (Int × List UInt8)) (bec : Nat → Bool) (lie : Int → List UInt8) : Nat → Int → List UInt8
  | 0 => lie
  | k + 1 => if bec k = true then layM (settleN l bec lie k) (wAt l k) else settleN l bec lie k
/-- A disk of which all is settled. -/
def DkM.settled (D : DkM) (bec : Nat → Bool) : DkM := { D with wt := [], lie := settleN D.wt bec D.lie D.wt.length }

/-- What a round over the writes knows. -/
def SetI (w3 : World) (m1 : Nat) (L : Nat → Int → List UInt8) (k : Nat) (X : World) : Prop := ButS w3.heap.size (· = m1) w3 X ∧ LieAt X m1 (L k)
theorem setI_own {w3 : World} {m1 : Nat} {L : Nat → Int → List UInt8} (hm : m1 < w3.heap.size) : OwnFrom w3.heap.size (SetI w3 m1 L) := fun s X Y row hs hg hr =>
  ⟨⟨hg.os.trans hs.1.os, hg.tape.trans hs.1.tape, hg.output.trans hs.1.output, Nat.le_trans hs.1.size hg.size, fun j hj hne => (hg.block j (by have := hs.1.size; omega) (fun e => by have := (hr j e.symm).1; omega)).trans (hs.1.block j hj hne)⟩,
   hs.2.kept (hg.block m1 (by have := hs.1.size; omega) (fun e => by have := (hr m1 e.symm).1; omega))⟩
/-- The frame of a round: where the round's write lies. -/
def SetA (F : Nat → Nat → Act) (B : Nat) (l : List (Int × List UInt8)) (k : Nat) (a' : Act) (X : World) : Prop := ∃ b, B ≤ b ∧ X.heap[b]? = some (.cells (wrL (wAt l k)).toArray 88 (0, 0)) ∧ a' = F k b
theorem setA_own {F : Nat → Nat → Act} {B B' : Nat} {l : List (Int × List UInt8)} (k : Nat) (a' : Act) : OwnFrom B' (fun (_ : Unit) X => SetA F B l k a' X) := fun s X Y row hs hg hr => by
  obtain ⟨b, hb, hc, e⟩ := hs
  refine ⟨b, hb, (hg.block b (Array.getElem?_eq_some_iff.1 hc).1 (fun e => ?_)).trans hc, e⟩
  obtain ⟨o, ho, hk⟩ := (hr b e.symm).2
  rw [hc] at ho
  injection ho with ho
  subst ho
  cases hk

set_option maxHeartbeats 4000000 in
theorem settle_any (S : Nat → Prop) (p : Nat) (D : DkM) (hok : D.ok) (g : Nat) (fs lb : Array Value) (bec : Nat → Bool) (T : Nat → Prop) (w : World) (hent : ∀ args w, (callFunc g args).run Try.prog w = .ok (.enter g args) w)
    (hbec : ∀ k, k < D.wt.length → ∀ w', (∀ b, T b → w'.heap[b]? = w.heap[b]?) → w.heap.size ≤ w'.heap.size → Calls Try.prog g (fs ++ #[.int .i64 (k : Nat)] ++ lb) w' fun e w'' => e = .returned (.int .i64 (fateN (bec k))) ∧ Below w'.heap.size w' w'')
    (hT : ∀ b, T b → b < w.heap.size ∧ ¬ S b) (h : DkAt w S p D) :
    Calls Try.prog 52 #[.pointer (some ⟨p, 0, none⟩), .func (.func g) fs lb] w fun e w' => e = .returned (.tuple #[]) ∧ DkAt w' S p (D.settled bec) ∧ ButS w.heap.size S w w' := by
  obtain ⟨m1, m2, v, f, gg, q1, q2, q3, q4, q5, q6, s1, s2, s3, s4, n1, n2, n3, n4, n5, n6⟩ := h
  obtain ⟨A, C, rfl⟩ : ∃ A C, v = .slice A D.wt.length C := by
    rcases q6.2 with ⟨rfl, h⟩ | ⟨g', cap, cur, rfl, _⟩
    · exact ⟨none, 0, by rw [h]⟩
    · exact ⟨_, cap, rfl⟩
  have HLt : Hid (p < w.heap.size ∧ m1 < w.heap.size ∧ m2 < w.heap.size ∧ ∀ j, (Value.slice A D.wt.length C).ownBlock = some j → j < w.heap.size) := ⟨q1.lt, q2.lt, q4.lt, fun j hj => (q6.lt j hj).2⟩
  have HLie : Hid (LieAt w m1 D.lie) := ⟨f, q2, q3⟩
  have HRd : Hid (RdW w w.heap.size A D.wt) := rdW_own hok.wt q6 rfl
  have HQ1 := Lib.hid q1
  have HQ4 := Lib.hid q4
  have HQs := Lib.hid (And.intro s1 (And.intro s2 (And.intro s3 s4)))
  have HQn := Lib.hid (And.intro n1 (And.intro n2 (And.intro n3 (And.intro n4 (And.intro n5 n6)))))
  have HBec := Lib.hid hbec
  have HT := Lib.hid hT
  have HOk := Lib.hid hok
  clear q1 q2 q3 q4 q5 q6 s1 s2 s3 s4 n1 n2 n3 n4 n5 n6 hbec hT hok
  obtain ⟨w0, hw0⟩ : ∃ w0, w0 = (w.alloc (.cells #[.pointer (some ⟨p, 0, none⟩)] 23)).alloc (.cells #[.func (.func g) fs lb] 99) := ⟨_, rfl⟩
  have HB0 : Hid (Below w.heap.size w w0) := by rw [hw0]; exact below_al (below_al (Below.refl _ _) _) _
  have HX0 : Hid (∀ w', Below w0.heap.size w0 w' → w'.cell? ⟨w.heap.size, 0, none⟩ = some (.pointer (some ⟨p, 0, none⟩)) ∧ w'.cell? ⟨w.heap.size + 1, 0, none⟩ = some (.func (.func g) fs lb)) := fun w' h => by
    rw [hw0] at h
    have h1 := box_at ((below_al (Below.refl _ _) _).trans (h.mono (by simp))) 0
    have h2 := box_at h 0
    rw [World.size_alloc] at h2
    exact ⟨h1, h2⟩
  have hz0 : w.heap.size + 2 = w0.heap.size := by rw [hw0]; simp
  have HW0 := Lib.hid hw0
  clear hw0
  refine calls_of_marks Try.func52 rfl ?_
  simp only [Try.ntmps52, List.size_toArray, List.length_cons, List.length_nil, Nat.reduceAdd, Nat.reduceSub, Array.replicate_succ, Array.replicate_zero, List.push_toArray, List.append_toArray, List.nil_append, List.cons_append]
  go_wp2_with fail
  rw [← HW0.out]
  refine (fates_any w0).mono ?_
  rintro e w1 ⟨rfl, hw1⟩
  have HB1 : Hid (Below w0.heap.size w0 w1) := by rw [hw1]; exact below_al (Below.refl _ _) _
  have HM1 : Hid (∀ w', Below w1.heap.size w1 w' → w'.heap[w0.heap.size]? = some (.map fMap 2)) := fun w' h => by
    rw [hw1] at h
    exact (h.block _ (by simp)).trans (MapKept.heap_alloc w0 _).1
  have HSz : Hid (w.heap.size + 2 = w0.heap.size ∧ w0.heap.size + 1 = w1.heap.size) := ⟨hz0, by rw [hw1]; simp⟩
  clear hw1 hz0
  go_upto_region 2 with fail
  obtain ⟨w2, hw2⟩ : ∃ w2, w2 = w1.alloc (.cells #[.map (some w0.heap.size)] 108) := ⟨_, rfl⟩
  have HB2 : Hid (Below w1.heap.size w1 w2) := by rw [hw2]; exact below_al (Below.refl _ _) _
  have HX2 : Hid (∀ w', Below w2.heap.size w2 w' → w'.cell? ⟨w1.heap.size, 0, none⟩ = some (.map (some w0.heap.size))) := fun w' h => by rw [hw2] at h; exact box_at h 0
  have HB02 : Hid (Below w0.heap.size w0 w2) := below_on HB1.out HB2.out
  have HBw2 : Hid (Below w.heap.size w w2) := below_on HB0.out HB02.out
  have HSz2 : Hid (w1.heap.size < w2.heap.size) := by rw [Hid, hw2]; simp
  rw [← hw2]
  clear hw2
  obtain ⟨x0, x1⟩ := HX0.out w2 HB02.out
  have q1 := HQ1.out.kept (HBw2.out.block p HLt.out.1)
  have c2 := q1.1 2 _ rfl
  clear q1
  go_wp2_with fail
  refine (allW_any A D.wt.length C w2).mono ?_
  rintro e w3 ⟨rfl, hw3⟩
  have HB3 : Hid (Below w2.heap.size w2 w3) := by rw [hw3]; exact below_al (Below.refl _ _) _
  have HX3 : Hid (w3.cell? ⟨w2.heap.size, 0, none⟩ = some (.slice A D.wt.length C) ∧ w3.heap.size = w2.heap.size + 1) := by rw [hw3]; exact ⟨box_at (Below.refl _ _) 0, by simp⟩
  clear hw3 x0 x1 c2
  go_wp2_with fail
  have hlt := HLt.out
  have hok := HOk.out
  have hm13 : m1 < w3.heap.size := Nat.lt_of_lt_of_le hlt.2.1 (Nat.le_trans HBw2.out.size HB3.out.size)
  have HBw3 : Hid (Below w.heap.size w w3) := below_on HBw2.out HB3.out
  have hgo := allW_goes w2.heap.size (fun b => b < w3.heap.size ∧ b ≠ m1) A C D.wt w3 hok.wt hok.few (by rw [HX3.out.2]; omega) (fun a ha => ⟨Nat.lt_of_lt_of_le (hlt.2.2.2 a.block (by rw [ha]; rfl)) HBw3.out.size, fun h => HQn.out.2.2.2.2.1 (by rw [ha, ← h]; rfl)⟩) (fun b hb => hb.1) HX3.out.1 (HRd.out.kept (fun a ha => HBw3.out.block a.block (hlt.2.2.2 a.block (by rw [ha]; rfl))) HBw3.out.size)
  have hI0 : SetI w3 m1 (settleN D.wt bec D.lie) 0 w3 := ⟨ButS.refl _ _ _, HLie.out.kept (HBw3.out.block m1 hlt.2.1)⟩
  have HM3 : Hid (m1 < w3.heap.size) := hm13
  clear hlt hok
  refine wp_rangeGoesO (gf := 72) (lb := #[.pointer (some ⟨w2.heap.size, 0, none⟩)]) rfl (enters_of Try.func72 (by kernel_rfl) rfl) hgo (fun b hb => hb.1) (fun _ => rfl)
    (SetI w3 m1 (settleN D.wt bec D.lie)) (fun _ _ _ => False) (setI_own hm13) (fun _ _ _ _ _ h _ _ => h) hI0
    (SetA (fun k b => { tmps := #[Value.pointer (some ⟨p, 0, none⟩), .func (.func g) fs lb, .pointer (some ⟨w.heap.size, 0, none⟩), .pointer (some ⟨w.heap.size + 1, 0, none⟩), .pointer (some ⟨w1.heap.size, 0, none⟩), .int .i64 (k : Nat), .pointer (some ⟨b, 0, none⟩), .map (some w0.heap.size), .pointer (some ⟨p, 0, none⟩), .pointer (some ⟨p, 0, none⟩), .pointer (some ⟨p, 2, none⟩), .slice A D.wt.length C, .func (.func 72) #[] #[.pointer (some ⟨w2.heap.size, 0, none⟩)], .int .i64 (k : Nat), wrV (wAt D.wt k), undef, undef, undef, undef, undef, undef, undef, undef, undef, undef, undef, undef, undef, undef, undef], defers := [] }) w3.heap.size D.wt) (fun k a' => setA_own k a') ?assign ?body ?done ?stop
  case assign =>
    intro l k W K hk hI hK
    clear hgo hI0
    have hwl : (wAt D.wt k).2.length = 64 := HOk.out.wt _ (by rw [wAt, List.getElem?_eq_getElem hk]; exact List.getElem_mem hk)
    have hpt := wr_put (wAt D.wt k) hwl W
    obtain ⟨W1, hW1⟩ : ∃ W1, W1 = W.alloc (.cells (wrL (wAt D.wt k)).toArray 88) := ⟨_, rfl⟩
    have hc1 : W1.heap[W.heap.size]? = some (.cells (wrL (wAt D.wt k)).toArray 88 (0, 0)) := by rw [hW1]; exact (MapKept.heap_alloc W _).1
    have hb1 : Below W.heap.size W W1 := by rw [hW1]; exact below_al (Below.refl _ _) _
    have hI1 : SetI w3 m1 (settleN D.wt bec D.lie) k W1 := by rw [hW1]; exact (setI_own hm13).alloc _ hI
    rw [← hW1] at hpt
    have hs3 := hI.1.size
    have HK := Lib.hid hK
    have HI1 := Lib.hid hI1
    have HB1 := Lib.hid hb1
    have HC1 := Lib.hid hc1
    have HS3 := Lib.hid hs3
    clear hW1 hK hI hI1 hc1 hs3 hb1
    simp only [List.zip_toArray, List.zip_cons_cons, List.zip_nil_right, List.foldl_toArray, List.foldl_cons, List.foldl_nil, List.setIfInBounds_toArray, List.set_cons_zero, List.set_cons_succ]
    gi_wp2_with (refine wpListIn_store rfl 88 (.tmp 6) (.tmp 14) rfl _ _ _ rfl rfl hpt ?_)
    refine HK.out _ _ (⟨HB1.out.size, fun i o' hi ho _ => (HB1.out.block i (Array.getElem?_eq_some_iff.1 ho).1).trans ho⟩) (fun b hb => HB1.out.block b ?_) HI1.out ⟨W.heap.size, HS3.out, HC1.out, rfl⟩
    rcases hb with hb | hb
    · exact Nat.lt_of_lt_of_le hb.1 HS3.out
    · exact hb.2
  case body =>
    rintro l k a' W hk hl _ ⟨hIb, hIl⟩ ⟨b, hb3, hbc, rfl⟩
    clear hgo hI0
    have hwl : (wAt D.wt k).2.length = 64 := HOk.out.wt _ (by rw [wAt, List.getElem?_eq_getElem hk]; exact List.getElem_mem hk)
    have hs3 := hIb.size
    have hbW : b < W.heap.size := (Array.getElem?_eq_some_iff.1 hbc).1
    have HLw := Lib.hid hwl
    have HLn : Hid ((wrL (wAt D.wt k)).length = 65) := wrL_len hwl
    have hww : w.heap.size + 2 = w0.heap.size := by have := HB0.out.size; exact HSz.out.1
    have hw01 : w0.heap.size + 1 = w1.heap.size := HSz.out.2
    have hl3 : w3.heap.size = w2.heap.size + 1 := HX3.out.2
    have hl12 := HB2.out.size
    have hl23 : w1.heap.size < w2.heap.size := HSz2.out
    have hln := HLt.out
    -- what is known of every later world of this round
    have HOldB : Hid (∀ X, ButS W.heap.size (· = m1) W X → ∀ j, j < w3.heap.size → j ≠ m1 → X.heap[j]? = w3.heap[j]?) := fun X hX j hj hne => (hX.block j (Nat.lt_of_lt_of_le hj hs3) hne).trans (hIb.block j hj hne)
    have HBel : Hid (Below w1.heap.size w1 w3) := below_on HB2.out HB3.out
    have hm1 : m1 < w.heap.size := hln.2.1
    have HS0 : Hid (∀ X, ButS W.heap.size (· = m1) W X → X.cell? ⟨w.heap.size, 0, none⟩ = some (.pointer (some ⟨p, 0, none⟩)) ∧ X.cell? ⟨w.heap.size + 1, 0, none⟩ = some (.func (.func g) fs lb) ∧ X.cell? ⟨w1.heap.size, 0, none⟩ = some (.map (some w0.heap.size)) ∧ X.heap[w0.heap.size]? = some (.map fMap 2) ∧ X.rangeAt b 0 (wrL (wAt D.wt k))) := fun X hX => by
      have h := HOldB.out X hX
      obtain ⟨y0, y1⟩ := HX0.out w3 (below_on HB02.out HB3.out)
      have y2 := HX2.out w3 HB3.out
      have y3 := HM1.out w3 HBel.out
      refine ⟨(World.cell?_of_block (a := ⟨w.heap.size, 0, none⟩) (h w.heap.size (by omega) (by omega))).trans y0, (World.cell?_of_block (a := ⟨w.heap.size + 1, 0, none⟩) (h (w.heap.size + 1) (by omega) (by omega))).trans y1, (World.cell?_of_block (a := ⟨w1.heap.size, 0, none⟩) (h w1.heap.size (by omega) (by omega))).trans y2, (h w0.heap.size (by omega) (by omega)).trans y3, fun j v hv => ?_⟩
      have e := hX.block b hbW (by omega)
      rw [Nat.zero_add]
      have : X.cell? ⟨b, j, none⟩ = (wrL (wAt D.wt k)).toArray[j]? := by
        rw [World.cell?_of_block (a := ⟨b, j, none⟩) e]
        simp [World.cell?, hbc]
      rw [this]
      simpa using hv
    have HCp : Hid (∀ X, ButS W.heap.size (· = m1) W X → X.cell? ⟨p, 1, none⟩ = some (.map (some m1))) := fun X hX => by
      have e := HOldB.out X hX p (by have := HBw3.out.size; omega) HQn.out.2.1
      have q := HQ1.out.kept (e.trans (HBw3.out.block p hln.1))
      exact q.1 1 _ rfl
    have HPl : Hid (p < W.heap.size) := by have := HBw3.out.size; rw [Hid]; omega
    have HMl : Hid (m1 < W.heap.size) := by have := HBw3.out.size; rw [Hid]; omega
    have HCall : Hid (∀ X, ButS W.heap.size (· = m1) W X → Calls Try.prog g (fs ++ #[.int .i64 (k : Nat)] ++ lb) X fun e w'' => e = .returned (.int .i64 (fateN (bec k))) ∧ Below X.heap.size X w'') := fun X hX => by
      refine HBec.out k hk X (fun j hj => ?_) (by have := HBw3.out.size; have := hX.size; omega)
      have ht := HT.out j hj
      have e := HOldB.out X hX j (by have := HBw3.out.size; omega) (by rintro rfl; exact ht.2 HQs.out.2.1)
      exact e.trans (HBw3.out.block j ht.1)
    have HI0 : Hid (ButS w3.heap.size (· = m1) w3 W) := hIb
    have HLi0 : Hid (LieAt W m1 (settleN D.wt bec D.lie k)) := hIl
    have HBl := Lib.hid hb3
    have HSS := Lib.hid hs3
    clear hs3 hbW hww hw01 hl3 hl12 hl23 hln hm1 hbc hIb hIl hwl hb3
    refine wpIn_block ?_
    have hfin : ∀ (X : World) (L : Int → List UInt8), ButS W.heap.size (· = m1) W X → LieAt X m1 L → L = settleN D.wt bec D.lie (k + 1) → KeepsFrom w3.heap.size W X ∧ KeepB (SinceB (fun b => b < w3.heap.size ∧ b ≠ m1) (w3.heap.size + 2) W) W X ∧ SetI w3 m1 (settleN D.wt bec D.lie) (k + 1) X := fun X L hX hL e => by
      have hm3 := HM3.out
      refine ⟨⟨hX.size, fun i o' hi ho _ => (hX.block i (Array.getElem?_eq_some_iff.1 ho).1 (by omega)).trans ho⟩, fun i hi => ?_, HI0.out.trans (hX.mono HSS.out fun _ _ h => h), e ▸ hL⟩
      rcases hi with hi | hi
      · exact hX.block i (Nat.lt_of_lt_of_le hi.1 HSS.out) hi.2
      · exact hX.block i hi.2 (by omega)
    have HFin := Lib.hid hfin
    clear hfin
    cases hq : bec k
    · have HQ := Lib.hid hq
      have HS : Hid (∀ X, ButS W.heap.size (· = m1) W X → (X.cell? ⟨w.heap.size, 0, none⟩ = some (.pointer (some ⟨p, 0, none⟩)) ∧ X.cell? ⟨w.heap.size + 1, 0, none⟩ = some (.func (.func g) fs lb) ∧ X.cell? ⟨w1.heap.size, 0, none⟩ = some (.map (some w0.heap.size)) ∧ (Instr.lookup 108 (.map (some w0.heap.size)) (.int .i64 (fateN false)) false).run Try.prog X = .ok (fateV false) X ∧ X.rangeAt b 0 (wrL (wAt D.wt k)))) := fun X hX => by
        obtain ⟨a0, a1, a2, a3, a4⟩ := HS0.out X hX
        exact ⟨a0, a1, a2, fate_look a3 false, a4⟩
      have F : Below W.heap.size W W.drew := (Below.refl _ _).drew
      have hfv : fateV false = .func (.func 70) #[] #[] := rfl
      have hent7 : ∀ args w, (callFunc 70 args).run Try.prog w = .ok (.enter 70 args) w := enters_of Try.func70 (by kernel_rfl) rfl
      clear hq
      refine wpIn_region_TI (fun w' => (w'.cell? ⟨w.heap.size, 0, none⟩ = some (.pointer (some ⟨p, 0, none⟩)) ∧ w'.cell? ⟨w.heap.size + 1, 0, none⟩ = some (.func (.func g) fs lb) ∧ w'.cell? ⟨w1.heap.size, 0, none⟩ = some (.map (some w0.heap.size)) ∧ (Instr.lookup 108 (.map (some w0.heap.size)) (.int .i64 (fateN false)) false).run Try.prog w' = .ok (fateV false) w' ∧ w'.rangeAt b 0 (wrL (wAt D.wt k)))) 8 (by kernel_rfl) ?_
      refine wpAnyTI_take (i := 0) (v := ?_) rfl (by kernel_rfl) (by kernel_rfl) (by kernel_rfl) (by kernel_rfl) (by kernel_rfl) (fun _ _ _ h => h) ⟨Or.inl ⟨by rfl, ?_⟩, fun _ => by rfl⟩ (HS.out _ (ButS.of_below F)) ?_
      rotate_left
      · intro w hSw
        (try dsimp only at hSw)
        go_simp
        all_goals with_reducible rfl
      simp only [Act.put, List.setIfInBounds_toArray, List.set_cons_zero, List.set_cons_succ]
      refine wpAnyTI_take (i := 1) (v := ?_) rfl (by kernel_rfl) (by kernel_rfl) (by kernel_rfl) (by kernel_rfl) (by kernel_rfl) (fun _ _ _ h => h) ⟨Or.inl ⟨by rfl, ?_⟩, fun _ => by rfl⟩ (HS.out _ (ButS.of_below F)) ?_
      rotate_left
      · intro w hSw
        (try dsimp only at hSw)
        go_simp
        all_goals with_reducible rfl
      simp only [Act.put, List.setIfInBounds_toArray, List.set_cons_zero, List.set_cons_succ]
      refine wpAnyTI_take (i := 2) (v := ?_) rfl (by kernel_rfl) (by kernel_rfl) (by kernel_rfl) (by kernel_rfl) (by kernel_rfl) (fun _ _ _ h => h) ⟨Or.inl ⟨by rfl, ?_⟩, fun _ => by rfl⟩ (HS.out _ (ButS.of_below F)) ?_
      rotate_left
      · intro w hSw
        (try dsimp only at hSw)
        go_simp
        all_goals with_reducible rfl
      simp only [Act.put, List.setIfInBounds_toArray, List.set_cons_zero, List.set_cons_succ]
      refine wpAnyTI_take (i := 5) (v := wrV (wAt D.wt k)) rfl (by kernel_rfl) (by kernel_rfl) (by kernel_rfl) (by kernel_rfl) (by kernel_rfl) (fun _ _ _ h => h) ⟨yieldsIf_load_mid (by rfl) 88 (.tmp 6) rfl b 0 (by rfl) (wrL (wAt D.wt k)) _ (fun _ hS => hS.2.2.2.2) Try.underlying88 rfl (by rw [HLn.out]; kernel_rfl), fun _ => by rfl⟩ (HS.out _ (ButS.of_below F)) ?_
      simp only [Act.put, List.setIfInBounds_toArray, List.set_cons_zero, List.set_cons_succ]
      refine wpAnyTI_take (i := 6) (v := ?_) rfl (by kernel_rfl) (by kernel_rfl) (by kernel_rfl) (by kernel_rfl) (by kernel_rfl) (fun _ _ _ h => h) ⟨Or.inl ⟨by rfl, ?_⟩, fun _ => by rfl⟩ (HS.out _ (ButS.of_below F)) ?_
      rotate_left
      · intro w hSw
        (try dsimp only at hSw)
        go_simp
        all_goals with_reducible rfl
      simp only [Act.put, List.setIfInBounds_toArray, List.set_cons_zero, List.set_cons_succ]
      refine wpAnyTI_one (i := 3) (by kernel_rfl) rfl (fun K' hK => ?_)
      go_simp
      refine ⟨trivial, ?_⟩
      refine (CallsIn.inRound l (callsIn_wide.2 (HCall.out _ (ButS.of_below F)))).mono ?_
      rintro e X1 ⟨rfl, hb1⟩
      rw [HQ.out]
      replace F := below_on F hb1
      clear hb1
      refine hK.out _ _ (fun _ => (HS.out _ (ButS.of_below F))) ?_
      clear hK K'
      try simp only [Act.put, List.setIfInBounds_toArray, List.set_cons_zero, List.set_cons_succ]
      refine wpAnyTI_take (i := 4) (v := ?_) rfl (by kernel_rfl) (by kernel_rfl) (by kernel_rfl) (by kernel_rfl) (by kernel_rfl) (fun _ _ _ h => h) ⟨Or.inl ⟨by rfl, ?_⟩, fun _ => by rfl⟩ (HS.out _ (ButS.of_below F)) ?_
      rotate_left
      · intro w hSw
        (try dsimp only at hSw)
        go_simp
        all_goals with_reducible rfl
      simp only [Act.put, List.setIfInBounds_toArray, List.set_cons_zero, List.set_cons_succ]
      refine wpAnyTI_one (i := 7) (by kernel_rfl) rfl (fun K' hK => ?_)
      try rw [hfv]
      go_simp
      refine ⟨trivial, ?_⟩
      refine (CallsIn.inRound l (callsIn_wide.2 (lose_any (wAt D.wt k) _ X1))).mono ?_
      rintro e X2 ⟨rfl, hb2⟩
      have F2 : ButS W.heap.size (· = m1) W X2 := ButS.of_below (below_on F hb2)
      have hL : settleN D.wt bec D.lie k = settleN D.wt bec D.lie (k + 1) := by rw [settleN, HQ.out, if_neg (by decide)]
      have HF2 := HFin.out X2 _ F2 (HLi0.out.kept ((below_on F hb2).block m1 HMl.out)) hL
      clear hb2 hL
      refine hK.out _ _ (fun _ => HS.out _ F2) ?_
      clear hK K'
      try simp only [Act.put, List.setIfInBounds_toArray, List.set_cons_zero, List.set_cons_succ]
      refine wpAnyTI_done (by kernel_rfl) ?_ _
      have HFF := Lib.hid HF2
      clear HF2 F F2
      try simp only [Exit.then]
      gi_wp2
      exact HFF.out
    · have HQ := Lib.hid hq
      have HS : Hid (∀ X, ButS W.heap.size (· = m1) W X → (X.cell? ⟨w.heap.size, 0, none⟩ = some (.pointer (some ⟨p, 0, none⟩)) ∧ X.cell? ⟨w.heap.size + 1, 0, none⟩ = some (.func (.func g) fs lb) ∧ X.cell? ⟨w1.heap.size, 0, none⟩ = some (.map (some w0.heap.size)) ∧ (Instr.lookup 108 (.map (some w0.heap.size)) (.int .i64 (fateN true)) false).run Try.prog X = .ok (fateV true) X ∧ X.rangeAt b 0 (wrL (wAt D.wt k)))) := fun X hX => by
        obtain ⟨a0, a1, a2, a3, a4⟩ := HS0.out X hX
        exact ⟨a0, a1, a2, fate_look a3 true, a4⟩
      have F : Below W.heap.size W W.drew := (Below.refl _ _).drew
      have hfv : fateV true = .func (.func 71) #[] #[] := rfl
      have hent7 : ∀ args w, (callFunc 71 args).run Try.prog w = .ok (.enter 71 args) w := enters_of Try.func71 (by kernel_rfl) rfl
      clear hq
      refine wpIn_region_TI (fun w' => (w'.cell? ⟨w.heap.size, 0, none⟩ = some (.pointer (some ⟨p, 0, none⟩)) ∧ w'.cell? ⟨w.heap.size + 1, 0, none⟩ = some (.func (.func g) fs lb) ∧ w'.cell? ⟨w1.heap.size, 0, none⟩ = some (.map (some w0.heap.size)) ∧ (Instr.lookup 108 (.map (some w0.heap.size)) (.int .i64 (fateN true)) false).run Try.prog w' = .ok (fateV true) w' ∧ w'.rangeAt b 0 (wrL (wAt D.wt k)))) 8 (by kernel_rfl) ?_
      refine wpAnyTI_take (i := 0) (v := ?_) rfl (by kernel_rfl) (by kernel_rfl) (by kernel_rfl) (by kernel_rfl) (by kernel_rfl) (fun _ _ _ h => h) ⟨Or.inl ⟨by rfl, ?_⟩, fun _ => by rfl⟩ (HS.out _ (ButS.of_below F)) ?_
      rotate_left
      · intro w hSw
        (try dsimp only at hSw)
        go_simp
        all_goals with_reducible rfl
      simp only [Act.put, List.setIfInBounds_toArray, List.set_cons_zero, List.set_cons_succ]
      refine wpAnyTI_take (i := 1) (v := ?_) rfl (by kernel_rfl) (by kernel_rfl) (by kernel_rfl) (by kernel_rfl) (by kernel_rfl) (fun _ _ _ h => h) ⟨Or.inl ⟨by rfl, ?_⟩, fun _ => by rfl⟩ (HS.out _ (ButS.of_below F)) ?_
      rotate_left
      · intro w hSw
        (try dsimp only at hSw)
        go_simp
        all_goals with_reducible rfl
      simp only [Act.put, List.setIfInBounds_toArray, List.set_cons_zero, List.set_cons_succ]
      refine wpAnyTI_take (i := 2) (v := ?_) rfl (by kernel_rfl) (by kernel_rfl) (by kernel_rfl) (by kernel_rfl) (by kernel_rfl) (fun _ _ _ h => h) ⟨Or.inl ⟨by rfl, ?_⟩, fun _ => by rfl⟩ (HS.out _ (ButS.of_below F)) ?_
      rotate_left
      · intro w hSw
        (try dsimp only at hSw)
        go_simp
        all_goals with_reducible rfl
      simp only [Act.put, List.setIfInBounds_toArray, List.set_cons_zero, List.set_cons_succ]
      refine wpAnyTI_take (i := 5) (v := wrV (wAt D.wt k)) rfl (by kernel_rfl) (by kernel_rfl) (by kernel_rfl) (by kernel_rfl) (by kernel_rfl) (fun _ _ _ h => h) ⟨yieldsIf_load_mid (by rfl) 88 (.tmp 6) rfl b 0 (by rfl) (wrL (wAt D.wt k)) _ (fun _ hS => hS.2.2.2.2) Try.underlying88 rfl (by rw [HLn.out]; kernel_rfl), fun _ => by rfl⟩ (HS.out _ (ButS.of_below F)) ?_
      simp only [Act.put, List.setIfInBounds_toArray, List.set_cons_zero, List.set_cons_succ]
      refine wpAnyTI_take (i := 6) (v := ?_) rfl (by kernel_rfl) (by kernel_rfl) (by kernel_rfl) (by kernel_rfl) (by kernel_rfl) (fun _ _ _ h => h) ⟨Or.inl ⟨by rfl, ?_⟩, fun _ => by rfl⟩ (HS.out _ (ButS.of_below F)) ?_
      rotate_left
      · intro w hSw
        (try dsimp only at hSw)
        go_simp
        all_goals with_reducible rfl
      simp only [Act.put, List.setIfInBounds_toArray, List.set_cons_zero, List.set_cons_succ]
      refine wpAnyTI_one (i := 3) (by kernel_rfl) rfl (fun K' hK => ?_)
      go_simp
      refine ⟨trivial, ?_⟩
      refine (CallsIn.inRound l (callsIn_wide.2 (HCall.out _ (ButS.of_below F)))).mono ?_
      rintro e X1 ⟨rfl, hb1⟩
      rw [HQ.out]
      replace F := below_on F hb1
      clear hb1
      refine hK.out _ _ (fun _ => (HS.out _ (ButS.of_below F))) ?_
      clear hK K'
      try simp only [Act.put, List.setIfInBounds_toArray, List.set_cons_zero, List.set_cons_succ]
      refine wpAnyTI_take (i := 4) (v := ?_) rfl (by kernel_rfl) (by kernel_rfl) (by kernel_rfl) (by kernel_rfl) (by kernel_rfl) (fun _ _ _ h => h) ⟨Or.inl ⟨by rfl, ?_⟩, fun _ => by rfl⟩ (HS.out _ (ButS.of_below F)) ?_
      rotate_left
      · intro w hSw
        (try dsimp only at hSw)
        go_simp
        all_goals with_reducible rfl
      simp only [Act.put, List.setIfInBounds_toArray, List.set_cons_zero, List.set_cons_succ]
      refine wpAnyTI_one (i := 7) (by kernel_rfl) rfl (fun K' hK => ?_)
      try rw [hfv]
      go_simp
      refine ⟨trivial, ?_⟩
      have hlay := lay_any p m1 (settleN D.wt bec D.lie k) (wAt D.wt k) HLw.out X1 (Nat.lt_of_lt_of_le HPl.out F.size) HQn.out.2.1 (HCp.out _ (ButS.of_below F)) (HLi0.out.kept (F.block m1 HMl.out))
      refine (CallsIn.inRound l (callsIn_wide.2 hlay)).mono ?_
      rintro e X2 ⟨rfl, hl2, hb2⟩
      have F2 : ButS W.heap.size (· = m1) W X2 := (ButS.of_below F).trans (hb2.mono F.size fun _ _ h => h)
      have HL2 := Lib.hid hl2
      have hL : layM (settleN D.wt bec D.lie k) (wAt D.wt k) = settleN D.wt bec D.lie (k + 1) := by rw [settleN, HQ.out, if_pos rfl]
      have HF2 := HFin.out X2 _ F2 HL2.out hL
      clear hl2 hb2 hlay hL
      refine hK.out _ _ (fun _ => HS.out _ F2) ?_
      clear hK K'
      try simp only [Act.put, List.setIfInBounds_toArray, List.set_cons_zero, List.set_cons_succ]
      refine wpAnyTI_done (by kernel_rfl) ?_ _
      have HFF := Lib.hid HF2
      clear HF2 F F2
      try simp only [Exit.then]
      gi_wp2
      exact HFF.out
  case done =>
    rintro D' W hD' ⟨hIb, hIl⟩ hK
    clear hgo hI0
    have hln := HLt.out
    have hs3 := hIb.size
    have hw3 := HBw3.out.size
    obtain ⟨s1, s2, s3, s4⟩ := HQs.out
    obtain ⟨n1, n2, n3, n4, n5, n6⟩ := HQn.out
    have hold : ∀ j, j < w.heap.size → j ≠ m1 → W.heap[j]? = w.heap[j]? := fun j hj hne => (hIb.block j (by omega) hne).trans (HBw3.out.block j hj)
    have q1 := HQ1.out.kept (hold p hln.1 n2)
    have q4 := HQ4.out.kept (hold m2 hln.2.2.1 (Ne.symm n1))
    have hbut : ButS w.heap.size S w W := (ButS.of_below HBw3.out).trans (hIb.mono (by omega) fun b _ h => by rw [h]; exact s2)
    obtain ⟨x0, x1⟩ := HX0.out w3 (below_on HB02.out HB3.out)
    have hz := HSz.out.1
    have c0 := (World.cell?_of_block (a := ⟨w.heap.size, 0, none⟩) (hIb.block w.heap.size (by have := HB02.out.size; have := HB3.out.size; omega) (by have := hln.2.1; omega))).trans x0
    have c2 := q1.1 2 _ rfl
    have f2 := q1.2 2
    have c3 := q1.1 3 _ rfl
    obtain ⟨W1, hW1⟩ : ∃ W1, W1 = W.setCell ⟨p, 2, none⟩ (.slice none 0 0) := ⟨_, rfl⟩
    have r1 : RowB W1 p [.int .i64 D.n, .map (some m1), .slice none 0 0, .map (some m2), .int .i64 D.left] := by rw [hW1]; exact q1.set 2 _
    have hb1 : ∀ j, j ≠ p → W1.heap[j]? = W.heap[j]? := fun j hj => by rw [hW1]; exact Below.heap_setCell _ _ _ _ hj
    have q41 := q4.kept (hb1 m2 (Ne.symm n3))
    obtain ⟨o, hcl, hm⟩ := q41.clear Try.underlying70 0
    obtain ⟨W2, hW2⟩ : ∃ W2, W2 = setB W1 m2 o := ⟨_, rfl⟩
    rw [← hW2] at hcl hm
    have hb2 : ∀ j, j ≠ m2 → W2.heap[j]? = W1.heap[j]? := fun j hj => by rw [hW2]; exact setB_block _ _ _ _ hj
    have hs2 : W2.heap.size = W.heap.size := by rw [hW2, setB_size, hW1, World.size_setCell]
    have hDp : D' ≠ p := by omega
    have hDm : D' ≠ m2 := by have := hln.2.2.1; omega
    have hK2 : W2.heap[D']? = some (.deferred (some [])) := by rw [hb2 _ hDm, hb1 _ hDp]; exact hK
    have hlt : D' < W2.heap.size := (Array.getElem?_eq_some_iff.1 hK2).1
    have hput : ∀ j, j ≠ D' → (W2.putObj D' (.deferred none)).heap[j]? = W2.heap[j]? := fun j hj => World.putObj_heap_other hj
    have hfin : DkAt (W2.putObj D' (.deferred none)) S p (D.settled bec) ∧ ButS w.heap.size S w (W2.putObj D' (.deferred none)) := by
      have hl1 := hln.1
      have hl2 := hln.2.1
      have hl3 := hln.2.2.1
      obtain ⟨f', g1, g2⟩ := hIl
      refine ⟨⟨m1, m2, .slice none 0 0, f', (fun _ => none), r1.kept ?_, ?_⟩, ?_⟩
      · rw [hput p (by omega), hb2 p n3]
      · refine ⟨?_, g2, ?_, fun k => rfl, World.ownsRow_nil _ _ _ _, s1, s2, s3, (fun j hj => by cases hj), n1, n2, n3, (fun h => by cases h), (fun h => by cases h), (fun h => by cases h)⟩
        · exact g1.kept (by rw [hput m1 (by omega), hb2 m1 n1, hb1 m1 (Ne.symm n2)])
        · exact hm.kept (by rw [hput m2 (by omega)])
      · refine ⟨?_, ?_, ?_, ?_, fun j hj hn => ?_⟩
        · rw [show (W2.putObj D' (.deferred none)).os = W.os by rw [hW2, hW1]; rfl]; exact hbut.os
        · rw [show (W2.putObj D' (.deferred none)).tape = W.tape by rw [hW2, hW1]; rfl]; exact hbut.tape
        · rw [show (W2.putObj D' (.deferred none)).output = W.output by rw [hW2, hW1]; rfl]; exact hbut.output
        · have : (W2.putObj D' (.deferred none)).heap.size = W2.heap.size := by simp [World.putObj]
          rw [this, hs2]; omega
        · have hjp : j ≠ p := by rintro rfl; exact hn s1
          have hj2 : j ≠ m2 := by rintro rfl; exact hn s3
          rw [hput j (by omega), hb2 j hj2, hb1 j hjp]
          exact hbut.block j hj hn
    have HF := Lib.hid hfin
    have HK2 := Lib.hid hK2
    have HWW1 := Lib.hid hW1
    have d0 : W1.cell? ⟨w.heap.size, 0, none⟩ = some (.pointer (some ⟨p, 0, none⟩)) := (World.cell?_of_block (a := ⟨w.heap.size, 0, none⟩) (hb1 w.heap.size (by omega))).trans c0
    have d3 := r1.1 3 _ rfl
    clear hfin hput hlt hK2 hDp hDm hs2 hb2 hm q41 hb1 r1 c3 hbut hold hIb hIl hK s1 s2 s3 s4 n1 n2 n3 n4 n5 n6 q1 q4 hln hs3 hw3 hz x0 x1 hD'
    go_upto_region 7 with fail
    rw [← HWW1.out]
    clear hW1 c0 c2 f2
    have HWW2 := Lib.hid hW2
    rw [hW2] at hcl
    clear hW2
    go_wp2_with fail
    rw [← HWW2.out]
    refine marks_one HK2.out (results_none rfl _ _ _) ?_
    exact ⟨rfl, HF.out⟩
  case stop =>
    intro D' c k W _ _ h
    exact h.elim

end Go.Proofs.Ytekeooeapiodmaa

