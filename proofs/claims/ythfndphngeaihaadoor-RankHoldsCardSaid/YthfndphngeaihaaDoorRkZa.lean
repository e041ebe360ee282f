/- Package rank: sums. -/
import Derived.Test.YthfndphngeaihaaDoorRkZ
namespace Go.Proofs.YthfndphngeaihaaDoor
open Go Go.RowKit Go.Shelf
open Go.ChangeMaps (setBlock)
set_option linter.unusedSimpArgs false
set_option linter.unusedVariables false
set_option linter.unusedSectionVars false
set_option maxRecDepth 100000

attribute [local go_sem] Oper.semAt_some

def anyN (D : List Wt) (node : Int) (P : Qk → Bool) : Bool := D.any fun x => decide (x.node = node) && P x.qk
def sumF (D : List Wt) (f : Wt → Bool) : Int := ((D.filter f).map Wt.size).sum
def sumN (D : List Wt) (node : Int) (P : Qk → Bool) : Int := sumF D fun x => decide (x.node = node) && P x.qk
def SumsOk (lc : List (Int × Value)) (D : List Wt) (P : Qk → Bool) : Prop := ∀ node, lk lc node = if anyN D node P = true then some (.int .i64 (sumN D node P)) else none
def doneQ (todo : List (Qk × Value)) (q : Qk) : Bool := (lk todo q).isNone
theorem sumF_cons (x : Wt) (D : List Wt) (f : Wt → Bool) : sumF (x :: D) f = (if f x = true then x.size else 0) + sumF D f := by
  unfold sumF
  rw [List.filter_cons]
  by_cases h : f x = true
  · simp [h]
  · simp [h]
theorem sumF_or (f g k : Wt → Bool) : ∀ (D : List Wt), (∀ x ∈ D, k x = (f x || g x)) → (∀ x ∈ D, (f x && g x) = false) → sumF D k = sumF D f + sumF D g
  | [], _, _ => rfl
  | x :: D, h1, h2 => by
    have ih := sumF_or f g k D (fun y hy => h1 y (List.mem_cons_of_mem _ hy)) (fun y hy => h2 y (List.mem_cons_of_mem _ hy))
    have e1 := h1 x List.mem_cons_self
    have e2 := h2 x List.mem_cons_self
    rw [sumF_cons, sumF_cons, sumF_cons, ih, e1]
    cases hf : f x <;> cases hg : g x <;> simp [hf, hg] at e2 ⊢ <;> omega
theorem sumF_congr {f g : Wt → Bool} : ∀ (D : List Wt), (∀ x ∈ D, f x = g x) → sumF D f = sumF D g
  | [], _ => rfl
  | x :: D, h => by rw [sumF_cons, sumF_cons, h x List.mem_cons_self, sumF_congr D (fun y hy => h y (List.mem_cons_of_mem _ hy))]
theorem sumF_ok (f : Wt → Bool) : ∀ (D : List Wt), SzOk D → 0 ≤ sumF D f ∧ sumF D f ≤ 65536 * D.length
  | [], _ => by simp [sumF]
  | x :: D, h => by
    have ih := sumF_ok f D (fun y hy => h y (List.mem_cons_of_mem _ hy))
    have h1 := h x List.mem_cons_self
    rw [sumF_cons, List.length_cons]
    split <;> omega
theorem sumF_none {f : Wt → Bool} : ∀ (D : List Wt), D.any f = false → sumF D f = 0
  | [], _ => rfl
  | x :: D, h => by
    simp only [List.any_cons, Bool.or_eq_false_iff] at h
    rw [sumF_cons, sumF_none D h.2, h.1]
    rfl
theorem sums_look {lc : List (Int × Value)} {D : List Wt} {P : Qk → Bool} (h : SumsOk lc D P) (node : Int) : (lk lc node).getD (.int .i64 0) = .int .i64 (sumN D node P) := by
  rw [h node]
  cases ha : anyN D node P with
  | true => rfl
  | false =>
    unfold sumN
    rw [sumF_none D ha]
    rfl
/-- What waits in a queue, together. -/
theorem sumS_queue {D : List Wt} (hn : (D.map Wt.nm).Nodup) (q : Qk) : sumS D (namesOf D q) = sumF D fun x => decide (x.qk = q) := by
  unfold sumS namesOf sumF
  rw [List.map_map]
  congr 1
  refine List.map_congr_left fun x hx => ?_
  have hxD := (List.mem_filter.1 hx).1
  show ((wt D x.nm).getD wtZ).size = x.size
  rw [wt_of_mem hn hxD]
  rfl
theorem sums_step {lc : List (Int × Value)} {D : List Wt} {P P' : Qk → Bool} {q : Qk} (h : SumsOk lc D P) (hq : P q = false) (hx : ∃ x ∈ D, x.qk = q) (hP : ∀ k, P' k = (decide (k = q) || P k)) :
    SumsOk (up lc q.node (.int .i64 (sumN D q.node P + sumF D fun x => decide (x.qk = q)))) D P' := fun node => by
  rw [lk_up]
  by_cases e : node = q.node
  · subst e
    rw [if_pos rfl]
    obtain ⟨x, hxD, hxq⟩ := hx
    have ha : anyN D q.node P' = true := List.any_eq_true.2 ⟨x, hxD, by rw [hP, hxq]; simp [← hxq, Wt.qk]⟩
    rw [if_pos ha]
    have := sumF_or (fun x => decide (x.node = q.node) && P x.qk) (fun x => decide (x.qk = q)) (fun x => decide (x.node = q.node) && P' x.qk) D (fun y _ => by
      show (decide (y.node = q.node) && P' y.qk) = ((decide (y.node = q.node) && P y.qk) || decide (y.qk = q))
      rw [hP]
      by_cases hy : y.qk = q
      · have : y.node = q.node := by rw [← hy]; rfl
        simp [hy, this]
      · simp [hy]) (fun y _ => by
      show ((decide (y.node = q.node) && P y.qk) && decide (y.qk = q)) = false
      by_cases hy : y.qk = q
      · simp [hy, hq]
      · simp [hy])
    show some _ = some (Value.int .i64 (sumF D fun x => decide (x.node = q.node) && P' x.qk))
    rw [this]
    rfl
  · rw [if_neg e, h node]
    have hc : ∀ y ∈ D, (decide (y.node = node) && P y.qk) = (decide (y.node = node) && P' y.qk) := fun y _ => by
      rw [hP]
      by_cases hy : y.qk = q
      · have : ¬ y.node = node := fun h' => e (by rw [← hy]; exact h'.symm)
        simp [this]
      · simp [hy]
    have h1 : anyN D node P = anyN D node P' := by
      unfold anyN
      rw [Bool.eq_iff_iff, List.any_eq_true, List.any_eq_true]
      exact ⟨fun ⟨y, hy, h⟩ => ⟨y, hy, by rw [← hc y hy]; exact h⟩, fun ⟨y, hy, h⟩ => ⟨y, hy, by rw [hc y hy]; exact h⟩⟩
    have h2 : sumN D node P = sumN D node P' := sumF_congr D hc
    rw [h1, h2]
theorem zeroI (w : World) : (zeroValue 3).run Tryd.prog w = .ok (.int .i64 0) w := by
  kernel_rfl

set_option maxHeartbeats 8000000 in
theorem sums_any (S : Nat → Prop) (p : Nat) (most : Int) (D : List Wt) (w : World) (h : LineAt w S p most D) (hs : SzOk D) (hlen : D.length ≤ 100000) :
    Calls Tryd.prog 37 #[.pointer (some ⟨p, 0, none⟩)] w fun e w' => (∃ m lc, e = .returned (.map (some m)) ∧ KMap encU w' m lc ∧ SumsOk lc D (fun _ => true) ∧ w.heap.size ≤ m) ∧ Below w.heap.size w w' := by
  obtain ⟨bq, bw, lq, lw, h1, h2, h3, h4, h5, h6, h7⟩ := id h
  have HL := Lib.hid h
  obtain ⟨W, hW⟩ : ∃ W, W = (w.alloc (.cells #[.pointer (some ⟨p, 0, none⟩)] 32)).alloc (.map #[] 0) := ⟨_, rfl⟩
  obtain ⟨bl, hbl⟩ : ∃ b, b = w.heap.size := ⟨_, rfl⟩
  obtain ⟨m, hm⟩ : ∃ b, b = w.heap.size + 1 := ⟨_, rfl⟩
  have HB0 : Hid (Below w.heap.size w W) := by rw [hW]; exact below_al (below_al (Below.refl _ _) _) _
  have HZ0 : Hid (W.heap.size = m + 1 ∧ m = bl + 1 ∧ bl = w.heap.size) := ⟨by rw [hW, hm]; simp, by omega, hbl⟩
  have HR0 : Hid (RowB W bl [.pointer (some ⟨p, 0, none⟩)]) := by
    rw [Hid, hW, hbl]
    exact (RowB.new w [.pointer (some ⟨p, 0, none⟩)] _).on (below_al (Below.refl _ _) _) (by simp)
  have HM0 : Hid (KMap encU W m []) := by
    rw [Hid, hW, hm]
    have := KMap.made (enc := encU) (w.alloc (.cells #[.pointer (some ⟨p, 0, none⟩)] 32))
    rw [World.size_alloc] at this
    exact this
  have HQm := Lib.hid h2
  have HQs := Lib.hid h4
  have HWs := Lib.hid h5
  have HSz := Lib.hid hs
  have HLe := Lib.hid hlen
  have c0 := HR0.out.1 0 _ rfl
  have c1 := (h1.on HB0.out h1.lt).1 1 _ rfl
  have hq0 : KMap encQk W bq lq := h2.kept (HB0.out.block _ h2.lt)
  have hmf := mkF
  have hmm := @run_makeMap Tryd.prog
  have HW := Lib.hid hW
  clear h h1 h2 h3 h4 h5 h6 h7 hs hlen hW
  go_enter Tryd.func37, Tryd.ntmps37
  go_upto_region 2 with fail
  rw [← HW.out, ← hm, ← hbl]
  clear hbl hm
  go_wp2_with (first
    | (at_range; refine wpList_range_K _ rfl _ 59 rfl _ _ Tryd.underlying59 bq lq rfl hq0 ?_; intro o7 hrg)
    | fail)
  go_frame
  obtain ⟨r, hr⟩ : ∃ r, r = W.heap.size := ⟨_, rfl⟩
  obtain ⟨W7, hW7⟩ : ∃ X, X = W.alloc o7 := ⟨_, rfl⟩
  rw [← hW7, ← hr] at hrg ⊢
  have HR7 : Hid (RngK encQk W7 bq r lq lq) := hrg
  have HB7 : Hid (Below W.heap.size W W7) := by rw [Hid, hW7]; exact below_al (Below.refl _ _) _
  have HZ7 : Hid (r = m + 1 ∧ W7.heap.size = r + 1) := by
    have := HZ0.out.1
    rw [Hid, hW7, hr]
    exact ⟨by omega, by simp⟩
  have HM7 : Hid (KMap encU W7 m []) := HM0.out.kept (HB7.out.block _ HM0.out.lt)
  have HC7 : Hid (RowB W7 bl [.pointer (some ⟨p, 0, none⟩)]) := HR0.out.on HB7.out HR0.out.lt
  have HBw7 : Hid (Below w.heap.size w W7) := HB0.out.trans (HB7.out.mono HB0.out.size)
  clear c0 c1 hq0 hrg hr hW7
  go_loopw [12] (fun _ wr => ∃ (todo : List (Qk × Value)) (lc : List (Int × Value)), RngK encQk wr bq r lq todo ∧ Hid (KMap encU wr m lc ∧ SumsOk lc D (doneQ todo) ∧ (∀ q v, lk lq q = some v → lk todo q = none → doneQ todo q = true) ∧ Below w.heap.size w wr ∧ W7.heap.size ≤ wr.heap.size ∧ RowB wr bl [.pointer (some ⟨p, 0, none⟩)])) (fun _ wr => wr.rangeLeft bq r)
  case atStart =>
    refine ⟨lq, [], HR7.out, HM7.out, fun node => ?_, fun q v h1 h2 => (by rw [h1] at h2; cases h2), HBw7.out, Nat.le_refl _, HC7.out⟩
    have : anyN D node (doneQ lq) = false := by
      unfold anyN
      rw [List.any_eq_false]
      intro x hx
      have hne : namesOf D x.qk ≠ [] := fun e => by
        have := namesOf_mem.2 ⟨x, hx, rfl, rfl⟩
        rw [e] at this
        cases this
      have h1 : lk lq x.qk ≠ none := fun e => hne ((HQs.out.1 _).1 e)
      unfold doneQ
      cases hl : lk lq x.qk with
      | none => exact absurd hl h1
      | some v => simp
    rw [this]
    rfl
  case round =>
    obtain ⟨todo, lc, c1, HI⟩ := hrel
    have HC1 := Lib.hid c1
    go_wp2_with (first
      | (at_next; refine wpList_next_K _ rfl _ rfl _ keyQk bq r lq todo rfl c1 ?_ ?_)
      | fail)
    · intro ht
      have HT := Lib.hid ht
      clear ht c1
      go_wp2_with fail
      go_ret
      have hT := HT.out
      subst hT
      exact ⟨⟨m, lc, rfl, HI.out.1, HI.out.2.1, by have := HZ0.out; omega⟩, HI.out.2.2.2.1⟩
    · intro q v w1 o1 pre post hsp hw1 hrg1 hen
      have hlq : lk lq q = some v := lk_of_mem (HQm.out.nodup) (c1.sub.subset (by rw [hsp]; simp))
      clear c1
      obtain ⟨We, hWe⟩ : ∃ X, X = setBlock w1 r o1 := ⟨_, rfl⟩
      rw [← hWe] at hrg1 ⊢
      have hrl := HC1.out.rlt
      have hrw : w.heap.size ≤ r := by have := HZ0.out; have := HZ7.out; omega
      have hbq : bq < w.heap.size := HQm.out.lt
      have hw1h : w1.heap = wr.heap ∧ Below w.heap.size w w1 := by
        rcases hw1 with rfl | rfl
        · exact ⟨rfl, HI.out.2.2.2.1⟩
        · exact ⟨rfl, HI.out.2.2.2.1.drew⟩
      have HWe : Hid (We.heap.size = wr.heap.size ∧ (∀ j, j ≠ r → We.heap[j]? = wr.heap[j]?) ∧ We.heap[r]? = some o1 ∧ Below w.heap.size w We) := by
        rw [Hid, hWe]
        refine ⟨by rw [setBlock_size, hw1h.1], fun j hj => by rw [setBlock_block _ _ _ _ hj, hw1h.1], heap_setBlock (by rw [hw1h.1]; exact hrl) o1, ?_⟩
        exact (ButS.setBlock (S := fun _ => False) (ButS.of_below hw1h.2) (.inr hrw) o1).below (Nat.le_refl _) (fun k h => h.elim)
      have he := hen We (by rw [HWe.out.2.1 bq (by omega)]) HWe.out.2.2.1
      unfold encQk at he
      have HRG := Lib.hid hrg1
      have HSP := Lib.hid hsp
      have HVq := Lib.hid hlq
      have HRl := Lib.hid hrl
      clear hen hrg1 hsp hlq hw1 hw1h hWe w1 hrl hrw hbq
      go_upto_region 5 with fail
      obtain ⟨Wf, hWf⟩ : ∃ X, X = (We.alloc (.cells #[.int .u32 q.node, .int .i64 q.rank] 68)).drew := ⟨_, rfl⟩
      obtain ⟨bk, hbk⟩ : ∃ b, b = We.heap.size := ⟨_, rfl⟩
      rw [← hbk]
      have HBf : Hid (Below We.heap.size We Wf) := by rw [Hid, hWf]; exact (below_al (Below.refl _ _) _).drew
      have HZf : Hid (bk = wr.heap.size ∧ Wf.heap.size = bk + 1) := by
        rw [Hid, hbk, hWf]
        exact ⟨HWe.out.1, by simp⟩
      have HKf : Hid (RowB Wf bk [.int .u32 q.node, .int .i64 q.rank]) := by
        rw [Hid, hWf, hbk]
        exact (RowB.new We [.int .u32 q.node, .int .i64 q.rank] _).kept rfl
      have HWf := Lib.hid hWf
      clear hWf hbk he
      have HKp : Hid (∀ j, j < wr.heap.size → j ≠ r → Wf.heap[j]? = wr.heap[j]?) := fun j hj hr => (HBf.out.block j (by rw [HWe.out.1]; exact hj)).trans (HWe.out.2.1 j hr)
      have HLf : Hid (m < wr.heap.size ∧ m ≠ r ∧ bl < wr.heap.size ∧ bl ≠ r ∧ bl ≠ m ∧ bk < Wf.heap.size) := by
        have hz0 := HZ0.out
        have hz7 := HZ7.out
        have := HI.out.2.2.2.2.1
        have := HZf.out
        exact ⟨by omega, by omega, by omega, by omega, by omega, by omega⟩
      have HBw : Hid (Below w.heap.size w Wf) := HWe.out.2.2.2.trans (HBf.out.mono HWe.out.2.2.2.size)
      have HMf : Hid (KMap encU Wf m lc) := HI.out.1.kept (HKp.out m HLf.out.1 HLf.out.2.1)
      have HRf : Hid (RowB Wf bl [.pointer (some ⟨p, 0, none⟩)]) := HI.out.2.2.2.2.2.kept (HKp.out bl HLf.out.2.2.1 HLf.out.2.2.2.1)
      have hof := ownsRow_kept (HQs.out.2.1 q v HVq.out) fun j hj => HBw.out.block j (HQs.out.lt HVq.out hj)
      have hxq : ∃ x ∈ D, x.qk = q := by
        have hp := HQs.out.pos HVq.out
        obtain ⟨n0, hn0⟩ : ∃ n0, n0 ∈ namesOf D q := ⟨(namesOf D q)[0], List.getElem_mem hp⟩
        obtain ⟨x, hx, hq, _⟩ := namesOf_mem.1 hn0
        exact ⟨x, hx, hq⟩
      obtain ⟨g, cap, rfl⟩ := own_ptr hof (HQs.out.pos HVq.out)
      have HOf := Lib.hid hof
      obtain ⟨n, hn⟩ : ∃ n, n = (namesOf D q).length := ⟨_, rfl⟩
      obtain ⟨cur, hcur⟩ : ∃ c, c = sumN D q.node (doneQ todo) := ⟨_, rfl⟩
      obtain ⟨tot, htot⟩ : ∃ c, c = sumS D (namesOf D q) := ⟨_, rfl⟩
      rw [← hn]
      have HNn := Lib.hid hn
      have HCu := Lib.hid hcur
      have HTo := Lib.hid htot
      have HXq := Lib.hid hxq
      have HX : Hid (∀ X, Below Wf.heap.size Wf X → (X.cell? ⟨bk, 0, none⟩ = some (.int .u32 q.node) ∧ (Instr.lookup 75 (.map (some m)) (.int .u32 q.node) false).run Tryd.prog X = .ok (.int .i64 cur) X)) := fun X hb => by
        refine ⟨(HKf.out.on hb HLf.out.2.2.2.2.2).1 0 _ rfl, ?_⟩
        have hmx : KMap encU X m lc := HMf.out.kept (hb.block _ HMf.out.lt)
        have := hmx.look keyU Tryd.underlying75 zeroI q.node false
        rw [if_neg (by simp), sums_look HI.out.2.1, ← HCu.out] at this
        exact this
      have hwr : IntKind.i64.wrap (cur + tot) = cur + tot := by
        have h1 := sumF_ok (fun x => decide (x.node = q.node) && doneQ todo x.qk) D HSz.out
        have h2 := sumS_ok HSz.out (namesOf D q)
        have h3 := namesOf_len D q
        have h4 := HLe.out
        have e1 : cur = sumF D (fun x => decide (x.node = q.node) && doneQ todo x.qk) := hcur
        rw [← e1] at h1
        rw [← htot] at h2
        simp [IntKind.wrap, IntKind.signed, IntKind.bits]
        omega
      clear hof hn hcur htot hxq
      refine wp_region_T (fun X => (X.cell? ⟨bk, 0, none⟩ = some (.int .u32 q.node) ∧ (Instr.lookup 75 (.map (some m)) (.int .u32 q.node) false).run Tryd.prog X = .ok (.int .i64 cur) X)) 8 (by kernel_rfl) ?_
      rw [← HWf.out]
      refine wpAnyT_take (i := 0) (v := ?_) rfl (by kernel_rfl) (by kernel_rfl) (by kernel_rfl) (by kernel_rfl) (fun _ _ _ h => h) (Or.inl ⟨by rfl, ?_⟩) (HX.out _ (Below.refl _ _)) ?_
      rotate_left
      · intro w hSw
        (try dsimp only at hSw)
        go_simp
        all_goals with_reducible rfl
      simp only [Act.put, List.setIfInBounds_toArray, List.set_cons_zero, List.set_cons_succ]
      refine wpAnyT_take (i := 1) (v := ?_) rfl (by kernel_rfl) (by kernel_rfl) (by kernel_rfl) (by kernel_rfl) (fun _ _ _ h => h) (Or.inl ⟨by rfl, ?_⟩) (HX.out _ (Below.refl _ _)) ?_
      rotate_left
      · intro w hSw
        (try dsimp only at hSw)
        go_simp
        all_goals with_reducible rfl
      simp only [Act.put, List.setIfInBounds_toArray, List.set_cons_zero, List.set_cons_succ]
      refine wpAnyT_take (i := 2) (v := ?_) rfl (by kernel_rfl) (by kernel_rfl) (by kernel_rfl) (by kernel_rfl) (fun _ _ _ h => h) (Or.inl ⟨by rfl, ?_⟩) (HX.out _ (Below.refl _ _)) ?_
      rotate_left
      · intro w hSw
        (try dsimp only at hSw)
        go_simp
        all_goals with_reducible rfl
      simp only [Act.put, List.setIfInBounds_toArray, List.set_cons_zero, List.set_cons_succ]
      refine wpAnyT_take (i := 3) (v := ?_) rfl (by kernel_rfl) (by kernel_rfl) (by kernel_rfl) (by kernel_rfl) (fun _ _ _ h => h) (Or.inl ⟨by rfl, ?_⟩) (HX.out _ (Below.refl _ _)) ?_
      rotate_left
      · intro w hSw
        (try dsimp only at hSw)
        go_simp
        all_goals with_reducible rfl
      simp only [Act.put, List.setIfInBounds_toArray, List.set_cons_zero, List.set_cons_succ]
      refine wpAnyT_take (i := 4) (v := ?_) rfl (by kernel_rfl) (by kernel_rfl) (by kernel_rfl) (by kernel_rfl) (fun _ _ _ h => h) (Or.inl ⟨by rfl, ?_⟩) (HX.out _ (Below.refl _ _)) ?_
      rotate_left
      · intro w hSw
        (try dsimp only at hSw)
        go_simp
        all_goals with_reducible rfl
      simp only [Act.put, List.setIfInBounds_toArray, List.set_cons_zero, List.set_cons_succ]
      refine wpAnyT_take (i := 5) (v := ?_) rfl (by kernel_rfl) (by kernel_rfl) (by kernel_rfl) (by kernel_rfl) (fun _ _ _ h => h) (Or.inl ⟨by rfl, ?_⟩) (HX.out _ (Below.refl _ _)) ?_
      rotate_left
      · intro w hSw
        (try dsimp only at hSw)
        go_simp
        all_goals with_reducible rfl
      simp only [Act.put, List.setIfInBounds_toArray, List.set_cons_zero, List.set_cons_succ]
      refine wpAnyT_one (i := 6) (by kernel_rfl) rfl (fun K hK => ?_)
      go_simp
      rw [HNn.out]
      refine (total_any S p bl most D g cap (namesOf D q) Wf (HL.out.on HBw.out) HSz.out (HRf.out.1 0 _ rfl) HRf.out.lt (own_names HOf.out) (World.ownsRow.lt HOf.out g rfl).2 (Nat.le_trans (namesOf_len D q) HLe.out)).mono ?_
      rintro e X ⟨rfl, hb'⟩
      rw [← HTo.out]
      have HBx := Lib.hid hb'
      have HMx : Hid (KMap encU X m lc) := HMf.out.kept (HBx.out.block m HMf.out.lt)
      obtain ⟨om, hup, hm9⟩ := HMx.out.update keyU Tryd.underlying75 q.node (.int .i64 (cur + tot))
      unfold encU at hup
      have hm9 := Lib.hid hm9
      clear hb'
      refine hK.out _ _ (fun _ => (HX.out _ HBx.out)) ?_
      clear hK K
      try simp only [Act.put, List.setIfInBounds_toArray, List.set_cons_zero, List.set_cons_succ]
      refine wpAnyT_take (i := 7) (v := ?_) rfl (by kernel_rfl) (by kernel_rfl) (by kernel_rfl) (by kernel_rfl) (fun _ _ _ h => h) (Or.inl ⟨by rfl, ?_⟩) (HX.out _ HBx.out) ?_
      rotate_left
      · intro w hSw
        (try dsimp only at hSw)
        go_simp
        all_goals with_reducible rfl
      simp only [Act.put, List.setIfInBounds_toArray, List.set_cons_zero, List.set_cons_succ]
      refine wpAnyT_one (i := 8) (by kernel_rfl) rfl (fun K hK => ?_)
      go_simp
      refine hK.out _ _ (fun h => absurd h (by decide)) ?_
      clear hK K
      try simp only [Act.put, List.setIfInBounds_toArray, List.set_cons_zero, List.set_cons_succ]
      refine wpAnyT_done (by kernel_rfl) ?_ _
      obtain ⟨W9, hW9⟩ : ∃ W, W = setBlock X m om := ⟨_, rfl⟩
      rw [← hW9]
      have HW9 : Hid (W9.heap.size = X.heap.size ∧ (∀ j, j ≠ m → W9.heap[j]? = X.heap[j]?) ∧ Below w.heap.size w W9) := by
        rw [Hid, hW9]
        refine ⟨setBlock_size _ _ _, fun j hj => setBlock_block _ _ _ _ hj, ?_⟩
        exact (ButS.setBlock (S := fun _ => False) (ButS.of_below (HBw.out.trans (HBx.out.mono HBw.out.size))) (.inr (by have := HZ0.out; omega)) om).below (Nat.le_refl _) (fun k h => h.elim)
      have HM9 : Hid (KMap encU W9 m (up lc q.node (.int .i64 (cur + tot)))) := by rw [Hid, hW9]; exact hm9.out
      clear hW9 hm9 hup hwr
      go_wp2_with fail
      have hz0 := HZ0.out
      have hz7 := HZ7.out
      have hzf := HZf.out
      have hlf := HLf.out
      have hI2 := HI.out.2.2.2.2.1
      have hsx := HBx.out.size
      have hrl := HRl.out
      have hk9 : ∀ j, j < wr.heap.size → j ≠ r → j ≠ m → W9.heap[j]? = wr.heap[j]? := fun j hj h1 h2 => (HW9.out.2.1 j h2).trans ((HBx.out.block j (by omega)).trans (HKp.out j hj h1))
      have hkr : W9.heap[r]? = We.heap[r]? := (HW9.out.2.1 r (by omega)).trans ((HBx.out.block r (by omega)).trans (HBf.out.block r (by rw [HWe.out.1]; exact hrl)))
      have hbq : bq < w.heap.size := HQm.out.lt
      have hkq : W9.heap[bq]? = We.heap[bq]? := (HW9.out.2.1 bq (by omega)).trans ((HBx.out.block bq (by omega)).trans (HBf.out.block bq (by rw [HWe.out.1]; omega)))
      have hr9 : RngK encQk W9 bq r lq (pre ++ post) := HRG.out.kept hkq hkr
      have hnd : (todo.map (·.1)).Nodup := (HC1.out.sub.map _).nodup HQm.out.nodup
      have hls : ∀ q', lk (pre ++ post) q' = if q' = q then none else lk todo q' := fun q' => by
        have := hnd
        rw [HSP.out] at this ⊢
        exact lk_split this q'
      have hdq : doneQ todo q = false := by
        have : lk todo q = some (.slice (some ⟨g, 0, none⟩) n cap) := lk_of_mem hnd (by rw [HSP.out, HNn.out]; simp)
        unfold doneQ
        rw [this]
        rfl
      have hdn : ∀ k, doneQ (pre ++ post) k = (decide (k = q) || doneQ todo k) := fun k => by
        unfold doneQ
        rw [hls k]
        by_cases e : k = q
        · simp [e]
        · simp [e]
      have hstep := sums_step HI.out.2.1 hdq HXq.out hdn
      rw [← sumS_queue HWs.out.2.2 q, ← HCu.out, ← HTo.out] at hstep
      go_roundw
      case rel =>
        refine ⟨pre ++ post, _, hr9, HM9.out, hstep, fun q' u h1 h2 => by unfold doneQ; rw [h2]; rfl, HW9.out.2.2, by rw [HW9.out.1]; omega, HI.out.2.2.2.2.2.kept (hk9 bl (by omega) (by omega) (by omega))⟩
      case measure =>
        rw [hr9.left, HC1.out.left, HSP.out]
        simp

end Go.Proofs.YthfndphngeaihaaDoor
