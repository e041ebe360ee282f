/- Package seen's law: SeenHolds, walked. -/
import Derived.Test.YtdnjoohicbdmiaaSeI
namespace Go.Proofs.Ytdnjoohicbdmiaa
open Go Go.RowKit Go.Shelf
open Go.ChangeMaps (setBlock)
set_option linter.unusedSimpArgs false
set_option linter.unusedVariables false
set_option linter.unusedSectionVars false
set_option maxRecDepth 100000

attribute [local go_sem] Oper.semAt_some

/-- The blocks of two tables and of the law's own map, made since w, ahead of z. -/
def SepS (w : World) (S1 S2 : Nat → Prop) (bf z : Nat) : Prop := (∀ b, S1 b → w.heap.size ≤ b ∧ b < z) ∧ (∀ b, S2 b → w.heap.size ≤ b ∧ b < z) ∧ (∀ b, S1 b → ¬ S2 b) ∧ ¬ S1 bf ∧ ¬ S2 bf ∧ w.heap.size ≤ bf ∧ bf < z
def LawS (w : World) (S1 S2 : Nat → Prop) (bf z : Nat) (w' : World) (p q : Nat) (lt lo lf : List (Sg × Value)) : Prop := TabAt w' S1 p 100 lt ∧ TabAt w' S2 q 100 lo ∧ KMap encSg w' bf lf ∧ z ≤ w'.heap.size ∧ Below w.heap.size w w'
section
variable {w w1 w2 : World} {S1 S2 : Nat → Prop} {bf z p q : Nat} {lt lo lf : List (Sg × Value)}
theorem LawS.on (h : LawS w S1 S2 bf z w1 p q lt lo lf) (hb : Below w1.heap.size w1 w2) : LawS w S1 S2 bf z w2 p q lt lo lf := by
  obtain ⟨h1, h2, h3, h4, h5⟩ := h
  exact ⟨h1.on hb, h2.on hb, h3.kept (hb.block _ h3.lt), Nat.le_trans h4 hb.size, h5.trans (hb.mono h5.size)⟩
theorem LawS.first (s : SepS w S1 S2 bf z) {lt' : List (Sg × Value)} (h : LawS w S1 S2 bf z w1 p q lt lo lf) (k1 : TabAt w2 S1 p 100 lt') (k2 : ButS w1.heap.size S1 w1 w2) : LawS w S1 S2 bf z w2 p q lt' lo lf := by
  obtain ⟨h1, h2, h3, h4, h5⟩ := h
  exact ⟨k1, h2.kept fun b hb hl => k2.block b hl fun hs => s.2.2.1 b hs hb, h3.kept (k2.block _ h3.lt s.2.2.2.1), Nat.le_trans h4 k2.size, h5.trans (k2.below h5.size fun k hk => (s.1 k hk).1)⟩
theorem LawS.second (s : SepS w S1 S2 bf z) {lo' : List (Sg × Value)} (h : LawS w S1 S2 bf z w1 p q lt lo lf) (k1 : TabAt w2 S2 q 100 lo') (k2 : ButS w1.heap.size S2 w1 w2) : LawS w S1 S2 bf z w2 p q lt lo' lf := by
  obtain ⟨h1, h2, h3, h4, h5⟩ := h
  exact ⟨h1.kept fun b hb hl => k2.block b hl fun hs => s.2.2.1 b hb hs, k1, h3.kept (k2.block _ h3.lt s.2.2.2.2.1), Nat.le_trans h4 k2.size, h5.trans (k2.below h5.size fun k hk => (s.2.1 k hk).1)⟩
theorem LawS.third (s : SepS w S1 S2 bf z) {lf' : List (Sg × Value)} (h : LawS w S1 S2 bf z w1 p q lt lo lf) {o : Obj} (k1 : KMap encSg (setBlock w1 bf o) bf lf') : LawS w S1 S2 bf z (setBlock w1 bf o) p q lt lo lf' := by
  obtain ⟨h1, h2, h3, h4, h5⟩ := h
  exact ⟨h1.kept fun b hb hl => setBlock_block _ _ _ _ fun e => s.2.2.2.1 (e ▸ hb), h2.kept fun b hb hl => setBlock_block _ _ _ _ fun e => s.2.2.2.2.1 (e ▸ hb), k1, by rw [setBlock_size]; exact h4, ((ButS.of_below h5).setBlock (S := fun _ => False) (.inr s.2.2.2.2.2.1) o).below (Nat.le_refl _) fun k h => h.elim⟩
theorem law_see (s : SepS w S1 S2 bf z) (x : Sg) (at0 : Int) (h : LawS w S1 S2 bf z w1 p q lt lo lf) :
    Calls Try.prog 16 #[.pointer (some ⟨p, 0, none⟩), .agg #[.int .u32 x.nm.n, .int .u32 x.nm.m, .int .u64 x.nm.t, .int .u32 x.nm.q, .bool x.back, .int .u8 x.cnt], .int .u64 at0] w1 fun e w' => e = .returned (.int .i64 (seeE lt 100 x at0)) ∧ LawS w S1 S2 bf z w' p q (if seeE lt 100 x at0 = 0 then up lt x (.int .u64 at0) else lt) lo lf :=
  (see_any S1 p 100 lt x at0 w1 h.1).mono fun e w' hr => ⟨hr.1, h.first s hr.2.1 hr.2.2⟩
theorem law_see2 (s : SepS w S1 S2 bf z) (x : Sg) (at0 : Int) (h : LawS w S1 S2 bf z w1 p q lt lo lf) :
    Calls Try.prog 16 #[.pointer (some ⟨q, 0, none⟩), .agg #[.int .u32 x.nm.n, .int .u32 x.nm.m, .int .u64 x.nm.t, .int .u32 x.nm.q, .bool x.back, .int .u8 x.cnt], .int .u64 at0] w1 fun e w' => e = .returned (.int .i64 (seeE lo 100 x at0)) ∧ LawS w S1 S2 bf z w' p q lt (if seeE lo 100 x at0 = 0 then up lo x (.int .u64 at0) else lo) lf :=
  (see_any S2 q 100 lo x at0 w1 h.2.1).mono fun e w' hr => ⟨hr.1, h.second s hr.2.1 hr.2.2⟩
theorem law_has (x : Sg) (h : LawS w S1 S2 bf z w1 p q lt lo lf) :
    Calls Try.prog 18 #[.pointer (some ⟨p, 0, none⟩), .agg #[.int .u32 x.nm.n, .int .u32 x.nm.m, .int .u64 x.nm.t, .int .u32 x.nm.q, .bool x.back, .int .u8 x.cnt]] w1 fun e w' => e = .returned (.tuple #[(lk lt x).getD (.int .u64 0), .bool (lk lt x).isSome]) ∧ LawS w S1 S2 bf z w' p q lt lo lf :=
  (has_any S1 p 100 lt x w1 h.1).mono fun e w' hr => ⟨hr.1, h.on hr.2⟩
theorem law_same (h : LawS w S1 S2 bf z w1 p q lt lo lf) (hT : AllT lt) (hT' : AllT lo) (he : ∀ k, lk lt k = lk lo k) :
    Calls Try.prog 15 #[.pointer (some ⟨p, 0, none⟩), .pointer (some ⟨q, 0, none⟩)] w1 fun e w' => e = .returned (.bool true) ∧ LawS w S1 S2 bf z w' p q lt lo lf :=
  (sesame_any S1 S2 p q 100 100 lt lo w1 h.1 h.2.1 hT hT').mono fun e w' hr => by
    obtain ⟨⟨t, e1, e2⟩, e3⟩ := hr
    have ht : t = true := e2.2 ⟨rfl, he⟩
    subst ht
    exact ⟨e1, h.on e3⟩
theorem law_prune (s : SepS w S1 S2 bf z) (at0 : Int) (h : LawS w S1 S2 bf z w1 p q lt lo lf) (hT : AllT lt) (hlen : lt.length ≤ 1000000) :
    Calls Try.prog 17 #[.pointer (some ⟨p, 0, none⟩), .int .u64 at0] w1 fun e w' => e = .returned (.tuple #[.int .i64 ((lt.length : Int) - ((pruned lt at0).length : Int)), .int .i64 0]) ∧ LawS w S1 S2 bf z w' p q (pruned lt at0) lo lf :=
  (prune_any S1 p 100 lt at0 w1 h.1 (fun b hb => Nat.lt_of_lt_of_le (s.1 b hb).2 h.2.2.2.1) hT hlen).mono fun e w' hr => ⟨hr.1, h.first s hr.2.1 hr.2.2⟩
theorem law_look (h : LawS w S1 S2 bf z w1 p q lt lo lf) (x : Sg) : (Instr.lookup 52 (.map (some bf)) (.agg #[.int .u32 x.nm.n, .int .u32 x.nm.m, .int .u64 x.nm.t, .int .u32 x.nm.q, .bool x.back, .int .u8 x.cnt]) true).run Try.prog w1 = .ok (.tuple #[(lk lf x).getD (.int .u64 0), .bool (lk lf x).isSome]) w1 :=
  h.2.2.1.look keyAs Try.underlying52 zeroU64 x true
end
/-- What the law reads of a call. -/
def ActR (w : World) (g o : Nat) (a : SAct) : Prop := ∀ j u, a.cells[j]? = some u → w.cell? ⟨g, o + j, none⟩ = some u
theorem rdV_act {w : World} {A : Option Addr} {acts : List SAct} {i : Nat} (h : RdV w A (flatSA acts)) (hi : i < acts.length) : ∃ g o, A = some ⟨g, o, none⟩ ∧ g < w.heap.size ∧ ActR w g (o + i * 8) (atS acts i) := by
  have h8 : ∀ j, j < 8 → ∃ u, (atS acts i).cells[j]? = some u ∧ (flatSA acts)[i * 8 + j]? = some u := fun j hj => by
    obtain ⟨u, hu⟩ : ∃ u, (atS acts i).cells[j]? = some u := ⟨(atS acts i).cells[j]'(by simpa [SAct.cells] using hj), List.getElem?_eq_getElem _⟩
    exact ⟨u, hu, (flatSA_at acts i hi j hj).trans hu⟩
  obtain ⟨u0, _, hu0⟩ := h8 0 (by omega)
  obtain ⟨g, o, e, hg, _⟩ := h _ _ hu0
  refine ⟨g, o, e, hg, fun j u hu => ?_⟩
  have hj : j < 8 := by have := (List.getElem?_eq_some_iff.1 hu).1; simpa [SAct.cells] using this
  obtain ⟨g', o', e', _, hc⟩ := h _ _ ((flatSA_at acts i hi j hj).trans hu)
  rw [e] at e'
  injection e' with e'
  injection e' with e1 e2
  rw [e1, e2, Nat.add_assoc]
  exact hc
theorem ActR.kept {w w' : World} {g o : Nat} {a : SAct} (h : ActR w g o a) (hb : w'.heap[g]? = w.heap[g]?) : ActR w' g o a := fun j u hu => (World.cell?_of_block (a := ⟨g, o + j, none⟩) hb).trans (h j u hu)

theorem actS {X : World} {g o i : Nat} {y : SAct} (hact : ActR X g (o + i * 8) y) : (X.cell? ⟨g, o + i * 8 + 1, none⟩ = some (.int .u32 y.s.nm.n) ∧ X.cell? ⟨g, o + i * 8 + 2, none⟩ = some (.int .u32 y.s.nm.m) ∧ X.cell? ⟨g, o + i * 8 + 3, none⟩ = some (.int .u64 y.s.nm.t) ∧ X.cell? ⟨g, o + i * 8 + 4, none⟩ = some (.int .u32 y.s.nm.q) ∧ X.cell? ⟨g, o + i * 8 + 5, none⟩ = some (.bool y.s.back) ∧ X.cell? ⟨g, o + i * 8 + 6, none⟩ = some (.int .u8 y.s.cnt) ∧ X.cell? ⟨g, o + i * 8 + 7, none⟩ = some (.int .u64 y.at0)) := ⟨hact 1 _ rfl, hact 2 _ rfl, hact 3 _ rfl, hact 4 _ rfl, hact 5 _ rfl, hact 6 _ rfl, hact 7 _ rfl⟩

set_option maxHeartbeats 8000000 in
theorem walk_sholds (A : Option Addr) (C : Nat) (acts : List SAct) (at0 : Int) (w : World) (hlen : acts.length ≤ 40) (hr : RdV w A (flatSA acts)) :
    Calls Try.prog 5 #[.slice A acts.length C, .int .u64 at0] w fun e w' => e = .returned (.bool true) ∧ Below w.heap.size w w' := by
  have HR : Hid (RdV w A (flatSA acts)) := hr
  have HLe := Lib.hid hlen
  have hgt2 : ¬ (40 : Int) < (acts.length : Int) := by omega
  clear hr hlen
  go_enter Try.func5, Try.ntmps5
  go_upto_region 3 with fail
  clear hgt2
  go_wp2_with fail
  refine (newW 100 w rfl).mono ?_
  rintro e w1 ⟨p, S1, rfl, hs⟩
  have H1 := Lib.hid hs
  clear hs
  go_wp2_with fail
  refine (newW 100 w1 rfl).mono ?_
  rintro e w2 ⟨q, S2, rfl, hs⟩
  have H2 := Lib.hid hs
  clear hs
  go_wp2_with fail
  refine (senum_any 0 w2).mono ?_
  rintro e wq ⟨rfl, hwq⟩
  rw [hwq]
  clear hwq wq
  go_wp2_with fail
  refine (senum_any 0 w2).mono ?_
  rintro e wq ⟨rfl, hwq⟩
  rw [hwq]
  clear hwq wq
  have hmm := @run_makeMap Try.prog
  go_upto_region 8 with fail
  obtain ⟨bf, hbf⟩ : ∃ b, b = w2.heap.size := ⟨_, rfl⟩
  obtain ⟨w3, hw3⟩ : ∃ w', w' = w2.alloc (Obj.map #[] 0) := ⟨_, rfl⟩
  obtain ⟨z, hz⟩ : ∃ z, z = w3.heap.size := ⟨_, rfl⟩
  have hz2 : w3.heap.size = w2.heap.size + 1 := by rw [hw3]; simp
  have HSep : Hid (SepS w S1 S2 bf z) := by
    obtain ⟨_, a2, _, a4⟩ := H1.out
    obtain ⟨_, b2, _, b4⟩ := H2.out
    have s1 := a4.size
    have s2 := b4.size
    refine ⟨fun b hb => ?_, fun b hb => ?_, fun b hb hb' => ?_, fun hb => ?_, fun hb => ?_, ?_, ?_⟩
    · have := a2 b hb; omega
    · have := b2 b hb; omega
    · have := a2 b hb; have := b2 b hb'; omega
    · have := a2 bf hb; omega
    · have := b2 bf hb; omega
    · omega
    · omega
  have H3 : Hid (LawS w S1 S2 bf z w3 p q [] [] []) := by
    have hb : Below w2.heap.size w2 w3 := by rw [hw3]; exact below_al (Below.refl _ _) _
    refine ⟨(H1.out.1.on H2.out.2.2.2).on hb, H2.out.1.on hb, ?_, by rw [hz]; exact Nat.le_refl _, (H1.out.2.2.2.trans (H2.out.2.2.2.mono H1.out.2.2.2.size)).trans (hb.mono (Nat.le_trans H1.out.2.2.2.size H2.out.2.2.2.size))⟩
    rw [hw3, hbf]
    exact KMap.made w2
  rw [← hw3, ← hbf]
  clear hw3 hbf hz hz2 H1 H2
  go_wp2_with fail
  go_loopw [10] (fun vi wr => ∃ i : Nat, i ≤ acts.length ∧ vi = .int .i64 i ∧ Hid (LawS w S1 S2 bf z wr p q (seenL (acts.take i)) [] (seenL (acts.take i)))) (fun vi _ => acts.length - (intOf vi).toNat)
  case atStart => exact ⟨0, Nat.zero_le _, rfl, H3.out⟩
  case round =>
    rename_i wr hrel
    obtain ⟨i, hi, rfl, hI⟩ := hrel
    by_cases hlt : i < acts.length
    · obtain ⟨g, o, hA, hg, hact0⟩ := rdV_act HR.out hlt
      obtain ⟨y, hyy⟩ : ∃ y, y = atS acts i := ⟨_, rfl⟩
      rw [← hyy] at hact0
      have HY := Lib.hid hyy
      have HG : Hid (g < w.heap.size) := hg
      have HActB : Hid (∀ X, Below w.heap.size w X → ActR X g (o + i * 8) y) := fun X hb => hact0.kept (hb.block g hg)
      subst hA
      have hact := HActB.out wr hI.out.2.2.2.2
      have x1 : wr.cell? ⟨g, o + i * 8 + 1, none⟩ = some (.int .u32 y.s.nm.n) := hact 1 _ rfl
      have x2 : wr.cell? ⟨g, o + i * 8 + 2, none⟩ = some (.int .u32 y.s.nm.m) := hact 2 _ rfl
      have x3 : wr.cell? ⟨g, o + i * 8 + 3, none⟩ = some (.int .u64 y.s.nm.t) := hact 3 _ rfl
      have x4 : wr.cell? ⟨g, o + i * 8 + 4, none⟩ = some (.int .u32 y.s.nm.q) := hact 4 _ rfl
      have x5 : wr.cell? ⟨g, o + i * 8 + 5, none⟩ = some (.bool y.s.back) := hact 5 _ rfl
      have x6 : wr.cell? ⟨g, o + i * 8 + 6, none⟩ = some (.int .u8 y.s.cnt) := hact 6 _ rfl
      have x7 : wr.cell? ⟨g, o + i * 8 + 7, none⟩ = some (.int .u64 y.at0) := hact 7 _ rfl
      obtain ⟨lt, hlt2⟩ : ∃ lt, lt = seenL (acts.take i) := ⟨_, rfl⟩
      have hadd : seenL (acts.take (i + 1)) = seeL lt y := by rw [sa_take acts i hlt, seenL_add, ← hlt2, hyy]
      have hfew : (lt.length : Int) < 100 := by
        have h := (seenL_ok (acts.take i)).2.2
        rw [← hlt2] at h
        have := HLe.out
        have : (acts.take i).length ≤ acts.length := by rw [List.length_take]; omega
        omega
      rw [← hlt2] at hI
      have hlk := law_look hI.out y.s
      have HAdd := Lib.hid hadd
      have HFew := Lib.hid hfew
      obtain ⟨is, his⟩ : ∃ b, b = (lk lt y.s).isSome := ⟨_, rfl⟩
      rw [← his] at hlk
      have HIs := Lib.hid his
      have hltI : (i : Int) < (acts.length : Int) := by omega
      have hi1 : i + 1 ≤ acts.length := hlt
      have hle := HLe.out
      have hms : acts.length - (intOf (.int .i64 ((i : Int) + 1))).toNat < acts.length - (intOf (.int .i64 (i : Int))).toNat := by simp only [intOf]; omega
      clear hlt2 his hact hact0 hyy hadd hfew hg hlt
      go_upto_region 12 with fail
      obtain ⟨Wd, hWd⟩ : ∃ W, W = wr.drew := ⟨_, rfl⟩
      have HWd := Lib.hid hWd
      have HId : Hid (LawS w S1 S2 bf z Wd p q lt [] lt) := by rw [Hid, hWd]; exact hI.out.on (Below.refl _ _).drew
      clear hWd hlk x1 x2 x3 x4 x5 x6 x7
      refine wp_region_T (fun X => (X.cell? ⟨g, o + i * 8 + 1, none⟩ = some (.int .u32 y.s.nm.n) ∧ X.cell? ⟨g, o + i * 8 + 2, none⟩ = some (.int .u32 y.s.nm.m) ∧ X.cell? ⟨g, o + i * 8 + 3, none⟩ = some (.int .u64 y.s.nm.t) ∧ X.cell? ⟨g, o + i * 8 + 4, none⟩ = some (.int .u32 y.s.nm.q) ∧ X.cell? ⟨g, o + i * 8 + 5, none⟩ = some (.bool y.s.back) ∧ X.cell? ⟨g, o + i * 8 + 6, none⟩ = some (.int .u8 y.s.cnt) ∧ X.cell? ⟨g, o + i * 8 + 7, none⟩ = some (.int .u64 y.at0))) 13 (by kernel_rfl) ?_
      rw [← HWd.out]
      refine wpAnyT_take (i := 0) (v := ?_) rfl (by kernel_rfl) (by kernel_rfl) (by kernel_rfl) (by kernel_rfl) (fun _ _ _ h => h) (Or.inl ⟨by rfl, ?_⟩) (actS (HActB.out _ HId.out.2.2.2.2)) ?_
      rotate_left
      · intro w hSw
        (try dsimp only at hSw)
        go_simp
        all_goals with_reducible rfl
      simp only [Act.put, List.setIfInBounds_toArray, List.set_cons_zero, List.set_cons_succ]
      refine wpAnyT_take (i := 1) (v := ?_) rfl (by kernel_rfl) (by kernel_rfl) (by kernel_rfl) (by kernel_rfl) (fun _ _ _ h => h) (Or.inl ⟨by rfl, ?_⟩) (actS (HActB.out _ HId.out.2.2.2.2)) ?_
      rotate_left
      · intro w hSw
        (try dsimp only at hSw)
        go_simp
        all_goals with_reducible rfl
      simp only [Act.put, List.setIfInBounds_toArray, List.set_cons_zero, List.set_cons_succ]
      refine wpAnyT_take (i := 2) (v := ?_) rfl (by kernel_rfl) (by kernel_rfl) (by kernel_rfl) (by kernel_rfl) (fun _ _ _ h => h) (Or.inl ⟨by rfl, ?_⟩) (actS (HActB.out _ HId.out.2.2.2.2)) ?_
      rotate_left
      · intro w hSw
        (try dsimp only at hSw)
        go_simp
        all_goals with_reducible rfl
      simp only [Act.put, List.setIfInBounds_toArray, List.set_cons_zero, List.set_cons_succ]
      refine wpAnyT_take (i := 3) (v := ?_) rfl (by kernel_rfl) (by kernel_rfl) (by kernel_rfl) (by kernel_rfl) (fun _ _ _ h => h) (Or.inl ⟨by rfl, ?_⟩) (actS (HActB.out _ HId.out.2.2.2.2)) ?_
      rotate_left
      · intro w hSw
        (try dsimp only at hSw)
        go_simp
        all_goals with_reducible rfl
      simp only [Act.put, List.setIfInBounds_toArray, List.set_cons_zero, List.set_cons_succ]
      refine wpAnyT_take (i := 4) (v := ?_) rfl (by kernel_rfl) (by kernel_rfl) (by kernel_rfl) (by kernel_rfl) (fun _ _ _ h => h) (Or.inl ⟨by rfl, ?_⟩) (actS (HActB.out _ HId.out.2.2.2.2)) ?_
      rotate_left
      · intro w hSw
        (try dsimp only at hSw)
        go_simp
        all_goals with_reducible rfl
      simp only [Act.put, List.setIfInBounds_toArray, List.set_cons_zero, List.set_cons_succ]
      refine wpAnyT_take (i := 5) (v := ?_) rfl (by kernel_rfl) (by kernel_rfl) (by kernel_rfl) (by kernel_rfl) (fun _ _ _ h => h) (Or.inl ⟨by rfl, ?_⟩) (actS (HActB.out _ HId.out.2.2.2.2)) ?_
      rotate_left
      · intro w hSw
        (try dsimp only at hSw)
        go_simp
        all_goals with_reducible rfl
      simp only [Act.put, List.setIfInBounds_toArray, List.set_cons_zero, List.set_cons_succ]
      refine wpAnyT_take (i := 6) (v := ?_) rfl (by kernel_rfl) (by kernel_rfl) (by kernel_rfl) (by kernel_rfl) (fun _ _ _ h => h) (Or.inl ⟨by rfl, ?_⟩) (actS (HActB.out _ HId.out.2.2.2.2)) ?_
      rotate_left
      · intro w hSw
        (try dsimp only at hSw)
        go_simp
        all_goals with_reducible rfl
      simp only [Act.put, List.setIfInBounds_toArray, List.set_cons_zero, List.set_cons_succ]
      refine wpAnyT_take (i := 7) (v := ?_) rfl (by kernel_rfl) (by kernel_rfl) (by kernel_rfl) (by kernel_rfl) (fun _ _ _ h => h) (Or.inl ⟨by rfl, ?_⟩) (actS (HActB.out _ HId.out.2.2.2.2)) ?_
      rotate_left
      · intro w hSw
        (try dsimp only at hSw)
        go_simp
        all_goals with_reducible rfl
      simp only [Act.put, List.setIfInBounds_toArray, List.set_cons_zero, List.set_cons_succ]
      refine wpAnyT_take (i := 8) (v := ?_) rfl (by kernel_rfl) (by kernel_rfl) (by kernel_rfl) (by kernel_rfl) (fun _ _ _ h => h) (Or.inl ⟨by rfl, ?_⟩) (actS (HActB.out _ HId.out.2.2.2.2)) ?_
      rotate_left
      · intro w hSw
        (try dsimp only at hSw)
        go_simp
        all_goals with_reducible rfl
      simp only [Act.put, List.setIfInBounds_toArray, List.set_cons_zero, List.set_cons_succ]
      refine wpAnyT_take (i := 9) (v := ?_) rfl (by kernel_rfl) (by kernel_rfl) (by kernel_rfl) (by kernel_rfl) (fun _ _ _ h => h) (Or.inl ⟨by rfl, ?_⟩) (actS (HActB.out _ HId.out.2.2.2.2)) ?_
      rotate_left
      · intro w hSw
        (try dsimp only at hSw)
        go_simp
        all_goals with_reducible rfl
      simp only [Act.put, List.setIfInBounds_toArray, List.set_cons_zero, List.set_cons_succ]
      refine wpAnyT_take (i := 10) (v := ?_) rfl (by kernel_rfl) (by kernel_rfl) (by kernel_rfl) (by kernel_rfl) (fun _ _ _ h => h) (Or.inl ⟨by rfl, ?_⟩) (actS (HActB.out _ HId.out.2.2.2.2)) ?_
      rotate_left
      · intro w hSw
        (try dsimp only at hSw)
        go_simp
        all_goals with_reducible rfl
      simp only [Act.put, List.setIfInBounds_toArray, List.set_cons_zero, List.set_cons_succ]
      refine wpAnyT_one (i := 11) (by kernel_rfl) rfl (fun K hK => ?_)
      go_simp
      refine (law_see HSep.out y.s y.at0 HId.out).mono ?_
      rintro e Wx ⟨rfl, hx⟩
      have HX := Lib.hid hx
      clear hx
      refine hK.out _ _ (fun _ => (actS (HActB.out _ HX.out.2.2.2.2))) ?_
      clear hK K
      try simp only [Act.put, List.setIfInBounds_toArray, List.set_cons_zero, List.set_cons_succ]
      refine wpAnyT_take (i := 12) (v := ?_) rfl (by kernel_rfl) (by kernel_rfl) (by kernel_rfl) (by kernel_rfl) (fun _ _ _ h => h) (Or.inl ⟨by rfl, ?_⟩) (actS (HActB.out _ HX.out.2.2.2.2)) ?_
      rotate_left
      · intro w hSw
        (try dsimp only at hSw)
        go_simp
        all_goals with_reducible rfl
      simp only [Act.put, List.setIfInBounds_toArray, List.set_cons_zero, List.set_cons_succ]
      refine wpAnyT_done (by kernel_rfl) ?_ _
      clear HId hI
      obtain ⟨ge, hge⟩ : ∃ e, e = seeE lt 100 y.s y.at0 := ⟨_, rfl⟩
      have hc := seeE_cases lt 100 y.s y.at0 HFew.out
      rw [← hge] at hc HX ⊢
      rw [← HIs.out] at hc
      have HGe := Lib.hid hge
      clear hge
      rcases hc with ⟨rfl, rfl⟩ | ⟨rfl, rfl⟩ | rfl
      · rw [if_pos rfl] at HX
        go_wp2_with fail
        refine (senum_any 0 Wx).mono ?_
        rintro e wq ⟨rfl, hwq⟩
        rw [hwq]
        clear hwq wq
        go_wp2_with fail
        refine (senum_any 0 Wx).mono ?_
        rintro e wq ⟨rfl, hwq⟩
        rw [hwq]
        clear hwq wq
        go_wp2_with fail
        refine (senum_any 0 Wx).mono ?_
        rintro e wq ⟨rfl, hwq⟩
        rw [hwq]
        clear hwq wq
        go_wp2_with fail
        refine (senum_any 0 Wx).mono ?_
        rintro e wq ⟨rfl, hwq⟩
        rw [hwq]
        clear hwq wq
        go_upto_region 16 with fail
        obtain ⟨We, hWe⟩ : ∃ W, W = Wx.drew := ⟨_, rfl⟩
        have HWe := Lib.hid hWe
        have HIe : Hid (LawS w S1 S2 bf z We p q (up lt y.s (.int .u64 y.at0)) [] lt) := by rw [Hid, hWe]; exact HX.out.on (Below.refl _ _).drew
        obtain ⟨ob, hup, hku⟩ := HIe.out.2.2.1.update keyAs Try.underlying52 y.s (.int .u64 y.at0)
        unfold encSg at hup
        have HI9 : Hid (LawS w S1 S2 bf z (setBlock We bf ob) p q (seenL (acts.take (i + 1))) [] (seenL (acts.take (i + 1)))) := by
          rw [Hid, HAdd.out]
          unfold seeL
          rw [← HGe.out, if_pos rfl]
          exact HIe.out.third HSep.out hku
        clear hWe hku
        refine wp_region_T (fun X => (X.cell? ⟨g, o + i * 8 + 1, none⟩ = some (.int .u32 y.s.nm.n) ∧ X.cell? ⟨g, o + i * 8 + 2, none⟩ = some (.int .u32 y.s.nm.m) ∧ X.cell? ⟨g, o + i * 8 + 3, none⟩ = some (.int .u64 y.s.nm.t) ∧ X.cell? ⟨g, o + i * 8 + 4, none⟩ = some (.int .u32 y.s.nm.q) ∧ X.cell? ⟨g, o + i * 8 + 5, none⟩ = some (.bool y.s.back) ∧ X.cell? ⟨g, o + i * 8 + 6, none⟩ = some (.int .u8 y.s.cnt) ∧ X.cell? ⟨g, o + i * 8 + 7, none⟩ = some (.int .u64 y.at0))) 12 (by kernel_rfl) ?_
        rw [← HWe.out]
        refine wpAnyT_take (i := 0) (v := ?_) rfl (by kernel_rfl) (by kernel_rfl) (by kernel_rfl) (by kernel_rfl) (fun _ _ _ h => h) (Or.inl ⟨by rfl, ?_⟩) (actS (HActB.out _ HIe.out.2.2.2.2)) ?_
        rotate_left
        · intro w hSw
          (try dsimp only at hSw)
          go_simp
          all_goals with_reducible rfl
        simp only [Act.put, List.setIfInBounds_toArray, List.set_cons_zero, List.set_cons_succ]
        refine wpAnyT_take (i := 1) (v := ?_) rfl (by kernel_rfl) (by kernel_rfl) (by kernel_rfl) (by kernel_rfl) (fun _ _ _ h => h) (Or.inl ⟨by rfl, ?_⟩) (actS (HActB.out _ HIe.out.2.2.2.2)) ?_
        rotate_left
        · intro w hSw
          (try dsimp only at hSw)
          go_simp
          all_goals with_reducible rfl
        simp only [Act.put, List.setIfInBounds_toArray, List.set_cons_zero, List.set_cons_succ]
        refine wpAnyT_take (i := 2) (v := ?_) rfl (by kernel_rfl) (by kernel_rfl) (by kernel_rfl) (by kernel_rfl) (fun _ _ _ h => h) (Or.inl ⟨by rfl, ?_⟩) (actS (HActB.out _ HIe.out.2.2.2.2)) ?_
        rotate_left
        · intro w hSw
          (try dsimp only at hSw)
          go_simp
          all_goals with_reducible rfl
        simp only [Act.put, List.setIfInBounds_toArray, List.set_cons_zero, List.set_cons_succ]
        refine wpAnyT_take (i := 3) (v := ?_) rfl (by kernel_rfl) (by kernel_rfl) (by kernel_rfl) (by kernel_rfl) (fun _ _ _ h => h) (Or.inl ⟨by rfl, ?_⟩) (actS (HActB.out _ HIe.out.2.2.2.2)) ?_
        rotate_left
        · intro w hSw
          (try dsimp only at hSw)
          go_simp
          all_goals with_reducible rfl
        simp only [Act.put, List.setIfInBounds_toArray, List.set_cons_zero, List.set_cons_succ]
        refine wpAnyT_take (i := 4) (v := ?_) rfl (by kernel_rfl) (by kernel_rfl) (by kernel_rfl) (by kernel_rfl) (fun _ _ _ h => h) (Or.inl ⟨by rfl, ?_⟩) (actS (HActB.out _ HIe.out.2.2.2.2)) ?_
        rotate_left
        · intro w hSw
          (try dsimp only at hSw)
          go_simp
          all_goals with_reducible rfl
        simp only [Act.put, List.setIfInBounds_toArray, List.set_cons_zero, List.set_cons_succ]
        refine wpAnyT_take (i := 5) (v := ?_) rfl (by kernel_rfl) (by kernel_rfl) (by kernel_rfl) (by kernel_rfl) (fun _ _ _ h => h) (Or.inl ⟨by rfl, ?_⟩) (actS (HActB.out _ HIe.out.2.2.2.2)) ?_
        rotate_left
        · intro w hSw
          (try dsimp only at hSw)
          go_simp
          all_goals with_reducible rfl
        simp only [Act.put, List.setIfInBounds_toArray, List.set_cons_zero, List.set_cons_succ]
        refine wpAnyT_take (i := 6) (v := ?_) rfl (by kernel_rfl) (by kernel_rfl) (by kernel_rfl) (by kernel_rfl) (fun _ _ _ h => h) (Or.inl ⟨by rfl, ?_⟩) (actS (HActB.out _ HIe.out.2.2.2.2)) ?_
        rotate_left
        · intro w hSw
          (try dsimp only at hSw)
          go_simp
          all_goals with_reducible rfl
        simp only [Act.put, List.setIfInBounds_toArray, List.set_cons_zero, List.set_cons_succ]
        refine wpAnyT_take (i := 7) (v := ?_) rfl (by kernel_rfl) (by kernel_rfl) (by kernel_rfl) (by kernel_rfl) (fun _ _ _ h => h) (Or.inl ⟨by rfl, ?_⟩) (actS (HActB.out _ HIe.out.2.2.2.2)) ?_
        rotate_left
        · intro w hSw
          (try dsimp only at hSw)
          go_simp
          all_goals with_reducible rfl
        simp only [Act.put, List.setIfInBounds_toArray, List.set_cons_zero, List.set_cons_succ]
        refine wpAnyT_take (i := 8) (v := ?_) rfl (by kernel_rfl) (by kernel_rfl) (by kernel_rfl) (by kernel_rfl) (fun _ _ _ h => h) (Or.inl ⟨by rfl, ?_⟩) (actS (HActB.out _ HIe.out.2.2.2.2)) ?_
        rotate_left
        · intro w hSw
          (try dsimp only at hSw)
          go_simp
          all_goals with_reducible rfl
        simp only [Act.put, List.setIfInBounds_toArray, List.set_cons_zero, List.set_cons_succ]
        refine wpAnyT_take (i := 9) (v := ?_) rfl (by kernel_rfl) (by kernel_rfl) (by kernel_rfl) (by kernel_rfl) (fun _ _ _ h => h) (Or.inl ⟨by rfl, ?_⟩) (actS (HActB.out _ HIe.out.2.2.2.2)) ?_
        rotate_left
        · intro w hSw
          (try dsimp only at hSw)
          go_simp
          all_goals with_reducible rfl
        simp only [Act.put, List.setIfInBounds_toArray, List.set_cons_zero, List.set_cons_succ]
        refine wpAnyT_take (i := 10) (v := ?_) rfl (by kernel_rfl) (by kernel_rfl) (by kernel_rfl) (by kernel_rfl) (fun _ _ _ h => h) (Or.inl ⟨by rfl, ?_⟩) (actS (HActB.out _ HIe.out.2.2.2.2)) ?_
        rotate_left
        · intro w hSw
          (try dsimp only at hSw)
          go_simp
          all_goals with_reducible rfl
        simp only [Act.put, List.setIfInBounds_toArray, List.set_cons_zero, List.set_cons_succ]
        refine wpAnyT_one (i := 11) (by kernel_rfl) rfl (fun K hK => ?_)
        go_simp
        refine hK.out _ _ (fun _ => (actS (HActB.out _ HI9.out.2.2.2.2))) ?_
        clear hK K
        try simp only [Act.put, List.setIfInBounds_toArray, List.set_cons_zero, List.set_cons_succ]
        refine wpAnyT_done (by kernel_rfl) ?_ _
        clear hup
        go_wp2_with fail
        go_roundw
        case rel => exact ⟨i + 1, hi1, rfl, HI9.out⟩
        case measure => exact hms
      · rw [if_neg (by decide)] at HX
        have HI9 : Hid (LawS w S1 S2 bf z Wx p q (seenL (acts.take (i + 1))) [] (seenL (acts.take (i + 1)))) := by
          rw [Hid, HAdd.out]
          unfold seeL
          rw [← HGe.out, if_neg (by decide)]
          exact HX.out
        go_wp2_with fail
        refine (senum_any 150 Wx).mono ?_
        rintro e wq ⟨rfl, hwq⟩
        rw [hwq]
        clear hwq wq
        go_wp2_with fail
        refine (senum_any 150 Wx).mono ?_
        rintro e wq ⟨rfl, hwq⟩
        rw [hwq]
        clear hwq wq
        go_wp2_with fail
        refine (senum_any 150 Wx).mono ?_
        rintro e wq ⟨rfl, hwq⟩
        rw [hwq]
        clear hwq wq
        go_wp2_with fail
        refine (senum_any 150 Wx).mono ?_
        rintro e wq ⟨rfl, hwq⟩
        rw [hwq]
        clear hwq wq
        go_wp2_with fail
        refine (senum_any 150 Wx).mono ?_
        rintro e wq ⟨rfl, hwq⟩
        rw [hwq]
        clear hwq wq
        go_wp2_with fail
        go_roundw
        case rel => exact ⟨i + 1, hi1, rfl, HI9.out⟩
        case measure => exact hms
      · rw [if_neg (by decide)] at HX
        have HI9 : Hid (LawS w S1 S2 bf z Wx p q (seenL (acts.take (i + 1))) [] (seenL (acts.take (i + 1)))) := by
          rw [Hid, HAdd.out]
          unfold seeL
          rw [← HGe.out, if_neg (by decide)]
          exact HX.out
        go_wp2_with fail
        refine (senum_any 2 Wx).mono ?_
        rintro e wq ⟨rfl, hwq⟩
        rw [hwq]
        clear hwq wq
        go_wp2_with fail
        refine (senum_any 2 Wx).mono ?_
        rintro e wq ⟨rfl, hwq⟩
        rw [hwq]
        clear hwq wq
        go_wp2_with fail
        refine (senum_any 2 Wx).mono ?_
        rintro e wq ⟨rfl, hwq⟩
        rw [hwq]
        clear hwq wq
        go_wp2_with fail
        refine (senum_any 2 Wx).mono ?_
        rintro e wq ⟨rfl, hwq⟩
        rw [hwq]
        clear hwq wq
        go_wp2_with fail
        refine (senum_any 2 Wx).mono ?_
        rintro e wq ⟨rfl, hwq⟩
        rw [hwq]
        clear hwq wq
        go_wp2_with fail
        refine (senum_any 2 Wx).mono ?_
        rintro e wq ⟨rfl, hwq⟩
        rw [hwq]
        clear hwq wq
        go_wp2_with fail
        go_roundw
        case rel => exact ⟨i + 1, hi1, rfl, HI9.out⟩
        case measure => exact hms
    · obtain rfl : i = acts.length := by omega
      rw [List.take_length] at hI
      have hltI : ¬ (acts.length : Int) < (acts.length : Int) := by omega
      obtain ⟨l, hl⟩ : ∃ l, l = seenL acts := ⟨_, rfl⟩
      rw [← hl] at hI
      have HL : Hid (l = seenL acts ∧ SeenOk l ∧ (l.map (·.1)).Nodup ∧ l.length ≤ 40) := by
        have h := seenL_ok acts
        rw [← hl] at h
        exact ⟨hl, h.1, h.2.1, Nat.le_trans h.2.2 HLe.out⟩
      obtain ⟨n, hn⟩ : ∃ n, n = acts.length := ⟨_, rfl⟩
      have HN := Lib.hid hn
      have hn40 : n ≤ 40 := by have := HLe.out; omega
      rw [← hn] at hltI ⊢
      clear hl hn hi hlt
      go_upto_region 17 with fail
      clear hltI
      go_wp2_with fail
      go_loopw [14] (fun vi wr => ∃ k : Nat, k ≤ n ∧ vi = .int .i64 ((k : Int) - 1) ∧ Hid (∃ lo, OthK l lo acts k ∧ LawS w S1 S2 bf z wr p q l lo l)) (fun vi _ => (intOf vi + 1).toNat)
      case atStart => exact ⟨n, Nat.le_refl _, rfl, [], by rw [HN.out]; exact othK_start l acts, hI.out⟩
      case round =>
        rename_i wr hrel
        obtain ⟨k, hk, rfl, hJ⟩ := hrel
        obtain ⟨lo, hoth, hlaw⟩ := hJ.out
        have HO := Lib.hid hoth
        have HI := Lib.hid hlaw
        clear hoth hlaw hJ
        cases k with
        | succ k =>
          rw [show (((k + 1 : Nat) : Int) - 1) = (k : Int) by omega]
          obtain ⟨g, o, hA, hg, hact0⟩ := rdV_act HR.out (show k < acts.length by have := HN.out; omega)
          obtain ⟨y, hyy⟩ : ∃ y, y = atS acts k := ⟨_, rfl⟩
          rw [← hyy] at hact0
          have HY := Lib.hid hyy
          have hact : ActR wr g (o + k * 8) y := hact0.kept (HI.out.2.2.2.2.block g hg)
          subst hA
          have x1 : wr.cell? ⟨g, o + k * 8 + 1, none⟩ = some (.int .u32 y.s.nm.n) := hact 1 _ rfl
          have x2 : wr.cell? ⟨g, o + k * 8 + 2, none⟩ = some (.int .u32 y.s.nm.m) := hact 2 _ rfl
          have x3 : wr.cell? ⟨g, o + k * 8 + 3, none⟩ = some (.int .u64 y.s.nm.t) := hact 3 _ rfl
          have x4 : wr.cell? ⟨g, o + k * 8 + 4, none⟩ = some (.int .u32 y.s.nm.q) := hact 4 _ rfl
          have x5 : wr.cell? ⟨g, o + k * 8 + 5, none⟩ = some (.bool y.s.back) := hact 5 _ rfl
          have x6 : wr.cell? ⟨g, o + k * 8 + 6, none⟩ = some (.int .u8 y.s.cnt) := hact 6 _ rfl
          have hltI : (k : Int) < (n : Int) := by omega
          have hk0 : (0 : Int) ≤ (k : Int) := by omega
          have hlk := law_look HI.out y.s
          clear hact hact0 hyy hg
          cases hv : lk l y.s with
          | none =>
            rw [hv] at hlk
            simp only [Option.getD_none, Option.isSome_none] at hlk
            have HO2 : Hid (OthK l lo acts k) := othK_skip HO.out (by rw [← HY.out]; exact hv)
            clear hv
            go_wp2_with fail
            go_roundw
            case rel => exact ⟨k, by omega, rfl, lo, HO2.out, HI.out⟩
            case measure => simp [intOf]
          | some v =>
            obtain ⟨_, m, rfl, _⟩ := HL.out.2.1 _ (lk_mem hv)
            rw [hv] at hlk
            simp only [Option.getD_some, Option.isSome_some] at hlk
            have HO2 : Hid (OthK l (if seeE lo 100 y.s m = 0 then up lo y.s (.int .u64 m) else lo) acts k) := by
              have hv' := hv
              rw [HY.out] at hv' ⊢
              exact othK_step HO.out hv' (oth_see HO.out HL.out.2.1 hv' HLe.out)
            clear hv
            go_wp2_with fail
            refine (law_see2 HSep.out y.s m HI.out).mono ?_
            rintro e Wx ⟨rfl, hx⟩
            have HX := Lib.hid hx
            clear hx hlk x1 x2 x3 x4 x5 x6
            go_wp2_with fail
            go_roundw
            case rel => exact ⟨k, by omega, rfl, _, HO2.out, HX.out⟩
            case measure => simp [intOf]
        | zero =>
          have hkz : ¬ (0 : Int) ≤ -1 := by omega
          rw [show (((0 : Nat) : Int) - 1) = -1 by omega]
          go_wp2_with fail
          refine (law_same HI.out HL.out.2.1.allT HO.out.2.2.1 fun k => othK_end HO.out HL.out.1 k).mono ?_
          rintro e w4 ⟨rfl, hx⟩
          have H4 := Lib.hid hx
          clear hx hI
          go_wp2_with fail
          refine (law_prune HSep.out at0 H4.out HL.out.2.1.allT (by have := HL.out.2.2.2; omega)).mono ?_
          rintro e w5 ⟨rfl, hx⟩
          have H5 := Lib.hid hx
          clear hx
          obtain ⟨cnt, hcnt⟩ : ∃ c : Int, c = (l.length : Int) - ((pruned l at0).length : Int) := ⟨_, rfl⟩
          rw [← hcnt]
          have HCnt := Lib.hid hcnt
          clear hcnt
          go_wp2_with fail
          go_loopw [19, 20] (fun vg vi wr => ∃ i gone : Nat, i ≤ n ∧ gone ≤ 40 ∧ vg = .int .i64 gone ∧ vi = .int .i64 i ∧ Hid (∃ lf, FreshK l lf acts at0 i gone ∧ LawS w S1 S2 bf z wr p q (pruned l at0) lo lf)) (fun _ vi _ => n - (intOf vi).toNat)
          case atStart => exact ⟨0, 0, Nat.zero_le _, Nat.zero_le _, rfl, rfl, l, freshK_start l acts at0 HL.out.2.2.1, H5.out⟩
          case round =>
            rename_i wr hrel
            obtain ⟨i, gone, hi, hgone, rfl, rfl, hJ⟩ := hrel
            obtain ⟨lf, hfr, hlaw⟩ := hJ.out
            have HF := Lib.hid hfr
            have HI3 := Lib.hid hlaw
            clear hfr hlaw hJ
            by_cases hlt : i < n
            · obtain ⟨g, o, hA, hg, hact0⟩ := rdV_act HR.out (show i < acts.length by have := HN.out; omega)
              obtain ⟨y, hyy⟩ : ∃ y, y = atS acts i := ⟨_, rfl⟩
              rw [← hyy] at hact0
              have HY := Lib.hid hyy
              have HActB : Hid (∀ X, Below w.heap.size w X → ActR X g (o + i * 8) y) := fun X hb => hact0.kept (hb.block g hg)
              have hact : ActR wr g (o + i * 8) y := HActB.out wr HI3.out.2.2.2.2
              subst hA
              have x1 : wr.cell? ⟨g, o + i * 8 + 1, none⟩ = some (.int .u32 y.s.nm.n) := hact 1 _ rfl
              have x2 : wr.cell? ⟨g, o + i * 8 + 2, none⟩ = some (.int .u32 y.s.nm.m) := hact 2 _ rfl
              have x3 : wr.cell? ⟨g, o + i * 8 + 3, none⟩ = some (.int .u64 y.s.nm.t) := hact 3 _ rfl
              have x4 : wr.cell? ⟨g, o + i * 8 + 4, none⟩ = some (.int .u32 y.s.nm.q) := hact 4 _ rfl
              have x5 : wr.cell? ⟨g, o + i * 8 + 5, none⟩ = some (.bool y.s.back) := hact 5 _ rfl
              have x6 : wr.cell? ⟨g, o + i * 8 + 6, none⟩ = some (.int .u8 y.s.cnt) := hact 6 _ rfl
              have hltI : (i : Int) < (n : Int) := by omega
              have hi1 : i + 1 ≤ n := hlt
              have hms : n - (intOf (.int .i64 ((i : Int) + 1))).toNat < n - (intOf (.int .i64 (i : Int))).toNat := by simp only [intOf]; omega
              have hlk := law_look HI3.out y.s
              clear hact hact0 hyy hg hlt
              cases hv : lk lf y.s with
              | none =>
                rw [hv] at hlk
                simp only [Option.getD_none, Option.isSome_none] at hlk
                have HF2 : Hid (FreshK l lf acts at0 (i + 1) gone) := freshK_skip HF.out (fun v hv' => by rw [← HY.out, hv] at hv'; cases hv')
                clear hv
                go_upto_region 31 with fail
                clear hlk
                go_wp2_with fail
                refine (law_has y.s HI3.out).mono ?_
                rintro e Wx ⟨rfl, hx⟩
                have HX := Lib.hid hx
                clear hx x1 x2 x3 x4 x5 x6
                go_wp2_with fail
                go_roundw
                case rel => exact ⟨i + 1, gone, hi1, hgone, rfl, rfl, lf, HF2.out, HX.out⟩
                case measure => exact hms
              | some v =>
                have hl1 := HF.out.1 _ _ hv
                obtain ⟨_, m, rfl, _⟩ := HL.out.2.1 _ (lk_mem hl1)
                rw [hv] at hlk
                simp only [Option.getD_some, Option.isSome_some] at hlk
                have HV := Lib.hid hv
                have hpl := pruned_lk HL.out.2.2.1 at0 y.s (.int .u64 m)
                clear hv
                go_upto_region 31 with fail
                clear hlk
                by_cases hgt : at0 < m
                · have hps : lk (pruned l at0) y.s = some (.int .u64 m) := hpl.2 ⟨hl1, hgt⟩
                  have HF2 : Hid (FreshK l lf acts at0 (i + 1) gone) := freshK_skip HF.out (fun v hv' => by rw [← HY.out, HV.out] at hv'; injection hv' with hv'; subst hv'; exact hgt)
                  have hle : ¬ m ≤ at0 := by omega
                  clear hpl hl1
                  go_wp2_with fail
                  refine (law_has y.s HI3.out).mono ?_
                  rintro e Wx ⟨rfl, hx⟩
                  rw [hps]
                  have HX := Lib.hid hx
                  simp only [Option.getD_some, Option.isSome_some]
                  clear hx x1 x2 x3 x4 x5 x6 hps
                  go_wp2_with fail
                  go_roundw
                  case rel => exact ⟨i + 1, gone, hi1, hgone, rfl, rfl, lf, HF2.out, HX.out⟩
                  case measure => exact hms
                · have hps : (lk (pruned l at0) y.s).isSome = false := by
                    cases hw : lk (pruned l at0) y.s with
                    | none => rfl
                    | some u =>
                      obtain ⟨a, b⟩ := (pruned_lk HL.out.2.2.1 at0 y.s u).1 hw
                      rw [hl1] at a
                      injection a with a
                      subst a
                      exact absurd b hgt
                  have HF2 : Hid (FreshK l (dl lf y.s) acts at0 (i + 1) (gone + 1)) := by
                    have hv' := HV.out
                    rw [HY.out] at hv' ⊢
                    exact freshK_drop HF.out hv' hgt
                  have hg1 : gone + 1 ≤ 40 := by have := HF2.out.2.2.2.2; have := HL.out.2.2.2; omega
                  have hle : m ≤ at0 := by omega
                  clear hpl hl1
                  go_wp2_with fail
                  refine (law_has y.s HI3.out).mono ?_
                  rintro e Wx ⟨rfl, hx⟩
                  rw [hps]
                  have HX := Lib.hid hx
                  clear hx x1 x2 x3 x4 x5 x6 hps
                  have hact : ActR Wx g (o + i * 8) y := HActB.out Wx HX.out.2.2.2.2
                  have x1 : Wx.cell? ⟨g, o + i * 8 + 1, none⟩ = some (.int .u32 y.s.nm.n) := hact 1 _ rfl
                  have x2 : Wx.cell? ⟨g, o + i * 8 + 2, none⟩ = some (.int .u32 y.s.nm.m) := hact 2 _ rfl
                  have x3 : Wx.cell? ⟨g, o + i * 8 + 3, none⟩ = some (.int .u64 y.s.nm.t) := hact 3 _ rfl
                  have x4 : Wx.cell? ⟨g, o + i * 8 + 4, none⟩ = some (.int .u32 y.s.nm.q) := hact 4 _ rfl
                  have x5 : Wx.cell? ⟨g, o + i * 8 + 5, none⟩ = some (.bool y.s.back) := hact 5 _ rfl
                  have x6 : Wx.cell? ⟨g, o + i * 8 + 6, none⟩ = some (.int .u8 y.s.cnt) := hact 6 _ rfl
                  obtain ⟨ob, hdel, hku⟩ := HX.out.2.2.1.delete keyAs Try.underlying52 y.s 42 0
                  unfold encSg at hdel
                  have HI9 : Hid (LawS w S1 S2 bf z (setBlock Wx bf ob) p q (pruned l at0) lo (dl lf y.s)) := HX.out.third HSep.out hku
                  clear hact hku
                  go_wp2_with fail
                  go_roundw
                  case rel => exact ⟨i + 1, gone + 1, hi1, hg1, rfl, rfl, _, HF2.out, HI9.out⟩
                  case measure => exact hms
            · obtain rfl : i = n := by omega
              have hltI : ¬ (i : Int) < (i : Int) := by omega
              have hcg : cnt = (gone : Int) := by
                have h := HF.out
                rw [HN.out] at h
                have := freshK_end h HL.out.1 HL.out.2.2.1
                have := HCnt.out
                omega
              clear hlt
              subst hcg
              go_wp2_with fail
              refine (senum_any 0 wr).mono ?_
              rintro e wq ⟨rfl, hwq⟩
              rw [hwq]
              clear hwq wq
              go_wp2_with fail
              refine (seworks_any wr).mono ?_
              rintro e w9 ⟨rfl, hb⟩
              have HB9 : Hid (Below w.heap.size w w9) := below_on HI3.out.2.2.2.2 hb
              clear hb
              go_wp2_with fail
              go_ret
              exact ⟨rfl, HB9.out⟩

theorem walk_shE (A : Option Addr) (C : Nat) (acts : List SAct) (at0 : Int) (w : World) (hlen : 40 < acts.length) :
    Calls Try.prog 5 #[.slice A acts.length C, .int .u64 at0] w fun e w' => e = .returned (.bool true) ∧ Below w.heap.size w w' := by
  have hgt : (40 : Int) < (acts.length : Int) := by omega
  clear hlen
  go_enter Try.func5, Try.ntmps5
  go_wp2_with fail
  refine (seworks_any w).mono ?_
  rintro e w9 ⟨rfl, hb⟩
  have HB9 := Lib.hid hb
  clear hb
  go_wp2_with fail
  go_ret
  exact ⟨rfl, HB9.out⟩
theorem walk_sh (A : Option Addr) (C : Nat) (acts : List SAct) (at0 : Int) (w : World) (hr : RdV w A (flatSA acts)) :
    Calls Try.prog 5 #[.slice A acts.length C, .int .u64 at0] w fun e w' => e = .returned (.bool true) ∧ Below w.heap.size w w' := by
  by_cases h : 40 < acts.length
  · exact walk_shE A C acts at0 w h
  · exact walk_sholds A C acts at0 w (by omega) hr

end Go.Proofs.Ytdnjoohicbdmiaa
