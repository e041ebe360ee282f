/- Package rank: Copy. -/
import Derived.Test.YthfndphngeaihaaDoorRkL
import Derived.Test.YthfndphngeaihaaDoorMapW
namespace Go.Proofs.YthfndphngeaihaaDoor
open Go Go.RowKit Go.Shelf
open Go.ChangeMaps (setBlock)
set_option linter.unusedSimpArgs false
set_option linter.unusedVariables false
set_option linter.unusedSectionVars false
set_option maxRecDepth 100000

attribute [local go_sem] Oper.semAt_some

set_option maxHeartbeats 2000000 in
theorem mclone_any (b : Nat) (l : List (Nm × Value)) (w : World) (h : KMap encNm w b l) :
    Calls Tryd.prog 28 #[.map (some b)] w fun e w' => e = .returned (.map (some w.heap.size)) ∧ ∃ o, w' = w.alloc o ∧ KMap encNm w' w.heap.size l := by
  obtain ⟨es, c, hb, h1, h2, h3, h4⟩ := h
  have hq := fun w => run_eql_map_nil_sl (P := Tryd.prog) w 60 _ _ (some b) Tryd.underlying60
  have HK : Hid (KMap encNm (w.alloc (.map es c)) w.heap.size l) := ⟨es, c, (MapKept.heap_alloc w _).1, h1, h2, h3, h4⟩
  clear h1 h2 h3 h4
  go_enter Tryd.func28, Tryd.ntmps28
  go_wp2
  rw [run_callFunc_extern Tryd.func55 (by kernel_rfl) (by kernel_rfl) (by kernel_rfl) (e := Extern.MapsClone.clone) (by kernel_rfl), run_maps_clone_sl w 60 hb]
  simp only [Result.andThen]
  rw [Oper.upon_value]
  go_wp2
  rw [run_typeAssert_map_sl _ 60 20 _ _ _ Tryd.underlying60]
  simp only [Result.andThen]
  rw [Oper.upon_value]
  go_wp2
  go_ret
  exact ⟨rfl, _, rfl, HK.out⟩

section
variable {P : Program} (w : World)

/-- One item appended onto items of the call's own. -/
theorem wpList_appK {ops : Array Oper} {rest : List Oper} {o : Oper} {a : Act} {Q : Exit → Act → World → Prop} (hgd : o.guard = none) (s x : Operand) (t : TypeId)
    (ho : o.op = .call { callee := .builtin .append, args := #[s, x], argTypes := #[t, t] })
    (base : Nat) (e : TypeId) (z : Value) (size bytes : Nat) (ht : P.underlying t = some (.slice e)) (hinfo : (P.info? e).map (fun i => (i.zero, i.size, i.bytes)) = some (some z, size, bytes)) (hz1 : z.cells.size = size) (hsz : 0 < size)
    (v : Value) (n : Nat) (xs : List Value) (hv : a.eval s = v) (hown : w.ownsRow base e size v n xs) (A : Addr) (m c : Nat) (ys : List Value) (hx : a.eval x = .slice (some A) m c) (hm : ys.length = m * size) (hs : ∀ j u, ys[j]? = some u → w.cell? (A.add j) = some u) (h1 : ∀ u ∈ ys, u.oneCell' = true)
    (h63 : n + m ≤ maxLen) (hbytes : (n + m) * bytes ≤ 140737488355328) (hbase : base ≤ w.heap.size)
    (h : ∀ v' w', w'.ownsRow base e size v' (n + m) (xs ++ ys) → w.grownBy w' v.ownBlock → (v'.ownBlock = v.ownBlock ∨ v'.ownBlock = some w.heap.size) → wpList P ops Q rest (a.put o.dst v') w') : wpList P ops Q (o :: rest) a w :=
  wpList_plain hgd fun _ hK => by
    obtain ⟨i, hi, hz0, hsz0, hb⟩ := info_parts hinfo
    obtain ⟨v', w', hrun, h2, h3, _, h5⟩ := run_append_own_at (P := P) w base t o.type e i z size bytes ht hi hz0 hsz0 hb hz1 hsz v n xs hown A m c ys hm hs h1 h63 hbytes hbase
    unfold Oper.wp execOp
    simp only [ho, resolve, invoke, builtin, Sem.run_bind, Sem.run_pure, Result.andThen_ok, List.map_toArray, List.map_cons, List.map_nil, hv, hx, hrun]
    exact hK _ _ (h v' w' h2 h3 h5)
end

set_option maxHeartbeats 4000000 in
theorem nmClone_any (v : Value) (n : Nat) (ns : List Nm) (w : World) (hl : n = ns.length) (hlen : n ≤ 1000000) (hn : 0 < n) (hown : w.ownsRow 0 28 4 v n (flatNm ns)) :
    Calls Tryd.prog 29 #[v] w fun e w' => ∃ v', e = .returned v' ∧ w'.ownsRow w.heap.size 28 4 v' n (flatNm ns) ∧ Below w.heap.size w w' := by
  obtain ⟨g, cap, rfl⟩ : ∃ g cap, v = .slice (some ⟨g, 0, none⟩) n cap := by
    rcases hown.2 with ⟨_, h⟩ | ⟨g, cap, _, h, _⟩
    · omega
    · exact ⟨g, cap, h⟩
  have heq := fun w : World => Lib.run_eql_slice_nil (P := Tryd.prog) w 69 28 (some ⟨g, 0, none⟩) n cap 0 0 Tryd.underlying69
  have HYS : Hid (∀ j u, (flatNm ns)[j]? = some u → (w.alloc (.cells #[] 28)).cell? ((⟨g, 0, none⟩ : Addr).add j) = some u) := by
    intro j u hu
    refine Lib.cell?_alloc_some _ ?_
    have hj : j < n * 4 := by
      have := (List.getElem?_eq_some_iff.1 hu).1
      rw [flatNm_len, ← hl] at this
      exact this
    rw [mk_addr_add, Nat.zero_add, hown.cellAt _ hj]
    exact hu
  have HO : Hid ((w.alloc (.cells #[] 28)).ownsRow w.heap.size 28 4 (.slice (some ⟨w.heap.size, 0, none⟩) 0 0) 0 []) := by
    refine ⟨rfl, .inr ⟨w.heap.size, 0, #[], rfl, Nat.le_refl _, World.alloc_heap_new w _, ?_⟩⟩
    refine ⟨Nat.le_refl _, by decide, rfl, rfl⟩
  have HL := Lib.hid hl
  clear hown hl
  go_enter Tryd.func29, Tryd.ntmps29
  go_wp2_with (at_builtin; refine wpList_appK _ rfl _ _ 69 rfl w.heap.size 28 _ 4 24 Tryd.underlying69 info_nm rfl (by decide) _ 0 [] rfl HO.out ⟨g, 0, none⟩ n cap (flatNm ns) rfl (by rw [flatNm_len, ← HL.out]) HYS.out (flatNm_one1 ns) (by unfold maxLen; omega) (by omega) (by simp) ?_; intro v' w2 h2 h3 h5)
  go_ret
  have hb : Below w.heap.size w w2 := ((Below.refl _ _).alloc (Nat.le_refl _) _).grown h3 (by simp) (fun r e => by cases e; exact Nat.le_refl _)
  simp only [Nat.zero_add, List.nil_append] at h2
  exact ⟨_, rfl, h2, hb⟩

/-- What a copy is while it is made: what is still to come, what has been copied. -/
def CopR (wr : World) (bq r m1 base : Nat) (lq todo lc : List (Qk × Value)) (D : List Wt) : Prop :=
  RngK encQk wr bq r lq todo ∧ KMap encQk wr m1 lc ∧ (∀ q, lk lc q = none ↔ (lk lq q = none ∨ (lk todo q).isSome = true)) ∧
    (∀ q v, lk lc q = some v → wr.ownsRow base 28 4 v (namesOf D q).length (flatNm (namesOf D q))) ∧ ∀ q q' v v', q ≠ q' → lk lc q = some v → lk lc q' = some v' → v.ownBlock ≠ v'.ownBlock

set_option maxHeartbeats 16000000 in
theorem copy_any (S : Nat → Prop) (p : Nat) (most : Int) (D : List Wt) (w : World) (h : LineAt w S p most D) (hlen : D.length ≤ 100000) :
    Calls Tryd.prog 8 #[.pointer (some ⟨p, 0, none⟩)] w fun e w' => (∃ c, e = .returned (.pointer (some ⟨c, 0, none⟩)) ∧ LineAt w' (newS w w') c most D) ∧ Below w.heap.size w w' := by
  obtain ⟨bq, bw, lq, lw, h1, h2, h3, h4, h5, h6, h7⟩ := h
  have HPc := Lib.hid h1
  have HQm := Lib.hid h2
  have HWm := Lib.hid h3
  have HQs := Lib.hid h4
  have HWs := Lib.hid h5
  have HEq := Lib.hid h7
  have HLe := Lib.hid hlen
  have d1 := h1.1 1 _ rfl
  clear h1 h2 h3 h4 h5 h6 h7 hlen
  have hmm := @run_makeMap Tryd.prog
  go_enter Tryd.func8, Tryd.ntmps8
  go_wp2_with fail
  refine (none_any p bq w d1).mono ?_
  rintro e w' ⟨rfl, rfl⟩
  clear d1
  go_upto_region 3 with fail
  obtain ⟨Wd, hWd⟩ : ∃ wd, wd = w'.drew := ⟨_, rfl⟩
  have HWd := Lib.hid hWd
  have HB0 : Hid (Below w'.heap.size w' Wd) := by rw [hWd]; exact (Below.refl _ _).drew
  have HZ0 : Hid (Wd.heap.size = w'.heap.size) := by rw [hWd]; rfl
  clear hWd
  have HX : Hid (∀ X, Below Wd.heap.size Wd X → (X.cell? ⟨p, 0, none⟩ = some (.int .i64 most) ∧ X.cell? ⟨p, 2, none⟩ = some (.map (some bw)))) := fun X hb => by
    have hb' := HB0.out.trans (hb.mono (by rw [HZ0.out]; exact Nat.le_refl _))
    have r := HPc.out.on hb' HPc.out.lt
    exact ⟨r.1 0 _ rfl, r.1 2 _ rfl⟩
  have HWk : Hid (∀ X, Below Wd.heap.size Wd X → KMap encNm X bw lw) := fun X hb => HWm.out.kept ((HB0.out.trans (hb.mono (by rw [HZ0.out]; exact Nat.le_refl _))).block _ HWm.out.lt)
  refine wp_region_T (fun X => (X.cell? ⟨p, 0, none⟩ = some (.int .i64 most) ∧ X.cell? ⟨p, 2, none⟩ = some (.map (some bw)))) 13 (by kernel_rfl) ?_
  rw [← HWd.out]
  refine wpAnyT_take (i := 0) (v := ?_) rfl (by kernel_rfl) (by kernel_rfl) (by kernel_rfl) (by kernel_rfl) (fun _ _ _ h => h) (Or.inl ⟨by rfl, ?_⟩) (HX.out _ (Below.refl _ _)) ?_
  rotate_left
  · intro w hSw
    (try dsimp only at hSw)
    go_simp
    all_goals with_reducible rfl
  simp only [Act.put, List.setIfInBounds_toArray, List.set_cons_zero, List.set_cons_succ]
  refine wpAnyT_take (i := 1) (v := ?_) rfl (by kernel_rfl) (by kernel_rfl) (by kernel_rfl) (by kernel_rfl) (fun _ _ _ h => h) (Or.inl ⟨by rfl, ?_⟩) (HX.out _ (Below.refl _ _)) ?_
  rotate_left
  · intro w hSw
    (try dsimp only at hSw)
    go_simp
    all_goals with_reducible rfl
  simp only [Act.put, List.setIfInBounds_toArray, List.set_cons_zero, List.set_cons_succ]
  refine wpAnyT_take (i := 2) (v := ?_) rfl (by kernel_rfl) (by kernel_rfl) (by kernel_rfl) (by kernel_rfl) (fun _ _ _ h => h) (Or.inl ⟨by rfl, ?_⟩) (HX.out _ (Below.refl _ _)) ?_
  rotate_left
  · intro w hSw
    (try dsimp only at hSw)
    go_simp
    all_goals with_reducible rfl
  simp only [Act.put, List.setIfInBounds_toArray, List.set_cons_zero, List.set_cons_succ]
  refine wpAnyT_take (i := 3) (v := ?_) rfl (by kernel_rfl) (by kernel_rfl) (by kernel_rfl) (by kernel_rfl) (fun _ _ _ h => h) (Or.inl ⟨by rfl, ?_⟩) (HX.out _ (Below.refl _ _)) ?_
  rotate_left
  · intro w hSw
    (try dsimp only at hSw)
    go_simp
    all_goals with_reducible rfl
  simp only [Act.put, List.setIfInBounds_toArray, List.set_cons_zero, List.set_cons_succ]
  refine wpAnyT_take (i := 5) (v := ?_) rfl (by kernel_rfl) (by kernel_rfl) (by kernel_rfl) (by kernel_rfl) (fun _ _ _ h => h) (Or.inl ⟨by rfl, ?_⟩) (HX.out _ (Below.refl _ _)) ?_
  rotate_left
  · intro w hSw
    (try dsimp only at hSw)
    go_simp
    all_goals with_reducible rfl
  simp only [Act.put, List.setIfInBounds_toArray, List.set_cons_zero, List.set_cons_succ]
  refine wpAnyT_take (i := 6) (v := ?_) rfl (by kernel_rfl) (by kernel_rfl) (by kernel_rfl) (by kernel_rfl) (fun _ _ _ h => h) (Or.inl ⟨by rfl, ?_⟩) (HX.out _ (Below.refl _ _)) ?_
  rotate_left
  · intro w hSw
    (try dsimp only at hSw)
    go_simp
    all_goals with_reducible rfl
  simp only [Act.put, List.setIfInBounds_toArray, List.set_cons_zero, List.set_cons_succ]
  refine wpAnyT_take (i := 7) (v := ?_) rfl (by kernel_rfl) (by kernel_rfl) (by kernel_rfl) (by kernel_rfl) (fun _ _ _ h => h) (Or.inl ⟨by rfl, ?_⟩) (HX.out _ (Below.refl _ _)) ?_
  rotate_left
  · intro w hSw
    (try dsimp only at hSw)
    go_simp
    all_goals with_reducible rfl
  simp only [Act.put, List.setIfInBounds_toArray, List.set_cons_zero, List.set_cons_succ]
  refine wpAnyT_take (i := 8) (v := ?_) rfl (by kernel_rfl) (by kernel_rfl) (by kernel_rfl) (by kernel_rfl) (fun _ _ _ h => h) (Or.inl ⟨by rfl, ?_⟩) (HX.out _ (Below.refl _ _)) ?_
  rotate_left
  · intro w hSw
    (try dsimp only at hSw)
    go_simp
    all_goals with_reducible rfl
  simp only [Act.put, List.setIfInBounds_toArray, List.set_cons_zero, List.set_cons_succ]
  refine wpAnyT_two (i := 4) (k := 9) (by kernel_rfl) rfl rfl (fun K hK => ?_) (fun K hK => ?_)
  · go_simp
    refine hK.out _ _ (fun _ => (HX.out _ (below_al (Below.refl _ _) _))) ?_
    clear hK K
    try simp only [Act.put, List.setIfInBounds_toArray, List.set_cons_zero, List.set_cons_succ]
    refine wpAnyT_one (i := 9) (by kernel_rfl) rfl (fun K hK => ?_)
    go_simp
    refine (mclone_any bw lw _ (HWk.out _ (below_al (Below.refl _ _) _))).mono ?_
    rintro e X2 ⟨rfl, oc, rfl, hmc⟩
    have HMc := Lib.hid hmc
    clear hmc
    refine hK.out _ _ (fun _ => (HX.out _ (below_al (below_al (Below.refl _ _) _) _))) ?_
    clear hK K
    try simp only [Act.put, List.setIfInBounds_toArray, List.set_cons_zero, List.set_cons_succ]
    refine wpAnyT_take (i := 10) (v := ?_) rfl (by kernel_rfl) (by kernel_rfl) (by kernel_rfl) (by kernel_rfl) (fun _ _ _ h => h) (Or.inl ⟨by rfl, ?_⟩) (HX.out _ (below_al (below_al (Below.refl _ _) _) _)) ?_
    rotate_left
    · intro w hSw
      (try dsimp only at hSw)
      go_simp
      all_goals with_reducible rfl
    simp only [Act.put, List.setIfInBounds_toArray, List.set_cons_zero, List.set_cons_succ]
    refine wpAnyT_one (i := 11) (by kernel_rfl) rfl (fun K hK => ?_)
    go_simp
    refine hK.out _ _ (fun _ => (HX.out _ (below_al (below_al (below_al (Below.refl _ _) _) _) _))) ?_
    clear hK K
    try simp only [Act.put, List.setIfInBounds_toArray, List.set_cons_zero, List.set_cons_succ]
    refine wpAnyT_one (i := 12) (by kernel_rfl) rfl (fun K hK => ?_)
    go_simp
    refine hK.out _ _ (fun _ => (HX.out _ (below_al (below_al (below_al (Below.refl _ _) _) _) _))) ?_
    clear hK K
    try simp only [Act.put, List.setIfInBounds_toArray, List.set_cons_zero, List.set_cons_succ]
    refine wpAnyT_done (by kernel_rfl) ?_ _
    obtain ⟨W6, hW6⟩ : ∃ W, W = ((Wd.alloc (.map #[] 0)).alloc oc).alloc (.cells #[.int .i64 most, .map (some Wd.heap.size), .map (some (Wd.heap.size + 1))] 62) := ⟨_, rfl⟩
    obtain ⟨c, hc⟩ : ∃ c, c = Wd.heap.size + 1 + 1 := ⟨_, rfl⟩
    obtain ⟨m1, hm1⟩ : ∃ m, m = Wd.heap.size := ⟨_, rfl⟩
    obtain ⟨m2, hm2⟩ : ∃ m, m = Wd.heap.size + 1 := ⟨_, rfl⟩
    have HZ6 : Hid (W6.heap.size = c + 1 ∧ m1 < c ∧ m2 < c ∧ m1 ≠ m2 ∧ w'.heap.size ≤ m1 ∧ w'.heap.size ≤ m2) := by
      have := HZ0.out
      rw [Hid, hW6, hc, hm1, hm2]
      refine ⟨by simp, by omega, by omega, by omega, by omega, by omega⟩
    have HQ6 : Hid (KMap encQk W6 m1 []) := by
      rw [Hid, hW6, hm1]
      have := KMap.made (enc := encQk) Wd
      have h2 : KMap encQk ((Wd.alloc (.map #[] 0)).alloc oc) Wd.heap.size [] := this.kept ((below_al (Below.refl _ _) _).block _ this.lt)
      exact h2.kept ((below_al (Below.refl _ _) _).block _ h2.lt)
    have HN6 : Hid (KMap encNm W6 m2 lw) := by
      rw [Hid, hW6, hm2]
      have := HMc.out
      rw [show (Wd.alloc (.map #[] 0)).heap.size = Wd.heap.size + 1 by simp] at this
      exact this.kept ((below_al (Below.refl _ _) _).block _ this.lt)
    have HC6 : Hid (RowB W6 c [.int .i64 most, .map (some m1), .map (some m2)]) := by
      rw [Hid, hW6, hc, hm1, hm2]
      have := RowB.new (((Wd.alloc (.map #[] 0)).alloc oc)) [.int .i64 most, .map (some (Wd.heap.size)), .map (some (Wd.heap.size + 1))] 62
      rw [show (((Wd.alloc (.map #[] 0)).alloc oc)).heap.size = Wd.heap.size + 1 + 1 by simp] at this
      exact this
    have HB6 : Hid (Below w'.heap.size w' W6) := by
      rw [Hid, hW6]
      exact HB0.out.trans ((below_al (below_al (below_al (Below.refl _ _) _) _) _).mono (by rw [HZ0.out]; exact Nat.le_refl _))
    rw [← hW6, ← hc]
    rw [← hm2, ← hm1]
    clear hW6 hc hm1 hm2 HMc HX HWk hmm
    have d1 := (HPc.out.on HB6.out HPc.out.lt).1 1 _ rfl
    have hq6 : KMap encQk W6 bq lq := HQm.out.kept (HB6.out.block _ HQm.out.lt)
    go_wp2_with (first
      | (at_range; refine wpList_range_K _ rfl _ 59 rfl _ _ Tryd.underlying59 bq lq rfl hq6 ?_; intro o7 hrg)
      | fail)
    go_frame
    obtain ⟨r, hr⟩ : ∃ r, r = W6.heap.size := ⟨_, rfl⟩
    obtain ⟨W7, hW7⟩ : ∃ W, W = W6.alloc o7 := ⟨_, rfl⟩
    rw [← hW7, ← hr] at hrg ⊢
    have HR7 : Hid (RngK encQk W7 bq r lq lq) := hrg
    have HB7 : Hid (Below W6.heap.size W6 W7) := by rw [Hid, hW7]; exact below_al (Below.refl _ _) _
    have HZ7 : Hid (r = c + 1 ∧ W7.heap.size = r + 1) := by
      have := HZ6.out.1
      rw [Hid, hW7, hr]
      exact ⟨by omega, by simp⟩
    have HQ7 : Hid (KMap encQk W7 m1 []) := HQ6.out.kept (HB7.out.block _ HQ6.out.lt)
    have HN7 : Hid (KMap encNm W7 m2 lw ∧ RowB W7 c [.int .i64 most, .map (some m1), .map (some m2)]) := ⟨HN6.out.kept (HB7.out.block _ HN6.out.lt), HC6.out.on HB7.out HC6.out.lt⟩
    have HBw7 : Hid (Below w'.heap.size w' W7) := HB6.out.trans (HB7.out.mono HB6.out.size)
    clear d1 hq6 hrg hr hW7
    go_loopw [25] (fun _ wr => ∃ (todo lc : List (Qk × Value)), CopR wr bq r m1 (r + 1) lq todo lc D ∧ Hid (Below w'.heap.size w' wr ∧ W7.heap.size ≤ wr.heap.size ∧ wr.heap[c]? = W7.heap[c]? ∧ wr.heap[m2]? = W7.heap[m2]?)) (fun _ wr => wr.rangeLeft bq r)
    case atStart =>
      refine ⟨lq, [], ⟨HR7.out, HQ7.out, fun q => ?_, fun q v h => (by cases h), fun q q' v v' _ h => (by cases h)⟩, HBw7.out, Nat.le_refl _, rfl, rfl⟩
      cases hl : lk lq q <;> simp [lk]
    case round =>
      obtain ⟨todo, lc, ⟨c1, c2, c3, c4, c5⟩, hI⟩ := hrel
      have HI : Hid _ := hI
      have HC1 := Lib.hid c1
      have HCs := Lib.hid (And.intro c2 (And.intro c3 (And.intro c4 c5)))
      clear c2 c3 c4 c5
      go_wp2_with (first
        | (at_next; refine wpList_next_K _ rfl _ rfl _ keyQk bq r lq todo rfl c1 ?_ ?_)
        | fail)
      · intro ht
        have HT := Lib.hid ht
        clear ht c1
        go_wp2_with fail
        obtain ⟨hI1, hI2, hI3, hI4⟩ := hI.out
        obtain ⟨g1, g2, g3, g4⟩ := HCs.out
        have hz6 := HZ6.out
        have hz7 := HZ7.out
        have hT := HT.out
        subst hT
        have hown : ∀ q v, lk lc q = some v → wr.ownsRow 0 28 4 v (namesOf D q).length (flatNm (namesOf D q)) := fun q v hq => own_base (g3 q v hq) (Nat.zero_le _)
        have hj : ∀ q v j, lk lc q = some v → v.ownBlock = some j → r + 1 ≤ j ∧ j < wr.heap.size := fun q v j hq hj => World.ownsRow.lt (g3 q v hq) j hj
        go_ret
        refine ⟨⟨c, rfl, m1, m2, lc, lw, HN7.out.2.kept hI3, g1, HN7.out.1.kept hI4, ⟨fun q => ?_, hown, g4⟩, HWs.out, ⟨⟨by omega, by omega⟩, ⟨by omega, by omega⟩, ⟨by omega, by omega⟩, fun q v j hq hj' => ?_⟩, ⟨hz6.2.2.2.1, by omega, by omega, fun q v j hq hj' => ?_⟩⟩, hI1⟩
        · rw [g2 q]
          simp only [lk, Option.isSome_none, Bool.false_eq_true, or_false]
          exact HQs.out.1 q
        · have := hj q v j hq hj'
          exact ⟨by omega, this.2⟩
        · have := hj q v j hq hj'
          exact ⟨by omega, by omega, by omega⟩
      · intro q v w1 o1 pre post hsp hw1 hrg1 hen
        have hlq : lk lq q = some v := lk_of_mem (HQm.out.nodup) (c1.sub.subset (by rw [hsp]; simp))
        clear c1
        obtain ⟨We, hWe⟩ : ∃ W, W = setBlock w1 r o1 := ⟨_, rfl⟩
        rw [← hWe] at hrg1 ⊢
        have HRb : Hid (bq < w'.heap.size ∧ w'.heap.size ≤ r ∧ r < wr.heap.size) := ⟨HQm.out.lt, by have := HZ6.out; have := HZ7.out; omega, by have := HI.out.2.1; have := HZ7.out; omega⟩
        have hw1h : w1.heap = wr.heap ∧ Below w'.heap.size w' w1 := by
          rcases hw1 with rfl | rfl
          · exact ⟨rfl, HI.out.1⟩
          · exact ⟨rfl, HI.out.1.drew⟩
        have HWe : Hid (We.heap.size = wr.heap.size ∧ (∀ j, j ≠ r → We.heap[j]? = wr.heap[j]?) ∧ We.heap[r]? = some o1 ∧ Below w'.heap.size w' We) := by
          rw [Hid, hWe]
          refine ⟨by rw [setBlock_size, hw1h.1], fun j hj => by rw [setBlock_block _ _ _ _ hj, hw1h.1], heap_setBlock (by rw [hw1h.1]; exact HRb.out.2.2) o1, ?_⟩
          exact (ButS.setBlock (S := fun _ => False) (ButS.of_below hw1h.2) (.inr HRb.out.2.1) o1).below (Nat.le_refl _) (fun k h => h.elim)
        have he := hen We (by rw [HWe.out.2.1 bq (by have := HRb.out; omega)]) HWe.out.2.2.1
        unfold encQk at he
        have HRG := Lib.hid hrg1
        have HSP := Lib.hid hsp
        have HLQ := Lib.hid hlq
        clear hen hrg1 hsp hlq hw1 hw1h hWe w1
        go_wp2_with fail
        obtain ⟨Wf, hWf⟩ : ∃ W, W = (We.alloc (.cells #[.int .u32 q.node, .int .i64 q.rank] 68)).drew := ⟨_, rfl⟩
        obtain ⟨bk, hbk⟩ : ∃ b, b = We.heap.size := ⟨_, rfl⟩
        rw [← hbk]
        have HBf : Hid (Below We.heap.size We Wf) := by rw [Hid, hWf]; exact (below_al (Below.refl _ _) _).drew
        have HZf : Hid (bk = wr.heap.size ∧ Wf.heap.size = bk + 1) := by
          rw [Hid, hbk, hWf]
          exact ⟨HWe.out.1, by simp⟩
        have HKf : Hid (RowB Wf bk [.int .u32 q.node, .int .i64 q.rank]) := by
          rw [Hid, hWf, hbk]
          exact (RowB.new We [.int .u32 q.node, .int .i64 q.rank] _).kept rfl
        have HWf := Lib.hid hWf
        clear hWf hbk he
        have HKp : Hid (∀ j, j < wr.heap.size → j ≠ r → Wf.heap[j]? = wr.heap[j]?) := fun j hj hr => (HBf.out.block j (by rw [HWe.out.1]; exact hj)).trans (HWe.out.2.1 j hr)
        have HCf : Hid (RowB Wf c [.int .i64 most, .map (some m1), .map (some m2)]) := by
          have hz6 := HZ6.out
          have hz7 := HZ7.out
          refine HN7.out.2.kept ?_
          rw [HKp.out c (by have := HI.out.2.1; omega) (by omega)]
          exact HI.out.2.2.1
        have HLf : Hid (c < Wf.heap.size ∧ m1 < wr.heap.size ∧ m1 ≠ r ∧ bk < Wf.heap.size) := by
          have hz6 := HZ6.out
          have hz7 := HZ7.out
          have := HI.out.2.1
          have := HZf.out
          exact ⟨by omega, by omega, by omega, by omega⟩
        have HMf : Hid (KMap encQk Wf m1 lc) := HCs.out.1.kept (HKp.out m1 HLf.out.2.1 HLf.out.2.2.1)
        have HX : Hid (∀ X, Below Wf.heap.size Wf X → (X.cell? ⟨c, 1, none⟩ = some (.map (some m1)) ∧ X.cell? ⟨bk, 0, none⟩ = some (.int .u32 q.node) ∧ X.cell? ⟨bk, 1, none⟩ = some (.int .i64 q.rank))) := fun X hb =>
          have r1 := HCf.out.on hb HLf.out.1
          have r2 := HKf.out.on hb HLf.out.2.2.2
          ⟨r1.1 1 _ rfl, r2.1 0 _ rfl, r2.1 1 _ rfl⟩
        have HBw : Hid (Below w'.heap.size w' Wf) := HWe.out.2.2.2.trans (HBf.out.mono HWe.out.2.2.2.size)
        have HOf : Hid (Wf.ownsRow 0 28 4 v (namesOf D q).length (flatNm (namesOf D q))) := ownsRow_kept (HQs.out.2.1 q v HLQ.out) fun j hj => HBw.out.block j (HQs.out.lt HLQ.out hj)
        have HLn : Hid (0 < (namesOf D q).length ∧ (namesOf D q).length ≤ 1000000) := by
          refine ⟨?_, ?_⟩
          · have h1 := HQs.out.1 q
            rw [HLQ.out] at h1
            cases hn : namesOf D q with
            | nil => rw [hn] at h1; simp at h1
            | cons a l => simp
          · rw [namesOf, List.length_map]
            have := List.length_filter_le (fun x => decide (Wt.qk x = q)) D
            have := HLe.out
            omega
        refine wp_region_T (fun X => (X.cell? ⟨c, 1, none⟩ = some (.map (some m1)) ∧ X.cell? ⟨bk, 0, none⟩ = some (.int .u32 q.node) ∧ X.cell? ⟨bk, 1, none⟩ = some (.int .i64 q.rank))) 7 (by kernel_rfl) ?_
        rw [← HWf.out]
        refine wpAnyT_take (i := 0) (v := ?_) rfl (by kernel_rfl) (by kernel_rfl) (by kernel_rfl) (by kernel_rfl) (fun _ _ _ h => h) (Or.inl ⟨by rfl, ?_⟩) (HX.out _ (Below.refl _ _)) ?_
        rotate_left
        · intro w hSw
          (try dsimp only at hSw)
          go_simp
          all_goals with_reducible rfl
        simp only [Act.put, List.setIfInBounds_toArray, List.set_cons_zero, List.set_cons_succ]
        refine wpAnyT_take (i := 1) (v := ?_) rfl (by kernel_rfl) (by kernel_rfl) (by kernel_rfl) (by kernel_rfl) (fun _ _ _ h => h) (Or.inl ⟨by rfl, ?_⟩) (HX.out _ (Below.refl _ _)) ?_
        rotate_left
        · intro w hSw
          (try dsimp only at hSw)
          go_simp
          all_goals with_reducible rfl
        simp only [Act.put, List.setIfInBounds_toArray, List.set_cons_zero, List.set_cons_succ]
        refine wpAnyT_take (i := 2) (v := ?_) rfl (by kernel_rfl) (by kernel_rfl) (by kernel_rfl) (by kernel_rfl) (fun _ _ _ h => h) (Or.inl ⟨by rfl, ?_⟩) (HX.out _ (Below.refl _ _)) ?_
        rotate_left
        · intro w hSw
          (try dsimp only at hSw)
          go_simp
          all_goals with_reducible rfl
        simp only [Act.put, List.setIfInBounds_toArray, List.set_cons_zero, List.set_cons_succ]
        refine wpAnyT_take (i := 3) (v := ?_) rfl (by kernel_rfl) (by kernel_rfl) (by kernel_rfl) (by kernel_rfl) (fun _ _ _ h => h) (Or.inl ⟨by rfl, ?_⟩) (HX.out _ (Below.refl _ _)) ?_
        rotate_left
        · intro w hSw
          (try dsimp only at hSw)
          go_simp
          all_goals with_reducible rfl
        simp only [Act.put, List.setIfInBounds_toArray, List.set_cons_zero, List.set_cons_succ]
        refine wpAnyT_take (i := 4) (v := ?_) rfl (by kernel_rfl) (by kernel_rfl) (by kernel_rfl) (by kernel_rfl) (fun _ _ _ h => h) (Or.inl ⟨by rfl, ?_⟩) (HX.out _ (Below.refl _ _)) ?_
        rotate_left
        · intro w hSw
          (try dsimp only at hSw)
          go_simp
          all_goals with_reducible rfl
        simp only [Act.put, List.setIfInBounds_toArray, List.set_cons_zero, List.set_cons_succ]
        refine wpAnyT_take (i := 5) (v := ?_) rfl (by kernel_rfl) (by kernel_rfl) (by kernel_rfl) (by kernel_rfl) (fun _ _ _ h => h) (Or.inl ⟨by rfl, ?_⟩) (HX.out _ (Below.refl _ _)) ?_
        rotate_left
        · intro w hSw
          (try dsimp only at hSw)
          go_simp
          all_goals with_reducible rfl
        simp only [Act.put, List.setIfInBounds_toArray, List.set_cons_zero, List.set_cons_succ]
        refine wpAnyT_one (i := 6) (by kernel_rfl) rfl (fun K hK => ?_)
        go_simp
        refine (nmClone_any v (namesOf D q).length (namesOf D q) Wf rfl HLn.out.2 HLn.out.1 HOf.out).mono ?_
        rintro e X ⟨v', rfl, ho', hb'⟩
        have HOx := Lib.hid ho'
        have HBx := Lib.hid hb'
        have HMx : Hid (KMap encQk X m1 lc) := HMf.out.kept (HBx.out.block m1 (by have := HLf.out; have := HZf.out; omega))
        obtain ⟨om, hup, hm9⟩ := HMx.out.update keyQk Tryd.underlying59 q v'
        unfold encQk at hup
        have hm9 := Lib.hid hm9
        clear ho' hb'
        refine hK.out _ _ (fun _ => (HX.out _ HBx.out)) ?_
        clear hK K
        try simp only [Act.put, List.setIfInBounds_toArray, List.set_cons_zero, List.set_cons_succ]
        refine wpAnyT_one (i := 7) (by kernel_rfl) rfl (fun K hK => ?_)
        go_simp
        refine hK.out _ _ (fun h => absurd h (by decide)) ?_
        clear hK K
        try simp only [Act.put, List.setIfInBounds_toArray, List.set_cons_zero, List.set_cons_succ]
        refine wpAnyT_done (by kernel_rfl) ?_ _
        obtain ⟨W9, hW9⟩ : ∃ W, W = setBlock X m1 om := ⟨_, rfl⟩
        rw [← hW9]
        have HW9 : Hid (W9.heap.size = X.heap.size ∧ (∀ j, j ≠ m1 → W9.heap[j]? = X.heap[j]?) ∧ Below w'.heap.size w' W9) := by
          rw [Hid, hW9]
          refine ⟨setBlock_size _ _ _, fun j hj => setBlock_block _ _ _ _ hj, ?_⟩
          exact (ButS.setBlock (S := fun _ => False) (ButS.of_below (HBw.out.trans (HBx.out.mono HBw.out.size))) (.inr HZ6.out.2.2.2.2.1) om).below (Nat.le_refl _) (fun k h => h.elim)
        have HM9 : Hid (KMap encQk W9 m1 (up lc q v')) := by rw [Hid, hW9]; exact hm9.out
        clear hW9 hm9 hup
        go_wp2_with fail
        have hz6 := HZ6.out
        have hz7 := HZ7.out
        have hzf := HZf.out
        have hrb := HRb.out
        have hI2 := HI.out.2.1
        have hsx := HBx.out.size
        have hk9 : ∀ j, j < wr.heap.size → j ≠ r → j ≠ m1 → W9.heap[j]? = wr.heap[j]? := fun j hj h1 h2 => (HW9.out.2.1 j h2).trans ((HBx.out.block j (by omega)).trans (HKp.out j hj h1))
        have hkr : W9.heap[r]? = We.heap[r]? := (HW9.out.2.1 r (by omega)).trans ((HBx.out.block r (by omega)).trans (HBf.out.block r (by rw [HWe.out.1]; exact hrb.2.2)))
        have hkq : W9.heap[bq]? = We.heap[bq]? := (HW9.out.2.1 bq (by omega)).trans ((HBx.out.block bq (by omega)).trans (HBf.out.block bq (by rw [HWe.out.1]; omega)))
        have hr9 : RngK encQk W9 bq r lq (pre ++ post) := HRG.out.kept hkq hkr
        obtain ⟨g1, g2, g3, g4⟩ := HCs.out
        have hjl : ∀ q' v'' j, lk lc q' = some v'' → v''.ownBlock = some j → r + 1 ≤ j ∧ j < wr.heap.size := fun q' v'' j hq hj => World.ownsRow.lt (g3 q' v'' hq) j hj
        have hjn : ∀ j, v'.ownBlock = some j → Wf.heap.size ≤ j ∧ j < X.heap.size := fun j hj => World.ownsRow.lt HOx.out j hj
        have hnd : (todo.map (·.1)).Nodup := (HC1.out.sub.map _).nodup HQm.out.nodup
        have hls : ∀ q', lk (pre ++ post) q' = if q' = q then none else lk todo q' := fun q' => by
          have := hnd
          rw [HSP.out] at this ⊢
          exact lk_split this q'
        go_roundw
        case rel =>
          refine ⟨pre ++ post, up lc q v', ⟨hr9, HM9.out, fun q' => ?_, fun q' u hu => ?_, fun q1 q2 u1 u2 hne h1 h2 => ?_⟩, HW9.out.2.2, by rw [HW9.out.1]; omega, (hk9 c (by omega) (by omega) (by omega)).trans HI.out.2.2.1, (hk9 m2 (by omega) (by omega) (by omega)).trans HI.out.2.2.2⟩
          · rw [lk_up, hls]
            by_cases e : q' = q
            · subst e
              simp [HLQ.out]
            · simp only [e, if_false]
              exact g2 q'
          · rw [lk_up] at hu
            by_cases e : q' = q
            · subst e
              simp only [if_true, Option.some.injEq] at hu
              subst hu
              exact own_base (ownsRow_kept HOx.out fun j hj => HW9.out.2.1 j (by have := hjn j hj; omega)) (by omega)
            · simp only [e, if_false] at hu
              exact ownsRow_kept (g3 q' u hu) fun j hj => hk9 j (hjl q' u j hu hj).2 (by have := hjl q' u j hu hj; omega) (by have := hjl q' u j hu hj; omega)
          · rw [lk_up] at h1 h2
            obtain ⟨jv, hjv, hjl1⟩ := own_some HOx.out HLn.out.1
            have hb := hjn jv hjv
            by_cases e1 : q1 = q
            · have e2 : ¬ q2 = q := fun e => hne (e1.trans e.symm)
              simp only [e1, e2, if_true, if_false, Option.some.injEq] at h1 h2
              subst h1
              intro he
              have := hjl q2 u2 jv h2 (he ▸ hjv)
              omega
            · by_cases e2 : q2 = q
              · simp only [e1, e2, if_true, if_false, Option.some.injEq] at h1 h2
                subst h2
                intro he
                have := hjl q1 u1 jv h1 (he.trans hjv)
                omega
              · simp only [e1, e2, if_false] at h1 h2
                exact g4 q1 q2 u1 u2 hne h1 h2
        case measure =>
          rw [hr9.left, HC1.out.left, HSP.out]
          simp
  · go_simp
    refine (mclone_any bw lw _ (HWk.out _ (Below.refl _ _))).mono ?_
    rintro e X2 ⟨rfl, oc, rfl, hmc⟩
    have HMc := Lib.hid hmc
    have HBc : Hid (Below Wd.heap.size Wd (Wd.alloc oc)) := below_al (Below.refl _ _) _
    clear hmc
    refine hK.out _ _ (fun _ => (HX.out _ HBc.out)) ?_
    clear hK K
    try simp only [Act.put, List.setIfInBounds_toArray, List.set_cons_zero, List.set_cons_succ]
    refine wpAnyT_one (i := 4) (by kernel_rfl) rfl (fun K hK => ?_)
    go_simp
    refine hK.out _ _ (fun _ => (HX.out _ (below_al HBc.out _))) ?_
    clear hK K
    try simp only [Act.put, List.setIfInBounds_toArray, List.set_cons_zero, List.set_cons_succ]
    refine wpAnyT_take (i := 10) (v := ?_) rfl (by kernel_rfl) (by kernel_rfl) (by kernel_rfl) (by kernel_rfl) (fun _ _ _ h => h) (Or.inl ⟨by rfl, ?_⟩) (HX.out _ (below_al HBc.out _)) ?_
    rotate_left
    · intro w hSw
      (try dsimp only at hSw)
      go_simp
      all_goals with_reducible rfl
    simp only [Act.put, List.setIfInBounds_toArray, List.set_cons_zero, List.set_cons_succ]
    refine wpAnyT_one (i := 11) (by kernel_rfl) rfl (fun K hK => ?_)
    go_simp
    refine hK.out _ _ (fun _ => (HX.out _ (below_al (below_al HBc.out _) _))) ?_
    clear hK K
    try simp only [Act.put, List.setIfInBounds_toArray, List.set_cons_zero, List.set_cons_succ]
    refine wpAnyT_one (i := 12) (by kernel_rfl) rfl (fun K hK => ?_)
    go_simp
    refine hK.out _ _ (fun _ => (HX.out _ (below_al (below_al HBc.out _) _))) ?_
    clear hK K
    try simp only [Act.put, List.setIfInBounds_toArray, List.set_cons_zero, List.set_cons_succ]
    refine wpAnyT_done (by kernel_rfl) ?_ _
    obtain ⟨W6, hW6⟩ : ∃ W, W = ((Wd.alloc oc).alloc (.map #[] 0)).alloc (.cells #[.int .i64 most, .map (some (Wd.heap.size + 1)), .map (some Wd.heap.size)] 62) := ⟨_, rfl⟩
    obtain ⟨c, hc⟩ : ∃ c, c = Wd.heap.size + 1 + 1 := ⟨_, rfl⟩
    obtain ⟨m1, hm1⟩ : ∃ m, m = Wd.heap.size + 1 := ⟨_, rfl⟩
    obtain ⟨m2, hm2⟩ : ∃ m, m = Wd.heap.size := ⟨_, rfl⟩
    have HZ6 : Hid (W6.heap.size = c + 1 ∧ m1 < c ∧ m2 < c ∧ m1 ≠ m2 ∧ w'.heap.size ≤ m1 ∧ w'.heap.size ≤ m2) := by
      have := HZ0.out
      rw [Hid, hW6, hc, hm1, hm2]
      refine ⟨by simp, by omega, by omega, by omega, by omega, by omega⟩
    have HQ6 : Hid (KMap encQk W6 m1 []) := by
      rw [Hid, hW6, hm1]
      have := KMap.made (enc := encQk) (Wd.alloc oc)
      rw [show (Wd.alloc oc).heap.size = Wd.heap.size + 1 by simp] at this
      exact this.kept ((below_al (Below.refl _ _) _).block _ this.lt)
    have HN6 : Hid (KMap encNm W6 m2 lw) := by
      rw [Hid, hW6, hm2]
      have h2 : KMap encNm ((Wd.alloc oc).alloc (.map #[] 0)) Wd.heap.size lw := HMc.out.kept ((below_al (Below.refl _ _) _).block _ HMc.out.lt)
      exact h2.kept ((below_al (Below.refl _ _) _).block _ h2.lt)
    have HC6 : Hid (RowB W6 c [.int .i64 most, .map (some m1), .map (some m2)]) := by
      rw [Hid, hW6, hc, hm1, hm2]
      have := RowB.new (((Wd.alloc oc).alloc (.map #[] 0))) [.int .i64 most, .map (some (Wd.heap.size + 1)), .map (some (Wd.heap.size))] 62
      rw [show (((Wd.alloc oc).alloc (.map #[] 0))).heap.size = Wd.heap.size + 1 + 1 by simp] at this
      exact this
    have HB6 : Hid (Below w'.heap.size w' W6) := by
      rw [Hid, hW6]
      exact HB0.out.trans ((below_al (below_al (below_al (Below.refl _ _) _) _) _).mono (by rw [HZ0.out]; exact Nat.le_refl _))
    rw [← hW6, ← hc]
    rw [← hm1, ← hm2]
    clear hW6 hc hm1 hm2 HMc HX HWk hmm
    have d1 := (HPc.out.on HB6.out HPc.out.lt).1 1 _ rfl
    have hq6 : KMap encQk W6 bq lq := HQm.out.kept (HB6.out.block _ HQm.out.lt)
    go_wp2_with (first
      | (at_range; refine wpList_range_K _ rfl _ 59 rfl _ _ Tryd.underlying59 bq lq rfl hq6 ?_; intro o7 hrg)
      | fail)
    go_frame
    obtain ⟨r, hr⟩ : ∃ r, r = W6.heap.size := ⟨_, rfl⟩
    obtain ⟨W7, hW7⟩ : ∃ W, W = W6.alloc o7 := ⟨_, rfl⟩
    rw [← hW7, ← hr] at hrg ⊢
    have HR7 : Hid (RngK encQk W7 bq r lq lq) := hrg
    have HB7 : Hid (Below W6.heap.size W6 W7) := by rw [Hid, hW7]; exact below_al (Below.refl _ _) _
    have HZ7 : Hid (r = c + 1 ∧ W7.heap.size = r + 1) := by
      have := HZ6.out.1
      rw [Hid, hW7, hr]
      exact ⟨by omega, by simp⟩
    have HQ7 : Hid (KMap encQk W7 m1 []) := HQ6.out.kept (HB7.out.block _ HQ6.out.lt)
    have HN7 : Hid (KMap encNm W7 m2 lw ∧ RowB W7 c [.int .i64 most, .map (some m1), .map (some m2)]) := ⟨HN6.out.kept (HB7.out.block _ HN6.out.lt), HC6.out.on HB7.out HC6.out.lt⟩
    have HBw7 : Hid (Below w'.heap.size w' W7) := HB6.out.trans (HB7.out.mono HB6.out.size)
    clear d1 hq6 hrg hr hW7
    go_loopw [25] (fun _ wr => ∃ (todo lc : List (Qk × Value)), CopR wr bq r m1 (r + 1) lq todo lc D ∧ Hid (Below w'.heap.size w' wr ∧ W7.heap.size ≤ wr.heap.size ∧ wr.heap[c]? = W7.heap[c]? ∧ wr.heap[m2]? = W7.heap[m2]?)) (fun _ wr => wr.rangeLeft bq r)
    case atStart =>
      refine ⟨lq, [], ⟨HR7.out, HQ7.out, fun q => ?_, fun q v h => (by cases h), fun q q' v v' _ h => (by cases h)⟩, HBw7.out, Nat.le_refl _, rfl, rfl⟩
      cases hl : lk lq q <;> simp [lk]
    case round =>
      obtain ⟨todo, lc, ⟨c1, c2, c3, c4, c5⟩, hI⟩ := hrel
      have HI : Hid _ := hI
      have HC1 := Lib.hid c1
      have HCs := Lib.hid (And.intro c2 (And.intro c3 (And.intro c4 c5)))
      clear c2 c3 c4 c5
      go_wp2_with (first
        | (at_next; refine wpList_next_K _ rfl _ rfl _ keyQk bq r lq todo rfl c1 ?_ ?_)
        | fail)
      · intro ht
        have HT := Lib.hid ht
        clear ht c1
        go_wp2_with fail
        obtain ⟨hI1, hI2, hI3, hI4⟩ := hI.out
        obtain ⟨g1, g2, g3, g4⟩ := HCs.out
        have hz6 := HZ6.out
        have hz7 := HZ7.out
        have hT := HT.out
        subst hT
        have hown : ∀ q v, lk lc q = some v → wr.ownsRow 0 28 4 v (namesOf D q).length (flatNm (namesOf D q)) := fun q v hq => own_base (g3 q v hq) (Nat.zero_le _)
        have hj : ∀ q v j, lk lc q = some v → v.ownBlock = some j → r + 1 ≤ j ∧ j < wr.heap.size := fun q v j hq hj => World.ownsRow.lt (g3 q v hq) j hj
        go_ret
        refine ⟨⟨c, rfl, m1, m2, lc, lw, HN7.out.2.kept hI3, g1, HN7.out.1.kept hI4, ⟨fun q => ?_, hown, g4⟩, HWs.out, ⟨⟨by omega, by omega⟩, ⟨by omega, by omega⟩, ⟨by omega, by omega⟩, fun q v j hq hj' => ?_⟩, ⟨hz6.2.2.2.1, by omega, by omega, fun q v j hq hj' => ?_⟩⟩, hI1⟩
        · rw [g2 q]
          simp only [lk, Option.isSome_none, Bool.false_eq_true, or_false]
          exact HQs.out.1 q
        · have := hj q v j hq hj'
          exact ⟨by omega, this.2⟩
        · have := hj q v j hq hj'
          exact ⟨by omega, by omega, by omega⟩
      · intro q v w1 o1 pre post hsp hw1 hrg1 hen
        have hlq : lk lq q = some v := lk_of_mem (HQm.out.nodup) (c1.sub.subset (by rw [hsp]; simp))
        clear c1
        obtain ⟨We, hWe⟩ : ∃ W, W = setBlock w1 r o1 := ⟨_, rfl⟩
        rw [← hWe] at hrg1 ⊢
        have HRb : Hid (bq < w'.heap.size ∧ w'.heap.size ≤ r ∧ r < wr.heap.size) := ⟨HQm.out.lt, by have := HZ6.out; have := HZ7.out; omega, by have := HI.out.2.1; have := HZ7.out; omega⟩
        have hw1h : w1.heap = wr.heap ∧ Below w'.heap.size w' w1 := by
          rcases hw1 with rfl | rfl
          · exact ⟨rfl, HI.out.1⟩
          · exact ⟨rfl, HI.out.1.drew⟩
        have HWe : Hid (We.heap.size = wr.heap.size ∧ (∀ j, j ≠ r → We.heap[j]? = wr.heap[j]?) ∧ We.heap[r]? = some o1 ∧ Below w'.heap.size w' We) := by
          rw [Hid, hWe]
          refine ⟨by rw [setBlock_size, hw1h.1], fun j hj => by rw [setBlock_block _ _ _ _ hj, hw1h.1], heap_setBlock (by rw [hw1h.1]; exact HRb.out.2.2) o1, ?_⟩
          exact (ButS.setBlock (S := fun _ => False) (ButS.of_below hw1h.2) (.inr HRb.out.2.1) o1).below (Nat.le_refl _) (fun k h => h.elim)
        have he := hen We (by rw [HWe.out.2.1 bq (by have := HRb.out; omega)]) HWe.out.2.2.1
        unfold encQk at he
        have HRG := Lib.hid hrg1
        have HSP := Lib.hid hsp
        have HLQ := Lib.hid hlq
        clear hen hrg1 hsp hlq hw1 hw1h hWe w1
        go_wp2_with fail
        obtain ⟨Wf, hWf⟩ : ∃ W, W = (We.alloc (.cells #[.int .u32 q.node, .int .i64 q.rank] 68)).drew := ⟨_, rfl⟩
        obtain ⟨bk, hbk⟩ : ∃ b, b = We.heap.size := ⟨_, rfl⟩
        rw [← hbk]
        have HBf : Hid (Below We.heap.size We Wf) := by rw [Hid, hWf]; exact (below_al (Below.refl _ _) _).drew
        have HZf : Hid (bk = wr.heap.size ∧ Wf.heap.size = bk + 1) := by
          rw [Hid, hbk, hWf]
          exact ⟨HWe.out.1, by simp⟩
        have HKf : Hid (RowB Wf bk [.int .u32 q.node, .int .i64 q.rank]) := by
          rw [Hid, hWf, hbk]
          exact (RowB.new We [.int .u32 q.node, .int .i64 q.rank] _).kept rfl
        have HWf := Lib.hid hWf
        clear hWf hbk he
        have HKp : Hid (∀ j, j < wr.heap.size → j ≠ r → Wf.heap[j]? = wr.heap[j]?) := fun j hj hr => (HBf.out.block j (by rw [HWe.out.1]; exact hj)).trans (HWe.out.2.1 j hr)
        have HCf : Hid (RowB Wf c [.int .i64 most, .map (some m1), .map (some m2)]) := by
          have hz6 := HZ6.out
          have hz7 := HZ7.out
          refine HN7.out.2.kept ?_
          rw [HKp.out c (by have := HI.out.2.1; omega) (by omega)]
          exact HI.out.2.2.1
        have HLf : Hid (c < Wf.heap.size ∧ m1 < wr.heap.size ∧ m1 ≠ r ∧ bk < Wf.heap.size) := by
          have hz6 := HZ6.out
          have hz7 := HZ7.out
          have := HI.out.2.1
          have := HZf.out
          exact ⟨by omega, by omega, by omega, by omega⟩
        have HMf : Hid (KMap encQk Wf m1 lc) := HCs.out.1.kept (HKp.out m1 HLf.out.2.1 HLf.out.2.2.1)
        have HX : Hid (∀ X, Below Wf.heap.size Wf X → (X.cell? ⟨c, 1, none⟩ = some (.map (some m1)) ∧ X.cell? ⟨bk, 0, none⟩ = some (.int .u32 q.node) ∧ X.cell? ⟨bk, 1, none⟩ = some (.int .i64 q.rank))) := fun X hb =>
          have r1 := HCf.out.on hb HLf.out.1
          have r2 := HKf.out.on hb HLf.out.2.2.2
          ⟨r1.1 1 _ rfl, r2.1 0 _ rfl, r2.1 1 _ rfl⟩
        have HBw : Hid (Below w'.heap.size w' Wf) := HWe.out.2.2.2.trans (HBf.out.mono HWe.out.2.2.2.size)
        have HOf : Hid (Wf.ownsRow 0 28 4 v (namesOf D q).length (flatNm (namesOf D q))) := ownsRow_kept (HQs.out.2.1 q v HLQ.out) fun j hj => HBw.out.block j (HQs.out.lt HLQ.out hj)
        have HLn : Hid (0 < (namesOf D q).length ∧ (namesOf D q).length ≤ 1000000) := by
          refine ⟨?_, ?_⟩
          · have h1 := HQs.out.1 q
            rw [HLQ.out] at h1
            cases hn : namesOf D q with
            | nil => rw [hn] at h1; simp at h1
            | cons a l => simp
          · rw [namesOf, List.length_map]
            have := List.length_filter_le (fun x => decide (Wt.qk x = q)) D
            have := HLe.out
            omega
        refine wp_region_T (fun X => (X.cell? ⟨c, 1, none⟩ = some (.map (some m1)) ∧ X.cell? ⟨bk, 0, none⟩ = some (.int .u32 q.node) ∧ X.cell? ⟨bk, 1, none⟩ = some (.int .i64 q.rank))) 7 (by kernel_rfl) ?_
        rw [← HWf.out]
        refine wpAnyT_take (i := 0) (v := ?_) rfl (by kernel_rfl) (by kernel_rfl) (by kernel_rfl) (by kernel_rfl) (fun _ _ _ h => h) (Or.inl ⟨by rfl, ?_⟩) (HX.out _ (Below.refl _ _)) ?_
        rotate_left
        · intro w hSw
          (try dsimp only at hSw)
          go_simp
          all_goals with_reducible rfl
        simp only [Act.put, List.setIfInBounds_toArray, List.set_cons_zero, List.set_cons_succ]
        refine wpAnyT_take (i := 1) (v := ?_) rfl (by kernel_rfl) (by kernel_rfl) (by kernel_rfl) (by kernel_rfl) (fun _ _ _ h => h) (Or.inl ⟨by rfl, ?_⟩) (HX.out _ (Below.refl _ _)) ?_
        rotate_left
        · intro w hSw
          (try dsimp only at hSw)
          go_simp
          all_goals with_reducible rfl
        simp only [Act.put, List.setIfInBounds_toArray, List.set_cons_zero, List.set_cons_succ]
        refine wpAnyT_take (i := 2) (v := ?_) rfl (by kernel_rfl) (by kernel_rfl) (by kernel_rfl) (by kernel_rfl) (fun _ _ _ h => h) (Or.inl ⟨by rfl, ?_⟩) (HX.out _ (Below.refl _ _)) ?_
        rotate_left
        · intro w hSw
          (try dsimp only at hSw)
          go_simp
          all_goals with_reducible rfl
        simp only [Act.put, List.setIfInBounds_toArray, List.set_cons_zero, List.set_cons_succ]
        refine wpAnyT_take (i := 3) (v := ?_) rfl (by kernel_rfl) (by kernel_rfl) (by kernel_rfl) (by kernel_rfl) (fun _ _ _ h => h) (Or.inl ⟨by rfl, ?_⟩) (HX.out _ (Below.refl _ _)) ?_
        rotate_left
        · intro w hSw
          (try dsimp only at hSw)
          go_simp
          all_goals with_reducible rfl
        simp only [Act.put, List.setIfInBounds_toArray, List.set_cons_zero, List.set_cons_succ]
        refine wpAnyT_take (i := 4) (v := ?_) rfl (by kernel_rfl) (by kernel_rfl) (by kernel_rfl) (by kernel_rfl) (fun _ _ _ h => h) (Or.inl ⟨by rfl, ?_⟩) (HX.out _ (Below.refl _ _)) ?_
        rotate_left
        · intro w hSw
          (try dsimp only at hSw)
          go_simp
          all_goals with_reducible rfl
        simp only [Act.put, List.setIfInBounds_toArray, List.set_cons_zero, List.set_cons_succ]
        refine wpAnyT_take (i := 5) (v := ?_) rfl (by kernel_rfl) (by kernel_rfl) (by kernel_rfl) (by kernel_rfl) (fun _ _ _ h => h) (Or.inl ⟨by rfl, ?_⟩) (HX.out _ (Below.refl _ _)) ?_
        rotate_left
        · intro w hSw
          (try dsimp only at hSw)
          go_simp
          all_goals with_reducible rfl
        simp only [Act.put, List.setIfInBounds_toArray, List.set_cons_zero, List.set_cons_succ]
        refine wpAnyT_one (i := 6) (by kernel_rfl) rfl (fun K hK => ?_)
        go_simp
        refine (nmClone_any v (namesOf D q).length (namesOf D q) Wf rfl HLn.out.2 HLn.out.1 HOf.out).mono ?_
        rintro e X ⟨v', rfl, ho', hb'⟩
        have HOx := Lib.hid ho'
        have HBx := Lib.hid hb'
        have HMx : Hid (KMap encQk X m1 lc) := HMf.out.kept (HBx.out.block m1 (by have := HLf.out; have := HZf.out; omega))
        obtain ⟨om, hup, hm9⟩ := HMx.out.update keyQk Tryd.underlying59 q v'
        unfold encQk at hup
        have hm9 := Lib.hid hm9
        clear ho' hb'
        refine hK.out _ _ (fun _ => (HX.out _ HBx.out)) ?_
        clear hK K
        try simp only [Act.put, List.setIfInBounds_toArray, List.set_cons_zero, List.set_cons_succ]
        refine wpAnyT_one (i := 7) (by kernel_rfl) rfl (fun K hK => ?_)
        go_simp
        refine hK.out _ _ (fun h => absurd h (by decide)) ?_
        clear hK K
        try simp only [Act.put, List.setIfInBounds_toArray, List.set_cons_zero, List.set_cons_succ]
        refine wpAnyT_done (by kernel_rfl) ?_ _
        obtain ⟨W9, hW9⟩ : ∃ W, W = setBlock X m1 om := ⟨_, rfl⟩
        rw [← hW9]
        have HW9 : Hid (W9.heap.size = X.heap.size ∧ (∀ j, j ≠ m1 → W9.heap[j]? = X.heap[j]?) ∧ Below w'.heap.size w' W9) := by
          rw [Hid, hW9]
          refine ⟨setBlock_size _ _ _, fun j hj => setBlock_block _ _ _ _ hj, ?_⟩
          exact (ButS.setBlock (S := fun _ => False) (ButS.of_below (HBw.out.trans (HBx.out.mono HBw.out.size))) (.inr HZ6.out.2.2.2.2.1) om).below (Nat.le_refl _) (fun k h => h.elim)
        have HM9 : Hid (KMap encQk W9 m1 (up lc q v')) := by rw [Hid, hW9]; exact hm9.out
        clear hW9 hm9 hup
        go_wp2_with fail
        have hz6 := HZ6.out
        have hz7 := HZ7.out
        have hzf := HZf.out
        have hrb := HRb.out
        have hI2 := HI.out.2.1
        have hsx := HBx.out.size
        have hk9 : ∀ j, j < wr.heap.size → j ≠ r → j ≠ m1 → W9.heap[j]? = wr.heap[j]? := fun j hj h1 h2 => (HW9.out.2.1 j h2).trans ((HBx.out.block j (by omega)).trans (HKp.out j hj h1))
        have hkr : W9.heap[r]? = We.heap[r]? := (HW9.out.2.1 r (by omega)).trans ((HBx.out.block r (by omega)).trans (HBf.out.block r (by rw [HWe.out.1]; exact hrb.2.2)))
        have hkq : W9.heap[bq]? = We.heap[bq]? := (HW9.out.2.1 bq (by omega)).trans ((HBx.out.block bq (by omega)).trans (HBf.out.block bq (by rw [HWe.out.1]; omega)))
        have hr9 : RngK encQk W9 bq r lq (pre ++ post) := HRG.out.kept hkq hkr
        obtain ⟨g1, g2, g3, g4⟩ := HCs.out
        have hjl : ∀ q' v'' j, lk lc q' = some v'' → v''.ownBlock = some j → r + 1 ≤ j ∧ j < wr.heap.size := fun q' v'' j hq hj => World.ownsRow.lt (g3 q' v'' hq) j hj
        have hjn : ∀ j, v'.ownBlock = some j → Wf.heap.size ≤ j ∧ j < X.heap.size := fun j hj => World.ownsRow.lt HOx.out j hj
        have hnd : (todo.map (·.1)).Nodup := (HC1.out.sub.map _).nodup HQm.out.nodup
        have hls : ∀ q', lk (pre ++ post) q' = if q' = q then none else lk todo q' := fun q' => by
          have := hnd
          rw [HSP.out] at this ⊢
          exact lk_split this q'
        go_roundw
        case rel =>
          refine ⟨pre ++ post, up lc q v', ⟨hr9, HM9.out, fun q' => ?_, fun q' u hu => ?_, fun q1 q2 u1 u2 hne h1 h2 => ?_⟩, HW9.out.2.2, by rw [HW9.out.1]; omega, (hk9 c (by omega) (by omega) (by omega)).trans HI.out.2.2.1, (hk9 m2 (by omega) (by omega) (by omega)).trans HI.out.2.2.2⟩
          · rw [lk_up, hls]
            by_cases e : q' = q
            · subst e
              simp [HLQ.out]
            · simp only [e, if_false]
              exact g2 q'
          · rw [lk_up] at hu
            by_cases e : q' = q
            · subst e
              simp only [if_true, Option.some.injEq] at hu
              subst hu
              exact own_base (ownsRow_kept HOx.out fun j hj => HW9.out.2.1 j (by have := hjn j hj; omega)) (by omega)
            · simp only [e, if_false] at hu
              exact ownsRow_kept (g3 q' u hu) fun j hj => hk9 j (hjl q' u j hu hj).2 (by have := hjl q' u j hu hj; omega) (by have := hjl q' u j hu hj; omega)
          · rw [lk_up] at h1 h2
            obtain ⟨jv, hjv, hjl1⟩ := own_some HOx.out HLn.out.1
            have hb := hjn jv hjv
            by_cases e1 : q1 = q
            · have e2 : ¬ q2 = q := fun e => hne (e1.trans e.symm)
              simp only [e1, e2, if_true, if_false, Option.some.injEq] at h1 h2
              subst h1
              intro he
              have := hjl q2 u2 jv h2 (he ▸ hjv)
              omega
            · by_cases e2 : q2 = q
              · simp only [e1, e2, if_true, if_false, Option.some.injEq] at h1 h2
                subst h2
                intro he
                have := hjl q1 u1 jv h1 (he.trans hjv)
                omega
              · simp only [e1, e2, if_false] at h1 h2
                exact g4 q1 q2 u1 u2 hne h1 h2
        case measure =>
          rw [hr9.left, HC1.out.left, HSP.out]
          simp
end Go.Proofs.YthfndphngeaihaaDoor
