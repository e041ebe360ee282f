/- Package rank: ahead, Get. -/
import Derived.Test.YthfndphngeaihaaDoorRkL
import Derived.Test.YthfndphngeaihaaDoorRkG
namespace Go.Proofs.YthfndphngeaihaaDoor
open Go Go.RowKit Go.Shelf
open Go.ChangeMaps (setBlock)
set_option linter.unusedSimpArgs false
set_option linter.unusedVariables false
set_option linter.unusedSectionVars false
set_option maxRecDepth 100000

attribute [local go_sem] Oper.semAt_some

/-- How many are ahead of a name, in a neighbour's order. -/
def aheadN (l : List Wt) (x : Nm) : Nat := l.findIdx fun y => decide (y.nm = x)

theorem atW_get {l : List Wt} {k : Nat} (hk : k < l.length) : atW l k = l[k] := by
  unfold atW
  rw [List.getElem?_eq_getElem hk]
  rfl
theorem aheadN_none {l : List Wt} {x : Nm} (h : ∀ j, j < l.length → (atW l j).nm ≠ x) : aheadN l x = l.length := by
  refine List.findIdx_eq_length.2 fun y hy => ?_
  obtain ⟨j, hj, rfl⟩ := List.mem_iff_getElem.1 hy
  have := h j hj
  rw [atW_get hj] at this
  simpa using this
theorem aheadN_at {l : List Wt} {x : Nm} {k : Nat} (hk : k < l.length) (h : ∀ j, j < k → (atW l j).nm ≠ x) (hx : (atW l k).nm = x) : aheadN l x = k := by
  refine (List.findIdx_eq hk).2 ⟨?_, fun j hj => ?_⟩
  · rw [atW_get hk] at hx
    simpa using hx
  · have := h j hj
    rw [atW_get (Nat.lt_trans hj hk)] at this
    simpa using this

set_option maxHeartbeats 8000000 in
theorem ahead_any (S : Nat → Prop) (p : Nat) (most : Int) (D : List Wt) (x : Wt) (w : World) (h : LineAt w S p most D) (hS : ∀ b, S b → b < w.heap.size) (hT : TabR w) (hlen : D.length ≤ 100000) :
    Calls Tryd.prog 35 #[.pointer (some ⟨p, 0, none⟩), .agg #[.int .u32 x.nm.n, .int .u32 x.nm.m, .int .u64 x.nm.t, .int .u32 x.nm.q, .int .u32 x.node, .int .i64 x.rank, .int .i64 x.size]] w fun e w' => e = .returned (.int .i64 (aheadN (allOf D x.node) x.nm : Nat)) ∧ Below w.heap.size w w' := by
  obtain ⟨bx, hbx⟩ : ∃ br, br = w.heap.size := ⟨_, rfl⟩
  obtain ⟨W, hW⟩ : ∃ W, W = (w.alloc (.cells #[.int .u32 x.nm.n, .int .u32 x.nm.m, .int .u64 x.nm.t, .int .u32 x.nm.q, .int .u32 x.node, .int .i64 x.rank, .int .i64 x.size] 30)).alloc (.cells #[.int .i64 0] 3) := ⟨_, rfl⟩
  have HB0 : Hid (Below w.heap.size w W) := by rw [hW]; exact below_al (below_al (Below.refl _ _) _) _
  have HZ0 : Hid (W.heap.size = bx + 1 + 1 ∧ bx = w.heap.size) := ⟨by rw [hW, hbx]; simp, hbx⟩
  have HX0 : Hid (RowB W bx x.cells ∧ RowB W (bx + 1) [.int .i64 0]) := by
    rw [Hid, hW, hbx]
    refine ⟨(RowB.new w x.cells _).on (below_al (Below.refl _ _) _) (by simp), ?_⟩
    have := RowB.new (w.alloc (.cells #[.int .u32 x.nm.n, .int .u32 x.nm.m, .int .u64 x.nm.t, .int .u32 x.nm.q, .int .u32 x.node, .int .i64 x.rank, .int .i64 x.size] 30)) [.int .i64 0] 3
    rw [show (w.alloc (.cells #[.int .u32 x.nm.n, .int .u32 x.nm.m, .int .u64 x.nm.t, .int .u32 x.nm.q, .int .u32 x.node, .int .i64 x.rank, .int .i64 x.size] 30)).heap.size = w.heap.size + 1 by simp] at this
    exact this
  have z4 := HX0.out.1.1 4 _ rfl
  have HL := Lib.hid (h.on HB0.out)
  have HT := Lib.hid (hT.on HB0.out)
  have HSb := Lib.hid hS
  have HTb : Hid (0 < w.heap.size) := hT.lt
  have HLe := Lib.hid hlen
  have HW := Lib.hid hW
  clear h hT hS hlen hW
  refine calls_of_marks Tryd.func35 rfl ?_
  simp only [Tryd.ntmps35, List.size_toArray, List.length_cons, List.length_nil, Nat.reduceAdd, Nat.reduceSub, Array.replicate_succ, Array.replicate_zero, List.push_toArray, List.append_toArray, List.nil_append, List.cons_append]
  go_upto_region 1 with fail
  refine wp_scope_on 0 rfl ?_
  go_upto_region 2 with fail
  rw [← HW.out, ← hbx]
  clear hbx
  go_step3
  go_wp2_with fail
  clear z4
  refine (ordered_any p x.node W).mono ?_
  rintro e w4 ⟨rfl, hw4⟩
  have HW4 := Lib.hid hw4
  clear hw4
  go_wp2_with fail
  have HBv : Hid (Below W.heap.size W w4) := by rw [Hid, HW4.out]; exact below_al (below_al (Below.refl _ _) _) _
  have HB4 : Hid (Below w.heap.size w w4) := HB0.out.trans (HBv.out.mono HB0.out.size)
  have HZ4 : Hid (w4.heap.size = W.heap.size + 1 + 1 ∧ bx + 1 < W.heap.size ∧ w.heap.size ≤ bx) := ⟨by rw [HW4.out]; simp, by have := HZ0.out; omega, by have := HZ0.out; omega⟩
  have HX4 : Hid (RowB w4 bx x.cells ∧ RowB w4 (bx + 1) [.int .i64 0]) := ⟨HX0.out.1.on HBv.out (by have := HZ4.out; omega), HX0.out.2.on HBv.out (by have := HZ4.out; omega)⟩
  have hsb : ∀ b, ordS S W.heap.size (W.heap.size + 1) b → b < w4.heap.size := fun b hb => by
    have h1 := HZ4.out
    have h2 := HB0.out.size
    have h3 := HT.out.lt
    rcases hb with h | h | h | h
    · have := HSb.out b h; omega
    · omega
    · omega
    · omega
  obtain ⟨L, hL⟩ : ∃ L, L = allOf D x.node := ⟨_, rfl⟩
  have HLl : Hid (L.length ≤ 1000000) := by
    rw [Hid, hL]
    unfold allOf allR
    have f := fun r : Int => List.length_filter_le (fun y : Wt => decide (y.qk = ⟨x.node, r⟩)) D
    have f0 := f 0
    have f1 := f 1
    have f2 := f 2
    have := HLe.out
    simp only [List.length_append]
    omega
  have HGo : Hid (GoesO Tryd.prog 59 #[.pointer (some ⟨W.heap.size, 0, none⟩), .pointer (some ⟨W.heap.size + 1, 0, none⟩)] (fun k => #[encWt (atW L k)]) (ordS S W.heap.size (W.heap.size + 1)) L.length w4) := by
    rw [Hid, hL]
    exact ordered_go S p most x.node D W w4 HL.out (fun b hb => Nat.lt_of_lt_of_le (HSb.out b hb) HB0.out.size) HT.out HLe.out HW4.out w4 (fun _ _ => rfl) (Nat.le_refl _)
  have HLL := Lib.hid hL
  clear hL
  have hIr : ∀ (β : Type) (f : β → Nat), OwnFrom w4.heap.size (fun (s : β) X => RowB X bx x.cells ∧ RowB X (bx + 1) [.int .i64 (f s : Nat)] ∧ Below w.heap.size w X ∧ w4.heap.size ≤ X.heap.size) := fun β f =>
    OwnFrom.and (ownFrom_row _ _ _ _ (by have := HZ4.out; omega)) (OwnFrom.and (fun s W W' row h hg hr => h.kept (hg.block _ h.lt fun e => by have := (hr _ e.symm).1; have := HZ4.out; omega)) (OwnFrom.and (ownFrom_below (Nat.le_refl _) (by have := HB4.out.size; omega)) (fun _ _ _ _ h hg _ => Nat.le_trans h hg.size)))
  refine wp_rangeGoesO (gf := 59) (lb := #[.pointer (some ⟨W.heap.size, 0, none⟩), .pointer (some ⟨W.heap.size + 1, 0, none⟩)]) rfl ent_ordered1
    HGo.out hsb (fun _ => rfl)
    (fun k X => (∀ j, j < k → (atW L j).nm ≠ x.nm) ∧ (RowB X bx x.cells ∧ RowB X (bx + 1) [.int .i64 (k : Nat)] ∧ Below w.heap.size w X ∧ w4.heap.size ≤ X.heap.size))
    (fun c k X => (c = .exit 0 ∧ (∀ j, j < k → (atW L j).nm ≠ x.nm) ∧ (atW L k).nm = x.nm) ∧ (RowB X bx x.cells ∧ RowB X (bx + 1) [.int .i64 (k : Nat)] ∧ Below w.heap.size w X ∧ w4.heap.size ≤ X.heap.size))
    (OwnFrom.and (ownFrom_pure _ (fun k => ∀ j, j < k → (atW L j).nm ≠ x.nm)) (hIr Nat id)) (fun c => OwnFrom.and (ownFrom_pure _ (fun k => c = .exit 0 ∧ (∀ j, j < k → (atW L j).nm ≠ x.nm) ∧ (atW L k).nm = x.nm)) (hIr Nat id)) ⟨fun j hj => absurd hj (Nat.not_lt_zero _), HX4.out.1, HX4.out.2, HB4.out, Nat.le_refl _⟩
    (fun k a' X => ∃ bo, a' = { tmps := #[.pointer (some ⟨p, 0, none⟩), .agg #[.int .u32 x.nm.n, .int .u32 x.nm.m, .int .u64 x.nm.t, .int .u32 x.nm.q, .int .u32 x.node, .int .i64 x.rank, .int .i64 x.size], undef, .pointer (some ⟨bx, 0, none⟩), .int .i64 0, .pointer (some ⟨bx + 1, 0, none⟩), .pointer (some ⟨bo, 0, none⟩), .pointer (some ⟨p, 0, none⟩), .pointer (some ⟨bx, 4, none⟩), .int .u32 x.node, .func (.func 59) #[] #[.pointer (some ⟨W.heap.size, 0, none⟩), .pointer (some ⟨W.heap.size + 1, 0, none⟩)], encWt (atW L k), undef, undef, undef, undef, undef, undef, undef, undef], defers := [] } ∧ RowB X bo (atW L k).cells)
    (fun k a' s X Y row hs hg hr => by
      obtain ⟨bo, e, c0⟩ := hs
      exact ⟨bo, e, c0.ownk hg (fun r e => (hr r e).2)⟩) ?assign ?body ?done ?stop
  case assign =>
    intro ll k X K hk hI hK
    have HI := Lib.hid hI
    have HKk := Lib.hid hK
    obtain ⟨y, hy⟩ : ∃ y, y = atW L k := ⟨_, rfl⟩
    rw [← hy] at HKk ⊢
    unfold encWt at HKk ⊢
    clear hI hK hy
    gi_wp2
    refine HKk.out _ _ ((KeepsOthers.alloc _ _).from _) (fun b hb => ?_) ⟨HI.out.1, (hIr Nat id).alloc (s := k) _ HI.out.2⟩ ⟨X.heap.size, rfl, RowB.new X y.cells _⟩
    refine Below.heap_alloc X _ b ?_
    rcases hb with hb | hb
    · exact Nat.lt_of_lt_of_le (hsb b hb) HI.out.2.2.2.2
    · exact hb.2
  case body =>
    rintro ll k a' X hk hl _ ⟨hall, h1, h2, h3⟩ ⟨bo, rfl, hr⟩
    have HX := Lib.hid (And.intro h1 (And.intro h2 h3))
    have HA := Lib.hid hall
    have HR := Lib.hid hr
    obtain ⟨y, hy⟩ : ∃ y, y = atW L k := ⟨_, rfl⟩
    rw [← hy] at HR ⊢
    have HY := Lib.hid hy
    have z0 := HR.out.1 0 _ rfl
    have z1 := HR.out.1 1 _ rfl
    have z2 := HR.out.1 2 _ rfl
    have z3 := HR.out.1 3 _ rfl
    have u0 := h1.1 0 _ rfl
    have u1 := h1.1 1 _ rfl
    have u2 := h1.1 2 _ rfl
    have u3 := h1.1 3 _ rfl
    have u7 := h2.1 0 _ rfl
    have g7 := h2.2 0
    have hkl : k < 1000000 := Nat.lt_of_lt_of_le hk HLl.out
    have heq := nmEq_bin y.nm x.nm
    unfold encWt
    clear h1 h2 h3 hr hy hall
    by_cases hxy : y.nm = x.nm
    · have HXY := Lib.hid hxy
      have hd : decide (y.nm = x.nm) = true := decide_eq_true hxy
      rw [hd] at heq
      clear hxy hd
      gi_wp2
      refine ⟨⟨KeepsOthers.refl _ |>.from _, fun b hb => rfl⟩, ⟨rfl, HA.out, ?_⟩, HX.out.1, HX.out.2.1, HX.out.2.2⟩
      rw [← HY.out]
      exact HXY.out
    · have HXY := Lib.hid hxy
      have hd : decide (y.nm = x.nm) = false := decide_eq_false hxy
      rw [hd] at heq
      clear hxy hd
      gi_wp2
      obtain ⟨Y, hYw⟩ : ∃ Y, Y = X.setCell ⟨bx + 1, 0, none⟩ (.int .i64 (k + 1 : Int)) := ⟨_, rfl⟩
      rw [← hYw]
      have hk : ∀ b, b ≠ bx + 1 → Y.heap[b]? = X.heap[b]? := fun b e => by rw [hYw, Below.heap_setCell _ _ _ _ e]
      have hz : Y.heap.size = X.heap.size := by rw [hYw, World.size_setCell]
      obtain ⟨p1, p2, p3, p4⟩ := HX.out
      obtain ⟨y1, y2, y3⟩ := HZ4.out
      have hno : ∀ b, SinceB (ordS S W.heap.size (W.heap.size + 1)) (w4.heap.size + 2) X b → b ≠ bx + 1 := by
        rintro b hb rfl
        rcases hb with hb | hb
        · rcases hb with h | h | h | h
          · have := HSb.out _ h; omega
          · omega
          · omega
          · have := HTb.out; omega
        · have := hb.1; omega
      refine ⟨⟨by omega, fun b o hb ho _ => (hk b (by omega)).trans ho⟩, fun b hb => hk b (hno b hb), fun j hj => ?_, p1.kept (hk bx (by omega)), ?_, ?_, by omega⟩
      · rcases Nat.lt_or_ge j k with h | h
        · exact HA.out j h
        · obtain rfl : j = k := by omega
          rw [← HY.out]
          exact HXY.out
      · rw [hYw]
        exact p2.set 0 _
      · have hb : ButS w.heap.size (fun b => False) w Y := by
          rw [hYw]
          exact (ButS.of_below p3).set (.inr (by omega)) 0 _
        exact hb.below (Nat.le_refl _) fun k h => h.elim
  case done =>
    rintro D9 X hD ⟨hN, h1, h2, h3⟩ hK
    have HX := Lib.hid (And.intro h1 (And.intro h2 h3))
    have HK := Lib.hid hK
    have HN0 := Lib.hid hN
    have u7 := h2.1 0 _ rfl
    clear h1 h2 h3 hN hK
    go_wp2_with fail
    simp only [Exit.jump]
    obtain ⟨p1, p2, p3, p4⟩ := HX.out
    obtain ⟨y1, y2, y3⟩ := HZ4.out
    refine marks_one HK.out (results_tmp rfl _ _ _) ⟨?_, below_put p3 (by omega) _⟩
    rw [← HLL.out, aheadN_none HN0.out]
    rfl
  case stop =>
    rintro D9 c k X hD hk ⟨⟨rfl, hall, hxy⟩, h1, h2, h3⟩ hK
    have HX := Lib.hid (And.intro h1 (And.intro h2 h3))
    have HK := Lib.hid hK
    have HA := Lib.hid hall
    have HXY := Lib.hid hxy
    have HN0 := Lib.hid hk
    have u7 := h2.1 0 _ rfl
    clear h1 h2 h3 hK hk hall hxy
    go_wp2_with fail
    simp only [Exit.jump]
    obtain ⟨p1, p2, p3, p4⟩ := HX.out
    obtain ⟨y1, y2, y3⟩ := HZ4.out
    refine marks_one HK.out (results_tmp rfl _ _ _) ⟨?_, below_put p3 (by omega) _⟩
    rw [← HLL.out, aheadN_at HN0.out HA.out HXY.out]
    rfl

end Go.Proofs.YthfndphngeaihaaDoor
