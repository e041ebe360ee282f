/- The document's Of. -/
import Derived.Test.YtjbdpkjkeelgfaaDoorNmN2
import Derived.Test.YtjbdpkjkeelgfaaDoorNmX3
namespace Go.Proofs.YtjbdpkjkeelgfaaDoor
open Go Go.RowKit Go.Shelf
set_option linter.unusedSimpArgs false
set_option linter.unusedVariables false
set_option maxRecDepth 100000

/-- What the document's Of answers. -/
def RoP (w : World) (x : It) (e : Ending) (w' : World) : Prop := Below w.heap.size w w' ∧ ∃ (n m : Nat) (b : Bool), e = .returned (.tuple #[.agg #[.int .u32 n, .int .u32 m], .bool b]) ∧ (b = true ∧ epI x = some (n, m) ∨ b = false ∧ epI x = none ∧ n = 0 ∧ m = 0)

theorem epI_none {x : It} (hx : x.nn 2) (h0 : x ≠ itE 0 0) (h : ∀ n m : Nat, 0 < n → n ≤ 4294967295 → m ≤ 4294967295 → x ≠ itLs [itU 2, itLs [itU n, itU m]]) : epI x = none := by
  cases he : epI x with
  | none => rfl
  | some p =>
    obtain ⟨n, m⟩ := p
    obtain ⟨h1, h2, h3, h4⟩ := epI_some hx he
    exfalso
    by_cases hn : n = 0
    · subst hn
      obtain rfl : m = 0 := by omega
      exact h0 h1
    · exact h n m (by omega) h3 h4 (by rw [h1, itE, if_neg hn])

theorem rdK_two (w : World) (t : TypeId) (a b : Int) (w' : World) (h : Below (w.alloc (.cells #[.int .i64 a, .int .i64 b] t)).heap.size (w.alloc (.cells #[.int .i64 a, .int .i64 b] t)) w') : RdK w' w.heap.size [a, b] := by
  have h1 : RdK (w.alloc (.cells #[.int .i64 a, .int .i64 b] t)) w.heap.size [a, b] := ⟨by simp, fun j hj => by
    have : j = 0 ∨ j = 1 := by simp at hj; omega
    rcases this with rfl | rfl <;> simp⟩
  exact h1.on h

set_option maxHeartbeats 16000000 in
theorem refOf_any (x : It) (v : Value) (w : World) (hv : ItV w w.heap.size v x) : Calls Tryd.prog 31 #[v] w (RoP w x) := by
  have hnn := hv.nn 2
  obtain ⟨a, c, A, C, rfl⟩ := hv.form
  obtain ⟨W, hW⟩ : ∃ W, W = (w.alloc (.cells #[.int .i64 x.k, .int .u64 x.n, .slice a x.b.length c, .string ⟨x.s.toArray⟩, .slice A x.l.length C] 33)).alloc (.cells #[.int .u32 0, .int .u32 0] 24) := ⟨_, rfl⟩
  have HB : Hid (Below w.heap.size w W) := by rw [hW]; exact below_al (below_al (Below.refl _ _) _) _
  have hsW : W.heap.size ≤ w.heap.size + 2 ∧ w.heap.size + 2 ≤ W.heap.size := by rw [hW]; simp
  have HX : Hid (∀ w', Below W.heap.size W w' → (w'.cell? ⟨w.heap.size, 0, none⟩ = some (.int .i64 x.k) ∧ w'.cell? ⟨w.heap.size, 1, none⟩ = some (.int .u64 x.n) ∧ w'.cell? ⟨w.heap.size, 2, none⟩ = some (.slice a x.b.length c) ∧ w'.cell? ⟨w.heap.size, 3, none⟩ = some (.string ⟨x.s.toArray⟩) ∧ w'.cell? ⟨w.heap.size, 4, none⟩ = some (.slice A x.l.length C))) := fun w' h => by
    have e : ∀ i, W.cell? ⟨w.heap.size, i, none⟩ = (#[.int .i64 x.k, .int .u64 x.n, .slice a x.b.length c, .string ⟨x.s.toArray⟩, .slice A x.l.length C])[i]? := fun i => by
      rw [hW]
      exact ((below_al (Below.refl (w.alloc (.cells #[.int .i64 x.k, .int .u64 x.n, .slice a x.b.length c, .string ⟨x.s.toArray⟩, .slice A x.l.length C] 33)).heap.size (w.alloc (.cells #[.int .i64 x.k, .int .u64 x.n, .slice a x.b.length c, .string ⟨x.s.toArray⟩, .slice A x.l.length C] 33))) _).cell (p := ⟨w.heap.size, i, none⟩) (by simp)).trans (World.cell?_alloc_mark _ _ _ _ _)
    have hh := fun i => (h.cell (p := ⟨w.heap.size, i, none⟩) (show w.heap.size < W.heap.size by omega)).trans (e i)
    exact ⟨hh 0, hh 1, hh 2, hh 3, hh 4⟩
  have HR : Hid (∀ w', Below W.heap.size W w' → (w'.cell? ⟨w.heap.size + 1, 0, none⟩ = some (.int .u32 0) ∧ w'.cell? ⟨w.heap.size + 1, 1, none⟩ = some (.int .u32 0)) ∧ ∀ i, w'.frozen? ⟨w.heap.size + 1, i, none⟩ = false) := fun w' h => by
    have hh := fun i => (h.cell (p := ⟨w.heap.size + 1, i, none⟩) (show w.heap.size + 1 < W.heap.size by omega)).trans (by rw [hW, ← World.size_alloc w (.cells #[.int .i64 x.k, .int .u64 x.n, .slice a x.b.length c, .string ⟨x.s.toArray⟩, .slice A x.l.length C] 33), World.cell?_alloc_mark] : W.cell? ⟨w.heap.size + 1, i, none⟩ = (#[Value.int .u32 0, .int .u32 0])[i]?)
    refine ⟨⟨hh 0, hh 1⟩, fun i => (h.frozen (p := ⟨w.heap.size + 1, i, none⟩) (show w.heap.size + 1 < W.heap.size by omega)).trans ?_⟩
    rw [hW, ← World.size_alloc w (.cells #[.int .i64 x.k, .int .u64 x.n, .slice a x.b.length c, .string ⟨x.s.toArray⟩, .slice A x.l.length C] 33)]
    exact World.frozen?_alloc_new _ _ _ _
  have HW := Lib.hid hW
  have HV := Lib.hid hv
  have HN := Lib.hid hnn
  clear hW hv hnn
  have HBW : Hid (∀ w', Below W.heap.size W w' → Below w.heap.size w w') := fun w' h => HB.out.trans (h.mono HB.out.size)
  have HI0 := Lib.hid (refItemR_any 0 0 (.inr rfl) (by decide) (by decide))
  have F0 : Below W.heap.size W W.drew := (Below.refl _ _).drew
  obtain ⟨q1, hq1⟩ : ∃ q, q = x.same (itE 0 0) := ⟨_, rfl⟩
  have HQ1 := Lib.hid hq1
  clear hq1
  have HFAIL : Hid (∀ (w2 : World), Below W.heap.size W w2 → epI x = none → RoP w x (.returned (.tuple #[.agg #[.int .u32 0, .int .u32 0], .bool false])) ((w2.setCell ⟨w.heap.size + 1, 0, none⟩ (.int .u32 0)).setCell ⟨w.heap.size + 1, 1, none⟩ (.int .u32 0))) := fun w2 h he =>
    ⟨((HBW.out _ h).setCell (p := ⟨w.heap.size + 1, 0, none⟩) (Nat.le_succ _) _).setCell (p := ⟨w.heap.size + 1, 1, none⟩) (Nat.le_succ _) _, 0, 0, false, rfl, .inr ⟨rfl, he, rfl, rfl⟩⟩
  go_enter Tryd.func31, Tryd.ntmps31
  go_wp2_with fail
  rw [← HW.out]
  refine wp_region_held_drew (S := fun w' => (w'.cell? ⟨w.heap.size, 0, none⟩ = some (.int .i64 x.k) ∧ w'.cell? ⟨w.heap.size, 1, none⟩ = some (.int .u64 x.n) ∧ w'.cell? ⟨w.heap.size, 2, none⟩ = some (.slice a x.b.length c) ∧ w'.cell? ⟨w.heap.size, 3, none⟩ = some (.string ⟨x.s.toArray⟩) ∧ w'.cell? ⟨w.heap.size, 4, none⟩ = some (.slice A x.l.length C))) (by kernel_rfl) (HX.out _ F0) (fun hHeld => ?_)
  refine take_listed (i := 0) (v := ?_) rfl (by kernel_rfl) (by kernel_rfl) (by kernel_rfl) (fun _ _ _ h => h) (Or.inl ⟨by rfl, ?_⟩) (by assumption) ?_
  rotate_left
  · intro w hSw
    (try dsimp only at hSw)
    go_simp
    all_goals with_reducible rfl
  simp only [Act.put, List.setIfInBounds_toArray, List.set_cons_zero, List.set_cons_succ]
  refine take_listed (i := 1) (v := ?_) rfl (by kernel_rfl) (by kernel_rfl) (by kernel_rfl) (fun _ _ _ h => h) (Or.inl ⟨by rfl, ?_⟩) (by assumption) ?_
  rotate_left
  · intro w hSw
    (try dsimp only at hSw)
    go_simp
    all_goals with_reducible rfl
  simp only [Act.put, List.setIfInBounds_toArray, List.set_cons_zero, List.set_cons_succ]
  refine wpAnyH_ready (rs := [2]) (by kernel_rfl) (by simp) ?_
  refine AllReadyH.cons rfl (fun K hK => ?_) AllReadyH.nil
  go_simp
  refine (HI0.out _).mono ?_
  rintro e w1 ⟨ai, ci, Ai, Ci, rfl, hvi, hb1⟩
  have F1 : Below W.heap.size W w1 := below_on F0 hb1
  refine hK.out _ _ (HX.out _ F1) (fun hHeld => ?_)
  clear hK K
  try simp only [Act.put, List.setIfInBounds_toArray, List.set_cons_zero, List.set_cons_succ]
  refine wpAnyH_ready (rs := [3]) (by kernel_rfl) (by simp) ?_
  refine AllReadyH.cons rfl (fun K hK => ?_) AllReadyH.nil
  go_simp
  refine (refSame_any x (itE 0 0) _ _ w1 (HV.out.on (HBW.out _ F1)) hvi).mono ?_
  rintro e w2 ⟨rfl, hb2⟩
  rw [← HQ1.out]
  have F2 : Below W.heap.size W w2 := below_on F1 hb2
  clear hvi
  refine hK.out _ _ (HX.out _ F2) (fun hHeld => ?_)
  clear hK K
  try simp only [Act.put, List.setIfInBounds_toArray, List.set_cons_zero, List.set_cons_succ]
  refine wpAnyH_done (by kernel_rfl) ?_ _
  have HF2 := Lib.hid F2
  clear F0 F1 F2 hHeld
  cases q1
  rotate_left
  · obtain ⟨⟨r0, r1⟩, rf⟩ := HR.out w2 HF2.out
    have f0 := rf 0
    have f1 := rf 1
    go_wp2_with fail
    obtain ⟨s0, s1⟩ := put2 (.int .u32 0) (.int .u32 0) r0 r1
    have HB5 := Lib.hid (((HBW.out _ HF2.out).setCell (p := ⟨w.heap.size + 1, 0, none⟩) (Nat.le_succ _) (.int .u32 0)).setCell (p := ⟨w.heap.size + 1, 1, none⟩) (Nat.le_succ _) (.int .u32 0))
    refine bodyPost_ret (v := .tuple #[.agg #[.int .u32 0, .int .u32 0], .bool true]) (by simp [results, Tryd.results31, go_sem, s0, s1]) rfl ⟨HB5.out, 0, 0, true, rfl, .inl ⟨rfl, ?_⟩⟩
    rw [(It.same_iff _ _).1 HQ1.out.symm]
    exact epI_itE 0 0 (.inr rfl) (by decide) (by decide)
  have HNE : Hid (x ≠ itE 0 0) := fun h => by
    have := HQ1.out
    rw [h, same_self] at this
    cases this
  have HNO : Hid ((∀ n m : Nat, 0 < n → n ≤ 4294967295 → m ≤ 4294967295 → x ≠ itLs [itU 2, itLs [itU n, itU m]]) → epI x = none) := fun h => epI_none HN.out HNE.out h
  clear HQ1
  obtain ⟨x0, x1, x2, x3, x4⟩ := HX.out w2 HF2.out
  obtain ⟨sh1, hsh1⟩ : ∃ q, q = shapeB x [1, 4] := ⟨_, rfl⟩
  have HSH1 := Lib.hid hsh1
  clear hsh1
  go_wp2_with fail
  obtain ⟨W3, hW3⟩ : ∃ W', W' = w2.alloc (.cells #[.int .i64 1, .int .i64 4] 3) := ⟨_, rfl⟩
  have HF3 : Hid (Below W.heap.size W W3) := by rw [hW3]; exact below_al HF2.out _
  have HRK : Hid (RdK W3 w2.heap.size [1, 4]) := by rw [hW3]; exact rdK_two w2 _ 1 4 _ (Below.refl _ _)
  rw [← hW3]
  clear hW3 x0 x1 x2 x3 x4
  refine (shape_ref x _ w2.heap.size 2 2 [1, 4] rfl (by decide) W3 (HV.out.on (HBW.out _ HF3.out)) HRK.out).mono ?_
  rintro e w4 ⟨rfl, hb⟩
  rw [← HSH1.out]
  have HF4 : Hid (Below W.heap.size W w4) := below_on HF3.out hb
  clear hb
  cases sh1
  · obtain ⟨⟨r0, r1⟩, rf⟩ := HR.out w4 HF4.out
    have f0 := rf 0
    have f1 := rf 1
    go_wp2_with fail
    obtain ⟨s0, s1⟩ := put2 (.int .u32 0) (.int .u32 0) r0 r1
    refine bodyPost_ret (v := .tuple #[.agg #[.int .u32 0, .int .u32 0], .bool false]) (by simp [results, Tryd.results31, go_sem, s0, s1]) rfl (HFAIL.out w4 HF4.out (HNO.out fun n m h1 h2 h3 he => ?_))
    have := HSH1.out
    rw [he] at this
    cases this
  have hsx := shapeB_iff.1 HSH1.out.symm
  have hk4 := hsx.1
  obtain ⟨y0, y1, hxl, hy0, hy1⟩ : ∃ y0 y1, x.l = [y0, y1] ∧ y0.k = 1 ∧ y1.k = 4 := by
    have h := hsx.2
    have h2 : x.l.length = 2 := by have := congrArg List.length h; simpa using this
    match hl : x.l, h2, h with
    | [y0, y1], _, h =>
      simp only [List.map_cons, List.map_nil, List.cons.injEq, and_true] at h
      exact ⟨y0, y1, rfl, h.1, h.2⟩
  have HXL := Lib.hid hxl
  have HK4 := Lib.hid hk4
  have HY1 := Lib.hid hy1
  clear hsx hk4 hxl hy0 hy1
  obtain ⟨bq, hbq⟩ : ∃ q, q = bareB x := ⟨_, rfl⟩
  have HBQ := Lib.hid hbq
  clear hbq
  obtain ⟨x0, x1, x2, x3, x4⟩ := HX.out w4 HF4.out
  go_wp2_with fail
  refine (bare_ref x _ w4 HK4.out (HV.out.on (HBW.out _ HF4.out))).mono ?_
  rintro e w5 ⟨rfl, hb⟩
  rw [← HBQ.out]
  have HF5 : Hid (Below W.heap.size W w5) := below_on HF4.out hb
  clear hb x0 x1 x2 x3 x4
  cases bq
  · obtain ⟨⟨r0, r1⟩, rf⟩ := HR.out w5 HF5.out
    have f0 := rf 0
    have f1 := rf 1
    go_wp2_with fail
    obtain ⟨s0, s1⟩ := put2 (.int .u32 0) (.int .u32 0) r0 r1
    refine bodyPost_ret (v := .tuple #[.agg #[.int .u32 0, .int .u32 0], .bool false]) (by simp [results, Tryd.results31, go_sem, s0, s1]) rfl (HFAIL.out w5 HF5.out (HNO.out fun n m h1 h2 h3 he => ?_))
    have := HBQ.out
    rw [he] at this
    cases this
  obtain ⟨g, o, a0, c0, A0, C0, a1, c1, A1, C1, rfl, hpair⟩ := HV.out.pair HXL.out
  have HPR := Lib.hid hpair
  have hlen : x.l.length = 2 := by rw [HXL.out]; rfl
  obtain ⟨x0, x1, x2, x3, x4⟩ := HX.out w5 HF5.out
  obtain ⟨-, -, e0, e1, e2, e3, e4⟩ := HPR.out w5 (HBW.out _ HF5.out)
  obtain ⟨sh2, hsh2⟩ : ∃ q, q = shapeB y1 [1, 1] := ⟨_, rfl⟩
  have HSH2 := Lib.hid hsh2
  have HLEN := Lib.hid hlen
  rw [hlen] at x4
  clear hsh2 hpair
  go_wp2_with fail
  obtain ⟨W6, hW6⟩ : ∃ W', W' = w5.alloc (.cells #[.int .i64 1, .int .i64 1] 3) := ⟨_, rfl⟩
  have HF6 : Hid (Below W.heap.size W W6) := by rw [hW6]; exact below_al HF5.out _
  have HRK2 : Hid (RdK W6 w5.heap.size [1, 1]) := by rw [hW6]; exact rdK_two w5 _ 1 1 _ (Below.refl _ _)
  rw [← hW6]
  clear hW6 x0 x1 x2 x3 x4 e0 e1 e2 e3 e4
  refine (shape_ref y1 _ w5.heap.size 2 2 [1, 1] rfl (by decide) W6 (ItV.mono (HBW.out _ HF6.out).size _ (HPR.out W6 (HBW.out _ HF6.out)).1.2) HRK2.out).mono ?_
  rintro e w7 ⟨rfl, hb⟩
  rw [← HSH2.out]
  have HF7 : Hid (Below W.heap.size W w7) := below_on HF6.out hb
  clear hb
  cases sh2
  · obtain ⟨⟨r0, r1⟩, rf⟩ := HR.out w7 HF7.out
    have f0 := rf 0
    have f1 := rf 1
    go_wp2_with fail
    obtain ⟨s0, s1⟩ := put2 (.int .u32 0) (.int .u32 0) r0 r1
    refine bodyPost_ret (v := .tuple #[.agg #[.int .u32 0, .int .u32 0], .bool false]) (by simp [results, Tryd.results31, go_sem, s0, s1]) rfl (HFAIL.out w7 HF7.out (HNO.out fun n m h1 h2 h3 he => ?_))
    have h5 := HXL.out
    rw [he] at h5
    have h6 : y1 = itLs [itU n, itU m] := by
      simp only [itLs, It.l, List.cons.injEq, and_true] at h5
      exact h5.2.symm
    have := HSH2.out
    rw [h6] at this
    cases this
  obtain ⟨z0, z1, hyl⟩ : ∃ z0 z1, y1.l = [z0, z1] := by
    have h := (shapeB_iff.1 HSH2.out.symm).2
    have h2 : y1.l.length = 2 := by have := congrArg List.length h; simpa using this
    match hl : y1.l, h2 with
    | [z0, z1], _ => exact ⟨z0, z1, rfl⟩
  obtain ⟨g2, o2, a2, c2, A2, C2, a3, c3, A3, C3, rfl, hpair2⟩ := (HPR.out w (Below.refl _ _)).1.2.pair hyl
  have HPR2 := Lib.hid hpair2
  have HYL := Lib.hid hyl
  have hlen2 : y1.l.length = 2 := by rw [hyl]; rfl
  have hm0 : 0 ≤ z0.n := (HN.out.2 y1 (by rw [HXL.out]; simp)).2 z0 (by rw [hyl]; simp)
  have hm1 : 0 ≤ z1.n := (HN.out.2 y1 (by rw [HXL.out]; simp)).2 z1 (by rw [hyl]; simp)
  obtain ⟨n, hzn⟩ := Int.eq_ofNat_of_zero_le hm0
  obtain ⟨m, hzm⟩ := Int.eq_ofNat_of_zero_le hm1
  have HZN := Lib.hid hzn
  have HZM := Lib.hid hzm
  have HS5 : Hid (∀ w', Below w.heap.size w w' → Below W.heap.size W w' → (w'.cell? ⟨w.heap.size, 4, none⟩ = some (.slice (some ⟨g, o, none⟩) 2 C) ∧ w'.cell? ⟨g, o + 5 + 4, none⟩ = some (.slice (some ⟨g2, o2, none⟩) 2 C1)) ∧ (w'.cell? ⟨g2, o2 + 1, none⟩ = some (.int .u64 n) ∧ w'.cell? ⟨g2, o2 + 5 + 1, none⟩ = some (.int .u64 m))) := fun w' h1 h2 => by
    have b1 := (HX.out w' h2).2.2.2.2
    rw [hlen] at b1
    have b2 := (HPR.out w' h1).2.2.2.2.2.2
    rw [hlen2] at b2
    have b3 := (HPR2.out w' h1).2.1.2.1
    have b4 := (HPR2.out w' h1).2.2.2.1
    rw [hzn] at b3
    rw [hzm] at b4
    exact ⟨⟨b1, b2⟩, b3, b4⟩
  clear hlen hlen2 hyl hpair2 hm0 hm1 hzn hzm
  have F0 : Below W.heap.size W w7.drew := HF7.out.drew
  go_wp2_with fail
  go_region_held3 (fun w' => (w'.cell? ⟨w.heap.size, 4, none⟩ = some (.slice (some ⟨g, o, none⟩) 2 C) ∧ w'.cell? ⟨g, o + 5 + 4, none⟩ = some (.slice (some ⟨g2, o2, none⟩) 2 C1)) ∧ (w'.cell? ⟨g2, o2 + 1, none⟩ = some (.int .u64 n) ∧ w'.cell? ⟨g2, o2 + 5 + 1, none⟩ = some (.int .u64 m)))
    (first | (refine HS5.out _ (HBW.out _ ?_) ?_ <;> with_reducible exact F0))
    (first | fail)
  rename_i hHeld
  have HF8 := Lib.hid F0
  generalize w7.drew = w8 at HF8
  clear hHeld F0
  have HBAD : Hid (¬ (0 < n ∧ n ≤ 4294967295 ∧ m ≤ 4294967295 ∧ x = itE n m) → epI x = none) := fun hbad => HNO.out fun n' m' h1 h2 h3 he => by
    have h5 := HXL.out
    rw [he] at h5
    have h6 : y1 = itLs [itU n', itU m'] := by
      simp only [itLs, It.l, List.cons.injEq, and_true] at h5
      exact h5.2.symm
    have h7 := HYL.out
    rw [h6] at h7
    simp only [itLs, It.l, List.cons.injEq, and_true] at h7
    have h8 := HZN.out
    have h9 := HZM.out
    rw [← h7.1] at h8
    rw [← h7.2] at h9
    have e1 : (n' : Int) = (n : Int) := h8
    have e2 : (m' : Int) = (m : Int) := h9
    obtain rfl : n' = n := by omega
    obtain rfl : m' = m := by omega
    exact hbad ⟨h1, h2, h3, by rw [he, itE, if_neg (by omega)]⟩
  by_cases hn0 : n = 0
  · subst hn0
    obtain ⟨⟨r0, r1⟩, rf⟩ := HR.out w8 HF8.out
    have f0 := rf 0
    have f1 := rf 1
    go_wp2_with fail
    obtain ⟨s0, s1⟩ := put2 (.int .u32 0) (.int .u32 0) r0 r1
    refine bodyPost_ret (v := .tuple #[.agg #[.int .u32 0, .int .u32 0], .bool false]) (by simp [results, Tryd.results31, go_sem, s0, s1]) rfl (HFAIL.out w8 HF8.out (HBAD.out (by omega)))
  have hn1 : ¬ (n : Int) < 1 := by omega
  by_cases hn2 : n ≤ 4294967295
  rotate_left
  · have hn2' : (4294967295 : Int) < (n : Int) := by omega
    have HNB := Lib.hid hn2
    clear hn2
    obtain ⟨⟨r0, r1⟩, rf⟩ := HR.out w8 HF8.out
    have f0 := rf 0
    have f1 := rf 1
    go_wp2_with fail
    obtain ⟨s0, s1⟩ := put2 (.int .u32 0) (.int .u32 0) r0 r1
    refine bodyPost_ret (v := .tuple #[.agg #[.int .u32 0, .int .u32 0], .bool false]) (by simp [results, Tryd.results31, go_sem, s0, s1]) rfl (HFAIL.out w8 HF8.out (HBAD.out (fun h => HNB.out h.2.1)))
  have hn2' : ¬ (4294967295 : Int) < (n : Int) := by omega
  by_cases hm2 : m ≤ 4294967295
  rotate_left
  · have hm2' : (4294967295 : Int) < (m : Int) := by omega
    have HNB := Lib.hid hm2
    clear hm2
    obtain ⟨⟨r0, r1⟩, rf⟩ := HR.out w8 HF8.out
    have f0 := rf 0
    have f1 := rf 1
    go_wp2_with fail
    obtain ⟨s0, s1⟩ := put2 (.int .u32 0) (.int .u32 0) r0 r1
    refine bodyPost_ret (v := .tuple #[.agg #[.int .u32 0, .int .u32 0], .bool false]) (by simp [results, Tryd.results31, go_sem, s0, s1]) rfl (HFAIL.out w8 HF8.out (HBAD.out (fun h => HNB.out h.2.2.1)))
  have hm2' : ¬ (4294967295 : Int) < (m : Int) := by omega
  have hwn : IntKind.u32.wrap (n : Int) = (n : Int) := by rw [IntKind.wrap_u32]; omega
  have hwm : IntKind.u32.wrap (m : Int) = (m : Int) := by rw [IntKind.wrap_u32]; omega
  have HIn := Lib.hid (refItemR_any n m (.inl (by omega)) hn2 hm2)
  obtain ⟨q2, hq2⟩ : ∃ q, q = x.same (itE n m) := ⟨_, rfl⟩
  have HQ2 := Lib.hid hq2
  have HVAL : Hid ((0 < n ∧ n ≤ 4294967295) ∧ m ≤ 4294967295) := ⟨⟨by omega, hn2⟩, hm2⟩
  clear hq2 hn0 hn2 hm2
  obtain ⟨W9, hW9⟩ : ∃ W', W' = w8.alloc (.cells #[.int .u32 n, .int .u32 m] 24) := ⟨_, rfl⟩
  have HF9 : Hid (Below W.heap.size W W9) := by rw [hW9]; exact below_al HF8.out _
  have HY9 : Hid (∀ w', Below W9.heap.size W9 w' → w'.cell? ⟨w8.heap.size, 0, none⟩ = some (.int .u32 n) ∧ w'.cell? ⟨w8.heap.size, 1, none⟩ = some (.int .u32 m)) := by
    rw [hW9]
    exact fun w' h => box2_all h
  have HW9 := Lib.hid hW9
  clear hW9
  have HC9 : Hid (∀ w', Below W9.heap.size W9 w' → (w'.cell? ⟨w.heap.size, 0, none⟩ = some (.int .i64 x.k) ∧ w'.cell? ⟨w.heap.size, 1, none⟩ = some (.int .u64 x.n) ∧ w'.cell? ⟨w.heap.size, 2, none⟩ = some (.slice a x.b.length c) ∧ w'.cell? ⟨w.heap.size, 3, none⟩ = some (.string ⟨x.s.toArray⟩) ∧ w'.cell? ⟨w.heap.size, 4, none⟩ = some (.slice (some ⟨g, o, none⟩) x.l.length C)) ∧ (w'.cell? ⟨w8.heap.size, 0, none⟩ = some (.int .u32 n) ∧ w'.cell? ⟨w8.heap.size, 1, none⟩ = some (.int .u32 m))) := fun w' h => ⟨HX.out w' (below_on HF9.out h), HY9.out w' h⟩
  have F0 : Below W9.heap.size W9 W9.drew := (Below.refl _ _).drew
  go_wp2_with fail
  rw [← HW9.out]
  refine wp_region_held_drew (S := fun w' => (w'.cell? ⟨w.heap.size, 0, none⟩ = some (.int .i64 x.k) ∧ w'.cell? ⟨w.heap.size, 1, none⟩ = some (.int .u64 x.n) ∧ w'.cell? ⟨w.heap.size, 2, none⟩ = some (.slice a x.b.length c) ∧ w'.cell? ⟨w.heap.size, 3, none⟩ = some (.string ⟨x.s.toArray⟩) ∧ w'.cell? ⟨w.heap.size, 4, none⟩ = some (.slice (some ⟨g, o, none⟩) x.l.length C)) ∧ (w'.cell? ⟨w8.heap.size, 0, none⟩ = some (.int .u32 n) ∧ w'.cell? ⟨w8.heap.size, 1, none⟩ = some (.int .u32 m))) (by kernel_rfl) (HC9.out _ F0) (fun hHeld => ?_)
  refine take_listed (i := 0) (v := ?_) rfl (by kernel_rfl) (by kernel_rfl) (by kernel_rfl) (fun _ _ _ h => h) (Or.inl ⟨by rfl, ?_⟩) (by assumption) ?_
  rotate_left
  · intro w hSw
    (try dsimp only at hSw)
    go_simp
    all_goals with_reducible rfl
  simp only [Act.put, List.setIfInBounds_toArray, List.set_cons_zero, List.set_cons_succ]
  refine take_listed (i := 1) (v := ?_) rfl (by kernel_rfl) (by kernel_rfl) (by kernel_rfl) (fun _ _ _ h => h) (Or.inl ⟨by rfl, ?_⟩) (by assumption) ?_
  rotate_left
  · intro w hSw
    (try dsimp only at hSw)
    go_simp
    all_goals with_reducible rfl
  simp only [Act.put, List.setIfInBounds_toArray, List.set_cons_zero, List.set_cons_succ]
  refine wpAnyH_ready (rs := [2]) (by kernel_rfl) (by simp) ?_
  refine AllReadyH.cons rfl (fun K hK => ?_) AllReadyH.nil
  go_simp
  refine (HIn.out _).mono ?_
  rintro e w10 ⟨ai, ci, Ai, Ci, rfl, hvi, hb1⟩
  have F1 : Below W9.heap.size W9 w10 := below_on F0 hb1
  refine hK.out _ _ (HC9.out _ F1) (fun hHeld => ?_)
  clear hK K
  try simp only [Act.put, List.setIfInBounds_toArray, List.set_cons_zero, List.set_cons_succ]
  refine wpAnyH_ready (rs := [3]) (by kernel_rfl) (by simp) ?_
  refine AllReadyH.cons rfl (fun K hK => ?_) AllReadyH.nil
  go_simp
  refine (refSame_any x (itE n m) _ _ w10 (HV.out.on (HBW.out _ (below_on HF9.out F1))) hvi).mono ?_
  rintro e w11 ⟨rfl, hb2⟩
  rw [← HQ2.out]
  have F2 : Below W9.heap.size W9 w11 := below_on F1 hb2
  clear hvi
  refine hK.out _ _ (HC9.out _ F2) (fun hHeld => ?_)
  clear hK K
  try simp only [Act.put, List.setIfInBounds_toArray, List.set_cons_zero, List.set_cons_succ]
  refine take_listed (i := 4) (v := ?_) rfl (by kernel_rfl) (by kernel_rfl) (by kernel_rfl) (fun _ _ _ h => h) (Or.inl ⟨by rfl, ?_⟩) (by assumption) ?_
  rotate_left
  · intro w hSw
    (try dsimp only at hSw)
    go_simp
    all_goals with_reducible rfl
  simp only [Act.put, List.setIfInBounds_toArray, List.set_cons_zero, List.set_cons_succ]
  refine wpAnyH_done (by kernel_rfl) ?_ _
  have HF11 := Lib.hid (below_on HF9.out F2)
  obtain ⟨y0, y1⟩ := HY9.out _ F2
  clear F0 F1 F2 hHeld
  cases q2
  · obtain ⟨⟨r0, r1⟩, rf⟩ := HR.out w11 HF11.out
    have f0 := rf 0
    have f1 := rf 1
    go_wp2_with fail
    obtain ⟨s0, s1⟩ := put2 (.int .u32 0) (.int .u32 0) r0 r1
    refine bodyPost_ret (v := .tuple #[.agg #[.int .u32 0, .int .u32 0], .bool false]) (by simp [results, Tryd.results31, go_sem, s0, s1]) rfl (HFAIL.out w11 HF11.out (HBAD.out (fun h => by have h5 := HQ2.out; rw [← h.2.2.2, same_self] at h5; cases h5)))
  · obtain ⟨⟨r0, r1⟩, rf⟩ := HR.out w11 HF11.out
    have f0 := rf 0
    have f1 := rf 1
    go_wp2_with fail
    obtain ⟨s0, s1⟩ := put2 (.int .u32 (n : Int)) (.int .u32 (m : Int)) r0 r1
    have HB5 := Lib.hid (((HBW.out _ HF11.out).setCell (p := ⟨w.heap.size + 1, 0, none⟩) (Nat.le_succ _) (.int .u32 (n : Int))).setCell (p := ⟨w.heap.size + 1, 1, none⟩) (Nat.le_succ _) (.int .u32 (m : Int)))
    refine bodyPost_ret (v := .tuple #[.agg #[.int .u32 n, .int .u32 m], .bool true]) (by simp [results, Tryd.results31, go_sem, s0, s1]) rfl ⟨HB5.out, n, m, true, rfl, .inl ⟨rfl, ?_⟩⟩
    rw [(It.same_iff _ _).1 HQ2.out.symm]
    exact epI_itE n m (.inl HVAL.out.1.1) HVAL.out.1.2 HVAL.out.2

end Go.Proofs.YtjbdpkjkeelgfaaDoor
