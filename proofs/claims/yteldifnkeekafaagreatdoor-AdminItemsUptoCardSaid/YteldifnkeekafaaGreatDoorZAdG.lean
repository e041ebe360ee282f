/- Package admin: what the kinds lay. -/
import Derived.Test.YteldifnkeekafaaGreatDoorZAb
import Derived.Test.YteldifnkeekafaaGreatDoorZKh
import Derived.Test.YteldifnkeekafaaGreatDoorZKq
import Derived.Test.YteldifnkeekafaaGreatDoorZMe
set_option maxHeartbeats 8000000
set_option linter.unusedSimpArgs false
set_option linter.unusedVariables false
set_option maxRecDepth 100000
namespace Go.Proofs.YteldifnkeekafaaGreatDoor
open Go Go.RowKit Go.Shelf

attribute [local go_sem] Oper.semAt_some

def Rc.name (r : Rc) : NmT := ⟨r.n, r.m, r.t, r.q⟩
structure Rc.ok (r : Rc) : Prop where
 nm : r.name.ok
 at0 : r.at0 < 18446744073709551616
 no : r.no < 18446744073709551616
 nd : r.nd ≤ 4294967295
 rg : r.rg ≤ 4294967295
 fr : r.fr < 18446744073709551616
 un : r.un < 18446744073709551616
 lv : r.lv ≤ 255
def boI (q : Bool) : It := .mk 5 (boN q) [] [] []
def layR (k : Nat) (r : Rc) : It := if k = 1 then itLs [itU (IntKind.u64.wrap r.k), r.name.it, itU (IntKind.u64.wrap r.wh), itU (IntKind.u64.wrap r.wy), itU r.at0] else if k = 2 then itLs [itU (IntKind.u64.wrap r.k), itU r.no, itU r.nd, itU r.rg] else if k = 3 then itLs [itU (IntKind.u64.wrap r.k), itU r.no, itU r.nd, itU r.rg, boI r.ys, itU r.un] else if k = 4 then itLs [itU (IntKind.u64.wrap r.k), itU r.nd, itU r.fr, itU r.un, itU r.lv] else itLs [itU (IntKind.u64.wrap r.k), itU r.nd, itU r.rg, itU r.no, boI r.ys]

theorem u64_wrap (x : Int) : U64 (IntKind.u64.wrap x) := by
 rw [IntKind.wrap_u64]
 unfold U64
 omega
theorem itS_bo (w : World) (S : Nat → Prop) (q : Bool) : ItS w S (.agg #[.int .i64 5, .int .u64 (boN q), .slice none 0 0, .string ⟨#[]⟩, .slice none 0 0]) (boI q) := by
 cases q
 ·exact itS_plain w S 5 0 [] (by decide) ⟨by decide, by decide⟩ (Nat.zero_le _)
 ·exact itS_plain w S 5 1 [] (by decide) ⟨by decide, by decide⟩ (Nat.zero_le _)
theorem dliCons {w : World} {S : Nat → Prop} {x : It} {l : List It} {v0 v1 v2 v3 v4 : Value} {ys : List Value} (hx : ItS w S (.agg #[v0, v1, v2, v3, v4]) x) (h : LI w S ys l) : LI w S (v0 :: v1 :: v2 :: v3 :: v4 :: ys) (x :: l) :=
 ⟨v0, v1, v2, v3, v4, ys, rfl, hx, h⟩

def LayP (w : World) (x : It) (e : Ending) (w' : World) : Prop := Below w.heap.size w w' ∧ ∃ a c A C, e = .returned (.agg #[.int .i64 x.k, .int .u64 x.n, .slice a x.b.length c, .string ⟨x.s.toArray⟩, .slice A x.l.length C]) ∧ ItS w' (newB w w') (.agg #[.int .i64 x.k, .int .u64 x.n, .slice a x.b.length c, .string ⟨x.s.toArray⟩, .slice A x.l.length C]) x

theorem put5_S {w W : World} {x : It} {v : Value} {b : Nat} (h : ItS W (newB w W) v x) (hb : b < w.heap.size) (v0 v1 v2 v3 v4 : Value) : ItS (put5 W b v0 v1 v2 v3 v4) (newB w (put5 W b v0 v1 v2 v3 v4)) v x := by
 have s : ∀ (X : World) (i : Nat) (u : Value), ItS X (newB w X) v x → ItS (X.setCell ⟨b, i, none⟩ u) (newB w (X.setCell ⟨b, i, none⟩ u)) v x := fun X i u h =>
  ItS.more (fun j hj => ⟨hj.1, by rw [World.size_setCell]; exact hj.2⟩) _ (ItS.keep (fun j hj => Below.heap_setCell _ _ _ _ (by show j ≠ b; have := hj.1; omega)) _ h)
 exact s _ _ _ (s _ _ _ (s _ _ _ (s _ _ _ (s _ _ _ h))))
theorem put5_bel {B b : Nat} {w W : World} (h : Below B w W) (hb : B ≤ b) (v0 v1 v2 v3 v4 : Value) : Below B w (put5 W b v0 v1 v2 v3 v4) :=
 ((((h.setCell (p := ⟨b, 0, none⟩) hb v0).setCell (p := ⟨b, 1, none⟩) hb v1).setCell (p := ⟨b, 2, none⟩) hb v2).setCell (p := ⟨b, 3, none⟩) hb v3).setCell (p := ⟨b, 4, none⟩) hb v4

theorem ItS.from_ {w0 w w' : World} {v : Value} {x : It} (h : ItS w' (newB w w') v x) (h0 : w0.heap.size ≤ w.heap.size) : ItS w' (newB w0 w') v x :=
 ItS.more (fun j hj => ⟨Nat.le_trans h0 hj.1, hj.2⟩) _ h

theorem dnameItem_any (x : NmT) (h : x.ok) (w : World) : Calls Tryz.prog 60 #[.agg #[.int .u32 x.n, .int .u32 x.m, .int .u64 x.t, .int .u32 x.q]] w (LayP w x.it) := by
 obtain ⟨W, hW⟩ : ∃ W, W = (w.alloc (.cells #[.int .u32 x.n, .int .u32 x.m, .int .u64 x.t, .int .u32 x.q] 30)).alloc (.cells #[.int .i64 0, .int .u64 0, .slice none 0 0, .string ⟨#[]⟩, .slice none 0 0] 45) := ⟨_, rfl⟩
 have HB0 : Hid (Below w.heap.size w W) := by rw [hW]; exact below_al (below_al bR _) _
 have HS0 : Hid (W.heap.size = w.heap.size + 2) := by rw [Hid, hW]; simp
 have HR0 : Hid (RowB W (w.heap.size + 1) [.int .i64 0, .int .u64 0, .slice none 0 0, .string ⟨#[]⟩, .slice none 0 0]) := by
  rw [hW]
  have h := RowB.new (w.alloc (.cells #[.int .u32 x.n, .int .u32 x.m, .int .u64 x.t, .int .u32 x.q] 30)) [.int .i64 0, .int .u64 0, .slice none 0 0, .string ⟨#[]⟩, .slice none 0 0] 45
  rw [World.size_alloc] at h
  exact h
 have hN : RowB W w.heap.size [.int .u32 x.n, .int .u32 x.m, .int .u64 x.t, .int .u32 x.q] := by rw [hW]; exact (RowB.new w _ _).on (below_al bR _) (by simp)
 have x0 := hN.1 0 _ rfl
 have x1 := hN.1 1 _ rfl
 have x2 := hN.1 2 _ rfl
 have x3 := hN.1 3 _ rfl
 have HI := h_ (nitemT_any x h W)
 have HW := h_ hW
 rw [hW] at x0 x1 x2 x3
 clear hW hN h
 go_enter Tryz.func60, Tryz.ntmps60
 go_wp2_with fail
 rw [← HW.out]
 clear x0 x1 x2 x3
 refine HI.out.mono ?_
 rintro e w1 ⟨a, c, A, C, rfl, hit, hb⟩
 obtain ⟨w2, hw2⟩ : ∃ w2, w2 = w1.alloc (.cells #[.int .i64 x.it.k, .int .u64 x.it.n, .slice a x.it.b.length c, .string ⟨x.it.s.toArray⟩, .slice A x.it.l.length C] 45) := ⟨_, rfl⟩
 have hb2 : Below w1.heap.size w1 w2 := by rw [hw2]; exact below_al bR _
 have HB2 : Hid (Below w.heap.size w w2) := below_on HB0.out (below_on hb hb2)
 have HR2 := h_ (HR0.out.on (below_on hb hb2) (by have := HS0.out; omega))
 have HQ2 : Hid (RowB w2 w1.heap.size [.int .i64 x.it.k, .int .u64 x.it.n, .slice a x.it.b.length c, .string ⟨x.it.s.toArray⟩, .slice A x.it.l.length C]) := by rw [hw2]; exact RowB.new w1 _ _
 have HI2 : Hid (ItS w2 (newB W w2) (.agg #[.int .i64 x.it.k, .int .u64 x.it.n, .slice a x.it.b.length c, .string ⟨x.it.s.toArray⟩, .slice A x.it.l.length C]) x.it) := hit.new_on hb2
 have HW2 := h_ hw2
 clear hb hb2 hit hw2
 go_upto_region 2 with fail
 rw [← HW2.out]
 obtain ⟨y0, y1, y2, y3, y4⟩ := r5 HQ2.out
 obtain ⟨r0, r1, r2, r3, r4⟩ := r5 HR2.out
 obtain ⟨f0, f1, f2, f3, f4⟩ := f5 HR2.out
 go_wp2_with fail
 change bodyPost _ _ _ _ _ (put5 w2 (w.heap.size + 1) (.int .i64 x.it.k) (.int .u64 x.it.n) (.slice a x.it.b.length c) (.string ⟨x.it.s.toArray⟩) (.slice A x.it.l.length C))
 have hc5 := put5_cells r0 r1 r2 r3 r4 (.int .i64 x.it.k) (.int .u64 x.it.n) (.slice a x.it.b.length c) (.string ⟨x.it.s.toArray⟩) (.slice A x.it.l.length C)
 have hbel := put5_bel HB2.out (Nat.le_succ _) (.int .i64 x.it.k) (.int .u64 x.it.n) (.slice a x.it.b.length c) (.string ⟨x.it.s.toArray⟩) (.slice A x.it.l.length C)
 have hs := put5_S HI2.out (b := w.heap.size + 1) (by have := HS0.out; omega) (.int .i64 x.it.k) (.int .u64 x.it.n) (.slice a x.it.b.length c) (.string ⟨x.it.s.toArray⟩) (.slice A x.it.l.length C)
 generalize put5 w2 (w.heap.size + 1) (.int .i64 x.it.k) (.int .u64 x.it.n) (.slice a x.it.b.length c) (.string ⟨x.it.s.toArray⟩) (.slice A x.it.l.length C) = w30 at *
 have hs2 : ItS w30 (newB w w30) _ x.it := ItS.more (fun j hj => ⟨by have := hj.1; have := HS0.out; omega, hj.2⟩) _ hs
 obtain ⟨k0, k1, k2, k3, k4⟩ := hc5
 exact bodyPost_ret (v := .agg #[.int .i64 x.it.k, .int .u64 x.it.n, .slice a x.it.b.length c, .string ⟨x.it.s.toArray⟩, .slice A x.it.l.length C]) (by simp [results, Tryz.results60, go_sem, k0, k1, k2, k3, k4]) rfl ⟨hbel, a, c, A, C, rfl, hs2⟩

theorem dlay1_any (r : Rc) (hok : r.ok) (w : World) : Calls Tryz.prog 57 #[.agg #[.int .i64 r.k, .int .u32 r.n, .int .u32 r.m, .int .u64 r.t, .int .u32 r.q, .int .i64 r.wh, .int .i64 r.wy, .int .u64 r.at0, .int .u64 r.no, .int .u32 r.nd, .int .u32 r.rg, .bool r.ys, .int .u64 r.fr, .int .u64 r.un, .int .u8 r.lv]] w (LayP w (layR 1 r)) := by
 obtain ⟨W, hW⟩ : ∃ W, W = (w.alloc (.cells #[.int .i64 r.k, .int .u32 r.n, .int .u32 r.m, .int .u64 r.t, .int .u32 r.q, .int .i64 r.wh, .int .i64 r.wy, .int .u64 r.at0, .int .u64 r.no, .int .u32 r.nd, .int .u32 r.rg, .bool r.ys, .int .u64 r.fr, .int .u64 r.un, .int .u8 r.lv] 32)).alloc (.cells #[.int .i64 0, .int .u64 0, .slice none 0 0, .string ⟨#[]⟩, .slice none 0 0] 45) := ⟨_, rfl⟩
 have HB0 : Hid (Below w.heap.size w W) := by rw [hW]; exact below_al (below_al bR _) _
 have HS0 : Hid (W.heap.size = w.heap.size + 2) := by rw [Hid, hW]; simp
 have HX : Hid (∀ w', Below W.heap.size W w' → (w'.cell? ⟨w.heap.size, 0, none⟩ = some (.int .i64 r.k) ∧ w'.cell? ⟨w.heap.size, 1, none⟩ = some (.int .u32 r.n) ∧ w'.cell? ⟨w.heap.size, 2, none⟩ = some (.int .u32 r.m) ∧ w'.cell? ⟨w.heap.size, 3, none⟩ = some (.int .u64 r.t) ∧ w'.cell? ⟨w.heap.size, 4, none⟩ = some (.int .u32 r.q) ∧ w'.cell? ⟨w.heap.size, 5, none⟩ = some (.int .i64 r.wh) ∧ w'.cell? ⟨w.heap.size, 6, none⟩ = some (.int .i64 r.wy) ∧ w'.cell? ⟨w.heap.size, 7, none⟩ = some (.int .u64 r.at0) ∧ w'.cell? ⟨w.heap.size, 8, none⟩ = some (.int .u64 r.no) ∧ w'.cell? ⟨w.heap.size, 9, none⟩ = some (.int .u32 r.nd) ∧ w'.cell? ⟨w.heap.size, 10, none⟩ = some (.int .u32 r.rg) ∧ w'.cell? ⟨w.heap.size, 11, none⟩ = some (.bool r.ys) ∧ w'.cell? ⟨w.heap.size, 12, none⟩ = some (.int .u64 r.fr) ∧ w'.cell? ⟨w.heap.size, 13, none⟩ = some (.int .u64 r.un) ∧ w'.cell? ⟨w.heap.size, 14, none⟩ = some (.int .u8 r.lv)) ∧ ∀ j, w'.cell? ⟨w.heap.size + 1, j, none⟩ = (#[Value.int .i64 0, Value.int .u64 0, Value.slice none 0 0, Value.string ⟨#[]⟩, Value.slice none 0 0] : Array Value)[j]? ∧ w'.frozen? ⟨w.heap.size + 1, j, none⟩ = false) := fun w' h => by
  rw [hW] at h
  have h1 := below_on (below_al (Below.refl _ (w.alloc (.cells #[.int .i64 r.k, .int .u32 r.n, .int .u32 r.m, .int .u64 r.t, .int .u32 r.q, .int .i64 r.wh, .int .i64 r.wy, .int .u64 r.at0, .int .u64 r.no, .int .u32 r.nd, .int .u32 r.rg, .bool r.ys, .int .u64 r.fr, .int .u64 r.un, .int .u8 r.lv] 32))) (.cells #[.int .i64 0, .int .u64 0, .slice none 0 0, .string ⟨#[]⟩, .slice none 0 0] 45)) h
  refine ⟨⟨box_at h1 0, box_at h1 1, box_at h1 2, box_at h1 3, box_at h1 4, box_at h1 5, box_at h1 6, box_at h1 7, box_at h1 8, box_at h1 9, box_at h1 10, box_at h1 11, box_at h1 12, box_at h1 13, box_at h1 14⟩, fun j => ?_⟩
  have q2 := box_at h j
  have f2 := frozen_at h j
  rw [World.size_alloc] at q2 f2
  exact ⟨q2, f2⟩
 have HOk := h_ hok
 have HW := h_ hW
 obtain ⟨⟨x0, x1, x2, x3, x4, x5, x6, x7, x8, x9, x10, x11, x12, x13, x14⟩, _⟩ := HX.out W bR
 rw [HW.out] at x0 x1 x2 x3 x4 x5 x6 x7 x8 x9 x10 x11 x12 x13 x14
 clear hW hok
 have HL : Hid (layR 1 r = itLs [itU (IntKind.u64.wrap r.k), r.name.it, itU (IntKind.u64.wrap r.wh), itU (IntKind.u64.wrap r.wy), itU r.at0]) := rfl
 go_enter Tryz.func57, Tryz.ntmps57
 go_upto_region 1 with fail
 rw [← HW.out]
 clear x0 x1 x2 x3 x4 x5 x6 x7 x8 x9 x10 x11 x12 x13 x14
 have F : Below W.heap.size W W.drew := bR.drew
 refine wp_region_T (fun w' => w'.cell? ⟨w.heap.size, 0, none⟩ = some (.int .i64 r.k) ∧ w'.cell? ⟨w.heap.size, 1, none⟩ = some (.int .u32 r.n) ∧ w'.cell? ⟨w.heap.size, 2, none⟩ = some (.int .u32 r.m) ∧ w'.cell? ⟨w.heap.size, 3, none⟩ = some (.int .u64 r.t) ∧ w'.cell? ⟨w.heap.size, 4, none⟩ = some (.int .u32 r.q) ∧ w'.cell? ⟨w.heap.size, 5, none⟩ = some (.int .i64 r.wh) ∧ w'.cell? ⟨w.heap.size, 6, none⟩ = some (.int .i64 r.wy) ∧ w'.cell? ⟨w.heap.size, 7, none⟩ = some (.int .u64 r.at0) ∧ w'.cell? ⟨w.heap.size, 8, none⟩ = some (.int .u64 r.no) ∧ w'.cell? ⟨w.heap.size, 9, none⟩ = some (.int .u32 r.nd) ∧ w'.cell? ⟨w.heap.size, 10, none⟩ = some (.int .u32 r.rg) ∧ w'.cell? ⟨w.heap.size, 11, none⟩ = some (.bool r.ys) ∧ w'.cell? ⟨w.heap.size, 12, none⟩ = some (.int .u64 r.fr) ∧ w'.cell? ⟨w.heap.size, 13, none⟩ = some (.int .u64 r.un) ∧ w'.cell? ⟨w.heap.size, 14, none⟩ = some (.int .u8 r.lv)) 17 (by kernel_rfl) ?_
 refine wpAnyT_take (i := 0) (v := ?_) rfl (by kernel_rfl) (by kernel_rfl) (by kernel_rfl) (by kernel_rfl) (fun _ _ _ h => h) (Or.inl ⟨by rfl, ?_⟩) (HX.out _ F).1 ?_
 rotate_left
 ·intro w hSw; go_simp; all_goals with_reducible rfl
 simp only [Act.put, zA, zB, zC]
 refine wpAnyT_take (i := 1) (v := ?_) rfl (by kernel_rfl) (by kernel_rfl) (by kernel_rfl) (by kernel_rfl) (fun _ _ _ h => h) (Or.inl ⟨by rfl, ?_⟩) (HX.out _ F).1 ?_
 rotate_left
 ·intro w hSw; go_simp; all_goals with_reducible rfl
 simp only [Act.put, zA, zB, zC]
 refine wpAnyT_take (i := 3) (v := ?_) rfl (by kernel_rfl) (by kernel_rfl) (by kernel_rfl) (by kernel_rfl) (fun _ _ _ h => h) (Or.inl ⟨by rfl, ?_⟩) (HX.out _ F).1 ?_
 rotate_left
 ·intro w hSw; go_simp; all_goals with_reducible rfl
 simp only [Act.put, zA, zB, zC]
 refine wpAnyT_take (i := 4) (v := ?_) rfl (by kernel_rfl) (by kernel_rfl) (by kernel_rfl) (by kernel_rfl) (fun _ _ _ h => h) (Or.inl ⟨by rfl, ?_⟩) (HX.out _ F).1 ?_
 rotate_left
 ·intro w hSw; go_simp; all_goals with_reducible rfl
 simp only [Act.put, zA, zB, zC]
 refine wpAnyT_take (i := 6) (v := ?_) rfl (by kernel_rfl) (by kernel_rfl) (by kernel_rfl) (by kernel_rfl) (fun _ _ _ h => h) (Or.inl ⟨by rfl, ?_⟩) (HX.out _ F).1 ?_
 rotate_left
 ·intro w hSw; go_simp; all_goals with_reducible rfl
 simp only [Act.put, zA, zB, zC]
 refine wpAnyT_take (i := 7) (v := ?_) rfl (by kernel_rfl) (by kernel_rfl) (by kernel_rfl) (by kernel_rfl) (fun _ _ _ h => h) (Or.inl ⟨by rfl, ?_⟩) (HX.out _ F).1 ?_
 rotate_left
 ·intro w hSw; go_simp; all_goals with_reducible rfl
 simp only [Act.put, zA, zB, zC]
 refine wpAnyT_take (i := 9) (v := ?_) rfl (by kernel_rfl) (by kernel_rfl) (by kernel_rfl) (by kernel_rfl) (fun _ _ _ h => h) (Or.inl ⟨by rfl, ?_⟩) (HX.out _ F).1 ?_
 rotate_left
 ·intro w hSw; go_simp; all_goals with_reducible rfl
 simp only [Act.put, zA, zB, zC]
 refine wpAnyT_take (i := 10) (v := ?_) rfl (by kernel_rfl) (by kernel_rfl) (by kernel_rfl) (by kernel_rfl) (fun _ _ _ h => h) (Or.inl ⟨by rfl, ?_⟩) (HX.out _ F).1 ?_
 rotate_left
 ·intro w hSw; go_simp; all_goals with_reducible rfl
 simp only [Act.put, zA, zB, zC]
 refine wpAnyT_take (i := 12) (v := ?_) rfl (by kernel_rfl) (by kernel_rfl) (by kernel_rfl) (by kernel_rfl) (fun _ _ _ h => h) (Or.inl ⟨by rfl, ?_⟩) (HX.out _ F).1 ?_
 rotate_left
 ·intro w hSw; go_simp; all_goals with_reducible rfl
 simp only [Act.put, zA, zB, zC]
 refine wpAnyT_take (i := 13) (v := ?_) rfl (by kernel_rfl) (by kernel_rfl) (by kernel_rfl) (by kernel_rfl) (fun _ _ _ h => h) (Or.inl ⟨by rfl, ?_⟩) (HX.out _ F).1 ?_
 rotate_left
 ·intro w hSw; go_simp; all_goals with_reducible rfl
 simp only [Act.put, zA, zB, zC]
 refine wpAnyT_one (i := 2) (by kernel_rfl) rfl (fun K hK => ?_)
 go_simp
 refine (duint_k r.k _).mono ?_
 rintro e v0 ⟨rfl, hb⟩
 replace F := below_on F hb
 clear hb
 refine hK.out _ _ (fun _ => (HX.out _ F).1) ?_
 clear hK K
 try simp only [Act.put, zA, zB, zC]
 refine wpAnyT_one (i := 5) (by kernel_rfl) rfl (fun K hK => ?_)
 go_simp
 refine (dnameItem_any r.name HOk.out.nm _).mono ?_
 rintro e v1 ⟨hb, na, nc, nA, nC, rfl, HN⟩
 have G0 : W.heap.size ≤ v0.heap.size := F.size
 replace F := below_on F hb
 replace HN := HN.from_ G0
 clear hb
 refine hK.out _ _ (fun _ => (HX.out _ F).1) ?_
 clear hK K
 try simp only [Act.put, zA, zB, zC]
 refine wpAnyT_one (i := 8) (by kernel_rfl) rfl (fun K hK => ?_)
 go_simp
 refine (duint_i r.wh _).mono ?_
 rintro e v2 ⟨rfl, hb⟩
 replace F := below_on F hb
 replace HN := HN.new_on hb
 clear hb
 refine hK.out _ _ (fun _ => (HX.out _ F).1) ?_
 clear hK K
 try simp only [Act.put, zA, zB, zC]
 refine wpAnyT_one (i := 11) (by kernel_rfl) rfl (fun K hK => ?_)
 go_simp
 refine (duint_i r.wy _).mono ?_
 rintro e v3 ⟨rfl, hb⟩
 replace F := below_on F hb
 replace HN := HN.new_on hb
 clear hb
 refine hK.out _ _ (fun _ => (HX.out _ F).1) ?_
 clear hK K
 try simp only [Act.put, zA, zB, zC]
 refine wpAnyT_one (i := 14) (by kernel_rfl) rfl (fun K hK => ?_)
 go_simp
 refine (duint_64 r.at0 _).mono ?_
 rintro e v4 ⟨rfl, hb⟩
 replace F := below_on F hb
 replace HN := HN.new_on hb
 clear hb
 refine hK.out _ _ (fun _ => (HX.out _ F).1) ?_
 clear hK K
 try simp only [Act.put, zA, zB, zC]
 refine wpAnyT_one (i := 15) (by kernel_rfl) rfl (fun K hK => ?_)
 go_simp
 obtain ⟨vc, hvc⟩ : ∃ V, V = v4.alloc (.cells #[.int .i64 1, .int .u64 (IntKind.u64.wrap r.k), .slice none 0 0, .string ⟨#[]⟩, .slice none 0 0, .int .i64 r.name.it.k, .int .u64 r.name.it.n, .slice na r.name.it.b.length nc, .string ⟨r.name.it.s.toArray⟩, .slice nA r.name.it.l.length nC, .int .i64 1, .int .u64 (IntKind.u64.wrap r.wh), .slice none 0 0, .string ⟨#[]⟩, .slice none 0 0, .int .i64 1, .int .u64 (IntKind.u64.wrap r.wy), .slice none 0 0, .string ⟨#[]⟩, .slice none 0 0, .int .i64 1, .int .u64 r.at0, .slice none 0 0, .string ⟨#[]⟩, .slice none 0 0] 45) := ⟨_, rfl⟩
 have hb : Below v4.heap.size v4 vc := by rw [hvc]; exact below_al bR _
 have G1 : W.heap.size ≤ v4.heap.size := F.size
 replace F := below_on F hb
 replace HN := HN.new_on hb
 have hcel : ∀ (j : Nat) (u : Value), [.int .i64 1, .int .u64 (IntKind.u64.wrap r.k), .slice none 0 0, .string ⟨#[]⟩, .slice none 0 0, .int .i64 r.name.it.k, .int .u64 r.name.it.n, .slice na r.name.it.b.length nc, .string ⟨r.name.it.s.toArray⟩, .slice nA r.name.it.l.length nC, .int .i64 1, .int .u64 (IntKind.u64.wrap r.wh), .slice none 0 0, .string ⟨#[]⟩, .slice none 0 0, .int .i64 1, .int .u64 (IntKind.u64.wrap r.wy), .slice none 0 0, .string ⟨#[]⟩, .slice none 0 0, .int .i64 1, .int .u64 r.at0, .slice none 0 0, .string ⟨#[]⟩, .slice none 0 0][j]? = some u → vc.cell? ⟨v4.heap.size, 0 + j, none⟩ = some u := fun j u hu => by
  rw [hvc, Nat.zero_add, World.cell?_alloc_mark]
  simpa using hu
 have hSg : newB W vc v4.heap.size := ⟨G1, by rw [hvc]; simp⟩
 have hli : LI vc (newB W vc) [.int .i64 1, .int .u64 (IntKind.u64.wrap r.k), .slice none 0 0, .string ⟨#[]⟩, .slice none 0 0, .int .i64 r.name.it.k, .int .u64 r.name.it.n, .slice na r.name.it.b.length nc, .string ⟨r.name.it.s.toArray⟩, .slice nA r.name.it.l.length nC, .int .i64 1, .int .u64 (IntKind.u64.wrap r.wh), .slice none 0 0, .string ⟨#[]⟩, .slice none 0 0, .int .i64 1, .int .u64 (IntKind.u64.wrap r.wy), .slice none 0 0, .string ⟨#[]⟩, .slice none 0 0, .int .i64 1, .int .u64 r.at0, .slice none 0 0, .string ⟨#[]⟩, .slice none 0 0] [itU (IntKind.u64.wrap r.k), r.name.it, itU (IntKind.u64.wrap r.wh), itU (IntKind.u64.wrap r.wy), itU r.at0] := (dliCons (itS_uint _ _ _ (u64_wrap r.k)) (dliCons HN (dliCons (itS_uint _ _ _ (u64_wrap r.wh)) (dliCons (itS_uint _ _ _ (u64_wrap r.wy)) (LI.one (itS_uint _ _ (r.at0 : Int) ⟨by omega, by have := HOk.out.at0; omega⟩))))))
 have HIt : Hid (ItS vc (newB W vc) (listV (some ⟨v4.heap.size, 0, none⟩) 5 5) (itLs [itU (IntKind.u64.wrap r.k), r.name.it, itU (IntKind.u64.wrap r.wh), itU (IntKind.u64.wrap r.wy), itU r.at0])) := itS_list rfl (Nat.le_refl _) (by decide) hSg (LI.itSL hli hcel)
 rw [← hvc]
 clear hvc hb hcel hSg hli G1 HN
 refine hK.out _ _ (fun _ => (HX.out _ F).1) ?_
 clear hK K
 try simp only [Act.put, zA, zB, zC]
 refine wpAnyT_one (i := 16) (by kernel_rfl) rfl (fun K hK => ?_)
 go_simp
 refine (dlist_any _ _ _ _).mono ?_
 rintro e wL ⟨rfl, hb⟩
 have HIL := h_ (HIt.out.new_on hb)
 replace F := below_on F hb
 clear hb
 obtain ⟨_, hbx⟩ := HX.out wL F
 obtain ⟨d0, f0⟩ := hbx 0
 obtain ⟨d1, f1⟩ := hbx 1
 obtain ⟨d2, f2⟩ := hbx 2
 obtain ⟨d3, f3⟩ := hbx 3
 obtain ⟨d4, f4⟩ := hbx 4
 clear hbx
 refine hK.out _ _ (fun _ => (HX.out _ F).1) ?_
 clear hK K
 try simp only [Act.put, zA, zB, zC]
 refine wpAnyT_one (i := 17) (by kernel_rfl) rfl (fun K hK => ?_)
 go_simp
 refine hK.out _ _ (fun h => absurd h (by decide)) ?_
 clear hK K
 try simp only [Act.put, zA, zB, zC]
 refine wpAnyT_done (by kernel_rfl) ?_ _
 have HF0 := h_ F
 clear F
 have HFin : Hid ((put5 wL (w.heap.size + 1) (.int .i64 4) (.int .u64 0) (.slice none 0 0) (.string ⟨#[]⟩) (.slice (some ⟨v4.heap.size, 0, none⟩) 5 5)).cell? ⟨w.heap.size + 1, 0, none⟩ = some (.int .i64 4) ∧ True) := ⟨(put5_cells d0 d1 d2 d3 d4 (.int .i64 4) (.int .u64 0) (.slice none 0 0) (.string ⟨#[]⟩) (.slice (some ⟨v4.heap.size, 0, none⟩) 5 5)).1, trivial⟩
 have hq := put5_cells d0 d1 d2 d3 d4 (.int .i64 4) (.int .u64 0) (.slice none 0 0) (.string ⟨#[]⟩) (.slice (some ⟨v4.heap.size, 0, none⟩) 5 5)
 have hbel := put5_bel (b := w.heap.size + 1) (HB0.out.trans (HF0.out.mono HB0.out.size)) (by omega) (.int .i64 4) (.int .u64 0) (.slice none 0 0) (.string ⟨#[]⟩) (.slice (some ⟨v4.heap.size, 0, none⟩) 5 5)
 have hit := put5_S HIL.out (b := w.heap.size + 1) (by have := HS0.out; omega) (.int .i64 4) (.int .u64 0) (.slice none 0 0) (.string ⟨#[]⟩) (.slice (some ⟨v4.heap.size, 0, none⟩) 5 5)
 have HF := h_ (⟨hq, hbel, hit⟩ : _ ∧ _ ∧ _)
 clear hq hbel hit d0 d1 d2 d3 d4 f0 f1 f2 f3 f4 HFin
 unfold put5 at HF
 go_wp2_with fail
 obtain ⟨⟨q0, q1, q2, q3, q4⟩, hbel, hit⟩ := HF.out
 refine bodyPost_ret (v := .agg #[.int .i64 4, .int .u64 0, .slice none 0 0, .string ⟨#[]⟩, .slice (some ⟨v4.heap.size, 0, none⟩) 5 5]) (by simp [results, Tryz.results57, go_sem, q0, q1, q2, q3, q4]) rfl ⟨hbel, none, 0, some ⟨v4.heap.size, 0, none⟩, 5, ?_, ?_⟩
 ·rw [HL.out]
  rfl
 ·rw [HL.out]
  exact ItS.more (fun j hj => ⟨by have := hj.1; have := HS0.out; omega, hj.2⟩) _ hit

theorem dlay2_any (r : Rc) (hok : r.ok) (w : World) : Calls Tryz.prog 64 #[.agg #[.int .i64 r.k, .int .u32 r.n, .int .u32 r.m, .int .u64 r.t, .int .u32 r.q, .int .i64 r.wh, .int .i64 r.wy, .int .u64 r.at0, .int .u64 r.no, .int .u32 r.nd, .int .u32 r.rg, .bool r.ys, .int .u64 r.fr, .int .u64 r.un, .int .u8 r.lv]] w (LayP w (layR 2 r)) := by
 obtain ⟨W, hW⟩ : ∃ W, W = (w.alloc (.cells #[.int .i64 r.k, .int .u32 r.n, .int .u32 r.m, .int .u64 r.t, .int .u32 r.q, .int .i64 r.wh, .int .i64 r.wy, .int .u64 r.at0, .int .u64 r.no, .int .u32 r.nd, .int .u32 r.rg, .bool r.ys, .int .u64 r.fr, .int .u64 r.un, .int .u8 r.lv] 32)).alloc (.cells #[.int .i64 0, .int .u64 0, .slice none 0 0, .string ⟨#[]⟩, .slice none 0 0] 45) := ⟨_, rfl⟩
 have HB0 : Hid (Below w.heap.size w W) := by rw [hW]; exact below_al (below_al bR _) _
 have HS0 : Hid (W.heap.size = w.heap.size + 2) := by rw [Hid, hW]; simp
 have HX : Hid (∀ w', Below W.heap.size W w' → (w'.cell? ⟨w.heap.size, 0, none⟩ = some (.int .i64 r.k) ∧ w'.cell? ⟨w.heap.size, 1, none⟩ = some (.int .u32 r.n) ∧ w'.cell? ⟨w.heap.size, 2, none⟩ = some (.int .u32 r.m) ∧ w'.cell? ⟨w.heap.size, 3, none⟩ = some (.int .u64 r.t) ∧ w'.cell? ⟨w.heap.size, 4, none⟩ = some (.int .u32 r.q) ∧ w'.cell? ⟨w.heap.size, 5, none⟩ = some (.int .i64 r.wh) ∧ w'.cell? ⟨w.heap.size, 6, none⟩ = some (.int .i64 r.wy) ∧ w'.cell? ⟨w.heap.size, 7, none⟩ = some (.int .u64 r.at0) ∧ w'.cell? ⟨w.heap.size, 8, none⟩ = some (.int .u64 r.no) ∧ w'.cell? ⟨w.heap.size, 9, none⟩ = some (.int .u32 r.nd) ∧ w'.cell? ⟨w.heap.size, 10, none⟩ = some (.int .u32 r.rg) ∧ w'.cell? ⟨w.heap.size, 11, none⟩ = some (.bool r.ys) ∧ w'.cell? ⟨w.heap.size, 12, none⟩ = some (.int .u64 r.fr) ∧ w'.cell? ⟨w.heap.size, 13, none⟩ = some (.int .u64 r.un) ∧ w'.cell? ⟨w.heap.size, 14, none⟩ = some (.int .u8 r.lv)) ∧ ∀ j, w'.cell? ⟨w.heap.size + 1, j, none⟩ = (#[Value.int .i64 0, Value.int .u64 0, Value.slice none 0 0, Value.string ⟨#[]⟩, Value.slice none 0 0] : Array Value)[j]? ∧ w'.frozen? ⟨w.heap.size + 1, j, none⟩ = false) := fun w' h => by
  rw [hW] at h
  have h1 := below_on (below_al (Below.refl _ (w.alloc (.cells #[.int .i64 r.k, .int .u32 r.n, .int .u32 r.m, .int .u64 r.t, .int .u32 r.q, .int .i64 r.wh, .int .i64 r.wy, .int .u64 r.at0, .int .u64 r.no, .int .u32 r.nd, .int .u32 r.rg, .bool r.ys, .int .u64 r.fr, .int .u64 r.un, .int .u8 r.lv] 32))) (.cells #[.int .i64 0, .int .u64 0, .slice none 0 0, .string ⟨#[]⟩, .slice none 0 0] 45)) h
  refine ⟨⟨box_at h1 0, box_at h1 1, box_at h1 2, box_at h1 3, box_at h1 4, box_at h1 5, box_at h1 6, box_at h1 7, box_at h1 8, box_at h1 9, box_at h1 10, box_at h1 11, box_at h1 12, box_at h1 13, box_at h1 14⟩, fun j => ?_⟩
  have q2 := box_at h j
  have f2 := frozen_at h j
  rw [World.size_alloc] at q2 f2
  exact ⟨q2, f2⟩
 have HOk := h_ hok
 have HW := h_ hW
 obtain ⟨⟨x0, x1, x2, x3, x4, x5, x6, x7, x8, x9, x10, x11, x12, x13, x14⟩, _⟩ := HX.out W bR
 rw [HW.out] at x0 x1 x2 x3 x4 x5 x6 x7 x8 x9 x10 x11 x12 x13 x14
 clear hW hok
 have HL : Hid (layR 2 r = itLs [itU (IntKind.u64.wrap r.k), itU r.no, itU r.nd, itU r.rg]) := rfl
 go_enter Tryz.func64, Tryz.ntmps64
 go_upto_region 1 with fail
 rw [← HW.out]
 clear x0 x1 x2 x3 x4 x5 x6 x7 x8 x9 x10 x11 x12 x13 x14
 have F : Below W.heap.size W W.drew := bR.drew
 refine wp_region_T (fun w' => w'.cell? ⟨w.heap.size, 0, none⟩ = some (.int .i64 r.k) ∧ w'.cell? ⟨w.heap.size, 1, none⟩ = some (.int .u32 r.n) ∧ w'.cell? ⟨w.heap.size, 2, none⟩ = some (.int .u32 r.m) ∧ w'.cell? ⟨w.heap.size, 3, none⟩ = some (.int .u64 r.t) ∧ w'.cell? ⟨w.heap.size, 4, none⟩ = some (.int .u32 r.q) ∧ w'.cell? ⟨w.heap.size, 5, none⟩ = some (.int .i64 r.wh) ∧ w'.cell? ⟨w.heap.size, 6, none⟩ = some (.int .i64 r.wy) ∧ w'.cell? ⟨w.heap.size, 7, none⟩ = some (.int .u64 r.at0) ∧ w'.cell? ⟨w.heap.size, 8, none⟩ = some (.int .u64 r.no) ∧ w'.cell? ⟨w.heap.size, 9, none⟩ = some (.int .u32 r.nd) ∧ w'.cell? ⟨w.heap.size, 10, none⟩ = some (.int .u32 r.rg) ∧ w'.cell? ⟨w.heap.size, 11, none⟩ = some (.bool r.ys) ∧ w'.cell? ⟨w.heap.size, 12, none⟩ = some (.int .u64 r.fr) ∧ w'.cell? ⟨w.heap.size, 13, none⟩ = some (.int .u64 r.un) ∧ w'.cell? ⟨w.heap.size, 14, none⟩ = some (.int .u8 r.lv)) 14 (by kernel_rfl) ?_
 refine wpAnyT_take (i := 0) (v := ?_) rfl (by kernel_rfl) (by kernel_rfl) (by kernel_rfl) (by kernel_rfl) (fun _ _ _ h => h) (Or.inl ⟨by rfl, ?_⟩) (HX.out _ F).1 ?_
 rotate_left
 ·intro w hSw; go_simp; all_goals with_reducible rfl
 simp only [Act.put, zA, zB, zC]
 refine wpAnyT_take (i := 1) (v := ?_) rfl (by kernel_rfl) (by kernel_rfl) (by kernel_rfl) (by kernel_rfl) (fun _ _ _ h => h) (Or.inl ⟨by rfl, ?_⟩) (HX.out _ F).1 ?_
 rotate_left
 ·intro w hSw; go_simp; all_goals with_reducible rfl
 simp only [Act.put, zA, zB, zC]
 refine wpAnyT_take (i := 3) (v := ?_) rfl (by kernel_rfl) (by kernel_rfl) (by kernel_rfl) (by kernel_rfl) (fun _ _ _ h => h) (Or.inl ⟨by rfl, ?_⟩) (HX.out _ F).1 ?_
 rotate_left
 ·intro w hSw; go_simp; all_goals with_reducible rfl
 simp only [Act.put, zA, zB, zC]
 refine wpAnyT_take (i := 4) (v := ?_) rfl (by kernel_rfl) (by kernel_rfl) (by kernel_rfl) (by kernel_rfl) (fun _ _ _ h => h) (Or.inl ⟨by rfl, ?_⟩) (HX.out _ F).1 ?_
 rotate_left
 ·intro w hSw; go_simp; all_goals with_reducible rfl
 simp only [Act.put, zA, zB, zC]
 refine wpAnyT_take (i := 6) (v := ?_) rfl (by kernel_rfl) (by kernel_rfl) (by kernel_rfl) (by kernel_rfl) (fun _ _ _ h => h) (Or.inl ⟨by rfl, ?_⟩) (HX.out _ F).1 ?_
 rotate_left
 ·intro w hSw; go_simp; all_goals with_reducible rfl
 simp only [Act.put, zA, zB, zC]
 refine wpAnyT_take (i := 7) (v := ?_) rfl (by kernel_rfl) (by kernel_rfl) (by kernel_rfl) (by kernel_rfl) (fun _ _ _ h => h) (Or.inl ⟨by rfl, ?_⟩) (HX.out _ F).1 ?_
 rotate_left
 ·intro w hSw; go_simp; all_goals with_reducible rfl
 simp only [Act.put, zA, zB, zC]
 refine wpAnyT_take (i := 9) (v := ?_) rfl (by kernel_rfl) (by kernel_rfl) (by kernel_rfl) (by kernel_rfl) (fun _ _ _ h => h) (Or.inl ⟨by rfl, ?_⟩) (HX.out _ F).1 ?_
 rotate_left
 ·intro w hSw; go_simp; all_goals with_reducible rfl
 simp only [Act.put, zA, zB, zC]
 refine wpAnyT_take (i := 10) (v := ?_) rfl (by kernel_rfl) (by kernel_rfl) (by kernel_rfl) (by kernel_rfl) (fun _ _ _ h => h) (Or.inl ⟨by rfl, ?_⟩) (HX.out _ F).1 ?_
 rotate_left
 ·intro w hSw; go_simp; all_goals with_reducible rfl
 simp only [Act.put, zA, zB, zC]
 refine wpAnyT_one (i := 2) (by kernel_rfl) rfl (fun K hK => ?_)
 go_simp
 refine (duint_k r.k _).mono ?_
 rintro e v0 ⟨rfl, hb⟩
 replace F := below_on F hb
 clear hb
 refine hK.out _ _ (fun _ => (HX.out _ F).1) ?_
 clear hK K
 try simp only [Act.put, zA, zB, zC]
 refine wpAnyT_one (i := 5) (by kernel_rfl) rfl (fun K hK => ?_)
 go_simp
 refine (duint_64 r.no _).mono ?_
 rintro e v1 ⟨rfl, hb⟩
 replace F := below_on F hb
 clear hb
 refine hK.out _ _ (fun _ => (HX.out _ F).1) ?_
 clear hK K
 try simp only [Act.put, zA, zB, zC]
 refine wpAnyT_one (i := 8) (by kernel_rfl) rfl (fun K hK => ?_)
 go_simp
 refine (duint_32 r.nd HOk.out.nd _).mono ?_
 rintro e v2 ⟨rfl, hb⟩
 replace F := below_on F hb
 clear hb
 refine hK.out _ _ (fun _ => (HX.out _ F).1) ?_
 clear hK K
 try simp only [Act.put, zA, zB, zC]
 refine wpAnyT_one (i := 11) (by kernel_rfl) rfl (fun K hK => ?_)
 go_simp
 refine (duint_32 r.rg HOk.out.rg _).mono ?_
 rintro e v3 ⟨rfl, hb⟩
 replace F := below_on F hb
 clear hb
 refine hK.out _ _ (fun _ => (HX.out _ F).1) ?_
 clear hK K
 try simp only [Act.put, zA, zB, zC]
 refine wpAnyT_one (i := 12) (by kernel_rfl) rfl (fun K hK => ?_)
 go_simp
 obtain ⟨vc, hvc⟩ : ∃ V, V = v3.alloc (.cells #[.int .i64 1, .int .u64 (IntKind.u64.wrap r.k), .slice none 0 0, .string ⟨#[]⟩, .slice none 0 0, .int .i64 1, .int .u64 r.no, .slice none 0 0, .string ⟨#[]⟩, .slice none 0 0, .int .i64 1, .int .u64 r.nd, .slice none 0 0, .string ⟨#[]⟩, .slice none 0 0, .int .i64 1, .int .u64 r.rg, .slice none 0 0, .string ⟨#[]⟩, .slice none 0 0] 45) := ⟨_, rfl⟩
 have hb : Below v3.heap.size v3 vc := by rw [hvc]; exact below_al bR _
 have G1 : W.heap.size ≤ v3.heap.size := F.size
 replace F := below_on F hb
 have hcel : ∀ (j : Nat) (u : Value), [.int .i64 1, .int .u64 (IntKind.u64.wrap r.k), .slice none 0 0, .string ⟨#[]⟩, .slice none 0 0, .int .i64 1, .int .u64 r.no, .slice none 0 0, .string ⟨#[]⟩, .slice none 0 0, .int .i64 1, .int .u64 r.nd, .slice none 0 0, .string ⟨#[]⟩, .slice none 0 0, .int .i64 1, .int .u64 r.rg, .slice none 0 0, .string ⟨#[]⟩, .slice none 0 0][j]? = some u → vc.cell? ⟨v3.heap.size, 0 + j, none⟩ = some u := fun j u hu => by
  rw [hvc, Nat.zero_add, World.cell?_alloc_mark]
  simpa using hu
 have hSg : newB W vc v3.heap.size := ⟨G1, by rw [hvc]; simp⟩
 have hli : LI vc (newB W vc) [.int .i64 1, .int .u64 (IntKind.u64.wrap r.k), .slice none 0 0, .string ⟨#[]⟩, .slice none 0 0, .int .i64 1, .int .u64 r.no, .slice none 0 0, .string ⟨#[]⟩, .slice none 0 0, .int .i64 1, .int .u64 r.nd, .slice none 0 0, .string ⟨#[]⟩, .slice none 0 0, .int .i64 1, .int .u64 r.rg, .slice none 0 0, .string ⟨#[]⟩, .slice none 0 0] [itU (IntKind.u64.wrap r.k), itU r.no, itU r.nd, itU r.rg] := (dliCons (itS_uint _ _ _ (u64_wrap r.k)) (dliCons (itS_uint _ _ (r.no : Int) ⟨by omega, by have := HOk.out.no; omega⟩) (dliCons (itS_uint _ _ (r.nd : Int) ⟨by omega, by have := HOk.out.nd; omega⟩) (LI.one (itS_uint _ _ (r.rg : Int) ⟨by omega, by have := HOk.out.rg; omega⟩)))))
 have HIt : Hid (ItS vc (newB W vc) (listV (some ⟨v3.heap.size, 0, none⟩) 4 4) (itLs [itU (IntKind.u64.wrap r.k), itU r.no, itU r.nd, itU r.rg])) := itS_list rfl (Nat.le_refl _) (by decide) hSg (LI.itSL hli hcel)
 rw [← hvc]
 clear hvc hb hcel hSg hli G1
 refine hK.out _ _ (fun _ => (HX.out _ F).1) ?_
 clear hK K
 try simp only [Act.put, zA, zB, zC]
 refine wpAnyT_one (i := 13) (by kernel_rfl) rfl (fun K hK => ?_)
 go_simp
 refine (dlist_any _ _ _ _).mono ?_
 rintro e wL ⟨rfl, hb⟩
 have HIL := h_ (HIt.out.new_on hb)
 replace F := below_on F hb
 clear hb
 obtain ⟨_, hbx⟩ := HX.out wL F
 obtain ⟨d0, f0⟩ := hbx 0
 obtain ⟨d1, f1⟩ := hbx 1
 obtain ⟨d2, f2⟩ := hbx 2
 obtain ⟨d3, f3⟩ := hbx 3
 obtain ⟨d4, f4⟩ := hbx 4
 clear hbx
 refine hK.out _ _ (fun _ => (HX.out _ F).1) ?_
 clear hK K
 try simp only [Act.put, zA, zB, zC]
 refine wpAnyT_one (i := 14) (by kernel_rfl) rfl (fun K hK => ?_)
 go_simp
 refine hK.out _ _ (fun h => absurd h (by decide)) ?_
 clear hK K
 try simp only [Act.put, zA, zB, zC]
 refine wpAnyT_done (by kernel_rfl) ?_ _
 have HF0 := h_ F
 clear F
 have HFin : Hid ((put5 wL (w.heap.size + 1) (.int .i64 4) (.int .u64 0) (.slice none 0 0) (.string ⟨#[]⟩) (.slice (some ⟨v3.heap.size, 0, none⟩) 4 4)).cell? ⟨w.heap.size + 1, 0, none⟩ = some (.int .i64 4) ∧ True) := ⟨(put5_cells d0 d1 d2 d3 d4 (.int .i64 4) (.int .u64 0) (.slice none 0 0) (.string ⟨#[]⟩) (.slice (some ⟨v3.heap.size, 0, none⟩) 4 4)).1, trivial⟩
 have hq := put5_cells d0 d1 d2 d3 d4 (.int .i64 4) (.int .u64 0) (.slice none 0 0) (.string ⟨#[]⟩) (.slice (some ⟨v3.heap.size, 0, none⟩) 4 4)
 have hbel := put5_bel (b := w.heap.size + 1) (HB0.out.trans (HF0.out.mono HB0.out.size)) (by omega) (.int .i64 4) (.int .u64 0) (.slice none 0 0) (.string ⟨#[]⟩) (.slice (some ⟨v3.heap.size, 0, none⟩) 4 4)
 have hit := put5_S HIL.out (b := w.heap.size + 1) (by have := HS0.out; omega) (.int .i64 4) (.int .u64 0) (.slice none 0 0) (.string ⟨#[]⟩) (.slice (some ⟨v3.heap.size, 0, none⟩) 4 4)
 have HF := h_ (⟨hq, hbel, hit⟩ : _ ∧ _ ∧ _)
 clear hq hbel hit d0 d1 d2 d3 d4 f0 f1 f2 f3 f4 HFin
 unfold put5 at HF
 go_wp2_with fail
 obtain ⟨⟨q0, q1, q2, q3, q4⟩, hbel, hit⟩ := HF.out
 refine bodyPost_ret (v := .agg #[.int .i64 4, .int .u64 0, .slice none 0 0, .string ⟨#[]⟩, .slice (some ⟨v3.heap.size, 0, none⟩) 4 4]) (by simp [results, Tryz.results64, go_sem, q0, q1, q2, q3, q4]) rfl ⟨hbel, none, 0, some ⟨v3.heap.size, 0, none⟩, 4, ?_, ?_⟩
 ·rw [HL.out]
  rfl
 ·rw [HL.out]
  exact ItS.more (fun j hj => ⟨by have := hj.1; have := HS0.out; omega, hj.2⟩) _ hit

theorem dlay3_any (r : Rc) (hok : r.ok) (w : World) : Calls Tryz.prog 67 #[.agg #[.int .i64 r.k, .int .u32 r.n, .int .u32 r.m, .int .u64 r.t, .int .u32 r.q, .int .i64 r.wh, .int .i64 r.wy, .int .u64 r.at0, .int .u64 r.no, .int .u32 r.nd, .int .u32 r.rg, .bool r.ys, .int .u64 r.fr, .int .u64 r.un, .int .u8 r.lv]] w (LayP w (layR 3 r)) := by
 obtain ⟨W, hW⟩ : ∃ W, W = (w.alloc (.cells #[.int .i64 r.k, .int .u32 r.n, .int .u32 r.m, .int .u64 r.t, .int .u32 r.q, .int .i64 r.wh, .int .i64 r.wy, .int .u64 r.at0, .int .u64 r.no, .int .u32 r.nd, .int .u32 r.rg, .bool r.ys, .int .u64 r.fr, .int .u64 r.un, .int .u8 r.lv] 32)).alloc (.cells #[.int .i64 0, .int .u64 0, .slice none 0 0, .string ⟨#[]⟩, .slice none 0 0] 45) := ⟨_, rfl⟩
 have HB0 : Hid (Below w.heap.size w W) := by rw [hW]; exact below_al (below_al bR _) _
 have HS0 : Hid (W.heap.size = w.heap.size + 2) := by rw [Hid, hW]; simp
 have HX : Hid (∀ w', Below W.heap.size W w' → (w'.cell? ⟨w.heap.size, 0, none⟩ = some (.int .i64 r.k) ∧ w'.cell? ⟨w.heap.size, 1, none⟩ = some (.int .u32 r.n) ∧ w'.cell? ⟨w.heap.size, 2, none⟩ = some (.int .u32 r.m) ∧ w'.cell? ⟨w.heap.size, 3, none⟩ = some (.int .u64 r.t) ∧ w'.cell? ⟨w.heap.size, 4, none⟩ = some (.int .u32 r.q) ∧ w'.cell? ⟨w.heap.size, 5, none⟩ = some (.int .i64 r.wh) ∧ w'.cell? ⟨w.heap.size, 6, none⟩ = some (.int .i64 r.wy) ∧ w'.cell? ⟨w.heap.size, 7, none⟩ = some (.int .u64 r.at0) ∧ w'.cell? ⟨w.heap.size, 8, none⟩ = some (.int .u64 r.no) ∧ w'.cell? ⟨w.heap.size, 9, none⟩ = some (.int .u32 r.nd) ∧ w'.cell? ⟨w.heap.size, 10, none⟩ = some (.int .u32 r.rg) ∧ w'.cell? ⟨w.heap.size, 11, none⟩ = some (.bool r.ys) ∧ w'.cell? ⟨w.heap.size, 12, none⟩ = some (.int .u64 r.fr) ∧ w'.cell? ⟨w.heap.size, 13, none⟩ = some (.int .u64 r.un) ∧ w'.cell? ⟨w.heap.size, 14, none⟩ = some (.int .u8 r.lv)) ∧ ∀ j, w'.cell? ⟨w.heap.size + 1, j, none⟩ = (#[Value.int .i64 0, Value.int .u64 0, Value.slice none 0 0, Value.string ⟨#[]⟩, Value.slice none 0 0] : Array Value)[j]? ∧ w'.frozen? ⟨w.heap.size + 1, j, none⟩ = false) := fun w' h => by
  rw [hW] at h
  have h1 := below_on (below_al (Below.refl _ (w.alloc (.cells #[.int .i64 r.k, .int .u32 r.n, .int .u32 r.m, .int .u64 r.t, .int .u32 r.q, .int .i64 r.wh, .int .i64 r.wy, .int .u64 r.at0, .int .u64 r.no, .int .u32 r.nd, .int .u32 r.rg, .bool r.ys, .int .u64 r.fr, .int .u64 r.un, .int .u8 r.lv] 32))) (.cells #[.int .i64 0, .int .u64 0, .slice none 0 0, .string ⟨#[]⟩, .slice none 0 0] 45)) h
  refine ⟨⟨box_at h1 0, box_at h1 1, box_at h1 2, box_at h1 3, box_at h1 4, box_at h1 5, box_at h1 6, box_at h1 7, box_at h1 8, box_at h1 9, box_at h1 10, box_at h1 11, box_at h1 12, box_at h1 13, box_at h1 14⟩, fun j => ?_⟩
  have q2 := box_at h j
  have f2 := frozen_at h j
  rw [World.size_alloc] at q2 f2
  exact ⟨q2, f2⟩
 have HOk := h_ hok
 have HW := h_ hW
 obtain ⟨⟨x0, x1, x2, x3, x4, x5, x6, x7, x8, x9, x10, x11, x12, x13, x14⟩, _⟩ := HX.out W bR
 rw [HW.out] at x0 x1 x2 x3 x4 x5 x6 x7 x8 x9 x10 x11 x12 x13 x14
 clear hW hok
 have HL : Hid (layR 3 r = itLs [itU (IntKind.u64.wrap r.k), itU r.no, itU r.nd, itU r.rg, boI r.ys, itU r.un]) := rfl
 go_enter Tryz.func67, Tryz.ntmps67
 go_upto_region 1 with fail
 rw [← HW.out]
 clear x0 x1 x2 x3 x4 x5 x6 x7 x8 x9 x10 x11 x12 x13 x14
 have F : Below W.heap.size W W.drew := bR.drew
 refine wp_region_T (fun w' => w'.cell? ⟨w.heap.size, 0, none⟩ = some (.int .i64 r.k) ∧ w'.cell? ⟨w.heap.size, 1, none⟩ = some (.int .u32 r.n) ∧ w'.cell? ⟨w.heap.size, 2, none⟩ = some (.int .u32 r.m) ∧ w'.cell? ⟨w.heap.size, 3, none⟩ = some (.int .u64 r.t) ∧ w'.cell? ⟨w.heap.size, 4, none⟩ = some (.int .u32 r.q) ∧ w'.cell? ⟨w.heap.size, 5, none⟩ = some (.int .i64 r.wh) ∧ w'.cell? ⟨w.heap.size, 6, none⟩ = some (.int .i64 r.wy) ∧ w'.cell? ⟨w.heap.size, 7, none⟩ = some (.int .u64 r.at0) ∧ w'.cell? ⟨w.heap.size, 8, none⟩ = some (.int .u64 r.no) ∧ w'.cell? ⟨w.heap.size, 9, none⟩ = some (.int .u32 r.nd) ∧ w'.cell? ⟨w.heap.size, 10, none⟩ = some (.int .u32 r.rg) ∧ w'.cell? ⟨w.heap.size, 11, none⟩ = some (.bool r.ys) ∧ w'.cell? ⟨w.heap.size, 12, none⟩ = some (.int .u64 r.fr) ∧ w'.cell? ⟨w.heap.size, 13, none⟩ = some (.int .u64 r.un) ∧ w'.cell? ⟨w.heap.size, 14, none⟩ = some (.int .u8 r.lv)) 20 (by kernel_rfl) ?_
 refine wpAnyT_take (i := 0) (v := ?_) rfl (by kernel_rfl) (by kernel_rfl) (by kernel_rfl) (by kernel_rfl) (fun _ _ _ h => h) (Or.inl ⟨by rfl, ?_⟩) (HX.out _ F).1 ?_
 rotate_left
 ·intro w hSw; go_simp; all_goals with_reducible rfl
 simp only [Act.put, zA, zB, zC]
 refine wpAnyT_take (i := 1) (v := ?_) rfl (by kernel_rfl) (by kernel_rfl) (by kernel_rfl) (by kernel_rfl) (fun _ _ _ h => h) (Or.inl ⟨by rfl, ?_⟩) (HX.out _ F).1 ?_
 rotate_left
 ·intro w hSw; go_simp; all_goals with_reducible rfl
 simp only [Act.put, zA, zB, zC]
 refine wpAnyT_take (i := 3) (v := ?_) rfl (by kernel_rfl) (by kernel_rfl) (by kernel_rfl) (by kernel_rfl) (fun _ _ _ h => h) (Or.inl ⟨by rfl, ?_⟩) (HX.out _ F).1 ?_
 rotate_left
 ·intro w hSw; go_simp; all_goals with_reducible rfl
 simp only [Act.put, zA, zB, zC]
 refine wpAnyT_take (i := 4) (v := ?_) rfl (by kernel_rfl) (by kernel_rfl) (by kernel_rfl) (by kernel_rfl) (fun _ _ _ h => h) (Or.inl ⟨by rfl, ?_⟩) (HX.out _ F).1 ?_
 rotate_left
 ·intro w hSw; go_simp; all_goals with_reducible rfl
 simp only [Act.put, zA, zB, zC]
 refine wpAnyT_take (i := 6) (v := ?_) rfl (by kernel_rfl) (by kernel_rfl) (by kernel_rfl) (by kernel_rfl) (fun _ _ _ h => h) (Or.inl ⟨by rfl, ?_⟩) (HX.out _ F).1 ?_
 rotate_left
 ·intro w hSw; go_simp; all_goals with_reducible rfl
 simp only [Act.put, zA, zB, zC]
 refine wpAnyT_take (i := 7) (v := ?_) rfl (by kernel_rfl) (by kernel_rfl) (by kernel_rfl) (by kernel_rfl) (fun _ _ _ h => h) (Or.inl ⟨by rfl, ?_⟩) (HX.out _ F).1 ?_
 rotate_left
 ·intro w hSw; go_simp; all_goals with_reducible rfl
 simp only [Act.put, zA, zB, zC]
 refine wpAnyT_take (i := 9) (v := ?_) rfl (by kernel_rfl) (by kernel_rfl) (by kernel_rfl) (by kernel_rfl) (fun _ _ _ h => h) (Or.inl ⟨by rfl, ?_⟩) (HX.out _ F).1 ?_
 rotate_left
 ·intro w hSw; go_simp; all_goals with_reducible rfl
 simp only [Act.put, zA, zB, zC]
 refine wpAnyT_take (i := 10) (v := ?_) rfl (by kernel_rfl) (by kernel_rfl) (by kernel_rfl) (by kernel_rfl) (fun _ _ _ h => h) (Or.inl ⟨by rfl, ?_⟩) (HX.out _ F).1 ?_
 rotate_left
 ·intro w hSw; go_simp; all_goals with_reducible rfl
 simp only [Act.put, zA, zB, zC]
 refine wpAnyT_take (i := 12) (v := ?_) rfl (by kernel_rfl) (by kernel_rfl) (by kernel_rfl) (by kernel_rfl) (fun _ _ _ h => h) (Or.inl ⟨by rfl, ?_⟩) (HX.out _ F).1 ?_
 rotate_left
 ·intro w hSw; go_simp; all_goals with_reducible rfl
 simp only [Act.put, zA, zB, zC]
 refine wpAnyT_take (i := 13) (v := ?_) rfl (by kernel_rfl) (by kernel_rfl) (by kernel_rfl) (by kernel_rfl) (fun _ _ _ h => h) (Or.inl ⟨by rfl, ?_⟩) (HX.out _ F).1 ?_
 rotate_left
 ·intro w hSw; go_simp; all_goals with_reducible rfl
 simp only [Act.put, zA, zB, zC]
 refine wpAnyT_take (i := 15) (v := ?_) rfl (by kernel_rfl) (by kernel_rfl) (by kernel_rfl) (by kernel_rfl) (fun _ _ _ h => h) (Or.inl ⟨by rfl, ?_⟩) (HX.out _ F).1 ?_
 rotate_left
 ·intro w hSw; go_simp; all_goals with_reducible rfl
 simp only [Act.put, zA, zB, zC]
 refine wpAnyT_take (i := 16) (v := ?_) rfl (by kernel_rfl) (by kernel_rfl) (by kernel_rfl) (by kernel_rfl) (fun _ _ _ h => h) (Or.inl ⟨by rfl, ?_⟩) (HX.out _ F).1 ?_
 rotate_left
 ·intro w hSw; go_simp; all_goals with_reducible rfl
 simp only [Act.put, zA, zB, zC]
 refine wpAnyT_one (i := 2) (by kernel_rfl) rfl (fun K hK => ?_)
 go_simp
 refine (duint_k r.k _).mono ?_
 rintro e v0 ⟨rfl, hb⟩
 replace F := below_on F hb
 clear hb
 refine hK.out _ _ (fun _ => (HX.out _ F).1) ?_
 clear hK K
 try simp only [Act.put, zA, zB, zC]
 refine wpAnyT_one (i := 5) (by kernel_rfl) rfl (fun K hK => ?_)
 go_simp
 refine (duint_64 r.no _).mono ?_
 rintro e v1 ⟨rfl, hb⟩
 replace F := below_on F hb
 clear hb
 refine hK.out _ _ (fun _ => (HX.out _ F).1) ?_
 clear hK K
 try simp only [Act.put, zA, zB, zC]
 refine wpAnyT_one (i := 8) (by kernel_rfl) rfl (fun K hK => ?_)
 go_simp
 refine (duint_32 r.nd HOk.out.nd _).mono ?_
 rintro e v2 ⟨rfl, hb⟩
 replace F := below_on F hb
 clear hb
 refine hK.out _ _ (fun _ => (HX.out _ F).1) ?_
 clear hK K
 try simp only [Act.put, zA, zB, zC]
 refine wpAnyT_one (i := 11) (by kernel_rfl) rfl (fun K hK => ?_)
 go_simp
 refine (duint_32 r.rg HOk.out.rg _).mono ?_
 rintro e v3 ⟨rfl, hb⟩
 replace F := below_on F hb
 clear hb
 refine hK.out _ _ (fun _ => (HX.out _ F).1) ?_
 clear hK K
 try simp only [Act.put, zA, zB, zC]
 refine wpAnyT_one (i := 14) (by kernel_rfl) rfl (fun K hK => ?_)
 go_simp
 refine (dbool_any r.ys _).mono ?_
 rintro e v4 ⟨rfl, hb⟩
 replace F := below_on F hb
 clear hb
 refine hK.out _ _ (fun _ => (HX.out _ F).1) ?_
 clear hK K
 try simp only [Act.put, zA, zB, zC]
 refine wpAnyT_one (i := 17) (by kernel_rfl) rfl (fun K hK => ?_)
 go_simp
 refine (duint_64 r.un _).mono ?_
 rintro e v5 ⟨rfl, hb⟩
 replace F := below_on F hb
 clear hb
 refine hK.out _ _ (fun _ => (HX.out _ F).1) ?_
 clear hK K
 try simp only [Act.put, zA, zB, zC]
 refine wpAnyT_one (i := 18) (by kernel_rfl) rfl (fun K hK => ?_)
 go_simp
 obtain ⟨vc, hvc⟩ : ∃ V, V = v5.alloc (.cells #[.int .i64 1, .int .u64 (IntKind.u64.wrap r.k), .slice none 0 0, .string ⟨#[]⟩, .slice none 0 0, .int .i64 1, .int .u64 r.no, .slice none 0 0, .string ⟨#[]⟩, .slice none 0 0, .int .i64 1, .int .u64 r.nd, .slice none 0 0, .string ⟨#[]⟩, .slice none 0 0, .int .i64 1, .int .u64 r.rg, .slice none 0 0, .string ⟨#[]⟩, .slice none 0 0, .int .i64 5, .int .u64 (boN r.ys), .slice none 0 0, .string ⟨#[]⟩, .slice none 0 0, .int .i64 1, .int .u64 r.un, .slice none 0 0, .string ⟨#[]⟩, .slice none 0 0] 45) := ⟨_, rfl⟩
 have hb : Below v5.heap.size v5 vc := by rw [hvc]; exact below_al bR _
 have G1 : W.heap.size ≤ v5.heap.size := F.size
 replace F := below_on F hb
 have hcel : ∀ (j : Nat) (u : Value), [.int .i64 1, .int .u64 (IntKind.u64.wrap r.k), .slice none 0 0, .string ⟨#[]⟩, .slice none 0 0, .int .i64 1, .int .u64 r.no, .slice none 0 0, .string ⟨#[]⟩, .slice none 0 0, .int .i64 1, .int .u64 r.nd, .slice none 0 0, .string ⟨#[]⟩, .slice none 0 0, .int .i64 1, .int .u64 r.rg, .slice none 0 0, .string ⟨#[]⟩, .slice none 0 0, .int .i64 5, .int .u64 (boN r.ys), .slice none 0 0, .string ⟨#[]⟩, .slice none 0 0, .int .i64 1, .int .u64 r.un, .slice none 0 0, .string ⟨#[]⟩, .slice none 0 0][j]? = some u → vc.cell? ⟨v5.heap.size, 0 + j, none⟩ = some u := fun j u hu => by
  rw [hvc, Nat.zero_add, World.cell?_alloc_mark]
  simpa using hu
 have hSg : newB W vc v5.heap.size := ⟨G1, by rw [hvc]; simp⟩
 have hli : LI vc (newB W vc) [.int .i64 1, .int .u64 (IntKind.u64.wrap r.k), .slice none 0 0, .string ⟨#[]⟩, .slice none 0 0, .int .i64 1, .int .u64 r.no, .slice none 0 0, .string ⟨#[]⟩, .slice none 0 0, .int .i64 1, .int .u64 r.nd, .slice none 0 0, .string ⟨#[]⟩, .slice none 0 0, .int .i64 1, .int .u64 r.rg, .slice none 0 0, .string ⟨#[]⟩, .slice none 0 0, .int .i64 5, .int .u64 (boN r.ys), .slice none 0 0, .string ⟨#[]⟩, .slice none 0 0, .int .i64 1, .int .u64 r.un, .slice none 0 0, .string ⟨#[]⟩, .slice none 0 0] [itU (IntKind.u64.wrap r.k), itU r.no, itU r.nd, itU r.rg, boI r.ys, itU r.un] := (dliCons (itS_uint _ _ _ (u64_wrap r.k)) (dliCons (itS_uint _ _ (r.no : Int) ⟨by omega, by have := HOk.out.no; omega⟩) (dliCons (itS_uint _ _ (r.nd : Int) ⟨by omega, by have := HOk.out.nd; omega⟩) (dliCons (itS_uint _ _ (r.rg : Int) ⟨by omega, by have := HOk.out.rg; omega⟩) (dliCons (itS_bo _ _ r.ys) (LI.one (itS_uint _ _ (r.un : Int) ⟨by omega, by have := HOk.out.un; omega⟩)))))))
 have HIt : Hid (ItS vc (newB W vc) (listV (some ⟨v5.heap.size, 0, none⟩) 6 6) (itLs [itU (IntKind.u64.wrap r.k), itU r.no, itU r.nd, itU r.rg, boI r.ys, itU r.un])) := itS_list rfl (Nat.le_refl _) (by decide) hSg (LI.itSL hli hcel)
 rw [← hvc]
 clear hvc hb hcel hSg hli G1
 refine hK.out _ _ (fun _ => (HX.out _ F).1) ?_
 clear hK K
 try simp only [Act.put, zA, zB, zC]
 refine wpAnyT_one (i := 19) (by kernel_rfl) rfl (fun K hK => ?_)
 go_simp
 refine (dlist_any _ _ _ _).mono ?_
 rintro e wL ⟨rfl, hb⟩
 have HIL := h_ (HIt.out.new_on hb)
 replace F := below_on F hb
 clear hb
 obtain ⟨_, hbx⟩ := HX.out wL F
 obtain ⟨d0, f0⟩ := hbx 0
 obtain ⟨d1, f1⟩ := hbx 1
 obtain ⟨d2, f2⟩ := hbx 2
 obtain ⟨d3, f3⟩ := hbx 3
 obtain ⟨d4, f4⟩ := hbx 4
 clear hbx
 refine hK.out _ _ (fun _ => (HX.out _ F).1) ?_
 clear hK K
 try simp only [Act.put, zA, zB, zC]
 refine wpAnyT_one (i := 20) (by kernel_rfl) rfl (fun K hK => ?_)
 go_simp
 refine hK.out _ _ (fun h => absurd h (by decide)) ?_
 clear hK K
 try simp only [Act.put, zA, zB, zC]
 refine wpAnyT_done (by kernel_rfl) ?_ _
 have HF0 := h_ F
 clear F
 have HFin : Hid ((put5 wL (w.heap.size + 1) (.int .i64 4) (.int .u64 0) (.slice none 0 0) (.string ⟨#[]⟩) (.slice (some ⟨v5.heap.size, 0, none⟩) 6 6)).cell? ⟨w.heap.size + 1, 0, none⟩ = some (.int .i64 4) ∧ True) := ⟨(put5_cells d0 d1 d2 d3 d4 (.int .i64 4) (.int .u64 0) (.slice none 0 0) (.string ⟨#[]⟩) (.slice (some ⟨v5.heap.size, 0, none⟩) 6 6)).1, trivial⟩
 have hq := put5_cells d0 d1 d2 d3 d4 (.int .i64 4) (.int .u64 0) (.slice none 0 0) (.string ⟨#[]⟩) (.slice (some ⟨v5.heap.size, 0, none⟩) 6 6)
 have hbel := put5_bel (b := w.heap.size + 1) (HB0.out.trans (HF0.out.mono HB0.out.size)) (by omega) (.int .i64 4) (.int .u64 0) (.slice none 0 0) (.string ⟨#[]⟩) (.slice (some ⟨v5.heap.size, 0, none⟩) 6 6)
 have hit := put5_S HIL.out (b := w.heap.size + 1) (by have := HS0.out; omega) (.int .i64 4) (.int .u64 0) (.slice none 0 0) (.string ⟨#[]⟩) (.slice (some ⟨v5.heap.size, 0, none⟩) 6 6)
 have HF := h_ (⟨hq, hbel, hit⟩ : _ ∧ _ ∧ _)
 clear hq hbel hit d0 d1 d2 d3 d4 f0 f1 f2 f3 f4 HFin
 unfold put5 at HF
 go_wp2_with fail
 obtain ⟨⟨q0, q1, q2, q3, q4⟩, hbel, hit⟩ := HF.out
 refine bodyPost_ret (v := .agg #[.int .i64 4, .int .u64 0, .slice none 0 0, .string ⟨#[]⟩, .slice (some ⟨v5.heap.size, 0, none⟩) 6 6]) (by simp [results, Tryz.results67, go_sem, q0, q1, q2, q3, q4]) rfl ⟨hbel, none, 0, some ⟨v5.heap.size, 0, none⟩, 6, ?_, ?_⟩
 ·rw [HL.out]
  rfl
 ·rw [HL.out]
  exact ItS.more (fun j hj => ⟨by have := hj.1; have := HS0.out; omega, hj.2⟩) _ hit

theorem dlay4_any (r : Rc) (hok : r.ok) (w : World) : Calls Tryz.prog 70 #[.agg #[.int .i64 r.k, .int .u32 r.n, .int .u32 r.m, .int .u64 r.t, .int .u32 r.q, .int .i64 r.wh, .int .i64 r.wy, .int .u64 r.at0, .int .u64 r.no, .int .u32 r.nd, .int .u32 r.rg, .bool r.ys, .int .u64 r.fr, .int .u64 r.un, .int .u8 r.lv]] w (LayP w (layR 4 r)) := by
 obtain ⟨W, hW⟩ : ∃ W, W = (w.alloc (.cells #[.int .i64 r.k, .int .u32 r.n, .int .u32 r.m, .int .u64 r.t, .int .u32 r.q, .int .i64 r.wh, .int .i64 r.wy, .int .u64 r.at0, .int .u64 r.no, .int .u32 r.nd, .int .u32 r.rg, .bool r.ys, .int .u64 r.fr, .int .u64 r.un, .int .u8 r.lv] 32)).alloc (.cells #[.int .i64 0, .int .u64 0, .slice none 0 0, .string ⟨#[]⟩, .slice none 0 0] 45) := ⟨_, rfl⟩
 have HB0 : Hid (Below w.heap.size w W) := by rw [hW]; exact below_al (below_al bR _) _
 have HS0 : Hid (W.heap.size = w.heap.size + 2) := by rw [Hid, hW]; simp
 have HX : Hid (∀ w', Below W.heap.size W w' → (w'.cell? ⟨w.heap.size, 0, none⟩ = some (.int .i64 r.k) ∧ w'.cell? ⟨w.heap.size, 1, none⟩ = some (.int .u32 r.n) ∧ w'.cell? ⟨w.heap.size, 2, none⟩ = some (.int .u32 r.m) ∧ w'.cell? ⟨w.heap.size, 3, none⟩ = some (.int .u64 r.t) ∧ w'.cell? ⟨w.heap.size, 4, none⟩ = some (.int .u32 r.q) ∧ w'.cell? ⟨w.heap.size, 5, none⟩ = some (.int .i64 r.wh) ∧ w'.cell? ⟨w.heap.size, 6, none⟩ = some (.int .i64 r.wy) ∧ w'.cell? ⟨w.heap.size, 7, none⟩ = some (.int .u64 r.at0) ∧ w'.cell? ⟨w.heap.size, 8, none⟩ = some (.int .u64 r.no) ∧ w'.cell? ⟨w.heap.size, 9, none⟩ = some (.int .u32 r.nd) ∧ w'.cell? ⟨w.heap.size, 10, none⟩ = some (.int .u32 r.rg) ∧ w'.cell? ⟨w.heap.size, 11, none⟩ = some (.bool r.ys) ∧ w'.cell? ⟨w.heap.size, 12, none⟩ = some (.int .u64 r.fr) ∧ w'.cell? ⟨w.heap.size, 13, none⟩ = some (.int .u64 r.un) ∧ w'.cell? ⟨w.heap.size, 14, none⟩ = some (.int .u8 r.lv)) ∧ ∀ j, w'.cell? ⟨w.heap.size + 1, j, none⟩ = (#[Value.int .i64 0, Value.int .u64 0, Value.slice none 0 0, Value.string ⟨#[]⟩, Value.slice none 0 0] : Array Value)[j]? ∧ w'.frozen? ⟨w.heap.size + 1, j, none⟩ = false) := fun w' h => by
  rw [hW] at h
  have h1 := below_on (below_al (Below.refl _ (w.alloc (.cells #[.int .i64 r.k, .int .u32 r.n, .int .u32 r.m, .int .u64 r.t, .int .u32 r.q, .int .i64 r.wh, .int .i64 r.wy, .int .u64 r.at0, .int .u64 r.no, .int .u32 r.nd, .int .u32 r.rg, .bool r.ys, .int .u64 r.fr, .int .u64 r.un, .int .u8 r.lv] 32))) (.cells #[.int .i64 0, .int .u64 0, .slice none 0 0, .string ⟨#[]⟩, .slice none 0 0] 45)) h
  refine ⟨⟨box_at h1 0, box_at h1 1, box_at h1 2, box_at h1 3, box_at h1 4, box_at h1 5, box_at h1 6, box_at h1 7, box_at h1 8, box_at h1 9, box_at h1 10, box_at h1 11, box_at h1 12, box_at h1 13, box_at h1 14⟩, fun j => ?_⟩
  have q2 := box_at h j
  have f2 := frozen_at h j
  rw [World.size_alloc] at q2 f2
  exact ⟨q2, f2⟩
 have HOk := h_ hok
 have HW := h_ hW
 obtain ⟨⟨x0, x1, x2, x3, x4, x5, x6, x7, x8, x9, x10, x11, x12, x13, x14⟩, _⟩ := HX.out W bR
 rw [HW.out] at x0 x1 x2 x3 x4 x5 x6 x7 x8 x9 x10 x11 x12 x13 x14
 clear hW hok
 have HL : Hid (layR 4 r = itLs [itU (IntKind.u64.wrap r.k), itU r.nd, itU r.fr, itU r.un, itU r.lv]) := rfl
 go_enter Tryz.func70, Tryz.ntmps70
 go_upto_region 1 with fail
 rw [← HW.out]
 clear x0 x1 x2 x3 x4 x5 x6 x7 x8 x9 x10 x11 x12 x13 x14
 have F : Below W.heap.size W W.drew := bR.drew
 refine wp_region_T (fun w' => w'.cell? ⟨w.heap.size, 0, none⟩ = some (.int .i64 r.k) ∧ w'.cell? ⟨w.heap.size, 1, none⟩ = some (.int .u32 r.n) ∧ w'.cell? ⟨w.heap.size, 2, none⟩ = some (.int .u32 r.m) ∧ w'.cell? ⟨w.heap.size, 3, none⟩ = some (.int .u64 r.t) ∧ w'.cell? ⟨w.heap.size, 4, none⟩ = some (.int .u32 r.q) ∧ w'.cell? ⟨w.heap.size, 5, none⟩ = some (.int .i64 r.wh) ∧ w'.cell? ⟨w.heap.size, 6, none⟩ = some (.int .i64 r.wy) ∧ w'.cell? ⟨w.heap.size, 7, none⟩ = some (.int .u64 r.at0) ∧ w'.cell? ⟨w.heap.size, 8, none⟩ = some (.int .u64 r.no) ∧ w'.cell? ⟨w.heap.size, 9, none⟩ = some (.int .u32 r.nd) ∧ w'.cell? ⟨w.heap.size, 10, none⟩ = some (.int .u32 r.rg) ∧ w'.cell? ⟨w.heap.size, 11, none⟩ = some (.bool r.ys) ∧ w'.cell? ⟨w.heap.size, 12, none⟩ = some (.int .u64 r.fr) ∧ w'.cell? ⟨w.heap.size, 13, none⟩ = some (.int .u64 r.un) ∧ w'.cell? ⟨w.heap.size, 14, none⟩ = some (.int .u8 r.lv)) 17 (by kernel_rfl) ?_
 refine wpAnyT_take (i := 0) (v := ?_) rfl (by kernel_rfl) (by kernel_rfl) (by kernel_rfl) (by kernel_rfl) (fun _ _ _ h => h) (Or.inl ⟨by rfl, ?_⟩) (HX.out _ F).1 ?_
 rotate_left
 ·intro w hSw; go_simp; all_goals with_reducible rfl
 simp only [Act.put, zA, zB, zC]
 refine wpAnyT_take (i := 1) (v := ?_) rfl (by kernel_rfl) (by kernel_rfl) (by kernel_rfl) (by kernel_rfl) (fun _ _ _ h => h) (Or.inl ⟨by rfl, ?_⟩) (HX.out _ F).1 ?_
 rotate_left
 ·intro w hSw; go_simp; all_goals with_reducible rfl
 simp only [Act.put, zA, zB, zC]
 refine wpAnyT_take (i := 3) (v := ?_) rfl (by kernel_rfl) (by kernel_rfl) (by kernel_rfl) (by kernel_rfl) (fun _ _ _ h => h) (Or.inl ⟨by rfl, ?_⟩) (HX.out _ F).1 ?_
 rotate_left
 ·intro w hSw; go_simp; all_goals with_reducible rfl
 simp only [Act.put, zA, zB, zC]
 refine wpAnyT_take (i := 4) (v := ?_) rfl (by kernel_rfl) (by kernel_rfl) (by kernel_rfl) (by kernel_rfl) (fun _ _ _ h => h) (Or.inl ⟨by rfl, ?_⟩) (HX.out _ F).1 ?_
 rotate_left
 ·intro w hSw; go_simp; all_goals with_reducible rfl
 simp only [Act.put, zA, zB, zC]
 refine wpAnyT_take (i := 6) (v := ?_) rfl (by kernel_rfl) (by kernel_rfl) (by kernel_rfl) (by kernel_rfl) (fun _ _ _ h => h) (Or.inl ⟨by rfl, ?_⟩) (HX.out _ F).1 ?_
 rotate_left
 ·intro w hSw; go_simp; all_goals with_reducible rfl
 simp only [Act.put, zA, zB, zC]
 refine wpAnyT_take (i := 7) (v := ?_) rfl (by kernel_rfl) (by kernel_rfl) (by kernel_rfl) (by kernel_rfl) (fun _ _ _ h => h) (Or.inl ⟨by rfl, ?_⟩) (HX.out _ F).1 ?_
 rotate_left
 ·intro w hSw; go_simp; all_goals with_reducible rfl
 simp only [Act.put, zA, zB, zC]
 refine wpAnyT_take (i := 9) (v := ?_) rfl (by kernel_rfl) (by kernel_rfl) (by kernel_rfl) (by kernel_rfl) (fun _ _ _ h => h) (Or.inl ⟨by rfl, ?_⟩) (HX.out _ F).1 ?_
 rotate_left
 ·intro w hSw; go_simp; all_goals with_reducible rfl
 simp only [Act.put, zA, zB, zC]
 refine wpAnyT_take (i := 10) (v := ?_) rfl (by kernel_rfl) (by kernel_rfl) (by kernel_rfl) (by kernel_rfl) (fun _ _ _ h => h) (Or.inl ⟨by rfl, ?_⟩) (HX.out _ F).1 ?_
 rotate_left
 ·intro w hSw; go_simp; all_goals with_reducible rfl
 simp only [Act.put, zA, zB, zC]
 refine wpAnyT_take (i := 12) (v := ?_) rfl (by kernel_rfl) (by kernel_rfl) (by kernel_rfl) (by kernel_rfl) (fun _ _ _ h => h) (Or.inl ⟨by rfl, ?_⟩) (HX.out _ F).1 ?_
 rotate_left
 ·intro w hSw; go_simp; all_goals with_reducible rfl
 simp only [Act.put, zA, zB, zC]
 refine wpAnyT_take (i := 13) (v := ?_) rfl (by kernel_rfl) (by kernel_rfl) (by kernel_rfl) (by kernel_rfl) (fun _ _ _ h => h) (Or.inl ⟨by rfl, ?_⟩) (HX.out _ F).1 ?_
 rotate_left
 ·intro w hSw; go_simp; all_goals with_reducible rfl
 simp only [Act.put, zA, zB, zC]
 refine wpAnyT_one (i := 2) (by kernel_rfl) rfl (fun K hK => ?_)
 go_simp
 refine (duint_k r.k _).mono ?_
 rintro e v0 ⟨rfl, hb⟩
 replace F := below_on F hb
 clear hb
 refine hK.out _ _ (fun _ => (HX.out _ F).1) ?_
 clear hK K
 try simp only [Act.put, zA, zB, zC]
 refine wpAnyT_one (i := 5) (by kernel_rfl) rfl (fun K hK => ?_)
 go_simp
 refine (duint_32 r.nd HOk.out.nd _).mono ?_
 rintro e v1 ⟨rfl, hb⟩
 replace F := below_on F hb
 clear hb
 refine hK.out _ _ (fun _ => (HX.out _ F).1) ?_
 clear hK K
 try simp only [Act.put, zA, zB, zC]
 refine wpAnyT_one (i := 8) (by kernel_rfl) rfl (fun K hK => ?_)
 go_simp
 refine (duint_64 r.fr _).mono ?_
 rintro e v2 ⟨rfl, hb⟩
 replace F := below_on F hb
 clear hb
 refine hK.out _ _ (fun _ => (HX.out _ F).1) ?_
 clear hK K
 try simp only [Act.put, zA, zB, zC]
 refine wpAnyT_one (i := 11) (by kernel_rfl) rfl (fun K hK => ?_)
 go_simp
 refine (duint_64 r.un _).mono ?_
 rintro e v3 ⟨rfl, hb⟩
 replace F := below_on F hb
 clear hb
 refine hK.out _ _ (fun _ => (HX.out _ F).1) ?_
 clear hK K
 try simp only [Act.put, zA, zB, zC]
 refine wpAnyT_one (i := 14) (by kernel_rfl) rfl (fun K hK => ?_)
 go_simp
 refine (duint_8 r.lv HOk.out.lv _).mono ?_
 rintro e v4 ⟨rfl, hb⟩
 replace F := below_on F hb
 clear hb
 refine hK.out _ _ (fun _ => (HX.out _ F).1) ?_
 clear hK K
 try simp only [Act.put, zA, zB, zC]
 refine wpAnyT_one (i := 15) (by kernel_rfl) rfl (fun K hK => ?_)
 go_simp
 obtain ⟨vc, hvc⟩ : ∃ V, V = v4.alloc (.cells #[.int .i64 1, .int .u64 (IntKind.u64.wrap r.k), .slice none 0 0, .string ⟨#[]⟩, .slice none 0 0, .int .i64 1, .int .u64 r.nd, .slice none 0 0, .string ⟨#[]⟩, .slice none 0 0, .int .i64 1, .int .u64 r.fr, .slice none 0 0, .string ⟨#[]⟩, .slice none 0 0, .int .i64 1, .int .u64 r.un, .slice none 0 0, .string ⟨#[]⟩, .slice none 0 0, .int .i64 1, .int .u64 r.lv, .slice none 0 0, .string ⟨#[]⟩, .slice none 0 0] 45) := ⟨_, rfl⟩
 have hb : Below v4.heap.size v4 vc := by rw [hvc]; exact below_al bR _
 have G1 : W.heap.size ≤ v4.heap.size := F.size
 replace F := below_on F hb
 have hcel : ∀ (j : Nat) (u : Value), [.int .i64 1, .int .u64 (IntKind.u64.wrap r.k), .slice none 0 0, .string ⟨#[]⟩, .slice none 0 0, .int .i64 1, .int .u64 r.nd, .slice none 0 0, .string ⟨#[]⟩, .slice none 0 0, .int .i64 1, .int .u64 r.fr, .slice none 0 0, .string ⟨#[]⟩, .slice none 0 0, .int .i64 1, .int .u64 r.un, .slice none 0 0, .string ⟨#[]⟩, .slice none 0 0, .int .i64 1, .int .u64 r.lv, .slice none 0 0, .string ⟨#[]⟩, .slice none 0 0][j]? = some u → vc.cell? ⟨v4.heap.size, 0 + j, none⟩ = some u := fun j u hu => by
  rw [hvc, Nat.zero_add, World.cell?_alloc_mark]
  simpa using hu
 have hSg : newB W vc v4.heap.size := ⟨G1, by rw [hvc]; simp⟩
 have hli : LI vc (newB W vc) [.int .i64 1, .int .u64 (IntKind.u64.wrap r.k), .slice none 0 0, .string ⟨#[]⟩, .slice none 0 0, .int .i64 1, .int .u64 r.nd, .slice none 0 0, .string ⟨#[]⟩, .slice none 0 0, .int .i64 1, .int .u64 r.fr, .slice none 0 0, .string ⟨#[]⟩, .slice none 0 0, .int .i64 1, .int .u64 r.un, .slice none 0 0, .string ⟨#[]⟩, .slice none 0 0, .int .i64 1, .int .u64 r.lv, .slice none 0 0, .string ⟨#[]⟩, .slice none 0 0] [itU (IntKind.u64.wrap r.k), itU r.nd, itU r.fr, itU r.un, itU r.lv] := (dliCons (itS_uint _ _ _ (u64_wrap r.k)) (dliCons (itS_uint _ _ (r.nd : Int) ⟨by omega, by have := HOk.out.nd; omega⟩) (dliCons (itS_uint _ _ (r.fr : Int) ⟨by omega, by have := HOk.out.fr; omega⟩) (dliCons (itS_uint _ _ (r.un : Int) ⟨by omega, by have := HOk.out.un; omega⟩) (LI.one (itS_uint _ _ (r.lv : Int) ⟨by omega, by have := HOk.out.lv; omega⟩))))))
 have HIt : Hid (ItS vc (newB W vc) (listV (some ⟨v4.heap.size, 0, none⟩) 5 5) (itLs [itU (IntKind.u64.wrap r.k), itU r.nd, itU r.fr, itU r.un, itU r.lv])) := itS_list rfl (Nat.le_refl _) (by decide) hSg (LI.itSL hli hcel)
 rw [← hvc]
 clear hvc hb hcel hSg hli G1
 refine hK.out _ _ (fun _ => (HX.out _ F).1) ?_
 clear hK K
 try simp only [Act.put, zA, zB, zC]
 refine wpAnyT_one (i := 16) (by kernel_rfl) rfl (fun K hK => ?_)
 go_simp
 refine (dlist_any _ _ _ _).mono ?_
 rintro e wL ⟨rfl, hb⟩
 have HIL := h_ (HIt.out.new_on hb)
 replace F := below_on F hb
 clear hb
 obtain ⟨_, hbx⟩ := HX.out wL F
 obtain ⟨d0, f0⟩ := hbx 0
 obtain ⟨d1, f1⟩ := hbx 1
 obtain ⟨d2, f2⟩ := hbx 2
 obtain ⟨d3, f3⟩ := hbx 3
 obtain ⟨d4, f4⟩ := hbx 4
 clear hbx
 refine hK.out _ _ (fun _ => (HX.out _ F).1) ?_
 clear hK K
 try simp only [Act.put, zA, zB, zC]
 refine wpAnyT_one (i := 17) (by kernel_rfl) rfl (fun K hK => ?_)
 go_simp
 refine hK.out _ _ (fun h => absurd h (by decide)) ?_
 clear hK K
 try simp only [Act.put, zA, zB, zC]
 refine wpAnyT_done (by kernel_rfl) ?_ _
 have HF0 := h_ F
 clear F
 have HFin : Hid ((put5 wL (w.heap.size + 1) (.int .i64 4) (.int .u64 0) (.slice none 0 0) (.string ⟨#[]⟩) (.slice (some ⟨v4.heap.size, 0, none⟩) 5 5)).cell? ⟨w.heap.size + 1, 0, none⟩ = some (.int .i64 4) ∧ True) := ⟨(put5_cells d0 d1 d2 d3 d4 (.int .i64 4) (.int .u64 0) (.slice none 0 0) (.string ⟨#[]⟩) (.slice (some ⟨v4.heap.size, 0, none⟩) 5 5)).1, trivial⟩
 have hq := put5_cells d0 d1 d2 d3 d4 (.int .i64 4) (.int .u64 0) (.slice none 0 0) (.string ⟨#[]⟩) (.slice (some ⟨v4.heap.size, 0, none⟩) 5 5)
 have hbel := put5_bel (b := w.heap.size + 1) (HB0.out.trans (HF0.out.mono HB0.out.size)) (by omega) (.int .i64 4) (.int .u64 0) (.slice none 0 0) (.string ⟨#[]⟩) (.slice (some ⟨v4.heap.size, 0, none⟩) 5 5)
 have hit := put5_S HIL.out (b := w.heap.size + 1) (by have := HS0.out; omega) (.int .i64 4) (.int .u64 0) (.slice none 0 0) (.string ⟨#[]⟩) (.slice (some ⟨v4.heap.size, 0, none⟩) 5 5)
 have HF := h_ (⟨hq, hbel, hit⟩ : _ ∧ _ ∧ _)
 clear hq hbel hit d0 d1 d2 d3 d4 f0 f1 f2 f3 f4 HFin
 unfold put5 at HF
 go_wp2_with fail
 obtain ⟨⟨q0, q1, q2, q3, q4⟩, hbel, hit⟩ := HF.out
 refine bodyPost_ret (v := .agg #[.int .i64 4, .int .u64 0, .slice none 0 0, .string ⟨#[]⟩, .slice (some ⟨v4.heap.size, 0, none⟩) 5 5]) (by simp [results, Tryz.results70, go_sem, q0, q1, q2, q3, q4]) rfl ⟨hbel, none, 0, some ⟨v4.heap.size, 0, none⟩, 5, ?_, ?_⟩
 ·rw [HL.out]
  rfl
 ·rw [HL.out]
  exact ItS.more (fun j hj => ⟨by have := hj.1; have := HS0.out; omega, hj.2⟩) _ hit

theorem dlay5_any (r : Rc) (hok : r.ok) (w : World) : Calls Tryz.prog 73 #[.agg #[.int .i64 r.k, .int .u32 r.n, .int .u32 r.m, .int .u64 r.t, .int .u32 r.q, .int .i64 r.wh, .int .i64 r.wy, .int .u64 r.at0, .int .u64 r.no, .int .u32 r.nd, .int .u32 r.rg, .bool r.ys, .int .u64 r.fr, .int .u64 r.un, .int .u8 r.lv]] w (LayP w (layR 5 r)) := by
 obtain ⟨W, hW⟩ : ∃ W, W = (w.alloc (.cells #[.int .i64 r.k, .int .u32 r.n, .int .u32 r.m, .int .u64 r.t, .int .u32 r.q, .int .i64 r.wh, .int .i64 r.wy, .int .u64 r.at0, .int .u64 r.no, .int .u32 r.nd, .int .u32 r.rg, .bool r.ys, .int .u64 r.fr, .int .u64 r.un, .int .u8 r.lv] 32)).alloc (.cells #[.int .i64 0, .int .u64 0, .slice none 0 0, .string ⟨#[]⟩, .slice none 0 0] 45) := ⟨_, rfl⟩
 have HB0 : Hid (Below w.heap.size w W) := by rw [hW]; exact below_al (below_al bR _) _
 have HS0 : Hid (W.heap.size = w.heap.size + 2) := by rw [Hid, hW]; simp
 have HX : Hid (∀ w', Below W.heap.size W w' → (w'.cell? ⟨w.heap.size, 0, none⟩ = some (.int .i64 r.k) ∧ w'.cell? ⟨w.heap.size, 1, none⟩ = some (.int .u32 r.n) ∧ w'.cell? ⟨w.heap.size, 2, none⟩ = some (.int .u32 r.m) ∧ w'.cell? ⟨w.heap.size, 3, none⟩ = some (.int .u64 r.t) ∧ w'.cell? ⟨w.heap.size, 4, none⟩ = some (.int .u32 r.q) ∧ w'.cell? ⟨w.heap.size, 5, none⟩ = some (.int .i64 r.wh) ∧ w'.cell? ⟨w.heap.size, 6, none⟩ = some (.int .i64 r.wy) ∧ w'.cell? ⟨w.heap.size, 7, none⟩ = some (.int .u64 r.at0) ∧ w'.cell? ⟨w.heap.size, 8, none⟩ = some (.int .u64 r.no) ∧ w'.cell? ⟨w.heap.size, 9, none⟩ = some (.int .u32 r.nd) ∧ w'.cell? ⟨w.heap.size, 10, none⟩ = some (.int .u32 r.rg) ∧ w'.cell? ⟨w.heap.size, 11, none⟩ = some (.bool r.ys) ∧ w'.cell? ⟨w.heap.size, 12, none⟩ = some (.int .u64 r.fr) ∧ w'.cell? ⟨w.heap.size, 13, none⟩ = some (.int .u64 r.un) ∧ w'.cell? ⟨w.heap.size, 14, none⟩ = some (.int .u8 r.lv)) ∧ ∀ j, w'.cell? ⟨w.heap.size + 1, j, none⟩ = (#[Value.int .i64 0, Value.int .u64 0, Value.slice none 0 0, Value.string ⟨#[]⟩, Value.slice none 0 0] : Array Value)[j]? ∧ w'.frozen? ⟨w.heap.size + 1, j, none⟩ = false) := fun w' h => by
  rw [hW] at h
  have h1 := below_on (below_al (Below.refl _ (w.alloc (.cells #[.int .i64 r.k, .int .u32 r.n, .int .u32 r.m, .int .u64 r.t, .int .u32 r.q, .int .i64 r.wh, .int .i64 r.wy, .int .u64 r.at0, .int .u64 r.no, .int .u32 r.nd, .int .u32 r.rg, .bool r.ys, .int .u64 r.fr, .int .u64 r.un, .int .u8 r.lv] 32))) (.cells #[.int .i64 0, .int .u64 0, .slice none 0 0, .string ⟨#[]⟩, .slice none 0 0] 45)) h
  refine ⟨⟨box_at h1 0, box_at h1 1, box_at h1 2, box_at h1 3, box_at h1 4, box_at h1 5, box_at h1 6, box_at h1 7, box_at h1 8, box_at h1 9, box_at h1 10, box_at h1 11, box_at h1 12, box_at h1 13, box_at h1 14⟩, fun j => ?_⟩
  have q2 := box_at h j
  have f2 := frozen_at h j
  rw [World.size_alloc] at q2 f2
  exact ⟨q2, f2⟩
 have HOk := h_ hok
 have HW := h_ hW
 obtain ⟨⟨x0, x1, x2, x3, x4, x5, x6, x7, x8, x9, x10, x11, x12, x13, x14⟩, _⟩ := HX.out W bR
 rw [HW.out] at x0 x1 x2 x3 x4 x5 x6 x7 x8 x9 x10 x11 x12 x13 x14
 clear hW hok
 have HL : Hid (layR 5 r = itLs [itU (IntKind.u64.wrap r.k), itU r.nd, itU r.rg, itU r.no, boI r.ys]) := rfl
 go_enter Tryz.func73, Tryz.ntmps73
 go_upto_region 1 with fail
 rw [← HW.out]
 clear x0 x1 x2 x3 x4 x5 x6 x7 x8 x9 x10 x11 x12 x13 x14
 have F : Below W.heap.size W W.drew := bR.drew
 refine wp_region_T (fun w' => w'.cell? ⟨w.heap.size, 0, none⟩ = some (.int .i64 r.k) ∧ w'.cell? ⟨w.heap.size, 1, none⟩ = some (.int .u32 r.n) ∧ w'.cell? ⟨w.heap.size, 2, none⟩ = some (.int .u32 r.m) ∧ w'.cell? ⟨w.heap.size, 3, none⟩ = some (.int .u64 r.t) ∧ w'.cell? ⟨w.heap.size, 4, none⟩ = some (.int .u32 r.q) ∧ w'.cell? ⟨w.heap.size, 5, none⟩ = some (.int .i64 r.wh) ∧ w'.cell? ⟨w.heap.size, 6, none⟩ = some (.int .i64 r.wy) ∧ w'.cell? ⟨w.heap.size, 7, none⟩ = some (.int .u64 r.at0) ∧ w'.cell? ⟨w.heap.size, 8, none⟩ = some (.int .u64 r.no) ∧ w'.cell? ⟨w.heap.size, 9, none⟩ = some (.int .u32 r.nd) ∧ w'.cell? ⟨w.heap.size, 10, none⟩ = some (.int .u32 r.rg) ∧ w'.cell? ⟨w.heap.size, 11, none⟩ = some (.bool r.ys) ∧ w'.cell? ⟨w.heap.size, 12, none⟩ = some (.int .u64 r.fr) ∧ w'.cell? ⟨w.heap.size, 13, none⟩ = some (.int .u64 r.un) ∧ w'.cell? ⟨w.heap.size, 14, none⟩ = some (.int .u8 r.lv)) 17 (by kernel_rfl) ?_
 refine wpAnyT_take (i := 0) (v := ?_) rfl (by kernel_rfl) (by kernel_rfl) (by kernel_rfl) (by kernel_rfl) (fun _ _ _ h => h) (Or.inl ⟨by rfl, ?_⟩) (HX.out _ F).1 ?_
 rotate_left
 ·intro w hSw; go_simp; all_goals with_reducible rfl
 simp only [Act.put, zA, zB, zC]
 refine wpAnyT_take (i := 1) (v := ?_) rfl (by kernel_rfl) (by kernel_rfl) (by kernel_rfl) (by kernel_rfl) (fun _ _ _ h => h) (Or.inl ⟨by rfl, ?_⟩) (HX.out _ F).1 ?_
 rotate_left
 ·intro w hSw; go_simp; all_goals with_reducible rfl
 simp only [Act.put, zA, zB, zC]
 refine wpAnyT_take (i := 3) (v := ?_) rfl (by kernel_rfl) (by kernel_rfl) (by kernel_rfl) (by kernel_rfl) (fun _ _ _ h => h) (Or.inl ⟨by rfl, ?_⟩) (HX.out _ F).1 ?_
 rotate_left
 ·intro w hSw; go_simp; all_goals with_reducible rfl
 simp only [Act.put, zA, zB, zC]
 refine wpAnyT_take (i := 4) (v := ?_) rfl (by kernel_rfl) (by kernel_rfl) (by kernel_rfl) (by kernel_rfl) (fun _ _ _ h => h) (Or.inl ⟨by rfl, ?_⟩) (HX.out _ F).1 ?_
 rotate_left
 ·intro w hSw; go_simp; all_goals with_reducible rfl
 simp only [Act.put, zA, zB, zC]
 refine wpAnyT_take (i := 6) (v := ?_) rfl (by kernel_rfl) (by kernel_rfl) (by kernel_rfl) (by kernel_rfl) (fun _ _ _ h => h) (Or.inl ⟨by rfl, ?_⟩) (HX.out _ F).1 ?_
 rotate_left
 ·intro w hSw; go_simp; all_goals with_reducible rfl
 simp only [Act.put, zA, zB, zC]
 refine wpAnyT_take (i := 7) (v := ?_) rfl (by kernel_rfl) (by kernel_rfl) (by kernel_rfl) (by kernel_rfl) (fun _ _ _ h => h) (Or.inl ⟨by rfl, ?_⟩) (HX.out _ F).1 ?_
 rotate_left
 ·intro w hSw; go_simp; all_goals with_reducible rfl
 simp only [Act.put, zA, zB, zC]
 refine wpAnyT_take (i := 9) (v := ?_) rfl (by kernel_rfl) (by kernel_rfl) (by kernel_rfl) (by kernel_rfl) (fun _ _ _ h => h) (Or.inl ⟨by rfl, ?_⟩) (HX.out _ F).1 ?_
 rotate_left
 ·intro w hSw; go_simp; all_goals with_reducible rfl
 simp only [Act.put, zA, zB, zC]
 refine wpAnyT_take (i := 10) (v := ?_) rfl (by kernel_rfl) (by kernel_rfl) (by kernel_rfl) (by kernel_rfl) (fun _ _ _ h => h) (Or.inl ⟨by rfl, ?_⟩) (HX.out _ F).1 ?_
 rotate_left
 ·intro w hSw; go_simp; all_goals with_reducible rfl
 simp only [Act.put, zA, zB, zC]
 refine wpAnyT_take (i := 12) (v := ?_) rfl (by kernel_rfl) (by kernel_rfl) (by kernel_rfl) (by kernel_rfl) (fun _ _ _ h => h) (Or.inl ⟨by rfl, ?_⟩) (HX.out _ F).1 ?_
 rotate_left
 ·intro w hSw; go_simp; all_goals with_reducible rfl
 simp only [Act.put, zA, zB, zC]
 refine wpAnyT_take (i := 13) (v := ?_) rfl (by kernel_rfl) (by kernel_rfl) (by kernel_rfl) (by kernel_rfl) (fun _ _ _ h => h) (Or.inl ⟨by rfl, ?_⟩) (HX.out _ F).1 ?_
 rotate_left
 ·intro w hSw; go_simp; all_goals with_reducible rfl
 simp only [Act.put, zA, zB, zC]
 refine wpAnyT_one (i := 2) (by kernel_rfl) rfl (fun K hK => ?_)
 go_simp
 refine (duint_k r.k _).mono ?_
 rintro e v0 ⟨rfl, hb⟩
 replace F := below_on F hb
 clear hb
 refine hK.out _ _ (fun _ => (HX.out _ F).1) ?_
 clear hK K
 try simp only [Act.put, zA, zB, zC]
 refine wpAnyT_one (i := 5) (by kernel_rfl) rfl (fun K hK => ?_)
 go_simp
 refine (duint_32 r.nd HOk.out.nd _).mono ?_
 rintro e v1 ⟨rfl, hb⟩
 replace F := below_on F hb
 clear hb
 refine hK.out _ _ (fun _ => (HX.out _ F).1) ?_
 clear hK K
 try simp only [Act.put, zA, zB, zC]
 refine wpAnyT_one (i := 8) (by kernel_rfl) rfl (fun K hK => ?_)
 go_simp
 refine (duint_32 r.rg HOk.out.rg _).mono ?_
 rintro e v2 ⟨rfl, hb⟩
 replace F := below_on F hb
 clear hb
 refine hK.out _ _ (fun _ => (HX.out _ F).1) ?_
 clear hK K
 try simp only [Act.put, zA, zB, zC]
 refine wpAnyT_one (i := 11) (by kernel_rfl) rfl (fun K hK => ?_)
 go_simp
 refine (duint_64 r.no _).mono ?_
 rintro e v3 ⟨rfl, hb⟩
 replace F := below_on F hb
 clear hb
 refine hK.out _ _ (fun _ => (HX.out _ F).1) ?_
 clear hK K
 try simp only [Act.put, zA, zB, zC]
 refine wpAnyT_one (i := 14) (by kernel_rfl) rfl (fun K hK => ?_)
 go_simp
 refine (dbool_any r.ys _).mono ?_
 rintro e v4 ⟨rfl, hb⟩
 replace F := below_on F hb
 clear hb
 refine hK.out _ _ (fun _ => (HX.out _ F).1) ?_
 clear hK K
 try simp only [Act.put, zA, zB, zC]
 refine wpAnyT_one (i := 15) (by kernel_rfl) rfl (fun K hK => ?_)
 go_simp
 obtain ⟨vc, hvc⟩ : ∃ V, V = v4.alloc (.cells #[.int .i64 1, .int .u64 (IntKind.u64.wrap r.k), .slice none 0 0, .string ⟨#[]⟩, .slice none 0 0, .int .i64 1, .int .u64 r.nd, .slice none 0 0, .string ⟨#[]⟩, .slice none 0 0, .int .i64 1, .int .u64 r.rg, .slice none 0 0, .string ⟨#[]⟩, .slice none 0 0, .int .i64 1, .int .u64 r.no, .slice none 0 0, .string ⟨#[]⟩, .slice none 0 0, .int .i64 5, .int .u64 (boN r.ys), .slice none 0 0, .string ⟨#[]⟩, .slice none 0 0] 45) := ⟨_, rfl⟩
 have hb : Below v4.heap.size v4 vc := by rw [hvc]; exact below_al bR _
 have G1 : W.heap.size ≤ v4.heap.size := F.size
 replace F := below_on F hb
 have hcel : ∀ (j : Nat) (u : Value), [.int .i64 1, .int .u64 (IntKind.u64.wrap r.k), .slice none 0 0, .string ⟨#[]⟩, .slice none 0 0, .int .i64 1, .int .u64 r.nd, .slice none 0 0, .string ⟨#[]⟩, .slice none 0 0, .int .i64 1, .int .u64 r.rg, .slice none 0 0, .string ⟨#[]⟩, .slice none 0 0, .int .i64 1, .int .u64 r.no, .slice none 0 0, .string ⟨#[]⟩, .slice none 0 0, .int .i64 5, .int .u64 (boN r.ys), .slice none 0 0, .string ⟨#[]⟩, .slice none 0 0][j]? = some u → vc.cell? ⟨v4.heap.size, 0 + j, none⟩ = some u := fun j u hu => by
  rw [hvc, Nat.zero_add, World.cell?_alloc_mark]
  simpa using hu
 have hSg : newB W vc v4.heap.size := ⟨G1, by rw [hvc]; simp⟩
 have hli : LI vc (newB W vc) [.int .i64 1, .int .u64 (IntKind.u64.wrap r.k), .slice none 0 0, .string ⟨#[]⟩, .slice none 0 0, .int .i64 1, .int .u64 r.nd, .slice none 0 0, .string ⟨#[]⟩, .slice none 0 0, .int .i64 1, .int .u64 r.rg, .slice none 0 0, .string ⟨#[]⟩, .slice none 0 0, .int .i64 1, .int .u64 r.no, .slice none 0 0, .string ⟨#[]⟩, .slice none 0 0, .int .i64 5, .int .u64 (boN r.ys), .slice none 0 0, .string ⟨#[]⟩, .slice none 0 0] [itU (IntKind.u64.wrap r.k), itU r.nd, itU r.rg, itU r.no, boI r.ys] := (dliCons (itS_uint _ _ _ (u64_wrap r.k)) (dliCons (itS_uint _ _ (r.nd : Int) ⟨by omega, by have := HOk.out.nd; omega⟩) (dliCons (itS_uint _ _ (r.rg : Int) ⟨by omega, by have := HOk.out.rg; omega⟩) (dliCons (itS_uint _ _ (r.no : Int) ⟨by omega, by have := HOk.out.no; omega⟩) (LI.one (itS_bo _ _ r.ys))))))
 have HIt : Hid (ItS vc (newB W vc) (listV (some ⟨v4.heap.size, 0, none⟩) 5 5) (itLs [itU (IntKind.u64.wrap r.k), itU r.nd, itU r.rg, itU r.no, boI r.ys])) := itS_list rfl (Nat.le_refl _) (by decide) hSg (LI.itSL hli hcel)
 rw [← hvc]
 clear hvc hb hcel hSg hli G1
 refine hK.out _ _ (fun _ => (HX.out _ F).1) ?_
 clear hK K
 try simp only [Act.put, zA, zB, zC]
 refine wpAnyT_one (i := 16) (by kernel_rfl) rfl (fun K hK => ?_)
 go_simp
 refine (dlist_any _ _ _ _).mono ?_
 rintro e wL ⟨rfl, hb⟩
 have HIL := h_ (HIt.out.new_on hb)
 replace F := below_on F hb
 clear hb
 obtain ⟨_, hbx⟩ := HX.out wL F
 obtain ⟨d0, f0⟩ := hbx 0
 obtain ⟨d1, f1⟩ := hbx 1
 obtain ⟨d2, f2⟩ := hbx 2
 obtain ⟨d3, f3⟩ := hbx 3
 obtain ⟨d4, f4⟩ := hbx 4
 clear hbx
 refine hK.out _ _ (fun _ => (HX.out _ F).1) ?_
 clear hK K
 try simp only [Act.put, zA, zB, zC]
 refine wpAnyT_one (i := 17) (by kernel_rfl) rfl (fun K hK => ?_)
 go_simp
 refine hK.out _ _ (fun h => absurd h (by decide)) ?_
 clear hK K
 try simp only [Act.put, zA, zB, zC]
 refine wpAnyT_done (by kernel_rfl) ?_ _
 have HF0 := h_ F
 clear F
 have HFin : Hid ((put5 wL (w.heap.size + 1) (.int .i64 4) (.int .u64 0) (.slice none 0 0) (.string ⟨#[]⟩) (.slice (some ⟨v4.heap.size, 0, none⟩) 5 5)).cell? ⟨w.heap.size + 1, 0, none⟩ = some (.int .i64 4) ∧ True) := ⟨(put5_cells d0 d1 d2 d3 d4 (.int .i64 4) (.int .u64 0) (.slice none 0 0) (.string ⟨#[]⟩) (.slice (some ⟨v4.heap.size, 0, none⟩) 5 5)).1, trivial⟩
 have hq := put5_cells d0 d1 d2 d3 d4 (.int .i64 4) (.int .u64 0) (.slice none 0 0) (.string ⟨#[]⟩) (.slice (some ⟨v4.heap.size, 0, none⟩) 5 5)
 have hbel := put5_bel (b := w.heap.size + 1) (HB0.out.trans (HF0.out.mono HB0.out.size)) (by omega) (.int .i64 4) (.int .u64 0) (.slice none 0 0) (.string ⟨#[]⟩) (.slice (some ⟨v4.heap.size, 0, none⟩) 5 5)
 have hit := put5_S HIL.out (b := w.heap.size + 1) (by have := HS0.out; omega) (.int .i64 4) (.int .u64 0) (.slice none 0 0) (.string ⟨#[]⟩) (.slice (some ⟨v4.heap.size, 0, none⟩) 5 5)
 have HF := h_ (⟨hq, hbel, hit⟩ : _ ∧ _ ∧ _)
 clear hq hbel hit d0 d1 d2 d3 d4 f0 f1 f2 f3 f4 HFin
 unfold put5 at HF
 go_wp2_with fail
 obtain ⟨⟨q0, q1, q2, q3, q4⟩, hbel, hit⟩ := HF.out
 refine bodyPost_ret (v := .agg #[.int .i64 4, .int .u64 0, .slice none 0 0, .string ⟨#[]⟩, .slice (some ⟨v4.heap.size, 0, none⟩) 5 5]) (by simp [results, Tryz.results73, go_sem, q0, q1, q2, q3, q4]) rfl ⟨hbel, none, 0, some ⟨v4.heap.size, 0, none⟩, 5, ?_, ?_⟩
 ·rw [HL.out]
  rfl
 ·rw [HL.out]
  exact ItS.more (fun j hj => ⟨by have := hj.1; have := HS0.out; omega, hj.2⟩) _ hit

end Go.Proofs.YteldifnkeekafaaGreatDoor

