/- The document's NameOf. -/
import Derived.Test.YteldifnkeekafaaGreatDoorZNz
import Derived.Test.YteldifnkeekafaaGreatDoorZNmRn
set_option maxHeartbeats 16000000
set_option linter.unusedSimpArgs false
set_option linter.unusedVariables false
set_option maxRecDepth 100000
namespace Go.Proofs.YteldifnkeekafaaGreatDoor
open Go Go.RowKit Go.Shelf

def RnP (w : World) (x : It) (e : Ending) (w' : World) : Prop := Below w.heap.size w w' ∧ ∃ (n m t q : Nat) (b : Bool), e = .returned (.tuple #[.agg #[.int .u32 n, .int .u32 m, .int .u64 t, .int .u32 q], .bool b]) ∧ (b = true ∧ nmI x = some (n, m, t, q) ∨ b = false ∧ nmI x = none ∧ n = 0 ∧ m = 0 ∧ t = 0 ∧ q = 0)

theorem itE_k (n m : Nat) : (itE n m).k = 4 := by
 unfold itE
 split <;> rfl

theorem nmI_none {x : It} (hx : x.nn 3) (h : ∀ n m t q : Nat, 0 < n → n ≤ 4294967295 → m ≤ 4294967295 → t ≤ forever → q ≤ 4294967295 → x ≠ itLs [itE n m, itU t, itU q]) : nmI x = none := by
 cases he : nmI x with
 | none => rfl
 | some p =>
  obtain ⟨n, m, t, q⟩ := p
  obtain ⟨h1, h2, h3, h4, h5, h6⟩ := nmI_some hx he
  exact absurd h1 (h n m t q h2 h3 h4 h5 h6)

theorem rdK_three (w : World) (t : TypeId) (a b c : Int) (w' : World) (h : Below (w.alloc (.cells #[.int .i64 a, .int .i64 b, .int .i64 c] t)).heap.size (w.alloc (.cells #[.int .i64 a, .int .i64 b, .int .i64 c] t)) w') : NkK w' w.heap.size [a, b, c] := by
 have h1 : NkK (w.alloc (.cells #[.int .i64 a, .int .i64 b, .int .i64 c] t)) w.heap.size [a, b, c] := ⟨by simp, fun j hj => by
  have : j = 0 ∨ j = 1 ∨ j = 2 := by simp at hj; omega
  rcases this with rfl | rfl | rfl <;> simp⟩
 exact h1.on h

theorem refNOf_any (x : It) (v : Value) (w : World) (hv : ItV w w.heap.size v x) : Calls Tryz.prog 29 #[v] w (RnP w x) := by
 have ef : forever = 4611686018427387903 := rfl
 have hnn := hv.nn 3
 obtain ⟨a, c, A, C, rfl⟩ := hv.form
 obtain ⟨W, hW⟩ : ∃ W, W = (w.alloc (.cells #[.int .i64 x.k, .int .u64 x.n, .slice a x.b.length c, .string ⟨x.s.toArray⟩, .slice A x.l.length C] 45)).alloc (.cells #[.int .u32 0, .int .u32 0, .int .u64 0, .int .u32 0] 30) := ⟨_, rfl⟩
 have HB : Hid (Below w.heap.size w W) := by rw [hW]; exact below_al (below_al bR _) _
 have hsW : W.heap.size ≤ w.heap.size + 2 ∧ w.heap.size + 2 ≤ W.heap.size := by rw [hW]; simp
 have HX : Hid (∀ w', Below W.heap.size W w' → (w'.cell? ⟨w.heap.size, 0, none⟩ = some (.int .i64 x.k) ∧ w'.cell? ⟨w.heap.size, 1, none⟩ = some (.int .u64 x.n) ∧ w'.cell? ⟨w.heap.size, 2, none⟩ = some (.slice a x.b.length c) ∧ w'.cell? ⟨w.heap.size, 3, none⟩ = some (.string ⟨x.s.toArray⟩) ∧ w'.cell? ⟨w.heap.size, 4, none⟩ = some (.slice A x.l.length C))) := fun w' h => by
  have e : ∀ i, W.cell? ⟨w.heap.size, i, none⟩ = (#[.int .i64 x.k, .int .u64 x.n, .slice a x.b.length c, .string ⟨x.s.toArray⟩, .slice A x.l.length C])[i]? := fun i => by
   rw [hW]
   exact ((below_al (Below.refl (w.alloc (.cells #[.int .i64 x.k, .int .u64 x.n, .slice a x.b.length c, .string ⟨x.s.toArray⟩, .slice A x.l.length C] 45)).heap.size (w.alloc (.cells #[.int .i64 x.k, .int .u64 x.n, .slice a x.b.length c, .string ⟨x.s.toArray⟩, .slice A x.l.length C] 45))) _).cell (p := ⟨w.heap.size, i, none⟩) (by simp)).trans (World.cell?_alloc_mark _ _ _ _ _)
  have hh := fun i => (h.cell (p := ⟨w.heap.size, i, none⟩) (show w.heap.size < W.heap.size by omega)).trans (e i)
  exact ⟨hh 0, hh 1, hh 2, hh 3, hh 4⟩
 have HR : Hid (∀ w', Below W.heap.size W w' → (w'.cell? ⟨w.heap.size + 1, 0, none⟩ = some (.int .u32 0) ∧ w'.cell? ⟨w.heap.size + 1, 1, none⟩ = some (.int .u32 0) ∧ w'.cell? ⟨w.heap.size + 1, 2, none⟩ = some (.int .u64 0) ∧ w'.cell? ⟨w.heap.size + 1, 3, none⟩ = some (.int .u32 0)) ∧ ∀ i, w'.frozen? ⟨w.heap.size + 1, i, none⟩ = false) := fun w' h => by
  have hh := fun i => (h.cell (p := ⟨w.heap.size + 1, i, none⟩) (show w.heap.size + 1 < W.heap.size by omega)).trans (by rw [hW, ← World.size_alloc w (.cells #[.int .i64 x.k, .int .u64 x.n, .slice a x.b.length c, .string ⟨x.s.toArray⟩, .slice A x.l.length C] 45), World.cell?_alloc_mark] : W.cell? ⟨w.heap.size + 1, i, none⟩ = (#[Value.int .u32 0, .int .u32 0, .int .u64 0, .int .u32 0])[i]?)
  refine ⟨⟨hh 0, hh 1, hh 2, hh 3⟩, fun i => (h.frozen (p := ⟨w.heap.size + 1, i, none⟩) (show w.heap.size + 1 < W.heap.size by omega)).trans ?_⟩
  rw [hW, ← World.size_alloc w (.cells #[.int .i64 x.k, .int .u64 x.n, .slice a x.b.length c, .string ⟨x.s.toArray⟩, .slice A x.l.length C] 45)]
  exact World.frozen?_alloc_new _ _ _ _
 have HW := h_ hW
 have HV := h_ hv
 have HN := h_ hnn
 clear hW hv hnn
 have HBW : Hid (∀ w', Below W.heap.size W w' → Below w.heap.size w w') := fun w' h => HB.out.trans (h.mono HB.out.size)
 have HFAIL : Hid (∀ (w2 : World), Below W.heap.size W w2 → nmI x = none → RnP w x (.returned (.tuple #[.agg #[.int .u32 0, .int .u32 0, .int .u64 0, .int .u32 0], .bool false])) ((((w2.setCell ⟨w.heap.size + 1, 0, none⟩ (.int .u32 0)).setCell ⟨w.heap.size + 1, 1, none⟩ (.int .u32 0)).setCell ⟨w.heap.size + 1, 2, none⟩ (.int .u64 0)).setCell ⟨w.heap.size + 1, 3, none⟩ (.int .u32 0))) := fun w2 h he =>
  ⟨((((HBW.out _ h).setCell (p := ⟨w.heap.size + 1, 0, none⟩) (Nat.le_succ _) _).setCell (p := ⟨w.heap.size + 1, 1, none⟩) (Nat.le_succ _) _).setCell (p := ⟨w.heap.size + 1, 2, none⟩) (Nat.le_succ _) _).setCell (p := ⟨w.heap.size + 1, 3, none⟩) (Nat.le_succ _) _, 0, 0, 0, 0, false, rfl, .inr ⟨rfl, he, rfl, rfl, rfl, rfl⟩⟩
 obtain ⟨x0, x1, x2, x3, x4⟩ := HX.out W bR
 obtain ⟨sh1, hsh1⟩ : ∃ q, q = shapeB x [4, 1, 1] := ⟨_, rfl⟩
 have HSH1 := h_ hsh1
 clear hsh1
 go_enter Tryz.func29, Tryz.ntmps29
 go_wp2_with fail
 rw [← HW.out]
 obtain ⟨W3, hW3⟩ : ∃ W', W' = W.alloc (.cells #[.int .i64 4, .int .i64 1, .int .i64 1] 3) := ⟨_, rfl⟩
 have HF3 : Hid (Below W.heap.size W W3) := by rw [hW3]; exact below_al bR _
 have HRK : Hid (NkK W3 W.heap.size [4, 1, 1]) := by rw [hW3]; exact rdK_three W _ 4 1 1 _ bR
 rw [← hW3]
 have es : w.heap.size + 1 + 1 = W.heap.size := by omega
 rw [es]
 clear hW3 x0 x1 x2 x3 x4 es
 refine (shape_ref x _ W.heap.size 3 3 [4, 1, 1] rfl (by decide) W3 (HV.out.on (HBW.out _ HF3.out)) HRK.out).mono ?_
 rintro e w4 ⟨rfl, hb⟩
 rw [← HSH1.out]
 have HF4 : Hid (Below W.heap.size W w4) := below_on HF3.out hb
 clear hb
 cases sh1
 ·obtain ⟨⟨r0, r1, r2, r3⟩, rf⟩ := HR.out w4 HF4.out
  have f0 := rf 0
  have f1 := rf 1
  have f2 := rf 2
  have f3 := rf 3
  go_wp2_with fail
  obtain ⟨s0, s1, s2, s3⟩ := put4 (.int .u32 0) (.int .u32 0) (.int .u64 0) (.int .u32 0) r0 r1 r2 r3
  refine bodyPost_ret (v := .tuple #[.agg #[.int .u32 0, .int .u32 0, .int .u64 0, .int .u32 0], .bool false]) (by simp [results, Tryz.results29, go_sem, s0, s1, s2, s3]) rfl (HFAIL.out w4 HF4.out ?_)
  refine nmI_none HN.out fun n m t q h1 h2 h3 h4 h5 he => ?_
  have h6 := HSH1.out
  have h7 : shapeB (itLs [itE n m, itU t, itU q]) [4, 1, 1] = true := shapeB_iff.2 ⟨rfl, by show [(itE n m).k, (itU (t : Int)).k, (itU (q : Int)).k] = _; rw [itE_k]; rfl⟩
  rw [he, h7] at h6
  cases h6
 have hsx := (shapeB_iff.1 HSH1.out.symm).2
 obtain ⟨y0, y1, y2, hxl⟩ : ∃ y0 y1 y2, x.l = [y0, y1, y2] := by
  have h2 : x.l.length = 3 := by have := congrArg List.length hsx; simpa using this
  match hl : x.l, h2 with
  | [y0, y1, y2], _ => exact ⟨y0, y1, y2, rfl⟩
 have HXL := h_ hxl
 clear hsx
 have HKEY : Hid ((∀ n' m' t' q' : Nat, 0 < n' → n' ≤ 4294967295 → m' ≤ 4294967295 → t' ≤ forever → q' ≤ 4294967295 → x = itN n' m' t' q' → y0 = itE n' m' → y1 = itU t' → y2 = itU q' → False) → nmI x = none) := fun h => nmI_none HN.out fun n' m' t' q' h1 h2 h3 h4 h5 he => by
  have h6 := HXL.out
  rw [he] at h6
  simp only [itLs, It.l, List.cons.injEq, and_true] at h6
  exact h n' m' t' q' h1 h2 h3 h4 h5 he h6.1.symm h6.2.1.symm h6.2.2.symm
 obtain ⟨g, o, a0, c0, A0, C0, a1, c1, A1, C1, a2, c2, A2, C2, rfl, htr⟩ := HV.out.triple hxl
 have HPR := h_ htr
 have hlen : x.l.length = 3 := by rw [hxl]; rfl
 have hm1 : 0 ≤ y1.n := It.nn_n (HN.out.2 y1 (by rw [hxl]; simp))
 have hm2 : 0 ≤ y2.n := It.nn_n (HN.out.2 y2 (by rw [hxl]; simp))
 have HN0 : Hid (y0.nn 2) := HN.out.2 y0 (by rw [hxl]; simp)
 have hu1 := (HPR.out w bR).1.2.1.u64
 have hu2 := (HPR.out w bR).1.2.2.u64
 obtain ⟨t, hzt⟩ := Int.eq_ofNat_of_zero_le hm1
 obtain ⟨z, hzz⟩ := Int.eq_ofNat_of_zero_le hm2
 have HZT := h_ hzt
 have HZZ := h_ hzz
 have HTL : Hid (t < 18446744073709551616 ∧ z < 18446744073709551616) := by have := hu1.2; have := hu2.2; simp only [Hid]; omega
 have HS5 : Hid (∀ w', Below w.heap.size w w' → Below W.heap.size W w' → w'.cell? ⟨w.heap.size, 4, none⟩ = some (.slice (some ⟨g, o, none⟩) 3 C) ∧ (w'.cell? ⟨g, o + 5 + 1, none⟩ = some (.int .u64 t) ∧ w'.cell? ⟨g, o + 10 + 1, none⟩ = some (.int .u64 z))) := fun w' h1 h2 => by
  have b1 := (HX.out w' h2).2.2.2.2
  rw [hlen] at b1
  have b3 := (HPR.out w' h1).2.2.1.2.1
  have b4 := (HPR.out w' h1).2.2.2.2.1
  rw [hzt] at b3
  rw [hzz] at b4
  exact ⟨b1, b3, b4⟩
 obtain ⟨-, -, -, -, x4⟩ := HX.out w4 HF4.out
 rw [hlen] at x4
 obtain ⟨-, ⟨d0, d1, d2, d3, d4⟩, -⟩ := HPR.out w4 (HBW.out _ HF4.out)
 clear hlen hxl htr hm1 hm2 hu1 hu2 hzt hzz
 go_wp2_with fail
 refine (nmRefOf_any y0 _ w4 (ItV.mono (HBW.out _ HF4.out).size _ (HPR.out w4 (HBW.out _ HF4.out)).1.1)).mono ?_
 rintro e w5 ⟨hb, n, m, b1, rfl, hof⟩
 obtain ⟨W5, hW5⟩ : ∃ W', W' = w5.alloc (.cells #[.int .u32 n, .int .u32 m] 27) := ⟨_, rfl⟩
 have HF5 : Hid (Below W.heap.size W W5) := by rw [hW5]; exact below_al (below_on HF4.out hb) _
 have HE5 : Hid (∀ w', Below W5.heap.size W5 w' → w'.cell? ⟨w5.heap.size, 0, none⟩ = some (.int .u32 n) ∧ w'.cell? ⟨w5.heap.size, 1, none⟩ = some (.int .u32 m)) := by
  rw [hW5]
  exact fun w' h => box2_all h
 have HOF := h_ hof
 have HW5 := h_ hW5
 clear hb hof hW5 x4 d0 d1 d2 d3 d4
 obtain ⟨q, hq⟩ : ∃ q, q = z % 4294967296 := ⟨_, rfl⟩
 have hq1 : (z : Int) % 4294967296 = (q : Int) := by omega
 have hq2 : (z : Int).tmod 4294967296 = (q : Int) := by rw [Int.tmod_eq_emod_of_nonneg (by omega)]; omega
 have hq3 : q ≤ 4294967295 := by omega
 have hwq : IntKind.u32.wrap (q : Int) = (q : Int) := by rw [IntKind.wrap_u32]; omega
 have hwq6 : IntKind.u64.wrap (q : Int) = (q : Int) := by rw [IntKind.wrap_u64]; omega
 have HQZ := h_ hq
 have HQ3 := h_ hq3
 clear hq hq3
 have HC5 : Hid (∀ w', Below W5.heap.size W5 w' → (w'.cell? ⟨w.heap.size, 4, none⟩ = some (.slice (some ⟨g, o, none⟩) 3 C) ∧ (w'.cell? ⟨g, o + 5 + 1, none⟩ = some (.int .u64 t) ∧ w'.cell? ⟨g, o + 10 + 1, none⟩ = some (.int .u64 z))) ∧ (w'.cell? ⟨w5.heap.size, 0, none⟩ = some (.int .u32 n) ∧ w'.cell? ⟨w5.heap.size, 1, none⟩ = some (.int .u32 m))) := fun w' h => ⟨HS5.out w' (HBW.out _ (below_on HF5.out h)) (below_on HF5.out h), HE5.out w' h⟩
 go_wp2_with fail
 rw [← HW5.out]
 go_region_held3 (fun w' => (w'.cell? ⟨w.heap.size, 4, none⟩ = some (.slice (some ⟨g, o, none⟩) 3 C) ∧ (w'.cell? ⟨g, o + 5 + 1, none⟩ = some (.int .u64 t) ∧ w'.cell? ⟨g, o + 10 + 1, none⟩ = some (.int .u64 z))) ∧ (w'.cell? ⟨w5.heap.size, 0, none⟩ = some (.int .u32 n) ∧ w'.cell? ⟨w5.heap.size, 1, none⟩ = some (.int .u32 m)))
  (first | (refine HC5.out _ ?_; repeat (first | with_reducible exact Below.refl _ _ | refine Below.drew ?_ | refine below_al ?_ _ | refine Below.setCell ?_ (Nat.le_refl _) _)))
  (first | fail)
 rename_i hHeld
 clear hHeld
 have HF6 : Hid (Below W.heap.size W (W5.alloc (.cells #[.int .u32 n, .int .u32 m, .int .u64 t, .int .u32 q] 30)).drew) := (below_al HF5.out _).drew
 have HY6 : Hid (∀ w', Below (W5.alloc (.cells #[.int .u32 n, .int .u32 m, .int .u64 t, .int .u32 q] 30)).drew.heap.size (W5.alloc (.cells #[.int .u32 n, .int .u32 m, .int .u64 t, .int .u32 q] 30)).drew w' → w'.cell? ⟨W5.heap.size, 0, none⟩ = some (.int .u32 n) ∧ w'.cell? ⟨W5.heap.size, 1, none⟩ = some (.int .u32 m) ∧ w'.cell? ⟨W5.heap.size, 2, none⟩ = some (.int .u64 t) ∧ w'.cell? ⟨W5.heap.size, 3, none⟩ = some (.int .u32 q)) := fun w' h => by
  have hh : ∀ i, w'.cell? ⟨W5.heap.size, i, none⟩ = _ := fun i => h.cell (p := ⟨W5.heap.size, i, none⟩) (by simp)
  exact ⟨(hh 0).trans (by simp), (hh 1).trans (by simp), (hh 2).trans (by simp), (hh 3).trans (by simp)⟩
 generalize (W5.alloc (.cells #[.int .u32 n, .int .u32 m, .int .u64 t, .int .u32 q] 30)).drew = W6 at *
 have HC6 : Hid (∀ w', Below W6.heap.size W6 w' → (w'.cell? ⟨w.heap.size, 0, none⟩ = some (.int .i64 x.k) ∧ w'.cell? ⟨w.heap.size, 1, none⟩ = some (.int .u64 x.n) ∧ w'.cell? ⟨w.heap.size, 2, none⟩ = some (.slice a x.b.length c) ∧ w'.cell? ⟨w.heap.size, 3, none⟩ = some (.string ⟨x.s.toArray⟩) ∧ w'.cell? ⟨w.heap.size, 4, none⟩ = some (.slice (some ⟨g, o, none⟩) x.l.length C)) ∧ (w'.cell? ⟨W5.heap.size, 0, none⟩ = some (.int .u32 n) ∧ w'.cell? ⟨W5.heap.size, 1, none⟩ = some (.int .u32 m) ∧ w'.cell? ⟨W5.heap.size, 2, none⟩ = some (.int .u64 t) ∧ w'.cell? ⟨W5.heap.size, 3, none⟩ = some (.int .u32 q))) := fun w' h => ⟨HX.out w' (below_on HF6.out h), HY6.out w' h⟩
 have F0 : Below W6.heap.size W6 W6.drew := bR.drew
 clear hq1 hq2 hwq hwq6
 cases b1
 ·have HNO : Hid (nmI x = none) := HKEY.out fun n' m' t' q' h1 h2 h3 h4 h5 he e0 e1 e2 => by
    rcases HOF.out with ⟨hb, _⟩ | ⟨_, hb, _⟩
    ·cases hb
    ·rw [e0, epI_itE n' m' (.inl h1) h2 h3] at hb
     cases hb
  go_wp2_with fail
  refine wp_region_held_drew (S := fun w' => (w'.cell? ⟨w.heap.size, 0, none⟩ = some (.int .i64 x.k) ∧ w'.cell? ⟨w.heap.size, 1, none⟩ = some (.int .u64 x.n) ∧ w'.cell? ⟨w.heap.size, 2, none⟩ = some (.slice a x.b.length c) ∧ w'.cell? ⟨w.heap.size, 3, none⟩ = some (.string ⟨x.s.toArray⟩) ∧ w'.cell? ⟨w.heap.size, 4, none⟩ = some (.slice (some ⟨g, o, none⟩) x.l.length C)) ∧ (w'.cell? ⟨W5.heap.size, 0, none⟩ = some (.int .u32 n) ∧ w'.cell? ⟨W5.heap.size, 1, none⟩ = some (.int .u32 m) ∧ w'.cell? ⟨W5.heap.size, 2, none⟩ = some (.int .u64 t) ∧ w'.cell? ⟨W5.heap.size, 3, none⟩ = some (.int .u32 q))) (by kernel_rfl) (HC6.out _ F0) (fun hHeld => ?_)
  refine nk_take_listed (i := 0) (v := ?_) rfl (by kernel_rfl) (by kernel_rfl) (by kernel_rfl) (fun _ _ _ h => h) (Or.inl ⟨by rfl, ?_⟩) (by assumption) ?_
  rotate_left
  ·intro w hSw; go_simp; all_goals with_reducible rfl
  simp only [Act.put, zA, zB, zC]
  refine nk_take_listed (i := 1) (v := ?_) rfl (by kernel_rfl) (by kernel_rfl) (by kernel_rfl) (fun _ _ _ h => h) (Or.inl ⟨by rfl, ?_⟩) (by assumption) ?_
  rotate_left
  ·intro w hSw; go_simp; all_goals with_reducible rfl
  simp only [Act.put, zA, zB, zC]
  refine nk_take_listed (i := 2) (v := ?_) rfl (by kernel_rfl) (by kernel_rfl) (by kernel_rfl) (fun _ _ _ h => h) (Or.inl ⟨by rfl, ?_⟩) (by assumption) ?_
  rotate_left
  ·intro w hSw; go_simp; all_goals with_reducible rfl
  simp only [Act.put, zA, zB, zC]
  refine nk_take_listed (i := 3) (v := undef) rfl (by kernel_rfl) (by kernel_rfl) (by kernel_rfl) (fun _ _ _ h => h) (Or.inr ⟨by rfl, rfl⟩) (by assumption) ?_
  simp only [Act.put, zA, zB, zC]
  refine wpAnyH_ready (rs := [4]) (by kernel_rfl) (by simp) (.cons rfl (fun K hK => ?_) .nil)
  go_simp
  refine hK.out _ _ (HC6.out _ F0) (fun hHeld => ?_)
  clear hK K
  try simp only [Act.put, zA, zB, zC]
  refine nk_take_listed (i := 5) (v := undef) rfl (by kernel_rfl) (by kernel_rfl) (by kernel_rfl) (fun _ _ _ h => h) (Or.inr ⟨by rfl, rfl⟩) (by assumption) ?_
  simp only [Act.put, zA, zB, zC]
  refine nk_take_listed (i := 6) (v := ?_) rfl (by kernel_rfl) (by kernel_rfl) (by kernel_rfl) (fun _ _ _ h => h) (Or.inl ⟨by rfl, ?_⟩) (by assumption) ?_
  rotate_left
  ·intro w hSw; go_simp; all_goals with_reducible rfl
  simp only [Act.put, zA, zB, zC]
  refine nk_take_listed (i := 7) (v := ?_) rfl (by kernel_rfl) (by kernel_rfl) (by kernel_rfl) (fun _ _ _ h => h) (Or.inl ⟨by rfl, ?_⟩) (by assumption) ?_
  rotate_left
  ·intro w hSw; go_simp; all_goals with_reducible rfl
  simp only [Act.put, zA, zB, zC]
  refine nk_take_listed (i := 8) (v := undef) rfl (by kernel_rfl) (by kernel_rfl) (by kernel_rfl) (fun _ _ _ h => h) (Or.inr ⟨by rfl, rfl⟩) (by assumption) ?_
  simp only [Act.put, zA, zB, zC]
  refine nk_take_listed (i := 9) (v := undef) rfl (by kernel_rfl) (by kernel_rfl) (by kernel_rfl) (fun _ _ _ h => h) (Or.inr ⟨by rfl, rfl⟩) (by assumption) ?_
  simp only [Act.put, zA, zB, zC]
  refine wpAnyH_ready (rs := [10]) (by kernel_rfl) (by simp) (.cons rfl (fun K hK => ?_) .nil)
  go_simp
  refine hK.out _ _ (HC6.out _ F0) (fun hHeld => ?_)
  clear hK K
  try simp only [Act.put, zA, zB, zC]
  refine wpAnyH_ready (rs := [11]) (by kernel_rfl) (by simp) (.cons rfl (fun K hK => ?_) .nil)
  go_simp
  refine hK.out _ _ (HC6.out _ F0) (fun hHeld => ?_)
  clear hK K
  try simp only [Act.put, zA, zB, zC]
  refine nk_take_listed (i := 12) (v := undef) rfl (by kernel_rfl) (by kernel_rfl) (by kernel_rfl) (fun _ _ _ h => h) (Or.inr ⟨by rfl, rfl⟩) (by assumption) ?_
  simp only [Act.put, zA, zB, zC]
  refine nk_take_listed (i := 13) (v := ?_) rfl (by kernel_rfl) (by kernel_rfl) (by kernel_rfl) (fun _ _ _ h => h) (Or.inl ⟨by rfl, ?_⟩) (by assumption) ?_
  rotate_left
  ·intro w hSw; go_simp; all_goals with_reducible rfl
  simp only [Act.put, zA, zB, zC]
  refine wpAnyH_done (by kernel_rfl) ?_ _
  have HFF := h_ (below_on HF6.out F0)
  clear F0 hHeld
  generalize W6.drew = w6 at *
  obtain ⟨⟨r0, r1, r2, r3⟩, rf⟩ := HR.out w6 HFF.out
  have f0 := rf 0
  have f1 := rf 1
  have f2 := rf 2
  have f3 := rf 3
  go_wp2_with fail
  obtain ⟨s0, s1, s2, s3⟩ := put4 (.int .u32 0) (.int .u32 0) (.int .u64 0) (.int .u32 0) r0 r1 r2 r3
  refine bodyPost_ret (v := .tuple #[.agg #[.int .u32 0, .int .u32 0, .int .u64 0, .int .u32 0], .bool false]) (by simp [results, Tryz.results29, go_sem, s0, s1, s2, s3]) rfl (HFAIL.out w6 HFF.out HNO.out)
 have hep : epI y0 = some (n, m) := by
  rcases HOF.out with ⟨_, hb⟩ | ⟨hb, _⟩
  ·exact hb
  ·cases hb
 have HEP := h_ (epI_some HN0.out hep)
 have HEPI := h_ hep
 clear hep
 have HRN := h_ (refRightName_any ⟨n, m, t, q⟩)
 have HIN := h_ (fun h => refNItem_any n m t q h HEP.out.2.2.1 HEP.out.2.2.2 HTL.out.1 HQ3.out)
 obtain ⟨rn, hrn⟩ : ∃ r, r = NmT.may ⟨n, m, t, q⟩ := ⟨_, rfl⟩
 have HRNe := h_ hrn
 rw [← hrn] at HRN
 simp only at HRN
 clear hrn
 go_wp2_with fail
 refine wp_region_held_drew (S := fun w' => (w'.cell? ⟨w.heap.size, 0, none⟩ = some (.int .i64 x.k) ∧ w'.cell? ⟨w.heap.size, 1, none⟩ = some (.int .u64 x.n) ∧ w'.cell? ⟨w.heap.size, 2, none⟩ = some (.slice a x.b.length c) ∧ w'.cell? ⟨w.heap.size, 3, none⟩ = some (.string ⟨x.s.toArray⟩) ∧ w'.cell? ⟨w.heap.size, 4, none⟩ = some (.slice (some ⟨g, o, none⟩) x.l.length C)) ∧ (w'.cell? ⟨W5.heap.size, 0, none⟩ = some (.int .u32 n) ∧ w'.cell? ⟨W5.heap.size, 1, none⟩ = some (.int .u32 m) ∧ w'.cell? ⟨W5.heap.size, 2, none⟩ = some (.int .u64 t) ∧ w'.cell? ⟨W5.heap.size, 3, none⟩ = some (.int .u32 q))) (by kernel_rfl) (HC6.out _ F0) (fun hHeld => ?_)
 refine nk_take_listed (i := 0) (v := ?_) rfl (by kernel_rfl) (by kernel_rfl) (by kernel_rfl) (fun _ _ _ h => h) (Or.inl ⟨by rfl, ?_⟩) (by assumption) ?_
 rotate_left
 ·intro w hSw; go_simp; all_goals with_reducible rfl
 simp only [Act.put, zA, zB, zC]
 refine nk_take_listed (i := 1) (v := ?_) rfl (by kernel_rfl) (by kernel_rfl) (by kernel_rfl) (fun _ _ _ h => h) (Or.inl ⟨by rfl, ?_⟩) (by assumption) ?_
 rotate_left
 ·intro w hSw; go_simp; all_goals with_reducible rfl
 simp only [Act.put, zA, zB, zC]
 refine nk_take_listed (i := 2) (v := ?_) rfl (by kernel_rfl) (by kernel_rfl) (by kernel_rfl) (fun _ _ _ h => h) (Or.inl ⟨by rfl, ?_⟩) (by assumption) ?_
 rotate_left
 ·intro w hSw; go_simp; all_goals with_reducible rfl
 simp only [Act.put, zA, zB, zC]
 refine nk_take_listed (i := 3) (v := ?_) rfl (by kernel_rfl) (by kernel_rfl) (by kernel_rfl) (fun _ _ _ h => h) (Or.inl ⟨by rfl, ?_⟩) (by assumption) ?_
 rotate_left
 ·intro w hSw; go_simp; all_goals with_reducible rfl
 simp only [Act.put, zA, zB, zC]
 refine wpAnyH_ready (rs := [4]) (by kernel_rfl) (by simp) (.cons rfl (fun K hK => ?_) .nil)
 go_simp
 refine (HRN.out _).mono ?_
 rintro e w7 ⟨rfl, hb7⟩
 have F1 : Below W6.heap.size W6 w7 := below_on F0 hb7
 refine hK.out _ _ (HC6.out _ F1) (fun hHeld => ?_)
 clear hK K
 try simp only [Act.put, zA, zB, zC]
 refine nk_take_listed (i := 5) (v := ?_) rfl (by kernel_rfl) (by kernel_rfl) (by kernel_rfl) (fun _ _ _ h => h) (Or.inl ⟨by rfl, ?_⟩) (by assumption) ?_
 rotate_left
 ·intro w hSw; go_simp; all_goals with_reducible rfl
 simp only [Act.put, zA, zB, zC]
 refine nk_take_listed (i := 6) (v := ?_) rfl (by kernel_rfl) (by kernel_rfl) (by kernel_rfl) (fun _ _ _ h => h) (Or.inl ⟨by rfl, ?_⟩) (by assumption) ?_
 rotate_left
 ·intro w hSw; go_simp; all_goals with_reducible rfl
 simp only [Act.put, zA, zB, zC]
 refine nk_take_listed (i := 7) (v := ?_) rfl (by kernel_rfl) (by kernel_rfl) (by kernel_rfl) (fun _ _ _ h => h) (Or.inl ⟨by rfl, ?_⟩) (by assumption) ?_
 rotate_left
 ·intro w hSw; go_simp; all_goals with_reducible rfl
 simp only [Act.put, zA, zB, zC]
 cases rn
 ·have HNO : Hid (nmI x = none) := HKEY.out fun n' m' t' q' h1 h2 h3 h4 h5 he e0 e1 e2 => by
    have h6 := HEPI.out
    rw [e0, epI_itE n' m' (.inl h1) h2 h3] at h6
    simp only [Option.some.injEq, Prod.mk.injEq] at h6
    have h7 := HZT.out
    rw [e1] at h7
    have h8 : (t' : Int) = (t : Int) := h7
    have h9 := HRNe.out
    have h10 : NmT.may ⟨n, m, t, q⟩ = true := NmT.may_iff.2 ⟨by show 0 < n; omega, by show t ≤ forever; omega⟩
    rw [h10] at h9
    cases h9
  refine nk_take_listed (i := 8) (v := undef) rfl (by kernel_rfl) (by kernel_rfl) (by kernel_rfl) (fun _ _ _ h => h) (Or.inr ⟨by rfl, rfl⟩) (by assumption) ?_
  simp only [Act.put, zA, zB, zC]
  refine nk_take_listed (i := 9) (v := undef) rfl (by kernel_rfl) (by kernel_rfl) (by kernel_rfl) (fun _ _ _ h => h) (Or.inr ⟨by rfl, rfl⟩) (by assumption) ?_
  simp only [Act.put, zA, zB, zC]
  refine wpAnyH_ready (rs := [10]) (by kernel_rfl) (by simp) (.cons rfl (fun K hK => ?_) .nil)
  go_simp
  refine hK.out _ _ (HC6.out _ F1) (fun hHeld => ?_)
  clear hK K
  try simp only [Act.put, zA, zB, zC]
  refine wpAnyH_ready (rs := [11]) (by kernel_rfl) (by simp) (.cons rfl (fun K hK => ?_) .nil)
  go_simp
  refine hK.out _ _ (HC6.out _ F1) (fun hHeld => ?_)
  clear hK K
  try simp only [Act.put, zA, zB, zC]
  refine nk_take_listed (i := 12) (v := undef) rfl (by kernel_rfl) (by kernel_rfl) (by kernel_rfl) (fun _ _ _ h => h) (Or.inr ⟨by rfl, rfl⟩) (by assumption) ?_
  simp only [Act.put, zA, zB, zC]
  refine nk_take_listed (i := 13) (v := ?_) rfl (by kernel_rfl) (by kernel_rfl) (by kernel_rfl) (fun _ _ _ h => h) (Or.inl ⟨by rfl, ?_⟩) (by assumption) ?_
  rotate_left
  ·intro w hSw; go_simp; all_goals with_reducible rfl
  simp only [Act.put, zA, zB, zC]
  refine wpAnyH_done (by kernel_rfl) ?_ _
  have HFF := h_ (below_on HF6.out F1)
  clear F0 F1 hHeld
  obtain ⟨⟨r0, r1, r2, r3⟩, rf⟩ := HR.out _ HFF.out
  have f0 := rf 0
  have f1 := rf 1
  have f2 := rf 2
  have f3 := rf 3
  go_wp2_with fail
  obtain ⟨s0, s1, s2, s3⟩ := put4 (.int .u32 0) (.int .u32 0) (.int .u64 0) (.int .u32 0) r0 r1 r2 r3
  refine bodyPost_ret (v := .tuple #[.agg #[.int .u32 0, .int .u32 0, .int .u64 0, .int .u32 0], .bool false]) (by simp [results, Tryz.results29, go_sem, s0, s1, s2, s3]) rfl (HFAIL.out _ HFF.out HNO.out)
 have hmay := NmT.may_iff.1 HRNe.out.symm
 have hn0 : 0 < n := hmay.1
 have ht0 : t ≤ forever := hmay.2
 have HIN2 := h_ (HIN.out hn0)
 have HMAY : Hid (0 < n ∧ t ≤ forever) := ⟨hn0, ht0⟩
 clear hmay hn0 ht0
 refine nk_take_listed (i := 8) (v := ?_) rfl (by kernel_rfl) (by kernel_rfl) (by kernel_rfl) (fun _ _ _ h => h) (Or.inl ⟨by rfl, ?_⟩) (by assumption) ?_
 rotate_left
 ·intro w hSw; go_simp; all_goals with_reducible rfl
 simp only [Act.put, zA, zB, zC]
 refine nk_take_listed (i := 9) (v := ?_) rfl (by kernel_rfl) (by kernel_rfl) (by kernel_rfl) (fun _ _ _ h => h) (Or.inl ⟨by rfl, ?_⟩) (by assumption) ?_
 rotate_left
 ·intro w hSw; go_simp; all_goals with_reducible rfl
 simp only [Act.put, zA, zB, zC]
 refine wpAnyH_ready (rs := [10]) (by kernel_rfl) (by simp) (.cons rfl (fun K hK => ?_) .nil)
 go_simp
 refine (HIN2.out _).mono ?_
 rintro e w8 ⟨ai, ci, Ai, Ci, rfl, hvi, hb8⟩
 have F2 : Below W6.heap.size W6 w8 := below_on F1 hb8
 obtain ⟨q2, hq2⟩ : ∃ r, r = x.same (itN n m t q) := ⟨_, rfl⟩
 have HQ2 := h_ hq2
 clear hq2
 refine hK.out _ _ (HC6.out _ F2) (fun hHeld => ?_)
 clear hK K
 try simp only [Act.put, zA, zB, zC]
 refine wpAnyH_ready (rs := [11]) (by kernel_rfl) (by simp) (.cons rfl (fun K hK => ?_) .nil)
 go_simp
 refine (refSame_any x (itN n m t q) _ _ w8 (HV.out.on (HBW.out _ (below_on HF6.out F2))) hvi.new_itV).mono ?_
 rintro e w9 ⟨rfl, hb9⟩
 rw [← HQ2.out]
 have F3 : Below W6.heap.size W6 w9 := below_on F2 hb9
 clear hvi
 refine hK.out _ _ (HC6.out _ F3) (fun hHeld => ?_)
 clear hK K
 try simp only [Act.put, zA, zB, zC]
 refine nk_take_listed (i := 12) (v := ?_) rfl (by kernel_rfl) (by kernel_rfl) (by kernel_rfl) (fun _ _ _ h => h) (Or.inl ⟨by rfl, ?_⟩) (by assumption) ?_
 rotate_left
 ·intro w hSw; go_simp; all_goals with_reducible rfl
 simp only [Act.put, zA, zB, zC]
 refine nk_take_listed (i := 13) (v := ?_) rfl (by kernel_rfl) (by kernel_rfl) (by kernel_rfl) (fun _ _ _ h => h) (Or.inl ⟨by rfl, ?_⟩) (by assumption) ?_
 rotate_left
 ·intro w hSw; go_simp; all_goals with_reducible rfl
 simp only [Act.put, zA, zB, zC]
 refine wpAnyH_done (by kernel_rfl) ?_ _
 have HFF := h_ (below_on HF6.out F3)
 obtain ⟨y0', y1', y2', y3'⟩ := HY6.out _ F3
 clear F0 F1 F2 F3 hHeld
 cases q2
 ·have HNO : Hid (nmI x = none) := HKEY.out fun n' m' t' q' h1 h2 h3 h4 h5 he e0 e1 e2 => by
    have h6 := HEPI.out
    rw [e0, epI_itE n' m' (.inl h1) h2 h3] at h6
    simp only [Option.some.injEq, Prod.mk.injEq] at h6
    have h7 := HZT.out
    rw [e1] at h7
    have h8 : (t' : Int) = (t : Int) := h7
    have h9 := HZZ.out
    rw [e2] at h9
    have h10 : (q' : Int) = (z : Int) := h9
    have h11 : q' = q := by have := HQZ.out; omega
    have h12 : t' = t := by omega
    have h13 : x = itN n m t q := by rw [he, h6.1, h6.2, h12, h11]
    have h15 := HQ2.out
    rw [h13, same_self] at h15
    cases h15
  obtain ⟨⟨r0, r1, r2, r3⟩, rf⟩ := HR.out w9 HFF.out
  have f0 := rf 0
  have f1 := rf 1
  have f2 := rf 2
  have f3 := rf 3
  go_wp2_with fail
  obtain ⟨s0, s1, s2, s3⟩ := put4 (.int .u32 0) (.int .u32 0) (.int .u64 0) (.int .u32 0) r0 r1 r2 r3
  refine bodyPost_ret (v := .tuple #[.agg #[.int .u32 0, .int .u32 0, .int .u64 0, .int .u32 0], .bool false]) (by simp [results, Tryz.results29, go_sem, s0, s1, s2, s3]) rfl (HFAIL.out w9 HFF.out HNO.out)
 ·obtain ⟨⟨r0, r1, r2, r3⟩, rf⟩ := HR.out w9 HFF.out
  have f0 := rf 0
  have f1 := rf 1
  have f2 := rf 2
  have f3 := rf 3
  go_wp2_with fail
  obtain ⟨s0, s1, s2, s3⟩ := put4 (.int .u32 (n : Int)) (.int .u32 (m : Int)) (.int .u64 (t : Int)) (.int .u32 (q : Int)) r0 r1 r2 r3
  have HB9 := h_ (((((HBW.out _ HFF.out).setCell (p := ⟨w.heap.size + 1, 0, none⟩) (Nat.le_succ _) (.int .u32 (n : Int))).setCell (p := ⟨w.heap.size + 1, 1, none⟩) (Nat.le_succ _) (.int .u32 (m : Int))).setCell (p := ⟨w.heap.size + 1, 2, none⟩) (Nat.le_succ _) (.int .u64 (t : Int))).setCell (p := ⟨w.heap.size + 1, 3, none⟩) (Nat.le_succ _) (.int .u32 (q : Int)))
  refine bodyPost_ret (v := .tuple #[.agg #[.int .u32 n, .int .u32 m, .int .u64 t, .int .u32 q], .bool true]) (by simp [results, Tryz.results29, go_sem, s0, s1, s2, s3]) rfl ⟨HB9.out, n, m, t, q, true, rfl, .inl ⟨rfl, ?_⟩⟩
  rw [(It.same_iff _ _).1 HQ2.out.symm]
  exact nmI_itN n m t q HMAY.out.1 HEP.out.2.2.1 HEP.out.2.2.2 HMAY.out.2 HQ3.out

end Go.Proofs.YteldifnkeekafaaGreatDoor

