/- Joined texts. -/
import Derived.Test.YtiahakbkagipkaaGreatDoorZHz
import Derived.Test.YtiahakbkagipkaaGreatDoorZBq
import Derived.Test.YtiahakbkagipkaaGreatDoorZHy
import Derived.Test.YtiahakbkagipkaaGreatDoorZBlE
import Derived.Test.YtiahakbkagipkaaGreatDoorZBk
set_option maxHeartbeats 16000000
set_option linter.unusedSimpArgs false
set_option linter.unusedVariables false
set_option maxRecDepth 100000
namespace Go.Proofs.YtiahakbkagipkaaGreatDoor
open Go Go.RowKit Go.Shelf

attribute [local go_sem] Oper.semAt_some

theorem rightEx_ref (x : Ex) : rightEx x = (decide (0 < x.n ∨ x.m = 0) && (decide ((x.g : Int) ≤ 4611686018427387903) && rightX x.xs)) := by
 have h1 : (noEnd x.n x.m || decide (0 < x.n)) = decide (0 < x.n ∨ x.m = 0) := by
  unfold noEnd
  by_cases hn : x.n = 0
  ·by_cases hm : x.m = 0
   ·simp [hn, hm]
   ·simp [hn, hm]
  ·have : 0 < x.n := by omega
   simp [hn, this]
 have h2 : isT x.g = decide ((x.g : Int) ≤ 4611686018427387903) := rfl
 rw [rightEx, h1, h2]
 cases decide (0 < x.n ∨ x.m = 0) <;> cases decide ((x.g : Int) ≤ 4611686018427387903) <;> cases rightX x.xs <;> rfl

theorem refExRight_any (x : Ex) (A : Option Addr) (C : Nat) (w : World) (hC : x.xs.length ≤ C) (hl : x.xs.length ≤ 800000) (hr : RdX w w.heap.size A x.xs) :
  Calls Tryz.prog 15 #[.agg #[.int .u32 x.n, .int .u32 x.m, .int .u64 x.g, .int .u8 x.l, .int .u8 x.c, .bool x.b, .slice A x.xs.length C]] w fun e w' => e = .returned (.bool (rightEx x)) ∧ Below w.heap.size w w' := by
 obtain ⟨W, hW⟩ : ∃ W, W = w.alloc (.cells #[.int .u32 x.n, .int .u32 x.m, .int .u64 x.g, .int .u8 x.l, .int .u8 x.c, .bool x.b, .slice A x.xs.length C] 46) := ⟨_, rfl⟩
 have HB0 : Hid (Below w.heap.size w W) := by rw [hW]; exact below_al bR _
 have HRw : Hid (RowB W w.heap.size [.int .u32 x.n, .int .u32 x.m, .int .u64 x.g, .int .u8 x.l, .int .u8 x.c, .bool x.b, .slice A x.xs.length C]) := by rw [hW]; exact RowB.new w _ _
 have HRt : Hid (rightEx x = (decide (0 < x.n ∨ x.m = 0) && (decide ((x.g : Int) ≤ 4611686018427387903) && rightX x.xs))) := rightEx_ref x
 have HE := h_ (fun w => nmRefRight_any x.n x.m w)
 have HP : Hid (∀ w', Below W.heap.size W w' → Calls Tryz.prog 36 #[.agg #[.bool x.b, .slice A x.xs.length C]] w' fun e w'' => e = .returned (.bool (rightX x.xs)) ∧ Below w'.heap.size w' w'') := fun w1 h => ptRefRight_any x.b A C x.xs w1 (by omega) hC ((hr.on HB0.out).on h)
 have HW := h_ hW
 have HS : Hid (w.heap.size < W.heap.size) := by rw [Hid, hW]; simp
 clear hW hr hC hl
 obtain ⟨q1, h1⟩ : ∃ q, q = decide (0 < x.n ∨ x.m = 0) := ⟨_, rfl⟩
 obtain ⟨q2, h2⟩ : ∃ q, q = decide ((x.g : Int) ≤ 4611686018427387903) := ⟨_, rfl⟩
 rw [← h1] at HE HRt
 rw [← h2] at HRt
 clear h1
 have x0 := HRw.out.1 0 _ rfl
 have x1 := HRw.out.1 1 _ rfl
 rw [HW.out] at x0 x1
 go_enter Tryz.func15, Tryz.ntmps15
 go_wp2_with fail
 clear x0 x1
 rw [← HW.out]
 refine (HE.out _).mono ?_
 rintro e w1 ⟨rfl, hb1⟩
 have HB1 := h_ (below_on HB0.out hb1)
 have HK1 := h_ hb1
 cases q1
 ·clear hb1
  go_wp2_with fail
  go_ret
  exact ⟨by rw [HRt.out]; rfl, HB1.out⟩
 have hr1 := HRw.out.on hb1 HS.out
 have x2 := hr1.1 2 _ rfl
 have x5 := hr1.1 5 _ rfl
 have x6 := hr1.1 6 _ rfl
 clear hb1 hr1
 cases q2
 ·have d2 := h2.symm
  have HQ : Hid (rightEx x = false) := by rw [Hid, HRt.out]; rfl
  clear h2
  go_wp2_with fail
  go_ret
  exact ⟨by rw [HQ.out]; rfl, HB1.out⟩
 have d2 := h2.symm
 have HQ : Hid (rightEx x = rightX x.xs) := by rw [Hid, HRt.out]; rfl
 clear h2
 go_wp2_with fail
 refine (HP.out w1 HK1.out).mono ?_
 rintro e w2 ⟨rfl, hb2⟩
 have HB2 := h_ (below_on HB1.out hb2)
 clear hb2 x2 x5 x6
 go_wp2_with fail
 go_ret
 exact ⟨by rw [HQ.out]; rfl, HB2.out⟩

attribute [local go_sem] Oper.semAt_some

theorem exE_yes {e : Ex} {k : Int} (hk : isK k = true) (hr : rightEx e = true) : extrasE e k = .ok (listB e k) := by rw [extrasE, if_pos hk, blocksE_yes _ hr]
theorem exE_no {e : Ex} {k : Int} (h : rightEx e = false ∨ isK k = false) : extrasE e k = .error 2 := by
 rw [extrasE]
 split
 ·rename_i hk
  rcases h with h | h
  ·exact blocksE_no _ h
  ·rw [hk] at h
   cases h
 ·rfl
theorem listB_le (e : Ex) (k : Int) : (listB e k).length ≤ 4 := by
 unfold listB
 split <;> simp [tailB]
theorem ls_nth {xs ys : List LB} (h : xs.map LB.b = ys.map LB.b) {j : Nat} {x y : LB} (hx : xs[j]? = some x) (hy : ys[j]? = some y) : sameB x.b y.b = true := by
 have h1 : (xs.map LB.b)[j]? = some x.b := by rw [List.getElem?_map, hx]; rfl
 have h2 : (ys.map LB.b)[j]? = some y.b := by rw [List.getElem?_map, hy]; rfl
 rw [h, h2] at h1
 injection h1 with h1
 exact (sameB_iff _ _).2 h1.symm
theorem ls_cell {w : World} {A : Option Addr} {xs : List LB} (h : RdLs w w.heap.size A xs) {k : Nat} (hk : k < xs.length) : ∃ g o, A = some ⟨g, o, none⟩ ∧ g < w.heap.size ∧ CellB w g (o + k * 4) xs[k] := by
 rcases h.2 with h | ⟨g, o, e, hg, hc⟩
 ·rw [h] at hk
  simp at hk
 ·exact ⟨g, o, e, hg, hc k _ (List.getElem?_eq_getElem hk)⟩

theorem walk_bextras (e : Ex) (A : Option Addr) (C : Nat) (k : Int) (w : World) (hen : e.n ≤ 4294967295) (hem : e.m ≤ 4294967295) (heg : e.g < 18446744073709551616) (hel9 : e.l ≤ 255) (hec : e.c ≤ 255) (hC : e.xs.length ≤ C) (he47 : e.xs.length ≤ 140737488351232) (hr : RdX w w.heap.size A e.xs) (hk : (Lit.int .i64 k).wf = true) (ht : TabW w) :
  Calls Tryz.prog 4 #[.agg #[.int .u32 e.n, .int .u32 e.m, .int .u64 e.g, .int .u8 e.l, .int .u8 e.c, .bool e.b, .slice A e.xs.length C], .int .i64 k] w fun e w' => e = .returned (.bool true) ∧ Below w.heap.size w w' := by
 obtain ⟨W, hW⟩ : ∃ W, W = w.alloc (.cells #[.int .u32 e.n, .int .u32 e.m, .int .u64 e.g, .int .u8 e.l, .int .u8 e.c, .bool e.b, .slice A e.xs.length C] 46) := ⟨_, rfl⟩
 have HB0 : Hid (Below w.heap.size w W) := by rw [hW]; exact below_al bR _
 have HX : Hid (∀ w', Below W.heap.size W w' → w'.cell? ⟨w.heap.size, 0, none⟩ = some (.int .u32 e.n) ∧ w'.cell? ⟨w.heap.size, 1, none⟩ = some (.int .u32 e.m) ∧ w'.cell? ⟨w.heap.size, 2, none⟩ = some (.int .u64 e.g) ∧ w'.cell? ⟨w.heap.size, 3, none⟩ = some (.int .u8 e.l) ∧ w'.cell? ⟨w.heap.size, 4, none⟩ = some (.int .u8 e.c) ∧ w'.cell? ⟨w.heap.size, 5, none⟩ = some (.bool e.b) ∧ w'.cell? ⟨w.heap.size, 6, none⟩ = some (.slice A e.xs.length C)) := fun w' h => by
  rw [hW] at h
  exact ⟨box_at h 0, box_at h 1, box_at h 2, box_at h 3, box_at h 4, box_at h 5, box_at h 6⟩
 have HRX : Hid (∀ w', Below W.heap.size W w' → RdX w' w'.heap.size A e.xs) := fun w' h => (hr.on HB0.out).on h
 have HT : Hid (∀ w', Below w.heap.size w w' → TabW w') := fun w' h => ht.on h
 have HW := h_ hW
 have HCX := h_ hC
 obtain ⟨x0, x1, x2, x3, x4, x5, x6⟩ := HX.out W bR
 rw [HW.out] at x0 x1 x2 x3 x4 x5 x6
 clear hW hr ht hk hC
 by_cases h1 : 100 < e.xs.length
 ·have d1 : (100 : Int) < (e.xs.length : Int) := by omega
  go_enter Tryz.func4, Tryz.ntmps4
  go_wp2_with fail
  rw [← HW.out]
  refine (bworks_any _ (HT.out _ HB0.out)).mono ?_
  rintro e9 w9 ⟨rfl, hb9⟩
  have HB9 := h_ (below_on HB0.out hb9)
  clear hb9
  go_wp2_with fail
  go_ret
  exact ⟨rfl, HB9.out⟩
 have d1 : ¬ (100 : Int) < (e.xs.length : Int) := by omega
 have HF : Hid e.fit := ⟨hen, hem, heg, hel9, hec, by omega⟩
 have HL1 : Hid (e.xs.length ≤ 100) := by rw [Hid]; omega
 clear h1 hen hem heg hel9 hec he47
 go_enter Tryz.func4, Tryz.ntmps4
 go_wp2_with fail
 rw [← HW.out]
 clear x0 x1 x2 x3 x4 x5 x6 d1
 refine (extras_any e A C k HF.out W (HRX.out W bR) HCX.out (HT.out W HB0.out)).mono ?_
 rintro e1 w1 ⟨hb1, hm⟩
 have HB1 := h_ hb1
 have HBw1 : Hid (Below w.heap.size w w1) := below_on HB0.out hb1
 clear hb1
 obtain ⟨q1, hq1⟩ : ∃ q, q = rightEx e := ⟨_, rfl⟩
 obtain ⟨q2, hq2⟩ : ∃ q, q = isK k := ⟨_, rfl⟩
 have HR1 := h_ (refExRight_any e A C w1 HCX.out (by have := HL1.out; omega) (HRX.out w1 HB1.out))
 rw [← hq1] at HR1
 have HK := h_ (fun w => refKind_any k w)
 rw [← hq2] at HK
 obtain ⟨x0, x1, x2, x3, x4, x5, x6⟩ := HX.out w1 HB1.out
 cases q1
 ·rw [exE_no (.inl hq1.symm)] at hm
  have hm : e1 = .returned (.tuple #[.slice none 0 0, .int .i64 2]) := hm
  subst hm
  clear hq1 hq2
  go_wp2_with fail
  clear x0 x1 x2 x3 x4 x5 x6
  refine HR1.out.mono ?_
  rintro e2 w2 ⟨rfl, hb2⟩
  have HB2 := h_ (below_on HBw1.out hb2)
  clear hb2
  go_wp2_with fail
  refine (bnum8_any 2 _).mono ?_
  rintro e9 w9 ⟨rfl, h9⟩
  rw [← h9]
  clear h9 w9
  go_wp2_with fail
  refine (bworks_any _ (HT.out _ HB2.out)).mono ?_
  rintro e9 w9 ⟨rfl, hb9⟩
  have HB9 := h_ (below_on HB2.out hb9)
  clear hb9
  go_wp2_with fail
  go_ret
  exact ⟨rfl, HB9.out⟩
 cases q2
 ·rw [exE_no (.inr hq2.symm)] at hm
  have hm : e1 = .returned (.tuple #[.slice none 0 0, .int .i64 2]) := hm
  subst hm
  clear hq1 hq2
  go_wp2_with fail
  clear x0 x1 x2 x3 x4 x5 x6
  refine HR1.out.mono ?_
  rintro e2 w2 ⟨rfl, hb2⟩
  have HB2 := h_ (below_on HBw1.out hb2)
  clear hb2
  go_wp2_with fail
  refine (HK.out _).mono ?_
  rintro e3 w3 ⟨rfl, h3⟩
  rw [← h3]
  clear h3 w3
  go_wp2_with fail
  refine (bnum8_any 2 _).mono ?_
  rintro e9 w9 ⟨rfl, h9⟩
  rw [← h9]
  clear h9 w9
  go_wp2_with fail
  refine (bworks_any _ (HT.out _ HB2.out)).mono ?_
  rintro e9 w9 ⟨rfl, hb9⟩
  have HB9 := h_ (below_on HB2.out hb9)
  clear hb9
  go_wp2_with fail
  go_ret
  exact ⟨rfl, HB9.out⟩
 rw [exE_yes hq2.symm hq1.symm] at hm
 obtain ⟨v, rfl, hls⟩ := hm
 obtain ⟨A2, C2, ys, rfl, hC2, hmy, hrd⟩ := hls.rd
 have hy4 : ys.length ≤ 4 := by rw [← List.length_map (f := LB.b), hmy]; exact listB_le e k
 have HMy := h_ hmy
 have HRy := h_ hrd
 have HCy := h_ hC2
 have HOf := h_ (of_back e hq2.symm HF.out hq1.symm)
 have HRt := h_ hq1.symm
 clear hls hC2 hmy hrd hq1 hq2
 go_wp2_with fail
 clear x0 x1 x2 x3 x4 x5 x6
 refine HR1.out.mono ?_
 rintro e2 w2 ⟨rfl, hb2⟩
 have HB2 := h_ (below_on HB1.out hb2)
 have G2 : Below w1.heap.size w1 w2 := hb2
 clear hb2
 go_wp2_with fail
 refine (HK.out _).mono ?_
 rintro e3 w3 ⟨rfl, h3⟩
 rw [← h3]
 clear h3 w3
 obtain ⟨x0, x1, x2, x3, x4, x5, x6⟩ := HX.out w2 HB2.out
 go_wp2_with fail
 clear x0 x1 x2 x3 x4 x5 x6
 refine (refExtras_any e A C k HF.out HRt.out w2 (HRX.out w2 HB2.out) HCX.out).mono ?_
 rintro e4 w4 ⟨hb4, A3, C3, zs, rfl, hC3, hmz, hrz⟩
 have HB4 := h_ (below_on HB2.out hb4)
 have HBw4 : Hid (Below w.heap.size w w4) := below_on HB0.out HB4.out
 have HMz : Hid (ys.map LB.b = zs.map LB.b) := HMy.out.trans hmz.symm
 have hyz : ys.length = zs.length := by have := congrArg List.length HMz.out; simpa using this
 have HRy4 : Hid (RdLs w4 w4.heap.size A2 ys) := HRy.out.on (below_on G2 hb4)
 have HRz := h_ hrz
 have hne : ((ys.length : Int) != (zs.length : Int)) = false := by simp only [bne_eq_false_iff_eq]; omega
 have HYZ := h_ hyz
 clear hb4 hmz hrz G2 hC3 hyz
 go_wp2_with fail
 refine (bnum8_any 0 _).mono ?_
 rintro e9 w9 ⟨rfl, h9⟩
 rw [← h9]
 clear h9 w9
 go_wp2_with fail
 clear hne
 go_loopw [8] (fun i wr => ∃ j : Nat, i = .int .i64 j ∧ j ≤ ys.length ∧ Hid (Below w4.heap.size w4 wr)) (fun i _ => ys.length - (intOf i).toNat)
 case atStart => exact ⟨0, rfl, Nat.zero_le _, Below.refl _ _⟩
 case round =>
  obtain ⟨j, rfl, hj, HB⟩ := hrel
  by_cases hlt : j < ys.length
  ·have hlti : (j : Int) < (ys.length : Int) := by omega
   have hltz : j < zs.length := by have := HYZ.out; omega
   have hltzi : (j : Int) < (zs.length : Int) := by omega
   obtain ⟨y, hy⟩ : ∃ y, y = ys[j] := ⟨_, rfl⟩
   obtain ⟨z, hz⟩ : ∃ z, z = zs[j] := ⟨_, rfl⟩
   obtain ⟨g1, o1, rfl, hg1, hc1⟩ := ls_cell HRy4.out hlt
   obtain ⟨g2, o2, rfl, hg2, hc2⟩ := ls_cell HRz.out hltz
   rw [← hy] at hc1
   rw [← hz] at hc2
   have HCC : Hid (∀ w', Below w4.heap.size w4 w' → (w'.cell? ⟨g1, o1 + j * 4, none⟩ = some (.int .u64 y.b.t) ∧ w'.cell? ⟨g1, o1 + j * 4 + 1, none⟩ = some (.int .u64 y.b.n) ∧ w'.cell? ⟨g1, o1 + j * 4 + 2, none⟩ = some (.int .i64 y.b.s) ∧ w'.cell? ⟨g1, o1 + j * 4 + 3, none⟩ = some (.slice y.a y.b.d.length y.c)) ∧ (w'.cell? ⟨g2, o2 + j * 4, none⟩ = some (.int .u64 z.b.t) ∧ w'.cell? ⟨g2, o2 + j * 4 + 1, none⟩ = some (.int .u64 z.b.n) ∧ w'.cell? ⟨g2, o2 + j * 4 + 2, none⟩ = some (.int .i64 z.b.s) ∧ w'.cell? ⟨g2, o2 + j * 4 + 3, none⟩ = some (.slice z.a z.b.d.length z.c))) := fun w' h => ⟨hc1.kept (h.block g1 hg1), hc2.kept (h.block g2 hg2)⟩
   have HRR : Hid (∀ w', Below w4.heap.size w4 w' → RdB w' w'.heap.size y.a y.b.d ∧ RdB w' w'.heap.size z.a z.b.d) := fun w' h =>
    ⟨((HRy4.out.on h).1 y (by rw [hy]; exact List.getElem_mem _)).2.2, ((HRz.out.on h).1 z (by rw [hz]; exact List.getElem_mem _)).2.2⟩
   have HSm : Hid (sameB y.b z.b = true) := ls_nth HMz.out (List.getElem?_eq_some_iff.2 ⟨hlt, hy.symm⟩) (List.getElem?_eq_some_iff.2 ⟨hltz, hz.symm⟩)
   clear hy hz hc1 hc2
   have F0 : Below w4.heap.size w4 wr.drew := HB.out.drew
   go_upto_region 12 with fail
   refine wp_region_held_drew (S := fun w' => (w'.cell? ⟨g1, o1 + j * 4, none⟩ = some (.int .u64 y.b.t) ∧ w'.cell? ⟨g1, o1 + j * 4 + 1, none⟩ = some (.int .u64 y.b.n) ∧ w'.cell? ⟨g1, o1 + j * 4 + 2, none⟩ = some (.int .i64 y.b.s) ∧ w'.cell? ⟨g1, o1 + j * 4 + 3, none⟩ = some (.slice y.a y.b.d.length y.c)) ∧ (w'.cell? ⟨g2, o2 + j * 4, none⟩ = some (.int .u64 z.b.t) ∧ w'.cell? ⟨g2, o2 + j * 4 + 1, none⟩ = some (.int .u64 z.b.n) ∧ w'.cell? ⟨g2, o2 + j * 4 + 2, none⟩ = some (.int .i64 z.b.s) ∧ w'.cell? ⟨g2, o2 + j * 4 + 3, none⟩ = some (.slice z.a z.b.d.length z.c))) (by kernel_rfl) (HCC.out _ F0) (fun hHeld => ?_)
   refine takeL 0 (v := ?_) ?_ ‹_› ?_
   rotate_left
   ·intro w hSw; (try dsimp only at hSw); go_simp; all_goals with_reducible rfl
   simp only [Act.put, zA, zB, zC]
   refine takeL 1 (v := ?_) ?_ ‹_› ?_
   rotate_left
   ·intro w hSw; (try dsimp only at hSw); go_simp; all_goals with_reducible rfl
   simp only [Act.put, zA, zB, zC]
   refine takeL 2 (v := ?_) ?_ ‹_› ?_
   rotate_left
   ·intro w hSw; (try dsimp only at hSw); go_simp; all_goals with_reducible rfl
   simp only [Act.put, zA, zB, zC]
   refine takeL 3 (v := ?_) ?_ ‹_› ?_
   rotate_left
   ·intro w hSw; (try dsimp only at hSw); go_simp; all_goals with_reducible rfl
   simp only [Act.put, zA, zB, zC]
   refine takeL 4 (v := ?_) ?_ ‹_› ?_
   rotate_left
   ·intro w hSw; (try dsimp only at hSw); go_simp; all_goals with_reducible rfl
   simp only [Act.put, zA, zB, zC]
   refine takeL 5 (v := ?_) ?_ ‹_› ?_
   rotate_left
   ·intro w hSw; (try dsimp only at hSw); go_simp; all_goals with_reducible rfl
   simp only [Act.put, zA, zB, zC]
   refine takeL 6 (v := ?_) ?_ ‹_› ?_
   rotate_left
   ·intro w hSw; (try dsimp only at hSw); go_simp; all_goals with_reducible rfl
   simp only [Act.put, zA, zB, zC]
   refine takeL 7 (v := ?_) ?_ ‹_› ?_
   rotate_left
   ·intro w hSw; (try dsimp only at hSw); go_simp; all_goals with_reducible rfl
   simp only [Act.put, zA, zB, zC]
   refine wpAnyH_ready (rs := [8]) (by kernel_rfl) (by simp) (.cons rfl (fun K hK => ?_) .nil)
   go_simp
   refine (refBSame_any y.b z.b _ _ _ _ _ (HRR.out _ F0).1 (HRR.out _ F0).2).mono ?_
   rintro e5 v1 ⟨rfl, hb⟩
   rw [HSm.out]
   have F1 : Below w4.heap.size w4 v1 := below_on F0 hb
   clear hb
   refine hK.out _ _ (HCC.out _ F1) (fun hHeld => ?_)
   clear hK K
   try simp only [Act.put, zA, zB, zC]
   refine takeL 9 (v := ?_) ?_ ‹_› ?_
   rotate_left
   ·intro w hSw; (try dsimp only at hSw); go_simp; all_goals with_reducible rfl
   simp only [Act.put, zA, zB, zC]
   clear hHeld
   refine wpAnyH_done (by kernel_rfl) ?_ _
   have HB5 := h_ F1
   clear F0 F1
   go_wp2_with fail
   go_roundw
   case rel => exact ⟨j + 1, by go_num, by omega, HB5.out⟩
   case measure => simp [intOf]; omega
  ·obtain rfl : j = ys.length := by omega
   have hlti : ¬ (ys.length : Int) < (ys.length : Int) := by omega
   have HBw : Hid (Below w.heap.size w wr) := below_on HBw4.out HB.out
   have HKo := h_ (blkOf_any ys A2 C2 wr (HRy4.out.on HB.out) HCy.out (by omega) (HT.out wr HBw.out))
   rw [HMy.out, HOf.out] at HKo
   go_wp2_with fail
   refine HKo.out.mono ?_
   rintro e5 wb ⟨hbb, A4, C4, rfl, hC4, hnx⟩
   obtain ⟨wq, hwq⟩ : ∃ wq, wq = wb.alloc (.cells #[.int .u32 e.n, .int .u32 e.m, .int .u64 e.g, .int .u8 e.l, .int .u8 e.c, .bool e.b, .slice A4 e.xs.length C4] 46) := ⟨_, rfl⟩
   have hbc : Below wb.heap.size wb wq := by rw [hwq]; exact below_al bR _
   have hRc : RowB wq wb.heap.size [.int .u32 e.n, .int .u32 e.m, .int .u64 e.g, .int .u8 e.l, .int .u8 e.c, .bool e.b, .slice A4 e.xs.length C4] := by rw [hwq]; exact RowB.new wb _ _
   have HBc : Hid (Below W.heap.size W wq) := below_on HB4.out (below_on HB.out (below_on hbb hbc))
   have HBwc : Hid (Below w.heap.size w wq) := below_on HB0.out HBc.out
   have HNx : Hid (RdX wq wq.heap.size A4 e.xs) := hnx.rd.on hbc
   have HC4 := h_ hC4
   obtain ⟨z0, z1, z2, z3, z4, z5, z6⟩ := HX.out wq HBc.out
   have y0 := hRc.1 0 _ rfl
   have y1 := hRc.1 1 _ rfl
   have y2 := hRc.1 2 _ rfl
   have y3 := hRc.1 3 _ rfl
   have y4 := hRc.1 4 _ rfl
   have y5 := hRc.1 5 _ rfl
   have y6 := hRc.1 6 _ rfl
   have HWc := h_ hwq
   rw [hwq] at y0 z0 y1 z1 y2 z2 y3 z3 y4 z4 y5 z5 y6 z6
   clear hbb hbc hRc hwq hnx hC4
   go_wp2_with fail
   rw [← HWc.out]
   clear y0 z0 y1 z1 y2 z2 y3 z3 y4 z4 y5 z5 y6 z6
   refine (refSameEx_any e e A A4 C C4 wq (HRX.out wq HBc.out) HNx.out HCX.out HC4.out HF.out.xs HF.out.xs).mono ?_
   rintro e6 wd ⟨rfl, hbd⟩
   rw [(sameEx_iff e e).2 rfl]
   have HBd := h_ (below_on HBwc.out hbd)
   clear hbd
   go_wp2_with fail
   refine (bnum8_any 0 _).mono ?_
   rintro e9 w9 ⟨rfl, h9⟩
   rw [← h9]
   clear h9 w9
   go_wp2_with fail
   refine (bworks_any _ (HT.out _ HBd.out)).mono ?_
   rintro e9 w9 ⟨rfl, hb9⟩
   have HB9 := h_ (below_on HBd.out hb9)
   clear hb9
   go_wp2_with fail
   go_ret
   exact ⟨rfl, HB9.out⟩

end Go.Proofs.YtiahakbkagipkaaGreatDoor
