/- AdminHolds, walked (2). -/
import Derived.Test.YtmbckbgojjlplaaGreatDoorZAc
set_option maxHeartbeats 16000000
set_option linter.unusedSimpArgs false
set_option linter.unusedVariables false
set_option maxRecDepth 100000
namespace Go.Proofs.YtmbckbgojjlplaaGreatDoor
open Go Go.RowKit Go.Shelf

attribute [local go_sem] Oper.semAt_some

theorem walk_ah2 (x y : Rc) (hx : x.ok) (hy : y.ok) (hno2 : ∃ z, itemR x = some z) (hno : itemR y = none) (w : World) (ht : TabW w) : Calls Tryz.prog 8 #[.agg #[.int .i64 x.k, .int .u32 x.n, .int .u32 x.m, .int .u64 x.t, .int .u32 x.q, .int .i64 x.wh, .int .i64 x.wy, .int .u64 x.at0, .int .u64 x.no, .int .u32 x.nd, .int .u32 x.rg, .bool x.ys, .int .u64 x.fr, .int .u64 x.un, .int .u8 x.lv], .agg #[.int .i64 y.k, .int .u32 y.n, .int .u32 y.m, .int .u64 y.t, .int .u32 y.q, .int .i64 y.wh, .int .i64 y.wy, .int .u64 y.at0, .int .u64 y.no, .int .u32 y.nd, .int .u32 y.rg, .bool y.ys, .int .u64 y.fr, .int .u64 y.un, .int .u8 y.lv]] w fun e w' => e = .returned (.bool true) ∧ Below w.heap.size w w' := by
 obtain ⟨W, hW⟩ : ∃ W, W = (w.alloc (.cells #[.int .i64 x.k, .int .u32 x.n, .int .u32 x.m, .int .u64 x.t, .int .u32 x.q, .int .i64 x.wh, .int .i64 x.wy, .int .u64 x.at0, .int .u64 x.no, .int .u32 x.nd, .int .u32 x.rg, .bool x.ys, .int .u64 x.fr, .int .u64 x.un, .int .u8 x.lv] 30)).alloc (.cells #[.int .i64 y.k, .int .u32 y.n, .int .u32 y.m, .int .u64 y.t, .int .u32 y.q, .int .i64 y.wh, .int .i64 y.wy, .int .u64 y.at0, .int .u64 y.no, .int .u32 y.nd, .int .u32 y.rg, .bool y.ys, .int .u64 y.fr, .int .u64 y.un, .int .u8 y.lv] 30) := ⟨_, rfl⟩
 have hb : Below w.heap.size w W := by rw [hW]; exact below_al (below_al bR _) _
 have hRx : RowB W w.heap.size [.int .i64 x.k, .int .u32 x.n, .int .u32 x.m, .int .u64 x.t, .int .u32 x.q, .int .i64 x.wh, .int .i64 x.wy, .int .u64 x.at0, .int .u64 x.no, .int .u32 x.nd, .int .u32 x.rg, .bool x.ys, .int .u64 x.fr, .int .u64 x.un, .int .u8 x.lv] := by rw [hW]; exact (RowB.new w _ _).on (below_al bR _) (by simp)
 have hRy : RowB W (w.heap.size + 1) [.int .i64 y.k, .int .u32 y.n, .int .u32 y.m, .int .u64 y.t, .int .u32 y.q, .int .i64 y.wh, .int .i64 y.wy, .int .u64 y.at0, .int .u64 y.no, .int .u32 y.nd, .int .u32 y.rg, .bool y.ys, .int .u64 y.fr, .int .u64 y.un, .int .u8 y.lv] := by
  rw [hW]
  have h := RowB.new (w.alloc (.cells #[.int .i64 x.k, .int .u32 x.n, .int .u32 x.m, .int .u64 x.t, .int .u32 x.q, .int .i64 x.wh, .int .i64 x.wy, .int .u64 x.at0, .int .u64 x.no, .int .u32 x.nd, .int .u32 x.rg, .bool x.ys, .int .u64 x.fr, .int .u64 x.un, .int .u8 x.lv] 30)) [.int .i64 y.k, .int .u32 y.n, .int .u32 y.m, .int .u64 y.t, .int .u32 y.q, .int .i64 y.wh, .int .i64 y.wy, .int .u64 y.at0, .int .u64 y.no, .int .u32 y.nd, .int .u32 y.rg, .bool y.ys, .int .u64 y.fr, .int .u64 y.un, .int .u8 y.lv] 30
  rw [World.size_alloc] at h
  exact h
 have hS : w.heap.size + 1 < W.heap.size := by rw [hW]; simp
 have HX : Hid (∀ w', Below W.heap.size W w' → (w'.cell? ⟨w.heap.size, 0, none⟩ = some (.int .i64 x.k) ∧ w'.cell? ⟨w.heap.size, 1, none⟩ = some (.int .u32 x.n) ∧ w'.cell? ⟨w.heap.size, 2, none⟩ = some (.int .u32 x.m) ∧ w'.cell? ⟨w.heap.size, 3, none⟩ = some (.int .u64 x.t) ∧ w'.cell? ⟨w.heap.size, 4, none⟩ = some (.int .u32 x.q) ∧ w'.cell? ⟨w.heap.size, 5, none⟩ = some (.int .i64 x.wh) ∧ w'.cell? ⟨w.heap.size, 6, none⟩ = some (.int .i64 x.wy) ∧ w'.cell? ⟨w.heap.size, 7, none⟩ = some (.int .u64 x.at0) ∧ w'.cell? ⟨w.heap.size, 8, none⟩ = some (.int .u64 x.no) ∧ w'.cell? ⟨w.heap.size, 9, none⟩ = some (.int .u32 x.nd) ∧ w'.cell? ⟨w.heap.size, 10, none⟩ = some (.int .u32 x.rg) ∧ w'.cell? ⟨w.heap.size, 11, none⟩ = some (.bool x.ys) ∧ w'.cell? ⟨w.heap.size, 12, none⟩ = some (.int .u64 x.fr) ∧ w'.cell? ⟨w.heap.size, 13, none⟩ = some (.int .u64 x.un) ∧ w'.cell? ⟨w.heap.size, 14, none⟩ = some (.int .u8 x.lv)) ∧ (w'.cell? ⟨(w.heap.size + 1), 0, none⟩ = some (.int .i64 y.k) ∧ w'.cell? ⟨(w.heap.size + 1), 1, none⟩ = some (.int .u32 y.n) ∧ w'.cell? ⟨(w.heap.size + 1), 2, none⟩ = some (.int .u32 y.m) ∧ w'.cell? ⟨(w.heap.size + 1), 3, none⟩ = some (.int .u64 y.t) ∧ w'.cell? ⟨(w.heap.size + 1), 4, none⟩ = some (.int .u32 y.q) ∧ w'.cell? ⟨(w.heap.size + 1), 5, none⟩ = some (.int .i64 y.wh) ∧ w'.cell? ⟨(w.heap.size + 1), 6, none⟩ = some (.int .i64 y.wy) ∧ w'.cell? ⟨(w.heap.size + 1), 7, none⟩ = some (.int .u64 y.at0) ∧ w'.cell? ⟨(w.heap.size + 1), 8, none⟩ = some (.int .u64 y.no) ∧ w'.cell? ⟨(w.heap.size + 1), 9, none⟩ = some (.int .u32 y.nd) ∧ w'.cell? ⟨(w.heap.size + 1), 10, none⟩ = some (.int .u32 y.rg) ∧ w'.cell? ⟨(w.heap.size + 1), 11, none⟩ = some (.bool y.ys) ∧ w'.cell? ⟨(w.heap.size + 1), 12, none⟩ = some (.int .u64 y.fr) ∧ w'.cell? ⟨(w.heap.size + 1), 13, none⟩ = some (.int .u64 y.un) ∧ w'.cell? ⟨(w.heap.size + 1), 14, none⟩ = some (.int .u8 y.lv))) := fun w' h => by
  have h1 := hRx.on h (by omega)
  have h2 := hRy.on h hS
  exact ⟨⟨h1.1 0 _ rfl, h1.1 1 _ rfl, h1.1 2 _ rfl, h1.1 3 _ rfl, h1.1 4 _ rfl, h1.1 5 _ rfl, h1.1 6 _ rfl, h1.1 7 _ rfl, h1.1 8 _ rfl, h1.1 9 _ rfl, h1.1 10 _ rfl, h1.1 11 _ rfl, h1.1 12 _ rfl, h1.1 13 _ rfl, h1.1 14 _ rfl⟩, h2.1 0 _ rfl, h2.1 1 _ rfl, h2.1 2 _ rfl, h2.1 3 _ rfl, h2.1 4 _ rfl, h2.1 5 _ rfl, h2.1 6 _ rfl, h2.1 7 _ rfl, h2.1 8 _ rfl, h2.1 9 _ rfl, h2.1 10 _ rfl, h2.1 11 _ rfl, h2.1 12 _ rfl, h2.1 13 _ rfl, h2.1 14 _ rfl⟩
 have HT : Hid (∀ w', Below w.heap.size w w' → TabW w') := fun w' h => ht.on h
 have HB0 := h_ hb
 have HOx := h_ hx
 have HOy := h_ hy
 have HW := h_ hW
 obtain ⟨⟨x0, x1, x2, x3, x4, x5, x6, x7, x8, x9, x10, x11, x12, x13, x14⟩, y0, y1, y2, y3, y4, y5, y6, y7, y8, y9, y10, y11, y12, y13, y14⟩ := HX.out W bR
 rw [HW.out] at x0 x1 x2 x3 x4 x5 x6 x7 x8 x9 x10 x11 x12 x13 x14 y0 y1 y2 y3 y4 y5 y6 y7 y8 y9 y10 y11 y12 y13 y14
 clear hW hb hRx hRy hS hx hy ht
 go_enter Tryz.func8, Tryz.ntmps8
 go_wp2_with fail
 rw [← HW.out]
 clear x0 x1 x2 x3 x4 x5 x6 x7 x8 x9 x10 x11 x12 x13 x14 y0 y1 y2 y3 y4 y5 y6 y7 y8 y9 y10 y11 y12 y13 y14
 refine (dEncode_any x HOx.out W (HT.out W HB0.out)).mono ?_
 rintro e1 w1 ⟨hb1, hm1⟩
 have HB1 := h_ hb1
 have HW1 : Hid (Below w.heap.size w w1) := below_on HB0.out hb1
 have HE2 := h_ (dEncode_any y HOy.out w1 (HT.out w1 HW1.out))
 obtain ⟨⟨x0, x1, x2, x3, x4, x5, x6, x7, x8, x9, x10, x11, x12, x13, x14⟩, y0, y1, y2, y3, y4, y5, y6, y7, y8, y9, y10, y11, y12, y13, y14⟩ := HX.out w1 HB1.out
 clear hb1
 rcases hm1 with ⟨xi, u1, hr1, rfl, ho1⟩ | ⟨hr1, rfl⟩
 ·obtain ⟨A1, C1, rfl, hC1, hd1, _⟩ := ho1.bytes
  have hbk1 := rdRcB_back HOx.out hr1
  have hl1 : xi.bytes.length ≤ 65536 := berrlen (itemR_err hr1).1
  have HI1 : Hid (∃ z, itemR x = some z ∧ z.bytes = xi.bytes) := ⟨_, hr1, rfl⟩
  obtain ⟨l1, hle1⟩ : ∃ l, l = xi.bytes := ⟨_, rfl⟩
  rw [← hle1] at hbk1 hl1 hd1 hC1 HI1 ⊢
  have HK1 := h_ hbk1
  have HL1 := h_ hl1
  have HD1 := h_ hd1
  have HC1 := h_ hC1
  clear ho1 hr1 hC1 hd1 hbk1 hl1 hle1
  go_wp2_with fail
  clear x0 x1 x2 x3 x4 x5 x6 x7 x8 x9 x10 x11 x12 x13 x14 y0 y1 y2 y3 y4 y5 y6 y7 y8 y9 y10 y11 y12 y13 y14
  refine HE2.out.mono ?_
  rintro e2 w2 ⟨hb2, hm2⟩
  have HB2 := h_ (below_on HB1.out hb2)
  have HW2 : Hid (Below w.heap.size w w2) := below_on HW1.out hb2
  have HD2 : Hid (RdB w2 w2.heap.size A1 l1) := (HD1.out.below hb2).mono hb2.size
  have HDc := h_ (dDecode_any A1 l1.length C1 l1 rfl w2 HD2.out HC1.out (by have := HL1.out; omega) (HT.out w2 HW2.out))
  clear hb2
  rcases hm2 with ⟨yi, u2, hr2, rfl, ho2⟩ | ⟨hr2, rfl⟩
  ·rw [hno] at hr2
   cases hr2
  ·clear hr2
   go_wp2_with fail
   refine (dnum10_any 0 _).mono ?_
   rintro e9 w9 ⟨rfl, h9⟩
   rw [← h9]
   clear h9 w9
   go_wp2_with fail
   refine HDc.out.mono ?_
   rintro e3 w3 ⟨hb3, hm3⟩
   rw [HK1.out] at hm3
   have hm3 : e3 = .returned (.tuple #[.agg #[.int .i64 x.k, .int .u32 x.n, .int .u32 x.m, .int .u64 x.t, .int .u32 x.q, .int .i64 x.wh, .int .i64 x.wy, .int .u64 x.at0, .int .u64 x.no, .int .u32 x.nd, .int .u32 x.rg, .bool x.ys, .int .u64 x.fr, .int .u64 x.un, .int .u8 x.lv], .int .i64 0]) := hm3
   subst hm3
   obtain ⟨w4, hw4⟩ : ∃ w4, w4 = w3.alloc (.cells #[.int .i64 x.k, .int .u32 x.n, .int .u32 x.m, .int .u64 x.t, .int .u32 x.q, .int .i64 x.wh, .int .i64 x.wy, .int .u64 x.at0, .int .u64 x.no, .int .u32 x.nd, .int .u32 x.rg, .bool x.ys, .int .u64 x.fr, .int .u64 x.un, .int .u8 x.lv] 30) := ⟨_, rfl⟩
   have hb4 : Below w3.heap.size w3 w4 := by rw [hw4]; exact below_al bR _
   have HB4 := h_ (below_on HB2.out (below_on hb3 hb4))
   have HK4 : Hid (Below w2.heap.size w2 w4) := below_on hb3 hb4
   have HW4 : Hid (Below w.heap.size w w4) := below_on HB0.out HB4.out
   have hq4 : RowB w4 w3.heap.size [.int .i64 x.k, .int .u32 x.n, .int .u32 x.m, .int .u64 x.t, .int .u32 x.q, .int .i64 x.wh, .int .i64 x.wy, .int .u64 x.at0, .int .u64 x.no, .int .u32 x.nd, .int .u32 x.rg, .bool x.ys, .int .u64 x.fr, .int .u64 x.un, .int .u8 x.lv] := by rw [hw4]; exact RowB.new w3 _ _
   have z0 := hq4.1 0 _ rfl
   have z1 := hq4.1 1 _ rfl
   have z2 := hq4.1 2 _ rfl
   have z3 := hq4.1 3 _ rfl
   have z4 := hq4.1 4 _ rfl
   have z5 := hq4.1 5 _ rfl
   have z6 := hq4.1 6 _ rfl
   have z7 := hq4.1 7 _ rfl
   have z8 := hq4.1 8 _ rfl
   have z9 := hq4.1 9 _ rfl
   have z10 := hq4.1 10 _ rfl
   have z11 := hq4.1 11 _ rfl
   have z12 := hq4.1 12 _ rfl
   have z13 := hq4.1 13 _ rfl
   have z14 := hq4.1 14 _ rfl
   obtain ⟨⟨x0, x1, x2, x3, x4, x5, x6, x7, x8, x9, x10, x11, x12, x13, x14⟩, y0, y1, y2, y3, y4, y5, y6, y7, y8, y9, y10, y11, y12, y13, y14⟩ := HX.out w4 HB4.out
   have HE4 := h_ hw4
   rw [hw4] at z0 z1 z2 z3 z4 z5 z6 z7 z8 z9 z10 z11 z12 z13 z14 x0 x1 x2 x3 x4 x5 x6 x7 x8 x9 x10 x11 x12 x13 x14 y0 y1 y2 y3 y4 y5 y6 y7 y8 y9 y10 y11 y12 y13 y14
   have hxx : ∀ w, (Op.equalIn 10000 30 (.agg #[.int .i64 x.k, .int .u32 x.n, .int .u32 x.m, .int .u64 x.t, .int .u32 x.q, .int .i64 x.wh, .int .i64 x.wy, .int .u64 x.at0, .int .u64 x.no, .int .u32 x.nd, .int .u32 x.rg, .bool x.ys, .int .u64 x.fr, .int .u64 x.un, .int .u8 x.lv]) (.agg #[.int .i64 x.k, .int .u32 x.n, .int .u32 x.m, .int .u64 x.t, .int .u32 x.q, .int .i64 x.wh, .int .i64 x.wy, .int .u64 x.at0, .int .u64 x.no, .int .u32 x.nd, .int .u32 x.rg, .bool x.ys, .int .u64 x.fr, .int .u64 x.un, .int .u8 x.lv])).run Tryz.prog w = .ok true w := fun w => by rw [eqRc_run x x w, (sameRc_iff x x).2 rfl]
   clear hb3 hb4 hq4 hw4
   go_wp2_with fail
   refine (dnum10_any 0 _).mono ?_
   rintro e9 w9 ⟨rfl, h9⟩
   rw [← h9]
   clear h9 w9
   go_wp2_with fail
   rw [← HE4.out]
   clear z0 z1 z2 z3 z4 z5 z6 z7 z8 z9 z10 z11 z12 z13 z14 x0 x1 x2 x3 x4 x5 x6 x7 x8 x9 x10 x11 x12 x13 x14 y0 y1 y2 y3 y4 y5 y6 y7 y8 y9 y10 y11 y12 y13 y14 hxx
   refine (dnum10_any 0 _).mono ?_
   rintro e9 w9 ⟨rfl, h9⟩
   rw [← h9]
   clear h9 w9
   go_wp2_with fail
   refine (dnum10_any 2 _).mono ?_
   rintro e9 w9 ⟨rfl, h9⟩
   rw [← h9]
   clear h9 w9
   go_wp2_with fail
   refine (dnum10_any 0 _).mono ?_
   rintro e9 w9 ⟨rfl, h9⟩
   rw [← h9]
   clear h9 w9
   go_wp2_with fail
   refine (dnum10_any 2 _).mono ?_
   rintro e9 w9 ⟨rfl, h9⟩
   rw [← h9]
   clear h9 w9
   go_wp2_with fail
   refine (dnum10_any 2 _).mono ?_
   rintro e9 w9 ⟨rfl, h9⟩
   rw [← h9]
   clear h9 w9
   go_wp2_with fail
   refine (dworks_any _ (HT.out _ HW4.out)).mono ?_
   rintro e9 w9 ⟨rfl, hb9⟩
   have HB9 := h_ (below_on HW4.out hb9)
   clear hb9
   go_wp2_with fail
   go_ret
   exact ⟨rfl, HB9.out⟩
 ·obtain ⟨z, hz⟩ := hno2
  rw [hz] at hr1
  cases hr1

end Go.Proofs.YtmbckbgojjlplaaGreatDoor

