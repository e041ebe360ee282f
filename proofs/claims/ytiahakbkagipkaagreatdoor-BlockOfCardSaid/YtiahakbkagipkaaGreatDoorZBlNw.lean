/- BlockOf, walked. -/
import Derived.Test.YtiahakbkagipkaaGreatDoorZHy
import Derived.Test.YtiahakbkagipkaaGreatDoorZBlE
import Derived.Test.YtiahakbkagipkaaGreatDoorZBk
set_option maxHeartbeats 16000000
set_option linter.unusedSimpArgs false
set_option linter.unusedVariables false
set_option maxRecDepth 100000
namespace Go.Proofs.YtiahakbkagipkaaGreatDoor
open Go Go.RowKit Go.Shelf

attribute [local go_sem] Oper.semAt_some

theorem newX_rd2 {w w' : World} {A : Option Addr} {zs : List Cr} (h : NewX w w' A zs) : RdX w' w'.heap.size A zs := h.rd
theorem ofE_xs {l : List Bl} {x : Ex} (h : ofE l = .ok x) : x.xs.length ≤ 64 := by
 have h := (ofE_parts h).2.1
 simp only [rightEx, rightX, Bool.and_eq_true, decide_eq_true_eq] at h
 exact h.2.1.1

theorem walk_bof (A : Option Addr) (C : Nat) (xs : List LB) (w : World) (hC : xs.length ≤ C) (hl47 : xs.length ≤ 140737488351232) (hr : RdLs w w.heap.size A xs) (ht : TabW w) :
  Calls Tryz.prog 5 #[.slice A xs.length C] w fun e w' => e = .returned (.bool true) ∧ Below w.heap.size w w' := by
 have HT : Hid (∀ w', Below w.heap.size w w' → TabW w') := fun w' h => ht.on h
 have HL := h_ hr
 have HC := h_ hC
 clear hr ht hC
 go_enter Tryz.func5, Tryz.ntmps5
 go_wp2_with fail
 refine (few8_any xs A C 8 w HL.out (by omega)).mono ?_
 rintro e w1 ⟨rfl, h9⟩
 rw [← h9]
 clear h9 w1
 cases hq : fewB (xs.map LB.b) 8
 ·go_wp2_with fail
  refine (bworks_any _ (HT.out _ bR)).mono ?_
  rintro e9 w9 ⟨rfl, hb9⟩
  have HB9 := h_ (below_on bR hb9)
  clear hb9
  go_wp2_with fail
  go_ret
  exact ⟨rfl, HB9.out⟩
 obtain ⟨h8, hd⟩ := few_len hq
 rw [List.length_map] at h8
 have h8 : xs.length ≤ 8 := by omega
 have HD : Hid (∀ x ∈ xs, x.b.d.length ≤ 500) := fun x hx => hd x.b (List.mem_map_of_mem hx)
 clear hd hq
 go_wp2_with fail
 refine (blkOf_any xs A C w HL.out HC.out (by omega) (HT.out w bR)).mono ?_
 rintro e w1 ⟨hb1, hm⟩
 rcases ofE_cases (xs.map LB.b) with ⟨x, hx⟩ | hx
 ·rw [hx] at hm
  obtain ⟨A1, C1, rfl, hC1, hnx⟩ := hm
  obtain ⟨w2, hw2⟩ : ∃ w2, w2 = w1.alloc (.cells #[.int .u32 x.n, .int .u32 x.m, .int .u64 x.g, .int .u8 x.l, .int .u8 x.c, .bool x.b, .slice A1 x.xs.length C1] 46) := ⟨_, rfl⟩
  have hb2 : Below w1.heap.size w1 w2 := by rw [hw2]; exact below_al bR _
  have HB2 : Hid (Below w.heap.size w w2) := below_on hb1 hb2
  have HR2 : Hid (RowB w2 w1.heap.size [.int .u32 x.n, .int .u32 x.m, .int .u64 x.g, .int .u8 x.l, .int .u8 x.c, .bool x.b, .slice A1 x.xs.length C1]) := by rw [hw2]; exact RowB.new w1 _ _
  have HS2 : Hid (w1.heap.size < w2.heap.size) := by rw [Hid, hw2]; simp
  have HN2 : Hid (RdX w2 w2.heap.size A1 x.xs) := (newX_rd2 hnx).on hb2
  have HC1 := h_ hC1
  have HF : Hid (x.xs.length ≤ 64) := ofE_xs hx
  clear hC1 hnx
  have HW2 := h_ hw2
  clear hb1 hb2 hw2
  go_wp2_with fail
  rw [← HW2.out]
  refine (refBOf_any xs A C w2 (HL.out.on HB2.out) HC.out h8 HD.out).mono ?_
  rintro e w3 ⟨hb3, ⟨y, A2, C2, hy, rfl, hC2, hrd⟩ | ⟨hy, _⟩⟩
  rotate_left
  ·rw [hx] at hy
   cases hy
  obtain rfl : x = y := by
   rw [hx] at hy
   injection hy
  obtain ⟨w4, hw4⟩ : ∃ w4, w4 = w3.alloc (.cells #[.int .u32 x.n, .int .u32 x.m, .int .u64 x.g, .int .u8 x.l, .int .u8 x.c, .bool x.b, .slice A2 x.xs.length C2] 46) := ⟨_, rfl⟩
  have hb4 : Below w3.heap.size w3 w4 := by rw [hw4]; exact below_al bR _
  have hb24 : Below w2.heap.size w2 w4 := below_on hb3 hb4
  have HB4 : Hid (Below w.heap.size w w4) := below_on HB2.out hb24
  have HR4 : Hid (RowB w4 w3.heap.size [.int .u32 x.n, .int .u32 x.m, .int .u64 x.g, .int .u8 x.l, .int .u8 x.c, .bool x.b, .slice A2 x.xs.length C2]) := by rw [hw4]; exact RowB.new w3 _ _
  have HQ4 := h_ (HR2.out.on hb24 HS2.out)
  have HM4 : Hid (RdX w4 w4.heap.size A1 x.xs) := HN2.out.on hb24
  have HM5 : Hid (RdX w4 w4.heap.size A2 x.xs) := hrd.on hb4
  have HC2 := h_ hC2
  clear hC2 hrd
  have HW4 := h_ hw4
  clear hb3 hb4 hb24 hy hw4
  have y0 := HQ4.out.1 0 _ rfl
  have z0 := HR4.out.1 0 _ rfl
  have y1 := HQ4.out.1 1 _ rfl
  have z1 := HR4.out.1 1 _ rfl
  have y2 := HQ4.out.1 2 _ rfl
  have z2 := HR4.out.1 2 _ rfl
  have y3 := HQ4.out.1 3 _ rfl
  have z3 := HR4.out.1 3 _ rfl
  have y4 := HQ4.out.1 4 _ rfl
  have z4 := HR4.out.1 4 _ rfl
  have y5 := HQ4.out.1 5 _ rfl
  have z5 := HR4.out.1 5 _ rfl
  have y6 := HQ4.out.1 6 _ rfl
  have z6 := HR4.out.1 6 _ rfl
  rw [HW4.out] at y0 z0 y1 z1 y2 z2 y3 z3 y4 z4 y5 z5 y6 z6
  go_wp2_with fail
  rw [← HW4.out]
  clear y0 z0 y1 z1 y2 z2 y3 z3 y4 z4 y5 z5 y6 z6
  refine (refSameEx_any x x A1 A2 C1 C2 w4 HM4.out HM5.out HC1.out HC2.out (by have := HF.out; omega) (by have := HF.out; omega)).mono ?_
  rintro e w5 ⟨rfl, hb5⟩
  rw [(sameEx_iff x x).2 rfl]
  have HB5 := h_ (below_on HB4.out hb5)
  clear hb5
  go_wp2_with fail
  refine (bnum8_any 0 _).mono ?_
  rintro e9 w9 ⟨rfl, h9⟩
  rw [← h9]
  clear h9 w9
  go_wp2_with fail
  refine (bworks_any _ (HT.out _ HB5.out)).mono ?_
  rintro e9 w9 ⟨rfl, hb9⟩
  have HB9 := h_ (below_on HB5.out hb9)
  clear hb9
  go_wp2_with fail
  go_ret
  exact ⟨rfl, HB9.out⟩
 ·rw [hx] at hm
  have hm : e = .returned (.tuple #[.agg #[.int .u32 0, .int .u32 0, .int .u64 0, .int .u8 0, .int .u8 0, .bool false, .slice none 0 0], .int .i64 161]) := hm
  subst hm
  obtain ⟨w2, hw2⟩ : ∃ w2, w2 = w1.alloc (.cells #[.int .u32 0, .int .u32 0, .int .u64 0, .int .u8 0, .int .u8 0, .bool false, .slice none 0 0] 46) := ⟨_, rfl⟩
  have hb2 : Below w1.heap.size w1 w2 := by rw [hw2]; exact below_al bR _
  have HB2 : Hid (Below w.heap.size w w2) := below_on hb1 hb2
  have HR2 : Hid (RowB w2 w1.heap.size [.int .u32 0, .int .u32 0, .int .u64 0, .int .u8 0, .int .u8 0, .bool false, .slice none 0 0]) := by rw [hw2]; exact RowB.new w1 _ _
  have HS2 : Hid (w1.heap.size < w2.heap.size) := by rw [Hid, hw2]; simp
  have HW2 := h_ hw2
  clear hb1 hb2 hw2
  go_wp2_with fail
  rw [← HW2.out]
  refine (refBOf_any xs A C w2 (HL.out.on HB2.out) HC.out h8 HD.out).mono ?_
  rintro e w3 ⟨hb3, ⟨y, A2, C2, hy, _⟩ | ⟨hy, rfl⟩⟩
  ·rw [hx] at hy
   cases hy
  obtain ⟨w4, hw4⟩ : ∃ w4, w4 = w3.alloc (.cells #[.int .u32 0, .int .u32 0, .int .u64 0, .int .u8 0, .int .u8 0, .bool false, .slice none 0 0] 46) := ⟨_, rfl⟩
  have hb4 : Below w3.heap.size w3 w4 := by rw [hw4]; exact below_al bR _
  have hb24 : Below w2.heap.size w2 w4 := below_on hb3 hb4
  have HB4 : Hid (Below w.heap.size w w4) := below_on HB2.out hb24
  have HR4 : Hid (RowB w4 w3.heap.size [.int .u32 0, .int .u32 0, .int .u64 0, .int .u8 0, .int .u8 0, .bool false, .slice none 0 0]) := by rw [hw4]; exact RowB.new w3 _ _
  have HQ4 := h_ (HR2.out.on hb24 HS2.out)
  have HW4 := h_ hw4
  clear hb3 hb4 hb24 hy hw4
  have y0 := HQ4.out.1 0 _ rfl
  have z0 := HR4.out.1 0 _ rfl
  have y1 := HQ4.out.1 1 _ rfl
  have z1 := HR4.out.1 1 _ rfl
  have y2 := HQ4.out.1 2 _ rfl
  have z2 := HR4.out.1 2 _ rfl
  have y3 := HQ4.out.1 3 _ rfl
  have z3 := HR4.out.1 3 _ rfl
  have y4 := HQ4.out.1 4 _ rfl
  have z4 := HR4.out.1 4 _ rfl
  have y5 := HQ4.out.1 5 _ rfl
  have z5 := HR4.out.1 5 _ rfl
  have y6 := HQ4.out.1 6 _ rfl
  have z6 := HR4.out.1 6 _ rfl
  rw [HW4.out] at y0 z0 y1 z1 y2 z2 y3 z3 y4 z4 y5 z5 y6 z6
  go_wp2_with fail
  rw [← HW4.out]
  clear y0 z0 y1 z1 y2 z2 y3 z3 y4 z4 y5 z5 y6 z6
  refine (refSameEx_any ex0 ex0 none none 0 0 w4 (.inl rfl) (.inl rfl) (Nat.le_refl _) (Nat.le_refl _) (by decide) (by decide)).mono ?_
  rintro e w5 ⟨rfl, hb5⟩
  rw [(sameEx_iff ex0 ex0).2 rfl]
  have HB5 := h_ (below_on HB4.out hb5)
  clear hb5
  go_wp2_with fail
  refine (bnum8_any 161 _).mono ?_
  rintro e9 w9 ⟨rfl, h9⟩
  rw [← h9]
  clear h9 w9
  go_wp2_with fail
  refine (bnum8_any 161 _).mono ?_
  rintro e9 w9 ⟨rfl, h9⟩
  rw [← h9]
  clear h9 w9
  go_wp2_with fail
  refine (bworks_any _ (HT.out _ HB5.out)).mono ?_
  rintro e9 w9 ⟨rfl, hb9⟩
  have HB9 := h_ (below_on HB5.out hb9)
  clear hb9
  go_wp2_with fail
  go_ret
  exact ⟨rfl, HB9.out⟩

end Go.Proofs.YtiahakbkagipkaaGreatDoor

