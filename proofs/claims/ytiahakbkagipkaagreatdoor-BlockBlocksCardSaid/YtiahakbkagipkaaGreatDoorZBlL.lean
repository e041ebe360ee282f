/- BlockBlocks, walked. -/
import Derived.Test.YtiahakbkagipkaaGreatDoorZHz
import Derived.Test.YtiahakbkagipkaaGreatDoorZBlE
set_option maxHeartbeats 16000000
set_option linter.unusedSimpArgs false
set_option linter.unusedVariables false
set_option maxRecDepth 100000
namespace Go.Proofs.YtiahakbkagipkaaGreatDoor
open Go Go.RowKit Go.Shelf

attribute [local go_sem] Oper.semAt_some

theorem errB_zero2 {b : Bl} (h : errB b = 0) : rightB b = true ∧ (zeroK b b.s.toNat).err = 0 := by
 unfold errB at h
 split at h
 ·exact ⟨‹_›, h⟩
 ·cases h

theorem walk_bblocks (x : LB) (hok : x.b.ok) (w : World) (hx : RdLB w w.heap.size x) (ht : TabW w) :
  Calls Tryz.prog 3 #[.agg #[.int .u64 x.b.t, .int .u64 x.b.n, .int .i64 x.b.s, .slice x.a x.b.d.length x.c]] w fun e w' => e = .returned (.bool true) ∧ Below w.heap.size w w' := by
 obtain ⟨W, hW⟩ : ∃ W, W = w.alloc (.cells #[.int .u64 x.b.t, .int .u64 x.b.n, .int .i64 x.b.s, .slice x.a x.b.d.length x.c] 26) := ⟨_, rfl⟩
 have HB0 : Hid (Below w.heap.size w W) := by rw [hW]; exact below_al bR _
 have HX : Hid (∀ w', Below W.heap.size W w' → w'.cell? ⟨w.heap.size, 0, none⟩ = some (.int .u64 x.b.t) ∧ w'.cell? ⟨w.heap.size, 1, none⟩ = some (.int .u64 x.b.n) ∧ w'.cell? ⟨w.heap.size, 2, none⟩ = some (.int .i64 x.b.s) ∧ w'.cell? ⟨w.heap.size, 3, none⟩ = some (.slice x.a x.b.d.length x.c)) := fun w' h => by
  rw [hW] at h
  exact bbox h
 have HT : Hid (∀ w', Below w.heap.size w w' → TabW w') := fun w' h => ht.on h
 have HRd : Hid (∀ w', Below W.heap.size W w' → RdB w' w'.heap.size x.a x.b.d) := fun w' h => (((hx.2.2.below HB0.out).mono HB0.out.size).below h).mono h.size
 have HCx := h_ hx.1
 have HOk := h_ hok
 have HW := h_ hW
 clear hW ht hx hok
 obtain ⟨x0, x1, x2, x3⟩ := HX.out W bR
 rw [HW.out] at x0 x1 x2 x3
 have hc : (2000 < x.b.d.length ∧ x.b.d.length < 65000) ∨ (2000 < x.b.d.length ∧ ¬ x.b.d.length < 65000 ∧ 66000 < x.b.d.length) ∨ ((2000 : Int) < (x.b.d.length : Int) ∧ ¬ (x.b.d.length : Int) < 65000 ∧ ¬ (66000 : Int) < (x.b.d.length : Int)) ∨ (¬ (2000 : Int) < (x.b.d.length : Int) ∧ ¬ (66000 : Int) < (x.b.d.length : Int)) := by
  by_cases h1 : 2000 < x.b.d.length
  ·by_cases h2 : x.b.d.length < 65000
   ·exact .inl ⟨h1, h2⟩
   ·by_cases h3 : 66000 < x.b.d.length
    ·exact .inr (.inl ⟨h1, h2, h3⟩)
    ·exact .inr (.inr (.inl ⟨by omega, by omega, by omega⟩))
  ·exact .inr (.inr (.inr ⟨by omega, by omega⟩))
 rcases hc with ⟨h1, h2⟩ | ⟨h1, h2, h3⟩ | hc
 ·have d1 : (2000 : Int) < (x.b.d.length : Int) := by omega
  have d2 : (x.b.d.length : Int) < 65000 := by omega
  go_enter Tryz.func3, Tryz.ntmps3
  go_wp2_with fail
  rw [← HW.out]
  refine (bworks_any _ (HT.out _ HB0.out)).mono ?_
  rintro e9 w9 ⟨rfl, hb9⟩
  have HB9 := h_ (below_on HB0.out hb9)
  clear hb9
  go_wp2_with fail
  go_ret
  exact ⟨rfl, HB9.out⟩
 ·have d1 : (2000 : Int) < (x.b.d.length : Int) := by omega
  have d2 : ¬ (x.b.d.length : Int) < 65000 := by omega
  have d3 : (66000 : Int) < (x.b.d.length : Int) := by omega
  go_enter Tryz.func3, Tryz.ntmps3
  go_wp2_with fail
  rw [← HW.out]
  refine (bworks_any _ (HT.out _ HB0.out)).mono ?_
  rintro e9 w9 ⟨rfl, hb9⟩
  have HB9 := h_ (below_on HB0.out hb9)
  clear hb9
  go_wp2_with fail
  go_ret
  exact ⟨rfl, HB9.out⟩
 have hd70 : x.b.d.length ≤ 70000 := by omega
 rcases hc with ⟨d1, d2, d3⟩ | ⟨d1, d3⟩
 all_goals
  have HRc : Hid (∀ w', Below W.heap.size W w' → Calls Tryz.prog 9 #[.agg #[.int .u64 x.b.t, .int .u64 x.b.n, .int .i64 x.b.s, .slice x.a x.b.d.length x.c]] w' fun e w'' => e = .returned (.int .i64 (errB x.b : Nat)) ∧ Below w'.heap.size w' w'') := fun w' h => refBCheck_any x.b HOk.out x.a x.c w' HCx.out (by omega) (HRd.out w' h)
  have HCk : Hid (∀ w', Below W.heap.size W w' → Calls Tryz.prog 8 #[.agg #[.int .u64 x.b.t, .int .u64 x.b.n, .int .i64 x.b.s, .slice x.a x.b.d.length x.c]] w' fun e w'' => e = .returned (.int .i64 (errB x.b : Nat)) ∧ Below w'.heap.size w' w'') := fun w' h => blkCheck_any x.b x.a x.c HOk.out w' (HRd.out w' h) HCx.out (by omega) (HT.out w' (below_on HB0.out h))
  go_enter Tryz.func3, Tryz.ntmps3
  go_wp2_with fail
  rw [← HW.out]
  clear x0 x1 x2 x3
  refine (blkEncode_any x.b x.a x.c HOk.out W (HRd.out W bR) HCx.out (by omega) (HT.out W HB0.out)).mono ?_
  rintro e0 w1 ⟨hb1, ⟨he, u, rfl, hown⟩ | ⟨he, rfl⟩⟩
  rotate_left
  ·have HK1 := h_ hb1
   have hne : ((errB x.b : Int) == 0) = false := by simp; omega
   generalize errB x.b = z at *
   clear hb1 he
   obtain ⟨x0, x1, x2, x3⟩ := HX.out w1 HK1.out
   go_wp2_with fail
   refine (HCk.out w1 HK1.out).mono ?_
   rintro e2 w2 ⟨rfl, hb2⟩
   have HK2 := h_ (below_on HK1.out hb2)
   clear hb2 x0 x1 x2 x3
   obtain ⟨x0, x1, x2, x3⟩ := HX.out w2 HK2.out
   go_wp2_with fail
   refine (HRc.out w2 HK2.out).mono ?_
   rintro e3 w3 ⟨rfl, hb3⟩
   have HK3 := h_ (below_on HK2.out hb3)
   clear hb3 x0 x1 x2 x3
   go_wp2_with fail
   refine (bnum8_any z _).mono ?_
   rintro e9 w9 ⟨rfl, h9⟩
   rw [← h9]
   clear h9 w9
   go_wp2_with fail
   refine (bnum8_any z _).mono ?_
   rintro e9 w9 ⟨rfl, h9⟩
   rw [← h9]
   clear h9 w9
   go_wp2_with fail
   refine (bworks_any _ (HT.out _ (below_on HB0.out HK3.out))).mono ?_
   rintro e9 w9 ⟨rfl, hb9⟩
   have HB9 := h_ (below_on (below_on HB0.out HK3.out) hb9)
   clear hb9
   go_wp2_with fail
   go_ret
   exact ⟨rfl, HB9.out⟩
  obtain ⟨hrt, hze⟩ := errB_zero2 he
  obtain ⟨ss, hss⟩ : ∃ ss, ss = encK x.b x.b.s.toNat := ⟨_, rfl⟩
  have hrd := rdByB_enc HOk.out hrt hze
  have hlen : ss.length ≤ 65536 := by
   rw [hss, encK_len]
   exact zeroK_err.1 hze
  have hpos : 0 < ss.length := by
   rw [hss, encK_eq, List.length_append]
   have h1 : 1 ≤ (preK x.b x.b.s.toNat).length := by
    unfold preK
    split
    ·rw [List.length_append]
     have := (head_length 4 (4 : Nat)).1
     omega
    ·rw [List.length_append]
     have := (head_length 4 (5 : Nat)).1
     omega
   omega
  rw [← hss] at hown hrd
  obtain ⟨G, Cu, rfl, hG2⟩ : ∃ G C, u = .slice (some ⟨G, 0, none⟩) ss.length C ∧ G < w1.heap.size := by
   rcases hown.form with ⟨_, h⟩ | ⟨g, cap, h, hg1, hg2, _⟩
   ·have := congrArg List.length h
    simp at this
    rw [this] at hpos
    simp at hpos
   ·rw [List.length_map] at h
    exact ⟨g, cap, h, hg2⟩
  have hCu : ss.length ≤ Cu := by
   obtain ⟨A9, C9, h1, h2, _, _⟩ := hown.bytes
   injection h1 with _ _ h3
   omega
  obtain ⟨Ln, hL⟩ : ∃ L, L = ss.length := ⟨_, rfl⟩
  have HS2 : Hid (0 ≤ x.b.s ∧ x.b.s ≤ 2) := by
   obtain ⟨k, hk, hks⟩ := rightB_k hrt
   rw [Hid]
   omega
  have HRb : Hid (∀ w', Below w1.heap.size w1 w' → RdB w' w'.heap.size (some ⟨G, 0, none⟩) ss) := fun w' h => ((RdB.of_own hown).below h).mono h.size
  have HRdd := h_ hrd
  have HSS := h_ hss
  have HCu := h_ hCu
  have HLn := h_ hL
  have hL6 : Ln ≤ 65536 := by omega
  have HK1 := h_ hb1
  rw [← hL]
  rw [he] at HCk HRc
  clear hown hrd hrt hze hss hb1 hlen hpos hCu hL hG2 he
  obtain ⟨x0, x1, x2, x3⟩ := HX.out w1 HK1.out
  go_wp2_with fail
  refine (HCk.out w1 HK1.out).mono ?_
  rintro e2 w2 ⟨rfl, hb2⟩
  have HK2 := h_ (below_on HK1.out hb2)
  have HD2 := h_ hb2
  clear hb2 x0 x1 x2 x3
  obtain ⟨x0, x1, x2, x3⟩ := HX.out w2 HK2.out
  go_wp2_with fail
  refine (HRc.out w2 HK2.out).mono ?_
  rintro e3 w3 ⟨rfl, hb3⟩
  have HK3 := h_ (below_on HK2.out hb3)
  have HD3 := h_ (below_on HD2.out hb3)
  clear hb3 x0 x1 x2 x3
  go_wp2_with fail
  refine (bnum8_any 0 _).mono ?_
  rintro e9 w9 ⟨rfl, h9⟩
  rw [← h9]
  clear h9 w9
  go_wp2_with fail
  refine (bnum8_any 0 _).mono ?_
  rintro e9 w9 ⟨rfl, h9⟩
  rw [← h9]
  clear h9 w9
  go_wp2_with fail
  refine (blkDecode_any (some ⟨G, 0, none⟩) Ln Cu ss HLn.out w3 (HRb.out w3 HD3.out) (by have := HCu.out; have := HLn.out; omega) (by have := HLn.out; omega) (HT.out w3 (below_on HB0.out HK3.out))).mono ?_
  rintro e4 w4 ⟨hb4, hm⟩
  rw [HRdd.out] at hm
  obtain ⟨v, rfl, a2, c2, rfl, hc2, _, hr2⟩ := hm
  obtain ⟨w5, hw5⟩ : ∃ w5, w5 = w4.alloc (.cells #[.int .u64 x.b.t, .int .u64 x.b.n, .int .i64 x.b.s, .slice a2 x.b.d.length c2] 26) := ⟨_, rfl⟩
  have hb5 : Below w4.heap.size w4 w5 := by rw [hw5]; exact below_al bR _
  have HK5 := h_ (below_on HK3.out (below_on hb4 hb5))
  have HD5 := h_ (below_on HD3.out (below_on hb4 hb5))
  have HB5 := h_ (below_on HB0.out HK5.out)
  have HR2 : Hid (∀ w', Below w5.heap.size w5 w' → RdB w' w'.heap.size a2 x.b.d) := fun w' h => by
   have h0 : RdB w4 w4.heap.size a2 x.b.d := RdBS.rdB hr2 (fun b q => q.2)
   exact ((((h0.below hb5).mono hb5.size).below h).mono h.size)
  have HQ : Hid (∀ w', Below w5.heap.size w5 w' → w'.cell? ⟨w4.heap.size, 0, none⟩ = some (.int .u64 x.b.t) ∧ w'.cell? ⟨w4.heap.size, 1, none⟩ = some (.int .u64 x.b.n) ∧ w'.cell? ⟨w4.heap.size, 2, none⟩ = some (.int .i64 x.b.s) ∧ w'.cell? ⟨w4.heap.size, 3, none⟩ = some (.slice a2 x.b.d.length c2)) := fun w' h => by
   rw [hw5] at h
   exact bbox (b := x.b) h
  have HS : Hid (∀ w', Below w5.heap.size w5 w' → (w'.cell? ⟨w.heap.size, 0, none⟩ = some (.int .u64 x.b.t) ∧ w'.cell? ⟨w.heap.size, 1, none⟩ = some (.int .u64 x.b.n) ∧ w'.cell? ⟨w.heap.size, 2, none⟩ = some (.int .i64 x.b.s) ∧ w'.cell? ⟨w.heap.size, 3, none⟩ = some (.slice x.a x.b.d.length x.c)) ∧ (w'.cell? ⟨w4.heap.size, 0, none⟩ = some (.int .u64 x.b.t) ∧ w'.cell? ⟨w4.heap.size, 1, none⟩ = some (.int .u64 x.b.n) ∧ w'.cell? ⟨w4.heap.size, 2, none⟩ = some (.int .i64 x.b.s) ∧ w'.cell? ⟨w4.heap.size, 3, none⟩ = some (.slice a2 x.b.d.length c2)) ∧ (convert 24 9 (.slice (some ⟨G, 0, none⟩) Ln Cu)).run Tryz.prog w' = .ok (.string ⟨ss.toArray⟩) w') := fun w' h =>
   ⟨HX.out w' (below_on HK5.out h), HQ.out w' h, (HRb.out w' (below_on HD5.out h)).text (P := Tryz.prog) 24 9 5 Ln Cu HLn.out Tryz.underlying24 Tryz.underlying5 Tryz.underlying9⟩
  have HW5 := h_ hw5
  clear hb4 hb5 hw5 hr2 hc2
  go_wp2_with fail
  rw [← HW5.out]
  have F : Below w5.heap.size w5 w5.drew := bR.drew
  refine wp_region_held_drew (S := fun w' => (w'.cell? ⟨w.heap.size, 0, none⟩ = some (.int .u64 x.b.t) ∧ w'.cell? ⟨w.heap.size, 1, none⟩ = some (.int .u64 x.b.n) ∧ w'.cell? ⟨w.heap.size, 2, none⟩ = some (.int .i64 x.b.s) ∧ w'.cell? ⟨w.heap.size, 3, none⟩ = some (.slice x.a x.b.d.length x.c)) ∧ (w'.cell? ⟨w4.heap.size, 0, none⟩ = some (.int .u64 x.b.t) ∧ w'.cell? ⟨w4.heap.size, 1, none⟩ = some (.int .u64 x.b.n) ∧ w'.cell? ⟨w4.heap.size, 2, none⟩ = some (.int .i64 x.b.s) ∧ w'.cell? ⟨w4.heap.size, 3, none⟩ = some (.slice a2 x.b.d.length c2)) ∧ (convert 24 9 (.slice (some ⟨G, 0, none⟩) Ln Cu)).run Tryz.prog w' = .ok (.string ⟨ss.toArray⟩) w') (by kernel_rfl) (HS.out _ F) (fun hHeld => ?_)
  refine takeL 0 (v := ?_) ?_ ‹_› ?_
  rotate_left
  ·intro w hSw; (try dsimp only at hSw); go_simp; all_goals with_reducible rfl
  simp only [Act.put, zA, zB, zC]
  refine takeL 1 (v := ?_) ?_ ‹_› ?_
  rotate_left
  ·intro w hSw; (try dsimp only at hSw); go_simp; all_goals with_reducible rfl
  simp only [Act.put, zA, zB, zC]
  refine takeL 2 (v := ?_) ?_ ‹_› ?_
  rotate_left
  ·intro w hSw; (try dsimp only at hSw); go_simp; all_goals with_reducible rfl
  simp only [Act.put, zA, zB, zC]
  refine wpAnyH_ready (rs := [3]) (by kernel_rfl) (by simp) (.cons rfl (fun K hK => ?_) .nil)
  go_simp
  refine (rEncodeB_any x.b HOk.out HS2.out x.a x.c _ HCx.out (by omega) (HRd.out _ (below_on HK5.out F))).mono ?_
  rintro e w6 ⟨u, rfl, hown, hb⟩
  obtain ⟨aR, cR, rfl, _, hrR, _⟩ := hown.bytes
  rw [← HSS.out] at hrR
  have hlR : (encK x.b x.b.s.toNat).length = Ln := by rw [← HSS.out]; exact HLn.out.symm
  rw [hlR]
  have kR := hrR.text (P := Tryz.prog) 24 9 5 Ln cR HLn.out Tryz.underlying24 Tryz.underlying5 Tryz.underlying9
  replace F := below_on F hb
  clear hown hrR hb hlR
  refine hK.out _ _ (HS.out _ F) (fun hHeld => ?_)
  clear hK K
  try simp only [Act.put, zA, zB, zC]
  refine wpAnyH_ready (rs := [4]) (by kernel_rfl) (by simp) (.cons rfl (fun K hK => ?_) .nil)
  go_simp
  clear kR
  refine hK.out _ _ (HS.out _ F) (fun hHeld => ?_)
  clear hK K
  try simp only [Act.put, zA, zB, zC]
  refine takeL 5 (v := ?_) ?_ ‹_› ?_
  rotate_left
  ·intro w hSw; (try dsimp only at hSw); go_simp; all_goals with_reducible rfl
  simp only [Act.put, zA, zB, zC]
  refine takeL 6 (v := ?_) ?_ ‹_› ?_
  rotate_left
  ·intro w hSw; (try dsimp only at hSw); go_simp; all_goals with_reducible rfl
  simp only [Act.put, zA, zB, zC]
  refine takeL 7 (v := ?_) ?_ ‹_› ?_
  rotate_left
  ·intro w hSw; (try dsimp only at hSw); go_simp; all_goals with_reducible rfl
  simp only [Act.put, zA, zB, zC]
  refine wpAnyH_ready (rs := [8]) (by kernel_rfl) (by simp) (.cons rfl (fun K hK => ?_) .nil)
  go_simp
  refine (bnum8_any 0 _).mono ?_
  rintro e wz ⟨rfl, rfl⟩
  refine hK.out _ _ (HS.out _ F) (fun hHeld => ?_)
  clear hK K
  try simp only [Act.put, zA, zB, zC]
  refine takeL 9 (v := ?_) ?_ ‹_› ?_
  rotate_left
  ·intro w hSw; (try dsimp only at hSw); go_simp; all_goals with_reducible rfl
  simp only [Act.put, zA, zB, zC]
  refine takeL 10 (v := ?_) ?_ ‹_› ?_
  rotate_left
  ·intro w hSw; (try dsimp only at hSw); go_simp; all_goals with_reducible rfl
  simp only [Act.put, zA, zB, zC]
  refine takeL 11 (v := ?_) ?_ ‹_› ?_
  rotate_left
  ·intro w hSw; (try dsimp only at hSw); go_simp; all_goals with_reducible rfl
  simp only [Act.put, zA, zB, zC]
  refine takeL 12 (v := ?_) ?_ ‹_› ?_
  rotate_left
  ·intro w hSw; (try dsimp only at hSw); go_simp; all_goals with_reducible rfl
  simp only [Act.put, zA, zB, zC]
  refine takeL 13 (v := ?_) ?_ ‹_› ?_
  rotate_left
  ·intro w hSw; (try dsimp only at hSw); go_simp; all_goals with_reducible rfl
  simp only [Act.put, zA, zB, zC]
  refine wpAnyH_ready (rs := [14]) (by kernel_rfl) (by simp) (.cons rfl (fun K hK => ?_) .nil)
  go_simp
  refine (refBSame_any x.b x.b _ _ _ _ _ (HRd.out _ (below_on HK5.out F)) (HR2.out _ F)).mono ?_
  rintro e w7 ⟨rfl, hb⟩
  rw [(sameB_iff x.b x.b).2 rfl]
  replace F := below_on F hb
  clear hb
  refine hK.out _ _ (HS.out _ F) (fun hHeld => ?_)
  clear hK K
  try simp only [Act.put, zA, zB, zC]
  refine takeL 15 (v := ?_) ?_ ‹_› ?_
  rotate_left
  ·intro w hSw; (try dsimp only at hSw); go_simp; all_goals with_reducible rfl
  simp only [Act.put, zA, zB, zC]
  refine takeL 16 (v := ?_) ?_ ‹_› ?_
  rotate_left
  ·intro w hSw; (try dsimp only at hSw); go_simp; all_goals with_reducible rfl
  simp only [Act.put, zA, zB, zC]
  refine wpAnyH_ready (rs := [17]) (by kernel_rfl) (by simp) (.cons rfl (fun K hK => ?_) .nil)
  go_simp
  refine (bworks_any _ (HT.out _ (below_on HB5.out F))).mono ?_
  rintro e w9 ⟨rfl, hb⟩
  replace F := below_on F hb
  clear hb
  refine hK.out _ _ (HS.out _ F) (fun hHeld => ?_)
  clear hK K
  try simp only [Act.put, zA, zB, zC]
  refine takeL 18 (v := ?_) ?_ ‹_› ?_
  rotate_left
  ·intro w hSw; (try dsimp only at hSw); go_simp; all_goals with_reducible rfl
  simp only [Act.put, zA, zB, zC]
  refine takeL 19 (v := ?_) ?_ ‹_› ?_
  rotate_left
  ·intro w hSw; (try dsimp only at hSw); go_simp; all_goals with_reducible rfl
  simp only [Act.put, zA, zB, zC]
  clear hHeld
  refine wpAnyH_done (by kernel_rfl) ?_ _
  have HF := h_ (below_on HB5.out F)
  clear F
  go_wp2_with fail
  go_ret
  exact ⟨rfl, HF.out⟩

end Go.Proofs.YtiahakbkagipkaaGreatDoor

