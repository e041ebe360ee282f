/- Package disk: the law's none. -/
import Derived.Test.YtekeooeapiodmaaZDkL2
import Derived.Test.YtekeooeapiodmaaZKe
namespace Go.Proofs.Ytekeooeapiodmaa
open Go Go.RowKit Go.Shelf
set_option linter.unusedSimpArgs false
set_option linter.unusedVariables false
set_option maxRecDepth 100000

attribute [local go_sem] Oper.semAt_some

theorem wp_rangeNone {P : Program} {g : Operand} {p1 p2 : Tmp} {body : Code} {Q : Exit → Act → World → Prop} {a : Act} {w : World} {gf : Nat} {lb : Array Value} {v1 v2 : Nat → Value} (hg : a.eval g = .func (.func gf) #[] lb) (eg : ∀ args w, (callFunc gf args).run P w = .ok (.enter gf args) w)
    {S : Nat → Prop} (hseq : GoesO P gf lb (fun k => #[v1 k, v2 k]) S 0 w) (hS : ∀ b, S b → b < w.heap.size)
    (hdone : ∀ (D : Nat) (W : World), w.heap.size ≤ D → Below w.heap.size w W → W.heap[D]? = some (.deferred (some [])) → Q .normal { a with defers := { target := .collected D, args := #[] } :: a.defers } W) :
    (Code.rangeFunc g #[p1, p2] .skip body).wp P Q a w :=
  wp_rangeGoesO_plain hg eg hseq hS (fun _ => rfl) (fun _ X => Below w.heap.size w X) (fun _ _ _ => False) (ownFrom_below (Nat.le_refl _) (Nat.le_refl _)) (fun _ _ _ _ _ h _ _ => h) (Below.refl _ _) (fun k => { tmps := (a.tmps.setIfInBounds p1 (v1 k)).setIfInBounds p2 (v2 k), defers := [] })
    (fun l k W K hK => by
      gi_wp2
      simpa using hK) (fun l k W hk => absurd hk (Nat.not_lt_zero _)) hdone (fun D c k W _ hk => absurd hk (Nat.not_lt_zero _))

set_option maxHeartbeats 16000000 in
theorem none_any (w : World) : Calls Try.prog 14 #[] w fun e w' => e = .returned (.bool true) ∧ Below w.heap.size w w' := by
  obtain ⟨W, hW⟩ : ∃ W, W = w.alloc (.cells #[.bool false] 4) := ⟨_, rfl⟩
  have HB0 : Hid (Below w.heap.size w W) := by rw [hW]; exact below_al (Below.refl _ _) _
  have HR0 : Hid (RowB W w.heap.size [.bool false]) := by rw [hW]; exact RowB.new w _ _
  have HWz : Hid (w.heap.size < W.heap.size) := by rw [Hid, hW]; simp
  have HW := Lib.hid hW
  clear hW
  refine calls_of_marks Try.func14 rfl ?_
  simp only [Try.ntmps14, List.size_toArray, List.length_cons, List.length_nil, Nat.reduceAdd, Nat.reduceSub, Array.replicate_succ, Array.replicate_zero, List.push_toArray, List.append_toArray, List.nil_append, List.cons_append]
  go_upto_region 1 with fail
  rw [← HW.out]
  go_wp2_with fail
  refine wp_loop_rounds 3 ?_
  have HQ0 : Hid (∀ X, Below W.heap.size W X → DkN X (.pointer none) 0) := fun X hX => .inl ⟨rfl, rfl⟩
  rw [rounds_succ]
  go_wp2_with fail
  refine (read_gone none 0 _ (HQ0.out _ (Below.refl W.heap.size W))).mono ?_
  rintro e v1 ⟨rfl, hb⟩
  have HB1 : Hid (Below W.heap.size W v1) := below_on (Below.refl W.heap.size W) hb
  clear hb
  go_wp2_with fail
  refine (lies_gone none 0 _ (HQ0.out _ HB1.out)).mono ?_
  rintro e v2 ⟨rfl, hb⟩
  have HB2 : Hid (Below W.heap.size W v2) := below_on HB1.out hb
  clear hb
  go_wp2_with fail
  refine (waits_gone none _ (HQ0.out _ HB2.out)).mono ?_
  rintro e v3 ⟨b0, rfl, hcb, hlb, hb⟩
  have HB3 : Hid (Below W.heap.size W v3) := below_on HB2.out hb
  have HG0 := Lib.hid (waits2_goes b0 (fun _ => False) none 0 0 (fun _ => 0) v3 (by decide) (World.block_lt_of_cell? _ _ hcb) (fun _ h => h.elim) hcb (fun k hk => absurd hk (Nat.not_lt_zero _)))
  clear hb hcb hlb
  go_wp2_with fail
  refine wp_rangeNone (v1 := fun k => .int .i64 (k : Nat)) (v2 := fun _ => .int .i64 0) (gf := 40) (lb := #[.pointer (some ⟨b0, 0, none⟩)]) rfl (enters_of Try.func40 (by kernel_rfl) rfl) HG0.out (fun _ h => h.elim) ?_
  intro D0 v4 hD0 hb hK0
  have HB4 : Hid (Below W.heap.size W v4) := below_on HB3.out hb
  have HK0 := Lib.hid hK0
  have HDl0 : Hid (W.heap.size ≤ D0) := Nat.le_trans HB3.out.size hD0
  clear hb hK0 hD0
  go_wp2_with fail
  refine (dknum_any 1 _).mono ?_
  rintro e9 w9 ⟨rfl, h9⟩
  rw [← h9]
  clear h9 w9
  go_wp2_with fail
  refine (dknum_any 1 _).mono ?_
  rintro e9 w9 ⟨rfl, h9⟩
  rw [← h9]
  clear h9 w9
  go_wp2_with fail
  refine (write_gone none 0 none 0 0 _ (HQ0.out _ (below_on HB4.out (Below.refl v4.heap.size v4)))).mono ?_
  rintro e v5 ⟨rfl, hb⟩
  have HB5 : Hid (Below v4.heap.size v4 v5) := below_on (Below.refl v4.heap.size v4) hb
  clear hb
  go_wp2_with fail
  refine (dknum_any 1 _).mono ?_
  rintro e9 w9 ⟨rfl, h9⟩
  rw [← h9]
  clear h9 w9
  go_wp2_with fail
  refine (sync_gone none _ (HQ0.out _ (below_on HB4.out HB5.out))).mono ?_
  rintro e v6 ⟨rfl, hb⟩
  have HB6 : Hid (Below v4.heap.size v4 v6) := below_on HB5.out hb
  clear hb
  go_wp2_with fail
  refine (dknum_any 1 _).mono ?_
  rintro e9 w9 ⟨rfl, h9⟩
  rw [← h9]
  clear h9 w9
  go_wp2_with fail
  refine (crash_gone none none 0 0 _ (HQ0.out _ (below_on HB4.out HB6.out))).mono ?_
  rintro e v7 ⟨rfl, hb⟩
  have HB7 : Hid (Below v4.heap.size v4 v7) := below_on HB6.out hb
  clear hb
  go_wp2_with fail
  refine (dknum_any 1 _).mono ?_
  rintro e9 w9 ⟨rfl, h9⟩
  rw [← h9]
  clear h9 w9
  go_wp2_with fail
  refine (arm_gone none 1 _ (HQ0.out _ (below_on HB4.out HB7.out))).mono ?_
  rintro e v8 ⟨rfl, hb⟩
  have HB8 : Hid (Below v4.heap.size v4 v8) := below_on HB7.out hb
  clear hb
  go_wp2_with fail
  refine (dknum_any 1 _).mono ?_
  rintro e9 w9 ⟨rfl, h9⟩
  rw [← h9]
  clear h9 w9
  go_wp2_with fail
  refine (len_gone none _ (HQ0.out _ (below_on HB4.out HB8.out))).mono ?_
  rintro e v9 ⟨rfl, hb⟩
  have HB9 : Hid (Below v4.heap.size v4 v9) := below_on HB8.out hb
  clear hb
  go_wp2_with fail
  refine (copy_gone none _ (HQ0.out _ (below_on HB4.out HB9.out))).mono ?_
  rintro e v0a ⟨rfl, hb⟩
  have HB0a : Hid (Below v4.heap.size v4 v0a) := below_on HB9.out hb
  clear hb
  go_wp2_with fail
  refine (same_gone (.pointer none) (.pointer none) 0 0 _ (HQ0.out _ (below_on HB4.out HB0a.out)) (.inl ⟨rfl, rfl⟩) (.inl rfl)).mono ?_
  rintro e Y ⟨rfl, hb⟩
  have HC0 : Hid (Below v4.heap.size v4 Y) := below_on HB0a.out hb
  have HE0 : Hid (Below W.heap.size W Y) := below_on HB4.out HC0.out
  rw [show ((0 : Nat) == 0 && (0 : Nat) == 0) = true from rfl]
  clear hb
  go_wp2_with fail
  rw [rounds_succ]
  go_upto_region 7 with fail
  obtain ⟨Z, hZ⟩ : ∃ Z, Z = Y.alloc (.cells #[.int .i64 0, .map none, .slice none 0 0, .map none, .int .i64 0] 73) := ⟨_, rfl⟩
  have HBz : Hid (Below Y.heap.size Y Z) := by rw [hZ]; exact below_al (Below.refl _ _) _
  have HZr : Hid (RowB Z Y.heap.size [.int .i64 0, .map none, .slice none 0 0, .map none, .int .i64 0] ∧ Y.heap.size < Z.heap.size) := by
    rw [hZ]
    exact ⟨RowB.new Y _ _, by simp⟩
  have HQ1 : Hid (∀ X, Below Z.heap.size Z X → DkN X (.pointer (some ⟨Y.heap.size, 0, none⟩)) 0) := fun X hX => .inr ⟨_, rfl, ((HZr.out.1.on hX HZr.out.2).1 0 _ rfl), Nat.lt_of_lt_of_le HZr.out.2 hX.size⟩
  rw [← hZ]
  clear hZ
  go_wp2_with fail
  refine (read_gone (some ⟨Y.heap.size, 0, none⟩) 0 _ (HQ1.out _ (Below.refl Z.heap.size Z))).mono ?_
  rintro e v11 ⟨rfl, hb⟩
  have HB11 : Hid (Below Z.heap.size Z v11) := below_on (Below.refl Z.heap.size Z) hb
  clear hb
  go_wp2_with fail
  refine (lies_gone (some ⟨Y.heap.size, 0, none⟩) 0 _ (HQ1.out _ HB11.out)).mono ?_
  rintro e v12 ⟨rfl, hb⟩
  have HB12 : Hid (Below Z.heap.size Z v12) := below_on HB11.out hb
  clear hb
  go_wp2_with fail
  refine (waits_gone (some ⟨Y.heap.size, 0, none⟩) _ (HQ1.out _ HB12.out)).mono ?_
  rintro e v13 ⟨b1, rfl, hcb, hlb, hb⟩
  have HB13 : Hid (Below Z.heap.size Z v13) := below_on HB12.out hb
  have HG1 := Lib.hid (waits2_goes b1 (fun _ => False) none 0 0 (fun _ => 0) v13 (by decide) (World.block_lt_of_cell? _ _ hcb) (fun _ h => h.elim) hcb (fun k hk => absurd hk (Nat.not_lt_zero _)))
  clear hb hcb hlb
  go_wp2_with fail
  refine wp_rangeNone (v1 := fun k => .int .i64 (k : Nat)) (v2 := fun _ => .int .i64 0) (gf := 40) (lb := #[.pointer (some ⟨b1, 0, none⟩)]) rfl (enters_of Try.func40 (by kernel_rfl) rfl) HG1.out (fun _ h => h.elim) ?_
  intro D1 v14 hD1 hb hK1
  have HB14 : Hid (Below Z.heap.size Z v14) := below_on HB13.out hb
  have HK1 := Lib.hid hK1
  have HDl1 : Hid (Z.heap.size ≤ D1) := Nat.le_trans HB13.out.size hD1
  clear hb hK1 hD1
  go_wp2_with fail
  refine (dknum_any 1 _).mono ?_
  rintro e9 w9 ⟨rfl, h9⟩
  rw [← h9]
  clear h9 w9
  go_wp2_with fail
  refine (dknum_any 1 _).mono ?_
  rintro e9 w9 ⟨rfl, h9⟩
  rw [← h9]
  clear h9 w9
  go_wp2_with fail
  refine (write_gone (some ⟨Y.heap.size, 0, none⟩) 0 none 0 0 _ (HQ1.out _ (below_on HB14.out (Below.refl v14.heap.size v14)))).mono ?_
  rintro e v15 ⟨rfl, hb⟩
  have HB15 : Hid (Below v14.heap.size v14 v15) := below_on (Below.refl v14.heap.size v14) hb
  clear hb
  go_wp2_with fail
  refine (dknum_any 1 _).mono ?_
  rintro e9 w9 ⟨rfl, h9⟩
  rw [← h9]
  clear h9 w9
  go_wp2_with fail
  refine (sync_gone (some ⟨Y.heap.size, 0, none⟩) _ (HQ1.out _ (below_on HB14.out HB15.out))).mono ?_
  rintro e v16 ⟨rfl, hb⟩
  have HB16 : Hid (Below v14.heap.size v14 v16) := below_on HB15.out hb
  clear hb
  go_wp2_with fail
  refine (dknum_any 1 _).mono ?_
  rintro e9 w9 ⟨rfl, h9⟩
  rw [← h9]
  clear h9 w9
  go_wp2_with fail
  refine (crash_gone (some ⟨Y.heap.size, 0, none⟩) none 0 0 _ (HQ1.out _ (below_on HB14.out HB16.out))).mono ?_
  rintro e v17 ⟨rfl, hb⟩
  have HB17 : Hid (Below v14.heap.size v14 v17) := below_on HB16.out hb
  clear hb
  go_wp2_with fail
  refine (dknum_any 1 _).mono ?_
  rintro e9 w9 ⟨rfl, h9⟩
  rw [← h9]
  clear h9 w9
  go_wp2_with fail
  refine (arm_gone (some ⟨Y.heap.size, 0, none⟩) 1 _ (HQ1.out _ (below_on HB14.out HB17.out))).mono ?_
  rintro e v18 ⟨rfl, hb⟩
  have HB18 : Hid (Below v14.heap.size v14 v18) := below_on HB17.out hb
  clear hb
  go_wp2_with fail
  refine (dknum_any 1 _).mono ?_
  rintro e9 w9 ⟨rfl, h9⟩
  rw [← h9]
  clear h9 w9
  go_wp2_with fail
  refine (len_gone (some ⟨Y.heap.size, 0, none⟩) _ (HQ1.out _ (below_on HB14.out HB18.out))).mono ?_
  rintro e v19 ⟨rfl, hb⟩
  have HB19 : Hid (Below v14.heap.size v14 v19) := below_on HB18.out hb
  clear hb
  go_wp2_with fail
  refine (copy_gone (some ⟨Y.heap.size, 0, none⟩) _ (HQ1.out _ (below_on HB14.out HB19.out))).mono ?_
  rintro e v10a ⟨rfl, hb⟩
  have HB10a : Hid (Below v14.heap.size v14 v10a) := below_on HB19.out hb
  clear hb
  go_wp2_with fail
  refine (same_gone (.pointer (some ⟨Y.heap.size, 0, none⟩)) (.pointer none) 0 0 _ (HQ1.out _ (below_on HB14.out HB10a.out)) (.inl ⟨rfl, rfl⟩) (.inl rfl)).mono ?_
  rintro e Z2 ⟨rfl, hb⟩
  have HC1 : Hid (Below v14.heap.size v14 Z2) := below_on HB10a.out hb
  have HE1 : Hid (Below Z.heap.size Z Z2) := below_on HB14.out HC1.out
  rw [show ((0 : Nat) == 0 && (0 : Nat) == 0) = true from rfl]
  clear hb
  go_wp2_with fail
  rw [rounds_succ]
  have HEw : Hid (Below W.heap.size W Z2) := below_on HE0.out (below_on HBz.out HE1.out)
  have hr := HR0.out.on HEw.out HWz.out
  have y0 := hr.1 0 _ rfl
  have f0 := hr.2 0
  have HR2 := Lib.hid hr
  clear hr
  go_wp2_with fail
  have hD0 : D0 < v4.heap.size := (Array.getElem?_eq_some_iff.1 HK0.out).1
  have hl0 := HDl0.out
  have hl1 := HDl1.out
  have hwz := HWz.out
  have s1 := HC0.out.size
  have s2 := HBz.out.size
  have s0 := HE0.out.size
  have k0 : (Z2.setCell ⟨w.heap.size, 0, none⟩ (.bool true)).heap[D0]? = some (.deferred (some [])) := (Below.heap_setCell _ _ _ _ (show D0 ≠ w.heap.size by omega)).trans (((below_on HC0.out (below_on HBz.out HE1.out)).block D0 hD0).trans HK0.out)
  have k1 : (Z2.setCell ⟨w.heap.size, 0, none⟩ (.bool true)).heap[D1]? = some (.deferred (some [])) := (Below.heap_setCell _ _ _ _ (show D1 ≠ w.heap.size by omega)).trans ((HC1.out.block D1 (Array.getElem?_eq_some_iff.1 HK1.out).1).trans HK1.out)
  have g1 := grownBy_putObj' (Z2.setCell ⟨w.heap.size, 0, none⟩ (.bool true)) D1 (.deferred none)
  have k01 : ((Z2.setCell ⟨w.heap.size, 0, none⟩ (.bool true)).putObj D1 (.deferred none)).heap[D0]? = some (.deferred (some [])) := (g1.block D0 (Array.getElem?_eq_some_iff.1 k0).1 (fun e => by injection e with e; omega)).trans k0
  have g0 := grownBy_putObj' ((Z2.setCell ⟨w.heap.size, 0, none⟩ (.bool true)).putObj D1 (.deferred none)) D0 (.deferred none)
  have c0 := (HR2.out.set 0 (.bool true)).1 0 _ rfl
  have c1 := (World.cell?_of_block (a := ⟨w.heap.size, 0, none⟩) (g1.block _ (World.block_lt_of_cell? _ _ c0) (fun e => by injection e with e; simp only at e; omega))).trans c0
  have c2 := (World.cell?_of_block (a := ⟨w.heap.size, 0, none⟩) (g0.block _ (World.block_lt_of_cell? _ _ c1) (fun e => by injection e with e; simp only at e; omega))).trans c1
  have b0 : Below w.heap.size w (Z2.setCell ⟨w.heap.size, 0, none⟩ (.bool true)) := (HB0.out.trans (HEw.out.mono HB0.out.size)).setCell (Nat.le_refl _) _
  have b1 := b0.grown g1 b0.size (fun r e => by injection e with e; omega)
  have b2 := b1.grown g0 b1.size (fun r e => by injection e with e; omega)
  refine marks_two k1 k01 (results_cell rfl (by rfl) (bool_load c2)) ?_
  exact ⟨rfl, b2⟩

end Go.Proofs.Ytekeooeapiodmaa

