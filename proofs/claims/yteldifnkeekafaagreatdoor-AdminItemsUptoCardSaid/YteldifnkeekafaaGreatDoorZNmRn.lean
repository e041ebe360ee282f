/- The document's NameItem. -/
import Derived.Test.YteldifnkeekafaaGreatDoorZNz
set_option maxHeartbeats 4000000
set_option linter.unusedSimpArgs false
set_option linter.unusedVariables false
set_option maxRecDepth 100000
namespace Go.Proofs.YteldifnkeekafaaGreatDoor
open Go Go.RowKit Go.Shelf

theorem refItemS_any (n m : Nat) (h : 0 < n ∨ m = 0) (hn : n ≤ 4294967295) (hm : m ≤ 4294967295) (w : World) :
  Calls Tryz.prog 87 #[.agg #[.int .u32 n, .int .u32 m]] w fun e w' => ∃ a c A C, e = .returned (.agg #[.int .i64 4, .int .u64 0, .slice a 0 c, .string ⟨#[]⟩, .slice A 2 C]) ∧ ItS w' (newB w w') (.agg #[.int .i64 4, .int .u64 0, .slice a 0 c, .string ⟨#[]⟩, .slice A 2 C]) (itE n m) ∧ Below w.heap.size w w' := by
 have hex : ∃ y0 y1, itE n m = itLs [y0, y1] := by
  unfold itE
  split
  ·exact ⟨_, _, rfl⟩
  ·exact ⟨_, _, rfl⟩
 obtain ⟨y0, y1, hy⟩ := hex
 refine (refItem_any n m h hn hm w).mono ?_
 rintro e w' ⟨⟨v, rfl, hv⟩, hb⟩
 obtain ⟨a, c, A, C, e1⟩ := hv.form
 rw [hy] at e1
 have e2 : v = .agg #[.int .i64 4, .int .u64 0, .slice a 0 c, .string ⟨#[]⟩, .slice A 2 C] := e1
 subst e2
 exact ⟨a, c, A, C, rfl, hv, hb⟩

theorem refNItem_any (n m t q : Nat) (h : 0 < n) (hn : n ≤ 4294967295) (hm : m ≤ 4294967295) (ht : t < 18446744073709551616) (hq : q ≤ 4294967295) (w : World) :
  Calls Tryz.prog 50 #[.agg #[.int .u32 n, .int .u32 m, .int .u64 t, .int .u32 q]] w fun e w' => ∃ a c A C, e = .returned (.agg #[.int .i64 4, .int .u64 0, .slice a 0 c, .string ⟨#[]⟩, .slice A 3 C]) ∧ ItS w' (newB w w') (.agg #[.int .i64 4, .int .u64 0, .slice a 0 c, .string ⟨#[]⟩, .slice A 3 C]) (itN n m t q) ∧ Below w.heap.size w w' := by
 have hwq : IntKind.u64.wrap (q : Int) = (q : Int) := by rw [IntKind.wrap_u64]; omega
 have HI := h_ (refItemS_any n m (.inl h) hn hm)
 obtain ⟨W0, hW0⟩ : ∃ W, W = (w.alloc (.cells #[.int .u32 n, .int .u32 m, .int .u64 t, .int .u32 q] 30)).alloc (.cells #[.int .i64 0, .int .u64 0, .slice none 0 0, .string ⟨#[]⟩, .slice none 0 0] 45) := ⟨_, rfl⟩
 have HB : Hid (Below w.heap.size w W0) := by rw [hW0]; exact below_al (below_al bR _) _
 have hs0 : W0.heap.size ≤ w.heap.size + 2 ∧ w.heap.size + 2 ≤ W0.heap.size := by rw [hW0]; simp
 have HC : Hid (∀ w', Below W0.heap.size W0 w' → w'.cell? ⟨w.heap.size, 0, none⟩ = some (.int .u32 n) ∧ w'.cell? ⟨w.heap.size, 1, none⟩ = some (.int .u32 m) ∧ w'.cell? ⟨w.heap.size, 2, none⟩ = some (.int .u64 t) ∧ w'.cell? ⟨w.heap.size, 3, none⟩ = some (.int .u32 q)) := fun w' hb => by
  have hh := fun i => hb.cell (p := ⟨w.heap.size, i, none⟩) (show w.heap.size < W0.heap.size by omega)
  exact ⟨(hh 0).trans (by rw [hW0]; simp), (hh 1).trans (by rw [hW0]; simp), (hh 2).trans (by rw [hW0]; simp), (hh 3).trans (by rw [hW0]; simp)⟩
 have HR : Hid (∀ w', Below W0.heap.size W0 w' → (w'.cell? ⟨w.heap.size + 1, 0, none⟩ = some (.int .i64 0) ∧ w'.cell? ⟨w.heap.size + 1, 1, none⟩ = some (.int .u64 0) ∧ w'.cell? ⟨w.heap.size + 1, 2, none⟩ = some (.slice none 0 0) ∧ w'.cell? ⟨w.heap.size + 1, 3, none⟩ = some (.string ⟨#[]⟩) ∧ w'.cell? ⟨w.heap.size + 1, 4, none⟩ = some (.slice none 0 0)) ∧ ∀ i, w'.frozen? ⟨w.heap.size + 1, i, none⟩ = false) := fun w' hb => by
  have g1 : ∀ i : Nat, w'.cell? ⟨w.heap.size + 1, i, none⟩ = (#[Value.int .i64 0, .int .u64 0, .slice none 0 0, .string ⟨#[]⟩, .slice none 0 0])[i]? := fun i => by
   refine (hb.cell (p := ⟨w.heap.size + 1, i, none⟩) (show w.heap.size + 1 < W0.heap.size by omega)).trans ?_
   rw [hW0, ← World.size_alloc w (.cells #[.int .u32 n, .int .u32 m, .int .u64 t, .int .u32 q] 30), World.cell?_alloc_mark]
  refine ⟨⟨g1 0, g1 1, g1 2, g1 3, g1 4⟩, fun i => (hb.frozen (p := ⟨w.heap.size + 1, i, none⟩) (show w.heap.size + 1 < W0.heap.size by omega)).trans ?_⟩
  rw [hW0, ← World.size_alloc w (.cells #[.int .u32 n, .int .u32 m, .int .u64 t, .int .u32 q] 30)]
  exact World.frozen?_alloc_new _ _ _ _
 have HW := h_ hW0
 clear hW0
 have F0 : Below W0.heap.size W0 W0.drew := bR.drew
 go_enter Tryz.func50, Tryz.ntmps50
 go_wp2_with fail
 rw [← HW.out]
 go_region_held3 (fun w' => w'.cell? ⟨w.heap.size, 0, none⟩ = some (.int .u32 n) ∧ w'.cell? ⟨w.heap.size, 1, none⟩ = some (.int .u32 m) ∧ w'.cell? ⟨w.heap.size, 2, none⟩ = some (.int .u64 t) ∧ w'.cell? ⟨w.heap.size, 3, none⟩ = some (.int .u32 q))
  (first | (refine HC.out _ ?_; with_reducible exact F4) | (have hh := HC.out _ F4; refine ⟨?_, ?_, ?_, ?_⟩ <;> (rw [World.cell?_setCell_other _ _ _ _ (by first | (simp; done) | (simp; omega)), World.cell?_setCell_other _ _ _ _ (by first | (simp; done) | (simp; omega)), World.cell?_setCell_other _ _ _ _ (by first | (simp; done) | (simp; omega)), World.cell?_setCell_other _ _ _ _ (by first | (simp; done) | (simp; omega)), World.cell?_setCell_other _ _ _ _ (by first | (simp; done) | (simp; omega))]; first | exact hh.1 | exact hh.2.1 | exact hh.2.2.1 | exact hh.2.2.2)) | (refine HC.out _ ?_; with_reducible exact below_al F3 _) | (refine HC.out _ ?_; with_reducible exact F3) | (refine HC.out _ ?_; with_reducible exact F2) | (refine HC.out _ ?_; with_reducible exact F1) | (refine HC.out _ ?_; with_reducible exact F0))
  (first
   | (go_at_call 87; (with_reducible refine (HI.out _).mono ?_); rintro e w1 ⟨a, c, A, C, rfl, hv1, hb1⟩; have F1 : Below W0.heap.size W0 w1 := below_on F0 hb1; have HV1 := h_ hv1; clear hv1)
   | (go_at_call 52; (with_reducible refine (refUint_any (q : Int) _).mono ?_); rintro e w3 ⟨rfl, hb3⟩; have F3 : Below W0.heap.size W0 w3 := below_on F2 hb3)
   | (go_at_call 52; (with_reducible refine (refUint_any (t : Int) _).mono ?_); rintro e w2 ⟨rfl, hb2⟩; have F2 : Below W0.heap.size W0 w2 := below_on F1 hb2)
   | (go_at_call 11; (with_reducible refine (refList_any _ _ _ _).mono ?_); rintro e w6 ⟨rfl, hb6⟩; obtain ⟨⟨b6, hs6⟩, HL6⟩ := new_row hb6; have F4 : Below W0.heap.size W0 w6 := below_on F3 b6; obtain ⟨⟨d0, d1, d2, d3, d4⟩, df⟩ := HR.out w6 F4; have f0 := df 0; have f1 := df 1; have f2 := df 2; have f3 := df 3; have f4 := df 4; clear df))
 rename_i hHeld
 have hz1 : W0.heap.size ≤ W0.drew.heap.size := F0.size
 have HB16 : Hid (Below w1.heap.size w1 w6) := below_on (below_on hb2 hb3) b6
 clear hHeld F0
 go_wp2
 obtain ⟨q0, q1, q2, q3, q4⟩ := setI_cells d0 d1 d2 d3 d4 (.int .i64 4) (.int .u64 0) (.slice none 0 0) (.string ⟨#[]⟩) (.slice (some ⟨w3.heap.size, 0, none⟩) 3 3)
 have HB6 := h_ (setI_on (g := w.heap.size + 1) (below_on HB.out F4) (by omega) (.int .i64 4) (.int .u64 0) (.slice none 0 0) (.string ⟨#[]⟩) (.slice (some ⟨w3.heap.size, 0, none⟩) 3 3))
 have hz6 : (setI w6 (w.heap.size + 1) (.int .i64 4) (.int .u64 0) (.slice none 0 0) (.string ⟨#[]⟩) (.slice (some ⟨w3.heap.size, 0, none⟩) 3 3)).heap.size = w6.heap.size := by unfold setI; simp only [World.size_setCell]
 have hz5 : W0.heap.size ≤ w3.heap.size := F3.size
 have HV : Hid (ItS (setI w6 (w.heap.size + 1) (.int .i64 4) (.int .u64 0) (.slice none 0 0) (.string ⟨#[]⟩) (.slice (some ⟨w3.heap.size, 0, none⟩) 3 3)) (newB w (setI w6 (w.heap.size + 1) (.int .i64 4) (.int .u64 0) (.slice none 0 0) (.string ⟨#[]⟩) (.slice (some ⟨w3.heap.size, 0, none⟩) 3 3))) (listV (some ⟨w3.heap.size, 0, none⟩) 3 3) (itN n m t q)) := by
  have hv6 := HV1.out.new_on HB16.out
  have hk : KeepB (newB W0.drew w6) w6 (setI w6 (w.heap.size + 1) (.int .i64 4) (.int .u64 0) (.slice none 0 0) (.string ⟨#[]⟩) (.slice (some ⟨w3.heap.size, 0, none⟩) 3 3)) := fun b hb => by
   unfold setI
   have hne : b ≠ w.heap.size + 1 := by have := hb.1; omega
   rw [Below.heap_setCell _ _ _ _ hne, Below.heap_setCell _ _ _ _ hne, Below.heap_setCell _ _ _ _ hne, Below.heap_setCell _ _ _ _ hne, Below.heap_setCell _ _ _ _ hne]
  have hv7 := ItS.more (T := newB w (setI w6 (w.heap.size + 1) (.int .i64 4) (.int .u64 0) (.slice none 0 0) (.string ⟨#[]⟩) (.slice (some ⟨w3.heap.size, 0, none⟩) 3 3))) (fun b hb => ⟨by have := hb.1; omega, by rw [hz6]; exact hb.2⟩) _ (ItS.keep hk _ hv6)
  have d := fun i : Nat => (setI_cell (w := w6) (g := w.heap.size + 1) (g' := w3.heap.size) (i := i) (by omega) (.int .i64 4) (.int .u64 0) (.slice none 0 0) (.string ⟨#[]⟩) (.slice (some ⟨w3.heap.size, 0, none⟩) 3 3)).trans (HL6.out w6 bR i)
  exact itS_three ⟨by omega, by rw [hz6]; exact hs6⟩ ⟨_, _, _, _, _, rfl, d 0, d 1, d 2, d 3, d 4⟩ ⟨_, _, _, _, _, rfl, d 5, d 6, d 7, d 8, d 9⟩ ⟨_, _, _, _, _, rfl, d 10, d 11, d 12, d 13, d 14⟩ hv7 (itS_uint _ _ t ⟨by omega, by omega⟩) (itS_uint _ _ q ⟨by omega, by omega⟩)
 unfold setI listV at HV
 unfold setI at q0 q1 q2 q3 q4 HB6
 exact bodyPost_ret (v := .agg #[.int .i64 4, .int .u64 0, .slice none 0 0, .string ⟨#[]⟩, .slice (some ⟨w3.heap.size, 0, none⟩) 3 3]) (by simp [results, Tryz.results50, go_sem, q0, q1, q2, q3, q4]) rfl ⟨none, 0, some ⟨w3.heap.size, 0, none⟩, 3, rfl, HV.out, HB6.out⟩

end Go.Proofs.YteldifnkeekafaaGreatDoor

