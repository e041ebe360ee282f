/- Package name's Item, of an endpoint that is a node's. -/
import Derived.Test.YtlmdbeccfoncpaaGreatDoorZNmI
import Derived.Deep.RegionHeld3
namespace Go.Proofs.YtlmdbeccfoncpaaGreatDoor
open Go Go.RowKit Go.Shelf
set_option linter.unusedSimpArgs false
set_option linter.unusedVariables false
set_option maxRecDepth 100000

/-- A row of cells that was just made, and what came after. -/
theorem new_row {w W' : World} {t : TypeId} {ar : Array Value} (hb : Below (w.alloc (.cells ar t)).heap.size (w.alloc (.cells ar t)) W') :
    (Below w.heap.size w W' ∧ w.heap.size < W'.heap.size) ∧ Hid (∀ w', Below W'.heap.size W' w' → ∀ i : Nat, w'.cell? ⟨w.heap.size, i, none⟩ = ar[i]?) := by
  have hs : w.heap.size < W'.heap.size := by have := hb.size; simp at this; omega
  exact ⟨⟨below_on (below_al (Below.refl _ _) _) hb, hs⟩, fun w' h i => (h.cell (p := ⟨w.heap.size, i, none⟩) hs).trans ((hb.cell (p := ⟨w.heap.size, i, none⟩) (by simp)).trans (World.cell?_alloc_mark _ _ _ _ _))⟩

set_option maxHeartbeats 4000000 in
theorem item_yes (n m : Nat) (h : 0 < n) (hn : n ≤ 4294967295) (hm : m ≤ 4294967295) (w : World) :
    Calls Tryz.prog 106 #[.agg #[.int .u32 n, .int .u32 m]] w fun e w' => (∃ v, e = .returned (.tuple #[v, .int .i64 0]) ∧ ItS w' (newB w w') v (itE n m)) ∧ Below w.heap.size w w' := by
  have HC := Lib.hid (fun w => check_ok (n : Int) m (.inl (by omega)) w)
  have h3 : ((n : Int) == 0) = false := by simp; omega
  have h4 : ¬ (n : Int) = 0 := by omega
  have hwn : IntKind.u64.wrap (n : Int) = (n : Int) := by rw [IntKind.wrap_u64]; omega
  have hwm : IntKind.u64.wrap (m : Int) = (m : Int) := by rw [IntKind.wrap_u64]; omega
  go_enter Tryz.func106, Tryz.ntmps106
  go_wp2_with fail
  refine (HC.out _).mono ?_
  rintro e w1 ⟨rfl, hb1⟩
  have HX := Lib.hid (fun w' (hb : Below w1.heap.size w1 w') => boxes_of rfl (below_on hb1 hb))
  have HB := Lib.hid (below_on (below_al (below_al (Below.refl w.heap.size w) (.cells #[.int .u32 n, .int .u32 m] 25)) (.cells #[.int .i64 0, .int .u64 0, .slice none 0 0, .string ⟨#[]⟩, .slice none 0 0] 84)) hb1)
  have hlt : w.heap.size + 1 < w1.heap.size := by have := hb1.size; simp at this; omega
  clear hb1
  have HELD : Hid (∀ w', Below w1.heap.size w1 w' → w'.cell? ⟨w.heap.size, 0, none⟩ = some (.int .u32 n) ∧ w'.cell? ⟨w.heap.size, 1, none⟩ = some (.int .u32 m)) := fun w' hb => (HX.out w' hb).1
  obtain ⟨⟨c0, c1⟩, _⟩ := HX.out w1 (Below.refl _ _)
  have F0 : Below w1.heap.size w1 w1.drew := (Below.refl _ _).drew
  go_wp2_with fail
  clear c0 c1
  go_region_held3 (fun w' => w'.cell? ⟨w.heap.size, 0, none⟩ = some (.int .u32 n) ∧ w'.cell? ⟨w.heap.size, 1, none⟩ = some (.int .u32 m))
    (first | (refine HELD.out _ ?_; with_reducible exact F5) | (refine ⟨?_, ?_⟩ <;> (rw [World.cell?_setCell_other _ _ _ _ (by simp), World.cell?_setCell_other _ _ _ _ (by simp), World.cell?_setCell_other _ _ _ _ (by simp), World.cell?_setCell_other _ _ _ _ (by simp), World.cell?_setCell_other _ _ _ _ (by simp)]; first | exact (HELD.out _ F5).1 | exact (HELD.out _ F5).2)) | (refine HELD.out _ ?_; with_reducible exact below_al F4 _) | (refine HELD.out _ ?_; with_reducible exact F4) | (refine HELD.out _ ?_; with_reducible exact below_al F3 _) | (refine HELD.out _ ?_; with_reducible exact F3) | (refine HELD.out _ ?_; with_reducible exact F2) | (refine HELD.out _ ?_; with_reducible exact F1) | (refine HELD.out _ ?_; with_reducible exact F0))
    (first
      | (go_at_call 126; (with_reducible refine (uintItem_any 2 _).mono ?_); rintro e w2 ⟨rfl, hb2⟩; have F1 : Below w1.heap.size w1 w2 := below_on F0 hb2)
      | (go_at_call 126; (with_reducible refine (uintItem_any (n : Int) _).mono ?_); rintro e w3 ⟨rfl, hb3⟩; have F2 : Below w1.heap.size w1 w3 := below_on F1 hb3)
      | (go_at_call 126; (with_reducible refine (uintItem_any (m : Int) _).mono ?_); rintro e w4 ⟨rfl, hb4⟩; have F3 : Below w1.heap.size w1 w4 := below_on F2 hb4)
      | (go_at_call 125; (with_reducible refine (listItem_any _ _ _ _).mono ?_); rintro e w6 ⟨rfl, hb6⟩; obtain ⟨⟨b6, hs6⟩, HL6⟩ := new_row hb6; have F5 : Below w1.heap.size w1 w6 := below_on F4 b6; obtain ⟨_, ⟨d0, d1, d2, d3, d4⟩, df⟩ := HX.out w6 F5; have f0 := df 0; have f1 := df 1; have f2 := df 2; have f3 := df 3; have f4 := df 4; clear df)
      | (go_at_call 125; (with_reducible refine (listItem_any _ _ _ _).mono ?_); rintro e w5 ⟨rfl, hb5⟩; obtain ⟨⟨b5, hs5⟩, HL5⟩ := new_row hb5; have F4 : Below w1.heap.size w1 w5 := below_on F3 b5))
  clear F0
  rename_i hHeld
  clear hHeld
  go_wp2
  obtain ⟨q0, q1, q2, q3, q4⟩ := setI_cells d0 d1 d2 d3 d4 (.int .i64 4) (.int .u64 0) (.slice none 0 0) (.string ⟨#[]⟩) (.slice (some ⟨w5.heap.size, 0, none⟩) 2 2)
  have HB6 := Lib.hid (setI_on (g := w.heap.size + 1) (below_on HB.out F5) (by omega) (.int .i64 4) (.int .u64 0) (.slice none 0 0) (.string ⟨#[]⟩) (.slice (some ⟨w5.heap.size, 0, none⟩) 2 2))
  have hz6 : (setI w6 (w.heap.size + 1) (.int .i64 4) (.int .u64 0) (.slice none 0 0) (.string ⟨#[]⟩) (.slice (some ⟨w5.heap.size, 0, none⟩) 2 2)).heap.size = w6.heap.size := by unfold setI; simp only [World.size_setCell]
  have hz4 : w1.heap.size ≤ w4.heap.size := F3.size
  have HV : Hid (ItS (setI w6 (w.heap.size + 1) (.int .i64 4) (.int .u64 0) (.slice none 0 0) (.string ⟨#[]⟩) (.slice (some ⟨w5.heap.size, 0, none⟩) 2 2)) (newB w (setI w6 (w.heap.size + 1) (.int .i64 4) (.int .u64 0) (.slice none 0 0) (.string ⟨#[]⟩) (.slice (some ⟨w5.heap.size, 0, none⟩) 2 2))) (listV (some ⟨w5.heap.size, 0, none⟩) 2 2) (itE n m)) := by
    have hnew : ∀ b, w.heap.size ≤ b → b < w6.heap.size → newB w (setI w6 (w.heap.size + 1) (.int .i64 4) (.int .u64 0) (.slice none 0 0) (.string ⟨#[]⟩) (.slice (some ⟨w5.heap.size, 0, none⟩) 2 2)) b := fun b h1 h2 => by
      refine ⟨h1, ?_⟩
      rw [hz6]
      exact h2
    have c := fun i : Nat => (setI_cell (w := w6) (g := w.heap.size + 1) (g' := w5.heap.size) (i := i) (by omega) (.int .i64 4) (.int .u64 0) (.slice none 0 0) (.string ⟨#[]⟩) (.slice (some ⟨w5.heap.size, 0, none⟩) 2 2)).trans (HL6.out w6 (Below.refl _ _) i)
    have d := fun i : Nat => (setI_cell (w := w6) (g := w.heap.size + 1) (g' := w4.heap.size) (i := i) (by omega) (.int .i64 4) (.int .u64 0) (.slice none 0 0) (.string ⟨#[]⟩) (.slice (some ⟨w5.heap.size, 0, none⟩) 2 2)).trans (HL5.out w6 b6 i)
    have e : itE n m = itLs [itU 2, itLs [itU n, itU m]] := if_neg (by omega)
    rw [e]
    exact itS_two (hnew _ (by omega) (by omega)) ⟨_, _, _, _, _, rfl, c 0, c 1, c 2, c 3, c 4⟩ ⟨_, _, _, _, _, rfl, c 5, c 6, c 7, c 8, c 9⟩ (itS_uint _ _ 2 ⟨by decide, by decide⟩)
      (itS_two (hnew _ (by omega) (by omega)) ⟨_, _, _, _, _, rfl, d 0, d 1, d 2, d 3, d 4⟩ ⟨_, _, _, _, _, rfl, d 5, d 6, d 7, d 8, d 9⟩ (itS_uint _ _ n ⟨by omega, by omega⟩) (itS_uint _ _ m ⟨by omega, by omega⟩))
  unfold setI at q0 q1 q2 q3 q4 HB6 HV
  exact bodyPost_ret (v := .tuple #[listV (some ⟨w5.heap.size, 0, none⟩) 2 2, .int .i64 0]) (by simp [listV, results, Tryz.results106, go_sem, q0, q1, q2, q3, q4]) rfl ⟨⟨_, rfl, HV.out⟩, HB6.out⟩

end Go.Proofs.YtlmdbeccfoncpaaGreatDoor
