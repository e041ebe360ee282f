/- Joined texts. -/
import Derived.Test.YteldifnkeekafaaGreatDoorZJg
import Derived.Test.YteldifnkeekafaaGreatDoorZKv
import Derived.Deep.RegionWith
import Derived.Deep.RegionHeld3
set_option maxHeartbeats 4000000
set_option linter.unusedSimpArgs false
set_option linter.unusedVariables false
set_option maxRecDepth 100000
namespace Go.Proofs.YteldifnkeekafaaGreatDoor
open Go Go.RowKit Go.Shelf

theorem uintItem_any (n : Int) (w : World) : Calls Tryz.prog 117 #[.int .u64 n] w fun e w' => e = .returned (.agg #[.int .i64 1, .int .u64 n, .slice none 0 0, .string ⟨#[]⟩, .slice none 0 0]) ∧ Below w.heap.size w w' := by
 go_enter Tryz.func117, Tryz.ntmps117
 go_wp2
 exact bodyPost_ret (v := .agg #[.int .i64 1, .int .u64 n, .slice none 0 0, .string ⟨#[]⟩, .slice none 0 0]) (by simp [results, Tryz.results117, go_sem]) rfl ⟨rfl, below_al bR _⟩

theorem listItem_any (a : Option Addr) (n c : Nat) (w : World) : Calls Tryz.prog 116 #[.slice a n c] w fun e w' => e = .returned (.agg #[.int .i64 4, .int .u64 0, .slice none 0 0, .string ⟨#[]⟩, .slice a n c]) ∧ Below w.heap.size w w' := by
 go_enter Tryz.func116, Tryz.ntmps116
 go_wp2
 exact bodyPost_ret (v := .agg #[.int .i64 4, .int .u64 0, .slice none 0 0, .string ⟨#[]⟩, .slice a n c]) (by simp [results, Tryz.results116, go_sem]) rfl ⟨rfl, below_al bR _⟩

def noneV : Value := .agg #[.int .i64 0, .int .u64 0, .slice none 0 0, .string ⟨#[]⟩, .slice none 0 0]

def setI (w : World) (g : Nat) (v0 v1 v2 v3 v4 : Value) : World :=
 ((((w.setCell ⟨g, 0, none⟩ v0).setCell ⟨g, 1, none⟩ v1).setCell ⟨g, 2, none⟩ v2).setCell ⟨g, 3, none⟩ v3).setCell ⟨g, 4, none⟩ v4

theorem setI_cells {w : World} {g : Nat} {u0 u1 u2 u3 u4 : Value} (h0 : w.cell? ⟨g, 0, none⟩ = some u0) (h1 : w.cell? ⟨g, 1, none⟩ = some u1) (h2 : w.cell? ⟨g, 2, none⟩ = some u2) (h3 : w.cell? ⟨g, 3, none⟩ = some u3) (h4 : w.cell? ⟨g, 4, none⟩ = some u4) (v0 v1 v2 v3 v4 : Value) :
  (setI w g v0 v1 v2 v3 v4).cell? ⟨g, 0, none⟩ = some v0 ∧ (setI w g v0 v1 v2 v3 v4).cell? ⟨g, 1, none⟩ = some v1 ∧ (setI w g v0 v1 v2 v3 v4).cell? ⟨g, 2, none⟩ = some v2 ∧ (setI w g v0 v1 v2 v3 v4).cell? ⟨g, 3, none⟩ = some v3 ∧ (setI w g v0 v1 v2 v3 v4).cell? ⟨g, 4, none⟩ = some v4 := by
 unfold setI
 refine ⟨?_, ?_, ?_, ?_, ?_⟩
 ·rw [World.cell?_setCell_other _ _ _ _ (by simp), World.cell?_setCell_other _ _ _ _ (by simp), World.cell?_setCell_other _ _ _ _ (by simp), World.cell?_setCell_other _ _ _ _ (by simp), World.cell?_setCell_same _ _ _ h0]
 ·rw [World.cell?_setCell_other _ _ _ _ (by simp), World.cell?_setCell_other _ _ _ _ (by simp), World.cell?_setCell_other _ _ _ _ (by simp), World.cell?_setCell_same (u := u1)]
  rw [World.cell?_setCell_other _ _ _ _ (by simp), h1]
 ·rw [World.cell?_setCell_other _ _ _ _ (by simp), World.cell?_setCell_other _ _ _ _ (by simp), World.cell?_setCell_same (u := u2)]
  rw [World.cell?_setCell_other _ _ _ _ (by simp), World.cell?_setCell_other _ _ _ _ (by simp), h2]
 ·rw [World.cell?_setCell_other _ _ _ _ (by simp), World.cell?_setCell_same (u := u3)]
  rw [World.cell?_setCell_other _ _ _ _ (by simp), World.cell?_setCell_other _ _ _ _ (by simp), World.cell?_setCell_other _ _ _ _ (by simp), h3]
 ·rw [World.cell?_setCell_same (u := u4)]
  rw [World.cell?_setCell_other _ _ _ _ (by simp), World.cell?_setCell_other _ _ _ _ (by simp), World.cell?_setCell_other _ _ _ _ (by simp), World.cell?_setCell_other _ _ _ _ (by simp), h4]

theorem setI_on {B g : Nat} {w0 w : World} (h : Below B w0 w) (hB : B ≤ g) (v0 v1 v2 v3 v4 : Value) : Below B w0 (setI w g v0 v1 v2 v3 v4) := by
 unfold setI
 exact ((((h.setCell hB v0).setCell hB v1).setCell hB v2).setCell hB v3).setCell hB v4

theorem setI_cell {w : World} {g g' i : Nat} (h : g' ≠ g) (v0 v1 v2 v3 v4 : Value) : (setI w g v0 v1 v2 v3 v4).cell? ⟨g', i, none⟩ = w.cell? ⟨g', i, none⟩ := by
 have hh : ∀ j, (⟨g, j, none⟩ : Addr) ≠ ⟨g', i, none⟩ := fun j e => h (by injection e with e1; exact e1.symm)
 have hh' : ∀ j, (⟨g', i, none⟩ : Addr) ≠ ⟨g, j, none⟩ := fun j e => hh j e.symm
 unfold setI
 rw [World.cell?_setCell_other _ _ _ _ (by first | exact hh _ | exact hh' _), World.cell?_setCell_other _ _ _ _ (by first | exact hh _ | exact hh' _), World.cell?_setCell_other _ _ _ _ (by first | exact hh _ | exact hh' _), World.cell?_setCell_other _ _ _ _ (by first | exact hh _ | exact hh' _), World.cell?_setCell_other _ _ _ _ (by first | exact hh _ | exact hh' _)]

def itE (n m : Nat) : It := if n = 0 then itLs [itU 1, itU 0] else itLs [itU 2, itLs [itU n, itU m]]

def NmBoxes (w W' : World) (n m : Int) : Prop :=
 (W'.cell? ⟨w.heap.size, 0, none⟩ = some (.int .u32 n) ∧ W'.cell? ⟨w.heap.size, 1, none⟩ = some (.int .u32 m)) ∧
 ((W'.cell? ⟨w.heap.size + 1, 0, none⟩ = some (.int .i64 0) ∧ W'.cell? ⟨w.heap.size + 1, 1, none⟩ = some (.int .u64 0) ∧ W'.cell? ⟨w.heap.size + 1, 2, none⟩ = some (.slice none 0 0) ∧ W'.cell? ⟨w.heap.size + 1, 3, none⟩ = some (.string ⟨#[]⟩) ∧ W'.cell? ⟨w.heap.size + 1, 4, none⟩ = some (.slice none 0 0)) ∧ ∀ i, W'.frozen? ⟨w.heap.size + 1, i, none⟩ = false)

theorem boxes_of {w W W' : World} {n m : Int} (hW : W = (w.alloc (.cells #[.int .u32 n, .int .u32 m] 27)).alloc (.cells #[.int .i64 0, .int .u64 0, .slice none 0 0, .string ⟨#[]⟩, .slice none 0 0] 45)) (hb : Below W.heap.size W W') : NmBoxes w W' n m := by
 have hsW : W.heap.size = w.heap.size + 2 := by rw [hW]; simp
 have h0 : ∀ i, W'.cell? ⟨w.heap.size, i, none⟩ = W.cell? ⟨w.heap.size, i, none⟩ := fun i => hb.cell (p := ⟨w.heap.size, i, none⟩) (show w.heap.size < _ by omega)
 have h1 : ∀ i, W'.cell? ⟨w.heap.size + 1, i, none⟩ = W.cell? ⟨w.heap.size + 1, i, none⟩ := fun i => hb.cell (p := ⟨w.heap.size + 1, i, none⟩) (show w.heap.size + 1 < _ by omega)
 have hf : ∀ i, W'.frozen? ⟨w.heap.size + 1, i, none⟩ = W.frozen? ⟨w.heap.size + 1, i, none⟩ := fun i => hb.frozen (p := ⟨w.heap.size + 1, i, none⟩) (show w.heap.size + 1 < _ by omega)
 have g1 : ∀ i : Nat, W.cell? ⟨w.heap.size + 1, i, none⟩ = (#[Value.int .i64 0, .int .u64 0, .slice none 0 0, .string ⟨#[]⟩, .slice none 0 0])[i]? := fun i => by
  rw [hW, ← World.size_alloc w (.cells #[.int .u32 n, .int .u32 m] 27), World.cell?_alloc_mark]
 refine ⟨⟨(h0 0).trans (by rw [hW]; simp), (h0 1).trans (by rw [hW]; simp)⟩, ⟨(h1 0).trans (g1 0), (h1 1).trans (g1 1), (h1 2).trans (g1 2), (h1 3).trans (g1 3), (h1 4).trans (g1 4)⟩, fun i => (hf i).trans ?_⟩
 rw [hW, ← World.size_alloc w (.cells #[.int .u32 n, .int .u32 m] 27)]
 exact World.frozen?_alloc_new _ _ _ _

theorem new_row {w W' : World} {t : TypeId} {ar : Array Value} (hb : Below (w.alloc (.cells ar t)).heap.size (w.alloc (.cells ar t)) W') :
  (Below w.heap.size w W' ∧ w.heap.size < W'.heap.size) ∧ Hid (∀ w', Below W'.heap.size W' w' → ∀ i : Nat, w'.cell? ⟨w.heap.size, i, none⟩ = ar[i]?) := by
 have hs : w.heap.size < W'.heap.size := by have := hb.size; simp at this; omega
 exact ⟨⟨below_on (below_al bR _) hb, hs⟩, fun w' h i => (h.cell (p := ⟨w.heap.size, i, none⟩) hs).trans ((hb.cell (p := ⟨w.heap.size, i, none⟩) (by simp)).trans (World.cell?_alloc_mark _ _ _ _ _))⟩

theorem item_yes (n m : Nat) (h : 0 < n) (hn : n ≤ 4294967295) (hm : m ≤ 4294967295) (w : World) :
  Calls Tryz.prog 115 #[.agg #[.int .u32 n, .int .u32 m]] w fun e w' => (∃ v, e = .returned (.tuple #[v, .int .i64 0]) ∧ ItS w' (newB w w') v (itE n m)) ∧ Below w.heap.size w w' := by
 have HC := h_ (fun w => check_ok (n : Int) m (.inl (by omega)) w)
 have h3 : ((n : Int) == 0) = false := by simp; omega
 have h4 : ¬ (n : Int) = 0 := by omega
 have hwn : IntKind.u64.wrap (n : Int) = (n : Int) := by rw [IntKind.wrap_u64]; omega
 have hwm : IntKind.u64.wrap (m : Int) = (m : Int) := by rw [IntKind.wrap_u64]; omega
 go_enter Tryz.func115, Tryz.ntmps115
 go_wp2_with fail
 refine (HC.out _).mono ?_
 rintro e w1 ⟨rfl, hb1⟩
 have HX := h_ (fun w' (hb : Below w1.heap.size w1 w') => boxes_of rfl (below_on hb1 hb))
 have HB := h_ (below_on (below_al (below_al (Below.refl w.heap.size w) (.cells #[.int .u32 n, .int .u32 m] 27)) (.cells #[.int .i64 0, .int .u64 0, .slice none 0 0, .string ⟨#[]⟩, .slice none 0 0] 45)) hb1)
 have hlt : w.heap.size + 1 < w1.heap.size := by have := hb1.size; simp at this; omega
 clear hb1
 have HELD : Hid (∀ w', Below w1.heap.size w1 w' → w'.cell? ⟨w.heap.size, 0, none⟩ = some (.int .u32 n) ∧ w'.cell? ⟨w.heap.size, 1, none⟩ = some (.int .u32 m)) := fun w' hb => (HX.out w' hb).1
 obtain ⟨⟨c0, c1⟩, _⟩ := HX.out w1 bR
 have F0 : Below w1.heap.size w1 w1.drew := bR.drew
 go_wp2_with fail
 clear c0 c1
 go_region_held3 (fun w' => w'.cell? ⟨w.heap.size, 0, none⟩ = some (.int .u32 n) ∧ w'.cell? ⟨w.heap.size, 1, none⟩ = some (.int .u32 m))
  (first | (refine HELD.out _ ?_; with_reducible exact F5) | (refine ⟨?_, ?_⟩ <;> (rw [World.cell?_setCell_other _ _ _ _ (by simp), World.cell?_setCell_other _ _ _ _ (by simp), World.cell?_setCell_other _ _ _ _ (by simp), World.cell?_setCell_other _ _ _ _ (by simp), World.cell?_setCell_other _ _ _ _ (by simp)]; first | exact (HELD.out _ F5).1 | exact (HELD.out _ F5).2)) | (refine HELD.out _ ?_; with_reducible exact below_al F4 _) | (refine HELD.out _ ?_; with_reducible exact F4) | (refine HELD.out _ ?_; with_reducible exact below_al F3 _) | (refine HELD.out _ ?_; with_reducible exact F3) | (refine HELD.out _ ?_; with_reducible exact F2) | (refine HELD.out _ ?_; with_reducible exact F1) | (refine HELD.out _ ?_; with_reducible exact F0))
  (first
   | (go_at_call 117; (with_reducible refine (uintItem_any 2 _).mono ?_); rintro e w2 ⟨rfl, hb2⟩; have F1 : Below w1.heap.size w1 w2 := below_on F0 hb2)
   | (go_at_call 117; (with_reducible refine (uintItem_any (n : Int) _).mono ?_); rintro e w3 ⟨rfl, hb3⟩; have F2 : Below w1.heap.size w1 w3 := below_on F1 hb3)
   | (go_at_call 117; (with_reducible refine (uintItem_any (m : Int) _).mono ?_); rintro e w4 ⟨rfl, hb4⟩; have F3 : Below w1.heap.size w1 w4 := below_on F2 hb4)
   | (go_at_call 116; (with_reducible refine (listItem_any _ _ _ _).mono ?_); rintro e w6 ⟨rfl, hb6⟩; obtain ⟨⟨b6, hs6⟩, HL6⟩ := new_row hb6; have F5 : Below w1.heap.size w1 w6 := below_on F4 b6; obtain ⟨_, ⟨d0, d1, d2, d3, d4⟩, df⟩ := HX.out w6 F5; have f0 := df 0; have f1 := df 1; have f2 := df 2; have f3 := df 3; have f4 := df 4; clear df)
   | (go_at_call 116; (with_reducible refine (listItem_any _ _ _ _).mono ?_); rintro e w5 ⟨rfl, hb5⟩; obtain ⟨⟨b5, hs5⟩, HL5⟩ := new_row hb5; have F4 : Below w1.heap.size w1 w5 := below_on F3 b5))
 clear F0
 rename_i hHeld
 clear hHeld
 go_wp2
 obtain ⟨q0, q1, q2, q3, q4⟩ := setI_cells d0 d1 d2 d3 d4 (.int .i64 4) (.int .u64 0) (.slice none 0 0) (.string ⟨#[]⟩) (.slice (some ⟨w5.heap.size, 0, none⟩) 2 2)
 have HB6 := h_ (setI_on (g := w.heap.size + 1) (below_on HB.out F5) (by omega) (.int .i64 4) (.int .u64 0) (.slice none 0 0) (.string ⟨#[]⟩) (.slice (some ⟨w5.heap.size, 0, none⟩) 2 2))
 have hz6 : (setI w6 (w.heap.size + 1) (.int .i64 4) (.int .u64 0) (.slice none 0 0) (.string ⟨#[]⟩) (.slice (some ⟨w5.heap.size, 0, none⟩) 2 2)).heap.size = w6.heap.size := by unfold setI; simp only [World.size_setCell]
 have hz4 : w1.heap.size ≤ w4.heap.size := F3.size
 have HV : Hid (ItS (setI w6 (w.heap.size + 1) (.int .i64 4) (.int .u64 0) (.slice none 0 0) (.string ⟨#[]⟩) (.slice (some ⟨w5.heap.size, 0, none⟩) 2 2)) (newB w (setI w6 (w.heap.size + 1) (.int .i64 4) (.int .u64 0) (.slice none 0 0) (.string ⟨#[]⟩) (.slice (some ⟨w5.heap.size, 0, none⟩) 2 2))) (listV (some ⟨w5.heap.size, 0, none⟩) 2 2) (itE n m)) := by
  have hnew : ∀ b, w.heap.size ≤ b → b < w6.heap.size → newB w (setI w6 (w.heap.size + 1) (.int .i64 4) (.int .u64 0) (.slice none 0 0) (.string ⟨#[]⟩) (.slice (some ⟨w5.heap.size, 0, none⟩) 2 2)) b := fun b h1 h2 => by
   refine ⟨h1, ?_⟩
   rw [hz6]
   exact h2
  have c := fun i : Nat => (setI_cell (w := w6) (g := w.heap.size + 1) (g' := w5.heap.size) (i := i) (by omega) (.int .i64 4) (.int .u64 0) (.slice none 0 0) (.string ⟨#[]⟩) (.slice (some ⟨w5.heap.size, 0, none⟩) 2 2)).trans (HL6.out w6 bR i)
  have d := fun i : Nat => (setI_cell (w := w6) (g := w.heap.size + 1) (g' := w4.heap.size) (i := i) (by omega) (.int .i64 4) (.int .u64 0) (.slice none 0 0) (.string ⟨#[]⟩) (.slice (some ⟨w5.heap.size, 0, none⟩) 2 2)).trans (HL5.out w6 b6 i)
  have e : itE n m = itLs [itU 2, itLs [itU n, itU m]] := if_neg (by omega)
  rw [e]
  exact itS_two (hnew _ (by omega) (by omega)) ⟨_, _, _, _, _, rfl, c 0, c 1, c 2, c 3, c 4⟩ ⟨_, _, _, _, _, rfl, c 5, c 6, c 7, c 8, c 9⟩ (itS_uint _ _ 2 ⟨by decide, by decide⟩)
   (itS_two (hnew _ (by omega) (by omega)) ⟨_, _, _, _, _, rfl, d 0, d 1, d 2, d 3, d 4⟩ ⟨_, _, _, _, _, rfl, d 5, d 6, d 7, d 8, d 9⟩ (itS_uint _ _ n ⟨by omega, by omega⟩) (itS_uint _ _ m ⟨by omega, by omega⟩))
 unfold setI at q0 q1 q2 q3 q4 HB6 HV
 exact bodyPost_ret (v := .tuple #[listV (some ⟨w5.heap.size, 0, none⟩) 2 2, .int .i64 0]) (by simp [listV, results, Tryz.results115, go_sem, q0, q1, q2, q3, q4]) rfl ⟨⟨_, rfl, HV.out⟩, HB6.out⟩

end Go.Proofs.YteldifnkeekafaaGreatDoor
