/- Package name's NameItem, of a name that may be. -/
import Derived.Test.YtjbdpkjkeelgfaaDoorNmI3
namespace Go.Proofs.YtjbdpkjkeelgfaaDoor
open Go Go.RowKit Go.Shelf
set_option linter.unusedSimpArgs false
set_option linter.unusedVariables false
set_option maxRecDepth 100000

set_option maxHeartbeats 4000000 in
theorem nitem_yes (n m t q : Nat) (h : 0 < n) (hn : n ≤ 4294967295) (hm : m ≤ 4294967295) (ht : t ≤ forever) (hq : q ≤ 4294967295) (w : World) :
    Calls Tryd.prog 21 #[.agg #[.int .u32 n, .int .u32 m, .int .u64 t, .int .u32 q]] w fun e w' => (∃ v, e = .returned (.tuple #[v, .int .i64 0]) ∧ ItS w' (newB w w') v (itLs [itE n m, itU t, itU q])) ∧ Below w.heap.size w w' := by
  have ef : forever = 4611686018427387903 := rfl
  have HC := Lib.hid (fun w => cname_ok (n : Int) m t q (by omega) (by omega) w)
  have hwq : IntKind.u64.wrap (q : Int) = (q : Int) := by rw [IntKind.wrap_u64]; omega
  have HI := Lib.hid (fun w => item_yes n m h hn hm w)
  go_enter Tryd.func21, Tryd.ntmps21
  go_wp2_with fail
  refine (HC.out _).mono ?_
  rintro e w1 ⟨rfl, hb1⟩
  have hs1 := hb1.size
  simp at hs1
  have HX : Hid (∀ w', Below w1.heap.size w1 w' → (w'.cell? ⟨w.heap.size, 0, none⟩ = some (.int .u32 n) ∧ w'.cell? ⟨w.heap.size, 1, none⟩ = some (.int .u32 m) ∧ w'.cell? ⟨w.heap.size, 2, none⟩ = some (.int .u64 t) ∧ w'.cell? ⟨w.heap.size, 3, none⟩ = some (.int .u32 q))) := fun w' hb => by
    have hh := fun i => (below_on hb1 hb).cell (p := ⟨w.heap.size, i, none⟩) (by simp; omega)
    exact ⟨(hh 0).trans (by simp), (hh 1).trans (by simp), (hh 2).trans (by simp), (hh 3).trans (by simp)⟩
  have HR : Hid (∀ w', Below w1.heap.size w1 w' → (w'.cell? ⟨w.heap.size + 1, 0, none⟩ = some (.int .i64 0) ∧ w'.cell? ⟨w.heap.size + 1, 1, none⟩ = some (.int .u64 0) ∧ w'.cell? ⟨w.heap.size + 1, 2, none⟩ = some (.slice none 0 0) ∧ w'.cell? ⟨w.heap.size + 1, 3, none⟩ = some (.string ⟨#[]⟩) ∧ w'.cell? ⟨w.heap.size + 1, 4, none⟩ = some (.slice none 0 0)) ∧ ∀ i, w'.frozen? ⟨w.heap.size + 1, i, none⟩ = false) := fun w' hb => by
    have hc := below_on hb1 hb
    have g1 : ∀ i : Nat, w'.cell? ⟨w.heap.size + 1, i, none⟩ = (#[Value.int .i64 0, .int .u64 0, .slice none 0 0, .string ⟨#[]⟩, .slice none 0 0])[i]? := fun i => by
      refine (hc.cell (p := ⟨w.heap.size + 1, i, none⟩) (by simp)).trans ?_
      rw [← World.size_alloc w (.cells #[.int .u32 n, .int .u32 m, .int .u64 t, .int .u32 q] 47), World.cell?_alloc_mark]
    refine ⟨⟨g1 0, g1 1, g1 2, g1 3, g1 4⟩, fun i => (hc.frozen (p := ⟨w.heap.size + 1, i, none⟩) (by simp)).trans ?_⟩
    rw [← World.size_alloc w (.cells #[.int .u32 n, .int .u32 m, .int .u64 t, .int .u32 q] 47)]
    exact World.frozen?_alloc_new _ _ _ _
  have HB : Hid (Below w.heap.size w w1) := below_on (below_al (below_al (Below.refl _ _) _) _) hb1
  clear hb1
  obtain ⟨c0, c1, c2, c3⟩ := HX.out w1 (Below.refl _ _)
  go_wp2_with fail
  refine (HI.out _).mono ?_
  rintro e w2 ⟨⟨v, rfl, hv⟩, hb2⟩
  obtain ⟨a, c, A, C, hv'⟩ := hv.form
  have ee : itE n m = itLs [itU 2, itLs [itU n, itU m]] := if_neg (by omega)
  rw [ee] at hv'
  have hv2 : v = .agg #[.int .i64 4, .int .u64 0, .slice a 0 c, .string ⟨#[]⟩, .slice A 2 C] := hv'
  clear hv' ee
  subst hv2
  have HV2 := Lib.hid hv
  clear hv
  have HB2 := Lib.hid hb2
  clear c0 c1 c2 c3
  obtain ⟨c0, c1, c2, c3⟩ := HX.out w2 HB2.out
  clear hb2
  go_wp2_with fail
  clear c0 c1 c2 c3
  obtain ⟨W3, hW3⟩ : ∃ W, W = w2.alloc (.cells #[.int .i64 4, .int .u64 0, .slice a 0 c, .string ⟨#[]⟩, .slice A 2 C] 33) := ⟨_, rfl⟩
  rw [← hW3]
  have HB3 : Hid (Below w1.heap.size w1 W3) := by rw [hW3]; exact below_al HB2.out _
  have HB23 : Hid (Below w2.heap.size w2 W3) := by rw [hW3]; exact below_al (Below.refl _ _) _
  have hs3 : W3.heap.size ≤ w2.heap.size + 1 ∧ w2.heap.size + 1 ≤ W3.heap.size := by rw [hW3]; simp
  have hz2 : w1.heap.size ≤ w2.heap.size := HB2.out.size
  have HC3 : Hid (∀ w' (i : Nat), Below W3.heap.size W3 w' → w'.cell? ⟨w2.heap.size, i, none⟩ = (#[Value.int .i64 4, .int .u64 0, .slice a 0 c, .string ⟨#[]⟩, .slice A 2 C])[i]?) := fun w' i hb =>
    (hb.cell (p := ⟨w2.heap.size, i, none⟩) (show w2.heap.size < W3.heap.size by omega)).trans (by rw [hW3, World.cell?_alloc_mark])
  clear hW3
  have HELD : Hid (∀ w', Below W3.heap.size W3 w' → (w'.cell? ⟨w.heap.size, 2, none⟩ = some (.int .u64 t) ∧ w'.cell? ⟨w.heap.size, 3, none⟩ = some (.int .u32 q)) ∧ (w'.cell? ⟨w2.heap.size, 0, none⟩ = some (.int .i64 4) ∧ w'.cell? ⟨w2.heap.size, 1, none⟩ = some (.int .u64 0) ∧ w'.cell? ⟨w2.heap.size, 2, none⟩ = some (.slice a 0 c) ∧ w'.cell? ⟨w2.heap.size, 3, none⟩ = some (.string ⟨#[]⟩) ∧ w'.cell? ⟨w2.heap.size, 4, none⟩ = some (.slice A 2 C))) := fun w' hb => by
    obtain ⟨_, _, h2, h3⟩ := HX.out w' (below_on HB3.out hb)
    exact ⟨⟨h2, h3⟩, HC3.out w' 0 hb, HC3.out w' 1 hb, HC3.out w' 2 hb, HC3.out w' 3 hb, HC3.out w' 4 hb⟩
  have F0 : Below W3.heap.size W3 W3.drew := (Below.refl _ _).drew
  go_region_held3 (fun w' => (w'.cell? ⟨w.heap.size, 2, none⟩ = some (.int .u64 t) ∧ w'.cell? ⟨w.heap.size, 3, none⟩ = some (.int .u32 q)) ∧ (w'.cell? ⟨w2.heap.size, 0, none⟩ = some (.int .i64 4) ∧ w'.cell? ⟨w2.heap.size, 1, none⟩ = some (.int .u64 0) ∧ w'.cell? ⟨w2.heap.size, 2, none⟩ = some (.slice a 0 c) ∧ w'.cell? ⟨w2.heap.size, 3, none⟩ = some (.string ⟨#[]⟩) ∧ w'.cell? ⟨w2.heap.size, 4, none⟩ = some (.slice A 2 C)))
    (first | (refine HELD.out _ ?_; with_reducible exact F3) | (have hh := HELD.out _ F3; refine ⟨⟨?_, ?_⟩, ?_, ?_, ?_, ?_, ?_⟩ <;> (rw [World.cell?_setCell_other _ _ _ _ (by first | (simp; done) | (simp; omega)), World.cell?_setCell_other _ _ _ _ (by first | (simp; done) | (simp; omega)), World.cell?_setCell_other _ _ _ _ (by first | (simp; done) | (simp; omega)), World.cell?_setCell_other _ _ _ _ (by first | (simp; done) | (simp; omega)), World.cell?_setCell_other _ _ _ _ (by first | (simp; done) | (simp; omega))]; first | exact hh.1.1 | exact hh.1.2 | exact hh.2.1 | exact hh.2.2.1 | exact hh.2.2.2.1 | exact hh.2.2.2.2.1 | exact hh.2.2.2.2.2)) | (refine HELD.out _ ?_; with_reducible exact below_al F2 _) | (refine HELD.out _ ?_; with_reducible exact F2) | (refine HELD.out _ ?_; with_reducible exact F1) | (refine HELD.out _ ?_; with_reducible exact F0))
    (first
      | (go_at_call 39; (with_reducible refine (uintItem_any (t : Int) _).mono ?_); rintro e w4 ⟨rfl, hb4⟩; have F1 : Below W3.heap.size W3 w4 := below_on F0 hb4)
      | (go_at_call 39; (with_reducible refine (uintItem_any (q : Int) _).mono ?_); rintro e w5 ⟨rfl, hb5⟩; have F2 : Below W3.heap.size W3 w5 := below_on F1 hb5)
      | (go_at_call 38; (with_reducible refine (listItem_any _ _ _ _).mono ?_); rintro e w6 ⟨rfl, hb6⟩; obtain ⟨⟨b6, hs6⟩, HL6⟩ := new_row hb6; have F3 : Below W3.heap.size W3 w6 := below_on F2 b6; obtain ⟨⟨d0, d1, d2, d3, d4⟩, df⟩ := HR.out w6 (below_on HB3.out F3); have f0 := df 0; have f1 := df 1; have f2 := df 2; have f3 := df 3; have f4 := df 4; clear df))
  rename_i hHeld
  clear hHeld F0
  go_wp2
  obtain ⟨q0, q1, q2, q3, q4⟩ := setI_cells d0 d1 d2 d3 d4 (.int .i64 4) (.int .u64 0) (.slice none 0 0) (.string ⟨#[]⟩) (.slice (some ⟨w5.heap.size, 0, none⟩) 3 3)
  have HB6 := Lib.hid (setI_on (g := w.heap.size + 1) (below_on HB.out (below_on HB3.out F3)) (by omega) (.int .i64 4) (.int .u64 0) (.slice none 0 0) (.string ⟨#[]⟩) (.slice (some ⟨w5.heap.size, 0, none⟩) 3 3))
  have hz6 : (setI w6 (w.heap.size + 1) (.int .i64 4) (.int .u64 0) (.slice none 0 0) (.string ⟨#[]⟩) (.slice (some ⟨w5.heap.size, 0, none⟩) 3 3)).heap.size = w6.heap.size := by unfold setI; simp only [World.size_setCell]
  have hz5 : W3.heap.size ≤ w5.heap.size := F2.size
  have HV : Hid (ItS (setI w6 (w.heap.size + 1) (.int .i64 4) (.int .u64 0) (.slice none 0 0) (.string ⟨#[]⟩) (.slice (some ⟨w5.heap.size, 0, none⟩) 3 3)) (newB w (setI w6 (w.heap.size + 1) (.int .i64 4) (.int .u64 0) (.slice none 0 0) (.string ⟨#[]⟩) (.slice (some ⟨w5.heap.size, 0, none⟩) 3 3))) (listV (some ⟨w5.heap.size, 0, none⟩) 3 3) (itLs [itE n m, itU t, itU q])) := by
    have hv6 : ItS w6 (newB w1 w6) (.agg #[.int .i64 4, .int .u64 0, .slice a 0 c, .string ⟨#[]⟩, .slice A 2 C]) (itE n m) := HV2.out.new_on (HB23.out.trans (F3.mono HB23.out.size))
    have hk : KeepB (newB w1 w6) w6 (setI w6 (w.heap.size + 1) (.int .i64 4) (.int .u64 0) (.slice none 0 0) (.string ⟨#[]⟩) (.slice (some ⟨w5.heap.size, 0, none⟩) 3 3)) := fun b hb => by
      unfold setI
      have hne : b ≠ w.heap.size + 1 := by have := hb.1; omega
      rw [Below.heap_setCell _ _ _ _ hne, Below.heap_setCell _ _ _ _ hne, Below.heap_setCell _ _ _ _ hne, Below.heap_setCell _ _ _ _ hne, Below.heap_setCell _ _ _ _ hne]
    have hv7 := ItS.more (T := newB w (setI w6 (w.heap.size + 1) (.int .i64 4) (.int .u64 0) (.slice none 0 0) (.string ⟨#[]⟩) (.slice (some ⟨w5.heap.size, 0, none⟩) 3 3))) (fun b hb => ⟨by have := hb.1; omega, by rw [hz6]; exact hb.2⟩) _ (ItS.keep hk _ hv6)
    have d := fun i : Nat => (setI_cell (w := w6) (g := w.heap.size + 1) (g' := w5.heap.size) (i := i) (by omega) (.int .i64 4) (.int .u64 0) (.slice none 0 0) (.string ⟨#[]⟩) (.slice (some ⟨w5.heap.size, 0, none⟩) 3 3)).trans (HL6.out w6 (Below.refl _ _) i)
    exact itS_three ⟨by omega, by rw [hz6]; exact hs6⟩ ⟨_, _, _, _, _, rfl, d 0, d 1, d 2, d 3, d 4⟩ ⟨_, _, _, _, _, rfl, d 5, d 6, d 7, d 8, d 9⟩ ⟨_, _, _, _, _, rfl, d 10, d 11, d 12, d 13, d 14⟩ hv7 (itS_uint _ _ t ⟨by omega, by omega⟩) (itS_uint _ _ q ⟨by omega, by omega⟩)
  unfold setI at q0 q1 q2 q3 q4 HB6 HV
  exact bodyPost_ret (v := .tuple #[listV (some ⟨w5.heap.size, 0, none⟩) 3 3, .int .i64 0]) (by simp [listV, results, Tryd.results21, go_sem, q0, q1, q2, q3, q4]) rfl ⟨⟨_, rfl, HV.out⟩, HB6.out⟩

/-- A name's item. -/
def itN (n m t q : Nat) : It := itLs [itE n m, itU t, itU q]

end Go.Proofs.YtjbdpkjkeelgfaaDoor
