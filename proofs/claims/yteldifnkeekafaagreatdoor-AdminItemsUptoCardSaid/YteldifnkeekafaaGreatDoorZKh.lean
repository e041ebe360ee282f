/- Joined texts. -/
import Derived.Test.YteldifnkeekafaaGreatDoorZBy
import Derived.Test.YteldifnkeekafaaGreatDoorZJg
import Derived.Recover
import Derived.Test.YteldifnkeekafaaGreatDoorZJa
import Derived.Deep.RegionHeld3
import Derived.Sort.Grow
import Derived.Lib.Hide
set_option maxHeartbeats 4000000
set_option linter.unusedSimpArgs false
set_option linter.unusedVariables false
set_option maxRecDepth 100000
namespace Go.Proofs.YteldifnkeekafaaGreatDoor
open Go Go.RowKit Go.Shelf

theorem nitem_no (n m t q : Nat) (h : ¬ (0 < n ∧ t ≤ forever)) (w : World) :
  Calls Tryz.prog 95 #[.agg #[.int .u32 n, .int .u32 m, .int .u64 t, .int .u32 q]] w fun e w' => e = .returned (.tuple #[noneV, .int .i64 2]) ∧ Below w.heap.size w w' := by
 have HC := h_ (fun w => cname_no (n : Int) m t q (by have e : forever = 4611686018427387903 := rfl; omega) w)
 clear h
 go_enter Tryz.func95, Tryz.ntmps95
 go_wp2_with fail
 refine (HC.out _).mono ?_
 rintro e w1 ⟨rfl, hb1⟩
 have hs1 := hb1.size
 simp at hs1
 have HB := h_ (below_on (below_al (below_al (Below.refl w.heap.size w) (.cells #[.int .u32 n, .int .u32 m, .int .u64 t, .int .u32 q] 30)) (.cells #[.int .i64 0, .int .u64 0, .slice none 0 0, .string ⟨#[]⟩, .slice none 0 0] 45)) hb1)
 have g1 : ∀ i : Nat, w1.cell? ⟨w.heap.size + 1, i, none⟩ = (#[Value.int .i64 0, .int .u64 0, .slice none 0 0, .string ⟨#[]⟩, .slice none 0 0])[i]? := fun i => by
  refine (hb1.cell (p := ⟨w.heap.size + 1, i, none⟩) (by simp)).trans ?_
  rw [← World.size_alloc w (.cells #[.int .u32 n, .int .u32 m, .int .u64 t, .int .u32 q] 30), World.cell?_alloc_mark]
 have gf : ∀ i : Nat, w1.frozen? ⟨w.heap.size + 1, i, none⟩ = false := fun i => by
  refine (hb1.frozen (p := ⟨w.heap.size + 1, i, none⟩) (by simp)).trans ?_
  rw [← World.size_alloc w (.cells #[.int .u32 n, .int .u32 m, .int .u64 t, .int .u32 q] 30)]
  exact World.frozen?_alloc_new _ _ _ _
 clear hb1
 have d0 := g1 0
 have d1 := g1 1
 have d2 := g1 2
 have d3 := g1 3
 have d4 := g1 4
 simp at d0 d1 d2 d3 d4
 have f0 := gf 0
 have f1 := gf 1
 have f2 := gf 2
 have f3 := gf 3
 have f4 := gf 4
 clear g1 gf
 go_wp2
 obtain ⟨q0, q1, q2, q3, q4⟩ := setI_cells d0 d1 d2 d3 d4 (.int .i64 0) (.int .u64 0) (.slice none 0 0) (.string ⟨#[]⟩) (.slice none 0 0)
 have HB2 := h_ (setI_on (g := w.heap.size + 1) HB.out (by omega) (.int .i64 0) (.int .u64 0) (.slice none 0 0) (.string ⟨#[]⟩) (.slice none 0 0))
 unfold setI at q0 q1 q2 q3 q4 HB2
 exact bodyPost_ret (v := .tuple #[noneV, .int .i64 2]) (by simp [noneV, results, Tryz.results95, go_sem, q0, q1, q2, q3, q4]) rfl ⟨rfl, HB2.out⟩

theorem nitem_yes (n m t q : Nat) (h : 0 < n) (hn : n ≤ 4294967295) (hm : m ≤ 4294967295) (ht : t ≤ forever) (hq : q ≤ 4294967295) (w : World) :
  Calls Tryz.prog 95 #[.agg #[.int .u32 n, .int .u32 m, .int .u64 t, .int .u32 q]] w fun e w' => (∃ v, e = .returned (.tuple #[v, .int .i64 0]) ∧ ItS w' (newB w w') v (itLs [itE n m, itU t, itU q])) ∧ Below w.heap.size w w' := by
 have ef : forever = 4611686018427387903 := rfl
 have HC := h_ (fun w => cname_ok (n : Int) m t q (by omega) (by omega) w)
 have hwq : IntKind.u64.wrap (q : Int) = (q : Int) := by rw [IntKind.wrap_u64]; omega
 have HI := h_ (fun w => item_yes n m h hn hm w)
 go_enter Tryz.func95, Tryz.ntmps95
 go_wp2_with fail
 refine (HC.out _).mono ?_
 rintro e w1 ⟨rfl, hb1⟩
 have hs1 := hb1.size
 simp at hs1
 have HX : Hid (∀ w', Below w1.heap.size w1 w' → (w'.cell? ⟨w.heap.size, 0, none⟩ = some (.int .u32 n) ∧ w'.cell? ⟨w.heap.size, 1, none⟩ = some (.int .u32 m) ∧ w'.cell? ⟨w.heap.size, 2, none⟩ = some (.int .u64 t) ∧ w'.cell? ⟨w.heap.size, 3, none⟩ = some (.int .u32 q))) := fun w' hb => by
  have hh := fun i => (below_on hb1 hb).cell (p := ⟨w.heap.size, i, none⟩) (by simp; omega)
  exact ⟨(hh 0).trans (by simp), (hh 1).trans (by simp), (hh 2).trans (by simp), (hh 3).trans (by simp)⟩
 have HR : Hid (∀ w', Below w1.heap.size w1 w' → (w'.cell? ⟨w.heap.size + 1, 0, none⟩ = some (.int .i64 0) ∧ w'.cell? ⟨w.heap.size + 1, 1, none⟩ = some (.int .u64 0) ∧ w'.cell? ⟨w.heap.size + 1, 2, none⟩ = some (.slice none 0 0) ∧ w'.cell? ⟨w.heap.size + 1, 3, none⟩ = some (.string ⟨#[]⟩) ∧ w'.cell? ⟨w.heap.size + 1, 4, none⟩ = some (.slice none 0 0)) ∧ ∀ i, w'.frozen? ⟨w.heap.size + 1, i, none⟩ = false) := fun w' hb => by
  have hc := below_on hb1 hb
  have g1 : ∀ i : Nat, w'.cell? ⟨w.heap.size + 1, i, none⟩ = (#[Value.int .i64 0, .int .u64 0, .slice none 0 0, .string ⟨#[]⟩, .slice none 0 0])[i]? := fun i => by
   refine (hc.cell (p := ⟨w.heap.size + 1, i, none⟩) (by simp)).trans ?_
   rw [← World.size_alloc w (.cells #[.int .u32 n, .int .u32 m, .int .u64 t, .int .u32 q] 30), World.cell?_alloc_mark]
  refine ⟨⟨g1 0, g1 1, g1 2, g1 3, g1 4⟩, fun i => (hc.frozen (p := ⟨w.heap.size + 1, i, none⟩) (by simp)).trans ?_⟩
  rw [← World.size_alloc w (.cells #[.int .u32 n, .int .u32 m, .int .u64 t, .int .u32 q] 30)]
  exact World.frozen?_alloc_new _ _ _ _
 have HB : Hid (Below w.heap.size w w1) := below_on (below_al (below_al bR _) _) hb1
 clear hb1
 obtain ⟨c0, c1, c2, c3⟩ := HX.out w1 bR
 go_wp2_with fail
 refine (HI.out _).mono ?_
 rintro e w2 ⟨⟨v, rfl, hv⟩, hb2⟩
 obtain ⟨a, c, A, C, hv'⟩ := hv.form
 have ee : itE n m = itLs [itU 2, itLs [itU n, itU m]] := if_neg (by omega)
 rw [ee] at hv'
 have hv2 : v = .agg #[.int .i64 4, .int .u64 0, .slice a 0 c, .string ⟨#[]⟩, .slice A 2 C] := hv'
 clear hv' ee
 subst hv2
 have HV2 := h_ hv
 clear hv
 have HB2 := h_ hb2
 clear c0 c1 c2 c3
 obtain ⟨c0, c1, c2, c3⟩ := HX.out w2 HB2.out
 clear hb2
 go_wp2_with fail
 clear c0 c1 c2 c3
 obtain ⟨W3, hW3⟩ : ∃ W, W = w2.alloc (.cells #[.int .i64 4, .int .u64 0, .slice a 0 c, .string ⟨#[]⟩, .slice A 2 C] 45) := ⟨_, rfl⟩
 rw [← hW3]
 have HB3 : Hid (Below w1.heap.size w1 W3) := by rw [hW3]; exact below_al HB2.out _
 have HB23 : Hid (Below w2.heap.size w2 W3) := by rw [hW3]; exact below_al bR _
 have hs3 : W3.heap.size ≤ w2.heap.size + 1 ∧ w2.heap.size + 1 ≤ W3.heap.size := by rw [hW3]; simp
 have hz2 : w1.heap.size ≤ w2.heap.size := HB2.out.size
 have HC3 : Hid (∀ w' (i : Nat), Below W3.heap.size W3 w' → w'.cell? ⟨w2.heap.size, i, none⟩ = (#[Value.int .i64 4, .int .u64 0, .slice a 0 c, .string ⟨#[]⟩, .slice A 2 C])[i]?) := fun w' i hb =>
  (hb.cell (p := ⟨w2.heap.size, i, none⟩) (show w2.heap.size < W3.heap.size by omega)).trans (by rw [hW3, World.cell?_alloc_mark])
 clear hW3
 have HELD : Hid (∀ w', Below W3.heap.size W3 w' → (w'.cell? ⟨w.heap.size, 2, none⟩ = some (.int .u64 t) ∧ w'.cell? ⟨w.heap.size, 3, none⟩ = some (.int .u32 q)) ∧ (w'.cell? ⟨w2.heap.size, 0, none⟩ = some (.int .i64 4) ∧ w'.cell? ⟨w2.heap.size, 1, none⟩ = some (.int .u64 0) ∧ w'.cell? ⟨w2.heap.size, 2, none⟩ = some (.slice a 0 c) ∧ w'.cell? ⟨w2.heap.size, 3, none⟩ = some (.string ⟨#[]⟩) ∧ w'.cell? ⟨w2.heap.size, 4, none⟩ = some (.slice A 2 C))) := fun w' hb => by
  obtain ⟨_, _, h2, h3⟩ := HX.out w' (below_on HB3.out hb)
  exact ⟨⟨h2, h3⟩, HC3.out w' 0 hb, HC3.out w' 1 hb, HC3.out w' 2 hb, HC3.out w' 3 hb, HC3.out w' 4 hb⟩
 have F0 : Below W3.heap.size W3 W3.drew := bR.drew
 go_region_held3 (fun w' => (w'.cell? ⟨w.heap.size, 2, none⟩ = some (.int .u64 t) ∧ w'.cell? ⟨w.heap.size, 3, none⟩ = some (.int .u32 q)) ∧ (w'.cell? ⟨w2.heap.size, 0, none⟩ = some (.int .i64 4) ∧ w'.cell? ⟨w2.heap.size, 1, none⟩ = some (.int .u64 0) ∧ w'.cell? ⟨w2.heap.size, 2, none⟩ = some (.slice a 0 c) ∧ w'.cell? ⟨w2.heap.size, 3, none⟩ = some (.string ⟨#[]⟩) ∧ w'.cell? ⟨w2.heap.size, 4, none⟩ = some (.slice A 2 C)))
  (first | (refine HELD.out _ ?_; with_reducible exact F3) | (have hh := HELD.out _ F3; refine ⟨⟨?_, ?_⟩, ?_, ?_, ?_, ?_, ?_⟩ <;> (rw [World.cell?_setCell_other _ _ _ _ (by first | (simp; done) | (simp; omega)), World.cell?_setCell_other _ _ _ _ (by first | (simp; done) | (simp; omega)), World.cell?_setCell_other _ _ _ _ (by first | (simp; done) | (simp; omega)), World.cell?_setCell_other _ _ _ _ (by first | (simp; done) | (simp; omega)), World.cell?_setCell_other _ _ _ _ (by first | (simp; done) | (simp; omega))]; first | exact hh.1.1 | exact hh.1.2 | exact hh.2.1 | exact hh.2.2.1 | exact hh.2.2.2.1 | exact hh.2.2.2.2.1 | exact hh.2.2.2.2.2)) | (refine HELD.out _ ?_; with_reducible exact below_al F2 _) | (refine HELD.out _ ?_; with_reducible exact F2) | (refine HELD.out _ ?_; with_reducible exact F1) | (refine HELD.out _ ?_; with_reducible exact F0))
  (first
   | (go_at_call 117; (with_reducible refine (uintItem_any (t : Int) _).mono ?_); rintro e w4 ⟨rfl, hb4⟩; have F1 : Below W3.heap.size W3 w4 := below_on F0 hb4)
   | (go_at_call 117; (with_reducible refine (uintItem_any (q : Int) _).mono ?_); rintro e w5 ⟨rfl, hb5⟩; have F2 : Below W3.heap.size W3 w5 := below_on F1 hb5)
   | (go_at_call 116; (with_reducible refine (listItem_any _ _ _ _).mono ?_); rintro e w6 ⟨rfl, hb6⟩; obtain ⟨⟨b6, hs6⟩, HL6⟩ := new_row hb6; have F3 : Below W3.heap.size W3 w6 := below_on F2 b6; obtain ⟨⟨d0, d1, d2, d3, d4⟩, df⟩ := HR.out w6 (below_on HB3.out F3); have f0 := df 0; have f1 := df 1; have f2 := df 2; have f3 := df 3; have f4 := df 4; clear df))
 rename_i hHeld
 clear hHeld F0
 go_wp2
 obtain ⟨q0, q1, q2, q3, q4⟩ := setI_cells d0 d1 d2 d3 d4 (.int .i64 4) (.int .u64 0) (.slice none 0 0) (.string ⟨#[]⟩) (.slice (some ⟨w5.heap.size, 0, none⟩) 3 3)
 have HB6 := h_ (setI_on (g := w.heap.size + 1) (below_on HB.out (below_on HB3.out F3)) (by omega) (.int .i64 4) (.int .u64 0) (.slice none 0 0) (.string ⟨#[]⟩) (.slice (some ⟨w5.heap.size, 0, none⟩) 3 3))
 have hz6 : (setI w6 (w.heap.size + 1) (.int .i64 4) (.int .u64 0) (.slice none 0 0) (.string ⟨#[]⟩) (.slice (some ⟨w5.heap.size, 0, none⟩) 3 3)).heap.size = w6.heap.size := by unfold setI; simp only [World.size_setCell]
 have hz5 : W3.heap.size ≤ w5.heap.size := F2.size
 have HV : Hid (ItS (setI w6 (w.heap.size + 1) (.int .i64 4) (.int .u64 0) (.slice none 0 0) (.string ⟨#[]⟩) (.slice (some ⟨w5.heap.size, 0, none⟩) 3 3)) (newB w (setI w6 (w.heap.size + 1) (.int .i64 4) (.int .u64 0) (.slice none 0 0) (.string ⟨#[]⟩) (.slice (some ⟨w5.heap.size, 0, none⟩) 3 3))) (listV (some ⟨w5.heap.size, 0, none⟩) 3 3) (itLs [itE n m, itU t, itU q])) := by
  have hv6 : ItS w6 (newB w1 w6) (.agg #[.int .i64 4, .int .u64 0, .slice a 0 c, .string ⟨#[]⟩, .slice A 2 C]) (itE n m) := HV2.out.new_on (HB23.out.trans (F3.mono HB23.out.size))
  have hk : KeepB (newB w1 w6) w6 (setI w6 (w.heap.size + 1) (.int .i64 4) (.int .u64 0) (.slice none 0 0) (.string ⟨#[]⟩) (.slice (some ⟨w5.heap.size, 0, none⟩) 3 3)) := fun b hb => by
   unfold setI
   have hne : b ≠ w.heap.size + 1 := by have := hb.1; omega
   rw [Below.heap_setCell _ _ _ _ hne, Below.heap_setCell _ _ _ _ hne, Below.heap_setCell _ _ _ _ hne, Below.heap_setCell _ _ _ _ hne, Below.heap_setCell _ _ _ _ hne]
  have hv7 := ItS.more (T := newB w (setI w6 (w.heap.size + 1) (.int .i64 4) (.int .u64 0) (.slice none 0 0) (.string ⟨#[]⟩) (.slice (some ⟨w5.heap.size, 0, none⟩) 3 3))) (fun b hb => ⟨by have := hb.1; omega, by rw [hz6]; exact hb.2⟩) _ (ItS.keep hk _ hv6)
  have d := fun i : Nat => (setI_cell (w := w6) (g := w.heap.size + 1) (g' := w5.heap.size) (i := i) (by omega) (.int .i64 4) (.int .u64 0) (.slice none 0 0) (.string ⟨#[]⟩) (.slice (some ⟨w5.heap.size, 0, none⟩) 3 3)).trans (HL6.out w6 bR i)
  exact itS_three ⟨by omega, by rw [hz6]; exact hs6⟩ ⟨_, _, _, _, _, rfl, d 0, d 1, d 2, d 3, d 4⟩ ⟨_, _, _, _, _, rfl, d 5, d 6, d 7, d 8, d 9⟩ ⟨_, _, _, _, _, rfl, d 10, d 11, d 12, d 13, d 14⟩ hv7 (itS_uint _ _ t ⟨by omega, by omega⟩) (itS_uint _ _ q ⟨by omega, by omega⟩)
 unfold setI at q0 q1 q2 q3 q4 HB6 HV
 exact bodyPost_ret (v := .tuple #[listV (some ⟨w5.heap.size, 0, none⟩) 3 3, .int .i64 0]) (by simp [listV, results, Tryz.results95, go_sem, q0, q1, q2, q3, q4]) rfl ⟨⟨_, rfl, HV.out⟩, HB6.out⟩

def itN (n m t q : Nat) : It := itLs [itE n m, itU t, itU q]

theorem put2 {w : World} {b : Nat} {a0 a1 : Value} (v0 v1 : Value) (h0 : w.cell? ⟨b, 0, none⟩ = some a0) (h1 : w.cell? ⟨b, 1, none⟩ = some a1) :
  ((w.setCell ⟨b, 0, none⟩ v0).setCell ⟨b, 1, none⟩ v1).cell? ⟨b, 0, none⟩ = some v0 ∧ ((w.setCell ⟨b, 0, none⟩ v0).setCell ⟨b, 1, none⟩ v1).cell? ⟨b, 1, none⟩ = some v1 :=
 ⟨(World.cell?_setCell_other _ _ _ _ (by simp)).trans (World.cell?_setCell_same _ _ _ h0), World.cell?_setCell_same _ _ _ ((World.cell?_setCell_other _ _ _ _ (by simp)).trans h1)⟩

theorem wpAny_one {P : Program} {md : Region.Mode} {ops : Array Oper} {Q : Exit → Act → World → Prop} {fuel : Nat} {listed : Array Bool} {a : Act} {w : World} {i : Nat} {o : Oper} (hr : Region.ready md ops listed = [i]) (ho : ops[i]? = some o)
  (h : ∀ K' : Act → World → Prop, (∀ a w, wpAny P md ops Q fuel (listed.setIfInBounds i true) a w → K' a w) → if Region.wanted o (yielded ops a.tmps) = true then Oper.wp P o a w K' Q else K' (a.put o.dst undef) w) : wpAny P md ops Q (fuel + 1) listed a w :=
 wpAny_ready hr (by simp) (AllReady.cons ho h AllReady.nil)

theorem nmAssert_errno (v : Value) (w : World) : (Instr.typeAssert (.iface 33 v) 20 33 false).run Tryz.prog w = .ok v w := by
 simp [Instr.typeAssert, run_underlying Tryz.underlying33]

set_option maxRecDepth 100000 in
theorem catchN_gives (p : Addr) (x c : Int) (w : World) (hc : w.cell? p = some (.int .i64 x)) (hz : w.frozen? p = false) :
  CallsD Tryz.prog 146 #[.pointer (some p)] (.panicking [{ v := .iface 33 (.int .i64 c), recovered := false }]) w fun e u' w' =>
   e = .returned (.tuple #[]) ∧ u' = .panicking [{ v := .iface 33 (.int .i64 c), recovered := true }] ∧ w' = w.setCell p (.int .i64 c) := by
 refine callsD_of_wpS Tryz.func146 rfl fun c₀ cs hu => ?_
 apply wpS_seq
 apply wpS_region
 simp [wpOpsS, go_sem, recoverD, hu, Tryz.ntmps146, Exit.thenS]
 refine wpS_of_wp ?_
 change Code.wp _ _ _ { tmps := #[.pointer (some p), .iface 33 (.int .i64 c), .iface 33 (.int .i64 c), undef, undef, undef, undef], defers := [] } _
 have has := nmAssert_errno (.int .i64 c)
 go_wp2_with fail
 cases c₀
 simp_all [bodyPostS, results, Tryz.results146]

theorem catchN_idle (p : Addr) (w : World) :
  CallsD Tryz.prog 146 #[.pointer (some p)] .returning w fun e u' w' => e = .returned (.tuple #[]) ∧ u' = .returning ∧ w' = w := by
 refine callsD_of_wpS Tryz.func146 rfl fun c₀ cs hu => ?_
 apply wpS_seq
 apply wpS_region
 simp [wpOpsS, go_sem, recoverD, hu, Tryz.ntmps146, Exit.thenS]
 refine wpS_of_wp ?_
 change Code.wp _ _ _ { tmps := #[.pointer (some p), .nilIface, .nilIface, undef, undef, undef, undef], defers := [] } _
 go_wp2_with fail
 cases c₀
 simp_all [bodyPostS, results, Tryz.results146]

def RdN (w : World) (r : Except Int (Nat × Nat × Nat × Nat)) (e : Ending) (w' : World) : Prop :=
 Below w.heap.size w w' ∧ match r with
  | .ok ⟨n, m, t, q⟩ => e = .returned (.agg #[.int .u32 n, .int .u32 m, .int .u64 t, .int .u32 q])
  | .error c => e = nmGives c

def TrN (w : World) (r : Except Int (Nat × Nat × Nat × Nat)) (e : Ending) (w' : World) : Prop :=
 Below w.heap.size w w' ∧ match r with
  | .ok ⟨n, m, t, q⟩ => e = .returned (.tuple #[.agg #[.int .u32 n, .int .u32 m, .int .u64 t, .int .u32 q], .int .i64 0])
  | .error c => e = .returned (.tuple #[.agg #[.int .u32 0, .int .u32 0, .int .u64 0, .int .u32 0], .int .i64 c])

set_option maxRecDepth 100000 in
theorem triedN_any (fc : Nat) (lb : Array Value) (r : Except Int (Nat × Nat × Nat × Nat)) (w : World) (hent : ∀ args w, (callFunc fc args).run Tryz.prog w = .ok (.enter fc args) w) (hR : ∀ w', Below w.heap.size w w' → Calls Tryz.prog fc lb w' (RdN w' r)) :
  Calls Tryz.prog 136 #[.func (.func fc) #[] lb] w (TrN w r) := by
 have hmf : ∀ (fn : Fn) (first cap : Array Value) (w : World), (Instr.makeFunc fn first cap).run Tryz.prog w = .ok (.func fn first cap) w := fun _ _ _ _ => rfl
 obtain ⟨W, hW⟩ : ∃ W, W = (w.alloc (.cells #[.int .u32 0, .int .u32 0, .int .u64 0, .int .u32 0] 30)).alloc (.cells #[.int .i64 0] 33) := ⟨_, rfl⟩
 have hbW : Below w.heap.size w W := by rw [hW]; exact below_al (below_al bR _) _
 have hsW : W.heap.size ≤ w.heap.size + 2 ∧ w.heap.size + 2 ≤ W.heap.size := by rw [hW]; simp
 have HC : Hid (∀ w', Below W.heap.size W w' → ((w'.cell? ⟨w.heap.size, 0, none⟩ = some (.int .u32 0) ∧ w'.cell? ⟨w.heap.size, 1, none⟩ = some (.int .u32 0) ∧ w'.cell? ⟨w.heap.size, 2, none⟩ = some (.int .u64 0) ∧ w'.cell? ⟨w.heap.size, 3, none⟩ = some (.int .u32 0)) ∧ ∀ i, w'.frozen? ⟨w.heap.size, i, none⟩ = false) ∧ w'.cell? ⟨w.heap.size + 1, 0, none⟩ = some (.int .i64 0) ∧ w'.frozen? ⟨w.heap.size + 1, 0, none⟩ = false) := fun w' hb => by
  have hh : ∀ i, w'.cell? ⟨w.heap.size, i, none⟩ = W.cell? ⟨w.heap.size, i, none⟩ := fun i => hb.cell (p := ⟨w.heap.size, i, none⟩) (show w.heap.size < _ by omega)
  have hf : ∀ i, w'.frozen? ⟨w.heap.size, i, none⟩ = W.frozen? ⟨w.heap.size, i, none⟩ := fun i => hb.frozen (p := ⟨w.heap.size, i, none⟩) (show w.heap.size < _ by omega)
  refine ⟨⟨⟨(hh 0).trans (by rw [hW]; simp), (hh 1).trans (by rw [hW]; simp), (hh 2).trans (by rw [hW]; simp), (hh 3).trans (by rw [hW]; simp)⟩, fun i => (hf i).trans (by rw [hW]; simp)⟩, (hb.cell (p := ⟨w.heap.size + 1, 0, none⟩) (show w.heap.size + 1 < _ by omega)).trans ?_, (hb.frozen (p := ⟨w.heap.size + 1, 0, none⟩) (show w.heap.size + 1 < _ by omega)).trans ?_⟩
  ·rw [hW, ← World.size_alloc w (.cells #[.int .u32 0, .int .u32 0, .int .u64 0, .int .u32 0] 30), World.cell?_alloc_mark]
   rfl
  ·rw [hW, ← World.size_alloc w (.cells #[.int .u32 0, .int .u32 0, .int .u64 0, .int .u32 0] 30)]
   exact World.frozen?_alloc_new _ _ _ _
 have HB := h_ hbW
 have HW := h_ hW
 have HR := h_ (hR W hbW)
 clear hW hbW hR
 go_enter_defers Tryz.func136, Tryz.ntmps136
 go_wp2_with fail
 rw [← HW.out]
 refine HR.out.mono ?_
 rintro e w1 ⟨hb1, hm⟩
 obtain ⟨⟨⟨d0, d1, d2, d3⟩, df⟩, ec, ef⟩ := HC.out w1 hb1
 have f0 := df 0
 have f1 := df 1
 have f2 := df 2
 have f3 := df 3
 have HB1 := h_ (HB.out.trans (hb1.mono (by omega)))
 clear hb1 df
 cases r with
 | error q =>
  have hm : e = nmGives q := hm
  subst hm
  rw [nmGives_def]
  go_wp2_with fail
  refine leaves_cons (f := 146) (args := #[.pointer (some ⟨w.heap.size + 1, 0, none⟩)]) (by simp) (by simp [go_sem]) ?_
  refine (catchN_gives ⟨w.heap.size + 1, 0, none⟩ 0 q w1 ec ef).mono ?_
  rintro e u' w'' ⟨rfl, rfl, rfl⟩
  have k0 : (w1.setCell ⟨w.heap.size + 1, 0, none⟩ (.int .i64 q)).cell? ⟨w.heap.size, 0, none⟩ = some (.int .u32 0) := (World.cell?_setCell_other _ _ _ _ (by simp)).trans d0
  have k1 : (w1.setCell ⟨w.heap.size + 1, 0, none⟩ (.int .i64 q)).cell? ⟨w.heap.size, 1, none⟩ = some (.int .u32 0) := (World.cell?_setCell_other _ _ _ _ (by simp)).trans d1
  have k2 : (w1.setCell ⟨w.heap.size + 1, 0, none⟩ (.int .i64 q)).cell? ⟨w.heap.size, 2, none⟩ = some (.int .u64 0) := (World.cell?_setCell_other _ _ _ _ (by simp)).trans d2
  have k3 : (w1.setCell ⟨w.heap.size + 1, 0, none⟩ (.int .i64 q)).cell? ⟨w.heap.size, 3, none⟩ = some (.int .u32 0) := (World.cell?_setCell_other _ _ _ _ (by simp)).trans d3
  have k9 : (w1.setCell ⟨w.heap.size + 1, 0, none⟩ (.int .i64 q)).cell? ⟨w.heap.size + 1, 0, none⟩ = some (.int .i64 q) := World.cell?_setCell_same _ _ _ ec
  have hP : TrN w (.error q) (.returned (.tuple #[.agg #[.int .u32 0, .int .u32 0, .int .u64 0, .int .u32 0], .int .i64 q])) (w1.setCell ⟨w.heap.size + 1, 0, none⟩ (.int .i64 q)) := ⟨HB1.out.setCell (p := ⟨w.heap.size + 1, 0, none⟩) (Nat.le_succ _) _, rfl⟩
  generalize w1.setCell ⟨w.heap.size + 1, 0, none⟩ (.int .i64 q) = w9 at *
  simp [Leaves, settle, results, Tryz.results136, go_sem, k0, k1, k2, k3, k9]
  exact hP
 | ok p =>
  obtain ⟨n, m, t, q⟩ := p
  have hm : e = .returned (.agg #[.int .u32 n, .int .u32 m, .int .u64 t, .int .u32 q]) := hm
  subst hm
  go_wp2_with fail
  obtain ⟨e0, e1, e2, e3⟩ := put4 (.int .u32 (n : Int)) (.int .u32 (m : Int)) (.int .u64 (t : Int)) (.int .u32 (q : Int)) d0 d1 d2 d3
  have hbk : Below w.heap.size w (((((w1.setCell ⟨w.heap.size, 0, none⟩ (.int .u32 (n : Int))).setCell ⟨w.heap.size, 1, none⟩ (.int .u32 (m : Int))).setCell ⟨w.heap.size, 2, none⟩ (.int .u64 (t : Int))).setCell ⟨w.heap.size, 3, none⟩ (.int .u32 (q : Int)))) := ((((HB1.out.setCell (p := ⟨w.heap.size, 0, none⟩) (Nat.le_refl _) _).setCell (p := ⟨w.heap.size, 1, none⟩) (Nat.le_refl _) _).setCell (p := ⟨w.heap.size, 2, none⟩) (Nat.le_refl _) _).setCell (p := ⟨w.heap.size, 3, none⟩) (Nat.le_refl _) _)
  have e9 : (((((w1.setCell ⟨w.heap.size, 0, none⟩ (.int .u32 (n : Int))).setCell ⟨w.heap.size, 1, none⟩ (.int .u32 (m : Int))).setCell ⟨w.heap.size, 2, none⟩ (.int .u64 (t : Int))).setCell ⟨w.heap.size, 3, none⟩ (.int .u32 (q : Int)))).cell? ⟨w.heap.size + 1, 0, none⟩ = some (.int .i64 0) := ((World.cell?_setCell_other _ _ _ _ (by simp)).trans ((World.cell?_setCell_other _ _ _ _ (by simp)).trans ((World.cell?_setCell_other _ _ _ _ (by simp)).trans ((World.cell?_setCell_other _ _ _ _ (by simp)).trans ec))))
  generalize ((((w1.setCell ⟨w.heap.size, 0, none⟩ (.int .u32 (n : Int))).setCell ⟨w.heap.size, 1, none⟩ (.int .u32 (m : Int))).setCell ⟨w.heap.size, 2, none⟩ (.int .u64 (t : Int))).setCell ⟨w.heap.size, 3, none⟩ (.int .u32 (q : Int))) = w3 at *
  have k0 : (w3.setCell ⟨w.heap.size + 1, 0, none⟩ (.int .i64 0)).cell? ⟨w.heap.size, 0, none⟩ = some (.int .u32 n) := (World.cell?_setCell_other _ _ _ _ (by simp)).trans e0
  have k1 : (w3.setCell ⟨w.heap.size + 1, 0, none⟩ (.int .i64 0)).cell? ⟨w.heap.size, 1, none⟩ = some (.int .u32 m) := (World.cell?_setCell_other _ _ _ _ (by simp)).trans e1
  have k2 : (w3.setCell ⟨w.heap.size + 1, 0, none⟩ (.int .i64 0)).cell? ⟨w.heap.size, 2, none⟩ = some (.int .u64 t) := (World.cell?_setCell_other _ _ _ _ (by simp)).trans e2
  have k3 : (w3.setCell ⟨w.heap.size + 1, 0, none⟩ (.int .i64 0)).cell? ⟨w.heap.size, 3, none⟩ = some (.int .u32 q) := (World.cell?_setCell_other _ _ _ _ (by simp)).trans e3
  have k9 : (w3.setCell ⟨w.heap.size + 1, 0, none⟩ (.int .i64 0)).cell? ⟨w.heap.size + 1, 0, none⟩ = some (.int .i64 0) := World.cell?_setCell_same _ _ _ e9
  have hP : TrN w (.ok (n, m, t, q)) (.returned (.tuple #[.agg #[.int .u32 n, .int .u32 m, .int .u64 t, .int .u32 q], .int .i64 0])) (w3.setCell ⟨w.heap.size + 1, 0, none⟩ (.int .i64 0)) := ⟨hbk.setCell (p := ⟨w.heap.size + 1, 0, none⟩) (Nat.le_succ _) _, rfl⟩
  refine leaves_cons (f := 146) (args := #[.pointer (some ⟨w.heap.size + 1, 0, none⟩)]) (by simp) (by simp [go_sem]) ?_
  refine (catchN_idle ⟨w.heap.size + 1, 0, none⟩ _).mono ?_
  rintro e u' w'' ⟨rfl, rfl, rfl⟩
  generalize w3.setCell ⟨w.heap.size + 1, 0, none⟩ (.int .i64 0) = w9 at *
  simp [Leaves, settle, results, Tryz.results136, go_sem, k0, k1, k2, k3, k9]
  exact hP

theorem trN_agg {w w' : World} {r : Except Int (Nat × Nat × Nat × Nat)} {e : Ending} (h : TrN w r e w') : ∃ (n m t q : Nat) (c : Int), e = .returned (.tuple #[.agg #[.int .u32 n, .int .u32 m, .int .u64 t, .int .u32 q], .int .i64 c]) ∧ (r = .ok (n, m, t, q) ∧ c = 0 ∨ r = .error c ∧ n = 0 ∧ m = 0 ∧ t = 0 ∧ q = 0) := by
 obtain ⟨_, h⟩ := h
 cases r with
 | error q => exact ⟨0, 0, 0, 0, q, h, .inr ⟨rfl, rfl, rfl, rfl, rfl⟩⟩
 | ok p =>
  obtain ⟨n, m, t, q⟩ := p
  exact ⟨n, m, t, q, 0, h, .inl ⟨rfl, rfl⟩⟩

theorem trN_of {w w' : World} {r : Except Int (Nat × Nat × Nat × Nat)} {n m t q : Nat} {c : Int} (h : r = .ok (n, m, t, q) ∧ c = 0 ∨ r = .error c ∧ n = 0 ∧ m = 0 ∧ t = 0 ∧ q = 0) (hb : Below w.heap.size w w') : TrN w r (.returned (.tuple #[.agg #[.int .u32 n, .int .u32 m, .int .u64 t, .int .u32 q], .int .i64 c])) w' := by
 rcases h with ⟨rfl, rfl⟩ | ⟨rfl, rfl, rfl, rfl, rfl⟩
 ·exact ⟨hb, rfl⟩
 ·exact ⟨hb, rfl⟩

end Go.Proofs.YteldifnkeekafaaGreatDoor

namespace Go.Proofs.YteldifnkeekafaaGreatDoor
open Go Go.RowKit Go.Shelf Go.Sort

end Go.Proofs.YteldifnkeekafaaGreatDoor

namespace Go.Proofs.YteldifnkeekafaaGreatDoor
open Go Go.RowKit Go.Shelf

theorem d3 : Lib.decDigits 3 = [51] := by rw [dd_small (by decide)]; decide
theorem d5 : Lib.decDigits 5 = [53] := by rw [dd_small (by decide)]; decide
theorem d9 : Lib.decDigits 9 = [57] := by rw [dd_small (by decide)]; decide

structure NmT where
 n : Nat
 m : Nat
 t : Nat
 q : Nat

def NmT.ok (x : NmT) : Prop := (x.n ≤ 4294967295 ∧ x.m ≤ 4294967295) ∧ (x.t < 18446744073709551616 ∧ x.q ≤ 4294967295)
def NmT.may (x : NmT) : Bool := decide (0 < x.n) && decide (x.t ≤ forever)
def NmT.it (x : NmT) : It := if x.may = true then itN x.n x.m x.t x.q else .mk 0 0 [] [] []
def NmT.er (x : NmT) : Int := if x.may = true then 0 else 2

theorem NmT.may_iff {x : NmT} : x.may = true ↔ (0 < x.n ∧ x.t ≤ forever) := by simp [NmT.may]

theorem nitemT_any (x : NmT) (h : x.ok) (w : World) :
  Calls Tryz.prog 95 #[.agg #[.int .u32 x.n, .int .u32 x.m, .int .u64 x.t, .int .u32 x.q]] w fun e w' => ∃ a c A C, e = .returned (.tuple #[.agg #[.int .i64 x.it.k, .int .u64 x.it.n, .slice a x.it.b.length c, .string ⟨x.it.s.toArray⟩, .slice A x.it.l.length C], .int .i64 x.er]) ∧
   ItS w' (newB w w') (.agg #[.int .i64 x.it.k, .int .u64 x.it.n, .slice a x.it.b.length c, .string ⟨x.it.s.toArray⟩, .slice A x.it.l.length C]) x.it ∧ Below w.heap.size w w' := by
 by_cases hm : x.may = true
 ·have h1 := NmT.may_iff.1 hm
  refine (nitem_yes _ _ _ _ h1.1 h.1.1 h.1.2 h1.2 h.2.2 w).mono ?_
  rintro e w' ⟨⟨v, rfl, hv⟩, hb⟩
  have e0 : x.it = itN x.n x.m x.t x.q := if_pos hm
  have e1 : x.er = 0 := if_pos hm
  rw [e0, e1]
  obtain ⟨a, c, A, C, rfl⟩ := hv.form
  exact ⟨a, c, A, C, rfl, hv, hb⟩
 ·refine (nitem_no _ _ _ _ (fun h => hm (NmT.may_iff.2 h)) w).mono ?_
  rintro e w' ⟨rfl, hb⟩
  have e0 : x.it = .mk 0 0 [] [] [] := if_neg hm
  have e1 : x.er = 2 := if_neg hm
  rw [e0, e1]
  exact ⟨none, 0, none, 0, rfl, itS_plain w' _ 0 0 [] (by decide) ⟨by decide, by decide⟩ (Nat.zero_le _), hb⟩

theorem refUint_any (n : Int) (w : World) : Calls Tryz.prog 52 #[.int .u64 n] w fun e w' => e = .returned (.agg #[.int .i64 1, .int .u64 n, .slice none 0 0, .string ⟨#[]⟩, .slice none 0 0]) ∧ Below w.heap.size w w' := by
 go_enter Tryz.func52, Tryz.ntmps52
 go_wp2
 exact bodyPost_ret (v := .agg #[.int .i64 1, .int .u64 n, .slice none 0 0, .string ⟨#[]⟩, .slice none 0 0]) (by simp [results, Tryz.results52, go_sem]) rfl ⟨rfl, below_al bR _⟩

theorem refList_any (a : Option Addr) (n c : Nat) (w : World) : Calls Tryz.prog 11 #[.slice a n c] w fun e w' => e = .returned (.agg #[.int .i64 4, .int .u64 0, .slice none 0 0, .string ⟨#[]⟩, .slice a n c]) ∧ Below w.heap.size w w' := by
 go_enter Tryz.func11, Tryz.ntmps11
 go_wp2
 exact bodyPost_ret (v := .agg #[.int .i64 4, .int .u64 0, .slice none 0 0, .string ⟨#[]⟩, .slice a n c]) (by simp [results, Tryz.results11, go_sem]) rfl ⟨rfl, below_al bR _⟩

theorem refNobody_any (n m : Nat) (w : World) : Calls Tryz.prog 111 #[.agg #[.int .u32 n, .int .u32 m]] w fun e w' => e = .returned (.bool (decide (n = 0 ∧ m = 0))) ∧ Below w.heap.size w w' := by
 by_cases h0 : n = 0
 ·subst h0
  by_cases h1 : m = 0
  ·subst h1
   go_enter Tryz.func111, Tryz.ntmps111
   go_wp2
   go_ret
   exact ⟨rfl, below_al bR _⟩
  ·have h1' : ((m : Int) == 0) = false := by simp; omega
   go_enter Tryz.func111, Tryz.ntmps111
   go_wp2
   go_ret
   exact ⟨by simp [h1], below_al bR _⟩
 ·have h0' : ((n : Int) == 0) = false := by simp; omega
  go_enter Tryz.func111, Tryz.ntmps111
  go_wp2
  go_ret
  exact ⟨by simp [h0], below_al bR _⟩

theorem refRightName_any (x : NmT) (w : World) : Calls Tryz.prog 49 #[.agg #[.int .u32 x.n, .int .u32 x.m, .int .u64 x.t, .int .u32 x.q]] w fun e w' => e = .returned (.bool x.may) ∧ Below w.heap.size w w' := by
 have ef : forever = 4611686018427387903 := rfl
 by_cases h0 : 0 < x.n
 ·have h0' : (0 : Int) < (x.n : Int) := by omega
  by_cases h1 : x.t ≤ forever
  ·have h1' : (x.t : Int) ≤ 4611686018427387903 := by omega
   have HM : Hid (x.may = true) := NmT.may_iff.2 ⟨h0, h1⟩
   go_enter Tryz.func49, Tryz.ntmps49
   go_wp2
   go_ret
   exact ⟨by rw [HM.out]; rfl, below_al bR _⟩
  ·have h1' : ¬ (x.t : Int) ≤ 4611686018427387903 := by omega
   have h1'' : decide ((x.t : Int) ≤ 4611686018427387903) = false := by simpa using h1'
   have HM : Hid (x.may = false) := by simp [Hid, NmT.may, h1]
   go_enter Tryz.func49, Tryz.ntmps49
   go_wp2
   all_goals first | (go_ret; exact ⟨by rw [HM.out]; rfl, below_al bR _⟩) | (exfalso; omega)
 ·have h0' : ¬ (0 : Int) < (x.n : Int) := by omega
  have h0'' : decide ((0 : Int) < (x.n : Int)) = false := by simpa using h0'
  have h2 : (x.n : Int) ≤ 0 := by omega
  have h3 : (x.n : Int) = 0 := by omega
  have HM : Hid (x.may = false) := by simp [Hid, NmT.may, h0]
  go_enter Tryz.func49, Tryz.ntmps49
  go_wp2
  go_ret
  exact ⟨by rw [HM.out]; rfl, below_al bR _⟩

theorem refItem_nobody (w : World) :
  Calls Tryz.prog 87 #[.agg #[.int .u32 0, .int .u32 0]] w fun e w' => (∃ v, e = .returned v ∧ ItS w' (newB w w') v (itE 0 0)) ∧ Below w.heap.size w w' := by
 have HC := h_ (fun w => refNobody_any 0 0 w)
 go_enter Tryz.func87, Tryz.ntmps87
 go_wp2_with fail
 refine (HC.out _).mono ?_
 rintro e w1 ⟨rfl, hb1⟩
 have HX := h_ (fun w' (hb : Below w1.heap.size w1 w') => boxes_of rfl (below_on hb1 hb))
 have HB := h_ (below_on (below_al (below_al (Below.refl w.heap.size w) (.cells #[.int .u32 0, .int .u32 0] 27)) (.cells #[.int .i64 0, .int .u64 0, .slice none 0 0, .string ⟨#[]⟩, .slice none 0 0] 45)) hb1)
 have hlt : w.heap.size + 1 < w1.heap.size := by have := hb1.size; simp at this; omega
 clear hb1
 obtain ⟨⟨c0, c1⟩, _⟩ := HX.out w1 bR
 go_wp2_with (first
  | (go_at_call 52; refine (refUint_any 1 _).mono ?_; rintro e w2 ⟨rfl, hb2⟩; have H2 := h_ hb2; clear hb2)
  | (go_at_call 52; refine (refUint_any 0 _).mono ?_; rintro e w3 ⟨rfl, hb3⟩; have H3 := h_ hb3; clear hb3))
 obtain ⟨W4, hW4⟩ : ∃ W, W = w3.alloc (.cells #[.int .i64 1, .int .u64 1, .slice none 0 0, .string ⟨#[]⟩, .slice none 0 0, .int .i64 1, .int .u64 0, .slice none 0 0, .string ⟨#[]⟩, .slice none 0 0] 45) := ⟨_, rfl⟩
 rw [← hW4]
 have HB3 := h_ (below_on H2.out H3.out)
 have hs3 : w1.heap.size ≤ w3.heap.size := HB3.out.size
 have HB4 : Hid (Below w1.heap.size w1 W4) := by rw [hW4]; exact below_al HB3.out _
 have hs4 : w3.heap.size < W4.heap.size := by rw [hW4]; simp
 have HC4 : Hid (∀ w' (i : Nat), Below W4.heap.size W4 w' → w'.cell? ⟨w3.heap.size, i, none⟩ = (#[Value.int .i64 1, .int .u64 1, .slice none 0 0, .string ⟨#[]⟩, .slice none 0 0, .int .i64 1, .int .u64 0, .slice none 0 0, .string ⟨#[]⟩, .slice none 0 0])[i]?) := fun w' i hb =>
  (hb.cell (p := ⟨w3.heap.size, i, none⟩) hs4).trans (by rw [hW4, World.cell?_alloc_mark])
 clear hW4
 refine (refList_any _ _ _ _).mono ?_
 rintro e w5 ⟨rfl, hb5⟩
 have HB5 := h_ (below_on HB4.out hb5)
 have L := fun i => HC4.out w5 i hb5
 have hs5 := hb5.size
 clear hb5
 obtain ⟨_, ⟨d0, d1, d2, d3, d4⟩, df⟩ := HX.out w5 HB5.out
 have f0 := df 0
 have f1 := df 1
 have f2 := df 2
 have f3 := df 3
 have f4 := df 4
 have HL := h_ L
 clear df L
 go_wp2
 obtain ⟨q0, q1, q2, q3, q4⟩ := setI_cells d0 d1 d2 d3 d4 (.int .i64 4) (.int .u64 0) (.slice none 0 0) (.string ⟨#[]⟩) (.slice (some ⟨w3.heap.size, 0, none⟩) 2 2)
 have HB6 := h_ (setI_on (g := w.heap.size + 1) (below_on HB.out HB5.out) (by omega) (.int .i64 4) (.int .u64 0) (.slice none 0 0) (.string ⟨#[]⟩) (.slice (some ⟨w3.heap.size, 0, none⟩) 2 2))
 have hz6 : (setI w5 (w.heap.size + 1) (.int .i64 4) (.int .u64 0) (.slice none 0 0) (.string ⟨#[]⟩) (.slice (some ⟨w3.heap.size, 0, none⟩) 2 2)).heap.size = w5.heap.size := by unfold setI; simp only [World.size_setCell]
 have HV : Hid (ItS (setI w5 (w.heap.size + 1) (.int .i64 4) (.int .u64 0) (.slice none 0 0) (.string ⟨#[]⟩) (.slice (some ⟨w3.heap.size, 0, none⟩) 2 2)) (newB w (setI w5 (w.heap.size + 1) (.int .i64 4) (.int .u64 0) (.slice none 0 0) (.string ⟨#[]⟩) (.slice (some ⟨w3.heap.size, 0, none⟩) 2 2))) (listV (some ⟨w3.heap.size, 0, none⟩) 2 2) (itE 0 0)) := by
  have hnew : newB w (setI w5 (w.heap.size + 1) (.int .i64 4) (.int .u64 0) (.slice none 0 0) (.string ⟨#[]⟩) (.slice (some ⟨w3.heap.size, 0, none⟩) 2 2)) w3.heap.size := by
   refine ⟨by omega, ?_⟩
   rw [hz6]
   omega
  have c := fun i : Nat => (setI_cell (w := w5) (g := w.heap.size + 1) (g' := w3.heap.size) (i := i) (by omega) (.int .i64 4) (.int .u64 0) (.slice none 0 0) (.string ⟨#[]⟩) (.slice (some ⟨w3.heap.size, 0, none⟩) 2 2)).trans (HL.out i)
  exact itS_two hnew ⟨_, _, _, _, _, rfl, c 0, c 1, c 2, c 3, c 4⟩ ⟨_, _, _, _, _, rfl, c 5, c 6, c 7, c 8, c 9⟩ (itS_uint _ _ 1 ⟨by decide, by decide⟩) (itS_uint _ _ 0 ⟨by decide, by decide⟩)
 unfold setI at q0 q1 q2 q3 q4 HB6 HV
 exact bodyPost_ret (v := listV (some ⟨w3.heap.size, 0, none⟩) 2 2) (by simp [listV, results, Tryz.results87, go_sem, q0, q1, q2, q3, q4]) rfl ⟨⟨_, rfl, HV.out⟩, HB6.out⟩


theorem refItem_yes (n m : Nat) (h : 0 < n) (hn : n ≤ 4294967295) (hm : m ≤ 4294967295) (w : World) :
  Calls Tryz.prog 87 #[.agg #[.int .u32 n, .int .u32 m]] w fun e w' => (∃ v, e = .returned v ∧ ItS w' (newB w w') v (itE n m)) ∧ Below w.heap.size w w' := by
 have HC := h_ (fun w => refNobody_any n m w)
 have hnb : decide (n = 0 ∧ m = 0) = false := by simp; omega
 rw [hnb] at HC
 clear hnb
 have h3 : ((n : Int) == 0) = false := by simp; omega
 have h4 : ¬ (n : Int) = 0 := by omega
 have hwn : IntKind.u64.wrap (n : Int) = (n : Int) := by rw [IntKind.wrap_u64]; omega
 have hwm : IntKind.u64.wrap (m : Int) = (m : Int) := by rw [IntKind.wrap_u64]; omega
 go_enter Tryz.func87, Tryz.ntmps87
 go_wp2_with fail
 refine (HC.out _).mono ?_
 rintro e w1 ⟨rfl, hb1⟩
 have HX := h_ (fun w' (hb : Below w1.heap.size w1 w') => boxes_of rfl (below_on hb1 hb))
 have HB := h_ (below_on (below_al (below_al (Below.refl w.heap.size w) (.cells #[.int .u32 n, .int .u32 m] 27)) (.cells #[.int .i64 0, .int .u64 0, .slice none 0 0, .string ⟨#[]⟩, .slice none 0 0] 45)) hb1)
 have hlt : w.heap.size + 1 < w1.heap.size := by have := hb1.size; simp at this; omega
 clear hb1
 have HELD : Hid (∀ w', Below w1.heap.size w1 w' → w'.cell? ⟨w.heap.size, 0, none⟩ = some (.int .u32 n) ∧ w'.cell? ⟨w.heap.size, 1, none⟩ = some (.int .u32 m)) := fun w' hb => (HX.out w' hb).1
 obtain ⟨⟨c0, c1⟩, _⟩ := HX.out w1 bR
 have F0 : Below w1.heap.size w1 w1.drew := bR.drew
 go_wp2_with fail
 clear c0 c1
 go_region_held3 (fun w' => w'.cell? ⟨w.heap.size, 0, none⟩ = some (.int .u32 n) ∧ w'.cell? ⟨w.heap.size, 1, none⟩ = some (.int .u32 m))
  (first | (refine HELD.out _ ?_; with_reducible exact F5) | (refine ⟨?_, ?_⟩ <;> (rw [World.cell?_setCell_other _ _ _ _ (by simp), World.cell?_setCell_other _ _ _ _ (by simp), World.cell?_setCell_other _ _ _ _ (by simp), World.cell?_setCell_other _ _ _ _ (by simp), World.cell?_setCell_other _ _ _ _ (by simp)]; first | exact (HELD.out _ F5).1 | exact (HELD.out _ F5).2)) | (refine HELD.out _ ?_; with_reducible exact below_al F4 _) | (refine HELD.out _ ?_; with_reducible exact F4) | (refine HELD.out _ ?_; with_reducible exact below_al F3 _) | (refine HELD.out _ ?_; with_reducible exact F3) | (refine HELD.out _ ?_; with_reducible exact F2) | (refine HELD.out _ ?_; with_reducible exact F1) | (refine HELD.out _ ?_; with_reducible exact F0))
  (first
   | (go_at_call 52; (with_reducible refine (refUint_any 2 _).mono ?_); rintro e w2 ⟨rfl, hb2⟩; have F1 : Below w1.heap.size w1 w2 := below_on F0 hb2)
   | (go_at_call 52; (with_reducible refine (refUint_any (n : Int) _).mono ?_); rintro e w3 ⟨rfl, hb3⟩; have F2 : Below w1.heap.size w1 w3 := below_on F1 hb3)
   | (go_at_call 52; (with_reducible refine (refUint_any (m : Int) _).mono ?_); rintro e w4 ⟨rfl, hb4⟩; have F3 : Below w1.heap.size w1 w4 := below_on F2 hb4)
   | (go_at_call 11; (with_reducible refine (refList_any _ _ _ _).mono ?_); rintro e w6 ⟨rfl, hb6⟩; obtain ⟨⟨b6, hs6⟩, HL6⟩ := new_row hb6; have F5 : Below w1.heap.size w1 w6 := below_on F4 b6; obtain ⟨_, ⟨d0, d1, d2, d3, d4⟩, df⟩ := HX.out w6 F5; have f0 := df 0; have f1 := df 1; have f2 := df 2; have f3 := df 3; have f4 := df 4; clear df)
   | (go_at_call 11; (with_reducible refine (refList_any _ _ _ _).mono ?_); rintro e w5 ⟨rfl, hb5⟩; obtain ⟨⟨b5, hs5⟩, HL5⟩ := new_row hb5; have F4 : Below w1.heap.size w1 w5 := below_on F3 b5))
 clear F0
 rename_i hHeld
 clear hHeld
 go_wp2
 obtain ⟨q0, q1, q2, q3, q4⟩ := setI_cells d0 d1 d2 d3 d4 (.int .i64 4) (.int .u64 0) (.slice none 0 0) (.string ⟨#[]⟩) (.slice (some ⟨w5.heap.size, 0, none⟩) 2 2)
 have HB6 := h_ (setI_on (g := w.heap.size + 1) (below_on HB.out F5) (by omega) (.int .i64 4) (.int .u64 0) (.slice none 0 0) (.string ⟨#[]⟩) (.slice (some ⟨w5.heap.size, 0, none⟩) 2 2))
 have hz6 : (setI w6 (w.heap.size + 1) (.int .i64 4) (.int .u64 0) (.slice none 0 0) (.string ⟨#[]⟩) (.slice (some ⟨w5.heap.size, 0, none⟩) 2 2)).heap.size = w6.heap.size := by unfold setI; simp only [World.size_setCell]
 have hz4 : w1.heap.size ≤ w4.heap.size := F3.size
 have HV : Hid (ItS (setI w6 (w.heap.size + 1) (.int .i64 4) (.int .u64 0) (.slice none 0 0) (.string ⟨#[]⟩) (.slice (some ⟨w5.heap.size, 0, none⟩) 2 2)) (newB w (setI w6 (w.heap.size + 1) (.int .i64 4) (.int .u64 0) (.slice none 0 0) (.string ⟨#[]⟩) (.slice (some ⟨w5.heap.size, 0, none⟩) 2 2))) (listV (some ⟨w5.heap.size, 0, none⟩) 2 2) (itE n m)) := by
  have hnew : ∀ b, w.heap.size ≤ b → b < w6.heap.size → newB w (setI w6 (w.heap.size + 1) (.int .i64 4) (.int .u64 0) (.slice none 0 0) (.string ⟨#[]⟩) (.slice (some ⟨w5.heap.size, 0, none⟩) 2 2)) b := fun b h1 h2 => by
   refine ⟨h1, ?_⟩
   rw [hz6]
   exact h2
  have c := fun i : Nat => (setI_cell (w := w6) (g := w.heap.size + 1) (g' := w5.heap.size) (i := i) (by omega) (.int .i64 4) (.int .u64 0) (.slice none 0 0) (.string ⟨#[]⟩) (.slice (some ⟨w5.heap.size, 0, none⟩) 2 2)).trans (HL6.out w6 bR i)
  have d := fun i : Nat => (setI_cell (w := w6) (g := w.heap.size + 1) (g' := w4.heap.size) (i := i) (by omega) (.int .i64 4) (.int .u64 0) (.slice none 0 0) (.string ⟨#[]⟩) (.slice (some ⟨w5.heap.size, 0, none⟩) 2 2)).trans (HL5.out w6 b6 i)
  have e : itE n m = itLs [itU 2, itLs [itU n, itU m]] := if_neg (by omega)
  rw [e]
  exact itS_two (hnew _ (by omega) (by omega)) ⟨_, _, _, _, _, rfl, c 0, c 1, c 2, c 3, c 4⟩ ⟨_, _, _, _, _, rfl, c 5, c 6, c 7, c 8, c 9⟩ (itS_uint _ _ 2 ⟨by decide, by decide⟩)
   (itS_two (hnew _ (by omega) (by omega)) ⟨_, _, _, _, _, rfl, d 0, d 1, d 2, d 3, d 4⟩ ⟨_, _, _, _, _, rfl, d 5, d 6, d 7, d 8, d 9⟩ (itS_uint _ _ n ⟨by omega, by omega⟩) (itS_uint _ _ m ⟨by omega, by omega⟩))
 unfold setI at q0 q1 q2 q3 q4 HB6 HV
 exact bodyPost_ret (v := listV (some ⟨w5.heap.size, 0, none⟩) 2 2) (by simp [listV, results, Tryz.results87, go_sem, q0, q1, q2, q3, q4]) rfl ⟨⟨_, rfl, HV.out⟩, HB6.out⟩


theorem refItem_any (n m : Nat) (h : 0 < n ∨ m = 0) (hn : n ≤ 4294967295) (hm : m ≤ 4294967295) (w : World) :
  Calls Tryz.prog 87 #[.agg #[.int .u32 n, .int .u32 m]] w fun e w' => (∃ v, e = .returned v ∧ ItS w' (newB w w') v (itE n m)) ∧ Below w.heap.size w w' := by
 by_cases h0 : 0 < n
 ·exact refItem_yes n m h0 hn hm w
 ·obtain rfl : n = 0 := by omega
  obtain rfl : m = 0 := by omega
  exact refItem_nobody w

end Go.Proofs.YteldifnkeekafaaGreatDoor
