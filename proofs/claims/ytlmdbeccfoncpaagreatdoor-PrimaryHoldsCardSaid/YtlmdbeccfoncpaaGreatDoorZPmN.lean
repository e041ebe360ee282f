/- The chapter's rows of primaries: works. -/
import Derived.Test.YtlmdbeccfoncpaaGreatDoorZPmF
import Derived.Test.YtlmdbeccfoncpaaGreatDoorZKu
namespace Go.Proofs.YtlmdbeccfoncpaaGreatDoor
open Go Go.RowKit Go.Shelf
set_option linter.unusedSimpArgs false
set_option linter.unusedVariables false
set_option maxRecDepth 100000


def pm1 : Pm := ⟨0, 0, 2, 0, 1, 0, 0, 0, 5, 6, 7⟩
def pm0 : Pm := ⟨0, 0, 0, 0, 1, 0, 0, 0, 5, 6, 7⟩
def pm3 : Pm := ⟨384, 0, 2, 0, 1, 0, 0, 0, 5, 6, 7⟩
def pm2 : Pm := ⟨256, 0, 0, 0, 0, 0, 0, 0, 0, 0, 0⟩

theorem pm1_ok : pm1.ok := ⟨by decide, by decide, by decide, by decide, by decide, by decide, by decide, by decide, by decide, by decide⟩
theorem pm0_ok : pm0.ok := ⟨by decide, by decide, by decide, by decide, by decide, by decide, by decide, by decide, by decide, by decide⟩
theorem pm3_ok : pm3.ok := ⟨by decide, by decide, by decide, by decide, by decide, by decide, by decide, by decide, by decide, by decide⟩
theorem pm2_ok : pm2.ok := ⟨by decide, by decide, by decide, by decide, by decide, by decide, by decide, by decide, by decide, by decide⟩
theorem pm1_right : pm1.right = true := by decide +kernel
theorem pm0_er : pm0.er = 2 := by decide +kernel
theorem pm3_er : pm3.er = 2 := by decide +kernel
theorem pm2_rank : pm2.rank = 2 := by decide +kernel
theorem pm1_exp : addT 5 7 = 12 := by decide +kernel
def lit1 : List UInt8 := [136, 7, 0, 0, 130, 2, 130, 2, 0, 130, 2, 130, 1, 0, 130, 1, 0, 130, 5, 6, 7]
theorem pm1_bytes : encP pm1 0 = lit1 := by decide +kernel
theorem pm1_err : (itO pm1 0 []).err = 0 := by decide +kernel
theorem pm1_depth0 (bs : List UInt8) : (itO pm1 0 bs).depth ≤ 60000 := by
  unfold itO
  rw [if_pos rfl]
  decide +kernel


theorem pm1_depth (wd : Nat) (bs : List UInt8) : (itO pm1 wd bs).depth ≤ 60000 := by
  unfold itO
  by_cases h : wd = 0
  · rw [if_pos h]
    decide +kernel
  · rw [if_neg h]
    exact Nat.le_of_ble_eq_true rfl

set_option maxHeartbeats 4000000 in
theorem first_any6 (w : World) : Calls Tryz.prog 36 #[] w fun e w' => e = .returned (.agg #[.int .u32 0, .int .i64 0, .int .u32 2, .int .u32 0, .int .u32 1, .int .u32 0, .int .u32 0, .int .u32 0, .int .u64 5, .int .u32 6, .int .u64 7]) ∧ Below w.heap.size w w' := by
  go_enter Tryz.func36, Tryz.ntmps36
  go_wp2
  exact bodyPost_ret (v := .agg #[.int .u32 0, .int .i64 0, .int .u32 2, .int .u32 0, .int .u32 1, .int .u32 0, .int .u32 0, .int .u32 0, .int .u64 5, .int .u32 6, .int .u64 7]) (by simp [results, Tryz.results36, go_sem]) rfl ⟨rfl, below_al (Below.refl _ _) _⟩

theorem num6_any (x : Int) (w : World) : Calls Tryz.prog 9 #[.int .i64 x] w fun e w' => e = .returned (.int .i64 x) ∧ w = w' := by
  go_enter Tryz.func9, Tryz.ntmps9
  go_wp2
  go_ret
  exact ⟨rfl, rfl⟩

theorem enc1_any (w : World) (ht : TabW w) : Calls Tryz.prog 6 #[.agg #[.int .u32 0, .int .i64 0, .int .u32 2, .int .u32 0, .int .u32 1, .int .u32 0, .int .u32 0, .int .u32 0, .int .u64 5, .int .u32 6, .int .u64 7]] w fun e w' => ∃ g C, e = .returned (.tuple #[.slice (some ⟨g, 0, none⟩) 21 C, .int .i64 0]) ∧ (w.heap.size ≤ g ∧ g < w'.heap.size) ∧ RdB w' w'.heap.size (some ⟨g, 0, none⟩) lit1 ∧ Below w.heap.size w w' := by
  refine (prEncode_any pm1 pm1_ok (fun k _ hk bs hb => ?_) (fun k bs => pm1_depth _ bs) w ht).mono ?_
  · have hk0 : k = 0 := by
      have h : ((0 : Int)) = k := hk
      omega
    subst hk0
    obtain rfl : bs = [] := List.eq_nil_of_length_eq_zero hb
    exact pm1_err
  · rintro e w' ⟨hb, ⟨_, u, rfl, ho⟩ | ⟨h, _⟩⟩
    · replace ho : OwnV w' w.heap.size 5 u (lit1.map encB) := by
        have h : encP pm1 pm1.s.toNat = lit1 := pm1_bytes
        rwa [h] at ho
      rcases ho.form with ⟨rfl, hx⟩ | ⟨g, cap, rfl, hg, hlt, hn, _, hc, _⟩
      · exact absurd hx (by decide)
      · exact ⟨g, cap, rfl, ⟨hg, hlt⟩, .inr ⟨g, 0, rfl, hlt, fun j hj => by
          have h := ho.bytes
          obtain ⟨a, c, e, _, hr, _⟩ := h
          simp only [Value.slice.injEq] at e
          obtain ⟨rfl, _, _⟩ := e
          rcases hr with hr | ⟨b, o, e2, _, hc2⟩
          · exact absurd hr (by decide)
          · cases e2
            exact hc2 j hj⟩, hb⟩
    · rw [pm1_right] at h
      cases h

theorem rd32_two (w : World) (t : TypeId) : RdU3 (w.alloc (.cells #[.int .u32 2, .int .u32 2] t)) (w.alloc (.cells #[.int .u32 2, .int .u32 2] t)).heap.size (some ⟨w.heap.size, 0, none⟩) [2, 2] := by
  refine .inr ⟨w.heap.size, 0, rfl, by simp, fun j hj => ?_⟩
  have hj2 : j = 0 ∨ j = 1 := by simp at hj; omega
  rcases hj2 with rfl | rfl <;> simp

set_option maxHeartbeats 16000000 in
theorem prWorks_any (w : World) (ht : TabW w) : Calls Tryz.prog 10 #[] w fun e w' => e = .returned (.bool true) ∧ Below w.heap.size w w' := by
  have HT : Hid (∀ w', Below w.heap.size w w' → TabW w') := fun w' h => ht.on h
  have HC0 : Hid (∀ w, Calls Tryz.prog 7 #[.agg #[.int .u32 0, .int .i64 0, .int .u32 0, .int .u32 0, .int .u32 1, .int .u32 0, .int .u32 0, .int .u32 0, .int .u64 5, .int .u32 6, .int .u64 7]] w fun e w' => e = .returned (.int .i64 2) ∧ Below w.heap.size w w') := fun w => by
    have h := prcheck_any pm0 pm0_ok w
    rw [pm0_er] at h
    exact h
  have HC3 : Hid (∀ w, Calls Tryz.prog 7 #[.agg #[.int .u32 384, .int .i64 0, .int .u32 2, .int .u32 0, .int .u32 1, .int .u32 0, .int .u32 0, .int .u32 0, .int .u64 5, .int .u32 6, .int .u64 7]] w fun e w' => e = .returned (.int .i64 2) ∧ Below w.heap.size w w') := fun w => by
    have h := prcheck_any pm3 pm3_ok w
    rw [pm3_er] at h
    exact h
  have HRK : Hid (∀ w, Calls Tryz.prog 21 #[.agg #[.int .u32 256, .int .i64 0, .int .u32 0, .int .u32 0, .int .u32 0, .int .u32 0, .int .u32 0, .int .u32 0, .int .u64 0, .int .u32 0, .int .u64 0]] w fun e w' => e = .returned (.int .i64 2) ∧ Below w.heap.size w w') := fun w => by
    have h := rank_any pm2 pm2_ok w
    rw [pm2_rank] at h
    exact h
  have HEX : Hid (∀ w, Calls Tryz.prog 23 #[.agg #[.int .u32 0, .int .i64 0, .int .u32 2, .int .u32 0, .int .u32 1, .int .u32 0, .int .u32 0, .int .u32 0, .int .u64 5, .int .u32 6, .int .u64 7]] w fun e w' => e = .returned (.int .u64 12) ∧ Below w.heap.size w w') := fun w => by
    have h := expires_any pm1 w
    exact h
  have HFL : Hid (∀ w a c, RdU3 w w.heap.size a [2, 2] → Calls Tryz.prog 19 #[.int .i64 1, .slice a 2 c] w fun e w' => e = .returned (.int .u32 130) ∧ Below w.heap.size w w') := fun w a c h => by
    have h := flags_any 1 a c [2, 2] w (by decide) h
    have e : upN 1 [2, 2] 2 = 130 := by decide +kernel
    rw [e] at h
    exact h
  have HE := Lib.hid (fun w h => enc1_any w h)
  have HF := Lib.hid (fun w => first_any6 w)
  have HN := Lib.hid (fun x w => num6_any x w)
  clear ht
  go_enter Tryz.func10, Tryz.ntmps10
  go_wp2_with fail
  refine (HF.out w).mono ?_
  rintro e w1 ⟨rfl, hb⟩
  have HB1 := Lib.hid hb
  clear hb
  go_wp2_with fail
  obtain ⟨W, hW⟩ : ∃ W, W = (w1.alloc (.cells #[.int .u32 0, .int .i64 0, .int .u32 2, .int .u32 0, .int .u32 1, .int .u32 0, .int .u32 0, .int .u32 0, .int .u64 5, .int .u32 6, .int .u64 7] 28)) := ⟨_, rfl⟩
  have HBW : Hid (Below w1.heap.size w1 W) := by rw [hW]; exact below_al (Below.refl _ _) _
  have hsW : W.heap.size = w1.heap.size + 1 := by rw [hW]; simp
  have HX : Hid (∀ w', Below W.heap.size W w' → (w'.cell? ⟨w1.heap.size, 0, none⟩ = some (.int .u32 0) ∧ w'.cell? ⟨w1.heap.size, 1, none⟩ = some (.int .i64 0) ∧ w'.cell? ⟨w1.heap.size, 2, none⟩ = some (.int .u32 2) ∧ w'.cell? ⟨w1.heap.size, 3, none⟩ = some (.int .u32 0) ∧ w'.cell? ⟨w1.heap.size, 4, none⟩ = some (.int .u32 1) ∧ w'.cell? ⟨w1.heap.size, 5, none⟩ = some (.int .u32 0) ∧ w'.cell? ⟨w1.heap.size, 6, none⟩ = some (.int .u32 0) ∧ w'.cell? ⟨w1.heap.size, 7, none⟩ = some (.int .u32 0) ∧ w'.cell? ⟨w1.heap.size, 8, none⟩ = some (.int .u64 5) ∧ w'.cell? ⟨w1.heap.size, 9, none⟩ = some (.int .u32 6) ∧ w'.cell? ⟨w1.heap.size, 10, none⟩ = some (.int .u64 7)) ∧ (w'.frozen? ⟨w1.heap.size, 0, none⟩ = false ∧ w'.frozen? ⟨w1.heap.size, 1, none⟩ = false ∧ w'.frozen? ⟨w1.heap.size, 2, none⟩ = false ∧ w'.frozen? ⟨w1.heap.size, 3, none⟩ = false ∧ w'.frozen? ⟨w1.heap.size, 4, none⟩ = false ∧ w'.frozen? ⟨w1.heap.size, 5, none⟩ = false ∧ w'.frozen? ⟨w1.heap.size, 6, none⟩ = false ∧ w'.frozen? ⟨w1.heap.size, 7, none⟩ = false ∧ w'.frozen? ⟨w1.heap.size, 8, none⟩ = false ∧ w'.frozen? ⟨w1.heap.size, 9, none⟩ = false ∧ w'.frozen? ⟨w1.heap.size, 10, none⟩ = false)) := fun w' h => by
    rw [hW] at h
    exact ⟨⟨box_at h 0, box_at h 1, box_at h 2, box_at h 3, box_at h 4, box_at h 5, box_at h 6, box_at h 7, box_at h 8, box_at h 9, box_at h 10⟩, ⟨frozen_at h 0, frozen_at h 1, frozen_at h 2, frozen_at h 3, frozen_at h 4, frozen_at h 5, frozen_at h 6, frozen_at h 7, frozen_at h 8, frozen_at h 9, frozen_at h 10⟩⟩
  have HWw : Hid (Below w.heap.size w W) := below_on HB1.out HBW.out
  have HW := Lib.hid hW
  rw [← hW]
  clear hW
  refine (HE.out W (HT.out W HWw.out)).mono ?_
  rintro e w2 ⟨g, C, rfl, ⟨hg1, hg2⟩, hr, hb⟩
  have HB2 := Lib.hid hb
  have HR2 := Lib.hid hr
  have HG := Lib.hid (show w1.heap.size < g by omega)
  obtain ⟨⟨x0, x1, x2, x3, x4, x5, x6, x7, x8, x9, x10⟩, f0, f1, f2, f3, f4, f5, f6, f7, f8, f9, f10⟩ := HX.out w2 hb
  clear hb hr hg1
  go_wp2_with fail
  obtain ⟨W3, hW3⟩ : ∃ W3, W3 = ((w2.setCell ⟨w1.heap.size, 2, none⟩ (.int .u32 0)).setCell ⟨w1.heap.size, 3, none⟩ (.int .u32 0)) := ⟨_, rfl⟩
  have HX3 : Hid (∀ w', Below W3.heap.size W3 w' → (w'.cell? ⟨w1.heap.size, 0, none⟩ = some (.int .u32 0) ∧ w'.cell? ⟨w1.heap.size, 1, none⟩ = some (.int .i64 0) ∧ w'.cell? ⟨w1.heap.size, 2, none⟩ = some (.int .u32 0) ∧ w'.cell? ⟨w1.heap.size, 3, none⟩ = some (.int .u32 0) ∧ w'.cell? ⟨w1.heap.size, 4, none⟩ = some (.int .u32 1) ∧ w'.cell? ⟨w1.heap.size, 5, none⟩ = some (.int .u32 0) ∧ w'.cell? ⟨w1.heap.size, 6, none⟩ = some (.int .u32 0) ∧ w'.cell? ⟨w1.heap.size, 7, none⟩ = some (.int .u32 0) ∧ w'.cell? ⟨w1.heap.size, 8, none⟩ = some (.int .u64 5) ∧ w'.cell? ⟨w1.heap.size, 9, none⟩ = some (.int .u32 6) ∧ w'.cell? ⟨w1.heap.size, 10, none⟩ = some (.int .u64 7)) ∧ (w'.frozen? ⟨w1.heap.size, 0, none⟩ = false ∧ w'.frozen? ⟨w1.heap.size, 1, none⟩ = false ∧ w'.frozen? ⟨w1.heap.size, 2, none⟩ = false ∧ w'.frozen? ⟨w1.heap.size, 3, none⟩ = false ∧ w'.frozen? ⟨w1.heap.size, 4, none⟩ = false ∧ w'.frozen? ⟨w1.heap.size, 5, none⟩ = false ∧ w'.frozen? ⟨w1.heap.size, 6, none⟩ = false ∧ w'.frozen? ⟨w1.heap.size, 7, none⟩ = false ∧ w'.frozen? ⟨w1.heap.size, 8, none⟩ = false ∧ w'.frozen? ⟨w1.heap.size, 9, none⟩ = false ∧ w'.frozen? ⟨w1.heap.size, 10, none⟩ = false)) := fun w' h => by
    have hlt : w1.heap.size < W3.heap.size := by rw [hW3]; simp; have := HB2.out.size; omega
    have h0 : (W3.cell? ⟨w1.heap.size, 0, none⟩ = some (.int .u32 0) ∧ W3.cell? ⟨w1.heap.size, 1, none⟩ = some (.int .i64 0) ∧ W3.cell? ⟨w1.heap.size, 2, none⟩ = some (.int .u32 0) ∧ W3.cell? ⟨w1.heap.size, 3, none⟩ = some (.int .u32 0) ∧ W3.cell? ⟨w1.heap.size, 4, none⟩ = some (.int .u32 1) ∧ W3.cell? ⟨w1.heap.size, 5, none⟩ = some (.int .u32 0) ∧ W3.cell? ⟨w1.heap.size, 6, none⟩ = some (.int .u32 0) ∧ W3.cell? ⟨w1.heap.size, 7, none⟩ = some (.int .u32 0) ∧ W3.cell? ⟨w1.heap.size, 8, none⟩ = some (.int .u64 5) ∧ W3.cell? ⟨w1.heap.size, 9, none⟩ = some (.int .u32 6) ∧ W3.cell? ⟨w1.heap.size, 10, none⟩ = some (.int .u64 7)) ∧ (W3.frozen? ⟨w1.heap.size, 0, none⟩ = false ∧ W3.frozen? ⟨w1.heap.size, 1, none⟩ = false ∧ W3.frozen? ⟨w1.heap.size, 2, none⟩ = false ∧ W3.frozen? ⟨w1.heap.size, 3, none⟩ = false ∧ W3.frozen? ⟨w1.heap.size, 4, none⟩ = false ∧ W3.frozen? ⟨w1.heap.size, 5, none⟩ = false ∧ W3.frozen? ⟨w1.heap.size, 6, none⟩ = false ∧ W3.frozen? ⟨w1.heap.size, 7, none⟩ = false ∧ W3.frozen? ⟨w1.heap.size, 8, none⟩ = false ∧ W3.frozen? ⟨w1.heap.size, 9, none⟩ = false ∧ W3.frozen? ⟨w1.heap.size, 10, none⟩ = false) := by
      rw [hW3]
      refine ⟨⟨?_, ?_, ?_, ?_, ?_, ?_, ?_, ?_, ?_, ?_, ?_⟩, ?_, ?_, ?_, ?_, ?_, ?_, ?_, ?_, ?_, ?_, ?_⟩ <;> go_simp
    obtain ⟨⟨y0, y1, y2, y3, y4, y5, y6, y7, y8, y9, y10⟩, z0, z1, z2, z3, z4, z5, z6, z7, z8, z9, z10⟩ := h0
    exact ⟨⟨(h.cell (p := ⟨w1.heap.size, 0, none⟩) hlt).trans y0, (h.cell (p := ⟨w1.heap.size, 1, none⟩) hlt).trans y1, (h.cell (p := ⟨w1.heap.size, 2, none⟩) hlt).trans y2, (h.cell (p := ⟨w1.heap.size, 3, none⟩) hlt).trans y3, (h.cell (p := ⟨w1.heap.size, 4, none⟩) hlt).trans y4, (h.cell (p := ⟨w1.heap.size, 5, none⟩) hlt).trans y5, (h.cell (p := ⟨w1.heap.size, 6, none⟩) hlt).trans y6, (h.cell (p := ⟨w1.heap.size, 7, none⟩) hlt).trans y7, (h.cell (p := ⟨w1.heap.size, 8, none⟩) hlt).trans y8, (h.cell (p := ⟨w1.heap.size, 9, none⟩) hlt).trans y9, (h.cell (p := ⟨w1.heap.size, 10, none⟩) hlt).trans y10⟩, (h.frozen (p := ⟨w1.heap.size, 0, none⟩) hlt).trans z0, (h.frozen (p := ⟨w1.heap.size, 1, none⟩) hlt).trans z1, (h.frozen (p := ⟨w1.heap.size, 2, none⟩) hlt).trans z2, (h.frozen (p := ⟨w1.heap.size, 3, none⟩) hlt).trans z3, (h.frozen (p := ⟨w1.heap.size, 4, none⟩) hlt).trans z4, (h.frozen (p := ⟨w1.heap.size, 5, none⟩) hlt).trans z5, (h.frozen (p := ⟨w1.heap.size, 6, none⟩) hlt).trans z6, (h.frozen (p := ⟨w1.heap.size, 7, none⟩) hlt).trans z7, (h.frozen (p := ⟨w1.heap.size, 8, none⟩) hlt).trans z8, (h.frozen (p := ⟨w1.heap.size, 9, none⟩) hlt).trans z9, (h.frozen (p := ⟨w1.heap.size, 10, none⟩) hlt).trans z10⟩
  have HG3 : Hid (W3.heap[g]? = w2.heap[g]?) := by
    have := HG.out
    rw [hW3, Hid, Below.heap_setCell _ _ _ _ (by show g ≠ w1.heap.size; omega), Below.heap_setCell _ _ _ _ (by show g ≠ w1.heap.size; omega)]
  have HB3 : Hid (Below w1.heap.size w1 W3) := by
    rw [hW3]
    exact (((below_on HBW.out HB2.out).setCell (p := ⟨w1.heap.size, 2, none⟩) (Nat.le_refl _) _).setCell (p := ⟨w1.heap.size, 3, none⟩) (Nat.le_refl _) _)
  have hs3 : W3.heap.size = w2.heap.size := by rw [hW3]; simp
  have HW3 := Lib.hid hW3
  rw [← hW3]
  clear hW3 x0 x1 x2 x3 x4 x5 x6 x7 x8 x9 x10 f0 f1 f2 f3 f4 f5 f6 f7 f8 f9 f10
  refine (HC0.out W3).mono ?_
  rintro e w4 ⟨rfl, hb⟩
  have HB4 := Lib.hid hb
  clear hb
  go_wp2_with fail
  refine (HF.out w4).mono ?_
  rintro e W5 ⟨rfl, hb⟩
  have HB5 := Lib.hid (below_on HB4.out hb)
  obtain ⟨⟨x0, x1, x2, x3, x4, x5, x6, x7, x8, x9, x10⟩, f0, f1, f2, f3, f4, f5, f6, f7, f8, f9, f10⟩ := HX3.out W5 HB5.out
  clear hb
  go_wp2_with fail
  obtain ⟨W6, hW6⟩ : ∃ W6, W6 = ((((((((((((W5.setCell ⟨w1.heap.size, 0, none⟩ (.int .u32 0)).setCell ⟨w1.heap.size, 1, none⟩ (.int .i64 0)).setCell ⟨w1.heap.size, 2, none⟩ (.int .u32 2)).setCell ⟨w1.heap.size, 3, none⟩ (.int .u32 0)).setCell ⟨w1.heap.size, 4, none⟩ (.int .u32 1)).setCell ⟨w1.heap.size, 5, none⟩ (.int .u32 0)).setCell ⟨w1.heap.size, 6, none⟩ (.int .u32 0)).setCell ⟨w1.heap.size, 7, none⟩ (.int .u32 0)).setCell ⟨w1.heap.size, 8, none⟩ (.int .u64 5)).setCell ⟨w1.heap.size, 9, none⟩ (.int .u32 6)).setCell ⟨w1.heap.size, 10, none⟩ (.int .u64 7)).setCell ⟨w1.heap.size, 0, none⟩ (.int .u32 384)) := ⟨_, rfl⟩
  have HX6 : Hid (∀ w', Below W6.heap.size W6 w' → (w'.cell? ⟨w1.heap.size, 0, none⟩ = some (.int .u32 384) ∧ w'.cell? ⟨w1.heap.size, 1, none⟩ = some (.int .i64 0) ∧ w'.cell? ⟨w1.heap.size, 2, none⟩ = some (.int .u32 2) ∧ w'.cell? ⟨w1.heap.size, 3, none⟩ = some (.int .u32 0) ∧ w'.cell? ⟨w1.heap.size, 4, none⟩ = some (.int .u32 1) ∧ w'.cell? ⟨w1.heap.size, 5, none⟩ = some (.int .u32 0) ∧ w'.cell? ⟨w1.heap.size, 6, none⟩ = some (.int .u32 0) ∧ w'.cell? ⟨w1.heap.size, 7, none⟩ = some (.int .u32 0) ∧ w'.cell? ⟨w1.heap.size, 8, none⟩ = some (.int .u64 5) ∧ w'.cell? ⟨w1.heap.size, 9, none⟩ = some (.int .u32 6) ∧ w'.cell? ⟨w1.heap.size, 10, none⟩ = some (.int .u64 7))) := fun w' h => by
    have hlt : w1.heap.size < W6.heap.size := by rw [hW6]; simp; have := HB5.out.size; have := HB2.out.size; omega
    have h0 : (W6.cell? ⟨w1.heap.size, 0, none⟩ = some (.int .u32 384) ∧ W6.cell? ⟨w1.heap.size, 1, none⟩ = some (.int .i64 0) ∧ W6.cell? ⟨w1.heap.size, 2, none⟩ = some (.int .u32 2) ∧ W6.cell? ⟨w1.heap.size, 3, none⟩ = some (.int .u32 0) ∧ W6.cell? ⟨w1.heap.size, 4, none⟩ = some (.int .u32 1) ∧ W6.cell? ⟨w1.heap.size, 5, none⟩ = some (.int .u32 0) ∧ W6.cell? ⟨w1.heap.size, 6, none⟩ = some (.int .u32 0) ∧ W6.cell? ⟨w1.heap.size, 7, none⟩ = some (.int .u32 0) ∧ W6.cell? ⟨w1.heap.size, 8, none⟩ = some (.int .u64 5) ∧ W6.cell? ⟨w1.heap.size, 9, none⟩ = some (.int .u32 6) ∧ W6.cell? ⟨w1.heap.size, 10, none⟩ = some (.int .u64 7)) := by
      rw [hW6]
      refine ⟨?_, ?_, ?_, ?_, ?_, ?_, ?_, ?_, ?_, ?_, ?_⟩ <;> go_simp
    obtain ⟨y0, y1, y2, y3, y4, y5, y6, y7, y8, y9, y10⟩ := h0
    exact ⟨(h.cell (p := ⟨w1.heap.size, 0, none⟩) hlt).trans y0, (h.cell (p := ⟨w1.heap.size, 1, none⟩) hlt).trans y1, (h.cell (p := ⟨w1.heap.size, 2, none⟩) hlt).trans y2, (h.cell (p := ⟨w1.heap.size, 3, none⟩) hlt).trans y3, (h.cell (p := ⟨w1.heap.size, 4, none⟩) hlt).trans y4, (h.cell (p := ⟨w1.heap.size, 5, none⟩) hlt).trans y5, (h.cell (p := ⟨w1.heap.size, 6, none⟩) hlt).trans y6, (h.cell (p := ⟨w1.heap.size, 7, none⟩) hlt).trans y7, (h.cell (p := ⟨w1.heap.size, 8, none⟩) hlt).trans y8, (h.cell (p := ⟨w1.heap.size, 9, none⟩) hlt).trans y9, (h.cell (p := ⟨w1.heap.size, 10, none⟩) hlt).trans y10⟩
  have HS6 : Hid (W6.heap.size = W5.heap.size) := by rw [hW6]; simp [Hid]
  have HG6 : Hid (W6.heap[g]? = w2.heap[g]?) := by
    have hgn := HG.out
    rw [hW6, Hid, Below.heap_setCell _ _ _ _ (by show g ≠ w1.heap.size; omega), Below.heap_setCell _ _ _ _ (by show g ≠ w1.heap.size; omega), Below.heap_setCell _ _ _ _ (by show g ≠ w1.heap.size; omega), Below.heap_setCell _ _ _ _ (by show g ≠ w1.heap.size; omega), Below.heap_setCell _ _ _ _ (by show g ≠ w1.heap.size; omega), Below.heap_setCell _ _ _ _ (by show g ≠ w1.heap.size; omega), Below.heap_setCell _ _ _ _ (by show g ≠ w1.heap.size; omega), Below.heap_setCell _ _ _ _ (by show g ≠ w1.heap.size; omega), Below.heap_setCell _ _ _ _ (by show g ≠ w1.heap.size; omega), Below.heap_setCell _ _ _ _ (by show g ≠ w1.heap.size; omega), Below.heap_setCell _ _ _ _ (by show g ≠ w1.heap.size; omega), Below.heap_setCell _ _ _ _ (by show g ≠ w1.heap.size; omega), HB5.out.block g (by omega)]
    exact HG3.out
  have HB6 : Hid (Below w1.heap.size w1 W6) := by
    rw [hW6]
    exact ((((((((((((below_on HB3.out HB5.out).setCell (p := ⟨w1.heap.size, 0, none⟩) (Nat.le_refl _) _).setCell (p := ⟨w1.heap.size, 1, none⟩) (Nat.le_refl _) _).setCell (p := ⟨w1.heap.size, 2, none⟩) (Nat.le_refl _) _).setCell (p := ⟨w1.heap.size, 3, none⟩) (Nat.le_refl _) _).setCell (p := ⟨w1.heap.size, 4, none⟩) (Nat.le_refl _) _).setCell (p := ⟨w1.heap.size, 5, none⟩) (Nat.le_refl _) _).setCell (p := ⟨w1.heap.size, 6, none⟩) (Nat.le_refl _) _).setCell (p := ⟨w1.heap.size, 7, none⟩) (Nat.le_refl _) _).setCell (p := ⟨w1.heap.size, 8, none⟩) (Nat.le_refl _) _).setCell (p := ⟨w1.heap.size, 9, none⟩) (Nat.le_refl _) _).setCell (p := ⟨w1.heap.size, 10, none⟩) (Nat.le_refl _) _).setCell (p := ⟨w1.heap.size, 0, none⟩) (Nat.le_refl _) _
  have HTX : Hid (∀ w', Below W6.heap.size W6 w' → (convert 29 9 (.slice (some ⟨g, 0, none⟩) 21 C)).run Tryz.prog w' = .ok (.string ⟨#[136, 7, 0, 0, 130, 2, 130, 2, 0, 130, 2, 130, 1, 0, 130, 1, 0, 130, 5, 6, 7]⟩) w') := fun w' h => by
    have hlt : g < W6.heap.size := by have := HB5.out.size; have := HS6.out; omega
    have hr6 : RdB w' w'.heap.size (some ⟨g, 0, none⟩) lit1 := by
      rcases HR2.out with h1 | ⟨b, o, e2, _, hc2⟩
      · exact absurd h1 (by decide)
      · cases e2
        exact .inr ⟨g, 0, rfl, Nat.lt_of_lt_of_le hlt h.size, fun j hj => (World.cell?_of_block (a := ⟨g, 0 + j, none⟩) ((h.block g hlt).trans HG6.out)).trans (hc2 j hj)⟩
    exact hr6.text (P := Tryz.prog) 29 9 5 21 C rfl Tryz.underlying29 Tryz.underlying5 Tryz.underlying9
  have HW6 := Lib.hid hW6
  rw [← hW6]
  clear hW6 x0 x1 x2 x3 x4 x5 x6 x7 x8 x9 x10 f0 f1 f2 f3 f4 f5 f6 f7 f8 f9 f10
  refine (HN.out 0 W6).mono ?_
  rintro e w7 ⟨rfl, h7⟩
  rw [← h7]
  clear h7 w7
  have k6 := HTX.out W6 (Below.refl _ _)
  go_wp2_with fail
  obtain ⟨W7, hW7⟩ : ∃ W7, W7 = W6.alloc (.cells #[.int .u32 2, .int .u32 2] 22) := ⟨_, rfl⟩
  have HB7 : Hid (Below W6.heap.size W6 W7) := by rw [hW7]; exact below_al (Below.refl _ _) _
  have HR7 : Hid (RdU3 W7 W7.heap.size (some ⟨W6.heap.size, 0, none⟩) [2, 2]) := by rw [hW7]; exact rd32_two W6 _
  rw [← hW7]
  clear hW7 k6
  refine (HFL.out W7 _ _ HR7.out).mono ?_
  rintro e w8 ⟨rfl, hb⟩
  have HB8 := Lib.hid (below_on HB7.out hb)
  clear hb
  go_wp2_with fail
  refine (HRK.out w8).mono ?_
  rintro e w9 ⟨rfl, hb⟩
  have HB9 := Lib.hid (below_on HB8.out hb)
  clear hb
  go_wp2_with fail
  refine (HF.out w9).mono ?_
  rintro e w10 ⟨rfl, hb⟩
  have HB10 := Lib.hid (below_on HB9.out hb)
  clear hb
  go_wp2_with fail
  refine (HEX.out w10).mono ?_
  rintro e w11 ⟨rfl, hb⟩
  have HB11 := Lib.hid (below_on HB10.out hb)
  clear hb
  go_wp2_with fail
  refine (HN.out 2 w11).mono ?_
  rintro e w12 ⟨rfl, h7⟩
  rw [← h7]
  clear h7 w12
  obtain ⟨x0, x1, x2, x3, x4, x5, x6, x7, x8, x9, x10⟩ := HX6.out w11 HB11.out
  go_wp2_with fail
  refine (HC3.out w11).mono ?_
  rintro e w13 ⟨rfl, hb⟩
  have HB13 := Lib.hid (below_on HB11.out hb)
  clear hb x0 x1 x2 x3 x4 x5 x6 x7 x8 x9 x10
  go_wp2_with fail
  refine (HN.out 2 w13).mono ?_
  rintro e w14 ⟨rfl, h7⟩
  rw [← h7]
  clear h7 w14
  go_wp2_with fail
  go_ret
  exact ⟨rfl, HB1.out.trans ((below_on HB6.out HB13.out).mono HB1.out.size)⟩

end Go.Proofs.YtlmdbeccfoncpaaGreatDoor
