/- Package primary: which may be; Rank, Name, Expires. -/
import Derived.Test.YtlmdbeccfoncpaaGreatDoorZPmA
namespace Go.Proofs.YtlmdbeccfoncpaaGreatDoor
open Go Go.RowKit Go.Shelf
set_option linter.unusedSimpArgs false
set_option linter.unusedVariables false
set_option maxRecDepth 100000

set_option maxHeartbeats 8000000 in
theorem yesSix_any (p : Pm) (hp : p.ok) (g : Nat) (w : World) (hf : (w.cell? ⟨g, 0, none⟩ = some (.func (.func 27) #[] #[]) ∧ w.cell? ⟨g, 1, none⟩ = some (.func (.func 28) #[] #[]) ∧ w.cell? ⟨g, 2, none⟩ = some (.func (.func 29) #[] #[]) ∧ w.cell? ⟨g, 3, none⟩ = some (.func (.func 30) #[] #[]) ∧ w.cell? ⟨g, 4, none⟩ = some (.func (.func 31) #[] #[]) ∧ w.cell? ⟨g, 5, none⟩ = some (.func (.func 32) #[] #[]))) :
    Calls Tryz.prog 26 #[.agg #[.int .u32 p.f, .int .i64 p.s, .int .u32 p.tn, .int .u32 p.tm, .int .u32 p.sn, .int .u32 p.sm, .int .u32 p.rn, .int .u32 p.rm, .int .u64 p.t, .int .u32 p.q, .int .u64 p.l], .slice (some ⟨g, 0, none⟩) 6 6] w fun e w' => e = .returned (.bool ((flB p.f) && ((isK p.s) && ((decide (0 < p.tn)) && ((nmOk p) && ((rpOk p) && (lfOk p))))))) ∧ Below w.heap.size w w' := by
  have hg : g < w.heap.size := World.block_lt_of_cell? w _ hf.1
  obtain ⟨W, hW⟩ : ∃ W, W = w.alloc (.cells #[.int .u32 p.f, .int .i64 p.s, .int .u32 p.tn, .int .u32 p.tm, .int .u32 p.sn, .int .u32 p.sm, .int .u32 p.rn, .int .u32 p.rm, .int .u64 p.t, .int .u32 p.q, .int .u64 p.l] 59) := ⟨_, rfl⟩
  have HB0 : Hid (Below w.heap.size w W) := by rw [hW]; exact below_al (Below.refl _ _) _
  have HX : Hid (∀ w', Below W.heap.size W w' → (w'.cell? ⟨w.heap.size, 0, none⟩ = some (.int .u32 p.f) ∧ w'.cell? ⟨w.heap.size, 1, none⟩ = some (.int .i64 p.s) ∧ w'.cell? ⟨w.heap.size, 2, none⟩ = some (.int .u32 p.tn) ∧ w'.cell? ⟨w.heap.size, 3, none⟩ = some (.int .u32 p.tm) ∧ w'.cell? ⟨w.heap.size, 4, none⟩ = some (.int .u32 p.sn) ∧ w'.cell? ⟨w.heap.size, 5, none⟩ = some (.int .u32 p.sm) ∧ w'.cell? ⟨w.heap.size, 6, none⟩ = some (.int .u32 p.rn) ∧ w'.cell? ⟨w.heap.size, 7, none⟩ = some (.int .u32 p.rm) ∧ w'.cell? ⟨w.heap.size, 8, none⟩ = some (.int .u64 p.t) ∧ w'.cell? ⟨w.heap.size, 9, none⟩ = some (.int .u32 p.q) ∧ w'.cell? ⟨w.heap.size, 10, none⟩ = some (.int .u64 p.l)) ∧ (w'.cell? ⟨g, 0, none⟩ = some (.func (.func 27) #[] #[]) ∧ w'.cell? ⟨g, 1, none⟩ = some (.func (.func 28) #[] #[]) ∧ w'.cell? ⟨g, 2, none⟩ = some (.func (.func 29) #[] #[]) ∧ w'.cell? ⟨g, 3, none⟩ = some (.func (.func 30) #[] #[]) ∧ w'.cell? ⟨g, 4, none⟩ = some (.func (.func 31) #[] #[]) ∧ w'.cell? ⟨g, 5, none⟩ = some (.func (.func 32) #[] #[]))) := fun w' h => by
    have hb := HB0.out.trans (h.mono HB0.out.size)
    refine ⟨?_, ?_⟩
    · rw [hW] at h
      exact pbox h
    · obtain ⟨f0, f1, f2, f3, f4, f5⟩ := hf
      exact ⟨(hb.cell (p := ⟨g, 0, none⟩) hg).trans f0, (hb.cell (p := ⟨g, 1, none⟩) hg).trans f1, (hb.cell (p := ⟨g, 2, none⟩) hg).trans f2, (hb.cell (p := ⟨g, 3, none⟩) hg).trans f3, (hb.cell (p := ⟨g, 4, none⟩) hg).trans f4, (hb.cell (p := ⟨g, 5, none⟩) hg).trans f5⟩
  obtain ⟨q0, e0⟩ : ∃ q, q = (flB p.f) := ⟨_, rfl⟩
  obtain ⟨q1, e1⟩ : ∃ q, q = (isK p.s) := ⟨_, rfl⟩
  obtain ⟨q2, e2⟩ : ∃ q, q = (decide (0 < p.tn)) := ⟨_, rfl⟩
  obtain ⟨q3, e3⟩ : ∃ q, q = (nmOk p) := ⟨_, rfl⟩
  obtain ⟨q4, e4⟩ : ∃ q, q = (rpOk p) := ⟨_, rfl⟩
  obtain ⟨q5, e5⟩ : ∃ q, q = (lfOk p) := ⟨_, rfl⟩
  have HQ0 : Hid (∀ w', Calls Tryz.prog 27 #[.agg #[.int .u32 p.f, .int .i64 p.s, .int .u32 p.tn, .int .u32 p.tm, .int .u32 p.sn, .int .u32 p.sm, .int .u32 p.rn, .int .u32 p.rm, .int .u64 p.t, .int .u32 p.q, .int .u64 p.l]] w' fun e w'' => e = .returned (.bool q0) ∧ Below w'.heap.size w' w'') := fun w' => by rw [e0]; exact flagged_any p hp _
  have HQ1 : Hid (∀ w', Calls Tryz.prog 28 #[.agg #[.int .u32 p.f, .int .i64 p.s, .int .u32 p.tn, .int .u32 p.tm, .int .u32 p.sn, .int .u32 p.sm, .int .u32 p.rn, .int .u32 p.rm, .int .u64 p.t, .int .u32 p.q, .int .u64 p.l]] w' fun e w'' => e = .returned (.bool q1) ∧ Below w'.heap.size w' w'') := fun w' => by rw [e1]; exact summed_any p _
  have HQ2 : Hid (∀ w', Calls Tryz.prog 29 #[.agg #[.int .u32 p.f, .int .i64 p.s, .int .u32 p.tn, .int .u32 p.tm, .int .u32 p.sn, .int .u32 p.sm, .int .u32 p.rn, .int .u32 p.rm, .int .u64 p.t, .int .u32 p.q, .int .u64 p.l]] w' fun e w'' => e = .returned (.bool q2) ∧ Below w'.heap.size w' w'') := fun w' => by rw [e2]; exact sent_any p _
  have HQ3 : Hid (∀ w', Calls Tryz.prog 30 #[.agg #[.int .u32 p.f, .int .i64 p.s, .int .u32 p.tn, .int .u32 p.tm, .int .u32 p.sn, .int .u32 p.sm, .int .u32 p.rn, .int .u32 p.rm, .int .u64 p.t, .int .u32 p.q, .int .u64 p.l]] w' fun e w'' => e = .returned (.bool q3) ∧ Below w'.heap.size w' w'') := fun w' => by rw [e3]; exact named_any p _
  have HQ4 : Hid (∀ w', Calls Tryz.prog 31 #[.agg #[.int .u32 p.f, .int .i64 p.s, .int .u32 p.tn, .int .u32 p.tm, .int .u32 p.sn, .int .u32 p.sm, .int .u32 p.rn, .int .u32 p.rm, .int .u64 p.t, .int .u32 p.q, .int .u64 p.l]] w' fun e w'' => e = .returned (.bool q4) ∧ Below w'.heap.size w' w'') := fun w' => by rw [e4]; exact reported_any p _
  have HQ5 : Hid (∀ w', Calls Tryz.prog 32 #[.agg #[.int .u32 p.f, .int .i64 p.s, .int .u32 p.tn, .int .u32 p.tm, .int .u32 p.sn, .int .u32 p.sm, .int .u32 p.rn, .int .u32 p.rm, .int .u64 p.t, .int .u32 p.q, .int .u64 p.l]] w' fun e w'' => e = .returned (.bool q5) ∧ Below w'.heap.size w' w'') := fun w' => by rw [e5]; exact lives_any p _
  rw [← e0, ← e1, ← e2, ← e3, ← e4, ← e5]
  have HW := Lib.hid hW
  clear hW hf e0 e1 e2 e3 e4 e5
  go_enter Tryz.func26, Tryz.ntmps26
  go_wp2_with fail
  rw [← HW.out]
  go_loopw [9] (fun i wr => ∃ k : Nat, k ≤ 6 ∧ i = .int .i64 k ∧ Hid (Below W.heap.size W wr ∧ (1 ≤ k → q0 = true) ∧ (2 ≤ k → q1 = true) ∧ (3 ≤ k → q2 = true) ∧ (4 ≤ k → q3 = true) ∧ (5 ≤ k → q4 = true) ∧ (6 ≤ k → q5 = true))) (fun i _ => 6 - (intOf i).toNat)
  case atStart => exact ⟨0, by omega, rfl, Below.refl _ _, fun h => by omega, fun h => by omega, fun h => by omega, fun h => by omega, fun h => by omega, fun h => by omega⟩
  case round =>
    obtain ⟨k, hk, rfl, HI⟩ := hrel
    obtain ⟨⟨x0, x1, x2, x3, x4, x5, x6, x7, x8, x9, x10⟩, y0, y1, y2, y3, y4, y5⟩ := HX.out wr HI.out.1
    have hkk : k = 0 ∨ k = 1 ∨ k = 2 ∨ k = 3 ∨ k = 4 ∨ k = 5 ∨ k = 6 := by omega
    rcases hkk with rfl | rfl | rfl | rfl | rfl | rfl | rfl
    · go_wp2_with fail
      refine (HQ0.out wr).mono ?_
      rintro e w1 ⟨rfl, hb⟩
      have HB := Lib.hid (below_on HI.out.1 hb)
      clear hb x0 x1 x2 x3 x4 x5 x6 x7 x8 x9 x10 y0 y1 y2 y3 y4 y5
      cases q0
      · go_wp2_with fail
        go_ret
        exact ⟨by simp, HB0.out.trans (HB.out.mono HB0.out.size)⟩
      · go_wp2_with fail
        go_roundw
        case rel => exact ⟨1, by omega, rfl, HB.out, (fun _ => by first | trivial | rfl), (fun h => by omega), (fun h => by omega), (fun h => by omega), (fun h => by omega), (fun h => by omega)⟩
        case measure => simp [intOf]
    · go_wp2_with fail
      refine (HQ1.out wr).mono ?_
      rintro e w1 ⟨rfl, hb⟩
      have HB := Lib.hid (below_on HI.out.1 hb)
      clear hb x0 x1 x2 x3 x4 x5 x6 x7 x8 x9 x10 y0 y1 y2 y3 y4 y5
      cases q1
      · go_wp2_with fail
        go_ret
        exact ⟨by simp, HB0.out.trans (HB.out.mono HB0.out.size)⟩
      · go_wp2_with fail
        go_roundw
        case rel => exact ⟨2, by omega, rfl, HB.out, (fun _ => HI.out.2.1 (by omega)), (fun _ => by first | trivial | rfl), (fun h => by omega), (fun h => by omega), (fun h => by omega), (fun h => by omega)⟩
        case measure => simp [intOf]
    · go_wp2_with fail
      refine (HQ2.out wr).mono ?_
      rintro e w1 ⟨rfl, hb⟩
      have HB := Lib.hid (below_on HI.out.1 hb)
      clear hb x0 x1 x2 x3 x4 x5 x6 x7 x8 x9 x10 y0 y1 y2 y3 y4 y5
      cases q2
      · go_wp2_with fail
        go_ret
        exact ⟨by simp, HB0.out.trans (HB.out.mono HB0.out.size)⟩
      · go_wp2_with fail
        go_roundw
        case rel => exact ⟨3, by omega, rfl, HB.out, (fun _ => HI.out.2.1 (by omega)), (fun _ => HI.out.2.2.1 (by omega)), (fun _ => by first | trivial | rfl), (fun h => by omega), (fun h => by omega), (fun h => by omega)⟩
        case measure => simp [intOf]
    · go_wp2_with fail
      refine (HQ3.out wr).mono ?_
      rintro e w1 ⟨rfl, hb⟩
      have HB := Lib.hid (below_on HI.out.1 hb)
      clear hb x0 x1 x2 x3 x4 x5 x6 x7 x8 x9 x10 y0 y1 y2 y3 y4 y5
      cases q3
      · go_wp2_with fail
        go_ret
        exact ⟨by simp, HB0.out.trans (HB.out.mono HB0.out.size)⟩
      · go_wp2_with fail
        go_roundw
        case rel => exact ⟨4, by omega, rfl, HB.out, (fun _ => HI.out.2.1 (by omega)), (fun _ => HI.out.2.2.1 (by omega)), (fun _ => HI.out.2.2.2.1 (by omega)), (fun _ => by first | trivial | rfl), (fun h => by omega), (fun h => by omega)⟩
        case measure => simp [intOf]
    · go_wp2_with fail
      refine (HQ4.out wr).mono ?_
      rintro e w1 ⟨rfl, hb⟩
      have HB := Lib.hid (below_on HI.out.1 hb)
      clear hb x0 x1 x2 x3 x4 x5 x6 x7 x8 x9 x10 y0 y1 y2 y3 y4 y5
      cases q4
      · go_wp2_with fail
        go_ret
        exact ⟨by simp, HB0.out.trans (HB.out.mono HB0.out.size)⟩
      · go_wp2_with fail
        go_roundw
        case rel => exact ⟨5, by omega, rfl, HB.out, (fun _ => HI.out.2.1 (by omega)), (fun _ => HI.out.2.2.1 (by omega)), (fun _ => HI.out.2.2.2.1 (by omega)), (fun _ => HI.out.2.2.2.2.1 (by omega)), (fun _ => by first | trivial | rfl), (fun h => by omega)⟩
        case measure => simp [intOf]
    · go_wp2_with fail
      refine (HQ5.out wr).mono ?_
      rintro e w1 ⟨rfl, hb⟩
      have HB := Lib.hid (below_on HI.out.1 hb)
      clear hb x0 x1 x2 x3 x4 x5 x6 x7 x8 x9 x10 y0 y1 y2 y3 y4 y5
      cases q5
      · go_wp2_with fail
        go_ret
        exact ⟨by simp, HB0.out.trans (HB.out.mono HB0.out.size)⟩
      · go_wp2_with fail
        go_roundw
        case rel => exact ⟨6, by omega, rfl, HB.out, (fun _ => HI.out.2.1 (by omega)), (fun _ => HI.out.2.2.1 (by omega)), (fun _ => HI.out.2.2.2.1 (by omega)), (fun _ => HI.out.2.2.2.2.1 (by omega)), (fun _ => HI.out.2.2.2.2.2.1 (by omega)), (fun _ => by first | trivial | rfl)⟩
        case measure => simp [intOf]
    · have r0 := HI.out.2.1 (by omega)
      have r1 := HI.out.2.2.1 (by omega)
      have r2 := HI.out.2.2.2.1 (by omega)
      have r3 := HI.out.2.2.2.2.1 (by omega)
      have r4 := HI.out.2.2.2.2.2.1 (by omega)
      have r5 := HI.out.2.2.2.2.2.2 (by omega)
      subst r0 r1 r2 r3 r4 r5
      clear x0 x1 x2 x3 x4 x5 x6 x7 x8 x9 x10 y0 y1 y2 y3 y4 y5
      go_wp2_with fail
      go_ret
      exact ⟨rfl, HB0.out.trans (HI.out.1.mono HB0.out.size)⟩

set_option maxHeartbeats 8000000 in
theorem yesFlag_any (p : Pm) (hp : p.ok) (g : Nat) (w : World) (hf : (w.cell? ⟨g, 0, none⟩ = some (.func (.func 27) #[] #[]))) :
    Calls Tryz.prog 26 #[.agg #[.int .u32 p.f, .int .i64 p.s, .int .u32 p.tn, .int .u32 p.tm, .int .u32 p.sn, .int .u32 p.sm, .int .u32 p.rn, .int .u32 p.rm, .int .u64 p.t, .int .u32 p.q, .int .u64 p.l], .slice (some ⟨g, 0, none⟩) 1 1] w fun e w' => e = .returned (.bool (flB p.f)) ∧ Below w.heap.size w w' := by
  have hg : g < w.heap.size := World.block_lt_of_cell? w _ hf
  obtain ⟨W, hW⟩ : ∃ W, W = w.alloc (.cells #[.int .u32 p.f, .int .i64 p.s, .int .u32 p.tn, .int .u32 p.tm, .int .u32 p.sn, .int .u32 p.sm, .int .u32 p.rn, .int .u32 p.rm, .int .u64 p.t, .int .u32 p.q, .int .u64 p.l] 59) := ⟨_, rfl⟩
  have HB0 : Hid (Below w.heap.size w W) := by rw [hW]; exact below_al (Below.refl _ _) _
  have HX : Hid (∀ w', Below W.heap.size W w' → (w'.cell? ⟨w.heap.size, 0, none⟩ = some (.int .u32 p.f) ∧ w'.cell? ⟨w.heap.size, 1, none⟩ = some (.int .i64 p.s) ∧ w'.cell? ⟨w.heap.size, 2, none⟩ = some (.int .u32 p.tn) ∧ w'.cell? ⟨w.heap.size, 3, none⟩ = some (.int .u32 p.tm) ∧ w'.cell? ⟨w.heap.size, 4, none⟩ = some (.int .u32 p.sn) ∧ w'.cell? ⟨w.heap.size, 5, none⟩ = some (.int .u32 p.sm) ∧ w'.cell? ⟨w.heap.size, 6, none⟩ = some (.int .u32 p.rn) ∧ w'.cell? ⟨w.heap.size, 7, none⟩ = some (.int .u32 p.rm) ∧ w'.cell? ⟨w.heap.size, 8, none⟩ = some (.int .u64 p.t) ∧ w'.cell? ⟨w.heap.size, 9, none⟩ = some (.int .u32 p.q) ∧ w'.cell? ⟨w.heap.size, 10, none⟩ = some (.int .u64 p.l)) ∧ (w'.cell? ⟨g, 0, none⟩ = some (.func (.func 27) #[] #[]))) := fun w' h => by
    have hb := HB0.out.trans (h.mono HB0.out.size)
    refine ⟨?_, ?_⟩
    · rw [hW] at h
      exact pbox h
    · have f0 := hf
      exact (hb.cell (p := ⟨g, 0, none⟩) hg).trans f0
  obtain ⟨q0, e0⟩ : ∃ q, q = (flB p.f) := ⟨_, rfl⟩
  have HQ0 : Hid (∀ w', Calls Tryz.prog 27 #[.agg #[.int .u32 p.f, .int .i64 p.s, .int .u32 p.tn, .int .u32 p.tm, .int .u32 p.sn, .int .u32 p.sm, .int .u32 p.rn, .int .u32 p.rm, .int .u64 p.t, .int .u32 p.q, .int .u64 p.l]] w' fun e w'' => e = .returned (.bool q0) ∧ Below w'.heap.size w' w'') := fun w' => by rw [e0]; exact flagged_any p hp _
  rw [← e0]
  have HW := Lib.hid hW
  clear hW hf e0
  go_enter Tryz.func26, Tryz.ntmps26
  go_wp2_with fail
  rw [← HW.out]
  go_loopw [9] (fun i wr => ∃ k : Nat, k ≤ 1 ∧ i = .int .i64 k ∧ Hid (Below W.heap.size W wr ∧ (1 ≤ k → q0 = true))) (fun i _ => 1 - (intOf i).toNat)
  case atStart => exact ⟨0, by omega, rfl, Below.refl _ _, fun h => by omega⟩
  case round =>
    obtain ⟨k, hk, rfl, HI⟩ := hrel
    obtain ⟨⟨x0, x1, x2, x3, x4, x5, x6, x7, x8, x9, x10⟩, y0⟩ := HX.out wr HI.out.1
    have hkk : k = 0 ∨ k = 1 := by omega
    rcases hkk with rfl | rfl
    · go_wp2_with fail
      refine (HQ0.out wr).mono ?_
      rintro e w1 ⟨rfl, hb⟩
      have HB := Lib.hid (below_on HI.out.1 hb)
      clear hb x0 x1 x2 x3 x4 x5 x6 x7 x8 x9 x10 y0
      cases q0
      · go_wp2_with fail
        go_ret
        exact ⟨by simp, HB0.out.trans (HB.out.mono HB0.out.size)⟩
      · go_wp2_with fail
        go_roundw
        case rel => exact ⟨1, by omega, rfl, HB.out, (fun _ => by first | trivial | rfl)⟩
        case measure => simp [intOf]
    · have r0 := HI.out.2 (by omega)
      subst r0
      clear x0 x1 x2 x3 x4 x5 x6 x7 x8 x9 x10 y0
      go_wp2_with fail
      go_ret
      exact ⟨rfl, HB0.out.trans (HI.out.1.mono HB0.out.size)⟩

set_option maxHeartbeats 8000000 in
theorem yesName_any (p : Pm) (hp : p.ok) (g : Nat) (w : World) (hf : (w.cell? ⟨g, 0, none⟩ = some (.func (.func 30) #[] #[]))) :
    Calls Tryz.prog 26 #[.agg #[.int .u32 p.f, .int .i64 p.s, .int .u32 p.tn, .int .u32 p.tm, .int .u32 p.sn, .int .u32 p.sm, .int .u32 p.rn, .int .u32 p.rm, .int .u64 p.t, .int .u32 p.q, .int .u64 p.l], .slice (some ⟨g, 0, none⟩) 1 1] w fun e w' => e = .returned (.bool (nmOk p)) ∧ Below w.heap.size w w' := by
  have hg : g < w.heap.size := World.block_lt_of_cell? w _ hf
  obtain ⟨W, hW⟩ : ∃ W, W = w.alloc (.cells #[.int .u32 p.f, .int .i64 p.s, .int .u32 p.tn, .int .u32 p.tm, .int .u32 p.sn, .int .u32 p.sm, .int .u32 p.rn, .int .u32 p.rm, .int .u64 p.t, .int .u32 p.q, .int .u64 p.l] 59) := ⟨_, rfl⟩
  have HB0 : Hid (Below w.heap.size w W) := by rw [hW]; exact below_al (Below.refl _ _) _
  have HX : Hid (∀ w', Below W.heap.size W w' → (w'.cell? ⟨w.heap.size, 0, none⟩ = some (.int .u32 p.f) ∧ w'.cell? ⟨w.heap.size, 1, none⟩ = some (.int .i64 p.s) ∧ w'.cell? ⟨w.heap.size, 2, none⟩ = some (.int .u32 p.tn) ∧ w'.cell? ⟨w.heap.size, 3, none⟩ = some (.int .u32 p.tm) ∧ w'.cell? ⟨w.heap.size, 4, none⟩ = some (.int .u32 p.sn) ∧ w'.cell? ⟨w.heap.size, 5, none⟩ = some (.int .u32 p.sm) ∧ w'.cell? ⟨w.heap.size, 6, none⟩ = some (.int .u32 p.rn) ∧ w'.cell? ⟨w.heap.size, 7, none⟩ = some (.int .u32 p.rm) ∧ w'.cell? ⟨w.heap.size, 8, none⟩ = some (.int .u64 p.t) ∧ w'.cell? ⟨w.heap.size, 9, none⟩ = some (.int .u32 p.q) ∧ w'.cell? ⟨w.heap.size, 10, none⟩ = some (.int .u64 p.l)) ∧ (w'.cell? ⟨g, 0, none⟩ = some (.func (.func 30) #[] #[]))) := fun w' h => by
    have hb := HB0.out.trans (h.mono HB0.out.size)
    refine ⟨?_, ?_⟩
    · rw [hW] at h
      exact pbox h
    · have f0 := hf
      exact (hb.cell (p := ⟨g, 0, none⟩) hg).trans f0
  obtain ⟨q0, e0⟩ : ∃ q, q = (nmOk p) := ⟨_, rfl⟩
  have HQ0 : Hid (∀ w', Calls Tryz.prog 30 #[.agg #[.int .u32 p.f, .int .i64 p.s, .int .u32 p.tn, .int .u32 p.tm, .int .u32 p.sn, .int .u32 p.sm, .int .u32 p.rn, .int .u32 p.rm, .int .u64 p.t, .int .u32 p.q, .int .u64 p.l]] w' fun e w'' => e = .returned (.bool q0) ∧ Below w'.heap.size w' w'') := fun w' => by rw [e0]; exact named_any p _
  rw [← e0]
  have HW := Lib.hid hW
  clear hW hf e0
  go_enter Tryz.func26, Tryz.ntmps26
  go_wp2_with fail
  rw [← HW.out]
  go_loopw [9] (fun i wr => ∃ k : Nat, k ≤ 1 ∧ i = .int .i64 k ∧ Hid (Below W.heap.size W wr ∧ (1 ≤ k → q0 = true))) (fun i _ => 1 - (intOf i).toNat)
  case atStart => exact ⟨0, by omega, rfl, Below.refl _ _, fun h => by omega⟩
  case round =>
    obtain ⟨k, hk, rfl, HI⟩ := hrel
    obtain ⟨⟨x0, x1, x2, x3, x4, x5, x6, x7, x8, x9, x10⟩, y0⟩ := HX.out wr HI.out.1
    have hkk : k = 0 ∨ k = 1 := by omega
    rcases hkk with rfl | rfl
    · go_wp2_with fail
      refine (HQ0.out wr).mono ?_
      rintro e w1 ⟨rfl, hb⟩
      have HB := Lib.hid (below_on HI.out.1 hb)
      clear hb x0 x1 x2 x3 x4 x5 x6 x7 x8 x9 x10 y0
      cases q0
      · go_wp2_with fail
        go_ret
        exact ⟨by simp, HB0.out.trans (HB.out.mono HB0.out.size)⟩
      · go_wp2_with fail
        go_roundw
        case rel => exact ⟨1, by omega, rfl, HB.out, (fun _ => by first | trivial | rfl)⟩
        case measure => simp [intOf]
    · have r0 := HI.out.2 (by omega)
      subst r0
      clear x0 x1 x2 x3 x4 x5 x6 x7 x8 x9 x10 y0
      go_wp2_with fail
      go_ret
      exact ⟨rfl, HB0.out.trans (HI.out.1.mono HB0.out.size)⟩

/-- May it be? -/
def Pm.right (p : Pm) : Bool := ((flB p.f) && ((isK p.s) && ((decide (0 < p.tn)) && ((nmOk p) && ((rpOk p) && (lfOk p))))))
def Pm.er (p : Pm) : Int := if p.right = true then 0 else 2

set_option maxHeartbeats 4000000 in
theorem prcheck_any (p : Pm) (hp : p.ok) (w : World) : Calls Tryz.prog 7 #[.agg #[.int .u32 p.f, .int .i64 p.s, .int .u32 p.tn, .int .u32 p.tm, .int .u32 p.sn, .int .u32 p.sm, .int .u32 p.rn, .int .u32 p.rm, .int .u64 p.t, .int .u32 p.q, .int .u64 p.l]] w fun e w' => e = .returned (.int .i64 p.er) ∧ Below w.heap.size w w' := by
  have HY : Hid (∀ (g : Nat) (w1 : World), (w1.cell? ⟨g, 0, none⟩ = some (.func (.func 27) #[] #[]) ∧ w1.cell? ⟨g, 1, none⟩ = some (.func (.func 28) #[] #[]) ∧ w1.cell? ⟨g, 2, none⟩ = some (.func (.func 29) #[] #[]) ∧ w1.cell? ⟨g, 3, none⟩ = some (.func (.func 30) #[] #[]) ∧ w1.cell? ⟨g, 4, none⟩ = some (.func (.func 31) #[] #[]) ∧ w1.cell? ⟨g, 5, none⟩ = some (.func (.func 32) #[] #[])) → Calls Tryz.prog 26 #[.agg #[.int .u32 p.f, .int .i64 p.s, .int .u32 p.tn, .int .u32 p.tm, .int .u32 p.sn, .int .u32 p.sm, .int .u32 p.rn, .int .u32 p.rm, .int .u64 p.t, .int .u32 p.q, .int .u64 p.l], .slice (some ⟨g, 0, none⟩) 6 6] w1 fun e w' => e = .returned (.bool p.right) ∧ Below w1.heap.size w1 w') := fun g w1 h => yesSix_any p hp g w1 h
  have HC : Hid (p.er = if p.right = true then 0 else 2) := rfl
  generalize p.right = q at *
  generalize p.er = r at *
  go_enter Tryz.func7, Tryz.ntmps7
  go_wp2_with fail
  refine wp_scope_on 0 rfl ?_
  go_wp2_with fail
  obtain ⟨W, hW⟩ : ∃ W, W = (w.alloc (.cells #[.int .u32 p.f, .int .i64 p.s, .int .u32 p.tn, .int .u32 p.tm, .int .u32 p.sn, .int .u32 p.sm, .int .u32 p.rn, .int .u32 p.rm, .int .u64 p.t, .int .u32 p.q, .int .u64 p.l] 28)).alloc (.cells #[.func (.func 27) #[] #[], .func (.func 28) #[] #[], .func (.func 29) #[] #[], .func (.func 30) #[] #[], .func (.func 31) #[] #[], .func (.func 32) #[] #[]] 62) := ⟨_, rfl⟩
  have HB0 : Hid (Below w.heap.size w W) := by rw [hW]; exact below_al (below_al (Below.refl _ _) _) _
  have hfs : ∀ i, W.cell? ⟨w.heap.size + 1, i, none⟩ = (#[Value.func (.func 27) #[] #[], .func (.func 28) #[] #[], .func (.func 29) #[] #[], .func (.func 30) #[] #[], .func (.func 31) #[] #[], .func (.func 32) #[] #[]] : Array Value)[i]? := fun i => by
    have h := box_at (w := w.alloc (.cells #[.int .u32 p.f, .int .i64 p.s, .int .u32 p.tn, .int .u32 p.tm, .int .u32 p.sn, .int .u32 p.sm, .int .u32 p.rn, .int .u32 p.rm, .int .u64 p.t, .int .u32 p.q, .int .u64 p.l] 28)) (Below.refl _ ((w.alloc (.cells #[.int .u32 p.f, .int .i64 p.s, .int .u32 p.tn, .int .u32 p.tm, .int .u32 p.sn, .int .u32 p.sm, .int .u32 p.rn, .int .u32 p.rm, .int .u64 p.t, .int .u32 p.q, .int .u64 p.l] 28)).alloc (.cells #[.func (.func 27) #[] #[], .func (.func 28) #[] #[], .func (.func 29) #[] #[], .func (.func 30) #[] #[], .func (.func 31) #[] #[], .func (.func 32) #[] #[]] 62))) i
    rw [← hW] at h
    simpa using h
  have HXp : Hid (∀ w', Below W.heap.size W w' → (w'.cell? ⟨w.heap.size, 0, none⟩ = some (.int .u32 p.f) ∧ w'.cell? ⟨w.heap.size, 1, none⟩ = some (.int .i64 p.s) ∧ w'.cell? ⟨w.heap.size, 2, none⟩ = some (.int .u32 p.tn) ∧ w'.cell? ⟨w.heap.size, 3, none⟩ = some (.int .u32 p.tm) ∧ w'.cell? ⟨w.heap.size, 4, none⟩ = some (.int .u32 p.sn) ∧ w'.cell? ⟨w.heap.size, 5, none⟩ = some (.int .u32 p.sm) ∧ w'.cell? ⟨w.heap.size, 6, none⟩ = some (.int .u32 p.rn) ∧ w'.cell? ⟨w.heap.size, 7, none⟩ = some (.int .u32 p.rm) ∧ w'.cell? ⟨w.heap.size, 8, none⟩ = some (.int .u64 p.t) ∧ w'.cell? ⟨w.heap.size, 9, none⟩ = some (.int .u32 p.q) ∧ w'.cell? ⟨w.heap.size, 10, none⟩ = some (.int .u64 p.l))) := fun w' h => by
    rw [hW] at h
    exact pbox (below_on (below_al (Below.refl _ _) _) h)
  have HW := Lib.hid hW
  rw [← hW]
  clear hW
  refine (HY.out (w.heap.size + 1) W ⟨hfs 0, hfs 1, hfs 2, hfs 3, hfs 4, hfs 5⟩).mono ?_
  rintro e w1 ⟨rfl, hb⟩
  have HB1 := Lib.hid (below_on HB0.out hb)
  obtain ⟨x0, x1, x2, x3, x4, x5, x6, x7, x8, x9, x10⟩ := HXp.out w1 hb
  clear hb hfs
  cases q
  · go_wp2_with fail
    go_step3
    refine ⟨rfl, ?_⟩
    show Code.wp _ _ _ _ _
    go_wp2_with fail
    rw [Exit.noGoto_ret]
    go_ret
    exact ⟨by rw [HC.out]; rfl, HB1.out⟩
  · go_wp2_with fail
    simp only [Exit.jump]
    go_ret
    exact ⟨by rw [HC.out]; rfl, HB1.out⟩

/-- Its rank. -/
def Pm.rank (p : Pm) : Int := if flB p.f = true then ((p.f / 128 : Nat) : Int) else 0

set_option maxHeartbeats 4000000 in
theorem rank_any (p : Pm) (hp : p.ok) (w : World) : Calls Tryz.prog 21 #[.agg #[.int .u32 p.f, .int .i64 p.s, .int .u32 p.tn, .int .u32 p.tm, .int .u32 p.sn, .int .u32 p.sm, .int .u32 p.rn, .int .u32 p.rm, .int .u64 p.t, .int .u32 p.q, .int .u64 p.l]] w fun e w' => e = .returned (.int .i64 p.rank) ∧ Below w.heap.size w w' := by
  have HY : Hid (∀ (g : Nat) (w1 : World), w1.cell? ⟨g, 0, none⟩ = some (.func (.func 27) #[] #[]) → Calls Tryz.prog 26 #[.agg #[.int .u32 p.f, .int .i64 p.s, .int .u32 p.tn, .int .u32 p.tm, .int .u32 p.sn, .int .u32 p.sm, .int .u32 p.rn, .int .u32 p.rm, .int .u64 p.t, .int .u32 p.q, .int .u64 p.l], .slice (some ⟨g, 0, none⟩) 1 1] w1 fun e w' => e = .returned (.bool (flB p.f)) ∧ Below w1.heap.size w1 w') := fun g w1 h => yesFlag_any p hp g w1 h
  have HC : Hid (p.rank = if flB p.f = true then ((p.f / 128 : Nat) : Int) else 0) := rfl
  have hf := hp.f
  have hd : ((p.f : Nat) : Int).tdiv 128 = ((p.f / 128 : Nat) : Int) := by rw [Int.tdiv_eq_ediv_of_nonneg (by omega)]; omega
  have hlt : ((p.f / 128 : Nat) : Int) % 4294967296 = ((p.f / 128 : Nat) : Int) := by omega
  have hwr : IntKind.i64.wrap ((p.f / 128 : Nat) : Int) = ((p.f / 128 : Nat) : Int) := by
    simp [IntKind.wrap, IntKind.signed, IntKind.bits]
    omega
  generalize flB p.f = q at *
  generalize p.rank = r at *
  clear hf hp
  go_enter Tryz.func21, Tryz.ntmps21
  go_wp2_with fail
  obtain ⟨W, hW⟩ : ∃ W, W = (w.alloc (.cells #[.int .u32 p.f, .int .i64 p.s, .int .u32 p.tn, .int .u32 p.tm, .int .u32 p.sn, .int .u32 p.sm, .int .u32 p.rn, .int .u32 p.rm, .int .u64 p.t, .int .u32 p.q, .int .u64 p.l] 28)).alloc (.cells #[.func (.func 27) #[] #[]] 62) := ⟨_, rfl⟩
  have HB0 : Hid (Below w.heap.size w W) := by rw [hW]; exact below_al (below_al (Below.refl _ _) _) _
  have hfs : ∀ i, W.cell? ⟨w.heap.size + 1, i, none⟩ = (#[Value.func (.func 27) #[] #[]] : Array Value)[i]? := fun i => by
    have h := box_at (w := w.alloc (.cells #[.int .u32 p.f, .int .i64 p.s, .int .u32 p.tn, .int .u32 p.tm, .int .u32 p.sn, .int .u32 p.sm, .int .u32 p.rn, .int .u32 p.rm, .int .u64 p.t, .int .u32 p.q, .int .u64 p.l] 28)) (Below.refl _ ((w.alloc (.cells #[.int .u32 p.f, .int .i64 p.s, .int .u32 p.tn, .int .u32 p.tm, .int .u32 p.sn, .int .u32 p.sm, .int .u32 p.rn, .int .u32 p.rm, .int .u64 p.t, .int .u32 p.q, .int .u64 p.l] 28)).alloc (.cells #[.func (.func 27) #[] #[]] 62))) i
    rw [← hW] at h
    simpa using h
  have HXp : Hid (∀ w', Below W.heap.size W w' → (w'.cell? ⟨w.heap.size, 0, none⟩ = some (.int .u32 p.f) ∧ w'.cell? ⟨w.heap.size, 1, none⟩ = some (.int .i64 p.s) ∧ w'.cell? ⟨w.heap.size, 2, none⟩ = some (.int .u32 p.tn) ∧ w'.cell? ⟨w.heap.size, 3, none⟩ = some (.int .u32 p.tm) ∧ w'.cell? ⟨w.heap.size, 4, none⟩ = some (.int .u32 p.sn) ∧ w'.cell? ⟨w.heap.size, 5, none⟩ = some (.int .u32 p.sm) ∧ w'.cell? ⟨w.heap.size, 6, none⟩ = some (.int .u32 p.rn) ∧ w'.cell? ⟨w.heap.size, 7, none⟩ = some (.int .u32 p.rm) ∧ w'.cell? ⟨w.heap.size, 8, none⟩ = some (.int .u64 p.t) ∧ w'.cell? ⟨w.heap.size, 9, none⟩ = some (.int .u32 p.q) ∧ w'.cell? ⟨w.heap.size, 10, none⟩ = some (.int .u64 p.l))) := fun w' h => by
    rw [hW] at h
    exact pbox (below_on (below_al (Below.refl _ _) _) h)
  have HW := Lib.hid hW
  rw [← hW]
  clear hW
  refine (HY.out (w.heap.size + 1) W (hfs 0)).mono ?_
  rintro e w1 ⟨rfl, hb⟩
  have HB1 := Lib.hid (below_on HB0.out hb)
  obtain ⟨x0, x1, x2, x3, x4, x5, x6, x7, x8, x9, x10⟩ := HXp.out w1 hb
  clear hb hfs
  cases q
  · go_wp2_with fail
    go_ret
    exact ⟨by rw [HC.out]; rfl, HB1.out⟩
  · generalize ((p.f / 128 : Nat) : Int) = d at *
    go_wp2_with fail
    go_ret
    exact ⟨by rw [HC.out]; rfl, HB1.out⟩

/-- What Name answers. -/
def NameP (p : Pm) (w : World) (e : Ending) (w' : World) : Prop :=
  Below w.heap.size w w' ∧ e = if nmOk p = true then .returned (.tuple #[.agg #[.int .u32 p.sn, .int .u32 p.sm, .int .u64 p.t, .int .u32 p.q], .int .i64 0]) else .returned (.tuple #[.agg #[.int .u32 0, .int .u32 0, .int .u64 0, .int .u32 0], .int .i64 2])

set_option maxHeartbeats 4000000 in
theorem expires_any (p : Pm) (w : World) : Calls Tryz.prog 23 #[.agg #[.int .u32 p.f, .int .i64 p.s, .int .u32 p.tn, .int .u32 p.tm, .int .u32 p.sn, .int .u32 p.sm, .int .u32 p.rn, .int .u32 p.rm, .int .u64 p.t, .int .u32 p.q, .int .u64 p.l]] w fun e w' => e = .returned (.int .u64 (addT p.t p.l)) ∧ Below w.heap.size w w' := by
  have HA := Lib.hid (fun w => add_any p.t p.l w (by omega) (by omega))
  generalize addT p.t p.l = r at *
  go_enter Tryz.func23, Tryz.ntmps23
  go_wp2_with fail
  refine (HA.out _).mono ?_
  rintro e w1 ⟨rfl, hb⟩
  have HB1 := Lib.hid (below_on (below_al (Below.refl _ _) _) hb)
  clear hb
  go_wp2
  go_ret
  exact ⟨rfl, HB1.out⟩

end Go.Proofs.YtlmdbeccfoncpaaGreatDoor
