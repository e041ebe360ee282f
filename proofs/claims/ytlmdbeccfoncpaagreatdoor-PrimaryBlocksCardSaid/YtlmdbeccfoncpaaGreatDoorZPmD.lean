/- Package primary: the list of parts; laid. -/
import Derived.Test.YtlmdbeccfoncpaaGreatDoorZMe
namespace Go.Proofs.YtlmdbeccfoncpaaGreatDoor
open Go Go.RowKit Go.Shelf
set_option linter.unusedSimpArgs false
set_option linter.unusedVariables false
set_option maxRecDepth 100000

attribute [local go_sem] run_store_func

theorem ListO.low {w W wr : World} {v : Value} {l : List It} (h : ListO W wr v l) (hb : Below w.heap.size w W) : ListO w wr v l := by
  obtain ⟨h1, xs, hown, hls⟩ := h
  exact ⟨hb.trans (h1.mono hb.size), xs, ⟨hown.1, hown.2.imp id fun ⟨g, cap, cur, e, h0, r⟩ => ⟨g, cap, cur, e, Nat.le_trans hb.size h0, r⟩⟩, LI.more (fun b q => ⟨⟨Nat.le_trans hb.size q.1.1, q.1.2⟩, q.2⟩) hls⟩

set_option maxHeartbeats 2000000 in
theorem parts_any (w : World) : Calls Tryz.prog 51 #[] w fun e w' => e = .returned (.agg #[.func (.func 78) #[] #[], .func (.func 80) #[] #[], .func (.func 81) #[] #[], .func (.func 82) #[] #[], .func (.func 84) #[] #[], .func (.func 85) #[] #[], .func (.func 86) #[] #[], .func (.func 87) #[] #[]]) ∧ Below w.heap.size w w' := by
  go_enter Tryz.func51, Tryz.ntmps51
  go_wp2
  exact bodyPost_ret (v := .agg #[.func (.func 78) #[] #[], .func (.func 80) #[] #[], .func (.func 81) #[] #[], .func (.func 82) #[] #[], .func (.func 84) #[] #[], .func (.func 85) #[] #[], .func (.func 86) #[] #[], .func (.func 87) #[] #[]]) (by simp [results, Tryz.results51, go_sem]) rfl ⟨rfl, below_al (Below.refl _ _) _⟩

/-- The parts of a primary's item, without the sum. -/
def itsP (p : Pm) : List It := [itU 7, itU p.f, itU p.s, itE p.tn p.tm, itE p.sn p.sm, itE p.rn p.rm, itLs [itU p.t, itU p.q], itU p.l]

/-- What the parts ask. -/
structure Pm.fine (p : Pm) : Prop where
  ok : p.ok
  s : 0 ≤ p.s ∧ p.s ≤ 2
  ht : 0 < p.tn ∨ p.tm = 0
  hso : 0 < p.sn ∨ p.sm = 0
  hre : 0 < p.rn ∨ p.rm = 0

set_option maxHeartbeats 16000000 in
theorem laid_any (p : Pm) (hp : p.fine) (w : World) : Calls Tryz.prog 50 #[.agg #[.int .u32 p.f, .int .i64 p.s, .int .u32 p.tn, .int .u32 p.tm, .int .u32 p.sn, .int .u32 p.sm, .int .u32 p.rn, .int .u32 p.rm, .int .u64 p.t, .int .u32 p.q, .int .u64 p.l], .agg #[.func (.func 78) #[] #[], .func (.func 80) #[] #[], .func (.func 81) #[] #[], .func (.func 82) #[] #[], .func (.func 84) #[] #[], .func (.func 85) #[] #[], .func (.func 86) #[] #[], .func (.func 87) #[] #[]]] w fun e w' => ∃ v, e = .returned v ∧ ListO w w' v (itsP p) := by
  obtain ⟨W, hW⟩ : ∃ W, W = (w.alloc (.cells #[.int .u32 p.f, .int .i64 p.s, .int .u32 p.tn, .int .u32 p.tm, .int .u32 p.sn, .int .u32 p.sm, .int .u32 p.rn, .int .u32 p.rm, .int .u64 p.t, .int .u32 p.q, .int .u64 p.l] 59)).alloc (.cells #[.func (.func 78) #[] #[], .func (.func 80) #[] #[], .func (.func 81) #[] #[], .func (.func 82) #[] #[], .func (.func 84) #[] #[], .func (.func 85) #[] #[], .func (.func 86) #[] #[], .func (.func 87) #[] #[]] 80) := ⟨_, rfl⟩
  have HB0 : Hid (Below w.heap.size w W) := by rw [hW]; exact below_al (below_al (Below.refl _ _) _) _
  have HX : Hid (∀ w', Below W.heap.size W w' → (w'.cell? ⟨w.heap.size, 0, none⟩ = some (.int .u32 p.f) ∧ w'.cell? ⟨w.heap.size, 1, none⟩ = some (.int .i64 p.s) ∧ w'.cell? ⟨w.heap.size, 2, none⟩ = some (.int .u32 p.tn) ∧ w'.cell? ⟨w.heap.size, 3, none⟩ = some (.int .u32 p.tm) ∧ w'.cell? ⟨w.heap.size, 4, none⟩ = some (.int .u32 p.sn) ∧ w'.cell? ⟨w.heap.size, 5, none⟩ = some (.int .u32 p.sm) ∧ w'.cell? ⟨w.heap.size, 6, none⟩ = some (.int .u32 p.rn) ∧ w'.cell? ⟨w.heap.size, 7, none⟩ = some (.int .u32 p.rm) ∧ w'.cell? ⟨w.heap.size, 8, none⟩ = some (.int .u64 p.t) ∧ w'.cell? ⟨w.heap.size, 9, none⟩ = some (.int .u32 p.q) ∧ w'.cell? ⟨w.heap.size, 10, none⟩ = some (.int .u64 p.l))) := fun w' h => by
    rw [hW] at h
    exact pbox (below_on (below_al (Below.refl _ _) _) h)
  have HW := Lib.hid hW
  have HL0 : Hid (ListO W W (.slice none 0 0) []) := ListO.nil (Below.refl _ _)
  obtain ⟨i1, e1⟩ : ∃ x, x = itU 7 := ⟨_, rfl⟩
  have HP1 : Hid (∀ w', Calls Tryz.prog 78 #[.agg #[.int .u32 p.f, .int .i64 p.s, .int .u32 p.tn, .int .u32 p.tm, .int .u32 p.sn, .int .u32 p.sm, .int .u32 p.rn, .int .u32 p.rm, .int .u64 p.t, .int .u32 p.q, .int .u64 p.l]] w' (NewP w' i1)) := fun w' => by rw [e1]; exact part1_any p hp.ok w'
  obtain ⟨i2, e2⟩ : ∃ x, x = itU p.f := ⟨_, rfl⟩
  have HP2 : Hid (∀ w', Calls Tryz.prog 80 #[.agg #[.int .u32 p.f, .int .i64 p.s, .int .u32 p.tn, .int .u32 p.tm, .int .u32 p.sn, .int .u32 p.sm, .int .u32 p.rn, .int .u32 p.rm, .int .u64 p.t, .int .u32 p.q, .int .u64 p.l]] w' (NewP w' i2)) := fun w' => by rw [e2]; exact part2_any p hp.ok w'
  obtain ⟨i3, e3⟩ : ∃ x, x = itU p.s := ⟨_, rfl⟩
  have HP3 : Hid (∀ w', Calls Tryz.prog 81 #[.agg #[.int .u32 p.f, .int .i64 p.s, .int .u32 p.tn, .int .u32 p.tm, .int .u32 p.sn, .int .u32 p.sm, .int .u32 p.rn, .int .u32 p.rm, .int .u64 p.t, .int .u32 p.q, .int .u64 p.l]] w' (NewP w' i3)) := fun w' => by rw [e3]; exact part3_any p hp.ok hp.s w'
  obtain ⟨i4, e4⟩ : ∃ x, x = itE p.tn p.tm := ⟨_, rfl⟩
  have HP4 : Hid (∀ w', Calls Tryz.prog 82 #[.agg #[.int .u32 p.f, .int .i64 p.s, .int .u32 p.tn, .int .u32 p.tm, .int .u32 p.sn, .int .u32 p.sm, .int .u32 p.rn, .int .u32 p.rm, .int .u64 p.t, .int .u32 p.q, .int .u64 p.l]] w' (NewP w' i4)) := fun w' => by rw [e4]; exact part4_any p hp.ok hp.ht w'
  obtain ⟨i5, e5⟩ : ∃ x, x = itE p.sn p.sm := ⟨_, rfl⟩
  have HP5 : Hid (∀ w', Calls Tryz.prog 84 #[.agg #[.int .u32 p.f, .int .i64 p.s, .int .u32 p.tn, .int .u32 p.tm, .int .u32 p.sn, .int .u32 p.sm, .int .u32 p.rn, .int .u32 p.rm, .int .u64 p.t, .int .u32 p.q, .int .u64 p.l]] w' (NewP w' i5)) := fun w' => by rw [e5]; exact part5_any p hp.ok hp.hso w'
  obtain ⟨i6, e6⟩ : ∃ x, x = itE p.rn p.rm := ⟨_, rfl⟩
  have HP6 : Hid (∀ w', Calls Tryz.prog 85 #[.agg #[.int .u32 p.f, .int .i64 p.s, .int .u32 p.tn, .int .u32 p.tm, .int .u32 p.sn, .int .u32 p.sm, .int .u32 p.rn, .int .u32 p.rm, .int .u64 p.t, .int .u32 p.q, .int .u64 p.l]] w' (NewP w' i6)) := fun w' => by rw [e6]; exact part6_any p hp.ok hp.hre w'
  obtain ⟨i7, e7⟩ : ∃ x, x = itLs [itU p.t, itU p.q] := ⟨_, rfl⟩
  have HP7 : Hid (∀ w', Calls Tryz.prog 86 #[.agg #[.int .u32 p.f, .int .i64 p.s, .int .u32 p.tn, .int .u32 p.tm, .int .u32 p.sn, .int .u32 p.sm, .int .u32 p.rn, .int .u32 p.rm, .int .u64 p.t, .int .u32 p.q, .int .u64 p.l]] w' (NewP w' i7)) := fun w' => by rw [e7]; exact part7_any p hp.ok w'
  obtain ⟨i8, e8⟩ : ∃ x, x = itU p.l := ⟨_, rfl⟩
  have HP8 : Hid (∀ w', Calls Tryz.prog 87 #[.agg #[.int .u32 p.f, .int .i64 p.s, .int .u32 p.tn, .int .u32 p.tm, .int .u32 p.sn, .int .u32 p.sm, .int .u32 p.rn, .int .u32 p.rm, .int .u64 p.t, .int .u32 p.q, .int .u64 p.l]] w' (NewP w' i8)) := fun w' => by rw [e8]; exact part8_any p hp.ok w'
  have hits : itsP p = [i1, i2, i3, i4, i5, i6, i7, i8] := by rw [e1, e2, e3, e4, e5, e6, e7, e8]; rfl
  rw [hits]
  clear hits hW e1 e2 e3 e4 e5 e6 e7 e8 hp
  have n0 : ∀ w : World, (Instr.index 80 (.agg #[.func (.func 78) #[] #[], .func (.func 80) #[] #[], .func (.func 81) #[] #[], .func (.func 82) #[] #[], .func (.func 84) #[] #[], .func (.func 85) #[] #[], .func (.func 86) #[] #[], .func (.func 87) #[] #[]]) (.int .i64 0)).run Tryz.prog w = .ok (.func (.func 78) #[] #[]) w := fun _ => by kernel_rfl
  have n1 : ∀ w : World, (Instr.index 80 (.agg #[.func (.func 78) #[] #[], .func (.func 80) #[] #[], .func (.func 81) #[] #[], .func (.func 82) #[] #[], .func (.func 84) #[] #[], .func (.func 85) #[] #[], .func (.func 86) #[] #[], .func (.func 87) #[] #[]]) (.int .i64 1)).run Tryz.prog w = .ok (.func (.func 80) #[] #[]) w := fun _ => by kernel_rfl
  have n2 : ∀ w : World, (Instr.index 80 (.agg #[.func (.func 78) #[] #[], .func (.func 80) #[] #[], .func (.func 81) #[] #[], .func (.func 82) #[] #[], .func (.func 84) #[] #[], .func (.func 85) #[] #[], .func (.func 86) #[] #[], .func (.func 87) #[] #[]]) (.int .i64 2)).run Tryz.prog w = .ok (.func (.func 81) #[] #[]) w := fun _ => by kernel_rfl
  have n3 : ∀ w : World, (Instr.index 80 (.agg #[.func (.func 78) #[] #[], .func (.func 80) #[] #[], .func (.func 81) #[] #[], .func (.func 82) #[] #[], .func (.func 84) #[] #[], .func (.func 85) #[] #[], .func (.func 86) #[] #[], .func (.func 87) #[] #[]]) (.int .i64 3)).run Tryz.prog w = .ok (.func (.func 82) #[] #[]) w := fun _ => by kernel_rfl
  have n4 : ∀ w : World, (Instr.index 80 (.agg #[.func (.func 78) #[] #[], .func (.func 80) #[] #[], .func (.func 81) #[] #[], .func (.func 82) #[] #[], .func (.func 84) #[] #[], .func (.func 85) #[] #[], .func (.func 86) #[] #[], .func (.func 87) #[] #[]]) (.int .i64 4)).run Tryz.prog w = .ok (.func (.func 84) #[] #[]) w := fun _ => by kernel_rfl
  have n5 : ∀ w : World, (Instr.index 80 (.agg #[.func (.func 78) #[] #[], .func (.func 80) #[] #[], .func (.func 81) #[] #[], .func (.func 82) #[] #[], .func (.func 84) #[] #[], .func (.func 85) #[] #[], .func (.func 86) #[] #[], .func (.func 87) #[] #[]]) (.int .i64 5)).run Tryz.prog w = .ok (.func (.func 85) #[] #[]) w := fun _ => by kernel_rfl
  have n6 : ∀ w : World, (Instr.index 80 (.agg #[.func (.func 78) #[] #[], .func (.func 80) #[] #[], .func (.func 81) #[] #[], .func (.func 82) #[] #[], .func (.func 84) #[] #[], .func (.func 85) #[] #[], .func (.func 86) #[] #[], .func (.func 87) #[] #[]]) (.int .i64 6)).run Tryz.prog w = .ok (.func (.func 86) #[] #[]) w := fun _ => by kernel_rfl
  have n7 : ∀ w : World, (Instr.index 80 (.agg #[.func (.func 78) #[] #[], .func (.func 80) #[] #[], .func (.func 81) #[] #[], .func (.func 82) #[] #[], .func (.func 84) #[] #[], .func (.func 85) #[] #[], .func (.func 86) #[] #[], .func (.func 87) #[] #[]]) (.int .i64 7)).run Tryz.prog w = .ok (.func (.func 87) #[] #[]) w := fun _ => by kernel_rfl
  go_enter Tryz.func50, Tryz.ntmps50
  go_upto_region 2 with fail
  rw [← HW.out]
  have harr : ∀ i, W.cell? ⟨w.heap.size + 1, i, none⟩ = (#[Value.func (.func 78) #[] #[], .func (.func 80) #[] #[], .func (.func 81) #[] #[], .func (.func 82) #[] #[], .func (.func 84) #[] #[], .func (.func 85) #[] #[], .func (.func 86) #[] #[], .func (.func 87) #[] #[]] : Array Value)[i]? := fun i => by
    have h := box_at (w := w.alloc (.cells #[.int .u32 p.f, .int .i64 p.s, .int .u32 p.tn, .int .u32 p.tm, .int .u32 p.sn, .int .u32 p.sm, .int .u32 p.rn, .int .u32 p.rm, .int .u64 p.t, .int .u32 p.q, .int .u64 p.l] 59)) (Below.refl _ ((w.alloc (.cells #[.int .u32 p.f, .int .i64 p.s, .int .u32 p.tn, .int .u32 p.tm, .int .u32 p.sn, .int .u32 p.sm, .int .u32 p.rn, .int .u32 p.rm, .int .u64 p.t, .int .u32 p.q, .int .u64 p.l] 59)).alloc (.cells #[.func (.func 78) #[] #[], .func (.func 80) #[] #[], .func (.func 81) #[] #[], .func (.func 82) #[] #[], .func (.func 84) #[] #[], .func (.func 85) #[] #[], .func (.func 86) #[] #[], .func (.func 87) #[] #[]] 80))) i
    rw [← HW.out] at h
    simpa using h
  have a0 := harr 0
  have a1 := harr 1
  have a2 := harr 2
  have a3 := harr 3
  have a4 := harr 4
  have a5 := harr 5
  have a6 := harr 6
  have a7 := harr 7
  clear harr
  go_wp2_with fail
  clear a0 a1 a2 a3 a4 a5 a6 a7
  go_loopw [5, 9] (fun v i wr => ∃ k : Nat, k ≤ 8 ∧ i = .int .i64 k ∧ Hid (ListO W wr v ([i1, i2, i3, i4, i5, i6, i7, i8].take k))) (fun _ i _ => 8 - (intOf i).toNat)
  case atStart => exact ⟨0, by omega, rfl, HL0⟩
  case round =>
    obtain ⟨k, hk, rfl, HI⟩ := hrel
    have hkk : k = 0 ∨ k = 1 ∨ k = 2 ∨ k = 3 ∨ k = 4 ∨ k = 5 ∨ k = 6 ∨ k = 7 ∨ k = 8 := by omega
    obtain ⟨x0, x1, x2, x3, x4, x5, x6, x7, x8, x9, x10⟩ := HX.out wr HI.out.1
    rcases hkk with rfl | rfl | rfl | rfl | rfl | rfl | rfl | rfl | rfl
    · go_wp2_with fail
      refine (HP1.out wr).mono ?_
      rintro e w1 ⟨hb1, u, rfl, hx⟩
      obtain ⟨a5, c5, A5, C5, rfl⟩ := hx.form
      obtain ⟨v', w2, hrun, hlo⟩ := listO_one HI.out hb1 hx (by simp)
      have HRun := Lib.hid hrun
      have HLO := Lib.hid hlo
      clear hrun hlo hx hb1 x0 x1 x2 x3 x4 x5 x6 x7 x8 x9 x10
      go_wp2_with (at_builtin; refine wpList_run (by rfl) _ _ _ _ (by rfl) _ _ _ _ (by rfl) (by rfl) HRun.out ?_)
      go_roundw
      case rel => exact ⟨1, by omega, rfl, HLO⟩
      case measure => simp [intOf]
    · go_wp2_with fail
      refine (HP2.out wr).mono ?_
      rintro e w1 ⟨hb1, u, rfl, hx⟩
      obtain ⟨a5, c5, A5, C5, rfl⟩ := hx.form
      obtain ⟨v', w2, hrun, hlo⟩ := listO_one HI.out hb1 hx (by simp)
      have HRun := Lib.hid hrun
      have HLO := Lib.hid hlo
      clear hrun hlo hx hb1 x0 x1 x2 x3 x4 x5 x6 x7 x8 x9 x10
      go_wp2_with (at_builtin; refine wpList_run (by rfl) _ _ _ _ (by rfl) _ _ _ _ (by rfl) (by rfl) HRun.out ?_)
      go_roundw
      case rel => exact ⟨2, by omega, rfl, HLO⟩
      case measure => simp [intOf]
    · go_wp2_with fail
      refine (HP3.out wr).mono ?_
      rintro e w1 ⟨hb1, u, rfl, hx⟩
      obtain ⟨a5, c5, A5, C5, rfl⟩ := hx.form
      obtain ⟨v', w2, hrun, hlo⟩ := listO_one HI.out hb1 hx (by simp)
      have HRun := Lib.hid hrun
      have HLO := Lib.hid hlo
      clear hrun hlo hx hb1 x0 x1 x2 x3 x4 x5 x6 x7 x8 x9 x10
      go_wp2_with (at_builtin; refine wpList_run (by rfl) _ _ _ _ (by rfl) _ _ _ _ (by rfl) (by rfl) HRun.out ?_)
      go_roundw
      case rel => exact ⟨3, by omega, rfl, HLO⟩
      case measure => simp [intOf]
    · go_wp2_with fail
      refine (HP4.out wr).mono ?_
      rintro e w1 ⟨hb1, u, rfl, hx⟩
      obtain ⟨a5, c5, A5, C5, rfl⟩ := hx.form
      obtain ⟨v', w2, hrun, hlo⟩ := listO_one HI.out hb1 hx (by simp)
      have HRun := Lib.hid hrun
      have HLO := Lib.hid hlo
      clear hrun hlo hx hb1 x0 x1 x2 x3 x4 x5 x6 x7 x8 x9 x10
      go_wp2_with (at_builtin; refine wpList_run (by rfl) _ _ _ _ (by rfl) _ _ _ _ (by rfl) (by rfl) HRun.out ?_)
      go_roundw
      case rel => exact ⟨4, by omega, rfl, HLO⟩
      case measure => simp [intOf]
    · go_wp2_with fail
      refine (HP5.out wr).mono ?_
      rintro e w1 ⟨hb1, u, rfl, hx⟩
      obtain ⟨a5, c5, A5, C5, rfl⟩ := hx.form
      obtain ⟨v', w2, hrun, hlo⟩ := listO_one HI.out hb1 hx (by simp)
      have HRun := Lib.hid hrun
      have HLO := Lib.hid hlo
      clear hrun hlo hx hb1 x0 x1 x2 x3 x4 x5 x6 x7 x8 x9 x10
      go_wp2_with (at_builtin; refine wpList_run (by rfl) _ _ _ _ (by rfl) _ _ _ _ (by rfl) (by rfl) HRun.out ?_)
      go_roundw
      case rel => exact ⟨5, by omega, rfl, HLO⟩
      case measure => simp [intOf]
    · go_wp2_with fail
      refine (HP6.out wr).mono ?_
      rintro e w1 ⟨hb1, u, rfl, hx⟩
      obtain ⟨a5, c5, A5, C5, rfl⟩ := hx.form
      obtain ⟨v', w2, hrun, hlo⟩ := listO_one HI.out hb1 hx (by simp)
      have HRun := Lib.hid hrun
      have HLO := Lib.hid hlo
      clear hrun hlo hx hb1 x0 x1 x2 x3 x4 x5 x6 x7 x8 x9 x10
      go_wp2_with (at_builtin; refine wpList_run (by rfl) _ _ _ _ (by rfl) _ _ _ _ (by rfl) (by rfl) HRun.out ?_)
      go_roundw
      case rel => exact ⟨6, by omega, rfl, HLO⟩
      case measure => simp [intOf]
    · go_wp2_with fail
      refine (HP7.out wr).mono ?_
      rintro e w1 ⟨hb1, u, rfl, hx⟩
      obtain ⟨a5, c5, A5, C5, rfl⟩ := hx.form
      obtain ⟨v', w2, hrun, hlo⟩ := listO_one HI.out hb1 hx (by simp)
      have HRun := Lib.hid hrun
      have HLO := Lib.hid hlo
      clear hrun hlo hx hb1 x0 x1 x2 x3 x4 x5 x6 x7 x8 x9 x10
      go_wp2_with (at_builtin; refine wpList_run (by rfl) _ _ _ _ (by rfl) _ _ _ _ (by rfl) (by rfl) HRun.out ?_)
      go_roundw
      case rel => exact ⟨7, by omega, rfl, HLO⟩
      case measure => simp [intOf]
    · go_wp2_with fail
      refine (HP8.out wr).mono ?_
      rintro e w1 ⟨hb1, u, rfl, hx⟩
      obtain ⟨a5, c5, A5, C5, rfl⟩ := hx.form
      obtain ⟨v', w2, hrun, hlo⟩ := listO_one HI.out hb1 hx (by simp)
      have HRun := Lib.hid hrun
      have HLO := Lib.hid hlo
      clear hrun hlo hx hb1 x0 x1 x2 x3 x4 x5 x6 x7 x8 x9 x10
      go_wp2_with (at_builtin; refine wpList_run (by rfl) _ _ _ _ (by rfl) _ _ _ _ (by rfl) (by rfl) HRun.out ?_)
      go_roundw
      case rel => exact ⟨8, by omega, rfl, HLO⟩
      case measure => simp [intOf]
    · clear x0 x1 x2 x3 x4 x5 x6 x7 x8 x9 x10
      go_wp2_with fail
      go_ret
      exact ⟨_, rfl, HI.out.low HB0.out⟩

end Go.Proofs.YtlmdbeccfoncpaaGreatDoor
