/- The ways over flags, as bodies that own rows want them. -/
import Derived.Test.YtlmdbeccfoncpaaGreatDoorZPmM
import Derived.Test.YtlmdbeccfoncpaaGreatDoorZIterM
namespace Go.Proofs.YtlmdbeccfoncpaaGreatDoor
open Go Go.RowKit Go.Shelf
set_option linter.unusedSimpArgs false
set_option linter.unusedVariables false
set_option maxRecDepth 100000

attribute [local go_sem] Oper.semAt_some

set_option maxHeartbeats 2000000 in
theorem both_goesM (S : Nat → Prop) (w : World) (hSw : ∀ b, S b → b < w.heap.size) :
    GoesM 0 Tryz.prog 72 #[] (fun k => #[.int .u32 (flg k)]) S 2 w := by
  intro L J Jx W hW hJ hJx hY h0
  have hWS := hW.size
  obtain ⟨fn, tmps, assign, body, hy, hR⟩ := hY 0 W (by decide) h0 (Nat.le_refl _)
  have HY := Lib.hid hY
  simp only [flg, if_true] at hy
  clear hY
  refine (callsIn_wide (n := 10)).1 (callsIn_of_wp Tryz.func72 rfl trivial ?_ rfl)
  simp only [Tryz.ntmps72, List.size_toArray, List.length_cons, List.length_nil, Nat.reduceAdd, Nat.reduceSub, Array.replicate_succ, Array.replicate_zero, List.push_toArray, List.append_toArray, List.nil_append, List.cons_append]
  gi_wp2
  refine hR.mono ?_
  rintro e W3 (⟨rfl, hJ3, hz3, hk3⟩ | ⟨rfl, hJx3, _, _⟩)
  · obtain ⟨fn2, tmps2, assign2, body2, hy2, hR2⟩ := HY.out 1 W3 (by decide) hJ3 hz3
    clear hy hR
    simp only [flg, Nat.one_ne_zero, if_false] at hy2
    gi_wp2
    refine hR2.mono ?_
    rintro e W4 (⟨rfl, hJ4, hz4, hk4⟩ | ⟨rfl, hJx4, _, _⟩)
    · gi_wp2
      go_end0
      exact ⟨⟨_, rfl⟩, .inl hJ4⟩
    · gi_wp2
      go_end0
      exact ⟨⟨_, rfl⟩, .inr ⟨1, by decide, hJx4⟩⟩
  · clear hy
    gi_wp2
    refine ⟨(fun f h => nomatch h), ?_⟩
    gi_wp2
    go_end0
    exact ⟨⟨_, rfl⟩, .inr ⟨0, by decide, hJx3⟩⟩

set_option maxHeartbeats 8000000 in
theorem wants_goesM (p : Pm) (hf : p.f < 4294967296) (g : Nat) (S : Nat → Prop) (w : World) (hg : g < w.heap.size) (hSg : S g) (hSw0 : ∀ b, S b → b < w.heap.size) (hc : (w.cell? ⟨g, 0, none⟩ = some (.int .u32 p.f) ∧ w.cell? ⟨g, 1, none⟩ = some (.int .i64 p.s) ∧ w.cell? ⟨g, 2, none⟩ = some (.int .u32 p.tn) ∧ w.cell? ⟨g, 3, none⟩ = some (.int .u32 p.tm) ∧ w.cell? ⟨g, 4, none⟩ = some (.int .u32 p.sn) ∧ w.cell? ⟨g, 5, none⟩ = some (.int .u32 p.sm) ∧ w.cell? ⟨g, 6, none⟩ = some (.int .u32 p.rn) ∧ w.cell? ⟨g, 7, none⟩ = some (.int .u32 p.rm) ∧ w.cell? ⟨g, 8, none⟩ = some (.int .u64 p.t) ∧ w.cell? ⟨g, 9, none⟩ = some (.int .u32 p.q) ∧ w.cell? ⟨g, 10, none⟩ = some (.int .u64 p.l))) :
    GoesM 1 Tryz.prog 44 #[.pointer (some ⟨g, 0, none⟩)] (fun m => #[.int .u32 ((wantsL p.f)[m]?.getD 0 : Nat)]) S (wantsL p.f).length w := by
  intro L J Jx W hW hJ hJx hY h0
  have hWS := hW.size
  have hgW : g < W.heap.size := Nat.lt_of_lt_of_le hg hWS
  have hSw : ∀ b, S b → b < W.heap.size := fun b hb => Nat.lt_of_lt_of_le (hSw0 b hb) hWS
  have HCX : Hid (∀ X : World, X.heap[g]? = W.heap[g]? → (X.cell? ⟨g, 0, none⟩ = some (.int .u32 p.f) ∧ X.cell? ⟨g, 1, none⟩ = some (.int .i64 p.s) ∧ X.cell? ⟨g, 2, none⟩ = some (.int .u32 p.tn) ∧ X.cell? ⟨g, 3, none⟩ = some (.int .u32 p.tm) ∧ X.cell? ⟨g, 4, none⟩ = some (.int .u32 p.sn) ∧ X.cell? ⟨g, 5, none⟩ = some (.int .u32 p.sm) ∧ X.cell? ⟨g, 6, none⟩ = some (.int .u32 p.rn) ∧ X.cell? ⟨g, 7, none⟩ = some (.int .u32 p.rm) ∧ X.cell? ⟨g, 8, none⟩ = some (.int .u64 p.t) ∧ X.cell? ⟨g, 9, none⟩ = some (.int .u32 p.q) ∧ X.cell? ⟨g, 10, none⟩ = some (.int .u64 p.l))) := fun X h =>
    ⟨(World.cell?_of_block (a := ⟨g, 0, none⟩) h).trans ((hW.cell (p := ⟨g, 0, none⟩) hg).trans hc.1), (World.cell?_of_block (a := ⟨g, 1, none⟩) h).trans ((hW.cell (p := ⟨g, 1, none⟩) hg).trans hc.2.1), (World.cell?_of_block (a := ⟨g, 2, none⟩) h).trans ((hW.cell (p := ⟨g, 2, none⟩) hg).trans hc.2.2.1), (World.cell?_of_block (a := ⟨g, 3, none⟩) h).trans ((hW.cell (p := ⟨g, 3, none⟩) hg).trans hc.2.2.2.1), (World.cell?_of_block (a := ⟨g, 4, none⟩) h).trans ((hW.cell (p := ⟨g, 4, none⟩) hg).trans hc.2.2.2.2.1), (World.cell?_of_block (a := ⟨g, 5, none⟩) h).trans ((hW.cell (p := ⟨g, 5, none⟩) hg).trans hc.2.2.2.2.2.1), (World.cell?_of_block (a := ⟨g, 6, none⟩) h).trans ((hW.cell (p := ⟨g, 6, none⟩) hg).trans hc.2.2.2.2.2.2.1), (World.cell?_of_block (a := ⟨g, 7, none⟩) h).trans ((hW.cell (p := ⟨g, 7, none⟩) hg).trans hc.2.2.2.2.2.2.2.1), (World.cell?_of_block (a := ⟨g, 8, none⟩) h).trans ((hW.cell (p := ⟨g, 8, none⟩) hg).trans hc.2.2.2.2.2.2.2.2.1), (World.cell?_of_block (a := ⟨g, 9, none⟩) h).trans ((hW.cell (p := ⟨g, 9, none⟩) hg).trans hc.2.2.2.2.2.2.2.2.2.1), (World.cell?_of_block (a := ⟨g, 10, none⟩) h).trans ((hW.cell (p := ⟨g, 10, none⟩) hg).trans hc.2.2.2.2.2.2.2.2.2.2)⟩
  clear hc hW hSw0
  refine calls_of_marks Tryz.func44 rfl ?_
  simp only [Tryz.ntmps44, List.size_toArray, List.length_cons, List.length_nil, Nat.reduceAdd, Nat.reduceSub, Array.replicate_succ, Array.replicate_zero, List.push_toArray, List.append_toArray, List.nil_append, List.cons_append]
  go_wp2
  go_step3
  go_wp2
  go_step3
  go_wp2_with (go_at_call 43; refine (both_any _).mono ?_; rintro e w2 ⟨rfl, rfl⟩)
  have b1 : Boxed (W.alloc (.cells #[.func (.yield L) #[] #[]] 63)) W.heap.size 63 (.func (.yield L) #[] #[]) := Boxed.new W _ _
  obtain ⟨W2, hW2⟩ : ∃ W2, W2 = W.alloc (.cells #[.func (.yield L) #[] #[]] 63) := ⟨_, rfl⟩
  have hs2 : W2.heap.size = W.heap.size + 1 := by rw [hW2]; simp
  have HG0 : Hid (W2.heap[g]? = W.heap[g]?) := by rw [hW2]; exact Below.heap_alloc _ _ _ hgW
  rw [← hW2] at b1 ⊢
  have J0 : J 0 W2 := by rw [hW2]; exact hJ.alloc _ h0
  clear hW2 h0
  have hJO : OwnFrom W2.heap.size J := ownFrom_upW (B := W.heap.size) hJ (by omega)
  have hJxO : OwnFrom W2.heap.size Jx := ownFrom_upW (B := W.heap.size) hJx (by omega)
  have hIO : OwnFrom W2.heap.size (fun (k : Nat) X => J (cwN p.f k) X ∧ Boxed X W.heap.size 63 (.func (.yield L) #[] #[]) ∧ W2.heap.size ≤ X.heap.size ∧ X.heap[g]? = W.heap[g]?) :=
    OwnFrom.and (fun k X Y row hs hg hr => hJO (cwN p.f k) X Y row hs hg hr) (OwnFrom.and ((boxed_own _ _ _).from _) (OwnFrom.and (fun k X Y row hs hg hr => Nat.le_trans hs hg.size) (fun k X Y row hs hg' hr =>
      (hg'.block g (Array.getElem?_eq_some_iff.1 (hs.trans (Array.getElem?_eq_getElem hgW))).1 (fun e => by have := (hr g e.symm).1; omega)).trans hs)))
  refine wp_rangeGoesM_at (m := 0) (gf := 72) (lb := #[]) 3 (fun k => .int .u32 (flg k)) rfl (enters_of Tryz.func72 (by kernel_rfl) rfl)
    (both_goesM S W2 (fun b hb => by have := hSw b hb; omega)) (fun b hb => by have := hSw b hb; omega) _ (fun c k X => c = .exit 0 ∧ cwN p.f k < (wantsL p.f).length ∧ Jx (cwN p.f k) X)
    hIO (fun c => OwnFrom.and (ownFrom_pure _ (fun _ => c = .exit 0)) (OwnFrom.and (ownFrom_pure _ _) (fun k X Y row hs hg hr => hJxO (cwN p.f k) X Y row hs hg hr))) ⟨J0, b1, Nat.le_refl _, HG0.out⟩ ?assign ?body ?done ?stop
  case assign =>
    intro l k X K hK
    simp only [List.setIfInBounds_toArray, List.set_cons_succ, List.set_cons_zero] at hK ⊢
    have HK := Lib.hid hK
    clear hK
    gi_wp2
    exact HK.out
  case body =>
    rintro l k X hk hl _ _ ⟨hJk, hbx, hsz, hgb⟩
    have HJk := Lib.hid hJk
    have HBx := Lib.hid hbx
    have HGB := Lib.hid hgb
    clear hJk hbx hgb hIO J0 b1
    simp only [List.setIfInBounds_toArray, List.set_cons_succ, List.set_cons_zero]
    have hk2 : k = 0 ∨ k = 1 := by omega
    rcases hk2 with rfl | rfl
    · rw [show flg 0 = 2 from rfl]
      have HT : Hid (hasB p.f 2 = true → cwN p.f 0 < (wantsL p.f).length ∧ (wantsL p.f)[cwN p.f 0]?.getD 0 = 2 ∧ cwN p.f 1 = cwN p.f 0 + 1) := cwN_yes0 p.f
      have HF : Hid (hasB p.f 2 = false → cwN p.f 1 = cwN p.f 0) := cwN_no0 p.f
      have HC : Hid (Calls Tryz.prog 16 #[.agg #[.int .u32 p.f, .int .i64 p.s, .int .u32 p.tn, .int .u32 p.tm, .int .u32 p.sn, .int .u32 p.sm, .int .u32 p.rn, .int .u32 p.rm, .int .u64 p.t, .int .u32 p.q, .int .u64 p.l], .int .u32 2] X fun e w' => e = .returned (.bool (hasB p.f 2)) ∧ Below X.heap.size X w') := has_any p 2 hf (by omega) X
      generalize hasB p.f 2 = q at *
      obtain ⟨x0, x1, x2, x3, x4, x5, x6, x7, x8, x9, x10⟩ := HCX.out X HGB.out
      gi_wp2
      refine ⟨trivial, ?_⟩
      refine (CallsIn.inRound l (callsIn_wide.2 HC.out)).mono ?_
      rintro e w1 ⟨rfl, hb⟩
      have HB := Lib.hid hb
      have HG1 : Hid (X.grownBy w1 none) := ⟨hb.os, hb.tape, hb.output, hb.size, fun k hk _ => hb.block k hk⟩
      have HJ1 : Hid (J (cwN p.f 0) w1) := hJO _ X w1 none HJk.out HG1.out (fun r e => by cases e)
      have HBX1 : Hid (Boxed w1 W.heap.size 63 (.func (.yield L) #[] #[])) := boxed_below HBx.out hb (by omega)
      have HGB1 : Hid (w1.heap[g]? = W.heap[g]?) := (hb.block g (by omega)).trans HGB.out
      have hyc := HBX1.out.cell
      have hsz1 := hb.size
      clear hb x0 x1 x2 x3 x4 x5 x6 x7 x8 x9 x10
      cases q
      · have HE := Lib.hid (HF.out rfl)
        clear HT HF hyc
        gi_wp2
        refine ⟨⟨HB.out.size, fun i o' hi ho _ => (HB.out.block i (Array.getElem?_eq_some_iff.1 ho).1).trans ho⟩, fun b hb => ?_, ?_, HBX1.out, by omega, HGB1.out⟩
        · rcases hb with hb | hb
          · exact HB.out.block b (by have := hSw b hb; omega)
          · exact HB.out.block b hb.2.2
        · show J (cwN p.f 1) w1
          rw [HE.out]
          exact HJ1.out
      · obtain ⟨hlt, hat, hst⟩ := HT.out rfl
        have HLT := Lib.hid hlt
        have HE := Lib.hid hst
        obtain ⟨fn, tmps, assign, body, hy, hR⟩ := hY (cwN p.f 0) w1 hlt HJ1.out (by omega)
        rw [hat] at hy
        replace hy : (Instr.yield L #[.int .u32 2]).run Tryz.prog w1 = .ok (.round L fn tmps assign body) w1 := hy
        clear hat hlt hst HT HF
        gi_wp2
        refine (roundIn_any hR).mono ?_
        rintro e X3 (⟨rfl, hJ3, hz3, hkf3, hk3⟩ | ⟨rfl, hJx3, hz3, hkf3, hk3⟩)
        · have HK3 := Lib.hid hk3
          have HKF3 := Lib.hid hkf3
          have HBX3 : Hid (Boxed X3 W.heap.size 63 (.func (.yield L) #[] #[])) := (hk3 W.heap.size (.inr ⟨Nat.le_refl _, by omega, by omega⟩)).trans HBX1.out
          have HGB3 : Hid (X3.heap[g]? = W.heap[g]?) := (hk3 g (.inl hSg)).trans HGB1.out
          clear hk3 hkf3 hyc
          gi_wp2
          refine ⟨⟨by omega, fun i o' hi ho hnc => ?_⟩, fun b hb => ?_, ?_, HBX3.out, by omega, HGB3.out⟩
          · have hlt := (Array.getElem?_eq_some_iff.1 ho).1
            exact HKF3.out.same i o' (by omega) ((HB.out.block i hlt).trans ho) hnc
          · rcases hb with hb | hb
            · exact (HK3.out b (.inl hb)).trans (HB.out.block b (by have := hSw b hb; omega))
            · exact absurd hb.2.1 (by have := hb.1; omega)
          · show J (cwN p.f 1) X3
            rw [HE.out]
            exact hJ3
        · have HK3 := Lib.hid hk3
          have HKF3 := Lib.hid hkf3
          clear hk3 hkf3 hyc
          gi_wp2
          refine ⟨⟨⟨by omega, fun i o' hi ho hnc => ?_⟩, fun b hb => ?_⟩, rfl, HLT.out, hJx3⟩
          · have hlt := (Array.getElem?_eq_some_iff.1 ho).1
            exact HKF3.out.same i o' (by omega) ((HB.out.block i hlt).trans ho) hnc
          · rcases hb with hb | hb
            · exact (HK3.out b (.inl hb)).trans (HB.out.block b (by have := hSw b hb; omega))
            · exact absurd hb.2.1 (by have := hb.1; omega)
    · rw [show flg 1 = 32 from rfl]
      have HT : Hid (hasB p.f 32 = true → cwN p.f 1 < (wantsL p.f).length ∧ (wantsL p.f)[cwN p.f 1]?.getD 0 = 32 ∧ cwN p.f 2 = cwN p.f 1 + 1) := cwN_yes1 p.f
      have HF : Hid (hasB p.f 32 = false → cwN p.f 2 = cwN p.f 1) := cwN_no1 p.f
      have HC : Hid (Calls Tryz.prog 16 #[.agg #[.int .u32 p.f, .int .i64 p.s, .int .u32 p.tn, .int .u32 p.tm, .int .u32 p.sn, .int .u32 p.sm, .int .u32 p.rn, .int .u32 p.rm, .int .u64 p.t, .int .u32 p.q, .int .u64 p.l], .int .u32 32] X fun e w' => e = .returned (.bool (hasB p.f 32)) ∧ Below X.heap.size X w') := has_any p 32 hf (by omega) X
      generalize hasB p.f 32 = q at *
      obtain ⟨x0, x1, x2, x3, x4, x5, x6, x7, x8, x9, x10⟩ := HCX.out X HGB.out
      gi_wp2
      refine ⟨trivial, ?_⟩
      refine (CallsIn.inRound l (callsIn_wide.2 HC.out)).mono ?_
      rintro e w1 ⟨rfl, hb⟩
      have HB := Lib.hid hb
      have HG1 : Hid (X.grownBy w1 none) := ⟨hb.os, hb.tape, hb.output, hb.size, fun k hk _ => hb.block k hk⟩
      have HJ1 : Hid (J (cwN p.f 1) w1) := hJO _ X w1 none HJk.out HG1.out (fun r e => by cases e)
      have HBX1 : Hid (Boxed w1 W.heap.size 63 (.func (.yield L) #[] #[])) := boxed_below HBx.out hb (by omega)
      have HGB1 : Hid (w1.heap[g]? = W.heap[g]?) := (hb.block g (by omega)).trans HGB.out
      have hyc := HBX1.out.cell
      have hsz1 := hb.size
      clear hb x0 x1 x2 x3 x4 x5 x6 x7 x8 x9 x10
      cases q
      · have HE := Lib.hid (HF.out rfl)
        clear HT HF hyc
        gi_wp2
        refine ⟨⟨HB.out.size, fun i o' hi ho _ => (HB.out.block i (Array.getElem?_eq_some_iff.1 ho).1).trans ho⟩, fun b hb => ?_, ?_, HBX1.out, by omega, HGB1.out⟩
        · rcases hb with hb | hb
          · exact HB.out.block b (by have := hSw b hb; omega)
          · exact HB.out.block b hb.2.2
        · show J (cwN p.f 2) w1
          rw [HE.out]
          exact HJ1.out
      · obtain ⟨hlt, hat, hst⟩ := HT.out rfl
        have HLT := Lib.hid hlt
        have HE := Lib.hid hst
        obtain ⟨fn, tmps, assign, body, hy, hR⟩ := hY (cwN p.f 1) w1 hlt HJ1.out (by omega)
        rw [hat] at hy
        replace hy : (Instr.yield L #[.int .u32 32]).run Tryz.prog w1 = .ok (.round L fn tmps assign body) w1 := hy
        clear hat hlt hst HT HF
        gi_wp2
        refine (roundIn_any hR).mono ?_
        rintro e X3 (⟨rfl, hJ3, hz3, hkf3, hk3⟩ | ⟨rfl, hJx3, hz3, hkf3, hk3⟩)
        · have HK3 := Lib.hid hk3
          have HKF3 := Lib.hid hkf3
          have HBX3 : Hid (Boxed X3 W.heap.size 63 (.func (.yield L) #[] #[])) := (hk3 W.heap.size (.inr ⟨Nat.le_refl _, by omega, by omega⟩)).trans HBX1.out
          have HGB3 : Hid (X3.heap[g]? = W.heap[g]?) := (hk3 g (.inl hSg)).trans HGB1.out
          clear hk3 hkf3 hyc
          gi_wp2
          refine ⟨⟨by omega, fun i o' hi ho hnc => ?_⟩, fun b hb => ?_, ?_, HBX3.out, by omega, HGB3.out⟩
          · have hlt := (Array.getElem?_eq_some_iff.1 ho).1
            exact HKF3.out.same i o' (by omega) ((HB.out.block i hlt).trans ho) hnc
          · rcases hb with hb | hb
            · exact (HK3.out b (.inl hb)).trans (HB.out.block b (by have := hSw b hb; omega))
            · exact absurd hb.2.1 (by have := hb.1; omega)
          · show J (cwN p.f 2) X3
            rw [HE.out]
            exact hJ3
        · have HK3 := Lib.hid hk3
          have HKF3 := Lib.hid hkf3
          clear hk3 hkf3 hyc
          gi_wp2
          refine ⟨⟨⟨by omega, fun i o' hi ho hnc => ?_⟩, fun b hb => ?_⟩, rfl, HLT.out, hJx3⟩
          · have hlt := (Array.getElem?_eq_some_iff.1 ho).1
            exact HKF3.out.same i o' (by omega) ((HB.out.block i hlt).trans ho) hnc
          · rcases hb with hb | hb
            · exact (HK3.out b (.inl hb)).trans (HB.out.block b (by have := hSw b hb; omega))
            · exact absurd hb.2.1 (by have := hb.1; omega)
  case done =>
    rintro D X hD ⟨hJk, hbx, hsz, hgb⟩ hK
    rw [cwN_all] at hJk
    have HJk := Lib.hid hJk
    clear hJk hbx hgb hIO
    go_wp2
    refine marks_one hK (results_none rfl _ _ _) ?_
    exact ⟨⟨_, rfl⟩, .inl (hJO.putObj _ HJk.out (by omega) hK rfl)⟩
  case stop =>
    rintro D c k X hD hk ⟨rfl, hlt, hJx3⟩ hK
    have HJx := Lib.hid hJx3
    clear hJx3 hIO
    go_wp2
    refine marks_one hK (results_none rfl _ _ _) ?_
    exact ⟨⟨_, rfl⟩, .inr ⟨_, hlt, hJxO.putObj _ HJx.out (by omega) hK rfl⟩⟩

end Go.Proofs.YtlmdbeccfoncpaaGreatDoor
