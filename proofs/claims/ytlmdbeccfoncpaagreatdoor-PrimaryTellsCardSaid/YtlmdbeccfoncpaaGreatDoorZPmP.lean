/- The law of what a primary tells, walked. -/
import Derived.Test.YtlmdbeccfoncpaaGreatDoorZPmO
import Derived.BigQuiet
import Derived.Test.YtlmdbeccfoncpaaGreatDoorZPmN
import Derived.Test.YtlmdbeccfoncpaaGreatDoorZPmMM
import Derived.Test.YtlmdbeccfoncpaaGreatDoorZPmJ
namespace Go.Proofs.YtlmdbeccfoncpaaGreatDoor
open Go Go.RowKit Go.Shelf
set_option linter.unusedSimpArgs false
set_option linter.unusedVariables false
set_option maxRecDepth 100000

attribute [local go_sem high] eqN6_run
attribute [local go_sem] Oper.semAt_some

set_option maxHeartbeats 16000000 in
theorem walk_tells (p : Pm) (hp : p.ok) (r : Int) (a : Option Addr) (c : Nat) (zs : List Nat) (w : World) (hz : ∀ x ∈ zs, x < 4294967296) (hr : RdU3 w w.heap.size a zs) (hlen : zs.length ≤ 140737488355328) (ht : TabW w) :
    Calls Tryz.prog 4 #[.agg #[.int .u32 p.f, .int .i64 p.s, .int .u32 p.tn, .int .u32 p.tm, .int .u32 p.sn, .int .u32 p.sm, .int .u32 p.rn, .int .u32 p.rm, .int .u64 p.t, .int .u32 p.q, .int .u64 p.l], .int .i64 r, .slice a zs.length c] w fun e w' => e = .returned (.bool true) ∧ Below w.heap.size w w' := by
  obtain ⟨W, hW⟩ : ∃ W, W = ((w.alloc (.cells #[.int .u32 p.f, .int .i64 p.s, .int .u32 p.tn, .int .u32 p.tm, .int .u32 p.sn, .int .u32 p.sm, .int .u32 p.rn, .int .u32 p.rm, .int .u64 p.t, .int .u32 p.q, .int .u64 p.l] 28)).alloc (.cells #[.bool false] 4)) := ⟨_, rfl⟩
  have HS0 : Hid (W.heap.size = w.heap.size + 2) := by rw [hW]; simp [Hid]
  have HB0 : Hid (Below w.heap.size w W) := by rw [hW]; exact below_al (below_al (Below.refl _ _) _) _
  have HX : Hid (∀ w', Below (w.heap.size + 1) W w' → (w'.cell? ⟨w.heap.size, 0, none⟩ = some (.int .u32 p.f) ∧ w'.cell? ⟨w.heap.size, 1, none⟩ = some (.int .i64 p.s) ∧ w'.cell? ⟨w.heap.size, 2, none⟩ = some (.int .u32 p.tn) ∧ w'.cell? ⟨w.heap.size, 3, none⟩ = some (.int .u32 p.tm) ∧ w'.cell? ⟨w.heap.size, 4, none⟩ = some (.int .u32 p.sn) ∧ w'.cell? ⟨w.heap.size, 5, none⟩ = some (.int .u32 p.sm) ∧ w'.cell? ⟨w.heap.size, 6, none⟩ = some (.int .u32 p.rn) ∧ w'.cell? ⟨w.heap.size, 7, none⟩ = some (.int .u32 p.rm) ∧ w'.cell? ⟨w.heap.size, 8, none⟩ = some (.int .u64 p.t) ∧ w'.cell? ⟨w.heap.size, 9, none⟩ = some (.int .u32 p.q) ∧ w'.cell? ⟨w.heap.size, 10, none⟩ = some (.int .u64 p.l))) := fun w' h => by
    have hz : (w.alloc (.cells #[.int .u32 p.f, .int .i64 p.s, .int .u32 p.tn, .int .u32 p.tm, .int .u32 p.sn, .int .u32 p.sm, .int .u32 p.rn, .int .u32 p.rm, .int .u64 p.t, .int .u32 p.q, .int .u64 p.l] 28)).heap.size = w.heap.size + 1 := by simp
    have h1 : Below (w.heap.size + 1) (w.alloc (.cells #[.int .u32 p.f, .int .i64 p.s, .int .u32 p.tn, .int .u32 p.tm, .int .u32 p.sn, .int .u32 p.sm, .int .u32 p.rn, .int .u32 p.rm, .int .u64 p.t, .int .u32 p.q, .int .u64 p.l] 28)) w' := by
      rw [hW] at h
      have h9 := below_al (Below.refl _ (w.alloc (.cells #[.int .u32 p.f, .int .i64 p.s, .int .u32 p.tn, .int .u32 p.tm, .int .u32 p.sn, .int .u32 p.sm, .int .u32 p.rn, .int .u32 p.rm, .int .u64 p.t, .int .u32 p.q, .int .u64 p.l] 28))) (.cells #[.bool false] 4)
      rw [hz] at h9
      exact h9.trans h
    exact pbox (by rw [hz]; exact h1)
  have HBR : Hid (Boxed W (w.heap.size + 1) 4 (.bool false)) := by
    have h := Boxed.new (w.alloc (.cells #[.int .u32 p.f, .int .i64 p.s, .int .u32 p.tn, .int .u32 p.tm, .int .u32 p.sn, .int .u32 p.sm, .int .u32 p.rn, .int .u32 p.rm, .int .u64 p.t, .int .u32 p.q, .int .u64 p.l] 28)) 4 (.bool false)
    rw [← hW] at h
    simpa [Hid] using h
  have HR : Hid (∀ w', Below w.heap.size w w' → RdU3 w' w'.heap.size a zs) := fun w' h => (hr.below h).mono h.size
  have HT : Hid (∀ w', Below w.heap.size w w' → TabW w') := fun w' h => ht.on h
  have HWK := Lib.hid (fun w h => prWorks_any w h)
  have HNM := Lib.hid (fun w => name6_any p hp w)
  have HRN := Lib.hid (fun w => refName_any6 p w)
  have HRG := Lib.hid (fun w => refRightName6_any p w)
  have HNU := Lib.hid (fun x w => num6_any x w)
  have HW := Lib.hid hW
  clear hW ht hr
  refine calls_of_marks Tryz.func4 rfl ?_
  simp only [Tryz.ntmps4, List.size_toArray, List.length_cons, List.length_nil, Nat.reduceAdd, Nat.reduceSub, Array.replicate_succ, Array.replicate_zero, List.push_toArray, List.append_toArray, List.nil_append, List.cons_append]
  by_cases h30 : 30 < zs.length
  · have h30' : decide ((30 : Int) < (zs.length : Int)) = true := by simp; omega
    clear h30 hlen
    go_wp2_with fail
    rw [← HW.out]
    refine (HWK.out W (HT.out W HB0.out)).mono ?_
    rintro e w1 ⟨rfl, hb⟩
    have HB1 := Lib.hid hb
    have hbr : Boxed w1 (w.heap.size + 1) 4 (.bool false) := boxed_below HBR.out hb (by have := HS0.out; omega)
    have HBR1 := Lib.hid hbr
    have z0 := hbr.cell
    have zf := hbr.frozen
    clear hb hbr
    go_wp2_with fail
    refine marks_none (v := .bool true) (by simp [results, Tryz.results4, go_sem, (HBR1.out.set (.bool true)).cell]) ⟨rfl, ?_⟩
    exact ((below_on HB0.out HB1.out).setCell (p := ⟨w.heap.size + 1, 0, none⟩) (by simp) _)
  have h30' : decide ((30 : Int) < (zs.length : Int)) = false := by simp; omega
  have HL : Hid (zs.length ≤ 30) := by simp only [Hid]; omega
  clear h30 hlen
  go_wp2_with fail
  rw [← HW.out]
  refine (HNM.out W).mono ?_
  rintro e w1 ⟨hb, v0, v1, v2, v3, er, rfl, hyes, hno⟩
  have HY := Lib.hid hyes
  have HNO := Lib.hid hno
  have HB1 := Lib.hid hb
  have hx1 := HX.out w1 (hb.mono (by have := HS0.out; omega))
  obtain ⟨x0, x1, x2, x3, x4, x5, x6, x7, x8, x9, x10⟩ := hx1
  clear hb hyes hno
  go_upto_region 4 with fail
  obtain ⟨W1, hW1⟩ : ∃ W1, W1 = w1.alloc (.cells #[.int .u32 v0, .int .u32 v1, .int .u64 v2, .int .u32 v3] 42) := ⟨_, rfl⟩
  have HBW1 : Hid (Below w1.heap.size w1 W1) := by rw [hW1]; exact below_al (Below.refl _ _) _
  obtain ⟨xx0, xx1, xx2, xx3, xx4, xx5, xx6, xx7, xx8, xx9, xx10⟩ := HX.out W1 ((below_on HB1.out HBW1.out).mono (by have := HS0.out; omega))
  clear x0 x1 x2 x3 x4 x5 x6 x7 x8 x9 x10
  have HW1 := Lib.hid hW1
  rw [← hW1]
  clear hW1
  go_wp2_with fail
  refine (HRN.out _).mono ?_
  rintro e w2 ⟨rfl, hb⟩
  have HB2 := Lib.hid (below_on HBW1.out hb)
  rw [HW1.out] at hb
  have hn2 := fun i => box_at (w := w1) hb i
  have hn20 := hn2 0
  have hn21 := hn2 1
  have hn22 := hn2 2
  have hn23 := hn2 3
  simp at hn20 hn21 hn22 hn23
  have HN2 := Lib.hid (show w2.cell? ⟨w1.heap.size, 0, none⟩ = some (.int .u32 v0) ∧ w2.cell? ⟨w1.heap.size, 1, none⟩ = some (.int .u32 v1) ∧ w2.cell? ⟨w1.heap.size, 2, none⟩ = some (.int .u64 v2) ∧ w2.cell? ⟨w1.heap.size, 3, none⟩ = some (.int .u32 v3) from ⟨hn20, hn21, hn22, hn23⟩)
  clear hb hn2 hn20 hn21 hn22 hn23 xx0 xx1 xx2 xx3 xx4 xx5 xx6 xx7 xx8 xx9 xx10
  go_wp2_with fail
  refine (HRG.out _).mono ?_
  rintro e w3 ⟨rfl, hb⟩
  have HB3 := Lib.hid (below_on (below_al (Below.refl _ _) _) hb)
  have hn2 := fun i => box_at (w := w2) hb i
  have hn20 := hn2 0
  have hn21 := hn2 1
  have hn22 := hn2 2
  have hn23 := hn2 3
  simp at hn20 hn21 hn22 hn23
  have hlt : w1.heap.size < w2.heap.size := World.block_lt_of_cell? _ _ HN2.out.1
  obtain ⟨m0, m1, m2, m3⟩ := HN2.out
  have k0 := (HB3.out.cell (p := ⟨w1.heap.size, 0, none⟩) hlt).trans m0
  have k1 := (HB3.out.cell (p := ⟨w1.heap.size, 1, none⟩) hlt).trans m1
  have k2 := (HB3.out.cell (p := ⟨w1.heap.size, 2, none⟩) hlt).trans m2
  have k3 := (HB3.out.cell (p := ⟨w1.heap.size, 3, none⟩) hlt).trans m3
  have HBW3 : Hid (Below W.heap.size W w3) := below_on (below_on HB1.out HB2.out) HB3.out
  clear hb hn2 m0 m1 m2 m3 hlt HN2
  go_upto_if 29 with fail
  go_cut [] from 28 to 45 (fun wx => w3 = wx)
  case first =>
    cases hq : nmOk p
    · obtain ⟨rfl, rfl, rfl, rfl, rfl⟩ := HNO.out hq
      clear hq
      go_wp2_with fail
      refine (HNU.out 2 _).mono ?_
      rintro e w4 ⟨rfl, h4⟩
      rw [← h4]
      clear h4 w4
      go_wp2_with fail
      go_meet
      case rel => exact rfl
    · obtain ⟨rfl, rfl, rfl, rfl, rfl⟩ := HY.out hq
      clear hq
      go_wp2_with fail
      refine (HNU.out 0 _).mono ?_
      rintro e w4 ⟨rfl, h4⟩
      rw [← h4]
      clear h4 w4
      go_wp2_with fail
      go_meet
      case rel => exact rfl
  case rest =>
  obtain rfl := hcut
  clear k0 k1 k2 k3 hn20 hn21 hn22 hn23
  have HHS : Hid (∀ (x : Nat) w, x < 4294967296 → Calls Tryz.prog 16 #[.agg #[.int .u32 p.f, .int .i64 p.s, .int .u32 p.tn, .int .u32 p.tm, .int .u32 p.sn, .int .u32 p.sm, .int .u32 p.rn, .int .u32 p.rm, .int .u64 p.t, .int .u32 p.q, .int .u64 p.l], .int .u32 x] w fun e w' => e = .returned (.bool (hasB p.f x)) ∧ Below w.heap.size w w') := fun x w h => has_any p x (by have := hp.f; omega) h w
  have HRH : Hid (∀ (x : Nat) w, x < 4294967296 → Calls Tryz.prog 17 #[.agg #[.int .u32 p.f, .int .i64 p.s, .int .u32 p.tn, .int .u32 p.tm, .int .u32 p.sn, .int .u32 p.sm, .int .u32 p.rn, .int .u32 p.rm, .int .u64 p.t, .int .u32 p.q, .int .u64 p.l], .int .u32 x] w fun e w' => e = .returned (.bool (hasB p.f x)) ∧ Below w.heap.size w w') := fun x w h => refHas_any p p.f x rfl (by have := hp.f; omega) h w
  have HZ := Lib.hid hz
  clear hz
  go_wp2_with fail
  go_loopw [10] (fun i wr => ∃ k : Nat, k ≤ zs.length ∧ i = .int .i64 k ∧ Hid (Below W.heap.size W wr)) (fun i _ => zs.length - (intOf i).toNat)
  case atStart => exact ⟨0, Nat.zero_le _, rfl, HBW3.out⟩
  case round =>
    obtain ⟨k, hk, rfl, HI⟩ := hrel
    have hL30 := HL.out
    by_cases hlt : k < zs.length
    · obtain ⟨g, o, rfl, hg, hc0⟩ := (HR.out W HB0.out).at k hlt
      have hxl : zs[k]?.getD 0 < 4294967296 := by
        rw [List.getElem?_eq_getElem hlt]
        exact HZ.out _ (List.getElem_mem hlt)
      generalize zs[k]?.getD 0 = x at *
      have HELD : Hid (∀ w', Below W.heap.size W w' → (w'.cell? ⟨w.heap.size, 0, none⟩ = some (.int .u32 p.f) ∧ w'.cell? ⟨w.heap.size, 1, none⟩ = some (.int .i64 p.s) ∧ w'.cell? ⟨w.heap.size, 2, none⟩ = some (.int .u32 p.tn) ∧ w'.cell? ⟨w.heap.size, 3, none⟩ = some (.int .u32 p.tm) ∧ w'.cell? ⟨w.heap.size, 4, none⟩ = some (.int .u32 p.sn) ∧ w'.cell? ⟨w.heap.size, 5, none⟩ = some (.int .u32 p.sm) ∧ w'.cell? ⟨w.heap.size, 6, none⟩ = some (.int .u32 p.rn) ∧ w'.cell? ⟨w.heap.size, 7, none⟩ = some (.int .u32 p.rm) ∧ w'.cell? ⟨w.heap.size, 8, none⟩ = some (.int .u64 p.t) ∧ w'.cell? ⟨w.heap.size, 9, none⟩ = some (.int .u32 p.q) ∧ w'.cell? ⟨w.heap.size, 10, none⟩ = some (.int .u64 p.l)) ∧ w'.cell? ⟨g, o + k, none⟩ = some (.int .u32 x)) := fun w' h => ⟨HX.out w' (h.mono (by have := HS0.out; omega)), (h.cell (p := ⟨g, o + k, none⟩) hg).trans hc0⟩
      have HA : Hid (∀ w, Calls Tryz.prog 16 #[.agg #[.int .u32 p.f, .int .i64 p.s, .int .u32 p.tn, .int .u32 p.tm, .int .u32 p.sn, .int .u32 p.sm, .int .u32 p.rn, .int .u32 p.rm, .int .u64 p.t, .int .u32 p.q, .int .u64 p.l], .int .u32 x] w fun e w' => e = .returned (.bool (hasB p.f x)) ∧ Below w.heap.size w w') := fun w => HHS.out x w hxl
      have HBq : Hid (∀ w, Calls Tryz.prog 17 #[.agg #[.int .u32 p.f, .int .i64 p.s, .int .u32 p.tn, .int .u32 p.tm, .int .u32 p.sn, .int .u32 p.sm, .int .u32 p.rn, .int .u32 p.rm, .int .u64 p.t, .int .u32 p.q, .int .u64 p.l], .int .u32 x] w fun e w' => e = .returned (.bool (hasB p.f x)) ∧ Below w.heap.size w w') := fun w => HRH.out x w hxl
      generalize hasB p.f x = q at HA HBq
      have F0 : Below W.heap.size W wr.drew := HI.out.drew
      clear hc0 hxl
      go_wp2_with fail
      go_region_held3 (fun w' => (w'.cell? ⟨w.heap.size, 0, none⟩ = some (.int .u32 p.f) ∧ w'.cell? ⟨w.heap.size, 1, none⟩ = some (.int .i64 p.s) ∧ w'.cell? ⟨w.heap.size, 2, none⟩ = some (.int .u32 p.tn) ∧ w'.cell? ⟨w.heap.size, 3, none⟩ = some (.int .u32 p.tm) ∧ w'.cell? ⟨w.heap.size, 4, none⟩ = some (.int .u32 p.sn) ∧ w'.cell? ⟨w.heap.size, 5, none⟩ = some (.int .u32 p.sm) ∧ w'.cell? ⟨w.heap.size, 6, none⟩ = some (.int .u32 p.rn) ∧ w'.cell? ⟨w.heap.size, 7, none⟩ = some (.int .u32 p.rm) ∧ w'.cell? ⟨w.heap.size, 8, none⟩ = some (.int .u64 p.t) ∧ w'.cell? ⟨w.heap.size, 9, none⟩ = some (.int .u32 p.q) ∧ w'.cell? ⟨w.heap.size, 10, none⟩ = some (.int .u64 p.l)) ∧ w'.cell? ⟨g, o + k, none⟩ = some (.int .u32 x))
        (first | (refine HELD.out _ ?_; with_reducible exact F2) | (refine HELD.out _ ?_; with_reducible exact F1) | (refine HELD.out _ ?_; with_reducible exact F0))
        (first
          | (go_at_call 16; (with_reducible refine (HA.out _).mono ?_); rintro e w4 ⟨rfl, hb4⟩; have F1 : Below W.heap.size W w4 := below_on F0 hb4)
          | (go_at_call 17; (with_reducible refine (HBq.out _).mono ?_); rintro e w5 ⟨rfl, hb5⟩; have F2 : Below W.heap.size W w5 := below_on F1 hb5))
      go_wp2_with fail
      go_roundw
      case rel => exact ⟨k + 1, by omega, by go_num, F2⟩
      case measure => simp [intOf]; omega
    · obtain rfl : k = zs.length := by omega
      clear hL30
      go_upto_region 16 with fail
      obtain ⟨X1, hX1⟩ : ∃ X1, X1 = wr.alloc (.cells #[.slice none 0 0] 40) := ⟨_, rfl⟩
      have HBX1 : Hid (Below W.heap.size W X1) := by rw [hX1]; exact below_al HI.out _
      have HAB : Hid (Boxed X1 wr.heap.size 40 (.slice none 0 0)) := by rw [hX1]; exact Boxed.new _ _ _
      have HWR : Hid (W.heap.size ≤ wr.heap.size) := HI.out.size
      have HSX : Hid (X1.heap.size = wr.heap.size + 1) := by rw [hX1]; simp [Hid]
      rw [← hX1]
      clear hX1
      obtain ⟨x0, x1, x2, x3, x4, x5, x6, x7, x8, x9, x10⟩ := HX.out X1 (HBX1.out.mono (by have := HS0.out; omega))
      have HWT := Lib.hid (fun w => wants_any p w)
      go_wp2_with fail
      have hnil : ∀ (w : World) (g : Nat), (binOp .eql 49 (.func (.func 44) #[] #[.pointer (some ⟨g, 0, none⟩)]) .nilFunc).run Tryz.prog w = .ok (.bool false) w := fun w g => eql_func_nil w _ _ _ _ _ _ _ Tryz.underlying49
      refine (HWT.out X1).mono ?_
      rintro e X2 ⟨rfl, hX2⟩
      have HBX2 : Hid (Below W.heap.size W X2) := by rw [hX2]; exact below_al HBX1.out _
      have HAB2 : Hid (Boxed X2 wr.heap.size 40 (.slice none 0 0)) := by rw [hX2]; exact HAB.out.alloc _
      have HS2 : Hid (X2.heap.size = wr.heap.size + 2) := by have h := HSX.out; simp only [Hid, hX2, World.size_alloc]; omega
      clear hX2 x0 x1 x2 x3 x4 x5 x6 x7 x8 x9 x10
      obtain ⟨x0, x1, x2, x3, x4, x5, x6, x7, x8, x9, x10⟩ := HX.out X2 (HBX2.out.mono (by have := HS0.out; omega))
      go_wp2_with fail
      refine (HWT.out X2).mono ?_
      rintro e X3 ⟨rfl, hX3⟩
      have HBX3 : Hid (Below W.heap.size W X3) := by rw [hX3]; exact below_al HBX2.out _
      have HAB3 : Hid (Boxed X3 wr.heap.size 40 (.slice none 0 0)) := by rw [hX3]; exact HAB2.out.alloc _
      have HS3 : Hid (X3.heap.size = X2.heap.size + 1) := by simp only [Hid, hX3, World.size_alloc]
      have HC3 : Hid ((X3.cell? ⟨X2.heap.size, 0, none⟩ = some (.int .u32 p.f) ∧ X3.cell? ⟨X2.heap.size, 1, none⟩ = some (.int .i64 p.s) ∧ X3.cell? ⟨X2.heap.size, 2, none⟩ = some (.int .u32 p.tn) ∧ X3.cell? ⟨X2.heap.size, 3, none⟩ = some (.int .u32 p.tm) ∧ X3.cell? ⟨X2.heap.size, 4, none⟩ = some (.int .u32 p.sn) ∧ X3.cell? ⟨X2.heap.size, 5, none⟩ = some (.int .u32 p.sm) ∧ X3.cell? ⟨X2.heap.size, 6, none⟩ = some (.int .u32 p.rn) ∧ X3.cell? ⟨X2.heap.size, 7, none⟩ = some (.int .u32 p.rm) ∧ X3.cell? ⟨X2.heap.size, 8, none⟩ = some (.int .u64 p.t) ∧ X3.cell? ⟨X2.heap.size, 9, none⟩ = some (.int .u32 p.q) ∧ X3.cell? ⟨X2.heap.size, 10, none⟩ = some (.int .u64 p.l))) := by rw [hX3]; exact pbox (Below.refl _ _)
      clear hX3 x0 x1 x2 x3 x4 x5 x6 x7 x8 x9 x10 hnil
      go_wp2_with fail
      have hIO : OwnFrom X3.heap.size (fun (k : Nat) X => (∃ v, Boxed X wr.heap.size 40 v ∧ OwnV X (X3.heap.size + 3) 22 v (((wantsL p.f).take k).map fun (x : Nat) => Value.int .u32 x)) ∧ Below W.heap.size W X ∧ X3.heap.size ≤ X.heap.size) :=
        OwnFrom.and (fun k X Y row hs hg hr => by
          obtain ⟨v, hb, ho⟩ := hs
          exact ⟨v, (boxed_own (β := Unit) wr.heap.size 40 (fun _ => v)).from X3.heap.size () X Y row hb hg hr, ho.kept hg (own_ne ho (fun r e => (hr r e).2))⟩) (OwnFrom.and (ownFrom_below (Nat.le_refl _) (HBX3.out.size)) (fun k X Y row hs hg hr => Nat.le_trans hs hg.size))
      refine wp_rangeGoesM_at (m := 1) (gf := 44) (lb := #[.pointer (some ⟨X2.heap.size, 0, none⟩)]) 12 (fun k => .int .u32 ((wantsL p.f)[k]?.getD 0 : Nat)) rfl (enters_of Tryz.func44 (by kernel_rfl) rfl)
        (wants_goesM p (by have := hp.f; omega) X2.heap.size (· = X2.heap.size) X3 (by have := HS3.out; omega) rfl (fun b hb => by subst hb; have := HS3.out; omega) HC3.out) (fun b hb => by subst hb; have := HS3.out; omega) _ (fun _ _ _ => False) hIO (fun _ _ _ _ _ hs _ _ => hs) ⟨⟨_, HAB3.out, OwnV.nil _ _ _⟩, HBX3.out, Nat.le_refl _⟩ ?assign ?body ?done ?stop
      case assign =>
        intro l k X K hK
        simp only [List.setIfInBounds_toArray, List.set_cons_succ, List.set_cons_zero] at hK ⊢
        have HK := Lib.hid hK
        clear hK
        gi_wp2
        exact HK.out
      case body =>
        rintro l k X hk hl hq _ ⟨⟨v, hbv, ho⟩, hbw, hsz⟩
        have HTK : Hid ((((wantsL p.f).take (k + 1)).map fun (x : Nat) => Value.int .u32 x) = (((wantsL p.f).take k).map fun (x : Nat) => Value.int .u32 x) ++ [.int .u32 ((wantsL p.f)[k]?.getD 0 : Nat)]) := by
          rw [Hid, List.take_succ_eq_append_getElem hk, List.map_append, List.getElem?_eq_getElem hk]
          rfl
        have HBW := Lib.hid hbw
        have HBV := Lib.hid hbv
        have HO := Lib.hid ho
        have hN2 : (wantsL p.f).length ≤ 2 := by unfold wantsL; split <;> split <;> simp
        have hxl : (((wantsL p.f).take k).map fun (x : Nat) => Value.int .u32 x).length = k := by simp; omega
        generalize (wantsL p.f)[k]?.getD 0 = x at *
        obtain ⟨A', C', w', hrun, hpost⟩ := app1U X (X3.heap.size + 3) v _ (x : Nat) ho (by omega) (by omega)
        rw [hxl] at hrun hpost
        have HP := Lib.hid hpost
        have HBV1 : Hid (Boxed w' wr.heap.size 40 v) := (hbv.alloc _).kept hpost.2.1 (fun e => by
          have := (ho.row _ e.symm).1
          have := HS3.out
          have := HS2.out
          omega)
        have hd : decide ((2 : Int) < ((k : Int) + 1)) = false := by simp; omega
        have y0 := hbv.cell
        have z0 := HBV1.out.cell
        have zf := HBV1.out.frozen
        clear hbv ho hbw hpost hxl hN2 hIO
        simp only [List.setIfInBounds_toArray, List.set_cons_succ, List.set_cons_zero]
        have HRUN := Lib.hid hrun
        clear hrun
        gi_wp2_with (gi_at_builtin; refine wpListIn_run6 rfl _ _ _ _ rfl _ _ _ _ rfl rfl HRUN.out ?_)
        have hs3 := HS3.out
        have hs2 := HS2.out
        have hwr := HWR.out
        have hpz := HP.out.2.1.size
        rw [World.size_alloc] at hpz
        refine ⟨⟨?_, fun i o hi ho hnc => ?_⟩, fun b hb => ?_, ⟨_, HBV1.out.set _, ?_⟩, ?_, ?_⟩
        · rw [World.size_setCell]
          omega
        · have hlt := (Array.getElem?_eq_some_iff.1 ho).1
          refine (Below.heap_setCell _ _ _ _ (by show i ≠ wr.heap.size; omega)).trans ((HP.out.2.1.block i (by rw [World.size_alloc]; omega) (fun e => ?_)).trans ((Below.heap_alloc X _ i hlt).trans ho))
          rcases own_ne (row := some i) HO.out (fun r e2 => by cases e2; exact ⟨o, ho, hnc⟩) with h | h
          · rw [h] at e
            cases e
          · exact h e.symm
        · have hlt : b < X.heap.size := by rcases hb with rfl | hb <;> omega
          have hnb : b < X3.heap.size + 3 ∧ b ≠ wr.heap.size := by rcases hb with rfl | hb <;> omega
          exact (Below.heap_setCell _ _ _ _ (by show b ≠ wr.heap.size; omega)).trans ((HP.out.2.1.block b (by rw [World.size_alloc]; omega) (fun e => by have := (HO.out.row _ e.symm).1; omega)).trans (Below.heap_alloc X _ b hlt))
        · rw [HTK.out]
          exact HP.out.1.kept (grownBy_setCell' _ _ _) (.inr fun e => by have := (HP.out.1.row _ e).1; omega)
        · exact ((below_al HBW.out _).grown HP.out.2.1 (by rw [World.size_alloc]; omega) (fun r e => by have := (HO.out.row r e).1; omega)).setCell (p := ⟨wr.heap.size, 0, none⟩) hwr _
        · rw [World.size_setCell]
          omega
      case done =>
        rintro D1 X4 hD1 ⟨⟨v, hbv, ho⟩, hbw, hsz⟩ hK
        rw [List.take_length] at ho
        have HO := Lib.hid ho
        have HBV := Lib.hid hbv
        have HBW4 := Lib.hid hbw
        have HK1 := Lib.hid hK
        have HX3s := Lib.hid hsz
        have HWT := Lib.hid (fun w => wants_any p w)
        clear ho hbv hbw hK hIO hsz
        go_upto_region 24 with fail
        obtain ⟨X5, hX5⟩ : ∃ X5, X5 = X4.alloc (.cells #[.int .i64 0] 3) := ⟨_, rfl⟩
        have HBX5 : Hid (Below W.heap.size W X5) := by rw [hX5]; exact below_al HBW4.out _
        have HLB5 : Hid (Boxed X5 wr.heap.size 40 v ∧ OwnV X5 (X3.heap.size + 3) 22 v ((wantsL p.f).map fun (x : Nat) => Value.int .u32 x)) := by rw [hX5]; exact ⟨HBV.out.alloc _, HO.out.alloc _⟩
        have HAB5 : Hid (Boxed X5 X4.heap.size 3 (.int .i64 0)) := by rw [hX5]; exact Boxed.new _ _ _
        have HKD5 : Hid (X5.heap[D1]? = some (.deferred (some []))) := by rw [hX5]; exact (Below.heap_alloc X4 _ D1 (Array.getElem?_eq_some_iff.1 HK1.out).1).trans HK1.out
        have HS5 : Hid (X5.heap.size = X4.heap.size + 1) := by rw [hX5]; simp [Hid]
        rw [← hX5]
        clear hX5
        obtain ⟨x0, x1, x2, x3, x4, x5, x6, x7, x8, x9, x10⟩ := HX.out X5 (HBX5.out.mono (by have := HS0.out; omega))
        go_wp2_with fail
        refine (HWT.out X5).mono ?_
        rintro e X6 ⟨rfl, hX6⟩
        have HBX6 : Hid (Below W.heap.size W X6) := by rw [hX6]; exact below_al HBX5.out _
        have HLB6 : Hid (Boxed X6 wr.heap.size 40 v ∧ OwnV X6 (X3.heap.size + 3) 22 v ((wantsL p.f).map fun (x : Nat) => Value.int .u32 x)) := by rw [hX6]; exact ⟨HLB5.out.1.alloc _, HLB5.out.2.alloc _⟩
        have HAB6 : Hid (Boxed X6 X4.heap.size 3 (.int .i64 0)) := by rw [hX6]; exact HAB5.out.alloc _
        have HKD6 : Hid (X6.heap[D1]? = some (.deferred (some []))) := by rw [hX6]; exact (Below.heap_alloc X5 _ D1 (Array.getElem?_eq_some_iff.1 HKD5.out).1).trans HKD5.out
        have HS6 : Hid (X6.heap.size = X5.heap.size + 1) := by simp only [Hid, hX6, World.size_alloc]
        have HC6 : Hid ((X6.cell? ⟨X5.heap.size, 0, none⟩ = some (.int .u32 p.f) ∧ X6.cell? ⟨X5.heap.size, 1, none⟩ = some (.int .i64 p.s) ∧ X6.cell? ⟨X5.heap.size, 2, none⟩ = some (.int .u32 p.tn) ∧ X6.cell? ⟨X5.heap.size, 3, none⟩ = some (.int .u32 p.tm) ∧ X6.cell? ⟨X5.heap.size, 4, none⟩ = some (.int .u32 p.sn) ∧ X6.cell? ⟨X5.heap.size, 5, none⟩ = some (.int .u32 p.sm) ∧ X6.cell? ⟨X5.heap.size, 6, none⟩ = some (.int .u32 p.rn) ∧ X6.cell? ⟨X5.heap.size, 7, none⟩ = some (.int .u32 p.rm) ∧ X6.cell? ⟨X5.heap.size, 8, none⟩ = some (.int .u64 p.t) ∧ X6.cell? ⟨X5.heap.size, 9, none⟩ = some (.int .u32 p.q) ∧ X6.cell? ⟨X5.heap.size, 10, none⟩ = some (.int .u64 p.l))) := by rw [hX6]; exact pbox (Below.refl _ _)
        clear hX6 x0 x1 x2 x3 x4 x5 x6 x7 x8 x9 x10
        go_wp2_with fail
        have hKO : ∀ (s : Nat → Nat), OwnFrom X6.heap.size (fun (k : Nat) X => Boxed X X4.heap.size 3 (.int .i64 (s k : Nat)) ∧ (Boxed X wr.heap.size 40 v ∧ OwnV X (X3.heap.size + 3) 22 v ((wantsL p.f).map fun (x : Nat) => Value.int .u32 x)) ∧ Below W.heap.size W X ∧ X.heap[D1]? = some (.deferred (some []))) := fun s =>
          OwnFrom.and ((boxed_own _ _ _).from _) (OwnFrom.and (OwnFrom.and ((boxed_own _ _ _).from _) (fun k X Y row hs hg hr => hs.kept hg (own_ne hs (fun r e => (hr r e).2)))) (OwnFrom.and (ownFrom_below (Nat.le_refl _) HBX6.out.size) (fun k X Y row hs hg hr =>
            (hg.block D1 (Array.getElem?_eq_some_iff.1 hs).1 (fun e => by have h1 := (hr D1 e.symm).1; have h2 := (Array.getElem?_eq_some_iff.1 HKD6.out).1; omega)).trans hs)))
        refine wp_rangeGoesO_brk (gf := 44) (lb := #[.pointer (some ⟨X5.heap.size, 0, none⟩)]) 14 (fun k => .int .u32 ((wantsL p.f)[k]?.getD 0 : Nat)) rfl (enters_of Tryz.func44 (by kernel_rfl) rfl)
          (wants_goes p (by have := hp.f; omega) X5.heap.size (· = X5.heap.size) X6 (by have := HS6.out; omega) rfl (fun b hb => by subst hb; have := HS6.out; omega) HC6.out) (fun b hb => by subst hb; have := HS6.out; omega)
          (fun k X => k = 0 ∧ (Boxed X X4.heap.size 3 (.int .i64 ((0 : Nat) : Int)) ∧ (Boxed X wr.heap.size 40 v ∧ OwnV X (X3.heap.size + 3) 22 v ((wantsL p.f).map fun (x : Nat) => Value.int .u32 x)) ∧ Below W.heap.size W X ∧ X.heap[D1]? = some (.deferred (some []))))
          (fun X => Boxed X X4.heap.size 3 (.int .i64 ((wantsL p.f)[0]?.getD 0 : Nat)) ∧ (Boxed X wr.heap.size 40 v ∧ OwnV X (X3.heap.size + 3) 22 v ((wantsL p.f).map fun (x : Nat) => Value.int .u32 x)) ∧ Below W.heap.size W X ∧ X.heap[D1]? = some (.deferred (some []))) 4
          (OwnFrom.and (ownFrom_pure _ (fun k => k = 0)) (hKO (fun _ => 0))) (fun _ X Y row hs hg hr => hKO (fun _ => (wantsL p.f)[0]?.getD 0) 0 X Y row hs hg hr) ⟨rfl, HAB6.out, HLB6.out, HBX6.out, HKD6.out⟩ ?assign2 ?body2 (fun X h => ?_) (fun a X h => wp_exit (by simpa only [Exit.inBlock, if_true, ite_true, beq_self_eq_true] using h)) ?after2
        case assign2 =>
          intro l k X K hK
          simp only [List.setIfInBounds_toArray, List.set_cons_succ, List.set_cons_zero] at hK ⊢
          have HK := Lib.hid hK
          clear hK
          gi_wp2
          exact HK.out
        case body2 =>
          rintro l k X hk hl _ ⟨rfl, hbx, hlb, hbw, hdd⟩
          have y0 := hbx.cell
          have yf := hbx.frozen
          have HBX := Lib.hid hbx
          have HLB := Lib.hid hlb
          have HBW := Lib.hid hbw
          have HDD := Lib.hid hdd
          have hxl : (wantsL p.f)[0]?.getD 0 < 4294967296 := by unfold wantsL; split <;> split <;> simp
          generalize (wantsL p.f)[0]?.getD 0 = x at *
          have hw1 : IntKind.i64.wrap ((x : Nat) : Int) = ((x : Nat) : Int) := by
            simp [IntKind.wrap, IntKind.signed, IntKind.bits]
            omega
          clear hbx hlb hbw hdd hKO hxl
          simp only [List.setIfInBounds_toArray, List.set_cons_succ, List.set_cons_zero]
          gi_wp2
          have hs6 := HS6.out
          have hs5 := HS5.out
          have hs3 := HS3.out
          have hs2 := HS2.out
          have hx3 := HX3s.out
          have hd1 := (Array.getElem?_eq_some_iff.1 HK1.out).1
          refine ⟨⟨(KeepsOthers.setCell _ _ _).from _, fun b hb => Below.heap_setCell _ _ _ b ?_⟩, rfl, HBX.out.set _, ⟨HLB.out.1.other (by omega) _, HLB.out.2.kept (grownBy_setCell' _ _ _) (.inr fun e => ?_)⟩, HBW.out.setCell (p := ⟨X4.heap.size, 0, none⟩) (by show W.heap.size ≤ X4.heap.size; have := HWR.out; omega) _, (Below.heap_setCell _ _ _ D1 (by show D1 ≠ X4.heap.size; omega)).trans HDD.out⟩
          · show b ≠ X4.heap.size
            rcases hb with rfl | hb
            · omega
            · have := hb.1
              omega
          · have := (HO.out.row _ e).2
            omega
        case after2 =>
          rintro D2 X7 hD2 ⟨hbx, hlb, hbw, hdd⟩ hK
          have HBX7 := Lib.hid hbx
          have HLB7 := Lib.hid hlb
          have HBW7 := Lib.hid hbw
          have HDD7 := Lib.hid hdd
          have HK7 := Lib.hid hK
          have HD2 := Lib.hid hD2
          clear hbx hlb hbw hdd hK hD2 hKO
          go_upto_region 28 with fail
          obtain ⟨X8, hX8⟩ : ∃ X8, X8 = X7.alloc (.cells #[] 22) := ⟨_, rfl⟩
          have HBX8 : Hid (Below X7.heap.size X7 X8) := by rw [hX8]; exact below_al (Below.refl _ _) _
          have HOX8 : Hid (OwnV X8 X7.heap.size 22 (.slice (some ⟨X7.heap.size, 0, none⟩) 0 0) []) := by rw [hX8]; exact OwnV.lit X7 X7.heap.size 22 #[] (Nat.le_refl _) (by simp [maxLen])
          rw [← hX8]
          clear hX8
          obtain ⟨x0, x1, x2, x3, x4, x5, x6, x7, x8, x9, x10⟩ := HX.out X8 ((HBW7.out.trans (HBX8.out.mono HBW7.out.size)).mono (by have := HS0.out; omega))
          go_wp2_with fail
          refine (HRH.out 2 X8 (by decide)).mono ?_
          rintro e X9 ⟨rfl, hb⟩
          have HBX9 : Hid (Below X7.heap.size X7 X9) := HBX8.out.trans (hb.mono HBX8.out.size)
          have HOX9 : Hid (OwnV X9 X7.heap.size 22 (.slice (some ⟨X7.heap.size, 0, none⟩) 0 0) ([])) := own_below HOX8.out hb
          clear hb x0 x1 x2 x3 x4 x5 x6 x7 x8 x9 x10
          obtain ⟨q2, hq2⟩ : ∃ q, q = hasB p.f 2 := ⟨_, rfl⟩
          rw [← hq2]
          have HQ2 := Lib.hid hq2
          clear hq2
          go_upto_if 87 with fail
          go_cut [15] from 88 to 90 (fun v15 wx => Hid (Below X7.heap.size X7 wx) ∧ Hid (OwnV wx X7.heap.size 22 v15 ([] ++ (if q2 = true then [Value.int .u32 2] else []))))
          case first =>
            cases q2
            · go_wp2_with fail
              go_meet
              case rel => exact ⟨HBX9, by simpa [Hid] using HOX9.out⟩
            · obtain ⟨A', C', w', hrun, hpost⟩ := app1U X9 X7.heap.size (.slice (some ⟨X7.heap.size, 0, none⟩) 0 0) _ 2 HOX9.out HBX9.out.size (by simp; try (split <;> simp))
              have HRUN := Lib.hid hrun
              have HPO : Hid (Below X7.heap.size X7 w') := (below_al HBX9.out _).grown hpost.2.1 (by have := HBX9.out.size; rw [World.size_alloc]; omega) (fun r e => (HOX9.out.row r e).1)
              have HP := Lib.hid hpost
              clear hrun hpost
              go_wp2_with (at_builtin; refine wpList_run rfl _ _ _ _ rfl _ _ _ _ rfl rfl HRUN.out ?_)
              go_meet
              case rel => exact ⟨HPO, by simpa [Hid] using HP.out.1⟩
          case rest =>
          obtain ⟨HBXa, HOXa⟩ := hcut
          obtain ⟨l2, hl2⟩ : ∃ l : List Value, l = [] ++ (if q2 = true then [Value.int .u32 2] else []) := ⟨_, rfl⟩
          have HL2 : Hid (l2.length ≤ 1) := by rw [hl2, Hid]; split <;> simp
          rw [← hl2] at HOXa
          have HLL := Lib.hid hl2
          clear hl2
          obtain ⟨v15, hv15⟩ : ∃ v, v = u15 := ⟨_, rfl⟩
          obtain ⟨Xa, hXa⟩ : ∃ X, X = wc := ⟨_, rfl⟩
          subst hv15 hXa
          obtain ⟨x0, x1, x2, x3, x4, x5, x6, x7, x8, x9, x10⟩ := HX.out Xa ((HBW7.out.trans (HBXa.out.mono HBW7.out.size)).mono (by have := HS0.out; omega))
          go_wp2_with fail
          refine (HRH.out 32 Xa (by decide)).mono ?_
          rintro e Xb ⟨rfl, hb⟩
          have HBXb : Hid (Below X7.heap.size X7 Xb) := HBXa.out.trans (hb.mono HBXa.out.size)
          have HOXb : Hid (OwnV Xb X7.heap.size 22 v15 (l2)) := own_below HOXa.out hb
          clear hb x0 x1 x2 x3 x4 x5 x6 x7 x8 x9 x10
          obtain ⟨q32, hq32⟩ : ∃ q, q = hasB p.f 32 := ⟨_, rfl⟩
          rw [← hq32]
          have HQ32 := Lib.hid hq32
          clear hq32
          go_upto_if 92 with fail
          go_cut [15] from 93 to 95 (fun v15 wx => Hid (Below X7.heap.size X7 wx) ∧ Hid (OwnV wx X7.heap.size 22 v15 (l2 ++ (if q32 = true then [Value.int .u32 32] else []))))
          case first =>
            cases q32
            · go_wp2_with fail
              go_meet
              case rel => exact ⟨HBXb, by simpa [Hid] using HOXb.out⟩
            · obtain ⟨A', C', w', hrun, hpost⟩ := app1U Xb X7.heap.size v15 _ 32 HOXb.out HBXb.out.size (by have := HL2.out; omega)
              have HRUN := Lib.hid hrun
              have HPO : Hid (Below X7.heap.size X7 w') := (below_al HBXb.out _).grown hpost.2.1 (by have := HBXb.out.size; rw [World.size_alloc]; omega) (fun r e => (HOXb.out.row r e).1)
              have HP := Lib.hid hpost
              clear hrun hpost
              go_wp2_with (at_builtin; refine wpList_run rfl _ _ _ _ rfl _ _ _ _ rfl rfl HRUN.out ?_)
              go_meet
              case rel => exact ⟨HPO, by simpa [Hid] using HP.out.1⟩
          case rest =>
          obtain ⟨HBXc, HOXc⟩ := hcut
          have HVc : Hid (Boxed wc wr.heap.size 40 v ∧ OwnV wc (X3.heap.size + 3) 22 v ((wantsL p.f).map fun (x : Nat) => Value.int .u32 x)) := ⟨boxed_below HLB7.out.1 HBXc.out (Array.getElem?_eq_some_iff.1 HLB7.out.1).1, own_below HLB7.out.2 HBXc.out⟩
          have HSc : Hid (Boxed wc X4.heap.size 3 (.int .i64 ((wantsL p.f)[0]?.getD 0 : Nat))) := boxed_below HBX7.out HBXc.out (Array.getElem?_eq_some_iff.1 HBX7.out).1
          have HBWc : Hid (Below W.heap.size W wc) := HBW7.out.trans (HBXc.out.mono HBW7.out.size)
          go_upto_region 32 with fail
          go_cut [136] from 96 to 135 (fun v136 wx => v136 = .bool false ∧ Hid (Below wc.heap.size wc wx))
          case first =>
            cases q2 <;> cases q32
            · have HXS : Hid (((wantsL p.f).map fun (x : Nat) => Value.int .u32 x) = []) := by rw [Hid]; simp [wantsL, ← HQ2.out, ← HQ32.out]
              have HSV : Hid ((wantsL p.f)[0]?.getD 0 = 0) := by rw [Hid]; simp [wantsL, ← HQ2.out, ← HQ32.out]
              have h15 := HOXc.out
              rw [HLL.out] at h15
              obtain ⟨A1, C1, hv1, hc1⟩ := own_shape HVc.out.2
              obtain ⟨A2, C2, hv2, hc2⟩ := own_shape h15
              rw [HXS.out] at hv1 hc1
              simp only [List.length_cons, List.length_nil, List.length_append, List.nil_append, List.cons_append, if_true, if_false, Bool.false_eq_true, reduceIte] at hv1 hc1 hv2 hc2
              have b0 := HVc.out.1.cell
              have s0 := HSc.out.cell
              rw [HSV.out] at s0
              subst hv1 hv2
              clear hc1 hc2 h15
              go_wp2_with fail
              go_quiet (fail)
              go_wp2_with fail
              go_meet
              case rel => exact ⟨rfl, by first | exact (Below.refl _ _).drew | exact below_dr (Below.refl _ _) _ | exact Below.refl _ _⟩
            · have HXS : Hid (((wantsL p.f).map fun (x : Nat) => Value.int .u32 x) = [.int .u32 32]) := by rw [Hid]; simp [wantsL, ← HQ2.out, ← HQ32.out]
              have HSV : Hid ((wantsL p.f)[0]?.getD 0 = 32) := by rw [Hid]; simp [wantsL, ← HQ2.out, ← HQ32.out]
              have h15 := HOXc.out
              rw [HLL.out] at h15
              obtain ⟨A1, C1, hv1, hc1⟩ := own_shape HVc.out.2
              obtain ⟨A2, C2, hv2, hc2⟩ := own_shape h15
              rw [HXS.out] at hv1 hc1
              simp only [List.length_cons, List.length_nil, List.length_append, List.nil_append, List.cons_append, if_true, if_false, Bool.false_eq_true, reduceIte] at hv1 hc1 hv2 hc2
              have b0 := HVc.out.1.cell
              have s0 := HSc.out.cell
              rw [HSV.out] at s0
              subst hv1 hv2
              obtain ⟨g10, rfl, c10⟩ := hc1 0 (by omega)
              simp only [List.getElem?_cons_zero, List.getElem?_cons_succ] at c10
              obtain ⟨g20, rfl, c20⟩ := hc2 0 (by omega)
              simp only [List.getElem?_cons_zero, List.getElem?_cons_succ] at c20
              clear hc1 hc2 h15
              go_wp2_with fail
              go_quiet (fail)
              go_wp2_with fail
              go_meet
              case rel => exact ⟨rfl, by first | exact (Below.refl _ _).drew | exact below_dr (Below.refl _ _) _ | exact Below.refl _ _⟩
            · have HXS : Hid (((wantsL p.f).map fun (x : Nat) => Value.int .u32 x) = [.int .u32 2]) := by rw [Hid]; simp [wantsL, ← HQ2.out, ← HQ32.out]
              have HSV : Hid ((wantsL p.f)[0]?.getD 0 = 2) := by rw [Hid]; simp [wantsL, ← HQ2.out, ← HQ32.out]
              have h15 := HOXc.out
              rw [HLL.out] at h15
              obtain ⟨A1, C1, hv1, hc1⟩ := own_shape HVc.out.2
              obtain ⟨A2, C2, hv2, hc2⟩ := own_shape h15
              rw [HXS.out] at hv1 hc1
              simp only [List.length_cons, List.length_nil, List.length_append, List.nil_append, List.cons_append, if_true, if_false, Bool.false_eq_true, reduceIte] at hv1 hc1 hv2 hc2
              have b0 := HVc.out.1.cell
              have s0 := HSc.out.cell
              rw [HSV.out] at s0
              subst hv1 hv2
              obtain ⟨g10, rfl, c10⟩ := hc1 0 (by omega)
              simp only [List.getElem?_cons_zero, List.getElem?_cons_succ] at c10
              obtain ⟨g20, rfl, c20⟩ := hc2 0 (by omega)
              simp only [List.getElem?_cons_zero, List.getElem?_cons_succ] at c20
              clear hc1 hc2 h15
              go_wp2_with fail
              go_quiet (fail)
              go_wp2_with fail
              go_meet
              case rel => exact ⟨rfl, by first | exact (Below.refl _ _).drew | exact below_dr (Below.refl _ _) _ | exact Below.refl _ _⟩
            · have HXS : Hid (((wantsL p.f).map fun (x : Nat) => Value.int .u32 x) = [.int .u32 2, .int .u32 32]) := by rw [Hid]; simp [wantsL, ← HQ2.out, ← HQ32.out]
              have HSV : Hid ((wantsL p.f)[0]?.getD 0 = 2) := by rw [Hid]; simp [wantsL, ← HQ2.out, ← HQ32.out]
              have h15 := HOXc.out
              rw [HLL.out] at h15
              obtain ⟨A1, C1, hv1, hc1⟩ := own_shape HVc.out.2
              obtain ⟨A2, C2, hv2, hc2⟩ := own_shape h15
              rw [HXS.out] at hv1 hc1
              simp only [List.length_cons, List.length_nil, List.length_append, List.nil_append, List.cons_append, if_true, if_false, Bool.false_eq_true, reduceIte] at hv1 hc1 hv2 hc2
              have b0 := HVc.out.1.cell
              have s0 := HSc.out.cell
              rw [HSV.out] at s0
              subst hv1 hv2
              obtain ⟨g10, rfl, c10⟩ := hc1 0 (by omega)
              simp only [List.getElem?_cons_zero, List.getElem?_cons_succ] at c10
              obtain ⟨g20, rfl, c20⟩ := hc2 0 (by omega)
              simp only [List.getElem?_cons_zero, List.getElem?_cons_succ] at c20
              obtain ⟨g11, e11, c11⟩ := hc1 1 (by omega)
              cases e11
              simp only [List.getElem?_cons_zero, List.getElem?_cons_succ] at c11
              obtain ⟨g21, e21, c21⟩ := hc2 1 (by omega)
              cases e21
              simp only [List.getElem?_cons_zero, List.getElem?_cons_succ] at c21
              clear hc1 hc2 h15
              go_wp2_with fail
              go_quiet (fail)
              go_wp2_with fail
              go_meet
              case rel => exact ⟨rfl, by first | exact (Below.refl _ _).drew | exact below_dr (Below.refl _ _) _ | exact Below.refl _ _⟩
          case rest =>
          obtain ⟨rfl, HBQ⟩ := hcut
          obtain ⟨Xq, hXq⟩ : ∃ X, X = wc := ⟨_, rfl⟩
          subst hXq
          have HBQ7 : Hid (Below X7.heap.size X7 Xq) := HBXc.out.trans (HBQ.out.mono HBXc.out.size)
          have HELD2 : Hid (∀ w', Below X7.heap.size X7 w' → (w'.cell? ⟨w.heap.size, 0, none⟩ = some (.int .u32 p.f) ∧ w'.cell? ⟨w.heap.size, 1, none⟩ = some (.int .i64 p.s) ∧ w'.cell? ⟨w.heap.size, 2, none⟩ = some (.int .u32 p.tn) ∧ w'.cell? ⟨w.heap.size, 3, none⟩ = some (.int .u32 p.tm) ∧ w'.cell? ⟨w.heap.size, 4, none⟩ = some (.int .u32 p.sn) ∧ w'.cell? ⟨w.heap.size, 5, none⟩ = some (.int .u32 p.sm) ∧ w'.cell? ⟨w.heap.size, 6, none⟩ = some (.int .u32 p.rn) ∧ w'.cell? ⟨w.heap.size, 7, none⟩ = some (.int .u32 p.rm) ∧ w'.cell? ⟨w.heap.size, 8, none⟩ = some (.int .u64 p.t) ∧ w'.cell? ⟨w.heap.size, 9, none⟩ = some (.int .u32 p.q) ∧ w'.cell? ⟨w.heap.size, 10, none⟩ = some (.int .u64 p.l)) ∧ w'.cell? ⟨w.heap.size + 1, 0, none⟩ = some (.bool false) ∧ w'.frozen? ⟨w.heap.size + 1, 0, none⟩ = false) := fun w' h => by
            have hbW := HBW7.out.trans (h.mono HBW7.out.size)
            have hbx := boxed_below HBR.out hbW (by have := HS0.out; omega)
            exact ⟨HX.out w' (hbW.mono (by have := HS0.out; omega)), hbx.cell, hbx.frozen⟩
          have HELD : Hid (∀ w', Below X7.heap.size X7 w' → (w'.cell? ⟨w.heap.size, 0, none⟩ = some (.int .u32 p.f) ∧ w'.cell? ⟨w.heap.size, 1, none⟩ = some (.int .i64 p.s) ∧ w'.cell? ⟨w.heap.size, 2, none⟩ = some (.int .u32 p.tn) ∧ w'.cell? ⟨w.heap.size, 3, none⟩ = some (.int .u32 p.tm) ∧ w'.cell? ⟨w.heap.size, 4, none⟩ = some (.int .u32 p.sn) ∧ w'.cell? ⟨w.heap.size, 5, none⟩ = some (.int .u32 p.sm) ∧ w'.cell? ⟨w.heap.size, 6, none⟩ = some (.int .u32 p.rn) ∧ w'.cell? ⟨w.heap.size, 7, none⟩ = some (.int .u32 p.rm) ∧ w'.cell? ⟨w.heap.size, 8, none⟩ = some (.int .u64 p.t) ∧ w'.cell? ⟨w.heap.size, 9, none⟩ = some (.int .u32 p.q) ∧ w'.cell? ⟨w.heap.size, 10, none⟩ = some (.int .u64 p.l))) := fun w' h => (HELD2.out w' h).1
          have HA0 : Hid (∀ w', Below W.heap.size W w' → Calls Tryz.prog 19 #[.int .i64 r, .slice a zs.length c] w' fun e w'' => e = .returned (.int .u32 (upN r zs 2 : Nat)) ∧ Below w'.heap.size w' w'') := fun w' h => flags_any r a c zs w' (by have := HL.out; omega) (HR.out w' (HB0.out.trans (h.mono HB0.out.size)))
          have HA1 : Hid (∀ w', Below W.heap.size W w' → Calls Tryz.prog 20 #[.int .i64 r, .slice a zs.length c] w' fun e w'' => e = .returned (.int .u32 (upN r zs 2 : Nat)) ∧ Below w'.heap.size w' w'') := fun w' h => (refFlags_any r a c zs w' (by have := HL.out; omega) (HR.out w' (HB0.out.trans (h.mono HB0.out.size)))).mono (fun e w'' h => ⟨h.1, by rw [← h.2]; exact Below.refl _ _⟩)
          have HA2 : Hid (∀ w', Below W.heap.size W w' → Calls Tryz.prog 21 #[.agg #[.int .u32 p.f, .int .i64 p.s, .int .u32 p.tn, .int .u32 p.tm, .int .u32 p.sn, .int .u32 p.sm, .int .u32 p.rn, .int .u32 p.rm, .int .u64 p.t, .int .u32 p.q, .int .u64 p.l]] w' fun e w'' => e = .returned (.int .i64 p.rank) ∧ Below w'.heap.size w' w'') := fun w' h => rank_any p hp w'
          have HA3 : Hid (∀ w', Below W.heap.size W w' → Calls Tryz.prog 22 #[.agg #[.int .u32 p.f, .int .i64 p.s, .int .u32 p.tn, .int .u32 p.tm, .int .u32 p.sn, .int .u32 p.sm, .int .u32 p.rn, .int .u32 p.rm, .int .u64 p.t, .int .u32 p.q, .int .u64 p.l]] w' fun e w'' => e = .returned (.int .i64 p.rank) ∧ Below w'.heap.size w' w'') := fun w' h => refRank_any p hp w'
          have HA4 : Hid (∀ w', Below W.heap.size W w' → Calls Tryz.prog 23 #[.agg #[.int .u32 p.f, .int .i64 p.s, .int .u32 p.tn, .int .u32 p.tm, .int .u32 p.sn, .int .u32 p.sm, .int .u32 p.rn, .int .u32 p.rm, .int .u64 p.t, .int .u32 p.q, .int .u64 p.l]] w' fun e w'' => e = .returned (.int .u64 (addT p.t p.l)) ∧ Below w'.heap.size w' w'') := fun w' h => expires_any p w'
          have HA5 : Hid (∀ w', Below W.heap.size W w' → Calls Tryz.prog 24 #[.agg #[.int .u32 p.f, .int .i64 p.s, .int .u32 p.tn, .int .u32 p.tm, .int .u32 p.sn, .int .u32 p.sm, .int .u32 p.rn, .int .u32 p.rm, .int .u64 p.t, .int .u32 p.q, .int .u64 p.l]] w' fun e w'' => e = .returned (.int .u64 (addT p.t p.l)) ∧ Below w'.heap.size w' w'') := fun w' h => refExpires_any p w'
          have HA6 : Hid (∀ w', Below W.heap.size W w' → Calls Tryz.prog 10 #[] w' fun e w'' => e = .returned (.bool true) ∧ Below w'.heap.size w' w'') := fun w' h => prWorks_any w' (HT.out w' (HB0.out.trans (h.mono HB0.out.size)))
          generalize upN r zs 2 = cu at HA0 HA1
          generalize p.rank = cr at HA2 HA3
          generalize addT p.t p.l = ce at HA4 HA5
          have F0 : Below X7.heap.size X7 Xq.drew := HBQ7.out.drew
          go_wp2_with fail
          go_region_held3 (fun w' => (w'.cell? ⟨w.heap.size, 0, none⟩ = some (.int .u32 p.f) ∧ w'.cell? ⟨w.heap.size, 1, none⟩ = some (.int .i64 p.s) ∧ w'.cell? ⟨w.heap.size, 2, none⟩ = some (.int .u32 p.tn) ∧ w'.cell? ⟨w.heap.size, 3, none⟩ = some (.int .u32 p.tm) ∧ w'.cell? ⟨w.heap.size, 4, none⟩ = some (.int .u32 p.sn) ∧ w'.cell? ⟨w.heap.size, 5, none⟩ = some (.int .u32 p.sm) ∧ w'.cell? ⟨w.heap.size, 6, none⟩ = some (.int .u32 p.rn) ∧ w'.cell? ⟨w.heap.size, 7, none⟩ = some (.int .u32 p.rm) ∧ w'.cell? ⟨w.heap.size, 8, none⟩ = some (.int .u64 p.t) ∧ w'.cell? ⟨w.heap.size, 9, none⟩ = some (.int .u32 p.q) ∧ w'.cell? ⟨w.heap.size, 10, none⟩ = some (.int .u64 p.l)))
            (first | (refine HELD.out _ ?_; with_reducible exact F7) | (obtain ⟨x0, x1, x2, x3, x4, x5, x6, x7, x8, x9, x10⟩ := HELD.out _ F7; refine ⟨?_, ?_, ?_, ?_, ?_, ?_, ?_, ?_, ?_, ?_, ?_⟩ <;> (rw [World.cell?_setCell_other _ _ _ _ (by simp)]; assumption)) | (refine HELD.out _ ?_; with_reducible exact F6) | (refine HELD.out _ ?_; with_reducible exact F5) | (refine HELD.out _ ?_; with_reducible exact F4) | (refine HELD.out _ ?_; with_reducible exact F3) | (refine HELD.out _ ?_; with_reducible exact F2) | (refine HELD.out _ ?_; with_reducible exact F1) | (refine HELD.out _ ?_; with_reducible exact F0))
            (first
              | (go_at_call 19; (with_reducible refine (HA0.out _ (HBW7.out.trans (F0.mono HBW7.out.size))).mono ?_); rintro e z1 ⟨rfl, hbz1⟩; have F1 : Below X7.heap.size X7 z1 := below_on F0 hbz1)
              | (go_at_call 20; (with_reducible refine (HA1.out _ (HBW7.out.trans (F1.mono HBW7.out.size))).mono ?_); rintro e z2 ⟨rfl, hbz2⟩; have F2 : Below X7.heap.size X7 z2 := below_on F1 hbz2)
              | (go_at_call 21; (with_reducible refine (HA2.out _ (HBW7.out.trans (F2.mono HBW7.out.size))).mono ?_); rintro e z3 ⟨rfl, hbz3⟩; have F3 : Below X7.heap.size X7 z3 := below_on F2 hbz3)
              | (go_at_call 22; (with_reducible refine (HA3.out _ (HBW7.out.trans (F3.mono HBW7.out.size))).mono ?_); rintro e z4 ⟨rfl, hbz4⟩; have F4 : Below X7.heap.size X7 z4 := below_on F3 hbz4)
              | (go_at_call 23; (with_reducible refine (HA4.out _ (HBW7.out.trans (F4.mono HBW7.out.size))).mono ?_); rintro e z5 ⟨rfl, hbz5⟩; have F5 : Below X7.heap.size X7 z5 := below_on F4 hbz5)
              | (go_at_call 24; (with_reducible refine (HA5.out _ (HBW7.out.trans (F5.mono HBW7.out.size))).mono ?_); rintro e z6 ⟨rfl, hbz6⟩; have F6 : Below X7.heap.size X7 z6 := below_on F5 hbz6)
              | (go_at_call 10; (with_reducible refine (HA6.out _ (HBW7.out.trans (F6.mono HBW7.out.size))).mono ?_); rintro e z7 ⟨rfl, hbz7⟩; have F7 : Below X7.heap.size X7 z7 := below_on F6 hbz7; obtain ⟨_, qc, qf⟩ := HELD2.out _ F7))
          go_wp2_with fail
          have hs0 := HS0.out
          have hbz := HBW7.out.trans (F7.mono HBW7.out.size)
          have hzs := hbz.size
          have hbx7 : Boxed z7 (w.heap.size + 1) 4 (.bool false) := boxed_below HBR.out hbz (by omega)
          have hd2 := HD2.out
          have hd1l := (Array.getElem?_eq_some_iff.1 HKD6.out).1
          have hx3 := HBX3.out.size
          have l1 := (Array.getElem?_eq_some_iff.1 HDD7.out).1
          have l2' := (Array.getElem?_eq_some_iff.1 HK7.out).1
          have k2 : (z7.setCell ⟨w.heap.size + 1, 0, none⟩ (.bool true)).heap[D2]? = some (.deferred (some [])) := (Below.heap_setCell _ _ _ D2 (by show D2 ≠ w.heap.size + 1; omega)).trans ((F7.block D2 l2').trans HK7.out)
          have k1 : ((z7.setCell ⟨w.heap.size + 1, 0, none⟩ (.bool true)).putObj D2 (.deferred none)).heap[D1]? = some (.deferred (some [])) := (World.putObj_heap_other (by omega)).trans ((Below.heap_setCell _ _ _ D1 (by show D1 ≠ w.heap.size + 1; omega)).trans ((F7.block D1 l1).trans HDD7.out))
          have zp : ∀ (A : World) (D : Nat) (o : Obj), (A.putObj D o).heap.size = A.heap.size := fun A D o => by simp [World.putObj]
          have zc : (z7.setCell ⟨w.heap.size + 1, 0, none⟩ (.bool true)).heap.size = z7.heap.size := World.size_setCell _ _ _
          have hb3 : Boxed (((z7.setCell ⟨w.heap.size + 1, 0, none⟩ (.bool true)).putObj D2 (.deferred none)).putObj D1 (.deferred none)) (w.heap.size + 1) 4 (.bool true) :=
            boxed_below (B := w.heap.size + 2) (boxed_below (B := w.heap.size + 2) (hbx7.set _) ((Below.refl _ _).grown (grownBy_putObj' _ D2 _) (by omega) (fun r e => by cases e; omega)) (by omega)) ((Below.refl _ _).grown (grownBy_putObj' _ D1 _) (by rw [zp]; omega) (fun r e => by cases e; omega)) (by omega)
          refine marks_two (v := .bool true) k2 k1 (by simp [results, Tryz.results4, go_sem, hb3.cell]) ⟨rfl, ?_⟩
          exact (((HB0.out.trans (hbz.mono HB0.out.size)).setCell (p := ⟨w.heap.size + 1, 0, none⟩) (by show w.heap.size ≤ w.heap.size + 1; omega) _).grown (grownBy_putObj' _ D2 _) (by omega) (fun r e => by cases e; omega)).grown (grownBy_putObj' _ D1 _) (by rw [zp]; omega) (fun r e => by cases e; omega)
        · obtain ⟨h0, h1, h2⟩ := h
          have hnil : wantsL p.f = [] := List.eq_nil_of_length_eq_zero h0
          exact ⟨by rw [hnil]; exact h1, h2⟩
      case stop =>
        rintro D c k X hD hk hf hK
        exact hf.elim

end Go.Proofs.YtlmdbeccfoncpaaGreatDoor
