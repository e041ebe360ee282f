/- Package disk: the document's Same. -/
import Derived.Test.YtekeooeapiodmaaZKb
import Derived.Test.YtekeooeapiodmaaZDkVu
import Derived.BigQuiet
namespace Go.Proofs.Ytekeooeapiodmaa
open Go Go.RowKit Go.Shelf
set_option linter.unusedSimpArgs false
set_option linter.unusedVariables false
set_option maxRecDepth 100000

attribute [local go_sem] Oper.semAt_some

theorem txt_list (s : List UInt8) : (txt s).toList = s := by rw [ByteArray.toList_eq]; rfl
theorem txt_beq (s t : List UInt8) : ((txt s).toList == (txt t).toList) = (s == t) := by rw [txt_list, txt_list]

theorem put_eq (a b : Int) (s t : ByteArray) (w : World) : (Op.equalIn 10000 48 (.agg #[.int .i64 a, .string s]) (.agg #[.int .i64 b, .string t])).run Try.prog w = .ok (a == b && s.toList == t.toList) w := by
  go_simp
  by_cases h0 : a = b
  · subst h0
    by_cases h : s.toList = t.toList
    · simp [h]
    · simp [h]
  · simp [h0]

set_option maxHeartbeats 8000000 in
theorem rsame_any (N M : Nat → List Value → Prop) (D E : DkM) (hD : D.n ≤ 4096) (hDw : D.wt.length < 1000001) (hE : E.n ≤ 4096) (hEw : E.wt.length < 1000001) (v u : Value) (w : World) (h : RfV w N v D) (h2 : RfV w M u E) :
    Calls Try.prog 17 #[v, u] w fun e w' => e = .returned (.bool (sameB D E)) ∧ Below w.heap.size w w' := by
  obtain ⟨A1, C1, A2, C2, rfl, a1, a2⟩ := h
  obtain ⟨B1, K1, B2, K2, rfl, b1, b2⟩ := h2
  obtain ⟨n, lie, wt, lf⟩ := D
  obtain ⟨m, lie2, wt2, lf2⟩ := E
  obtain ⟨W, hW⟩ : ∃ W, W = (w.alloc (.cells #[.slice A1 n C1, .slice A2 wt.length C2, .int .i64 lf] 30)).alloc (.cells #[.slice B1 m K1, .slice B2 wt2.length K2, .int .i64 lf2] 30) := ⟨_, rfl⟩
  have HB0 : Hid (Below w.heap.size w W) := by rw [hW]; exact below_al (below_al (Below.refl _ _) _) _
  have HX : Hid (∀ w', Below W.heap.size W w' → RowB w' w.heap.size [.slice A1 n C1, .slice A2 wt.length C2, .int .i64 lf] ∧ RowB w' (w.heap.size + 1) [.slice B1 m K1, .slice B2 wt2.length K2, .int .i64 lf2]) := fun w' hb => by
    rw [hW] at hb
    exact two_rows hb
  have HA1 := Lib.hid (a1.on HB0.out)
  have HA2 := Lib.hid (a2.on HB0.out)
  have HB1 := Lib.hid (b1.on HB0.out)
  have HB2 := Lib.hid (b2.on HB0.out)
  have HM : Hid ((n ≤ 4096 ∧ wt.length < 1000001) ∧ m ≤ 4096 ∧ wt2.length < 1000001) := ⟨⟨hD, hDw⟩, hE, hEw⟩
  have HSB : Hid (sameB ⟨n, lie, wt, lf⟩ ⟨m, lie2, wt2, lf2⟩ = ((n == m) && (lf == lf2) && (wt == wt2) && (List.range n).all fun k => lie (k : Nat) == lie2 (k : Nat))) := rfl
  have HW := Lib.hid hW
  clear a1 a2 b1 b2 hW hD hDw hE hEw
  obtain ⟨⟨x0, x1, x2⟩, f0, f1, f2⟩ := r3 (HX.out W (Below.refl _ _)).1
  obtain ⟨⟨y0, y1, y2⟩, g0, g1, g2⟩ := r3 (HX.out W (Below.refl _ _)).2
  show Calls _ _ #[.agg #[.slice A1 n C1, .slice A2 wt.length C2, .int .i64 lf], .agg #[.slice B1 m K1, .slice B2 wt2.length K2, .int .i64 lf2]] _ _
  by_cases hn : n = m
  rotate_left
  · have hnI : ((n : Int) == (m : Int)) = false := by simp; omega
    have hnI2 : ((n : Int) != (m : Int)) = true := by simp; omega
    go_enter Try.func17, Try.ntmps17
    go_upto_region 1 with fail
    rw [← HW.out]
    go_wp2_with fail
    go_ret
    refine ⟨?_, HB0.out⟩
    rw [HSB.out, beq_false_of_ne hn]
    rfl
  subst hn
  obtain ⟨lw, hlw⟩ : ∃ q, q = wt.length := ⟨_, rfl⟩
  obtain ⟨lw2, hlw2⟩ : ∃ q, q = wt2.length := ⟨_, rfl⟩
  have HLw := Lib.hid hlw
  have HLw2 := Lib.hid hlw2
  rw [← hlw] at HX HW HM x1 ⊢
  rw [← hlw2] at HX HW HM y1 ⊢
  clear hlw hlw2
  by_cases hl : lw = lw2
  rotate_left
  · have hnI2 : ((lw : Int) != (lw2 : Int)) = true := by simp; omega
    go_enter Try.func17, Try.ntmps17
    go_upto_region 1 with fail
    rw [← HW.out]
    go_wp2_with fail
    go_ret
    refine ⟨?_, HB0.out⟩
    rw [HSB.out, show (wt == wt2) = false from beq_false_of_ne fun h => hl (by rw [HLw.out, HLw2.out, h])]
    simp
  subst hl
  by_cases hf : lf = lf2
  rotate_left
  · have hnI2 : (lf != lf2) = true := by simp; omega
    go_enter Try.func17, Try.ntmps17
    go_upto_region 1 with fail
    rw [← HW.out]
    go_wp2_with fail
    go_ret
    refine ⟨?_, HB0.out⟩
    rw [HSB.out, beq_false_of_ne hf]
    simp
  subst hf
  go_enter Try.func17, Try.ntmps17
  go_upto_region 1 with fail
  rw [← HW.out]
  go_upto_region 3 with fail
  clear x0 x1 x2 f0 f1 f2 y0 y1 y2 g0 g1 g2
  go_wp2_with fail
  go_loopw [5] (fun v5 wr => ∃ i : Nat, i ≤ n ∧ v5 = .int .i64 i ∧ Hid ((∀ k, k < i → lie (k : Nat) = lie2 (k : Nat)) ∧ Below W.heap.size W wr)) (fun v5 _ => n - (intOf v5).toNat)
  case atStart => exact ⟨0, Nat.zero_le _, rfl, fun k hk => absurd hk (Nat.not_lt_zero _), Below.refl _ _⟩
  case round =>
    obtain ⟨i, hi, rfl, HI⟩ := hrel
    obtain ⟨⟨x0, x1, x2⟩, f0, f1, f2⟩ := r3 (HX.out wr HI.out.2).1
    obtain ⟨⟨y0, y1, y2⟩, g0, g1, g2⟩ := r3 (HX.out wr HI.out.2).2
    have hM := HM.out
    by_cases hlt : i < n
    · have hltI : (i : Int) < (n : Int) := by omega
      have hms := mless hlt
      obtain ⟨ga, rfl, d0⟩ := rdO_at (HA1.out.on HI.out.2) (lieL_at lie hlt)
      obtain ⟨gb, rfl, d1⟩ := rdO_at (HB1.out.on HI.out.2) (lieL_at lie2 hlt)
      have hbq := txt_beq (lie (i : Nat)) (lie2 (i : Nat))
      cases hq : (lie (i : Nat) == lie2 (i : Nat))
      · rw [hq] at hbq
        go_upto_region 6 with fail
        go_quiet (fail)
        go_wp2_with fail
        go_ret
        refine ⟨?_, HB0.out.trans ((below_dr HI.out.2 _).mono HB0.out.size)⟩
        rw [HSB.out, show ((List.range n).all fun k => lie (k : Nat) == lie2 (k : Nat)) = false from by
          rw [List.all_eq_false]
          exact ⟨i, List.mem_range.2 hlt, by rw [hq]; decide⟩, Bool.and_false]
        rfl
      · rw [hq] at hbq
        have hqe : lie (i : Nat) = lie2 (i : Nat) := eq_of_beq hq
        have HQ := Lib.hid hqe
        clear hqe
        go_upto_region 6 with fail
        go_quiet (fail)
        go_wp2_with fail
        go_roundw
        case rel =>
          refine ⟨i + 1, hlt, by go_num, fun k hk => ?_, below_dr HI.out.2 _⟩
          by_cases e : k = i
          · subst e; exact HQ.out
          · exact HI.out.1 k (by omega)
        case measure => exact hms
    · obtain rfl : i = n := by omega
      have HLie : Hid (∀ k, k < i → lie (k : Nat) = lie2 (k : Nat)) := HI.out.1
      have HBr : Hid (Below W.heap.size W wr) := HI.out.2
      clear HI
      go_upto_region 8 with fail
      clear x0 x1 x2 f0 f1 f2 y0 y1 y2 g0 g1 g2
      go_wp2_with fail
      go_loopw [6] (fun v6 wz => ∃ j : Nat, j ≤ lw ∧ v6 = .int .i64 j ∧ Hid ((∀ k, k < j → wt[k]? = wt2[k]?) ∧ Below W.heap.size W wz)) (fun v6 _ => lw - (intOf v6).toNat)
      case atStart => exact ⟨0, Nat.zero_le _, rfl, fun k hk => absurd hk (Nat.not_lt_zero _), HBr.out⟩
      case round =>
        obtain ⟨j, hj, rfl, HJ⟩ := hrel
        obtain ⟨⟨x0, x1, x2⟩, f0, f1, f2⟩ := r3 (HX.out wr HJ.out.2).1
        obtain ⟨⟨y0, y1, y2⟩, g0, g1, g2⟩ := r3 (HX.out wr HJ.out.2).2
        have hM := HM.out
        by_cases hlt : j < lw
        · have hltI : (j : Int) < (lw : Int) := by omega
          have hms := mless hlt
          obtain ⟨x, hx⟩ : ∃ x, wt[j]? = some x := ⟨_, List.getElem?_eq_getElem (by have := HLw.out; omega)⟩
          obtain ⟨y, hy⟩ : ∃ x, wt2[j]? = some x := ⟨_, List.getElem?_eq_getElem (by have := HLw2.out; omega)⟩
          obtain ⟨ga, rfl, c0⟩ := rdO_at (HA2.out.on HJ.out.2) (putsL_at hx).1
          obtain ⟨ga', e2, c1⟩ := rdO_at (HA2.out.on HJ.out.2) (putsL_at hx).2
          injection e2 with e2
          injection e2 with e2
          subst e2
          obtain ⟨gb, rfl, d0⟩ := rdO_at (HB2.out.on HJ.out.2) (putsL_at hy).1
          obtain ⟨gb', e2, d1⟩ := rdO_at (HB2.out.on HJ.out.2) (putsL_at hy).2
          injection e2 with e2
          injection e2 with e2
          subst e2
          have HXx := Lib.hid hx
          have HYy := Lib.hid hy
          have hbq := txt_beq x.2 y.2
          clear hx hy
          have hxy : ∀ w : World, (Op.equalIn 10000 48 (.agg #[.int .i64 x.1, .string (txt x.2)]) (.agg #[.int .i64 y.1, .string (txt y.2)])).run Try.prog w = .ok (x == y) w := fun w => by
            rw [put_eq, hbq]
            rfl
          clear hbq
          cases hq : (x == y)
          · rw [hq] at hxy
            have HNe : Hid (wt ≠ wt2) := fun h => by
              have h1 := HXx.out
              rw [h, HYy.out] at h1
              injection h1 with h1
              rw [h1, beq_self_eq_true] at hq
              cases hq
            clear hq
            go_upto_region 11 with fail
            go_quiet (fail)
            go_wp2_with fail
            go_ret
            refine ⟨?_, HB0.out.trans ((below_dr HJ.out.2 _).mono HB0.out.size)⟩
            rw [HSB.out, beq_false_of_ne HNe.out]
            simp
          · rw [hq] at hxy
            have HEq : Hid (x = y) := eq_of_beq hq
            clear hq
            go_upto_region 11 with fail
            go_quiet (fail)
            go_wp2_with fail
            go_roundw
            case rel =>
              refine ⟨j + 1, hlt, by go_num, fun k hk => ?_, below_dr HJ.out.2 _⟩
              by_cases e : k = j
              · subst e; rw [HXx.out, HYy.out, HEq.out]
              · exact HJ.out.1 k (by omega)
            case measure => exact hms
        · obtain rfl : j = lw := by omega
          go_wp2_with fail
          go_ret
          refine ⟨?_, HB0.out.trans (HJ.out.2.mono HB0.out.size)⟩
          have hwe : wt = wt2 := by
            apply List.ext_getElem?
            intro k
            by_cases hk : k < j
            · exact HJ.out.1 k hk
            · rw [List.getElem?_eq_none (by have := HLw.out; omega), List.getElem?_eq_none (by have := HLw2.out; omega)]
          rw [HSB.out, hwe, show ((List.range i).all fun k => lie (k : Nat) == lie2 (k : Nat)) = true from by
            rw [List.all_eq_true]
            intro k hk
            rw [HLie.out k (List.mem_range.1 hk), beq_self_eq_true]]
          simp

end Go.Proofs.Ytekeooeapiodmaa

