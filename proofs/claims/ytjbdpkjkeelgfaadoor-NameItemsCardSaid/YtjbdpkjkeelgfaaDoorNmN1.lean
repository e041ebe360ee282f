/- What the document's Of needs: few, Shape, Bare; which items are an endpoint's, a name's. -/
import Derived.Test.YtjbdpkjkeelgfaaDoorNmK5
namespace Go.Proofs.YtjbdpkjkeelgfaaDoor
open Go Go.RowKit Go.Shelf
set_option linter.unusedSimpArgs false
set_option linter.unusedVariables false
set_option maxRecDepth 100000

/-- No number in it is below nought, so deep. -/
def It.nn : Nat → It → Prop
  | 0, x => 0 ≤ x.n
  | d + 1, x => 0 ≤ x.n ∧ ∀ y ∈ x.l, It.nn d y

theorem ItV.kids {w : World} {B : Nat} {v : Value} {x y : It} (h : ItV w B v x) (hy : y ∈ x.l) : ∃ u, ItV w B u y := by
  obtain ⟨a, c, A, C, rfl⟩ := h.form
  rcases h.list.1 with h0 | ⟨g, o, _, _, hL⟩
  · rw [h0] at hy; cases hy
  · obtain ⟨i, hi, rfl⟩ := List.getElem_of_mem hy
    obtain ⟨u, _, hu⟩ := ItL.at hL (List.getElem?_eq_getElem hi)
    exact ⟨u, hu⟩

theorem ItV.nn {w : World} {B : Nat} : ∀ (d : Nat) {v : Value} {x : It}, ItV w B v x → x.nn d
  | 0, v, x, h => h.u64.1
  | d + 1, v, x, h => ⟨h.u64.1, fun y hy => by
    obtain ⟨u, hu⟩ := h.kids hy
    exact ItV.nn d hu⟩

theorem It.nn_n {d : Nat} {x : It} (h : x.nn d) : 0 ≤ x.n := by
  cases d with
  | zero => exact h
  | succ d => exact h.1

theorem shL_eq {x : It} {n : Nat} (h : shL x n = true) : x = itLs x.l := by
  obtain ⟨k, m, b, s, l⟩ := x
  simp only [shL, Bool.and_eq_true, decide_eq_true_eq, It.k, It.n, It.b, It.s, It.l] at h ⊢
  have h2 := (It.same_iff _ _).1 h.2
  simp only [itLs, It.mk.injEq] at h2 ⊢
  simp [h2]

theorem sv_iff {n m : Nat} : sv n m = true ↔ (0 < n ∧ n ≤ 4294967295 ∧ m ≤ 4294967295) := by simp [sv]

/-- Which items are an endpoint's. -/
theorem epI_some {x : It} {n m : Nat} (hx : x.nn 2) (h : epI x = some (n, m)) : x = itE n m ∧ (0 < n ∨ m = 0) ∧ n ≤ 4294967295 ∧ m ≤ 4294967295 := by
  cases hs : shL x 2 with
  | false => rw [epI_sh hs] at h; cases h
  | true =>
    obtain ⟨y0, y1, hl⟩ := shL_two hs
    have ex := shL_eq hs
    rw [hl] at ex
    rw [epI_two hs hl] at h
    have n0 : y0.nn 1 := hx.2 y0 (by rw [hl]; simp)
    have n1 : y1.nn 1 := hx.2 y1 (by rw [hl]; simp)
    cases h0 : nuN y0 with
    | none => rw [h0] at h; cases h
    | some k0 =>
      have e0 := nuN_some n0.1 h0
      rw [h0] at h
      match k0, h, e0 with
      | 1, h, e0 =>
        cases h1 : nuN y1 with
        | none => rw [h1] at h; cases h
        | some k1 =>
          have e1 := nuN_some n1.1 h1
          rw [h1] at h
          match k1, h, e1 with
          | 0, h, e1 =>
            simp only [Option.some.injEq, Prod.mk.injEq] at h
            obtain ⟨rfl, rfl⟩ := h
            refine ⟨?_, .inr rfl, by omega, by omega⟩
            rw [ex, e0, e1]
            rfl
      | 2, h, e0 =>
        have h : epY y1 = some (n, m) := h
        cases hs1 : shL y1 2 with
        | false => rw [epY_sh hs1] at h; cases h
        | true =>
          obtain ⟨z0, z1, hl1⟩ := shL_two hs1
          have ey := shL_eq hs1
          rw [hl1] at ey
          rw [epY_two hs1 hl1, epZ] at h
          have m0 : 0 ≤ z0.n := n1.2 z0 (by rw [hl1]; simp)
          have m1 : 0 ≤ z1.n := n1.2 z1 (by rw [hl1]; simp)
          cases g0 : nuN z0 with
          | none => rw [g0] at h; cases h
          | some p0 =>
            cases g1 : nuN z1 with
            | none => rw [g0, g1] at h; cases h
            | some p1 =>
              rw [g0, g1] at h
              have f0 := nuN_some m0 g0
              have f1 := nuN_some m1 g1
              simp only at h
              by_cases hv : sv p0 p1 = true
              · rw [if_pos hv] at h
                simp only [Option.some.injEq, Prod.mk.injEq] at h
                obtain ⟨rfl, rfl⟩ := h
                have hv' := sv_iff.1 hv
                refine ⟨?_, .inl hv'.1, hv'.2.1, hv'.2.2⟩
                rw [ex, e0, ey, f0, f1, itE, if_neg (by omega)]
                rfl
              · rw [if_neg hv] at h; cases h

theorem nmB_iff {n t q : Nat} : nmB n t q = true ↔ (0 < n ∧ t ≤ forever ∧ q ≤ 4294967295) := by simp [nmB]

theorem nmI_some {x : It} {n m t q : Nat} (hx : x.nn 3) (h : nmI x = some (n, m, t, q)) : x = itN n m t q ∧ (0 < n ∧ n ≤ 4294967295 ∧ m ≤ 4294967295 ∧ t ≤ forever ∧ q ≤ 4294967295) := by
  cases hs : shL x 3 with
  | false => rw [nmI_sh hs] at h; cases h
  | true =>
    obtain ⟨y0, y1, y2, hl⟩ := shL_three hs
    have ex := shL_eq hs
    rw [hl] at ex
    rw [nmI_three hs hl, nmZ] at h
    have n0 : y0.nn 2 := hx.2 y0 (by rw [hl]; simp)
    have n1 : y1.nn 2 := hx.2 y1 (by rw [hl]; simp)
    have n2 : y2.nn 2 := hx.2 y2 (by rw [hl]; simp)
    cases h0 : epI y0 with
    | none => rw [h0] at h; cases h
    | some p =>
      obtain ⟨a, b⟩ := p
      cases h1 : nuN y1 with
      | none => rw [h0, h1] at h; cases h
      | some k1 =>
        cases h2 : nuN y2 with
        | none => rw [h0, h1, h2] at h; cases h
        | some k2 =>
          rw [h0, h1, h2] at h
          have e0 := epI_some n0 h0
          have e1 := nuN_some n1.1 h1
          have e2 := nuN_some n2.1 h2
          simp only at h
          by_cases hv : nmB a k1 k2 = true
          · rw [if_pos hv] at h
            simp only [Option.some.injEq, Prod.mk.injEq] at h
            obtain ⟨rfl, rfl, rfl, rfl⟩ := h
            have hv' := nmB_iff.1 hv
            refine ⟨?_, hv'.1, e0.2.2.1, e0.2.2.2, hv'.2.1, hv'.2.2⟩
            rw [ex, e0.1, e1, e2]
            rfl
          · rw [if_neg hv] at h; cases h

/-- What few answers. -/
def FewP (w : World) (x : It) (d : Nat) (e : Ending) (w' : World) : Prop := ∃ q, e = .returned (.bool q) ∧ (q = true → x.depth ≤ d) ∧ Below w.heap.size w w'

set_option maxHeartbeats 8000000 in
theorem few_any : ∀ (x : It) (v : Value) (d : Nat) (w : World), d ≤ 100 → ItV w w.heap.size v x → Calls Tryd.prog 30 #[v, .int .i64 d] w (FewP w x d) := by
  refine It.ind fun k n b s l ih v d w hd hv => ?_
  simp only [ItV] at hv
  obtain ⟨A, ⟨a, c, C, rfl, ⟨hc, hC⟩, hrb, hn, hk, hsb, hss, hsl⟩, hl⟩ := hv
  simp only [Sz] at hsb hss hsl
  have HL := Lib.hid hl
  have IH := Lib.hid ih
  obtain ⟨W0, hW0⟩ : ∃ W, W = w.alloc (.cells #[.int .i64 k, .int .u64 n, .slice a b.length c, .string ⟨s.toArray⟩, .slice A l.length C] 33) := ⟨_, rfl⟩
  have HB : Hid (Below w.heap.size w W0) := by rw [hW0]; exact below_al (Below.refl _ _) _
  have hs0 : w.heap.size < W0.heap.size := by rw [hW0]; simp
  have HC : Hid (∀ w', Below W0.heap.size W0 w' → w'.cell? ⟨w.heap.size, 2, none⟩ = some (.slice a b.length c) ∧ w'.cell? ⟨w.heap.size, 3, none⟩ = some (.string ⟨s.toArray⟩) ∧ w'.cell? ⟨w.heap.size, 4, none⟩ = some (.slice A l.length C)) := fun w' h => by
    have hh := fun i => (h.cell (p := ⟨w.heap.size, i, none⟩) hs0).trans (by rw [hW0, World.cell?_alloc_mark] : W0.cell? ⟨w.heap.size, i, none⟩ = (#[.int .i64 k, .int .u64 n, .slice a b.length c, .string ⟨s.toArray⟩, .slice A l.length C])[i]?)
    exact ⟨hh 2, hh 3, hh 4⟩
  have HW := Lib.hid hW0
  have hsz : (⟨s.toArray⟩ : ByteArray).size = s.length := by simp [ByteArray.size]
  clear hW0 hl ih hrb hn hk
  obtain ⟨x2, x3, x4⟩ := HC.out W0 (Below.refl _ _)
  by_cases h1 : 5 < l.length
  · have h1' : (5 : Int) < (l.length : Int) := by omega
    clear h1
    go_enter Tryd.func30, Tryd.ntmps30
    go_wp2_with fail
    rw [← HW.out]
    go_wp2
    go_ret
    exact ⟨false, rfl, (fun h => nomatch h), HB.out⟩
  have h1' : ¬ (5 : Int) < (l.length : Int) := by omega
  by_cases h2 : 100 < b.length
  · have h2' : (100 : Int) < (b.length : Int) := by omega
    clear h1 h2
    go_enter Tryd.func30, Tryd.ntmps30
    go_wp2_with fail
    rw [← HW.out]
    go_wp2
    go_ret
    exact ⟨false, rfl, (fun h => nomatch h), HB.out⟩
  have h2' : ¬ (100 : Int) < (b.length : Int) := by omega
  by_cases h3 : 100 < s.length
  · have h3' : (100 : Int) < (s.length : Int) := by omega
    clear h1 h2 h3
    go_enter Tryd.func30, Tryd.ntmps30
    go_wp2_with fail
    rw [← HW.out]
    go_wp2
    go_ret
    exact ⟨false, rfl, (fun h => nomatch h), HB.out⟩
  have h3' : ¬ (100 : Int) < (s.length : Int) := by omega
  by_cases h4 : d = 0
  · subst h4
    clear h1 h2 h3
    go_enter Tryd.func30, Tryd.ntmps30
    go_wp2_with fail
    rw [← HW.out]
    go_wp2
    go_ret
    exact ⟨false, rfl, (fun h => nomatch h), HB.out⟩
  obtain ⟨d', rfl⟩ : ∃ d', d = d' + 1 := ⟨d - 1, by omega⟩
  have h4' : (((d' + 1 : Nat) : Int) == 0) = false := by simp; omega
  have h4'' : ¬ ((d' + 1 : Nat) : Int) = 0 := by omega
  have h4s : (((d' : Int) + 1) == 0) = false := by simp; omega
  have h4t : ¬ ((d' : Int) + 1) = 0 := by omega
  have hdw : IntKind.i64.wrap (d' : Int) = (d' : Int) := by rw [IntKind.wrap_i64]; omega
  clear h1 h2 h3 h4
  go_enter Tryd.func30, Tryd.ntmps30
  go_wp2_with fail
  rw [← HW.out]
  clear x2 x3 x4
  go_loopw [5] (fun i wr => ∃ j : Nat, j ≤ l.length ∧ i = .int .i64 j ∧ Hid (Below W0.heap.size W0 wr ∧ It.depth.depthL (l.take j) ≤ d')) (fun i _ => l.length - (intOf i).toNat)
  case atStart => exact ⟨0, Nat.zero_le _, rfl, Below.refl _ _, by simp [It.depth.depthL]⟩
  case round =>
    obtain ⟨j, hj, rfl, HI⟩ := hrel
    obtain ⟨_, _, y4⟩ := HC.out wr HI.out.1
    by_cases hlt : j < l.length
    · have hBw : Below w.heap.size w wr := HB.out.trans (HI.out.1.mono HB.out.size)
      obtain ⟨g, o, rfl, hg, hlL⟩ : ∃ g o, A = some ⟨g, o, none⟩ ∧ g < w.heap.size ∧ ItL w w.heap.size g o l := by
        rcases HL.out with rfl | h
        · simp at hlt
        · exact h
      obtain ⟨p1, p2, p3, p4, hv5, e0, e1, e2, e3, e4⟩ := hlL.get (List.getElem?_eq_getElem hlt) hBw hg
      have HF := Lib.hid (IH.out l[j] (List.getElem_mem hlt) _ d' wr (by omega) (ItV.mono hBw.size _ hv5))
      have HDL := Lib.hid (depthL_step l j hlt)
      clear hlL hv5 hBw
      go_wp2_with fail
      refine HF.out.mono ?_
      rintro e w1 ⟨q, rfl, hq, hb1⟩
      have HB1 : Hid (Below W0.heap.size W0 w1) := HI.out.1.trans (hb1.mono HI.out.1.size)
      have HQ := Lib.hid hq
      clear hb1 hq e0 e1 e2 e3 e4 y4
      cases q
      · go_wp2
        go_ret
        exact ⟨false, rfl, (fun h => nomatch h), HB.out.trans (HB1.out.mono HB.out.size)⟩
      · go_wp2_with fail
        go_roundw
        case rel => exact ⟨j + 1, by omega, by go_num, HB1.out, by rw [HDL.out]; have h1 := HQ.out (by first | trivial | rfl); have h2 := HI.out.2; omega⟩
        case measure => simp [intOf]; omega
    · obtain rfl : j = l.length := by omega
      go_wp2
      go_ret
      refine ⟨true, rfl, fun _ => ?_, HB.out.trans (HI.out.1.mono HB.out.size)⟩
      have := HI.out.2
      rw [List.take_length] at this
      simp only [It.depth]
      omega

end Go.Proofs.YtjbdpkjkeelgfaaDoor
