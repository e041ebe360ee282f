/- CborSame, walked. -/
import Derived.Test.YtncemmhbbkpieaaDoorItNum
import Derived.Test.YtncemmhbbkpieaaDoorCbS3
import Derived.Test.YtncemmhbbkpieaaDoorCbT
import Derived.Test.YtncemmhbbkpieaaDoorCbX
import Derived.Test.YtncemmhbbkpieaaDoorCbBx
namespace Go.Proofs.YtncemmhbbkpieaaDoor
open Go.RowKit Go.Shelf
set_option linter.unusedSimpArgs false
set_option linter.unusedVariables false
attribute [local go_sem] Oper.semAt_some

theorem same_comm (x y : It) : x.same y = y.same x := by
  rw [Bool.eq_iff_iff, It.same_iff, It.same_iff]
  exact ⟨Eq.symm, Eq.symm⟩

set_option maxRecDepth 100000 in
set_option maxHeartbeats 4000000 in
/-- What is counted at most 3000 has at most 3000 items. -/
theorem count_len : ∀ (x : It) (m : Nat) (v : Value) (w : World), m ≤ 100 → ItV w w.heap.size v x →
    Calls Tryd.prog 13 #[v, .int .i64 m] w fun e w' => (∃ q : Nat, e = .returned (.int .i64 q) ∧ q ≤ 3001 ∧ 1 ≤ q ∧ (q ≤ 3000 → x.depth ≤ m + 1 ∧ x.l.length ≤ q)) ∧ Below w.heap.size w w' := by
  refine It.ind fun k n b s l ih m v w hm hv => ?_
  simp only [ItV] at hv
  obtain ⟨A, ⟨a, c, C, rfl, ⟨hc, hC⟩, hrb, hn, hk, hsb, hss, hsl⟩, hl⟩ := hv
  simp only [Sz] at hsb hss hsl
  have HL := Lib.hid hl
  have IH := Lib.hid ih
  clear hrb hl hn ih hk
  have hs1 : (⟨s.toArray⟩ : ByteArray).size = s.length := by simp [ByteArray.size]
  go_enter Tryd.func13, Tryd.ntmps13
  go_wp2_with fail
  go_loopw [5, 6] (fun d i wr => ∃ j q : Nat, j ≤ l.length ∧ i = .int .i64 j ∧ d = .int .i64 q ∧ q ≤ 281474976710657 ∧ j + 1 ≤ q ∧ Hid (q ≤ 3000 → It.depth.depthL (l.take j) ≤ m) ∧
      Hid (Below (w.alloc (.cells #[.int .i64 k, .int .u64 n, .slice a b.length c, .string ⟨s.toArray⟩, .slice A l.length C] 28)).heap.size (w.alloc (.cells #[.int .i64 k, .int .u64 n, .slice a b.length c, .string ⟨s.toArray⟩, .slice A l.length C] 28)) wr))
    (fun _ i _ => l.length - (intOf i).toNat)
  case atStart => exact ⟨0, 1 + b.length + s.length, Nat.zero_le _, rfl, by simp, by omega, by omega, fun _ => by simp [It.depth.depthL], Below.refl _ _⟩
  case round =>
    obtain ⟨j, q, hj, rfl, rfl, hq, hjq, HD, HB⟩ := hrel
    have hcell : wr.cell? ⟨w.heap.size, 4, none⟩ = some (.slice A l.length C) := by
      rw [HB.out.cell (by simp)]
      simp
    by_cases hlt : j < l.length
    · by_cases hq3 : q ≤ 3000
      · by_cases hm0 : m = 0
        · subst hm0
          go_wp2_with fail
          go_ret
          exact ⟨⟨3001, by simp, Nat.le_refl _, by decide, fun h => absurd h (by decide)⟩, ((Below.refl _ _).alloc (Nat.le_refl _) _).trans (HB.out.mono (by simp))⟩
        · obtain ⟨g, o, rfl, hg, hlL⟩ : ∃ g o, A = some ⟨g, o, none⟩ ∧ g < w.heap.size ∧ ItL w w.heap.size g o l := by
            rcases HL.out with rfl | h
            · simp at hlt
            · exact h
          obtain ⟨v5, h5, hv5⟩ := ItL.at hlL (List.getElem?_eq_getElem hlt)
          have hB0 : Below w.heap.size w wr := ((Below.refl _ _).alloc (Nat.le_refl _) _).trans (HB.out.mono (by simp))
          have h5' := h5.below hB0 hg
          obtain ⟨v0, v1, v2, v3, v4, rfl, e0, e1, e2, e3, e4⟩ := h5'
          clear hlL h5
          have HV5 := Lib.hid (ItV.mono hB0.size _ (ItV.below hB0 _ hv5))
          clear hv5
          have HST := Lib.hid (depthL_step l j hlt)
          have IH1 : Hid (∀ (v : Value) (w : World), ItV w w.heap.size v l[j] → Calls Tryd.prog 13 #[v, .int .i64 ((m : Int) - 1)] w fun e w' => (∃ q : Nat, e = .returned (.int .i64 q) ∧ q ≤ 3001 ∧ 1 ≤ q ∧ (q ≤ 3000 → l[j].depth ≤ m ∧ l[j].l.length ≤ q)) ∧ Below w.heap.size w w') := by
            intro v w hv
            have h := IH.out l[j] (List.getElem_mem hlt) (m - 1) v w (by omega) hv
            have e1 : ((m - 1 : Nat) : Int) = (m : Int) - 1 := by omega
            have e2 : m - 1 + 1 = m := by omega
            rw [e1, e2] at h
            exact h
          go_wp2_with fail
          refine (IH1.out _ _ HV5.out).mono ?_
          rintro e w1 ⟨⟨q1, rfl, hq1, hq11, hd1⟩, hb1⟩
          have HD1 := Lib.hid hd1
          have HB1 : Hid (Below (w.alloc (.cells #[.int .i64 k, .int .u64 n, .slice a b.length c, .string ⟨s.toArray⟩, .slice (some ⟨g, o, none⟩) l.length C] 28)).heap.size (w.alloc (.cells #[.int .i64 k, .int .u64 n, .slice a b.length c, .string ⟨s.toArray⟩, .slice (some ⟨g, o, none⟩) l.length C] 28)) w1) := below_on HB.out hb1
          clear hb1 hd1 e0 e1 e2 e3 e4 hcell
          go_wp2_with fail
          go_roundw
          case rel => exact ⟨j + 1, q + q1, by omega, by go_num, by go_num, by omega, by omega, fun h => by
            rw [HST.out]
            have h1 := HD.out hq3
            have h2 := (HD1.out (by omega)).1
            omega, HB1⟩
          case measure => simp [intOf]; omega
      · by_cases hq4 : (3001 : Int) < q
        · go_wp2_with fail
          go_ret
          exact ⟨⟨3001, by simp; omega, Nat.le_refl _, by decide, fun h => absurd h (by decide)⟩, ((Below.refl _ _).alloc (Nat.le_refl _) _).trans (HB.out.mono (by simp))⟩
        · go_wp2_with fail
          go_ret
          exact ⟨⟨q, by simp; omega, by omega, by omega, fun h => absurd h hq3⟩, ((Below.refl _ _).alloc (Nat.le_refl _) _).trans (HB.out.mono (by simp))⟩
    · obtain rfl : j = l.length := by omega
      rw [List.take_length] at HD
      by_cases hq4 : (3001 : Int) < q
      · go_wp2_with fail
        go_ret
        exact ⟨⟨3001, by simp; omega, Nat.le_refl _, by decide, fun h => absurd h (by decide)⟩, ((Below.refl _ _).alloc (Nat.le_refl _) _).trans (HB.out.mono (by simp))⟩
      · go_wp2_with fail
        go_ret
        exact ⟨⟨q, by simp; omega, by omega, by omega, fun h => by have := HD.out h; simp only [It.depth, It.l]; exact ⟨by omega, by omega⟩⟩, ((Below.refl _ _).alloc (Nat.le_refl _) _).trans (HB.out.mono (by simp))⟩


theorem numsL_le (l : List It) : (numsL l).length ≤ l.length := by
  unfold numsL
  rw [List.length_map]
  exact List.length_filter_le _ _

/-- The way out behind two loops. -/
theorem marks_two {P : Program} {fn : Func} {R : Ending → World → Prop} {tmps : Array Value} {w : World} {v : Value} {D1 D2 : Nat} (h2 : w.heap[D2]? = some (.deferred (some []))) (h1 : (w.putObj D2 (.deferred none)).heap[D1]? = some (.deferred (some [])))
    (hr : (results fn tmps).run P ((w.putObj D2 (.deferred none)).putObj D1 (.deferred none)) = .ok v ((w.putObj D2 (.deferred none)).putObj D1 (.deferred none))) (hR : R (.returned v) ((w.putObj D2 (.deferred none)).putObj D1 (.deferred none))) :
    bodyPostM Fence.wide 9 P fn R .ret { tmps := tmps, defers := [{ target := .collected D2, args := #[] }, { target := .collected D1, args := #[] }] } w :=
  ⟨by simp, .inl ⟨_, _, rfl, run_takeDeferred h2, by simp, .inl ⟨_, _, rfl, run_takeDeferred h1, v, hr, hR⟩⟩⟩

theorem notS {n7 B nb : Nat} {X : World} (h1 : n7 ≤ nb) (h2 : nb < B) : ¬ SinceB (· < n7) (B + 2) X nb := fun h => h.elim (fun h => absurd h (Nat.not_lt.2 h1)) (fun h => by have := h.1; omega)

/-- What the box of a number holds. -/
def atOf (ab : Nat) (X : World) : Nat := match X.cell? ⟨ab, 0, none⟩ with | some (.int _ z) => z.toNat | _ => 0

theorem atOf_eq {ab p : Nat} {X : World} {t : TypeId} (h : Boxed X ab t (.int .i64 p)) : atOf ab X = p := by
  unfold atOf
  rw [h.cell]
  simp

theorem Rows5.on {w w' : World} {A : Option Addr} {l : List It} {V : Nat → Value} (h : Rows5 w A l V) (hb : Below w.heap.size w w') : Rows5 w' A l V := fun k hk => by
  obtain ⟨g, o', a2, n2, c2', s3, a4, n4, c4', e1, e2, e3, c0, c1, c2, c3, c4⟩ := h k hk
  exact ⟨g, o', a2, n2, c2', s3, a4, n4, c4', e1, e2, Nat.lt_of_lt_of_le e3 hb.size, (hb.cell (p := ⟨g, _, none⟩) e3).trans c0, (hb.cell (p := ⟨g, _, none⟩) e3).trans c1, (hb.cell (p := ⟨g, _, none⟩) e3).trans c2, (hb.cell (p := ⟨g, _, none⟩) e3).trans c3, (hb.cell (p := ⟨g, _, none⟩) e3).trans c4⟩

/-- The kinds and numbers of an item's items, in memory. -/
theorem ItV.rows {w : World} {x : It} {a : Option Addr} {c : Nat} {A : Option Addr} {C : Nat} (h : ItV w w.heap.size (.agg #[.int .i64 x.k, .int .u64 x.n, .slice a x.b.length c, .string ⟨x.s.toArray⟩, .slice A x.l.length C]) x) (k : Nat) (hk : k < x.l.length) :
    ∃ g o, A = some ⟨g, o, none⟩ ∧ w.cell? ⟨g, o + k * 5, none⟩ = some (.int .i64 x.l[k].k) ∧ w.cell? ⟨g, o + k * 5 + 1, none⟩ = some (.int .u64 x.l[k].n) := by
  obtain ⟨xk, xn, xb, xs, xl⟩ := x
  simp only [ItV] at h
  obtain ⟨A1, ⟨a1, c1, C1, he, _⟩, hl⟩ := h
  simp only [It.k, It.n, It.b, It.s, It.l] at he hk ⊢
  have hA : A = A1 := by
    have := congrArg (fun v => match v with | Value.agg vs => vs[4]? | _ => none) he
    simp at this
    exact this.1
  rcases hl with rfl | ⟨g, o, rfl, hg, hl⟩
  · simp at hk
  · obtain ⟨_, _, _, _, h0, h1, _⟩ := hl.cells hg k hk
    exact ⟨g, o, hA, h0, h1⟩

/-- Where a turn stands: m numbers have come, at is behind the last one. -/
def TurnI (w7 : World) (x : It) (tb nb ab : Nat) (t : Int) (D : World → Prop) (m : Nat) (X : World) : Prop :=
  (Boxed X nb 3 (.int .i64 m) ∧ ∃ p : Nat, p ≤ x.l.length ∧ cntL (uL x) p = m ∧ Boxed X ab 3 (.int .i64 p)) ∧ Boxed X tb 3 (.int .i64 t) ∧ Below w7.heap.size w7 X ∧ D X

theorem turnI_own {w7 : World} {x : It} {tb nb ab : Nat} {t : Int} {D : World → Prop} {B : Nat} (hB : w7.heap.size ≤ B) (hD : OwnFrom B (fun (_ : Unit) X => D X)) : OwnFrom B (TurnI w7 x tb nb ab t D) := fun m X Y row hs hg hr => by
  obtain ⟨⟨h1, p, hp, hc, h2⟩, h3, h4, h5⟩ := hs
  have ob : ∀ (b : Nat) (v : Value), Boxed X b 3 v → Boxed Y b 3 v := fun b v h => ((boxed_own (β := Unit) b 3 (fun _ => v)).from B) () X Y row h hg hr
  exact ⟨⟨ob _ _ h1, p, hp, hc, ob _ _ h2⟩, ob _ _ h3, (ownFrom_below (β := Unit) (n₀ := w7.heap.size) (B := B) (w₀ := w7) (Nat.le_refl _) hB) () X Y row h4 hg hr, hD () X Y row h5 hg hr⟩

theorem boxed_below {w w' : World} {b B : Nat} {t : TypeId} {v : Value} (h : Boxed w b t v) (hb : Below B w w') (hlt : b < B) : Boxed w' b t v := (hb.block b hlt).trans h

set_option maxRecDepth 100000 in
set_option maxHeartbeats 8000000 in
theorem csame_walk (x y : It) (v0 v1 v2 v3 v4 u0 u1 u2 u3 u4 : Value) (many : Int) (w : World) (ht : TabW w) (hv : ItV w w.heap.size (.agg #[v0, v1, v2, v3, v4]) x) (hu : ItV w w.heap.size (.agg #[u0, u1, u2, u3, u4]) y) :
    Calls Tryd.prog 4 #[.agg #[v0, v1, v2, v3, v4], .agg #[u0, u1, u2, u3, u4], .int .i64 many] w fun e w' => e = .returned (.bool true) ∧ Below w.heap.size w w' := by
  obtain ⟨W0, hW0⟩ : ∃ W0, W0 = (((w.alloc (.cells #[v0, v1, v2, v3, v4] 28)).alloc (.cells #[u0, u1, u2, u3, u4] 28)).alloc (.cells #[.int .i64 many] 3)).alloc (.cells #[.bool false] 4) := ⟨_, rfl⟩
  have hbAB : Below (w.heap.size + 2) ((w.alloc (.cells #[v0, v1, v2, v3, v4] 28)).alloc (.cells #[u0, u1, u2, u3, u4] 28)) W0 := by rw [hW0]; exact ((Below.refl _ _).alloc (by simp) _).alloc (by simp) _
  have hsW : W0.heap.size ≤ w.heap.size + 4 ∧ w.heap.size + 4 ≤ W0.heap.size := by rw [hW0]; simp
  have HB0 : Hid (Below w.heap.size w W0) := by rw [hW0]; exact below_al (below_al (below_al (below_al (Below.refl _ _) _) _) _) _
  have HX : Hid (∀ w', Below W0.heap.size W0 w' → Box5 w' w.heap.size v0 v1 v2 v3 v4 ∧ Box5 w' (w.heap.size + 1) u0 u1 u2 u3 u4) := fun w' h =>
    boxes_later w v0 v1 v2 v3 v4 u0 u1 u2 u3 u4 28 w' (by simp only [World.size_alloc]; exact hbAB.trans (h.mono (by omega)))
  have bM : Boxed W0 (w.heap.size + 1 + 1) 3 (.int .i64 many) := by
    rw [hW0]
    have h := (Boxed.new ((w.alloc (.cells #[v0, v1, v2, v3, v4] 28)).alloc (.cells #[u0, u1, u2, u3, u4] 28)) 3 (.int .i64 many)).alloc (.cells #[.bool false] 4)
    simpa using h
  have bR : Boxed W0 (w.heap.size + 1 + 1 + 1) 4 (.bool false) := by
    rw [hW0]
    have h := Boxed.new (((w.alloc (.cells #[v0, v1, v2, v3, v4] 28)).alloc (.cells #[u0, u1, u2, u3, u4] 28)).alloc (.cells #[.int .i64 many] 3)) 4 (.bool false)
    simpa using h
  have HBM := Lib.hid bM
  have HBR := Lib.hid bR
  have HV : Hid (∀ w', Below W0.heap.size W0 w' → ItV w' w'.heap.size (.agg #[v0, v1, v2, v3, v4]) x) := fun w' h => (hv.on HB0.out).on h
  have HU : Hid (∀ w', Below W0.heap.size W0 w' → ItV w' w'.heap.size (.agg #[u0, u1, u2, u3, u4]) y) := fun w' h => (hu.on HB0.out).on h
  have HT : Hid (∀ w', Below W0.heap.size W0 w' → TabW w') := fun w' h => (ht.on HB0.out).on h
  have HW0 := Lib.hid hW0
  clear hbAB bM bR hW0 hv hu ht
  refine calls_of_marks Tryd.func4 rfl ?_
  simp only [Tryd.ntmps4, List.size_toArray, List.length_cons, List.length_nil, Nat.reduceAdd, Nat.reduceSub, Array.replicate_succ, Array.replicate_zero, List.push_toArray, List.append_toArray, List.nil_append, List.cons_append]
  go_wp2_with fail
  rw [← HW0.out]
  refine (count_len x 12 _ W0 (by omega) (HV.out W0 (Below.refl _ _))).mono ?_
  rintro e w1 ⟨⟨q1, rfl, hq1, _, hd1⟩, hb1⟩
  have B1 := Lib.hid hb1
  have HD1 := Lib.hid hd1
  clear hb1 hd1
  by_cases h1 : (3000 : Int) < q1
  · go_wp2_with fail
    refine (cworks_any _ (HT.out _ B1.out)).mono ?_
    rintro e w2 ⟨rfl, hb2⟩
    have B2 := Lib.hid (below_on B1.out hb2)
    have hbr := boxed_below HBR.out B2.out (by omega)
    have hc := hbr.cell
    have hf := hbr.frozen
    have HBR2 := Lib.hid hbr
    clear hb2 hbr
    go_wp2_with fail
    refine marks_none (v := .bool true) (by simp [results, Tryd.results4, go_sem, (HBR2.out.set (.bool true)).cell]) ⟨rfl, ?_⟩
    exact (HB0.out.trans (B2.out.mono (by omega))).setCell (p := ⟨w.heap.size + 1 + 1 + 1, 0, none⟩) (by simp; omega) _
  obtain ⟨⟨d0, d1, d2, d3, d4⟩, g0, g1, g2, g3, g4⟩ := HX.out w1 B1.out
  have hh1 : decide ((3000 : Int) < q1) = false := by simp; omega
  go_wp2_with fail
  refine (count_len y 12 _ w1 (by omega) (HU.out w1 B1.out)).mono ?_
  rintro e w2 ⟨⟨q2, rfl, hq2, _, hd2⟩, hb2⟩
  have B2 := Lib.hid (below_on B1.out hb2)
  have HD2 := Lib.hid hd2
  clear hb2 hd2 d0 d1 d2 d3 d4 g0 g1 g2 g3 g4
  by_cases h2 : (3000 : Int) < q2
  · go_wp2_with fail
    refine (cworks_any _ (HT.out _ B2.out)).mono ?_
    rintro e w3 ⟨rfl, hb3⟩
    have B3 := Lib.hid (below_on B2.out hb3)
    have hbr := boxed_below HBR.out B3.out (by omega)
    have hc := hbr.cell
    have hf := hbr.frozen
    have HBR2 := Lib.hid hbr
    clear hb3 hbr
    go_wp2_with fail
    refine marks_none (v := .bool true) (by simp [results, Tryd.results4, go_sem, (HBR2.out.set (.bool true)).cell]) ⟨rfl, ?_⟩
    exact (HB0.out.trans (B3.out.mono (by omega))).setCell (p := ⟨w.heap.size + 1 + 1 + 1, 0, none⟩) (by simp; omega) _
  obtain ⟨hdx, hlx⟩ := HD1.out (by omega)
  obtain ⟨hdy, hly⟩ := HD2.out (by omega)
  have hh2 : decide ((3000 : Int) < q2) = false := by simp; omega
  obtain ⟨⟨d0, d1, d2, d3, d4⟩, g0, g1, g2, g3, g4⟩ := HX.out w2 B2.out
  clear HD1 HD2
  obtain ⟨s, hsm⟩ : ∃ s, s = x.same y := ⟨_, rfl⟩
  have HSM := Lib.hid hsm
  clear hsm
  go_wp2_with fail
  refine (refSame_any x y _ _ w2 (HV.out w2 B2.out) (HU.out w2 B2.out)).mono ?_
  rintro e w3 ⟨rfl, hb3⟩
  rw [← HSM.out]
  have B3 := Lib.hid (below_on B2.out hb3)
  clear hb3 d0 d1 d2 d3 d4 g0 g1 g2 g3 g4 h1 h2 hh1 hh2
  obtain ⟨⟨d0, d1, d2, d3, d4⟩, g0, g1, g2, g3, g4⟩ := HX.out w3 B3.out
  go_wp2_with fail
  refine (cSame_any x y _ _ w3 (by omega) (HV.out w3 B3.out) (HU.out w3 B3.out)).mono ?_
  rintro e w4 ⟨rfl, hb4⟩
  rw [← HSM.out]
  have B4 := Lib.hid (below_on B3.out hb4)
  clear hb4 d0 d1 d2 d3 d4 g0 g1 g2 g3 g4
  obtain ⟨⟨d0, d1, d2, d3, d4⟩, g0, g1, g2, g3, g4⟩ := HX.out w4 B4.out
  go_wp2_with fail
  refine (cSame_any y x _ _ w4 (by omega) (HU.out w4 B4.out) (HV.out w4 B4.out)).mono ?_
  rintro e w5 ⟨rfl, hb5⟩
  rw [same_comm, ← HSM.out]
  have B5 := Lib.hid (below_on B4.out hb5)
  clear hb5 d0 d1 d2 d3 d4 g0 g1 g2 g3 g4
  obtain ⟨⟨d0, d1, d2, d3, d4⟩, g0, g1, g2, g3, g4⟩ := HX.out w5 B5.out
  go_wp2_with fail
  refine (cSame_any x x _ _ w5 (by omega) (HV.out w5 B5.out) (HV.out w5 B5.out)).mono ?_
  rintro e w6 ⟨rfl, hb6⟩
  rw [same_self]
  have B6 := Lib.hid (below_on B5.out hb6)
  clear hb6 d0 d1 d2 d3 d4 g0 g1 g2 g3 g4
  obtain ⟨⟨d0, d1, d2, d3, d4⟩, _⟩ := HX.out w6 B6.out
  go_wp2_with fail
  refine (uints_any x _ w6 (HV.out w6 B6.out) (by omega)).mono ?_
  rintro e w7 ⟨Ns, A', C', V, rfl, hNc, ⟨hN1, hN2⟩, hrw, hA', hb7⟩
  have B7 := Lib.hid (below_on B6.out hb7)
  have HNC := Lib.hid hNc
  have HRW := Lib.hid hrw
  have HA' := Lib.hid hA'
  have hz7 : w.heap.size + 4 ≤ w7.heap.size := by have := B7.out.size; omega
  clear hb7 hNc hrw hA' d0 d1 d2 d3 d4
  obtain ⟨xa, xc, xA, xC, hform⟩ := (HV.out w7 B7.out).form
  simp only [Value.agg.injEq, Array.mk.injEq, List.cons.injEq, and_true] at hform
  obtain ⟨rfl, rfl, rfl, rfl, rfl⟩ := hform
  have HbT0 : Hid (Boxed (w7.alloc (.cells #[.int .i64 0] 3)) w7.heap.size 3 (.int .i64 0)) := Boxed.new w7 _ _
  obtain ⟨W7, hW7⟩ : ∃ W, W = w7.alloc (.cells #[.int .i64 0] 3) := ⟨_, rfl⟩
  have BT0 : Hid (Below w7.heap.size w7 W7) := by rw [hW7]; exact below_al (Below.refl _ _) _
  have hs7 : W7.heap.size ≤ w7.heap.size + 1 ∧ w7.heap.size + 1 ≤ W7.heap.size := by rw [hW7]; simp
  rw [← hW7] at HbT0
  have HW7 := Lib.hid hW7
  clear hW7
  go_wp2_with fail
  rw [← HW7.out]
  refine wp_loop_rounds 3 ?_

  rw [rounds_succ]
  have t0c := (HbT0.out).cell
  go_wp2_with fail
  have b0n : Boxed ((W7.alloc (.cells #[.int .i64 0] 3)).alloc (.cells #[.int .i64 0] 3)) W7.heap.size 3 (.int .i64 ((0 : Nat) : Int)) := (Boxed.new W7 _ _).alloc _
  have b0a : Boxed ((W7.alloc (.cells #[.int .i64 0] 3)).alloc (.cells #[.int .i64 0] 3)) (W7.heap.size + 1) 3 (.int .i64 ((0 : Nat) : Int)) := by
    have h := Boxed.new (W7.alloc (.cells #[.int .i64 0] 3)) 3 (.int .i64 0)
    rw [World.size_alloc] at h
    exact h
  have b0t : Boxed ((W7.alloc (.cells #[.int .i64 0] 3)).alloc (.cells #[.int .i64 0] 3)) w7.heap.size 3 (.int .i64 0) := ((HbT0.out).alloc _).alloc _
  have b0w : Below w7.heap.size w7 ((W7.alloc (.cells #[.int .i64 0] 3)).alloc (.cells #[.int .i64 0] 3)) := below_al (below_al BT0.out _) _
  obtain ⟨X0, hX0⟩ : ∃ X, X = ((W7.alloc (.cells #[.int .i64 0] 3)).alloc (.cells #[.int .i64 0] 3)) := ⟨_, rfl⟩
  have hs0 : X0.heap.size ≤ W7.heap.size + 2 ∧ W7.heap.size + 2 ≤ X0.heap.size := by rw [hX0]; simp
  rw [← hX0] at b0n b0a b0t b0w ⊢
  have HXX0 := Lib.hid hX0
  have hD0 : (fun _ => True) X0 := trivial
  have HI0 : Hid (TurnI w7 x w7.heap.size W7.heap.size (W7.heap.size + 1) 0 (fun _ => True) 0 X0) := ⟨⟨b0n, 0, Nat.zero_le _, by simp [cntL, numsL], b0a⟩, b0t, b0w, hD0⟩
  have hq0 : w7.heap.size ≤ W7.heap.size := BT0.out.size
  have HO0 := turnI_own (x := x) (tb := w7.heap.size) (nb := W7.heap.size) (ab := W7.heap.size + 1) (t := 0) (D := (fun _ => True)) (B := X0.heap.size) (w7 := w7) (by omega) (fun _ _ _ _ h _ _ => h)
  have hN0 : w7.heap.size ≤ X0.heap.size := by omega
  have HB0w := Lib.hid b0w
  clear b0n b0a b0t hD0 t0c hX0 b0w
  refine wp_rangeGoesO_brk (gf := 52) (lb := #[.pointer (some ⟨Ns, 0, none⟩)]) 12 (fun k => .int .u64 ((numsL (uL x))[k]?.getD 0)) rfl (enters_of Tryd.func52 (by kernel_rfl) rfl)
    (numbers_goes Ns (· < w7.heap.size) A' C' (uL x) V X0 (by have := hlx; unfold uL; split <;> simp <;> omega) (by omega) (fun q hq => (HA'.out q hq).2) (fun b hb => by omega) ((HB0w.out.cell (p := ⟨Ns, 0, none⟩) hN2).trans HNC.out) (HRW.out.on HB0w.out)) (fun b hb => by omega)
    (TurnI w7 x w7.heap.size W7.heap.size (W7.heap.size + 1) 0 (fun _ => True)) (fun X => ∃ m, TurnI w7 x w7.heap.size W7.heap.size (W7.heap.size + 1) 0 (fun _ => True) m X) 2
    HO0 (fun _ X Y row hs hg hr => by obtain ⟨m, h⟩ := hs; exact ⟨m, HO0 m X Y row h hg hr⟩) HI0.out ?assign0 ?body0 (fun X h => ⟨_, h⟩) (fun a X h => wp_exit (by simpa only [Exit.inBlock, if_true, ite_true, beq_self_eq_true] using h)) ?after0
  case assign0 =>
    intro l k Xq K hK
    simp only [List.setIfInBounds_toArray, List.set_cons_succ, List.set_cons_zero] at hK ⊢
    have HK := Lib.hid hK
    clear hK
    gi_wp2
    exact HK.out
  case body0 =>
    rintro l m X hm hl hrec ⟨⟨hnb, pp, hp, hcp, hab⟩, htb, hbw, hD⟩
    have hk4 : x.k = 4 := by
      apply Classical.byContradiction
      intro h
      have : uL x = [] := if_neg h
      rw [this] at hm
      simp [numsL] at hm
    have huL : uL x = x.l := if_pos hk4
    rw [huL] at hcp hm
    have hb0 : Below W0.heap.size W0 X := below_on B7.out hbw
    simp only [List.setIfInBounds_toArray, List.set_cons_succ, List.set_cons_zero]
    have H2 : Hid (Boxed X W7.heap.size 3 (.int .i64 m) ∧ Boxed X w7.heap.size 3 (.int .i64 0) ∧ Below w7.heap.size w7 X ∧ (fun _ => True) X ∧ KeepsFrom X0.heap.size X X ∧ KeepB (SinceB (· < w7.heap.size) (X0.heap.size + 2) X) X X ∧ ∃ p : Nat, p ≤ x.l.length ∧ cntL x.l p = m ∧ Boxed X (W7.heap.size + 1) 3 (.int .i64 p)) :=
      ⟨hnb, htb, hbw, hD, KeepsFrom.refl _ _, fun _ _ => rfl, pp, hp, hcp, hab⟩
    have HU4 := Lib.hid huL
    have HK4 := Lib.hid hk4
    clear hnb hp hcp hab htb hbw hD huL hk4 hb0
    gi_wp2
    gi_loopw [51] (fun _ wr => Hid (Boxed wr W7.heap.size 3 (.int .i64 m) ∧ Boxed wr w7.heap.size 3 (.int .i64 0) ∧ Below w7.heap.size w7 wr ∧ (fun _ => True) wr ∧ KeepsFrom X0.heap.size X wr ∧ KeepB (SinceB (· < w7.heap.size) (X0.heap.size + 2) X) X wr ∧ ∃ p : Nat, p ≤ x.l.length ∧ cntL x.l p = m ∧ Boxed wr (W7.heap.size + 1) 3 (.int .i64 p))) (fun _ wr => x.l.length - atOf (W7.heap.size + 1) wr)
    case atStart => exact H2.out
    case round =>
      have H3 := Lib.hid (Hid.out hrel)
      clear hrel
      obtain ⟨hnb, htb, hbw, hD, hkf, hkb, pp, hp, hcp, hab⟩ := H3.out
      have HN1 := Lib.hid hnb
      have HT1 := Lib.hid htb
      have HW1 := Lib.hid hbw
      have HD9 := Lib.hid hD
      have HKF := Lib.hid hkf
      have HKB := Lib.hid hkb
      have HCP := Lib.hid hcp
      have HA1 := Lib.hid hab
      have HMS := Lib.hid (atOf_eq hab)
      have hb0 : Below W0.heap.size W0 wr := below_on B7.out hbw
      obtain ⟨⟨d0, d1, d2, d3, d4⟩, _⟩ := HX.out wr hb0
      have hvr := HV.out wr hb0
      have a0 := hab.cell
      have af := hab.frozen
      have n0 := hnb.cell
      have nf := hnb.frozen
      have t0 := htb.cell
      have q0 := (boxed_below HBM.out hb0 (by omega)).cell
      by_cases hlt : pp < x.l.length
      · obtain ⟨g, o, hA, e0, e1⟩ := hvr.rows pp hlt
        subst hA
        have HVR := Lib.hid hvr
        clear hnb htb hbw hD hkf hkb hcp hab hvr hb0 hrec H2 H3
        by_cases he : x.l[pp].k = 1
        · obtain ⟨hlt9, hat9⟩ := cntL_at hlt he
          rw [HCP.out] at hlt9 hat9
          have hval : (numsL (uL x))[m]?.getD 0 = x.l[pp].n := by rw [HU4.out, hat9]; rfl
          have HC1 := Lib.hid (cntL_yes hlt he)
          rw [he] at e0
          rw [HK4.out] at d0
          rw [hval]
          have FIN : Hid (KeepsFrom X0.heap.size X ((wr.setCell ⟨W7.heap.size + 1, 0, none⟩ (.int .i64 ((pp : Int) + 1))).setCell ⟨W7.heap.size, 0, none⟩ (.int .i64 ((m : Int) + 1))) ∧
              KeepB (SinceB (· < w7.heap.size) (X0.heap.size + 2) X) X ((wr.setCell ⟨W7.heap.size + 1, 0, none⟩ (.int .i64 ((pp : Int) + 1))).setCell ⟨W7.heap.size, 0, none⟩ (.int .i64 ((m : Int) + 1))) ∧
              TurnI w7 x w7.heap.size W7.heap.size (W7.heap.size + 1) 0 (fun _ => True) (m + 1) ((wr.setCell ⟨W7.heap.size + 1, 0, none⟩ (.int .i64 ((pp : Int) + 1))).setCell ⟨W7.heap.size, 0, none⟩ (.int .i64 ((m : Int) + 1)))) := by
            refine ⟨(HKF.out.trans ((KeepsOthers.setCell _ _ _).from _)).trans ((KeepsOthers.setCell _ _ _).from _), (HKB.out.setCell (p := ⟨W7.heap.size + 1, 0, none⟩) (notS (nb := W7.heap.size + 1) (by omega) (by omega)) _).setCell (p := ⟨W7.heap.size, 0, none⟩) (notS (nb := W7.heap.size) (by omega) (by omega)) _, ⟨?_, pp + 1, by omega, by rw [HU4.out, HC1.out, HCP.out], ?_⟩, ((HT1.out.other (by omega) _).other (by omega) _), (HW1.out.setCell (p := ⟨W7.heap.size + 1, 0, none⟩) (show w7.heap.size ≤ W7.heap.size + 1 by omega) _).setCell (p := ⟨W7.heap.size, 0, none⟩) (show w7.heap.size ≤ W7.heap.size by omega) _, trivial⟩
            · have h := (HN1.out.other (B' := W7.heap.size + 1) (by omega) (.int .i64 ((pp : Int) + 1))).set (.int .i64 ((m : Int) + 1))
              simpa using h
            · have h := (HA1.out.set (.int .i64 ((pp : Int) + 1))).other (B' := W7.heap.size) (by omega) (.int .i64 ((m : Int) + 1))
              simpa using h
          have hm3 : m ≤ 3000 := by
            have h1 := numsL_le x.l
            omega
          clear he hat9 hlt9 hval
          by_cases hmany : many ≤ (m : Int) + 1
          · gi_wp2
            exact ⟨⟨FIN.out.1, FIN.out.2.1⟩, rfl, _, FIN.out.2.2⟩
          · gi_wp2
            exact FIN.out
        · have hne : (x.l[pp].k != 1) = true := by simpa using he
          have HC1 := Lib.hid (cntL_no hlt he)
          clear he
          gi_wp2
          go_roundw
          case rel =>
            refine ⟨HN1.out.other (by omega) _, HT1.out.other (by omega) _, HW1.out.setCell (p := ⟨W7.heap.size + 1, 0, none⟩) (show w7.heap.size ≤ W7.heap.size + 1 by omega) _, trivial, HKF.out.trans ((KeepsOthers.setCell _ _ _).from _), HKB.out.setCell (p := ⟨W7.heap.size + 1, 0, none⟩) (notS (nb := W7.heap.size + 1) (by omega) (by omega)) _, pp + 1, by omega, by rw [HC1.out]; exact HCP.out, ?_⟩
            have h := HA1.out.set (.int .i64 ((pp : Int) + 1))
            simpa using h
          case measure =>
            have h := HA1.out.set (.int .i64 ((pp + 1 : Nat) : Int))
            have h2 := atOf_eq h
            simp only [Int.natCast_add, Int.cast_ofNat_Int] at h2
            rw [HMS.out, h2]
            omega
      · exfalso
        obtain rfl : pp = x.l.length := by omega
        rw [cntL_all] at hcp
        omega
  case after0 =>
    rintro D1 Xd hDD ⟨m, ⟨hnb, pp, hp, hcp, hab⟩, htb, hbw, _⟩ hK
    have hb0 : Below W0.heap.size W0 Xd := below_on B7.out hbw
    have t0 := htb.cell
    have HbT1 : Hid (Boxed (Xd.alloc (.cells #[.int .i64 1] 3)) Xd.heap.size 3 (.int .i64 1)) := Boxed.new Xd _ _
    have HD1a : Hid ((Xd.alloc (.cells #[.int .i64 1] 3)).heap[D1]? = some (.deferred (some []))) := (Below.heap_alloc _ _ _ (Array.getElem?_eq_some_iff.1 hK).1).trans hK
    obtain ⟨W8, hW8⟩ : ∃ W, W = Xd.alloc (.cells #[.int .i64 1] 3) := ⟨_, rfl⟩
    have BT1 : Hid (Below w7.heap.size w7 W8) := by rw [hW8]; exact below_al hbw _
    have hs8 : W8.heap.size ≤ Xd.heap.size + 1 ∧ Xd.heap.size + 1 ≤ W8.heap.size := by rw [hW8]; simp
    rw [← hW8] at HbT1 HD1a
    have HD1 : Hid (W8.heap[D1]? = some (.deferred (some []))) := HD1a.out
    have hD1l : D1 < W8.heap.size := (Array.getElem?_eq_some_iff.1 HD1.out).1
    have HW8 := Lib.hid hW8
    have hq9 : w7.heap.size ≤ Xd.heap.size := hbw.size
    clear hnb hcp hab htb hbw hK hW8 HD1a
    go_wp2
    refine wp_loop_rounds 1 ?_
    rw [rounds_succ]
    go_wp2_with fail
    rw [← HW8.out]
    clear t0 hb0

    rw [rounds_succ]
    have t1c := (HbT1.out).cell
    go_wp2_with fail
    have b1n : Boxed ((W8.alloc (.cells #[.int .i64 0] 3)).alloc (.cells #[.int .i64 0] 3)) W8.heap.size 3 (.int .i64 ((0 : Nat) : Int)) := (Boxed.new W8 _ _).alloc _
    have b1a : Boxed ((W8.alloc (.cells #[.int .i64 0] 3)).alloc (.cells #[.int .i64 0] 3)) (W8.heap.size + 1) 3 (.int .i64 ((0 : Nat) : Int)) := by
      have h := Boxed.new (W8.alloc (.cells #[.int .i64 0] 3)) 3 (.int .i64 0)
      rw [World.size_alloc] at h
      exact h
    have b1t : Boxed ((W8.alloc (.cells #[.int .i64 0] 3)).alloc (.cells #[.int .i64 0] 3)) Xd.heap.size 3 (.int .i64 1) := ((HbT1.out).alloc _).alloc _
    have b1w : Below w7.heap.size w7 ((W8.alloc (.cells #[.int .i64 0] 3)).alloc (.cells #[.int .i64 0] 3)) := below_al (below_al BT1.out _) _
    obtain ⟨X1, hX1⟩ : ∃ X, X = ((W8.alloc (.cells #[.int .i64 0] 3)).alloc (.cells #[.int .i64 0] 3)) := ⟨_, rfl⟩
    have hs1 : X1.heap.size ≤ W8.heap.size + 2 ∧ W8.heap.size + 2 ≤ X1.heap.size := by rw [hX1]; simp
    rw [← hX1] at b1n b1a b1t b1w ⊢
    have HXX1 := Lib.hid hX1
    have hD1 : (fun X => X.heap[D1]? = some (.deferred (some []))) X1 := by rw [hX1]; exact (Below.heap_alloc _ _ _ (by have := (Array.getElem?_eq_some_iff.1 HD1.out).1; rw [World.size_alloc]; omega)).trans ((Below.heap_alloc _ _ _ (Array.getElem?_eq_some_iff.1 HD1.out).1).trans HD1.out)
    have HI1 : Hid (TurnI w7 x Xd.heap.size W8.heap.size (W8.heap.size + 1) 1 (fun X => X.heap[D1]? = some (.deferred (some []))) 0 X1) := ⟨⟨b1n, 0, Nat.zero_le _, by simp [cntL, numsL], b1a⟩, b1t, b1w, hD1⟩
    have hq1 : w7.heap.size ≤ W8.heap.size := BT1.out.size
    have HO1 := turnI_own (x := x) (tb := Xd.heap.size) (nb := W8.heap.size) (ab := W8.heap.size + 1) (t := 1) (D := (fun X => X.heap[D1]? = some (.deferred (some [])))) (B := X1.heap.size) (w7 := w7) (by omega) (fun _ Xa Ya row h hg hr => (hg.block D1 (Array.getElem?_eq_some_iff.1 h).1 (fun e => by have h1 := (hr D1 e.symm).1; have h2 := (Array.getElem?_eq_some_iff.1 HD1.out).1; omega)).trans h)
    have hN1 : w7.heap.size ≤ X1.heap.size := by omega
    have HB1w := Lib.hid b1w
    clear b1n b1a b1t hD1 t1c hX1 b1w
    refine wp_rangeGoesO_brk (gf := 52) (lb := #[.pointer (some ⟨Ns, 0, none⟩)]) 12 (fun k => .int .u64 ((numsL (uL x))[k]?.getD 0)) rfl (enters_of Tryd.func52 (by kernel_rfl) rfl)
      (numbers_goes Ns (· < w7.heap.size) A' C' (uL x) V X1 (by have := hlx; unfold uL; split <;> simp <;> omega) (by omega) (fun q hq => (HA'.out q hq).2) (fun b hb => by omega) ((HB1w.out.cell (p := ⟨Ns, 0, none⟩) hN2).trans HNC.out) (HRW.out.on HB1w.out)) (fun b hb => by omega)
      (TurnI w7 x Xd.heap.size W8.heap.size (W8.heap.size + 1) 1 (fun X => X.heap[D1]? = some (.deferred (some [])))) (fun X => TurnI w7 x Xd.heap.size W8.heap.size (W8.heap.size + 1) 1 (fun X => X.heap[D1]? = some (.deferred (some []))) (numsL (uL x)).length X) 2
      HO1 (fun _ X Y row hs hg hr => HO1 _ X Y row hs hg hr) HI1.out ?assign1 ?body1 (fun X h => h) (fun a X h => wp_exit (by simpa only [Exit.inBlock, if_true, ite_true, beq_self_eq_true] using h)) ?after1
    case assign1 =>
      intro l k Xq K hK
      simp only [List.setIfInBounds_toArray, List.set_cons_succ, List.set_cons_zero] at hK ⊢
      have HK := Lib.hid hK
      clear hK
      gi_wp2
      exact HK.out
    case body1 =>
      rintro l m X hm hl hrec ⟨⟨hnb, pp, hp, hcp, hab⟩, htb, hbw, hD⟩
      have hk4 : x.k = 4 := by
        apply Classical.byContradiction
        intro h
        have : uL x = [] := if_neg h
        rw [this] at hm
        simp [numsL] at hm
      have huL : uL x = x.l := if_pos hk4
      rw [huL] at hcp hm
      have hb0 : Below W0.heap.size W0 X := below_on B7.out hbw
      simp only [List.setIfInBounds_toArray, List.set_cons_succ, List.set_cons_zero]
      have H2 : Hid (Boxed X W8.heap.size 3 (.int .i64 m) ∧ Boxed X Xd.heap.size 3 (.int .i64 1) ∧ Below w7.heap.size w7 X ∧ (fun X => X.heap[D1]? = some (.deferred (some []))) X ∧ KeepsFrom X1.heap.size X X ∧ KeepB (SinceB (· < w7.heap.size) (X1.heap.size + 2) X) X X ∧ ∃ p : Nat, p ≤ x.l.length ∧ cntL x.l p = m ∧ Boxed X (W8.heap.size + 1) 3 (.int .i64 p)) :=
        ⟨hnb, htb, hbw, hD, KeepsFrom.refl _ _, fun _ _ => rfl, pp, hp, hcp, hab⟩
      have HU4 := Lib.hid huL
      have HK4 := Lib.hid hk4
      clear hnb hp hcp hab htb hbw hD huL hk4 hb0
      gi_wp2
      gi_loopw [51] (fun _ wr => Hid (Boxed wr W8.heap.size 3 (.int .i64 m) ∧ Boxed wr Xd.heap.size 3 (.int .i64 1) ∧ Below w7.heap.size w7 wr ∧ (fun X => X.heap[D1]? = some (.deferred (some []))) wr ∧ KeepsFrom X1.heap.size X wr ∧ KeepB (SinceB (· < w7.heap.size) (X1.heap.size + 2) X) X wr ∧ ∃ p : Nat, p ≤ x.l.length ∧ cntL x.l p = m ∧ Boxed wr (W8.heap.size + 1) 3 (.int .i64 p))) (fun _ wr => x.l.length - atOf (W8.heap.size + 1) wr)
      case atStart => exact H2.out
      case round =>
        have H3 := Lib.hid (Hid.out hrel)
        clear hrel
        obtain ⟨hnb, htb, hbw, hD, hkf, hkb, pp, hp, hcp, hab⟩ := H3.out
        have HN1 := Lib.hid hnb
        have HT1 := Lib.hid htb
        have HW1 := Lib.hid hbw
        have HD9 := Lib.hid hD
        have HKF := Lib.hid hkf
        have HKB := Lib.hid hkb
        have HCP := Lib.hid hcp
        have HA1 := Lib.hid hab
        have HMS := Lib.hid (atOf_eq hab)
        have hb0 : Below W0.heap.size W0 wr := below_on B7.out hbw
        obtain ⟨⟨d0, d1, d2, d3, d4⟩, _⟩ := HX.out wr hb0
        have hvr := HV.out wr hb0
        have a0 := hab.cell
        have af := hab.frozen
        have n0 := hnb.cell
        have nf := hnb.frozen
        have t0 := htb.cell
        have q0 := (boxed_below HBM.out hb0 (by omega)).cell
        by_cases hlt : pp < x.l.length
        · obtain ⟨g, o, hA, e0, e1⟩ := hvr.rows pp hlt
          subst hA
          have HVR := Lib.hid hvr
          clear hnb htb hbw hD hkf hkb hcp hab hvr hb0 hrec H2 H3
          by_cases he : x.l[pp].k = 1
          · obtain ⟨hlt9, hat9⟩ := cntL_at hlt he
            rw [HCP.out] at hlt9 hat9
            have hval : (numsL (uL x))[m]?.getD 0 = x.l[pp].n := by rw [HU4.out, hat9]; rfl
            have HC1 := Lib.hid (cntL_yes hlt he)
            rw [he] at e0
            rw [HK4.out] at d0
            rw [hval]
            have FIN : Hid (KeepsFrom X1.heap.size X ((wr.setCell ⟨W8.heap.size + 1, 0, none⟩ (.int .i64 ((pp : Int) + 1))).setCell ⟨W8.heap.size, 0, none⟩ (.int .i64 ((m : Int) + 1))) ∧
                KeepB (SinceB (· < w7.heap.size) (X1.heap.size + 2) X) X ((wr.setCell ⟨W8.heap.size + 1, 0, none⟩ (.int .i64 ((pp : Int) + 1))).setCell ⟨W8.heap.size, 0, none⟩ (.int .i64 ((m : Int) + 1))) ∧
                TurnI w7 x Xd.heap.size W8.heap.size (W8.heap.size + 1) 1 (fun X => X.heap[D1]? = some (.deferred (some []))) (m + 1) ((wr.setCell ⟨W8.heap.size + 1, 0, none⟩ (.int .i64 ((pp : Int) + 1))).setCell ⟨W8.heap.size, 0, none⟩ (.int .i64 ((m : Int) + 1)))) := by
              refine ⟨(HKF.out.trans ((KeepsOthers.setCell _ _ _).from _)).trans ((KeepsOthers.setCell _ _ _).from _), (HKB.out.setCell (p := ⟨W8.heap.size + 1, 0, none⟩) (notS (nb := W8.heap.size + 1) (by omega) (by omega)) _).setCell (p := ⟨W8.heap.size, 0, none⟩) (notS (nb := W8.heap.size) (by omega) (by omega)) _, ⟨?_, pp + 1, by omega, by rw [HU4.out, HC1.out, HCP.out], ?_⟩, ((HT1.out.other (by omega) _).other (by omega) _), (HW1.out.setCell (p := ⟨W8.heap.size + 1, 0, none⟩) (show w7.heap.size ≤ W8.heap.size + 1 by omega) _).setCell (p := ⟨W8.heap.size, 0, none⟩) (show w7.heap.size ≤ W8.heap.size by omega) _, (Below.heap_setCell _ _ _ D1 (show D1 ≠ W8.heap.size by omega)).trans ((Below.heap_setCell _ _ _ D1 (show D1 ≠ W8.heap.size + 1 by omega)).trans HD9.out)⟩
              · have h := (HN1.out.other (B' := W8.heap.size + 1) (by omega) (.int .i64 ((pp : Int) + 1))).set (.int .i64 ((m : Int) + 1))
                simpa using h
              · have h := (HA1.out.set (.int .i64 ((pp : Int) + 1))).other (B' := W8.heap.size) (by omega) (.int .i64 ((m : Int) + 1))
                simpa using h
            have hm3 : m ≤ 3000 := by
              have h1 := numsL_le x.l
              omega
            clear he hat9 hlt9 hval
            gi_wp2
            exact FIN.out
          · have hne : (x.l[pp].k != 1) = true := by simpa using he
            have HC1 := Lib.hid (cntL_no hlt he)
            clear he
            gi_wp2
            go_roundw
            case rel =>
              refine ⟨HN1.out.other (by omega) _, HT1.out.other (by omega) _, HW1.out.setCell (p := ⟨W8.heap.size + 1, 0, none⟩) (show w7.heap.size ≤ W8.heap.size + 1 by omega) _, (Below.heap_setCell _ _ _ D1 (show D1 ≠ W8.heap.size + 1 by omega)).trans HD9.out, HKF.out.trans ((KeepsOthers.setCell _ _ _).from _), HKB.out.setCell (p := ⟨W8.heap.size + 1, 0, none⟩) (notS (nb := W8.heap.size + 1) (by omega) (by omega)) _, pp + 1, by omega, by rw [HC1.out]; exact HCP.out, ?_⟩
              have h := HA1.out.set (.int .i64 ((pp : Int) + 1))
              simpa using h
            case measure =>
              have h := HA1.out.set (.int .i64 ((pp + 1 : Nat) : Int))
              have h2 := atOf_eq h
              simp only [Int.natCast_add, Int.cast_ofNat_Int] at h2
              rw [HMS.out, h2]
              omega
        · exfalso
          obtain rfl : pp = x.l.length := by omega
          rw [cntL_all] at hcp
          omega
    case after1 =>
      rintro D2 Xe hD2 ⟨⟨hnb, pp, hp, hcp, hab⟩, htb, hbw, hDd⟩ hK
      have hD2l : D2 < Xe.heap.size := (Array.getElem?_eq_some_iff.1 hK).1
      have H5 : Hid (Boxed Xe Xd.heap.size 3 (.int .i64 1) ∧ Below w7.heap.size w7 Xe ∧ Xe.heap[D1]? = some (.deferred (some [])) ∧ Xe.heap[D2]? = some (.deferred (some [])) ∧ ∃ p : Nat, p ≤ x.l.length ∧ cntL (uL x) p = (numsL (uL x)).length ∧ Boxed Xe (W8.heap.size + 1) 3 (.int .i64 p)) := ⟨htb, hbw, hDd, hK, pp, hp, hcp, hab⟩
      clear hnb hcp hab htb hbw hDd hK
      go_wp2
      by_cases hk4 : x.k = 4
      · have huL : uL x = x.l := if_pos hk4
        rw [huL] at H5
        have HK4 := Lib.hid hk4
        clear huL hk4
        go_loopw [98] (fun _ wr => Hid (Boxed wr Xd.heap.size 3 (.int .i64 1) ∧ Below w7.heap.size w7 wr ∧ wr.heap[D1]? = some (.deferred (some [])) ∧ wr.heap[D2]? = some (.deferred (some [])) ∧ ∃ p : Nat, p ≤ x.l.length ∧ cntL x.l p = (numsL x.l).length ∧ Boxed wr (W8.heap.size + 1) 3 (.int .i64 p))) (fun _ wr => x.l.length - atOf (W8.heap.size + 1) wr)
        case atStart => exact H5.out
        case round =>
          have H6 := Lib.hid (Hid.out hrel)
          clear hrel H5
          obtain ⟨htb, hbw, hd1, hd2, pp, hp, hcp, hab⟩ := H6.out
          have HT1 := Lib.hid htb
          have HW1 := Lib.hid hbw
          have KE1 := Lib.hid hd1
          have KE2 := Lib.hid hd2
          have HCP := Lib.hid hcp
          have HA1 := Lib.hid hab
          have HMS := Lib.hid (atOf_eq hab)
          have BE0 : Below W0.heap.size W0 wr := below_on B7.out hbw
          have HBE0 := Lib.hid BE0
          obtain ⟨⟨d0, d1, d2, d3, d4⟩, _⟩ := HX.out wr BE0
          have hvr := HV.out wr BE0
          have a0 := hab.cell
          have af := hab.frozen
          have t0 := htb.cell
          rw [HK4.out] at d0
          by_cases hlt : pp < x.l.length
          · obtain ⟨g, o, hA, e0, e1⟩ := hvr.rows pp hlt
            subst hA
            have hne0 : x.l[pp].k ≠ 1 := fun he => by
              have h := (cntL_at hlt he).1
              omega
            have hne : (x.l[pp].k == 1) = false := by simpa using hne0
            have HC1 := Lib.hid (cntL_no hlt hne0)
            clear hne0 htb hbw hd1 hd2 hcp hab hvr BE0 H6
            go_wp2_with fail
            go_roundw
            case rel =>
              refine ⟨HT1.out.other (by omega) _, HW1.out.setCell (p := ⟨W8.heap.size + 1, 0, none⟩) (show w7.heap.size ≤ W8.heap.size + 1 by omega) _, (Below.heap_setCell _ _ _ D1 (by show D1 ≠ W8.heap.size + 1; omega)).trans KE1.out, (Below.heap_setCell _ _ _ D2 (by show D2 ≠ W8.heap.size + 1; omega)).trans KE2.out, pp + 1, by omega, by rw [HC1.out]; exact HCP.out, ?_⟩
              have h := HA1.out.set (.int .i64 ((pp : Int) + 1))
              simpa using h
            case measure =>
              have h := HA1.out.set (.int .i64 ((pp + 1 : Nat) : Int))
              have h2 := atOf_eq h
              simp only [Int.natCast_add, Int.cast_ofNat_Int] at h2
              rw [HMS.out, h2]
              omega
          · obtain rfl : pp = x.l.length := by omega
            clear htb hbw hd1 hd2 hcp hab hvr BE0 H6 hlt
            go_wp2_with fail
            have BE0 := HBE0.out
            rw [rounds_succ]
            go_wp2_with fail
            refine (cworks_any _ (HT.out _ (below_al BE0 _))).mono ?_
            rintro e w9 ⟨rfl, hb9⟩
            have C9 : Hid (Below W0.heap.size W0 w9) := below_on (below_al BE0 _) hb9
            have hbr := boxed_below HBR.out C9.out (by omega)
            have hc9 := hbr.cell
            have hf9 := hbr.frozen
            have HBR9 := Lib.hid hbr
            have E1 : Hid (w9.heap[D1]? = some (.deferred (some []))) := (hb9.block D1 (by rw [World.size_alloc]; have := (Array.getElem?_eq_some_iff.1 KE1.out).1; omega)).trans ((Below.heap_alloc _ _ _ (Array.getElem?_eq_some_iff.1 KE1.out).1).trans KE1.out)
            have E2 : Hid (w9.heap[D2]? = some (.deferred (some []))) := (hb9.block D2 (by rw [World.size_alloc]; have := (Array.getElem?_eq_some_iff.1 KE2.out).1; omega)).trans ((Below.heap_alloc _ _ _ (Array.getElem?_eq_some_iff.1 KE2.out).1).trans KE2.out)
            clear hb9 hbr
            go_wp2_with fail
            have f2 : (w9.setCell ⟨w.heap.size + 1 + 1 + 1, 0, none⟩ (.bool true)).heap[D2]? = some (.deferred (some [])) := (Below.heap_setCell _ _ _ D2 (by show D2 ≠ w.heap.size + 1 + 1 + 1; omega)).trans E2.out
            have f1 : (w9.setCell ⟨w.heap.size + 1 + 1 + 1, 0, none⟩ (.bool true)).heap[D1]? = some (.deferred (some [])) := (Below.heap_setCell _ _ _ D1 (by show D1 ≠ w.heap.size + 1 + 1 + 1; omega)).trans E1.out
            have f1' : ((w9.setCell ⟨w.heap.size + 1 + 1 + 1, 0, none⟩ (.bool true)).putObj D2 (.deferred none)).heap[D1]? = some (.deferred (some [])) := (World.putObj_heap_other (by omega)).trans f1
            have fr : Boxed (((w9.setCell ⟨w.heap.size + 1 + 1 + 1, 0, none⟩ (.bool true)).putObj D2 (.deferred none)).putObj D1 (.deferred none)) (w.heap.size + 1 + 1 + 1) 4 (.bool true) := (World.putObj_heap_other (by omega)).trans ((World.putObj_heap_other (by omega)).trans (HBR9.out.set (.bool true)))
            have hB9 : Below w.heap.size w (w9.setCell ⟨w.heap.size + 1 + 1 + 1, 0, none⟩ (.bool true)) := (HB0.out.trans (C9.out.mono (by omega))).setCell (p := ⟨w.heap.size + 1 + 1 + 1, 0, none⟩) (show w.heap.size ≤ w.heap.size + 1 + 1 + 1 by omega) _
            refine marks_two (v := .bool true) f2 f1' (by simp [results, Tryd.results4, go_sem, fr.cell]) ⟨rfl, ?_⟩
            exact (hB9.grown (grownBy_putObj' _ _ _) hB9.size (fun r e => by cases e; omega)).grown (grownBy_putObj' _ _ _) (by simp [World.putObj]; have := hB9.size; simp at this; omega) (fun r e => by cases e; omega)
      · obtain ⟨htb, hbw, hd1, hd2, pp, hp, hcp, hab⟩ := H5.out
        have HK4 : Hid (x.k ≠ 4) := hk4
        have KE1 := Lib.hid hd1
        have KE2 := Lib.hid hd2
        have BE0 : Below W0.heap.size W0 Xe := below_on B7.out hbw
        have HBE0 := Lib.hid BE0
        obtain ⟨⟨d0, d1, d2, d3, d4⟩, _⟩ := HX.out Xe BE0
        have t0 := htb.cell
        have hne : (x.k == 4) = false := by simpa using hk4
        clear htb hbw hd1 hd2 hcp hab BE0 H5 hk4
        refine wp_loop_rounds 1 ?_
        rw [rounds_succ]
        go_wp2_with fail
        have BE0 := HBE0.out
        rw [rounds_succ]
        go_wp2_with fail
        refine (cworks_any _ (HT.out _ (below_al BE0 _))).mono ?_
        rintro e w9 ⟨rfl, hb9⟩
        have C9 : Hid (Below W0.heap.size W0 w9) := below_on (below_al BE0 _) hb9
        have hbr := boxed_below HBR.out C9.out (by omega)
        have hc9 := hbr.cell
        have hf9 := hbr.frozen
        have HBR9 := Lib.hid hbr
        have E1 : Hid (w9.heap[D1]? = some (.deferred (some []))) := (hb9.block D1 (by rw [World.size_alloc]; have := (Array.getElem?_eq_some_iff.1 KE1.out).1; omega)).trans ((Below.heap_alloc _ _ _ (Array.getElem?_eq_some_iff.1 KE1.out).1).trans KE1.out)
        have E2 : Hid (w9.heap[D2]? = some (.deferred (some []))) := (hb9.block D2 (by rw [World.size_alloc]; have := (Array.getElem?_eq_some_iff.1 KE2.out).1; omega)).trans ((Below.heap_alloc _ _ _ (Array.getElem?_eq_some_iff.1 KE2.out).1).trans KE2.out)
        clear hb9 hbr
        go_wp2_with fail
        have f2 : (w9.setCell ⟨w.heap.size + 1 + 1 + 1, 0, none⟩ (.bool true)).heap[D2]? = some (.deferred (some [])) := (Below.heap_setCell _ _ _ D2 (by show D2 ≠ w.heap.size + 1 + 1 + 1; omega)).trans E2.out
        have f1 : (w9.setCell ⟨w.heap.size + 1 + 1 + 1, 0, none⟩ (.bool true)).heap[D1]? = some (.deferred (some [])) := (Below.heap_setCell _ _ _ D1 (by show D1 ≠ w.heap.size + 1 + 1 + 1; omega)).trans E1.out
        have f1' : ((w9.setCell ⟨w.heap.size + 1 + 1 + 1, 0, none⟩ (.bool true)).putObj D2 (.deferred none)).heap[D1]? = some (.deferred (some [])) := (World.putObj_heap_other (by omega)).trans f1
        have fr : Boxed (((w9.setCell ⟨w.heap.size + 1 + 1 + 1, 0, none⟩ (.bool true)).putObj D2 (.deferred none)).putObj D1 (.deferred none)) (w.heap.size + 1 + 1 + 1) 4 (.bool true) := (World.putObj_heap_other (by omega)).trans ((World.putObj_heap_other (by omega)).trans (HBR9.out.set (.bool true)))
        have hB9 : Below w.heap.size w (w9.setCell ⟨w.heap.size + 1 + 1 + 1, 0, none⟩ (.bool true)) := (HB0.out.trans (C9.out.mono (by omega))).setCell (p := ⟨w.heap.size + 1 + 1 + 1, 0, none⟩) (show w.heap.size ≤ w.heap.size + 1 + 1 + 1 by omega) _
        refine marks_two (v := .bool true) f2 f1' (by simp [results, Tryd.results4, go_sem, fr.cell]) ⟨rfl, ?_⟩
        exact (hB9.grown (grownBy_putObj' _ _ _) hB9.size (fun r e => by cases e; omega)).grown (grownBy_putObj' _ _ _) (by simp [World.putObj]; have := hB9.size; simp at this; omega) (fun r e => by cases e; omega)


theorem walk_csame (x y : It) (v u : Value) (many : Int) (w : World) (ht : TabW w) (hv : ItV w w.heap.size v x) (hu : ItV w w.heap.size u y) :
    Calls Tryd.prog 4 #[v, u, .int .i64 many] w fun e w' => e = .returned (.bool true) ∧ Below w.heap.size w w' := by
  obtain ⟨xa, xc, xA, xC, rfl⟩ := hv.form
  obtain ⟨ya, yc, yA, yC, rfl⟩ := hu.form
  exact csame_walk x y _ _ _ _ _ _ _ _ _ _ many w ht hv hu

end Go.Proofs.YtncemmhbbkpieaaDoor
