/- The document's Sorted of names: an insertion. -/
import Derived.Test.YtjbdpkjkeelgfaaDoorNnM
import Derived.Deep.AppendLies
namespace Go.Proofs.YtjbdpkjkeelgfaaDoor
open Go Go.RowKit Go.Shelf Go.Sort
set_option linter.unusedSimpArgs false
set_option linter.unusedVariables false

/-- v owns a row of these names. -/
def OwnRN (w : World) (base : Nat) (v : Value) (zs : List NmS) : Prop := w.ownsRow base 47 4 v zs.length (flatN zs)

theorem flatN_append : ∀ a b : List NmS, flatN (a ++ b) = flatN a ++ flatN b
  | [], _ => rfl
  | p :: a, b => by simp [flatN, flatN_append a b]

theorem flatN_set : ∀ (zs : List NmS) (i : Nat) (x : NmS), flatN (zs.set i x) = ((((flatN zs).set (i * 4) (.int .u32 x.1.n)).set (i * 4 + 1) (.int .u32 x.1.m)).set (i * 4 + 2) (.int .u64 x.1.t)).set (i * 4 + 3) (.int .u32 x.1.q)
  | [], i, x => by simp [flatN]
  | p :: r, 0, x => by simp [flatN]
  | p :: r, i + 1, x => by
    rw [show (i + 1) * 4 = i * 4 + 1 + 1 + 1 + 1 by omega]
    simp [flatN, flatN_set r i x]

theorem OwnRN.rows {w : World} {base g cap : Nat} {zs : List NmS} (h : OwnRN w base (.slice (some ⟨g, 0, none⟩) zs.length cap) zs) : RowN w g 0 zs := fun j hj => by
  have hc := fun i hi => World.ownsRow.cellAt h i hi
  have hf := fun i => World.ownsRow.frozenAt h i
  obtain ⟨f0, f1, f2, f3⟩ := flatN_at zs j hj
  unfold CellN
  rw [Nat.zero_add, hc _ (by omega), hc _ (by omega), hc _ (by omega), hc _ (by omega)]
  exact ⟨⟨f0, f1, f2, f3⟩, fun i _ => hf _⟩

theorem OwnRN.set {w : World} {base g cap n : Nat} {zs : List NmS} (hn : n = zs.length) (h : OwnRN w base (.slice (some ⟨g, 0, none⟩) n cap) zs) (i : Nat) (x : NmS) :
    OwnRN ((((w.setCell ⟨g, i * 4, none⟩ (.int .u32 x.1.n)).setCell ⟨g, i * 4 + 1, none⟩ (.int .u32 x.1.m)).setCell ⟨g, i * 4 + 2, none⟩ (.int .u64 x.1.t)).setCell ⟨g, i * 4 + 3, none⟩ (.int .u32 x.1.q)) base (.slice (some ⟨g, 0, none⟩) n cap) (zs.set i x) := by
  subst hn
  unfold OwnRN at *
  rw [flatN_set, List.length_set]
  exact ((((h.stored (i * 4) (.int .u32 x.1.n)).1.stored (i * 4 + 1) (.int .u32 x.1.m)).1.stored (i * 4 + 2) (.int .u64 x.1.t)).1.stored (i * 4 + 3) (.int .u32 x.1.q)).1

theorem mid_setN (A B : List NmS) (y x : NmS) (j : Nat) (hj : A.length = j) : (A ++ y :: B).set j x = A ++ x :: B := by
  subst hj
  simp

theorem mid_stepN (L : List NmS) (y : NmS) (j : Nat) (hj : j < L.length) : (L.take (j + 1) ++ y :: L.drop (j + 1)).set (j + 1) (atN L j) = L.take j ++ (atN L j) :: L.drop j := by
  have e : L.take (j + 1) = L.take j ++ [L[j]] := by
    rw [List.take_add_one, List.getElem?_eq_getElem hj]
    rfl
  have e2 : atN L j = L[j] := by simp [atN, List.getElem?_eq_getElem hj]
  rw [mid_setN _ _ _ _ _ (by simp; omega), e2, e, List.drop_eq_getElem_cons hj, List.append_assoc]
  rfl

theorem mid_atN (L : List NmS) (y : NmS) (j t : Nat) (ht : t < j) (hj : j ≤ L.length) : atN (L.take j ++ y :: L.drop j) t = atN L t := by
  unfold atN
  rw [List.getElem?_append_left (by simp; omega), List.getElem?_take, if_pos ht]

theorem mid_lenN (L : List NmS) (y : NmS) (j : Nat) (hj : j ≤ L.length) : (L.take j ++ y :: L.drop j).length = L.length + 1 := by simp; omega

theorem grown_of_belowN {w w' : World} (h : Below w.heap.size w w') : w.grownBy w' none := ⟨h.os, h.tape, h.output, h.size, fun k hk _ => h.block k hk⟩

theorem OwnRN.on {w w' : World} {base : Nat} {v : Value} {zs : List NmS} (h : OwnRN w base v zs) (hb : Below w.heap.size w w') : OwnRN w' base v zs := by
  refine World.ownsRow.kept h (grown_of_belowN hb) ?_
  cases v.ownBlock
  · exact .inl rfl
  · exact .inr (by simp)

theorem put_belowN {B g : Nat} {w w' : World} (h : Below B w w') (hg : B ≤ g) (o : Nat) (x : NmS) : Below B w ((((w'.setCell ⟨g, o, none⟩ (.int .u32 x.1.n)).setCell ⟨g, o + 1, none⟩ (.int .u32 x.1.m)).setCell ⟨g, o + 2, none⟩ (.int .u64 x.1.t)).setCell ⟨g, o + 3, none⟩ (.int .u32 x.1.q)) :=
  (((h.setCell (p := ⟨g, o, none⟩) hg _).setCell (p := ⟨g, o + 1, none⟩) hg _).setCell (p := ⟨g, o + 2, none⟩) hg _).setCell (p := ⟨g, o + 3, none⟩) hg _

set_option maxRecDepth 100000 in
set_option maxHeartbeats 8000000 in
theorem nrefSorted_any (A : Option Addr) (C : Nat) (ss : List NmS) (w : World) (hlen : ss.length ≤ 1000000) (hr : RdNs w w.heap.size A ss) :
    Calls Tryd.prog 35 #[.slice A ss.length C] w fun e w' => ∃ v, e = .returned v ∧ OwnRN w' w.heap.size v (sortNm ss) ∧ Below w.heap.size w w' := by
  have HR := Lib.hid hr
  clear hr
  go_enter Tryd.func35, Tryd.ntmps35
  go_wp2
  go_loopw [3, 4] (fun s3 s4 wr => ∃ (A3 : Option Addr) (n3 C3 k : Nat), k ≤ ss.length ∧ s3 = .slice A3 n3 C3 ∧ s4 = .int .i64 k ∧ Hid (OwnRN wr w.heap.size (.slice A3 n3 C3) (refSN ss k)) ∧ Hid (Below w.heap.size w wr) ∧ w.heap.size ≤ wr.heap.size) (fun _ s4 _ => ss.length - (intOf s4).toNat)
  case atStart => exact ⟨none, 0, 0, 0, Nat.zero_le _, rfl, rfl, World.ownsRow_nil _ _ _ _, Below.refl _ _, Nat.le_refl _⟩
  case round =>
    obtain ⟨A3, n3, C3, k, hk, rfl, rfl, HO, HB, hz⟩ := hrel
    by_cases hlt : k < ss.length
    · obtain ⟨ga, oa, rfl, hga, hcc⟩ := (HR.out.below HB.out).cells k hlt
      obtain ⟨x, hx⟩ : ∃ x, x = atN ss k := ⟨_, rfl⟩
      have HA : Hid (∀ w3, Below w.heap.size w w3 → (w3.cell? ⟨ga, oa + k * 4, none⟩ = some (.int .u32 x.1.n) ∧ w3.cell? ⟨ga, oa + k * 4 + 1, none⟩ = some (.int .u32 x.1.m) ∧ w3.cell? ⟨ga, oa + k * 4 + 2, none⟩ = some (.int .u64 x.1.t) ∧ w3.cell? ⟨ga, oa + k * 4 + 3, none⟩ = some (.int .u32 x.1.q))) := fun w3 hb => by
        obtain ⟨g', o', e, _, h0⟩ := (HR.out.below hb).cells k hlt
        cases e
        rw [hx]
        exact h0
      obtain ⟨L, hL⟩ : ∃ L, L = refSN ss k := ⟨_, rfl⟩
      have hLk : L.length = k := by rw [hL]; exact refSN_len ss k hk
      have hS := refSN_succ ss k hlt
      rw [← hx, ← hL] at hS
      rw [← hL] at HO
      have HS := Lib.hid hS
      clear hx hL hS hcc
      obtain ⟨hd0, hd1, hd2, hd3⟩ := HA.out wr HB.out
      obtain ⟨m, hm⟩ : ∃ m, m = L.length := ⟨_, rfl⟩
      have hn3 : n3 = m := by
        rw [hm]
        rcases HO.out.2 with ⟨h, h0⟩ | ⟨g, cap, cur, h, _⟩
        · cases h; exact h0.symm
        · cases h; rfl
      have HM := Lib.hid hm
      subst hn3
      clear hm hLk
      have HO2 : Hid ((wr.alloc (.cells #[.int .u32 x.1.n, .int .u32 x.1.m, .int .u64 x.1.t, .int .u32 x.1.q] 47)).ownsRow w.heap.size 47 4 (.slice A3 n3 C3) n3 (flatN L)) := by
        have := HO.out
        unfold OwnRN at this
        rw [← HM.out] at this
        exact this.alloc _
      have HMM : Hid (∀ j u', [Value.int .u32 x.1.n, .int .u32 x.1.m, .int .u64 x.1.t, .int .u32 x.1.q][j]? = some u' → (wr.alloc (.cells #[.int .u32 x.1.n, .int .u32 x.1.m, .int .u64 x.1.t, .int .u32 x.1.q] 47)).cell? ((⟨wr.heap.size, 0, none⟩ : Addr).add j) = some u') := by
        intro j u' hj
        have : j = 0 ∨ j = 1 ∨ j = 2 ∨ j = 3 := by
          have := (List.getElem?_eq_some_iff.1 hj).1
          simp at this
          omega
        rcases this with rfl | rfl | rfl | rfl
        · simp at hj; subst hj; simp [Addr.add]
        · simp at hj; subst hj; simp [Addr.add]
        · simp at hj; subst hj; simp [Addr.add]
        · simp at hj; subst hj; simp [Addr.add]
      have hn3k : n3 ≤ ss.length := by have := refSN_len ss k hk; have := HM.out; have h9 := HS.out; have : (insSN x L).length = L.length + 1 := insS_lengthN x L; have := refSN_len ss (k + 1) (by omega); rw [h9] at this; omega
      have hL1 : n3 + 1 ≤ 1000001 := by omega
      go_wp2_with (at_builtin; refine wpList_appN4 _ rfl _ _ 68 rfl w.heap.size 47 _ 4 24 Tryd.underlying68 info_name rfl (by decide) _ n3 (flatN L) rfl HO2.out ⟨wr.heap.size, 0, none⟩ 1 1 [.int .u32 x.1.n, .int .u32 x.1.m, .int .u64 x.1.t, .int .u32 x.1.q] rfl rfl HMM.out (by intro u' hu'; simp at hu'; rcases hu' with rfl | rfl | rfl | rfl <;> rfl) (by unfold maxLen; omega) (by omega) (by rw [World.size_alloc]; omega) ?_; intro v' w2 h2 h3 h5; obtain ⟨g, cap, rfl, hg0, hg1⟩ := World.ownsRow.form h2 (by omega); have HO3 := Lib.hid h2; have HB3 := Lib.hid ((below_al HB.out _).grown h3 (by rw [World.size_alloc]; omega) (fun r e => (HO2.out.lt r e).1)); clear h2 h3 h5)
      have hLn : L.length = n3 := HM.out.symm
      clear hd0 hd1 hd2 hd3
      go_loopw [5] (fun s5 w3 => ∃ (j : Nat) (y : NmS), j ≤ n3 ∧ s5 = .int .i64 j ∧ Hid (OwnRN w3 w.heap.size (.slice (some ⟨g, 0, none⟩) (n3 + 1) cap) (L.take j ++ y :: L.drop j)) ∧ Hid (insJN x L L.length = insJN x L j) ∧ Hid (Below w.heap.size w w3) ∧ w.heap.size ≤ w3.heap.size ∧ g < w3.heap.size) (fun s5 _ => (intOf s5).toNat)
      case atStart =>
        refine ⟨n3, x, Nat.le_refl _, by go_num, ?_, by rw [hLn]; exact rfl, HB3.out, HB3.out.size, hg1⟩
        have := HO3.out
        unfold OwnRN
        rw [List.take_of_length_le (by omega), List.drop_eq_nil_of_le (by omega), flatN_append, List.length_append, hLn]
        exact this
      case round =>
        obtain ⟨j, y, hj, rfl, HOj, HIj, HBj, hzj, hgj⟩ := hrel
        obtain ⟨e0, e1, e2, e3⟩ := HA.out wr HBj.out
        have hlen1 : (L.take j ++ y :: L.drop j).length = n3 + 1 := by rw [mid_lenN _ _ _ (by omega), hLn]
        have HRow : Hid (RowN wr g 0 (L.take j ++ y :: L.drop j)) := by
          have := HOj.out
          rw [← hlen1] at this
          exact this.rows
        have HFIN : Hid (∀ w4, OwnRN w4 w.heap.size (.slice (some ⟨g, 0, none⟩) (n3 + 1) cap) (L.take j ++ y :: L.drop j) → insJN x L L.length = j →
            OwnRN ((((w4.setCell ⟨g, j * 4, none⟩ (.int .u32 x.1.n)).setCell ⟨g, j * 4 + 1, none⟩ (.int .u32 x.1.m)).setCell ⟨g, j * 4 + 2, none⟩ (.int .u64 x.1.t)).setCell ⟨g, j * 4 + 3, none⟩ (.int .u32 x.1.q)) w.heap.size (.slice (some ⟨g, 0, none⟩) (n3 + 1) cap) (refSN ss (k + 1))) := fun w4 h1 h2 => by
          have h3 := h1.set hlen1.symm j x
          rw [mid_setN _ _ _ _ _ (by simp; omega)] at h3
          rw [HS.out]
          unfold insSN
          rw [h2]
          exact h3
        rcases Nat.eq_zero_or_pos j with rfl | hj0
        · obtain ⟨⟨d0, d1, d2, d3⟩, gf⟩ := HRow.out 0 (by omega)
          have g0 := gf 0 (by decide)
          have g1 := gf 1 (by decide)
          have g2 := gf 2 (by decide)
          have g3 := gf 3 (by decide)
          simp only [Nat.zero_mul, Nat.zero_add, Nat.add_zero] at d0 d1 d2 d3 g0 g1 g2 g3
          clear gf
          go_wp2_with fail
          try (go_quiet (fail); go_wp2)
          go_roundw
          case rel =>
            refine ⟨some ⟨g, 0, none⟩, n3 + 1, cap, k + 1, by omega, rfl, by go_num, ?_, ?_, by simp; omega⟩
            · have := HFIN.out _ HOj.out HIj.out
              simp only [Nat.zero_mul, Nat.zero_add] at this
              exact this
            · exact put_belowN (below_dr HBj.out nq) hg0 0 x
          case measure => simp [intOf]; omega
        · obtain ⟨i, hi⟩ : ∃ i, j = i + 1 := ⟨j - 1, by omega⟩
          subst hi
          have hji : IntKind.i64.wrap (i : Int) = (i : Int) := by rw [IntKind.wrap_i64]; omega
          have hjz : (0 : Int) < (i : Int) + 1 := by omega
          have him : i < n3 + 1 := by omega
          have hi1 : (i : Int) < ((n3 + 1 : Nat) : Int) := by omega
          have hi2 : (i : Int) < (n3 : Int) + 1 := by omega
          have hi3 : (0 : Int) ≤ (i : Int) := by omega
          have hi4 : (i : Int) ≤ (n3 : Int) := by omega
          have hi5 : i ≤ n3 := by omega
          obtain ⟨⟨p0, p1, p2, p3⟩, _⟩ := HRow.out i (by omega)
          rw [mid_atN L y (i + 1) i (by omega) (by omega)] at p0 p1 p2 p3
          simp only [Nat.zero_add] at p0 p1 p2 p3
          obtain ⟨z, hz'⟩ : ∃ z, z = atN L i := ⟨_, rfl⟩
          rw [← hz'] at p0 p1 p2 p3
          have HZ := Lib.hid hz'
          clear hz'
          have HAH := Lib.hid (refOrder_any x.1 z.1 x.2 z.2)
          obtain ⟨r, hr⟩ : ∃ r, r = x.1.ord z.1 := ⟨_, rfl⟩
          have hrb := ord_bound x.1 z.1
          rw [← hr] at HAH hrb
          have HELD : Hid (∀ w', Below wr.heap.size wr w' → (w'.cell? ⟨ga, oa + k * 4, none⟩ = some (.int .u32 x.1.n) ∧ w'.cell? ⟨ga, oa + k * 4 + 1, none⟩ = some (.int .u32 x.1.m) ∧ w'.cell? ⟨ga, oa + k * 4 + 2, none⟩ = some (.int .u64 x.1.t) ∧ w'.cell? ⟨ga, oa + k * 4 + 3, none⟩ = some (.int .u32 x.1.q)) ∧ (w'.cell? ⟨g, i * 4, none⟩ = some (.int .u32 z.1.n) ∧ w'.cell? ⟨g, i * 4 + 1, none⟩ = some (.int .u32 z.1.m) ∧ w'.cell? ⟨g, i * 4 + 2, none⟩ = some (.int .u64 z.1.t) ∧ w'.cell? ⟨g, i * 4 + 3, none⟩ = some (.int .u32 z.1.q))) :=
            fun w' h => ⟨HA.out w' (HBj.out.trans (h.mono hzj)), (h.cell (p := ⟨g, i * 4, none⟩) hgj).trans p0, (h.cell (p := ⟨g, i * 4 + 1, none⟩) hgj).trans p1, (h.cell (p := ⟨g, i * 4 + 2, none⟩) hgj).trans p2, (h.cell (p := ⟨g, i * 4 + 3, none⟩) hgj).trans p3⟩
          have HRr := Lib.hid hr
          have HRb := Lib.hid hrb
          clear hr hrb
          have F0 : Below wr.heap.size wr wr.drew := (Below.refl _ _).drew
          go_wp2_with fail
          go_region_held3 (fun w' => (w'.cell? ⟨ga, oa + k * 4, none⟩ = some (.int .u32 x.1.n) ∧ w'.cell? ⟨ga, oa + k * 4 + 1, none⟩ = some (.int .u32 x.1.m) ∧ w'.cell? ⟨ga, oa + k * 4 + 2, none⟩ = some (.int .u64 x.1.t) ∧ w'.cell? ⟨ga, oa + k * 4 + 3, none⟩ = some (.int .u32 x.1.q)) ∧ (w'.cell? ⟨g, i * 4, none⟩ = some (.int .u32 z.1.n) ∧ w'.cell? ⟨g, i * 4 + 1, none⟩ = some (.int .u32 z.1.m) ∧ w'.cell? ⟨g, i * 4 + 2, none⟩ = some (.int .u64 z.1.t) ∧ w'.cell? ⟨g, i * 4 + 3, none⟩ = some (.int .u32 z.1.q)))
            (first | (refine HELD.out _ ?_; with_reducible exact F1) | (refine HELD.out _ ?_; with_reducible exact F0))
            (first | (go_at_call 34; (with_reducible refine (HAH.out _).mono ?_); rintro e w4 ⟨rfl, hw4⟩; have F1 : Below wr.heap.size wr w4 := F0.trans hw4))
          rename_i hHeld
          have r4 := F1
          clear hHeld F0 F1
          have HO4 : Hid (OwnRN w4 w.heap.size (.slice (some ⟨g, 0, none⟩) (n3 + 1) cap) (L.take (i + 1) ++ y :: L.drop (i + 1))) := HOj.out.on r4
          have HRow4 : Hid (RowN w4 g 0 (L.take (i + 1) ++ y :: L.drop (i + 1))) := by
            have := HO4.out
            rw [← hlen1] at this
            exact this.rows
          have HB4 : Hid (Below w.heap.size w w4) := HBj.out.trans (r4.mono hzj)
          have hz4 := r4.size
          obtain ⟨⟨a0, a1, a2, a3⟩, b0, b1, b2, b3⟩ := HELD.out w4 r4
          obtain ⟨⟨t0, t1, t2, t3⟩, tf⟩ := HRow4.out (i + 1) (by omega)
          have v0 := tf 0 (by decide)
          have v1 := tf 1 (by decide)
          have v2 := tf 2 (by decide)
          have v3 := tf 3 (by decide)
          simp only [Nat.zero_add, Nat.add_zero] at t0 t1 t2 t3 v0 v1 v2 v3
          clear tf
          have hi6 : (i : Int) < (n3 : Int) := by omega
          have hi7 : (0 : Int) ≤ (i : Int) + 1 := by omega
          by_cases hneg : r < 0
          · have HNEG := Lib.hid hneg
            clear r4 e0 e1 e2 e3 p0 p1 p2 p3
            go_wp2
            go_roundw
            case rel =>
              refine ⟨i, z, by omega, by go_num, ?_, ?_, ?_, by simp; omega, by simp; omega⟩
              · have h3 := HO4.out.set hlen1.symm (i + 1) z
                rw [HZ.out, mid_stepN L y i (by omega), ← HZ.out] at h3
                exact h3
              · have e : insJN x L (i + 1) = insJN x L i := by
                  have h9 : ahSN x (atN L i) = true := by
                    rw [← HZ.out]
                    unfold ahSN
                    rw [← HRr.out]
                    exact decide_eq_true HNEG.out
                  simp [insJN, h9]
                exact HIj.out.trans e
              · exact put_belowN HB4.out hg0 ((i + 1) * 4) z
            case measure => simp [intOf]
          · have hneg' : decide (r < 0) = false := by simpa using hneg
            have HNEG := Lib.hid hneg
            clear r4 e0 e1 e2 e3 p0 p1 p2 p3
            go_wp2
            go_roundw
            case rel =>
              refine ⟨some ⟨g, 0, none⟩, n3 + 1, cap, k + 1, by omega, rfl, by go_num, ?_, ?_, by simp; omega⟩
              · have e : insJN x L (i + 1) = i + 1 := by
                  have h9 : ahSN x (atN L i) = false := by
                    rw [← HZ.out]
                    unfold ahSN
                    rw [← HRr.out]
                    exact decide_eq_false HNEG.out
                  simp [insJN, h9]
                exact HFIN.out w4 HO4.out (HIj.out.trans e)
              · exact put_belowN HB4.out hg0 ((i + 1) * 4) x
            case measure => simp [intOf]; omega
    · obtain rfl : k = ss.length := by omega
      go_wp2
      go_ret
      refine ⟨.slice A3 n3 C3, rfl, ?_, HB.out⟩
      rw [← refSN_eq]
      exact HO.out

end Go.Proofs.YtjbdpkjkeelgfaaDoor
