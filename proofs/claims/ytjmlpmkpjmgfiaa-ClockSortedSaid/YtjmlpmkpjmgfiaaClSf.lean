/- The document's Sorted: an insertion. -/
import Derived.Test.YtjmlpmkpjmgfiaaClSM
import Derived.Deep.AppendLies
namespace Go.Proofs.Ytjmlpmkpjmgfiaa
open Go.RowKit Go.Shelf Go.Sort
set_option linter.unusedSimpArgs false
set_option linter.unusedVariables false

/-- v owns a row of these spans. -/
def OwnR (w : World) (base : Nat) (v : Value) (zs : List (Int × Int)) : Prop := w.ownsRow base 30 2 v zs.length (flatS zs)

theorem flatS_append : ∀ a b : List (Int × Int), flatS (a ++ b) = flatS a ++ flatS b
  | [], _ => rfl
  | p :: a, b => by simp [flatS, flatS_append a b]

theorem flatS_set : ∀ (zs : List (Int × Int)) (i : Nat) (f u : Int), flatS (zs.set i (f, u)) = ((flatS zs).set (i * 2) (.int .u64 f)).set (i * 2 + 1) (.int .u64 u)
  | [], i, f, u => by simp [flatS]
  | p :: r, 0, f, u => by simp [flatS]
  | p :: r, i + 1, f, u => by
    rw [show (i + 1) * 2 = i * 2 + 1 + 1 by omega]
    simp [flatS, flatS_set r i f u]

theorem OwnR.rows {w : World} {base g cap : Nat} {zs : List (Int × Int)} (h : OwnR w base (.slice (some ⟨g, 0, none⟩) zs.length cap) zs) : RowS w g 0 zs := fun j hj => by
  have hc := fun i hi => World.ownsRow.cellAt h i hi
  have hf := fun i => World.ownsRow.frozenAt h i
  rw [Nat.zero_add, hc _ (by omega), hc _ (by omega)]
  exact ⟨flatS_at zs j hj, hf _, hf _⟩

theorem OwnR.set {w : World} {base g cap n : Nat} {zs : List (Int × Int)} (hn : n = zs.length) (h : OwnR w base (.slice (some ⟨g, 0, none⟩) n cap) zs) (i : Nat) (f u : Int) :
    OwnR ((w.setCell ⟨g, i * 2, none⟩ (.int .u64 f)).setCell ⟨g, i * 2 + 1, none⟩ (.int .u64 u)) base (.slice (some ⟨g, 0, none⟩) n cap) (zs.set i (f, u)) := by
  subst hn
  unfold OwnR at *
  rw [flatS_set, List.length_set]
  exact ((h.stored (i * 2) (.int .u64 f)).1.stored (i * 2 + 1) (.int .u64 u)).1

theorem mid_set (A B : List (Int × Int)) (y x : Int × Int) (j : Nat) (hj : A.length = j) : (A ++ y :: B).set j x = A ++ x :: B := by
  subst hj
  simp

theorem mid_step (L : List (Int × Int)) (y : Int × Int) (j : Nat) (hj : j < L.length) : (L.take (j + 1) ++ y :: L.drop (j + 1)).set (j + 1) (fAt L j, uAt L j) = L.take j ++ (fAt L j, uAt L j) :: L.drop j := by
  have e : L.take (j + 1) = L.take j ++ [L[j]] := by
    rw [List.take_add_one, List.getElem?_eq_getElem hj]
    rfl
  rw [mid_set _ _ _ _ _ (by simp; omega), at_get L j hj, e, List.drop_eq_getElem_cons hj, List.append_assoc]
  rfl

theorem mid_at (L : List (Int × Int)) (y : Int × Int) (j t : Nat) (ht : t < j) (hj : j ≤ L.length) : fAt (L.take j ++ y :: L.drop j) t = fAt L t ∧ uAt (L.take j ++ y :: L.drop j) t = uAt L t := by
  unfold fAt uAt
  rw [List.getElem?_append_left (by simp; omega), List.getElem?_take, if_pos ht]
  exact ⟨rfl, rfl⟩

theorem mid_len (L : List (Int × Int)) (y : Int × Int) (j : Nat) (hj : j ≤ L.length) : (L.take j ++ y :: L.drop j).length = L.length + 1 := by simp; omega

theorem ahead_below (f u g v : Int) (w : World) :
    Calls Try.prog 14 #[.agg #[.int .u64 f, .int .u64 u], .agg #[.int .u64 g, .int .u64 v]] w fun e w' => e = .returned (.bool (ahS (f, u) (g, v))) ∧ Below w.heap.size w w' :=
  (ahead_any f u g v w).mono fun e w' h => ⟨h.1, by rw [h.2]; exact below_al (below_al (Below.refl _ _) _) _⟩

theorem grown_of_below {w w' : World} (h : Below w.heap.size w w') : w.grownBy w' none := ⟨h.os, h.tape, h.output, h.size, fun k hk _ => h.block k hk⟩

theorem OwnR.on {w w' : World} {base : Nat} {v : Value} {zs : List (Int × Int)} (h : OwnR w base v zs) (hb : Below w.heap.size w w') : OwnR w' base v zs := by
  refine World.ownsRow.kept h (grown_of_below hb) ?_
  cases v.ownBlock
  · exact .inl rfl
  · exact .inr (by simp)

theorem below_dr' {B : Nat} {a b : World} (h : Below B a b) (n : Nat) : Below B a (b.drewN n) := ⟨h.os, h.tape, h.output, h.size, h.block⟩

set_option maxRecDepth 100000 in
set_option maxHeartbeats 4000000 in
theorem refSorted_any (A : Option Addr) (C : Nat) (ss : List (Int × Int)) (w : World) (hlen : ss.length ≤ 1000000) (hr : RdS w w.heap.size A ss) :
    Calls Try.prog 5 #[.slice A ss.length C] w fun e w' => ∃ v, e = .returned v ∧ OwnR w' w.heap.size v (sortS (ss.filter riS)) ∧ Below w.heap.size w w' := by
  have HR := Lib.hid hr
  clear hr
  go_enter Try.func5, Try.ntmps5
  go_wp2
  go_loopw [3, 4] (fun s3 s4 wr => ∃ (A3 : Option Addr) (n3 C3 k : Nat), k ≤ ss.length ∧ s3 = .slice A3 n3 C3 ∧ s4 = .int .i64 k ∧ Hid (OwnR wr w.heap.size (.slice A3 n3 C3) (refS ss k)) ∧ Hid (Below w.heap.size w wr) ∧ w.heap.size ≤ wr.heap.size) (fun _ s4 _ => ss.length - (intOf s4).toNat)
  case atStart => exact ⟨none, 0, 0, 0, Nat.zero_le _, rfl, rfl, World.ownsRow_nil _ _ _ _, Below.refl _ _, Nat.le_refl _⟩
  case round =>
    obtain ⟨A3, n3, C3, k, hk, rfl, rfl, HO, HB, hz⟩ := hrel
    by_cases hlt : k < ss.length
    · obtain ⟨ga, oa, rfl, hga, hc0, hc1⟩ := (HR.out.below HB.out).cells k hlt
      have HA : Hid (∀ w3, Below w.heap.size w w3 → w3.cell? ⟨ga, oa + k * 2, none⟩ = some (.int .u64 (fAt ss k)) ∧ w3.cell? ⟨ga, oa + k * 2 + 1, none⟩ = some (.int .u64 (uAt ss k))) := fun w3 hb => by
        obtain ⟨g', o', e, _, h0, h1⟩ := (HR.out.below hb).cells k hlt
        cases e
        exact ⟨h0, h1⟩
      obtain ⟨f, hf⟩ : ∃ f, f = fAt ss k := ⟨_, rfl⟩
      obtain ⟨u, hu⟩ : ∃ u, u = uAt ss k := ⟨_, rfl⟩
      obtain ⟨L, hL⟩ : ∃ L, L = refS ss k := ⟨_, rfl⟩
      have hLk : L.length ≤ k := by rw [hL]; exact refS_le ss k hk
      have hS := refS_succ ss k hlt
      rw [← hf] at hc0 hS HA
      rw [← hu] at hc1 hS HA
      rw [← hL] at HO hS
      have HS := Lib.hid hS
      clear hf hu hL hS
      cases hq : rightT f u
      · go_wp2_with (go_at_call 13; refine (refRight_any _ _ _).mono ?_; rintro e w' ⟨rfl, rfl⟩)
        go_roundw
        case rel => exact ⟨A3, n3, C3, k + 1, by omega, rfl, by go_num, by rw [HS.out, hq]; exact HO.out.alloc _, below_al HB.out _, by simp; omega⟩
        case measure => simp [intOf]; omega
      · obtain ⟨m, hm⟩ : ∃ m, m = L.length := ⟨_, rfl⟩
        have hn3 : n3 = m := by
          rw [hm]
          rcases HO.out.2 with ⟨h, h0⟩ | ⟨g, cap, cur, h, _⟩
          · cases h; exact h0.symm
          · cases h; rfl
        have HM := Lib.hid hm
        subst hn3
        clear hm
        have HO1 : Hid (wr.ownsRow w.heap.size 30 2 (.slice A3 n3 C3) n3 (flatS L)) := by
          have := HO.out
          unfold OwnR at this
          rwa [← HM.out] at this
        go_wp2_with fail
        refine (refRight_any _ _ _).mono ?_
        rintro e w1 ⟨rfl, hw1⟩
        rw [hq]
        have HB1 : Hid (Below w.heap.size w w1) := by rw [hw1]; exact below_al HB.out _
        have HO2 : Hid ((w1.alloc (.cells #[.int .u64 f, .int .u64 u] 30)).ownsRow w.heap.size 30 2 (.slice A3 n3 C3) n3 (flatS L)) := by
          rw [hw1]
          exact (HO1.out.alloc _).alloc _
        have hz1 : w.heap.size ≤ w1.heap.size := HB1.out.size
        obtain ⟨hd0, hd1⟩ := HA.out w1 HB1.out
        have HMM : Hid (∀ j u', [Value.int .u64 f, .int .u64 u][j]? = some u' → (w1.alloc (.cells #[.int .u64 f, .int .u64 u] 30)).cell? ((⟨w1.heap.size, 0, none⟩ : Addr).add j) = some u') := by
          intro j u' hj
          have : j = 0 ∨ j = 1 := by
            have := (List.getElem?_eq_some_iff.1 hj).1
            simp at this
            omega
          rcases this with rfl | rfl
          · simp at hj; subst hj; simp [Addr.add]
          · simp at hj; subst hj; simp [Addr.add]
        have hL1 : n3 + 1 ≤ 1000001 := by rw [HM.out]; omega
        clear hw1 hc0 hc1
        go_wp2_with (at_builtin; refine wpList_appN _ rfl _ _ 22 rfl w.heap.size 30 _ 2 16 Try.underlying22 info_span rfl (by decide) _ n3 (flatS L) rfl HO2.out ⟨w1.heap.size, 0, none⟩ 1 1 [.int .u64 f, .int .u64 u] rfl rfl HMM.out (by intro u' hu'; simp at hu'; rcases hu' with rfl | rfl <;> rfl) (by unfold maxLen; omega) (by omega) (by rw [World.size_alloc]; omega) ?_; intro v' w2 h2 h3 h5; obtain ⟨g, cap, rfl, hg0, hg1⟩ := World.ownsRow.form h2 (by omega); have HO3 := Lib.hid h2; have HB3 := Lib.hid ((below_al HB1.out _).grown h3 (by rw [World.size_alloc]; omega) (fun r e => (HO2.out.lt r e).1)); clear h2 h3 h5)
        have hL0 : (L.length : Int) = (n3 : Int) := by rw [HM.out]
        have hLn : L.length = n3 := HM.out.symm
        go_loopw [5] (fun s5 w3 => ∃ (j : Nat) (y : Int × Int), j ≤ n3 ∧ s5 = .int .i64 j ∧ Hid (OwnR w3 w.heap.size (.slice (some ⟨g, 0, none⟩) (n3 + 1) cap) (L.take j ++ y :: L.drop j)) ∧ Hid (insJ (f, u) L L.length = insJ (f, u) L j) ∧ Hid (Below w.heap.size w w3) ∧ w.heap.size ≤ w3.heap.size ∧ g < w3.heap.size) (fun s5 _ => (intOf s5).toNat)
        case atStart =>
          refine ⟨n3, (f, u), Nat.le_refl _, by go_num, ?_, by rw [hLn]; exact rfl, HB3.out, HB3.out.size, hg1⟩
          have := HO3.out
          unfold OwnR
          rw [List.take_of_length_le (by omega), List.drop_eq_nil_of_le (by omega), flatS_append, List.length_append, hLn]
          exact this
        case round =>
          obtain ⟨j, y, hj, rfl, HOj, HIj, HBj, hzj, hgj⟩ := hrel
          obtain ⟨e0, e1⟩ := HA.out wr HBj.out
          have hlen1 : (L.take j ++ y :: L.drop j).length = n3 + 1 := by rw [mid_len _ _ _ (by omega), hLn]
          have HRow : Hid (RowS wr g 0 (L.take j ++ y :: L.drop j)) := by
            have := HOj.out
            rw [← hlen1] at this
            exact this.rows
          have HFIN : Hid (∀ w4, OwnR w4 w.heap.size (.slice (some ⟨g, 0, none⟩) (n3 + 1) cap) (L.take j ++ y :: L.drop j) → insJ (f, u) L L.length = j →
              OwnR ((w4.setCell ⟨g, j * 2, none⟩ (.int .u64 f)).setCell ⟨g, j * 2 + 1, none⟩ (.int .u64 u)) w.heap.size (.slice (some ⟨g, 0, none⟩) (n3 + 1) cap) (refS ss (k + 1))) := fun w4 h1 h2 => by
            have h3 := h1.set hlen1.symm j f u
            rw [mid_set _ _ _ _ _ (by simp; omega)] at h3
            rw [HS.out, hq, if_pos rfl]
            unfold insS
            rw [h2]
            exact h3
          rcases Nat.eq_zero_or_pos j with rfl | hj0
          · obtain ⟨⟨d0, d1⟩, g0, g1⟩ := HRow.out 0 (by omega)
            simp only [Nat.zero_mul, Nat.zero_add, Nat.add_zero] at d0 d1 g0 g1
            go_wp2_with fail
            go_quiet (fail)
            go_wp2
            go_roundw
            case rel =>
              refine ⟨some ⟨g, 0, none⟩, n3 + 1, cap, k + 1, by omega, rfl, by go_num, ?_, ?_, by simp; omega⟩
              · have := HFIN.out (wr.drewN nq) HOj.out HIj.out
                simp only [Nat.zero_mul, Nat.zero_add] at this
                exact this
              · exact ((below_dr' HBj.out nq).setCell (p := ⟨g, 0, none⟩) hg0 _).setCell (p := ⟨g, 1, none⟩) hg0 _
            case measure => simp [intOf]; omega
          · obtain ⟨i, hi⟩ : ∃ i, j = i + 1 := ⟨j - 1, by omega⟩
            subst hi
            have hji : IntKind.i64.wrap (i : Int) = (i : Int) := by rw [IntKind.wrap_i64]; omega
            have hjz : (0 : Int) < (i : Int) + 1 := by omega
            have him : i < n3 + 1 := by omega
            have hi1 : (i : Int) < ((n3 + 1 : Nat) : Int) := by omega
            have hi2 : (i : Int) < (n3 : Int) + 1 := by omega
            have hi3 : (0 : Int) ≤ (i : Int) := by omega
            have hi4 : (i : Int) ≤ (n3 : Int) := by omega
            have hi5 : i ≤ n3 := by omega
            obtain ⟨⟨d0, d1⟩, g0, g1⟩ := HRow.out (i + 1) (by omega)
            obtain ⟨⟨p0, p1⟩, q0, q1⟩ := HRow.out i (by omega)
            obtain ⟨m0, m1⟩ := mid_at L y (i + 1) i (by omega) (by omega)
            rw [m0] at p0
            rw [m1] at p1
            simp only [Nat.zero_add] at d0 d1 g0 g1 p0 p1 q0 q1
            obtain ⟨x, hx⟩ : ∃ x, x = fAt L i := ⟨_, rfl⟩
            obtain ⟨z, hz'⟩ : ∃ z, z = uAt L i := ⟨_, rfl⟩
            rw [← hx] at p0
            rw [← hz'] at p1
            have HX := Lib.hid hx
            have HZ := Lib.hid hz'
            clear hx hz' m0 m1
            have HAH := Lib.hid (fun w => ahead_below f u x z w)
            have HELD : Hid (∀ w', Below wr.heap.size wr w' → ((w'.cell? ⟨ga, oa + k * 2, none⟩ = some (.int .u64 f) ∧ w'.cell? ⟨ga, oa + k * 2 + 1, none⟩ = some (.int .u64 u)) ∧ (w'.cell? ⟨g, i * 2, none⟩ = some (.int .u64 x) ∧ w'.cell? ⟨g, i * 2 + 1, none⟩ = some (.int .u64 z))) ∧ Below wr.heap.size wr w') :=
              fun w' h => ⟨⟨HA.out w' (HBj.out.trans (h.mono hzj)), (h.cell (p := ⟨g, i * 2, none⟩) hgj).trans p0, (h.cell (p := ⟨g, i * 2 + 1, none⟩) hgj).trans p1⟩, h⟩
            have F0 : Below wr.heap.size wr wr.drew := (Below.refl _ _).drew
            go_wp2_with fail
            go_region_held3 (fun w' => ((w'.cell? ⟨ga, oa + k * 2, none⟩ = some (.int .u64 f) ∧ w'.cell? ⟨ga, oa + k * 2 + 1, none⟩ = some (.int .u64 u)) ∧ (w'.cell? ⟨g, i * 2, none⟩ = some (.int .u64 x) ∧ w'.cell? ⟨g, i * 2 + 1, none⟩ = some (.int .u64 z))) ∧ Below wr.heap.size wr w')
              (first | (refine HELD.out _ ?_; with_reducible exact F0) | (refine HELD.out _ ?_; with_reducible exact F1))
              (first | (go_at_call 14; (with_reducible refine (HAH.out _).mono ?_); rintro e w4 ⟨rfl, hw4⟩; have F1 : Below wr.heap.size wr w4 := F0.trans hw4))
            rename_i hHeld
            obtain ⟨⟨⟨r0, r1⟩, r2, r3⟩, r4⟩ := hHeld
            have HO4 : Hid (OwnR w4 w.heap.size (.slice (some ⟨g, 0, none⟩) (n3 + 1) cap) (L.take (i + 1) ++ y :: L.drop (i + 1))) := HOj.out.on r4
            have HRow4 : Hid (RowS w4 g 0 (L.take (i + 1) ++ y :: L.drop (i + 1))) := by
              have := HO4.out
              rw [← hlen1] at this
              exact this.rows
            have HB4 : Hid (Below w.heap.size w w4) := HBj.out.trans (r4.mono hzj)
            have hz4 := r4.size
            obtain ⟨⟨t0, t1⟩, v0, v1⟩ := HRow4.out (i + 1) (by omega)
            simp only [Nat.zero_add] at t0 t1 v0 v1
            have hi6 : (i : Int) < (n3 : Int) := by omega
            have hi7 : (0 : Int) ≤ (i : Int) + 1 := by omega
            obtain ⟨b, hb⟩ : ∃ b, b = ahS (f, u) (x, z) := ⟨_, rfl⟩
            rw [← hb]
            have HBb := Lib.hid hb
            clear hb F0 F1 r4 d0 d1 g0 g1 p0 p1 q0 q1 e0 e1
            cases b
            · go_wp2
              go_roundw
              case rel =>
                refine ⟨some ⟨g, 0, none⟩, n3 + 1, cap, k + 1, by omega, rfl, by go_num, ?_, ?_, by simp; omega⟩
                · have e : insJ (f, u) L (i + 1) = i + 1 := by
                    have := HBb.out
                    rw [HX.out, HZ.out] at this
                    simp [insJ, ← this]
                  exact HFIN.out w4 HO4.out (HIj.out.trans e)
                · exact (HB4.out.setCell (p := ⟨g, (i + 1) * 2, none⟩) hg0 _).setCell (p := ⟨g, (i + 1) * 2 + 1, none⟩) hg0 _
              case measure => simp [intOf]; omega
            · go_wp2
              go_roundw
              case rel =>
                refine ⟨i, (x, z), by omega, by go_num, ?_, ?_, ?_, by simp; omega, by simp; omega⟩
                · have h3 := HO4.out.set hlen1.symm (i + 1) x z
                  rw [HX.out, HZ.out, mid_step L y i (by omega), ← HX.out, ← HZ.out] at h3
                  exact h3
                · have e : insJ (f, u) L (i + 1) = insJ (f, u) L i := by
                    have := HBb.out
                    rw [HX.out, HZ.out] at this
                    simp [insJ, ← this]
                  exact HIj.out.trans e
                · exact (HB4.out.setCell (p := ⟨g, (i + 1) * 2, none⟩) hg0 _).setCell (p := ⟨g, (i + 1) * 2 + 1, none⟩) hg0 _
              case measure => simp [intOf]
    · obtain rfl : k = ss.length := by omega
      go_wp2
      go_ret
      refine ⟨.slice A3 n3 C3, rfl, ?_, HB.out⟩
      rw [← refS_eq]
      exact HO.out

end Go.Proofs.Ytjmlpmkpjmgfiaa
