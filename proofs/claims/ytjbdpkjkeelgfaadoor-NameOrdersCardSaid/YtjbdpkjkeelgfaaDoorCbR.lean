/- Items that are the same: ref Same. -/
import Derived.Test.YtjbdpkjkeelgfaaDoorCbC
import Derived.StillTailTactics
namespace Go.Proofs.YtjbdpkjkeelgfaaDoor
open Go.RowKit Go.Shelf
set_option linter.unusedSimpArgs false

mutual
/-- The same items, part by part? -/
def It.same : It → It → Bool
  | .mk k n b s l, .mk k' n' b' s' l' => decide (k = k') && (decide (n = n') && (decide (b = b') && (decide (s = s') && sameL l l')))
def sameL : List It → List It → Bool
  | [], l => l.isEmpty
  | _ :: _, [] => false
  | x :: xs, y :: ys => x.same y && sameL xs ys
end

mutual
theorem It.same_iff : ∀ x y : It, x.same y = true ↔ x = y
  | .mk k n b s l, .mk k' n' b' s' l' => by
    simp only [It.same, Bool.and_eq_true, decide_eq_true_eq, sameL_iff l l', It.mk.injEq]
theorem sameL_iff : ∀ l m : List It, sameL l m = true ↔ l = m
  | [], m => by cases m <;> simp [sameL]
  | x :: xs, [] => by simp [sameL]
  | x :: xs, y :: ys => by simp only [sameL, Bool.and_eq_true, It.same_iff x y, sameL_iff xs ys, List.cons.injEq]
end

theorem sameL_len {l m : List It} (h : l.length ≠ m.length) : sameL l m = false := by
  cases hs : sameL l m with
  | false => rfl
  | true =>
    rw [(sameL_iff l m).1 hs] at h
    exact absurd rfl h

theorem sameL_step {l m : List It} {j : Nat} (hl : j < l.length) (hm : j < m.length) (h : sameL (l.take j) (m.take j) = true) : sameL (l.take (j + 1)) (m.take (j + 1)) = l[j].same m[j] := by
  have h1 := (sameL_iff _ _).1 h
  have e1 := List.take_succ_eq_append_getElem hl
  have e2 := List.take_succ_eq_append_getElem hm
  rw [Bool.eq_iff_iff, sameL_iff, It.same_iff, e1, e2, h1, List.append_right_inj]
  simp only [List.cons.injEq, and_true]

theorem sameL_no {l m : List It} {j : Nat} (hl : j < l.length) (hm : j < m.length) (h : l[j].same m[j] = false) : sameL l m = false := by
  cases hs : sameL l m with
  | false => rfl
  | true =>
    have e := (sameL_iff l m).1 hs
    subst e
    rw [(It.same_iff _ _).2 rfl] at h
    cases h

theorem same_self (x : It) : x.same x = true := (It.same_iff x x).2 rfl

set_option maxRecDepth 100000 in
set_option maxHeartbeats 8000000 in
theorem refSame_any : ∀ (x y : It) (v u : Value) (w : World), ItV w w.heap.size v x → ItV w w.heap.size u y →
    Calls Tryd.prog 13 #[v, u] w fun e w' => e = .returned (.bool (x.same y)) ∧ Below w.heap.size w w' := by
  refine It.ind fun k n b s l ih y v u w hv hu => ?_
  obtain ⟨k', n', b', s', l'⟩ := y
  simp only [ItV] at hv hu
  obtain ⟨A, ⟨a, c, C, rfl, ⟨hc, hC⟩, hrb, hn, hk, hsb, hss, hsl⟩, hl⟩ := hv
  obtain ⟨A', ⟨a', c', C', rfl, ⟨hc', hC'⟩, hrb', hn', hk', hsb', hss', hsl'⟩, hl'⟩ := hu
  simp only [Sz] at hsb hss hsl hsb' hss' hsl'
  have HL := Lib.hid hl
  have HL' := Lib.hid hl'
  have IH := Lib.hid ih
  have HRB := Lib.hid hrb
  have HRB' := Lib.hid hrb'
  clear hrb hrb' hl hl' hn hn' hk hk' ih
  by_cases q1 : ¬ k = k'
  · have q1' : ((k : Int) == k') = false := by simpa using q1
    have hB0 := below_al (below_al (Below.refl w.heap.size w) (.cells #[.int .i64 k, .int .u64 n, .slice a b.length c, .string ⟨s.toArray⟩, .slice A l.length C] 33)) (.cells #[.int .i64 k', .int .u64 n', .slice a' b'.length c', .string ⟨s'.toArray⟩, .slice A' l'.length C'] 33)
    have g1 := (HRB.out.below hB0).text (P := Tryd.prog) 30 9 5 b.length c rfl Tryd.underlying30 Tryd.underlying5 Tryd.underlying9
    have g2 := (HRB'.out.below hB0).text (P := Tryd.prog) 30 9 5 b'.length c' rfl Tryd.underlying30 Tryd.underlying5 Tryd.underlying9
    go_enter Tryd.func13, Tryd.ntmps13
    go_wp2_with fail
    go_ret
    exact ⟨by simp [It.same, q1], hB0⟩
  have q1 := Decidable.not_not.1 q1
  subst q1
  by_cases q2 : ¬ n = n'
  · have q2' : ((n : Int) == n') = false := by simpa using q2
    have hB0 := below_al (below_al (Below.refl w.heap.size w) (.cells #[.int .i64 k, .int .u64 n, .slice a b.length c, .string ⟨s.toArray⟩, .slice A l.length C] 33)) (.cells #[.int .i64 k, .int .u64 n', .slice a' b'.length c', .string ⟨s'.toArray⟩, .slice A' l'.length C'] 33)
    have g1 := (HRB.out.below hB0).text (P := Tryd.prog) 30 9 5 b.length c rfl Tryd.underlying30 Tryd.underlying5 Tryd.underlying9
    have g2 := (HRB'.out.below hB0).text (P := Tryd.prog) 30 9 5 b'.length c' rfl Tryd.underlying30 Tryd.underlying5 Tryd.underlying9
    go_enter Tryd.func13, Tryd.ntmps13
    go_wp2_with fail
    go_ret
    exact ⟨by simp [It.same, q2], hB0⟩
  have q2 := Decidable.not_not.1 q2
  subst q2
  by_cases q3 : ¬ b = b'
  · have q3' : (b == b') = false := by simpa using q3
    have hB0 := below_al (below_al (Below.refl w.heap.size w) (.cells #[.int .i64 k, .int .u64 n, .slice a b.length c, .string ⟨s.toArray⟩, .slice A l.length C] 33)) (.cells #[.int .i64 k, .int .u64 n, .slice a' b'.length c', .string ⟨s'.toArray⟩, .slice A' l'.length C'] 33)
    have g1 := (HRB.out.below hB0).text (P := Tryd.prog) 30 9 5 b.length c rfl Tryd.underlying30 Tryd.underlying5 Tryd.underlying9
    have g2 := (HRB'.out.below hB0).text (P := Tryd.prog) 30 9 5 b'.length c' rfl Tryd.underlying30 Tryd.underlying5 Tryd.underlying9
    go_enter Tryd.func13, Tryd.ntmps13
    go_wp2_with fail
    go_ret
    exact ⟨by simp [It.same, q3], hB0⟩
  have q3 := Decidable.not_not.1 q3
  subst q3
  by_cases q4 : ¬ s = s'
  · have q4' : (s == s') = false := by simpa using q4
    have hB0 := below_al (below_al (Below.refl w.heap.size w) (.cells #[.int .i64 k, .int .u64 n, .slice a b.length c, .string ⟨s.toArray⟩, .slice A l.length C] 33)) (.cells #[.int .i64 k, .int .u64 n, .slice a' b.length c', .string ⟨s'.toArray⟩, .slice A' l'.length C'] 33)
    have g1 := (HRB.out.below hB0).text (P := Tryd.prog) 30 9 5 b.length c rfl Tryd.underlying30 Tryd.underlying5 Tryd.underlying9
    have g2 := (HRB'.out.below hB0).text (P := Tryd.prog) 30 9 5 b.length c' rfl Tryd.underlying30 Tryd.underlying5 Tryd.underlying9
    go_enter Tryd.func13, Tryd.ntmps13
    go_wp2_with fail
    go_ret
    exact ⟨by simp [It.same, q4], hB0⟩
  have q4 := Decidable.not_not.1 q4
  subst q4
  by_cases q5 : ¬ l.length = l'.length
  · have q5' : ((l.length : Int) == (l'.length : Int)) = false := by simp; omega
    have hSL := sameL_len q5
    have hB0 := below_al (below_al (Below.refl w.heap.size w) (.cells #[.int .i64 k, .int .u64 n, .slice a b.length c, .string ⟨s.toArray⟩, .slice A l.length C] 33)) (.cells #[.int .i64 k, .int .u64 n, .slice a' b.length c', .string ⟨s.toArray⟩, .slice A' l'.length C'] 33)
    have g1 := (HRB.out.below hB0).text (P := Tryd.prog) 30 9 5 b.length c rfl Tryd.underlying30 Tryd.underlying5 Tryd.underlying9
    have g2 := (HRB'.out.below hB0).text (P := Tryd.prog) 30 9 5 b.length c' rfl Tryd.underlying30 Tryd.underlying5 Tryd.underlying9
    go_enter Tryd.func13, Tryd.ntmps13
    go_wp2_with fail
    go_ret
    exact ⟨by simp [It.same, hSL], hB0⟩
  have q5 := Decidable.not_not.1 q5
  have HLen := Lib.hid q5
  rw [← q5] at hC' hsl' ⊢
  clear q5
  have hB0 := below_al (below_al (Below.refl w.heap.size w) (.cells #[.int .i64 k, .int .u64 n, .slice a b.length c, .string ⟨s.toArray⟩, .slice A l.length C] 33)) (.cells #[.int .i64 k, .int .u64 n, .slice a' b.length c', .string ⟨s.toArray⟩, .slice A' l.length C'] 33)
  have g1 := (HRB.out.below hB0).text (P := Tryd.prog) 30 9 5 b.length c rfl Tryd.underlying30 Tryd.underlying5 Tryd.underlying9
  have g2 := (HRB'.out.below hB0).text (P := Tryd.prog) 30 9 5 b.length c' rfl Tryd.underlying30 Tryd.underlying5 Tryd.underlying9
  go_enter Tryd.func13, Tryd.ntmps13
  go_wp2_with fail
  clear g1 g2
  obtain ⟨W0, hW0⟩ : ∃ W0, W0 = ((w.alloc (.cells #[.int .i64 k, .int .u64 n, .slice a b.length c, .string ⟨s.toArray⟩, .slice A l.length C] 33)).alloc (.cells #[.int .i64 k, .int .u64 n, .slice a' b.length c', .string ⟨s.toArray⟩, .slice A' l.length C'] 33)) := ⟨_, rfl⟩
  have x4 : W0.cell? ⟨w.heap.size, 4, none⟩ = some (.slice A l.length C) := by rw [hW0]; simp
  have x4' : W0.cell? ⟨w.heap.size + 1, 4, none⟩ = some (.slice A' l.length C') := by rw [hW0]; simp
  have hs0 : W0.heap.size = w.heap.size + 1 + 1 := by rw [hW0]; simp
  rw [← hW0] at hB0 ⊢
  have HX4 := Lib.hid x4
  have HX4' := Lib.hid x4'
  have HS0 := Lib.hid hs0
  clear hW0 x4 x4' hs0
  go_loopw [5] (fun i wr => ∃ j : Nat, j ≤ l.length ∧ i = .int .i64 j ∧ Hid (Below W0.heap.size W0 wr ∧ sameL (l.take j) (l'.take j) = true)) (fun i _ => l.length - (intOf i).toNat)
  case atStart => exact ⟨0, Nat.zero_le _, rfl, Below.refl _ _, rfl⟩
  case round =>
    obtain ⟨j, hj, rfl, HI⟩ := hrel
    have hy4 : wr.cell? ⟨w.heap.size, 4, none⟩ = some (.slice A l.length C) := (HI.out.1.cell (p := ⟨w.heap.size, 4, none⟩) (show w.heap.size < W0.heap.size by rw [HS0.out]; omega)).trans HX4.out
    have hy4' : wr.cell? ⟨w.heap.size + 1, 4, none⟩ = some (.slice A' l.length C') := (HI.out.1.cell (p := ⟨w.heap.size + 1, 4, none⟩) (show w.heap.size + 1 < W0.heap.size by rw [HS0.out]; omega)).trans HX4'.out
    by_cases hlt : j < l.length
    · have hlt' : j < l'.length := by rw [← HLen.out]; exact hlt
      have hBw : Below w.heap.size w wr := hB0.trans (HI.out.1.mono (by rw [HS0.out]; omega))
      obtain ⟨g, o, rfl, hg, hlL⟩ : ∃ g o, A = some ⟨g, o, none⟩ ∧ g < w.heap.size ∧ ItL w w.heap.size g o l := by
        rcases HL.out with rfl | h
        · simp at hlt
        · exact h
      obtain ⟨g', o', rfl, hg', hlL'⟩ : ∃ g o, A' = some ⟨g, o, none⟩ ∧ g < w.heap.size ∧ ItL w w.heap.size g o l' := by
        rcases HL'.out with rfl | h
        · simp at hlt'
        · exact h
      obtain ⟨p1, p2, p3, p4, hv5, e0, e1, e2, e3, e4⟩ := hlL.get (List.getElem?_eq_getElem hlt) hBw hg
      obtain ⟨r1, r2, r3, r4, hu5, f0, f1, f2, f3, f4⟩ := hlL'.get (List.getElem?_eq_getElem hlt') hBw hg'
      clear hlL hlL'
      have HC := Lib.hid (IH.out l[j] (List.getElem_mem hlt) l'[j] _ _ wr.drew (ItV.mono hBw.drew.size _ (ItV.below (Below.refl _ _).drew _ hv5)) (ItV.mono hBw.drew.size _ (ItV.below (Below.refl _ _).drew _ hu5)))
      have HBw := Lib.hid hBw
      clear hv5 hu5 hBw
      go_wp2_with fail
      go_still_tail 10, (by kernel_rfl)
      change wpList _ _ _ _ _ wr.drew
      clear e0 e1 e2 e3 e4 f0 f1 f2 f3 f4 hy4 hy4'
      go_wp2_with fail
      refine HC.out.mono ?_
      rintro e w1 ⟨rfl, hb1⟩
      have hb1w : Below W0.heap.size W0 w1 := HI.out.1.trans ((Below.refl wr.heap.size wr).drew.trans hb1 |>.mono HI.out.1.size)
      have HB1 := Lib.hid hb1w
      clear hb1 hb1w
      obtain ⟨t, ht⟩ : ∃ t, t = l[j].same l'[j] := ⟨_, rfl⟩
      rw [← ht]
      have HTt := Lib.hid ht
      clear ht
      cases t
      · go_wp2_with fail
        go_ret
        exact ⟨by simp [It.same, sameL_no hlt hlt' HTt.out.symm], hB0.trans (HB1.out.mono (by rw [HS0.out]; omega))⟩
      · have hst := sameL_step hlt hlt' HI.out.2
        rw [← HTt.out] at hst
        have HST := Lib.hid hst
        clear hst
        go_wp2_with fail
        go_roundw
        case rel => exact ⟨j + 1, by omega, by go_num, HB1.out, HST.out⟩
        case measure => simp [intOf]; omega
    · obtain rfl : j = l.length := by omega
      have h1 := HI.out.2
      have h2 : l'.take l.length = l' := List.take_of_length_le (by rw [HLen.out]; exact Nat.le_refl _)
      rw [List.take_length, h2] at h1
      have H1 := Lib.hid h1
      clear h1 h2
      go_wp2_with fail
      go_ret
      exact ⟨by simp [It.same, H1.out], hB0.trans (HI.out.1.mono (by rw [HS0.out]; omega))⟩

end Go.Proofs.YtjbdpkjkeelgfaaDoor
