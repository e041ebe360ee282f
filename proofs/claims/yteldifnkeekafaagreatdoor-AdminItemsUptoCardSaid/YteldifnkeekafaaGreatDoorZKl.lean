/- Joined texts. -/
import Derived.Test.YteldifnkeekafaaGreatDoorZKv
set_option maxHeartbeats 8000000
set_option linter.unusedSimpArgs false
namespace Go.Proofs.YteldifnkeekafaaGreatDoor
open Go.RowKit Go.Shelf

def ItSl (w : World) (A : Option Addr) (l : List It) : Prop := l = [] ∨ ∃ g o, A = some ⟨g, o, none⟩ ∧ g < w.heap.size ∧ ItL w w.heap.size g o l

set_option maxRecDepth 100000 in
theorem equalFunc_any (l m : List It) (A A' : Option Addr) (C C' : Nat) (P : Nat) (w : World) (hl : ItSl w A l) (hm : ItSl w A' m) (hC : l.length ≤ C) (hC' : m.length ≤ C') (hsl : l.length ≤ 140737488355328) (hsm : m.length ≤ 140737488355328)
  (hf : ∀ (i : Nat) (hi : i < l.length) (y : It) (v u : Value) (w1 : World), y ∈ m → Below w.heap.size w w1 → ItV w1 w1.heap.size v l[i] → ItV w1 w1.heap.size u y →
   Calls Tryz.prog 159 #[v, u, .pointer (some ⟨P, 0, none⟩)] w1 fun e w' => e = .returned (.bool (l[i].same y)) ∧ Below w1.heap.size w1 w') :
  Calls Tryz.prog 158 #[.slice A l.length C, .slice A' m.length C', .func (.func 159) #[] #[.pointer (some ⟨P, 0, none⟩)]] w fun e w' => e = .returned (.bool (sameL l m)) ∧ Below w.heap.size w w' := by
 have HL := h_ hl
 have HM := h_ hm
 have HF := h_ hf
 clear hl hm hf
 by_cases q5 : ¬ l.length = m.length
 ·have q5' : ((l.length : Int) == (m.length : Int)) = false := by simp; omega
  have hSL := sameL_len q5
  go_enter Tryz.func158, Tryz.ntmps158
  go_wp2_with fail
  go_ret
  exact ⟨by simp [hSL], Below.refl _ _⟩
 have q5 := Decidable.not_not.1 q5
 have HLen := h_ q5
 rw [← q5] at hC' hsm ⊢
 clear q5
 go_enter Tryz.func158, Tryz.ntmps158
 go_wp2_with fail
 go_loopw [17] (fun i wr => ∃ j : Nat, j ≤ l.length ∧ i = .int .i64 j ∧ Hid (Below w.heap.size w wr ∧ sameL (l.take j) (m.take j) = true)) (fun i _ => l.length - (intOf i).toNat)
 case atStart => exact ⟨0, Nat.zero_le _, rfl, Below.refl _ _, rfl⟩
 case round =>
  obtain ⟨j, hj, rfl, HI⟩ := hrel
  by_cases hlt : j < l.length
  ·have hlt' : j < m.length := by rw [← HLen.out]; exact hlt
   obtain ⟨g, o, rfl, hg, hlL⟩ : ∃ g o, A = some ⟨g, o, none⟩ ∧ g < w.heap.size ∧ ItL w w.heap.size g o l := by
    rcases HL.out with rfl | h
    ·simp at hlt
    ·exact h
   obtain ⟨g', o', rfl, hg', hlL'⟩ : ∃ g o, A' = some ⟨g, o, none⟩ ∧ g < w.heap.size ∧ ItL w w.heap.size g o m := by
    rcases HM.out with rfl | h
    ·simp at hlt'
    ·exact h
   have hBw := HI.out.1
   obtain ⟨p1, p2, p3, p4, hv5, e0, e1, e2, e3, e4⟩ := hlL.get (List.getElem?_eq_getElem hlt) hBw hg
   have hgr : g < wr.heap.size := Nat.lt_of_lt_of_le hg hBw.size
   have hgr' : g' < wr.heap.size := Nat.lt_of_lt_of_le hg' hBw.size
   obtain ⟨r1, r2, r3, r4, hu5, f0', f1', f2', f3', f4'⟩ := hlL'.get (List.getElem?_eq_getElem hlt') hBw hg'
   clear hlL hlL'
   have HV := h_ (ItV.mono hBw.size _ hv5)
   have HU := h_ (ItV.mono hBw.size _ hu5)
   have HBw := h_ hBw
   clear hv5 hu5 hBw
   go_wp2_with fail
   have hB2 : Below wr.heap.size wr ((wr.alloc (.cells #[.int .i64 l[j].k, .int .u64 l[j].n, .slice p1 l[j].b.length p2, .string ⟨l[j].s.toArray⟩, .slice p3 l[j].l.length p4] 45)).alloc (.cells #[.int .i64 m[j].k, .int .u64 m[j].n, .slice r1 m[j].b.length r2, .string ⟨m[j].s.toArray⟩, .slice r3 m[j].l.length r4] 45)) := below_al (below_al bR _) _
   refine (HF.out j hlt m[j] _ _ _ (List.getElem_mem hlt') (below_on HBw.out hB2) (HV.out.on hB2) (HU.out.on hB2)).mono ?_
   rintro e w1 ⟨rfl, hb1⟩
   have HB1 := h_ (below_on (below_on HBw.out hB2) hb1)
   clear hb1 hB2 e0 e1 e2 e3 e4 f0' f1' f2' f3' f4'
   obtain ⟨t, ht⟩ : ∃ t, t = l[j].same m[j] := ⟨_, rfl⟩
   rw [← ht]
   have HTt := h_ ht
   clear ht
   cases t
   ·go_wp2_with fail
    go_ret
    exact ⟨by simp [sameL_no hlt hlt' HTt.out.symm], HB1.out⟩
   ·have hst := sameL_step hlt hlt' HI.out.2
    rw [← HTt.out] at hst
    have HST := h_ hst
    clear hst
    go_wp2_with fail
    go_roundw
    case rel => exact ⟨j + 1, by omega, by go_num, HB1.out, HST.out⟩
    case measure => simp [intOf]; omega
  ·obtain rfl : j = l.length := by omega
   have h1 := HI.out.2
   have h2 : m.take l.length = m := List.take_of_length_le (by rw [HLen.out]; exact Nat.le_refl _)
   rw [List.take_length, h2] at h1
   have H1 := h_ h1
   clear h1 h2
   go_wp2_with fail
   go_ret
   exact ⟨by simp [H1.out], HI.out.1⟩

theorem cell_new (w : World) (v : Value) (t : TypeId) (P : Nat) (hP : w.heap.size = P) : (w.alloc (.cells #[v] t)).cell? ⟨P, 0, none⟩ = some v := by
 subst hP
 rw [World.cell?_alloc_mark]
 rfl

set_option maxRecDepth 100000 in
theorem csame1_any (x y : It) (v u : Value) (L : Nat) (P : Nat) (w : World) (hL : 1 ≤ L ∧ L ≤ 100000) (hv : ItV w w.heap.size v x) (hu : ItV w w.heap.size u y) (hp : w.cell? ⟨P, 0, none⟩ = some (.int .i64 L))
  (hs : ∀ (v u : Value) (w : World), ItV w w.heap.size v x → ItV w w.heap.size u y → Calls Tryz.prog 156 #[v, u, .int .i64 (L - 1 : Nat)] w fun e w' => e = .returned (.bool (x.same y)) ∧ Below w.heap.size w w') :
  Calls Tryz.prog 159 #[v, u, .pointer (some ⟨P, 0, none⟩)] w fun e w' => e = .returned (.bool (x.same y)) ∧ Below w.heap.size w w' := by
 have HV := h_ hv
 have HU := h_ hu
 have HS : Hid (∀ (v u : Value) (w : World), ItV w w.heap.size v x → ItV w w.heap.size u y → Calls Tryz.prog 156 #[v, u, .int .i64 ((L : Int) - 1)] w fun e w' => e = .returned (.bool (x.same y)) ∧ Below w.heap.size w w') := by
  have e1 : ((L - 1 : Nat) : Int) = (L : Int) - 1 := by omega
  rw [← e1]
  exact hs
 obtain ⟨a, c, A, C, rfl⟩ := hv.form
 obtain ⟨a', c', A', C', rfl⟩ := hu.form
 obtain ⟨hL1, hL2⟩ := hL
 have hP : P < w.heap.size := World.block_lt_of_cell? w _ hp
 clear hv hu hs
 go_enter Tryz.func159, Tryz.ntmps159
 go_wp2_with fail
 refine (HS.out _ _ _ (HV.out.on (below_al (below_al bR _) _)) (HU.out.on (below_al (below_al bR _) _))).mono ?_
 rintro e w1 ⟨rfl, hb1⟩
 have HB1 := h_ (below_on (below_al (below_al bR _) _) hb1)
 clear hb1
 go_wp2_with fail
 go_ret
 exact ⟨rfl, HB1.out⟩

set_option maxRecDepth 100000 in
theorem csame_any : ∀ (x y : It) (v u : Value) (L : Nat) (w : World), x.depth ≤ L → L ≤ 100000 → ItV w w.heap.size v x → ItV w w.heap.size u y →
  Calls Tryz.prog 156 #[v, u, .int .i64 L] w fun e w' => e = .returned (.bool (x.same y)) ∧ Below w.heap.size w w' := by
 refine It.ind fun k n b s l ih y v u L w hd hL hv hu => ?_
 obtain ⟨k', n', b', s', l'⟩ := y
 simp only [ItV] at hv hu
 obtain ⟨A, ⟨a, c, C, rfl, ⟨hc, hC⟩, hrb, hn, hk, hsb, hss, hsl⟩, hl⟩ := hv
 obtain ⟨A', ⟨a', c', C', rfl, ⟨hc', hC'⟩, hrb', hn', hk', hsb', hss', hsl'⟩, hl'⟩ := hu
 simp only [Sz] at hsb hss hsl hsb' hss' hsl'
 simp only [It.depth] at hd
 have hL0 : ((L : Int) == 0) = false := by simp; omega
 have hL1 : 1 ≤ L := by omega
 have HL := h_ hl
 have HL' := h_ hl'
 have IH := h_ ih
 have HRB := h_ hrb
 have HRB' := h_ hrb'
 have HD := h_ hd
 clear hrb hrb' hl hl' hn hn' hk hk' ih hd
 have hB0 := below_al (below_al (below_al (Below.refl w.heap.size w) (.cells #[.int .i64 k, .int .u64 n, .slice a b.length c, .string ⟨s.toArray⟩, .slice A l.length C] 45)) (.cells #[.int .i64 k', .int .u64 n', .slice a' b'.length c', .string ⟨s'.toArray⟩, .slice A' l'.length C'] 45)) (.cells #[.int .i64 L] 3)
 by_cases q1 : ¬ k = k'
 ·have q1' : ((k : Int) == k') = false := by simpa using q1
  have q1n : (k != k') = true := by simpa using q1
  go_enter Tryz.func156, Tryz.ntmps156
  go_wp2_with fail
  go_ret
  exact ⟨by simp [It.same, q1], hB0⟩
 have q1 := Decidable.not_not.1 q1
 subst q1
 by_cases q2 : ¬ n = n'
 ·have q2' : ((n : Int) == n') = false := by simpa using q2
  have q2n : (n != n') = true := by simpa using q2
  go_enter Tryz.func156, Tryz.ntmps156
  go_wp2_with fail
  go_ret
  exact ⟨by simp [It.same, q2], hB0⟩
 have q2 := Decidable.not_not.1 q2
 subst q2
 by_cases q3 : ¬ b = b'
 ·have q3' : (b == b') = false := by simpa using q3
  have HE := h_ (equal_any a a' b.length b'.length c c' b b' rfl rfl _ w.heap.size (HRB.out.below hB0) (HRB'.out.below hB0))
  rw [q3'] at HE
  go_enter Tryz.func156, Tryz.ntmps156
  go_wp2_with (go_at_call 157; refine HE.out.mono ?_; rintro e w' ⟨rfl, rfl⟩)
  go_ret
  exact ⟨by simp [It.same, q3], hB0⟩
 have q3 := Decidable.not_not.1 q3
 subst q3
 have HE := h_ (equal_any a a' b.length b.length c c' b b rfl rfl _ w.heap.size (HRB.out.below hB0) (HRB'.out.below hB0))
 rw [beq_self_eq_true] at HE
 by_cases q4 : ¬ s = s'
 ·have q4' : (s == s') = false := by simpa using q4
  go_enter Tryz.func156, Tryz.ntmps156
  go_wp2_with (go_at_call 157; refine HE.out.mono ?_; rintro e w' ⟨rfl, rfl⟩)
  go_ret
  exact ⟨by simp [It.same, q4], hB0⟩
 have q4 := Decidable.not_not.1 q4
 subst q4
 have hcP : (((w.alloc (.cells #[.int .i64 k, .int .u64 n, .slice a b.length c, .string ⟨s.toArray⟩, .slice A l.length C] 45)).alloc (.cells #[.int .i64 k, .int .u64 n, .slice a' b.length c', .string ⟨s.toArray⟩, .slice A' l'.length C'] 45)).alloc (.cells #[.int .i64 L] 3)).cell? ⟨w.heap.size + 1 + 1, 0, none⟩ = some (.int .i64 L) := cell_new _ _ _ _ (by rw [World.size_alloc, World.size_alloc])
 have hcL : w.heap.size + 1 + 1 < (((w.alloc (.cells #[.int .i64 k, .int .u64 n, .slice a b.length c, .string ⟨s.toArray⟩, .slice A l.length C] 45)).alloc (.cells #[.int .i64 k, .int .u64 n, .slice a' b.length c', .string ⟨s.toArray⟩, .slice A' l'.length C'] 45)).alloc (.cells #[.int .i64 L] 3)).heap.size := by simp
 have HF := h_ (equalFunc_any l l' A A' C C' (w.heap.size + 1 + 1) (((w.alloc (.cells #[.int .i64 k, .int .u64 n, .slice a b.length c, .string ⟨s.toArray⟩, .slice A l.length C] 45)).alloc (.cells #[.int .i64 k, .int .u64 n, .slice a' b.length c', .string ⟨s.toArray⟩, .slice A' l'.length C'] 45)).alloc (.cells #[.int .i64 L] 3))
  (HL.out.imp id fun ⟨g, o, e, hg, h⟩ => ⟨g, o, e, Nat.lt_of_lt_of_le hg hB0.size, ItL.mono hB0.size _ (ItL.below hB0 hg _ h)⟩)
  (HL'.out.imp id fun ⟨g, o, e, hg, h⟩ => ⟨g, o, e, Nat.lt_of_lt_of_le hg hB0.size, ItL.mono hB0.size _ (ItL.below hB0 hg _ h)⟩) hC hC' hsl hsl'
  (fun i hi y v u w1 _ hb hv hu => csame1_any l[i] y v u L (w.heap.size + 1 + 1) w1 ⟨hL1, hL⟩ hv hu
   ((hb.cell (p := ⟨w.heap.size + 1 + 1, 0, none⟩) hcL).trans hcP)
   (fun v u w hv hu => IH.out l[i] (List.getElem_mem hi) y v u (L - 1) w (by have := depthL_mem (List.getElem_mem hi); have := HD.out; omega) (by omega) hv hu)))
 clear hcP hcL
 go_enter Tryz.func156, Tryz.ntmps156
 go_wp2_with (go_at_call 157; refine HE.out.mono ?_; rintro e w' ⟨rfl, rfl⟩)
 refine HF.out.mono ?_
 rintro e w1 ⟨rfl, hb1⟩
 have HB1 := h_ (below_on hB0 hb1)
 clear hb1
 go_wp2_with fail
 go_ret
 exact ⟨by simp [It.same], HB1.out⟩

theorem cSame_any (x y : It) (v u : Value) (w : World) (hd : x.depth ≤ 60000) (hv : ItV w w.heap.size v x) (hu : ItV w w.heap.size u y) :
  Calls Tryz.prog 153 #[v, u] w fun e w' => e = .returned (.bool (x.same y)) ∧ Below w.heap.size w w' := by
 have HV := h_ hv
 have HU := h_ hu
 have HC := h_ (fun (v u : Value) (w : World) => csame_any x y v u 65537 w (by omega) (by decide))
 obtain ⟨a, c, A, C, rfl⟩ := hv.form
 obtain ⟨a', c', A', C', rfl⟩ := hu.form
 clear hv hu
 go_enter Tryz.func153, Tryz.ntmps153
 go_wp2_with fail
 refine (HC.out _ _ _ (HV.out.on (below_al (below_al bR _) _)) (HU.out.on (below_al (below_al bR _) _))).mono ?_
 rintro e w1 ⟨rfl, hb1⟩
 have HB1 := h_ (below_on (below_al (below_al bR _) _) hb1)
 clear hb1
 go_wp2_with fail
 go_ret
 exact ⟨rfl, HB1.out⟩

end Go.Proofs.YteldifnkeekafaaGreatDoor
