/- cbor.Same: items that are the same. -/
import Derived.Test.YtjbdpkjkeelgfaaDoorCbS2
namespace Go.Proofs.YtjbdpkjkeelgfaaDoor
open Go.RowKit Go.Shelf
set_option linter.unusedSimpArgs false

theorem cell_new (w : World) (v : Value) (t : TypeId) (P : Nat) (hP : w.heap.size = P) : (w.alloc (.cells #[v] t)).cell? ⟨P, 0, none⟩ = some v := by
  subst hP
  rw [World.cell?_alloc_mark]
  rfl

set_option maxRecDepth 100000 in
set_option maxHeartbeats 2000000 in
/-- The closure: one level less. -/
theorem csame1_any (x y : It) (v u : Value) (L : Nat) (P : Nat) (w : World) (hL : 1 ≤ L ∧ L ≤ 100000) (hv : ItV w w.heap.size v x) (hu : ItV w w.heap.size u y) (hp : w.cell? ⟨P, 0, none⟩ = some (.int .i64 L))
    (hs : ∀ (v u : Value) (w : World), ItV w w.heap.size v x → ItV w w.heap.size u y → Calls Tryd.prog 109 #[v, u, .int .i64 (L - 1 : Nat)] w fun e w' => e = .returned (.bool (x.same y)) ∧ Below w.heap.size w w') :
    Calls Tryd.prog 127 #[v, u, .pointer (some ⟨P, 0, none⟩)] w fun e w' => e = .returned (.bool (x.same y)) ∧ Below w.heap.size w w' := by
  have HV := Lib.hid hv
  have HU := Lib.hid hu
  have HS : Hid (∀ (v u : Value) (w : World), ItV w w.heap.size v x → ItV w w.heap.size u y → Calls Tryd.prog 109 #[v, u, .int .i64 ((L : Int) - 1)] w fun e w' => e = .returned (.bool (x.same y)) ∧ Below w.heap.size w w') := by
    have e1 : ((L - 1 : Nat) : Int) = (L : Int) - 1 := by omega
    rw [← e1]
    exact hs
  obtain ⟨a, c, A, C, rfl⟩ := hv.form
  obtain ⟨a', c', A', C', rfl⟩ := hu.form
  obtain ⟨hL1, hL2⟩ := hL
  have hP : P < w.heap.size := World.block_lt_of_cell? w _ hp
  clear hv hu hs
  go_enter Tryd.func127, Tryd.ntmps127
  go_wp2_with fail
  refine (HS.out _ _ _ (HV.out.on (below_al (below_al (Below.refl _ _) _) _)) (HU.out.on (below_al (below_al (Below.refl _ _) _) _))).mono ?_
  rintro e w1 ⟨rfl, hb1⟩
  have HB1 := Lib.hid (below_on (below_al (below_al (Below.refl _ _) _) _) hb1)
  clear hb1
  go_wp2_with fail
  go_ret
  exact ⟨rfl, HB1.out⟩

set_option maxRecDepth 100000 in
set_option maxHeartbeats 8000000 in
theorem csame_any : ∀ (x y : It) (v u : Value) (L : Nat) (w : World), x.depth ≤ L → L ≤ 100000 → ItV w w.heap.size v x → ItV w w.heap.size u y →
    Calls Tryd.prog 109 #[v, u, .int .i64 L] w fun e w' => e = .returned (.bool (x.same y)) ∧ Below w.heap.size w w' := by
  refine It.ind fun k n b s l ih y v u L w hd hL hv hu => ?_
  obtain ⟨k', n', b', s', l'⟩ := y
  simp only [ItV] at hv hu
  obtain ⟨A, ⟨a, c, C, rfl, ⟨hc, hC⟩, hrb, hn, hk, hsb, hss, hsl⟩, hl⟩ := hv
  obtain ⟨A', ⟨a', c', C', rfl, ⟨hc', hC'⟩, hrb', hn', hk', hsb', hss', hsl'⟩, hl'⟩ := hu
  simp only [Sz] at hsb hss hsl hsb' hss' hsl'
  simp only [It.depth] at hd
  have hL0 : ((L : Int) == 0) = false := by simp; omega
  have hL1 : 1 ≤ L := by omega
  have HL := Lib.hid hl
  have HL' := Lib.hid hl'
  have IH := Lib.hid ih
  have HRB := Lib.hid hrb
  have HRB' := Lib.hid hrb'
  have HD := Lib.hid hd
  clear hrb hrb' hl hl' hn hn' hk hk' ih hd
  have hB0 := below_al (below_al (below_al (Below.refl w.heap.size w) (.cells #[.int .i64 k, .int .u64 n, .slice a b.length c, .string ⟨s.toArray⟩, .slice A l.length C] 33)) (.cells #[.int .i64 k', .int .u64 n', .slice a' b'.length c', .string ⟨s'.toArray⟩, .slice A' l'.length C'] 33)) (.cells #[.int .i64 L] 3)
  by_cases q1 : ¬ k = k'
  · have q1' : ((k : Int) == k') = false := by simpa using q1
    have q1n : (k != k') = true := by simpa using q1
    go_enter Tryd.func109, Tryd.ntmps109
    go_wp2_with fail
    go_ret
    exact ⟨by simp [It.same, q1], hB0⟩
  have q1 := Decidable.not_not.1 q1
  subst q1
  by_cases q2 : ¬ n = n'
  · have q2' : ((n : Int) == n') = false := by simpa using q2
    have q2n : (n != n') = true := by simpa using q2
    go_enter Tryd.func109, Tryd.ntmps109
    go_wp2_with fail
    go_ret
    exact ⟨by simp [It.same, q2], hB0⟩
  have q2 := Decidable.not_not.1 q2
  subst q2
  by_cases q3 : ¬ b = b'
  · have q3' : (b == b') = false := by simpa using q3
    have HE := Lib.hid (equal_any a a' b.length b'.length c c' b b' rfl rfl _ w.heap.size (HRB.out.below hB0) (HRB'.out.below hB0))
    rw [q3'] at HE
    go_enter Tryd.func109, Tryd.ntmps109
    go_wp2_with (go_at_call 125; refine HE.out.mono ?_; rintro e w' ⟨rfl, rfl⟩)
    go_ret
    exact ⟨by simp [It.same, q3], hB0⟩
  have q3 := Decidable.not_not.1 q3
  subst q3
  have HE := Lib.hid (equal_any a a' b.length b.length c c' b b rfl rfl _ w.heap.size (HRB.out.below hB0) (HRB'.out.below hB0))
  rw [beq_self_eq_true] at HE
  by_cases q4 : ¬ s = s'
  · have q4' : (s == s') = false := by simpa using q4
    go_enter Tryd.func109, Tryd.ntmps109
    go_wp2_with (go_at_call 125; refine HE.out.mono ?_; rintro e w' ⟨rfl, rfl⟩)
    go_ret
    exact ⟨by simp [It.same, q4], hB0⟩
  have q4 := Decidable.not_not.1 q4
  subst q4
  have hcP : (((w.alloc (.cells #[.int .i64 k, .int .u64 n, .slice a b.length c, .string ⟨s.toArray⟩, .slice A l.length C] 33)).alloc (.cells #[.int .i64 k, .int .u64 n, .slice a' b.length c', .string ⟨s.toArray⟩, .slice A' l'.length C'] 33)).alloc (.cells #[.int .i64 L] 3)).cell? ⟨w.heap.size + 1 + 1, 0, none⟩ = some (.int .i64 L) := cell_new _ _ _ _ (by rw [World.size_alloc, World.size_alloc])
  have hcL : w.heap.size + 1 + 1 < (((w.alloc (.cells #[.int .i64 k, .int .u64 n, .slice a b.length c, .string ⟨s.toArray⟩, .slice A l.length C] 33)).alloc (.cells #[.int .i64 k, .int .u64 n, .slice a' b.length c', .string ⟨s.toArray⟩, .slice A' l'.length C'] 33)).alloc (.cells #[.int .i64 L] 3)).heap.size := by simp
  have HF := Lib.hid (equalFunc_any l l' A A' C C' (w.heap.size + 1 + 1) (((w.alloc (.cells #[.int .i64 k, .int .u64 n, .slice a b.length c, .string ⟨s.toArray⟩, .slice A l.length C] 33)).alloc (.cells #[.int .i64 k, .int .u64 n, .slice a' b.length c', .string ⟨s.toArray⟩, .slice A' l'.length C'] 33)).alloc (.cells #[.int .i64 L] 3))
    (HL.out.imp id fun ⟨g, o, e, hg, h⟩ => ⟨g, o, e, Nat.lt_of_lt_of_le hg hB0.size, ItL.mono hB0.size _ (ItL.below hB0 hg _ h)⟩)
    (HL'.out.imp id fun ⟨g, o, e, hg, h⟩ => ⟨g, o, e, Nat.lt_of_lt_of_le hg hB0.size, ItL.mono hB0.size _ (ItL.below hB0 hg _ h)⟩) hC hC' hsl hsl'
    (fun i hi y v u w1 _ hb hv hu => csame1_any l[i] y v u L (w.heap.size + 1 + 1) w1 ⟨hL1, hL⟩ hv hu
      ((hb.cell (p := ⟨w.heap.size + 1 + 1, 0, none⟩) hcL).trans hcP)
      (fun v u w hv hu => IH.out l[i] (List.getElem_mem hi) y v u (L - 1) w (by have := depthL_mem (List.getElem_mem hi); have := HD.out; omega) (by omega) hv hu)))
  clear hcP hcL
  go_enter Tryd.func109, Tryd.ntmps109
  go_wp2_with (go_at_call 125; refine HE.out.mono ?_; rintro e w' ⟨rfl, rfl⟩)
  refine HF.out.mono ?_
  rintro e w1 ⟨rfl, hb1⟩
  have HB1 := Lib.hid (below_on hB0 hb1)
  clear hb1
  go_wp2_with fail
  go_ret
  exact ⟨by simp [It.same], HB1.out⟩

/-- cbor.Same. -/
theorem cSame_any (x y : It) (v u : Value) (w : World) (hd : x.depth ≤ 60000) (hv : ItV w w.heap.size v x) (hu : ItV w w.heap.size u y) :
    Calls Tryd.prog 91 #[v, u] w fun e w' => e = .returned (.bool (x.same y)) ∧ Below w.heap.size w w' := by
  have HV := Lib.hid hv
  have HU := Lib.hid hu
  have HC := Lib.hid (fun (v u : Value) (w : World) => csame_any x y v u 65537 w (by omega) (by decide))
  obtain ⟨a, c, A, C, rfl⟩ := hv.form
  obtain ⟨a', c', A', C', rfl⟩ := hu.form
  clear hv hu
  go_enter Tryd.func91, Tryd.ntmps91
  go_wp2_with fail
  refine (HC.out _ _ _ (HV.out.on (below_al (below_al (Below.refl _ _) _) _)) (HU.out.on (below_al (below_al (Below.refl _ _) _) _))).mono ?_
  rintro e w1 ⟨rfl, hb1⟩
  have HB1 := Lib.hid (below_on (below_al (below_al (Below.refl _ _) _) _) hb1)
  clear hb1
  go_wp2_with fail
  go_ret
  exact ⟨rfl, HB1.out⟩

end Go.Proofs.YtjbdpkjkeelgfaaDoor
