/- NameItems, walked. -/
import Derived.Test.YtjbdpkjkeelgfaaDoorNmN4
import Derived.Test.YtjbdpkjkeelgfaaDoorNmW
namespace Go.Proofs.YtjbdpkjkeelgfaaDoor
open Go Go.RowKit Go.Shelf
set_option linter.unusedSimpArgs false
set_option linter.unusedVariables false
set_option maxRecDepth 100000

theorem ofs_eq {x : It} {n m n' m' : Nat} {c : Int} {b : Bool} (h : rdI x = .ok (n, m) ∧ c = 0 ∨ rdI x = .error c ∧ n = 0 ∧ m = 0) (k : b = true ∧ epI x = some (n', m') ∨ b = false ∧ epI x = none ∧ n' = 0 ∧ m' = 0) :
    (n' = n ∧ m' = m) ∧ ((c = 0 ∧ b = true) ∨ (c = 130 ∧ b = false)) := by
  unfold rdI at h
  rcases k with ⟨hb, he⟩ | ⟨hb, he, h1, h2⟩
  · rw [he] at h
    rcases h with ⟨h, hc⟩ | ⟨h, _⟩
    · simp only [Except.ok.injEq, Prod.mk.injEq] at h
      exact ⟨⟨h.1, h.2⟩, .inl ⟨hc, hb⟩⟩
    · cases h
  · rw [he] at h
    rcases h with ⟨h, _⟩ | ⟨h, h3, h4⟩
    · cases h
    · simp only [Except.error.injEq] at h
      exact ⟨⟨by omega, by omega⟩, .inr ⟨h.symm, hb⟩⟩

theorem nofs_eq {x : It} {n m t q n' m' t' q' : Nat} {c : Int} {b : Bool} (h : rdNI x = .ok (n, m, t, q) ∧ c = 0 ∨ rdNI x = .error c ∧ n = 0 ∧ m = 0 ∧ t = 0 ∧ q = 0) (k : b = true ∧ nmI x = some (n', m', t', q') ∨ b = false ∧ nmI x = none ∧ n' = 0 ∧ m' = 0 ∧ t' = 0 ∧ q' = 0) :
    (n' = n ∧ m' = m ∧ t' = t ∧ q' = q) ∧ ((c = 0 ∧ b = true) ∨ (c = 130 ∧ b = false)) := by
  unfold rdNI at h
  rcases k with ⟨hb, he⟩ | ⟨hb, he, h1, h2, h3, h4⟩
  · rw [he] at h
    rcases h with ⟨h, hc⟩ | ⟨h, _⟩
    · simp only [Except.ok.injEq, Prod.mk.injEq] at h
      exact ⟨⟨h.1, h.2.1, h.2.2.1, h.2.2.2⟩, .inl ⟨hc, hb⟩⟩
    · cases h
  · rw [he] at h
    rcases h with ⟨h, _⟩ | ⟨h, h5, h6, h7, h8⟩
    · cases h
    · simp only [Except.error.injEq] at h
      exact ⟨⟨by omega, by omega, by omega, by omega⟩, .inr ⟨h.symm, hb⟩⟩

set_option maxHeartbeats 16000000 in
theorem walk_nameItems (x : It) (v : Value) (w : World) (hv : ItV w w.heap.size v x) (ht : TabN w) :
    Calls Tryd.prog 6 #[v] w fun e w' => e = .returned (.bool true) ∧ Below w.heap.size w w' := by
  have HT : Hid (∀ w', Below w.heap.size w w' → TabN w') := fun w' h => ht.on h
  obtain ⟨a, c, A, C, rfl⟩ := hv.form
  obtain ⟨W0, hW0⟩ : ∃ W, W = w.alloc (.cells #[.int .i64 x.k, .int .u64 x.n, .slice a x.b.length c, .string ⟨x.s.toArray⟩, .slice A x.l.length C] 33) := ⟨_, rfl⟩
  have HB0 : Hid (Below w.heap.size w W0) := by rw [hW0]; exact below_al (Below.refl _ _) _
  have HX : Hid (∀ w', Below W0.heap.size W0 w' → w'.cell? ⟨w.heap.size, 0, none⟩ = some (.int .i64 x.k) ∧ w'.cell? ⟨w.heap.size, 1, none⟩ = some (.int .u64 x.n) ∧ w'.cell? ⟨w.heap.size, 2, none⟩ = some (.slice a x.b.length c) ∧ w'.cell? ⟨w.heap.size, 3, none⟩ = some (.string ⟨x.s.toArray⟩) ∧ w'.cell? ⟨w.heap.size, 4, none⟩ = some (.slice A x.l.length C)) := fun w' h => by
    have hh := fun i => (h.cell (p := ⟨w.heap.size, i, none⟩) (by rw [hW0]; simp)).trans (by rw [hW0, World.cell?_alloc_mark] : W0.cell? ⟨w.heap.size, i, none⟩ = (#[.int .i64 x.k, .int .u64 x.n, .slice a x.b.length c, .string ⟨x.s.toArray⟩, .slice A x.l.length C])[i]?)
    exact ⟨hh 0, hh 1, hh 2, hh 3, hh 4⟩
  have HBW : Hid (∀ w', Below W0.heap.size W0 w' → Below w.heap.size w w') := fun w' h => HB0.out.trans (h.mono HB0.out.size)
  have HW0 := Lib.hid hW0
  have HV := Lib.hid hv
  have HFW := Lib.hid (fun w hv => few_any x (.agg #[.int .i64 x.k, .int .u64 x.n, .slice a x.b.length c, .string ⟨x.s.toArray⟩, .slice A x.l.length C]) 4 w (by decide) hv)
  clear hW0 ht hv
  obtain ⟨x0, x1, x2, x3, x4⟩ := HX.out W0 (Below.refl _ _)
  go_enter Tryd.func6, Tryd.ntmps6
  go_wp2_with fail
  rw [← HW0.out]
  refine (HFW.out _ (HV.out.on HB0.out)).mono ?_
  rintro e w1 ⟨fq, rfl, hfq, hb⟩
  have HB1 := Lib.hid hb
  have HFQ := Lib.hid hfq
  clear hb hfq x0 x1 x2 x3 x4
  cases fq
  · go_wp2_with fail
    refine (nmWorks_any _ (HT.out _ (HBW.out _ HB1.out))).mono ?_
    rintro e w2 ⟨rfl, hb⟩
    have HB2 := Lib.hid (below_on HB1.out hb)
    clear hb
    go_wp2
    go_ret
    exact ⟨rfl, HBW.out _ HB2.out⟩
  have HD : Hid (x.depth ≤ 60000) := by have := HFQ.out (by first | trivial | rfl); simp only [Hid]; omega
  obtain ⟨x0, x1, x2, x3, x4⟩ := HX.out w1 HB1.out
  go_wp2_with fail
  refine (of_any x _ w1 HD.out (HV.out.on (HBW.out _ HB1.out))).mono ?_
  intro e w2 htr
  obtain ⟨n, m, cc, rfl, hr⟩ := trE_agg htr
  have HR := Lib.hid hr
  obtain ⟨W2, hW2⟩ : ∃ W, W = w2.alloc (.cells #[.int .u32 n, .int .u32 m] 24) := ⟨_, rfl⟩
  have HB2 : Hid (Below W0.heap.size W0 W2) := by rw [hW2]; exact below_al (below_on HB1.out htr.1) _
  have HY2 : Hid (∀ w', Below W2.heap.size W2 w' → w'.cell? ⟨w2.heap.size, 0, none⟩ = some (.int .u32 n) ∧ w'.cell? ⟨w2.heap.size, 1, none⟩ = some (.int .u32 m)) := by
    rw [hW2]
    exact fun w' h => box2_all h
  have HW2 := Lib.hid hW2
  obtain ⟨z0, z1, z2, z3, z4⟩ := HX.out W2 HB2.out
  rw [hW2] at z0 z1 z2 z3 z4
  clear htr hr hW2 x0 x1 x2 x3 x4
  go_wp2_with fail
  rw [← HW2.out]
  refine (nof_any x _ W2 HD.out (HV.out.on (HBW.out _ HB2.out))).mono ?_
  intro e w3 htr
  obtain ⟨n2, m2, t2, q2, cn, rfl, hr⟩ := trN_agg htr
  have HRn := Lib.hid hr
  obtain ⟨W3, hW3⟩ : ∃ W, W = w3.alloc (.cells #[.int .u32 n2, .int .u32 m2, .int .u64 t2, .int .u32 q2] 47) := ⟨_, rfl⟩
  have HB23 : Hid (Below W2.heap.size W2 W3) := by rw [hW3]; exact below_al htr.1 _
  have HB3 : Hid (Below W0.heap.size W0 W3) := below_on HB2.out HB23.out
  have HY3 : Hid (∀ w', Below W3.heap.size W3 w' → w'.cell? ⟨w3.heap.size, 0, none⟩ = some (.int .u32 n2) ∧ w'.cell? ⟨w3.heap.size, 1, none⟩ = some (.int .u32 m2) ∧ w'.cell? ⟨w3.heap.size, 2, none⟩ = some (.int .u64 t2) ∧ w'.cell? ⟨w3.heap.size, 3, none⟩ = some (.int .u32 q2)) := by
    rw [hW3]
    exact fun w' h => box4_all h
  have HW3 := Lib.hid hW3
  clear z0 z1 z2 z3 z4
  obtain ⟨z0, z1, z2, z3, z4⟩ := HX.out W3 HB3.out
  rw [hW3] at z0 z1 z2 z3 z4
  clear htr hr hW3
  go_wp2_with fail
  rw [← HW3.out]
  refine (refOf_any x _ W3 (HV.out.on (HBW.out _ HB3.out))).mono ?_
  rintro e w4 ⟨hb, n', m', b1, rfl, hof⟩
  obtain ⟨⟨en, em⟩, hcb⟩ := ofs_eq HR.out hof
  rw [en, em]
  have HCB := Lib.hid hcb
  obtain ⟨W4, hW4⟩ : ∃ W, W = w4.alloc (.cells #[.int .u32 n, .int .u32 m] 24) := ⟨_, rfl⟩
  have HB34 : Hid (Below W3.heap.size W3 W4) := by rw [hW4]; exact below_al hb _
  have HB4 : Hid (Below W0.heap.size W0 W4) := below_on HB3.out HB34.out
  have HY4 : Hid (∀ w', Below W4.heap.size W4 w' → w'.cell? ⟨w4.heap.size, 0, none⟩ = some (.int .u32 n) ∧ w'.cell? ⟨w4.heap.size, 1, none⟩ = some (.int .u32 m)) := by
    rw [hW4]
    exact fun w' h => box2_all h
  have HW4 := Lib.hid hW4
  clear z0 z1 z2 z3 z4
  obtain ⟨z0, z1, z2, z3, z4⟩ := HX.out W4 HB4.out
  rw [hW4] at z0 z1 z2 z3 z4
  clear hb hof hcb en em hW4
  go_wp2_with fail
  rw [← HW4.out]
  refine (refNOf_any x _ W4 (HV.out.on (HBW.out _ HB4.out))).mono ?_
  rintro e w5 ⟨hb, n', m', t', q', b2, rfl, hof⟩
  obtain ⟨⟨en, em, et, eq⟩, hcb⟩ := nofs_eq HRn.out hof
  rw [en, em, et, eq]
  have HCB2 := Lib.hid hcb
  obtain ⟨W5, hW5⟩ : ∃ W, W = w5.alloc (.cells #[.int .u32 n2, .int .u32 m2, .int .u64 t2, .int .u32 q2] 47) := ⟨_, rfl⟩
  have HB45 : Hid (Below W4.heap.size W4 W5) := by rw [hW5]; exact below_al hb _
  have HB5 : Hid (Below W0.heap.size W0 W5) := below_on HB4.out HB45.out
  have HW5 := Lib.hid hW5
  clear z0 z1 z2 z3 z4
  obtain ⟨p0, p1⟩ := HY2.out W5 (below_on HB23.out (below_on HB34.out HB45.out))
  obtain ⟨r0, r1, r2, r3⟩ := HY3.out W5 (below_on HB34.out HB45.out)
  obtain ⟨s0, s1⟩ := HY4.out W5 HB45.out
  rw [hW5] at p0 p1 r0 r1 r2 r3 s0 s1
  have hsame : NmT.same ⟨n2, m2, t2, q2⟩ ⟨n2, m2, t2, q2⟩ = true := NmT.same_iff.2 rfl
  clear hb hof hcb en em et eq hW5
  rcases HCB.out with ⟨hc, hb1⟩ | ⟨hc, hb1⟩ <;> rcases HCB2.out with ⟨hc2, hb2⟩ | ⟨hc2, hb2⟩
  all_goals
    subst hc hb1 hc2 hb2
    go_wp2_with (go_at_call 14; refine (nmNum_any _ _).mono ?_; rintro e w' ⟨rfl, rfl⟩)
    rw [← HW5.out]
    refine (nmWorks_any _ (HT.out _ (HBW.out _ HB5.out))).mono ?_
    rintro e w6 ⟨rfl, hb⟩
    have HB6 := Lib.hid (below_on HB5.out hb)
    clear hb p0 p1 r0 r1 r2 r3 s0 s1
    go_wp2
    go_ret
    exact ⟨rfl, HBW.out _ HB6.out⟩

end Go.Proofs.YtjbdpkjkeelgfaaDoor
