/- The document's Name, Has, FlagsRight, Rank, Expires. -/
import Derived.Test.YtlmdbeccfoncpaaGreatDoorZKt
namespace Go.Proofs.YtlmdbeccfoncpaaGreatDoor
open Go Go.RowKit Go.Shelf
set_option linter.unusedSimpArgs false
set_option linter.unusedVariables false
set_option maxRecDepth 100000


theorem flB_iff (f : Nat) (hf : f < 4294967296) : flB f = true ↔ (f % 128 = 0 ∨ f % 128 = 2 ∨ f % 128 = 32 ∨ f % 128 = 34) ∧ f / 128 ≤ 2 := by
  have h1 : (f &&& 4294967261) % 128 = (f % 128) &&& 93 := by
    have := Nat.and_mod_two_pow (a := f) (b := 4294967261) (n := 7)
    simpa using this
  have h2 : (f &&& 4294967261) / 128 = f / 128 := by
    have h := Nat.and_div_two_pow (a := f) (b := 4294967261) (n := 7)
    have h3 := Nat.and_two_pow_sub_one_eq_mod (f / 128) 25
    simp at h h3
    rw [h, h3]
    omega
  have h3 : ∀ m : Fin 128, (m.val &&& 93 = 0) ↔ (m.val = 0 ∨ m.val = 2 ∨ m.val = 32 ∨ m.val = 34) := by decide
  have h4 := h3 ⟨f % 128, Nat.mod_lt _ (by decide)⟩
  unfold flB
  rw [h1, h2]
  simp only [Bool.and_eq_true, decide_eq_true_eq]
  simp only at h4
  rw [h4]

set_option maxHeartbeats 8000000 in
theorem refFlagsRight_any (f : Nat) (hf : f < 4294967296) (w : World) : Calls Tryz.prog 33 #[.int .u32 f] w fun e w' => e = .returned (.bool (flB f)) ∧ w = w' := by
  have hm : ((f : Nat) : Int).tmod 128 = ((f % 128 : Nat) : Int) := by rw [Int.tmod_eq_emod_of_nonneg (by omega)]; omega
  have hd : ((f : Nat) : Int).tdiv 128 = ((f / 128 : Nat) : Int) := by rw [Int.tdiv_eq_ediv_of_nonneg (by omega)]; omega
  have hlt : ((f / 128 : Nat) : Int) % 4294967296 = ((f / 128 : Nat) : Int) := by omega
  have hlm : ((f % 128 : Nat) : Int) % 4294967296 = ((f % 128 : Nat) : Int) := by omega
  by_cases hc : f ≤ 418
  · have ha : decide ((f : Int) ≤ 418) = true := by simp; omega
    by_cases hle : f % 128 ≤ 34
    · have hb : decide (((f % 128 : Nat) : Int) ≤ 34) = true := by simp; omega
      by_cases h0 : f % 128 = 0
      · have hk : ((f % 128 : Nat) : Int) = 0 := by omega
        by_cases hd2 : f / 128 ≤ 2
        · have he : decide (((f / 128 : Nat) : Int) ≤ 2) = true := by simp; omega
          have HV : Hid (flB f = true) := by
            rw [Hid]
            cases h9 : flB f
            · exact absurd ((flB_iff f hf).2 (by omega)) (by rw [h9]; decide)
            · rfl
          rw [hk] at hm
          generalize ((f / 128 : Nat) : Int) = d at *
          clear hc hle hd2 hf hb hlm hk h0
          go_enter Tryz.func33, Tryz.ntmps33
          go_wp2_with fail
          go_ret
          exact ⟨by rw [HV.out]; rfl, rfl⟩
        · have he : decide (((f / 128 : Nat) : Int) ≤ 2) = false := by simp; omega
          have HV : Hid (flB f = false) := by
            rw [Hid]
            cases h9 : flB f
            · rfl
            · exact absurd ((flB_iff f hf).1 h9) (by omega)
          rw [hk] at hm
          generalize ((f / 128 : Nat) : Int) = d at *
          clear hc hle hd2 hf hb hlm hk h0
          go_enter Tryz.func33, Tryz.ntmps33
          go_wp2_with fail
          go_ret
          exact ⟨by rw [HV.out]; rfl, rfl⟩
      by_cases h2 : f % 128 = 2
      · have hk : ((f % 128 : Nat) : Int) = 2 := by omega
        by_cases hd2 : f / 128 ≤ 2
        · have he : decide (((f / 128 : Nat) : Int) ≤ 2) = true := by simp; omega
          have HV : Hid (flB f = true) := by
            rw [Hid]
            cases h9 : flB f
            · exact absurd ((flB_iff f hf).2 (by omega)) (by rw [h9]; decide)
            · rfl
          rw [hk] at hm
          generalize ((f / 128 : Nat) : Int) = d at *
          clear hc hle hd2 hf hb hlm hk h0 h2
          go_enter Tryz.func33, Tryz.ntmps33
          go_wp2_with fail
          go_ret
          exact ⟨by rw [HV.out]; rfl, rfl⟩
        · have he : decide (((f / 128 : Nat) : Int) ≤ 2) = false := by simp; omega
          have HV : Hid (flB f = false) := by
            rw [Hid]
            cases h9 : flB f
            · rfl
            · exact absurd ((flB_iff f hf).1 h9) (by omega)
          rw [hk] at hm
          generalize ((f / 128 : Nat) : Int) = d at *
          clear hc hle hd2 hf hb hlm hk h0 h2
          go_enter Tryz.func33, Tryz.ntmps33
          go_wp2_with fail
          go_ret
          exact ⟨by rw [HV.out]; rfl, rfl⟩
      by_cases h32 : f % 128 = 32
      · have hk : ((f % 128 : Nat) : Int) = 32 := by omega
        by_cases hd2 : f / 128 ≤ 2
        · have he : decide (((f / 128 : Nat) : Int) ≤ 2) = true := by simp; omega
          have HV : Hid (flB f = true) := by
            rw [Hid]
            cases h9 : flB f
            · exact absurd ((flB_iff f hf).2 (by omega)) (by rw [h9]; decide)
            · rfl
          rw [hk] at hm
          generalize ((f / 128 : Nat) : Int) = d at *
          clear hc hle hd2 hf hb hlm hk h0 h2 h32
          go_enter Tryz.func33, Tryz.ntmps33
          go_wp2_with fail
          go_ret
          exact ⟨by rw [HV.out]; rfl, rfl⟩
        · have he : decide (((f / 128 : Nat) : Int) ≤ 2) = false := by simp; omega
          have HV : Hid (flB f = false) := by
            rw [Hid]
            cases h9 : flB f
            · rfl
            · exact absurd ((flB_iff f hf).1 h9) (by omega)
          rw [hk] at hm
          generalize ((f / 128 : Nat) : Int) = d at *
          clear hc hle hd2 hf hb hlm hk h0 h2 h32
          go_enter Tryz.func33, Tryz.ntmps33
          go_wp2_with fail
          go_ret
          exact ⟨by rw [HV.out]; rfl, rfl⟩
      by_cases h34 : f % 128 = 34
      · have hk : ((f % 128 : Nat) : Int) = 34 := by omega
        by_cases hd2 : f / 128 ≤ 2
        · have he : decide (((f / 128 : Nat) : Int) ≤ 2) = true := by simp; omega
          have HV : Hid (flB f = true) := by
            rw [Hid]
            cases h9 : flB f
            · exact absurd ((flB_iff f hf).2 (by omega)) (by rw [h9]; decide)
            · rfl
          rw [hk] at hm
          generalize ((f / 128 : Nat) : Int) = d at *
          clear hc hle hd2 hf hb hlm hk h0 h2 h32 h34
          go_enter Tryz.func33, Tryz.ntmps33
          go_wp2_with fail
          go_ret
          exact ⟨by rw [HV.out]; rfl, rfl⟩
        · have he : decide (((f / 128 : Nat) : Int) ≤ 2) = false := by simp; omega
          have HV : Hid (flB f = false) := by
            rw [Hid]
            cases h9 : flB f
            · rfl
            · exact absurd ((flB_iff f hf).1 h9) (by omega)
          rw [hk] at hm
          generalize ((f / 128 : Nat) : Int) = d at *
          clear hc hle hd2 hf hb hlm hk h0 h2 h32 h34
          go_enter Tryz.func33, Tryz.ntmps33
          go_wp2_with fail
          go_ret
          exact ⟨by rw [HV.out]; rfl, rfl⟩
      have HV : Hid (flB f = false) := by
        rw [Hid]
        cases h9 : flB f
        · rfl
        · exact absurd ((flB_iff f hf).1 h9) (by omega)
      have n0 : (((f % 128 : Nat) : Int) == 0) = false := by simp; omega
      have n2 : (((f % 128 : Nat) : Int) == 2) = false := by simp; omega
      have n32 : (((f % 128 : Nat) : Int) == 32) = false := by simp; omega
      have n34 : (((f % 128 : Nat) : Int) == 34) = false := by simp; omega
      generalize ((f / 128 : Nat) : Int) = d at *
      generalize ((f % 128 : Nat) : Int) = m at *
      clear hc hle hf h0 h2 h32 h34
      go_enter Tryz.func33, Tryz.ntmps33
      go_wp2_with fail
      go_ret
      exact ⟨by rw [HV.out]; rfl, rfl⟩
    · have hb : decide (((f % 128 : Nat) : Int) ≤ 34) = false := by simp; omega
      have HV : Hid (flB f = false) := by
        rw [Hid]
        cases h9 : flB f
        · rfl
        · exact absurd ((flB_iff f hf).1 h9) (by omega)
      generalize ((f / 128 : Nat) : Int) = d at *
      generalize ((f % 128 : Nat) : Int) = m at *
      clear hc hle hf
      go_enter Tryz.func33, Tryz.ntmps33
      go_wp2_with fail
      go_ret
      exact ⟨by rw [HV.out]; rfl, rfl⟩
  · have ha : decide ((f : Int) ≤ 418) = false := by simp; omega
    have HV : Hid (flB f = false) := by
      rw [Hid]
      cases h9 : flB f
      · rfl
      · exact absurd ((flB_iff f hf).1 h9) (by omega)
    generalize ((f / 128 : Nat) : Int) = d at *
    generalize ((f % 128 : Nat) : Int) = m at *
    clear hc hf
    go_enter Tryz.func33, Tryz.ntmps33
    go_wp2_with fail
    go_ret
    exact ⟨by rw [HV.out]; rfl, rfl⟩

theorem and2_iff (f : Nat) : f &&& 2 ≠ 0 ↔ f / 2 % 2 = 1 := by
  have h1 : (f &&& 2) % 4 = (f % 4) &&& 2 := by
    have := Nat.and_mod_two_pow (a := f) (b := 2) (n := 2)
    simpa using this
  have h2 : f &&& 2 ≤ 2 := Nat.and_le_right
  have h3 : ∀ m : Fin 4, (m.val &&& 2 ≠ 0) ↔ m.val / 2 % 2 = 1 := by decide
  have h4 := h3 ⟨f % 4, Nat.mod_lt _ (by decide)⟩
  rw [Nat.mod_eq_of_lt (by omega)] at h1
  rw [h1, show f / 2 % 2 = f % 4 / 2 % 2 by omega]
  exact h4

theorem and32_iff (f : Nat) : f &&& 32 ≠ 0 ↔ f / 32 % 2 = 1 := by
  have h1 : (f &&& 32) % 64 = (f % 64) &&& 32 := by
    have := Nat.and_mod_two_pow (a := f) (b := 32) (n := 6)
    simpa using this
  have h2 : f &&& 32 ≤ 32 := Nat.and_le_right
  have h3 : ∀ m : Fin 64, (m.val &&& 32 ≠ 0) ↔ m.val / 32 % 2 = 1 := by decide
  have h4 := h3 ⟨f % 64, Nat.mod_lt _ (by decide)⟩
  rw [Nat.mod_eq_of_lt (by omega)] at h1
  rw [h1, show f / 32 % 2 = f % 64 / 32 % 2 by omega]
  exact h4

set_option maxHeartbeats 4000000 in
theorem refHas_any (p : Pm) (f φ : Nat) (hff : p.f = f) (hf : f < 4294967296) (hφ : φ < 4294967296) (w : World) : Calls Tryz.prog 17 #[.agg #[.int .u32 f, .int .i64 p.s, .int .u32 p.tn, .int .u32 p.tm, .int .u32 p.sn, .int .u32 p.sm, .int .u32 p.rn, .int .u32 p.rm, .int .u64 p.t, .int .u32 p.q, .int .u64 p.l], .int .u32 φ] w fun e w' => e = .returned (.bool (hasB f φ)) ∧ Below w.heap.size w w' := by
  by_cases h2 : φ = 2
  · subst h2
    have HV : Hid ((((f / 2 % 2 : Nat) : Int) == 1) = hasB f 2) := by
      have h1 := and2_iff f
      rw [Hid]
      by_cases h : f / 2 % 2 = 1
      · rw [h]
        simp [hasB, h1.2 h]
      · rw [show f / 2 % 2 = 0 by omega]
        have h3 : f &&& 2 = 0 := Classical.byContradiction fun h4 => h (h1.1 h4)
        simp [hasB, h3]
    have hq : ((f : Nat) : Int).tdiv 2 = ((f / 2 : Nat) : Int) := by rw [Int.tdiv_eq_ediv_of_nonneg (by omega)]; omega
    have hlq : ((f / 2 : Nat) : Int) % 4294967296 = ((f / 2 : Nat) : Int) := by omega
    have hr : ((f / 2 : Nat) : Int).tmod 2 = ((f / 2 % 2 : Nat) : Int) := by rw [Int.tmod_eq_emod_of_nonneg (by omega)]; omega
    have hlr : ((f / 2 % 2 : Nat) : Int) % 4294967296 = ((f / 2 % 2 : Nat) : Int) := by omega
    have HFF := Lib.hid hff
    generalize ((f / 2 % 2 : Nat) : Int) = r at *
    generalize ((f / 2 : Nat) : Int) = q at *
    clear hf hφ hff
    go_enter Tryz.func17, Tryz.ntmps17
    go_wp2_with fail
    go_ret
    exact ⟨by rw [← HV.out]; rfl, below_al (Below.refl _ _) _⟩
  by_cases h32 : φ = 32
  · subst h32
    have HV : Hid ((((f / 32 % 2 : Nat) : Int) == 1) = hasB f 32) := by
      have h1 := and32_iff f
      rw [Hid]
      by_cases h : f / 32 % 2 = 1
      · rw [h]
        simp [hasB, h1.2 h]
      · rw [show f / 32 % 2 = 0 by omega]
        have h3 : f &&& 32 = 0 := Classical.byContradiction fun h4 => h (h1.1 h4)
        simp [hasB, h3]
    have hq : ((f : Nat) : Int).tdiv 32 = ((f / 32 : Nat) : Int) := by rw [Int.tdiv_eq_ediv_of_nonneg (by omega)]; omega
    have hlq : ((f / 32 : Nat) : Int) % 4294967296 = ((f / 32 : Nat) : Int) := by omega
    have hr : ((f / 32 : Nat) : Int).tmod 2 = ((f / 32 % 2 : Nat) : Int) := by rw [Int.tmod_eq_emod_of_nonneg (by omega)]; omega
    have hlr : ((f / 32 % 2 : Nat) : Int) % 4294967296 = ((f / 32 % 2 : Nat) : Int) := by omega
    have HFF := Lib.hid hff
    generalize ((f / 32 % 2 : Nat) : Int) = r at *
    generalize ((f / 32 : Nat) : Int) = q at *
    clear hf hφ hff
    go_enter Tryz.func17, Tryz.ntmps17
    go_wp2_with fail
    go_ret
    exact ⟨by rw [← HV.out]; rfl, below_al (Below.refl _ _) _⟩
  have HV : Hid (hasB f φ = false) := by
    rw [Hid]
    simp [hasB, h2, h32]
  have n2 : ((φ : Int) == 2) = false := by simp; omega
  have n32 : ((φ : Int) == 32) = false := by simp; omega
  clear hf hφ hff h2 h32
  go_enter Tryz.func17, Tryz.ntmps17
  go_wp2_with fail
  go_ret
  exact ⟨by rw [HV.out]; rfl, below_al (Below.refl _ _) _⟩

set_option maxHeartbeats 1000000 in
theorem refName_any6 (p : Pm) (w : World) : Calls Tryz.prog 14 #[.agg #[.int .u32 p.f, .int .i64 p.s, .int .u32 p.tn, .int .u32 p.tm, .int .u32 p.sn, .int .u32 p.sm, .int .u32 p.rn, .int .u32 p.rm, .int .u64 p.t, .int .u32 p.q, .int .u64 p.l]] w fun e w' => e = .returned (.agg #[.int .u32 p.sn, .int .u32 p.sm, .int .u64 p.t, .int .u32 p.q]) ∧ Below w.heap.size w w' := by
  go_enter Tryz.func14, Tryz.ntmps14
  go_wp2
  exact bodyPost_ret (v := .agg #[.int .u32 p.sn, .int .u32 p.sm, .int .u64 p.t, .int .u32 p.q]) (by simp [results, Tryz.results14, go_sem]) rfl ⟨rfl, below_al (below_al (Below.refl _ _) _) _⟩

set_option maxHeartbeats 4000000 in
theorem refExpires_any (p : Pm) (w : World) : Calls Tryz.prog 24 #[.agg #[.int .u32 p.f, .int .i64 p.s, .int .u32 p.tn, .int .u32 p.tm, .int .u32 p.sn, .int .u32 p.sm, .int .u32 p.rn, .int .u32 p.rm, .int .u64 p.t, .int .u32 p.q, .int .u64 p.l]] w fun e w' => e = .returned (.int .u64 (addT p.t p.l)) ∧ Below w.heap.size w w' := by
  have HA := Lib.hid (fun w => refAdd_any p.t p.l w (by omega) (by omega))
  generalize addT p.t p.l = r at *
  go_enter Tryz.func24, Tryz.ntmps24
  go_wp2_with fail
  refine (HA.out _).mono ?_
  rintro e w1 ⟨rfl, rfl⟩
  go_wp2
  go_ret
  exact ⟨rfl, below_al (Below.refl _ _) _⟩

set_option maxHeartbeats 4000000 in
theorem refRank_any (p : Pm) (hp : p.ok) (w : World) : Calls Tryz.prog 22 #[.agg #[.int .u32 p.f, .int .i64 p.s, .int .u32 p.tn, .int .u32 p.tm, .int .u32 p.sn, .int .u32 p.sm, .int .u32 p.rn, .int .u32 p.rm, .int .u64 p.t, .int .u32 p.q, .int .u64 p.l]] w fun e w' => e = .returned (.int .i64 p.rank) ∧ Below w.heap.size w w' := by
  have hf := hp.f
  have HF := Lib.hid (fun w => refFlagsRight_any p.f (by omega) w)
  have HC : Hid (p.rank = if flB p.f = true then ((p.f / 128 : Nat) : Int) else 0) := rfl
  have hd : ((p.f : Nat) : Int).tdiv 128 = ((p.f / 128 : Nat) : Int) := by rw [Int.tdiv_eq_ediv_of_nonneg (by omega)]; omega
  have hlt : ((p.f / 128 : Nat) : Int) % 4294967296 = ((p.f / 128 : Nat) : Int) := by omega
  have hwr : IntKind.i64.wrap ((p.f / 128 : Nat) : Int) = ((p.f / 128 : Nat) : Int) := by
    simp [IntKind.wrap, IntKind.signed, IntKind.bits]
    omega
  generalize flB p.f = q at *
  generalize p.rank = r at *
  clear hf hp
  go_enter Tryz.func22, Tryz.ntmps22
  go_wp2_with fail
  refine (HF.out _).mono ?_
  rintro e w1 ⟨rfl, rfl⟩
  cases q
  · go_wp2_with fail
    go_ret
    exact ⟨by rw [HC.out]; rfl, below_al (Below.refl _ _) _⟩
  · generalize ((p.f / 128 : Nat) : Int) = d at *
    go_wp2_with fail
    go_ret
    exact ⟨by rw [HC.out]; rfl, below_al (Below.refl _ _) _⟩

end Go.Proofs.YtlmdbeccfoncpaaGreatDoor
