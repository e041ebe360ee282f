/- Package clock and its document's answers: which spans may be, which times they have. -/
import Derived.Test.YtjmlpmkpjmgfiaaClD
namespace Go.Proofs.Ytjmlpmkpjmgfiaa
open Go.RowKit Go.Shelf

/-- A span's value. -/
def spanV (f u : Int) : Value := .agg #[.int .u64 f, .int .u64 u]

theorem ret_bool {a b : Bool} (h : a = b) : Ending.returned (.bool a) = .returned (.bool b) := by rw [h]

/-- May a span be? -/
def rightT (f u : Int) : Bool := decide (f ≤ u) && decide (u ≤ 4611686018427387903)

set_option maxHeartbeats 1000000 in
theorem ends_any (f u : Int) (w : World) :
    Calls Try.prog 34 #[.agg #[.int .u64 f, .int .u64 u]] w fun e w' => e = .returned (.agg #[.int .u64 f, .int .u64 u]) ∧ w' = (w.alloc (.cells #[.int .u64 f, .int .u64 u] 44)).alloc (.cells #[.int .u64 f, .int .u64 u] 56) := by
  go_enter Try.func34, Try.ntmps34
  go_wp2
  exact bodyPost_ret (v := .agg #[.int .u64 f, .int .u64 u]) (by simp [results, Try.results34, go_sem]) rfl ⟨rfl, rfl⟩

set_option maxHeartbeats 1000000 in
theorem refRight_any (f u : Int) (w : World) :
    Calls Try.prog 13 #[.agg #[.int .u64 f, .int .u64 u]] w fun e w' => e = .returned (.bool (rightT f u)) ∧ w' = w.alloc (.cells #[.int .u64 f, .int .u64 u] 30) := by
  unfold rightT
  by_cases h1 : f ≤ u
  · by_cases h2 : u ≤ 4611686018427387903
    · go_enter Try.func13, Try.ntmps13
      go_wp2
      go_ret
      exact ⟨by simp [h1, h2], rfl⟩
    · go_enter Try.func13, Try.ntmps13
      go_wp2
      go_ret
      exact ⟨by simp [h2], rfl⟩
  · go_enter Try.func13, Try.ntmps13
    go_wp2
    go_ret
    exact ⟨by simp; omega, rfl⟩

set_option maxHeartbeats 1000000 in
theorem ticks_any (f u : Int) (w : World) (h0 : 0 ≤ f) (h1 : f ≤ u) (h2 : u ≤ 4611686018427387903) :
    Calls Try.prog 30 #[.agg #[.int .u64 f, .int .u64 u]] w fun e w' => e = .returned (.int .u64 (u - f)) ∧ w' = w.alloc (.cells #[.int .u64 f, .int .u64 u] 44) := by
  go_enter Try.func30, Try.ntmps30
  go_wp2
  go_ret
  exact ⟨rfl, rfl⟩

theorem all_two (a b : Int) : allT [a, b] 2 ↔ (isT a = true ∧ isT b = true) := by
  constructor
  · intro h
    exact ⟨h 0 (by omega), h 1 (by omega)⟩
  · rintro ⟨h0, h1⟩ j hj
    have : j = 0 ∨ j = 1 := by omega
    rcases this with rfl | rfl
    · exact h0
    · exact h1

theorem rightT_of {f u : Int} (h : allT [f, u] 2) (h2 : f ≤ u) : rightT f u = true := by
  have := ((all_two f u).1 h).2
  unfold isT at this
  unfold rightT
  simp at this ⊢
  omega

theorem rightT_not {f u : Int} (h : ¬ allT [f, u] 2) : rightT f u = false := by
  rw [all_two] at h
  unfold isT at h
  unfold rightT
  simp at h ⊢
  omega

theorem rightT_ord {f u : Int} (h : u < f) : rightT f u = false := by
  unfold rightT
  simp
  omega

theorem rdU_lit (w : World) (x y : Int) (t : TypeId) (B : Nat) (hB : w.heap.size < B) : RdU (w.alloc (.cells #[.int .u64 x, .int .u64 y] t)) B (some ⟨w.heap.size, 0, none⟩) [x, y] := by
  refine .inr ⟨w.heap.size, 0, rfl, hB, fun j hj => ?_⟩
  have : j = 0 ∨ j = 1 := by simp at hj; omega
  rcases this with rfl | rfl
  · simp
  · simp

/-- The worlds of 'right'. -/
theorem right_worlds (f u : Int) (w : World) (s t : TypeId) : ∃ W, W = (((w.alloc (.cells #[.int .u64 f, .int .u64 u] s)).alloc (.cells #[.int .u64 f, .int .u64 u] s)).alloc (.cells #[.int .u64 f, .int .u64 u] t)).alloc (.cells #[.int .u64 f, .int .u64 u] t) ∧
    Below w.heap.size w W ∧ W.heap.size = w.heap.size + 4 ∧ RdU W (w.heap.size + 4) (some ⟨w.heap.size + 1 + 1 + 1, 0, none⟩) [f, u] := by
  refine ⟨_, rfl, ((((Below.refl _ _).alloc (Nat.le_refl _) _).alloc (by simp) _).alloc (by simp; omega) _).alloc (by simp; omega) _, by simp, ?_⟩
  have h := rdU_lit (((w.alloc (.cells #[.int .u64 f, .int .u64 u] s)).alloc (.cells #[.int .u64 f, .int .u64 u] s)).alloc (.cells #[.int .u64 f, .int .u64 u] t)) f u t (w.heap.size + 4) (by simp)
  simpa using h

set_option maxHeartbeats 1000000 in
theorem spanRight_any (f u : Int) (w : World) :
    Calls Try.prog 29 #[.agg #[.int .u64 f, .int .u64 u]] w fun e w' => e = .returned (.bool (rightT f u)) ∧ Below w.heap.size w w' := by
  obtain ⟨W, hW, hB, hs, hr⟩ := right_worlds f u w 44 56
  rcases hr with hr | ⟨g, o, hA, hg, hcs⟩
  · cases hr
  cases hA
  have c0 := hcs 0 (by simp)
  have c1 := hcs 1 (by simp)
  have H := Lib.hid (withinT_any (some ⟨w.heap.size + 1 + 1 + 1, 0, none⟩) 2 (w.heap.size + 4) [f, u] W (by simp) (.inr ⟨_, _, rfl, hg, hcs⟩))
  have HW := Lib.hid hW
  have HB := Lib.hid hB
  simp at c0 c1
  clear hcs hW hB hs hg
  by_cases h : f ≤ u
  · go_enter Try.func29, Try.ntmps29
    go_wp2_with (go_at_call 34; refine (ends_any _ _ _).mono ?_; rintro e w' ⟨rfl, rfl⟩)
    rw [← HW.out]
    refine H.out.mono ?_
    rintro e w' ⟨⟨rfl, ha⟩ | ⟨rfl, ha⟩, rfl⟩
    · have HA := Lib.hid ha
      clear ha
      go_wp2
      go_ret
      exact ⟨ret_bool (rightT_of HA.out h).symm, HB.out⟩
    · have HA := Lib.hid ha
      clear ha
      go_wp2
      go_ret
      exact ⟨ret_bool (rightT_not HA.out).symm, HB.out⟩
  · go_enter Try.func29, Try.ntmps29
    go_wp2_with (go_at_call 34; refine (ends_any _ _ _).mono ?_; rintro e w' ⟨rfl, rfl⟩)
    rw [← HW.out]
    refine H.out.mono ?_
    rintro e w' ⟨⟨rfl, ha⟩ | ⟨rfl, ha⟩, rfl⟩
    · have HA := Lib.hid ha
      clear ha
      go_wp2
      go_ret
      exact ⟨ret_bool (by rw [rightT_ord h]; simp; omega), HB.out⟩
    · have HA := Lib.hid ha
      clear ha
      go_wp2
      go_ret
      exact ⟨ret_bool (rightT_not HA.out).symm, HB.out⟩

set_option maxHeartbeats 1000000 in
theorem right_any (f u : Int) (w : World) :
    Calls Try.prog 18 #[.agg #[.int .u64 f, .int .u64 u]] w fun e w' => e = .returned (.bool (rightT f u)) ∧ Below w.heap.size w w' := by
  go_enter Try.func18, Try.ntmps18
  go_wp2_with (go_at_call 29; refine (spanRight_any _ _ _).mono ?_; rintro e w' ⟨rfl, hb⟩)
  go_ret
  exact ⟨rfl, ((Below.refl _ _).alloc (Nat.le_refl _) _).trans (hb.mono (by simp))⟩

/-- Has a span a time? -/
def inT (f u n : Int) : Bool := rightT f u && (decide (f ≤ n) && decide (n < u))

theorem box2_later {w w' : World} {x y : Value} {t : TypeId} (hb : Below (w.alloc (.cells #[x, y] t)).heap.size (w.alloc (.cells #[x, y] t)) w') :
    w'.cell? ⟨w.heap.size, 0, none⟩ = some x ∧ w'.cell? ⟨w.heap.size, 1, none⟩ = some y := by
  constructor
  · rw [hb.cell (by simp)]
    simp
  · rw [hb.cell (by simp)]
    simp

/-- How much is served in a span. -/
def carT (f u r : Int) : Int := if rightT f u then mulT (u - f) r else 0

theorem rightT_iff {f u : Int} (h : rightT f u = true) : f ≤ u ∧ u ≤ 4611686018427387903 := by
  unfold rightT at h
  simpa using h

set_option maxHeartbeats 1000000 in
theorem carries_any (f u r : Int) (w : World) (hf : 0 ≤ f) (hr : 0 ≤ r) :
    Calls Try.prog 12 #[.agg #[.int .u64 f, .int .u64 u], .int .u64 r] w fun e w' => e = .returned (.int .u64 (carT f u r)) ∧ Below w.heap.size w w' := by
  unfold carT
  cases hq : rightT f u
  · rw [if_neg (by simp)]
    go_enter Try.func12, Try.ntmps12
    go_wp2
    refine wp_scope_on 0 rfl ?_
    go_wp2_with (go_at_call 29; refine (spanRight_any _ _ _).mono ?_; rintro e w' ⟨rfl, hb⟩)
    go_step3
    refine ⟨rfl, ?_⟩
    show Code.wp _ _ _ _ _
    go_wp2
    rw [Exit.noGoto_ret]
    go_ret
    exact ⟨rfl, (((Below.refl _ _).alloc (Nat.le_refl _) _).alloc (by simp) _).trans (hb.mono (by simp; omega))⟩
  · rw [if_pos rfl]
    obtain ⟨h1, h2⟩ := rightT_iff hq
    have HM := Lib.hid (fun w => mul_any (u - f) r w (by omega) hr)
    go_enter Try.func12, Try.ntmps12
    go_wp2
    refine wp_scope_on 0 rfl ?_
    go_wp2_with (first | (go_at_call 29; refine (spanRight_any _ _ _).mono ?_; rintro e w' ⟨rfl, hb⟩; obtain ⟨c0, c1⟩ := box2_later hb; simp at c0 c1) | (go_at_call 30; refine (ticks_any _ _ _ hf h1 h2).mono ?_; rintro e w2 ⟨rfl, rfl⟩) | (go_at_call 10; refine (HM.out _).mono ?_; rintro e w3 ⟨rfl, rfl⟩))
    simp only [Exit.jump]
    go_ret
    have hs := hb.size
    simp at hs
    exact ⟨rfl, ((((Below.refl _ _).alloc (Nat.le_refl _) _).alloc (by simp) _).trans (hb.mono (by simp; omega))).alloc (by omega) _⟩

end Go.Proofs.Ytjmlpmkpjmgfiaa
