/- Names as values and as keys; which may be. -/
import Derived.Test.YtdnjoohicbdmiaaAskK
import Derived.Test.YtdnjoohicbdmiaaOwn
namespace Go.Proofs.Ytdnjoohicbdmiaa
open Go Go.RowKit Go.Shelf
open Go.ChangeMaps (setBlock)
set_option linter.unusedSimpArgs false
set_option linter.unusedVariables false
set_option linter.unusedSectionVars false
set_option maxRecDepth 100000

attribute [local go_sem] Oper.semAt_some

/-- A name: its node, service, time, number. -/
structure Nm where
  n : Int
  m : Int
  t : Int
  q : Int
  deriving DecidableEq
def Nm.cells (x : Nm) : List Value := [.int .u32 x.n, .int .u32 x.m, .int .u64 x.t, .int .u32 x.q]
def encNm (x : Nm) : Value := .agg #[.int .u32 x.n, .int .u32 x.m, .int .u64 x.t, .int .u32 x.q]
theorem nmEq_run (a b : Nm) (w : World) : (Op.equalIn 10000 40 (encNm a) (encNm b)).run Try.prog w = .ok (decide (a = b)) w := by
  unfold encNm
  obtain ⟨a0, a1, a2, a3⟩ := a
  obtain ⟨b0, b1, b2, b3⟩ := b
  go_simp
  by_cases h0 : a0 = b0 <;> by_cases h1 : a1 = b1 <;> by_cases h2 : a2 = b2 <;> by_cases h3 : a3 = b3 <;> simp [h0, h1, h2, h3]
theorem encNm_inj (a b : Nm) (h : encNm a = encNm b) : a = b := by
  obtain ⟨a0, a1, a2, a3⟩ := a
  obtain ⟨b0, b1, b2, b3⟩ := b
  simpa [encNm] using h
theorem bits_self (n : Nat) (cs : List Value) (h : ∀ v ∈ cs, ∃ k x, v = .int k x) : Instr.sameBits (n + 1) (.agg cs.toArray) (.agg cs.toArray) = true := by
  simp only [Instr.sameBits, List.size_toArray, beq_self_eq_true, Bool.true_and]
  rw [List.all_eq_true]
  rintro ⟨x, y⟩ hxy
  have hxy' : (x, y) ∈ cs.zip cs := hxy
  have he : x = y ∧ x ∈ cs := by
    clear hxy
    induction cs with
    | nil => cases hxy'
    | cons c r ih =>
      rcases List.mem_cons.1 hxy' with h1 | h1
      · injection h1 with h1 h2
        exact ⟨h1.trans h2.symm, by rw [h1]; simp⟩
      · obtain ⟨e1, e2⟩ := ih (fun v hv => h v (by simp [hv])) h1
        exact ⟨e1, by simp [e2]⟩
  obtain ⟨k, i, hv⟩ := h x he.2
  obtain ⟨rfl, _⟩ := he
  subst hv
  cases n <;> simp [Instr.sameBits]
theorem stays_self {P : Program} (cs : List Value) (h : ∀ v ∈ cs, ∃ k x, v = .int k x) (w : World) : (Instr.keyThatStays (.agg cs.toArray) (.agg cs.toArray)).run P w = .ok (.agg cs.toArray) w := by
  have hs : Instr.sameBits 10000 (.agg cs.toArray) (.agg cs.toArray) = true := bits_self 9999 cs h
  unfold Instr.keyThatStays
  rw [if_pos hs]
  rfl

theorem keyNm : KeyK Try.prog 40 encNm := by
  refine KeyK.struct Try.underlying40 encNm_inj (fun em k w => ?_) nmEq_run (fun k w => ?_)
  · unfold encNm
    kernel_rfl
  · exact stays_self [.int .u32 k.n, .int .u32 k.m, .int .u64 k.t, .int .u32 k.q] (by simp) w
/-- May it be a name? -/
def mayN (x : Nm) : Bool := !(x.n == 0) && decide (x.t ≤ 4611686018427387903)
theorem checkName_any (x : Nm) (w : World) : Calls Try.prog 47 #[.agg #[.int .u32 x.n, .int .u32 x.m, .int .u64 x.t, .int .u32 x.q]] w fun e w' => e = .returned (.int .i64 (unE (mayN x) 2)) ∧ Below w.heap.size w w' := by
  obtain ⟨n, m, t, q⟩ := x
  by_cases h0 : n = 0
  · subst h0
    have HE : Hid (mayN ⟨0, m, t, q⟩ = false) := by rw [Hid]; simp [mayN]
    go_enter Try.func47, Try.ntmps47
    go_wp2
    go_ret
    exact ⟨by rw [HE.out]; rfl, below_al (Below.refl _ _) _⟩
  · have h3 : (n == 0) = false := by simpa using h0
    by_cases h5 : (4611686018427387903 : Int) < t
    · have HE : Hid (mayN ⟨n, m, t, q⟩ = false) := by rw [Hid]; simp [mayN]; omega
      clear h0
      go_enter Try.func47, Try.ntmps47
      go_wp2
      all_goals first | (go_ret; exact ⟨by rw [HE.out]; rfl, below_al (Below.refl _ _) _⟩) | (exfalso; omega)
    · have h6 : decide ((4611686018427387903 : Int) < t) = false := by simpa using h5
      have HE : Hid (mayN ⟨n, m, t, q⟩ = true) := by rw [Hid]; simp [mayN, h3]; omega
      go_enter Try.func47, Try.ntmps47
      go_wp2
      all_goals first | (go_ret; exact ⟨by rw [HE.out]; rfl, below_al (Below.refl _ _) _⟩) | (exfalso; omega)

end Go.Proofs.Ytdnjoohicbdmiaa
