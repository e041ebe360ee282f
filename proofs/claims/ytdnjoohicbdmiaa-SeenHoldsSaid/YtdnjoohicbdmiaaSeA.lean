/- Package seen: questions; sights as values and as keys. -/
import Derived.Test.YtdnjoohicbdmiaaNmV
import Derived.Test.YtdnjoohicbdmiaaMapD
namespace Go.Proofs.Ytdnjoohicbdmiaa
open Go Go.RowKit Go.Shelf
open Go.ChangeMaps (setBlock)
set_option linter.unusedSimpArgs false
set_option linter.unusedVariables false
set_option linter.unusedSectionVars false
set_option maxRecDepth 100000

attribute [local go_sem] Oper.semAt_some

set_option maxHeartbeats 2000000 in
theorem serefusal_any (b : Nat) (l : List Ask) (w : World) (hlen : l.length ≤ 100) (hlt : b < w.heap.size) (hrow : ∀ (j : Nat) (q : Ask), l[j]? = some q → w.cell? ⟨b, j, none⟩ = some (.func (.func q.g) q.fs q.lb)) (hask : AsksAt w l) :
    Calls Try.prog 22 #[.slice (some ⟨b, 0, none⟩) l.length l.length] w fun e w' => e = .returned (.int .i64 (firstE l)) ∧ Below w.heap.size w w' := by
  have HR : Hid (∀ wr, Below w.heap.size w wr → ∀ (j : Nat) (q : Ask), l[j]? = some q → wr.cell? ⟨b, j, none⟩ = some (.func (.func q.g) q.fs q.lb)) := fun wr hb j q hq => (hb.cell (p := ⟨b, j, none⟩) hlt).trans (hrow j q hq)
  have HA := Lib.hid hask
  have HL := Lib.hid hlen
  generalize hN : l.length = N at *
  have HN := Lib.hid hN
  clear hrow hask hN hlt
  go_enter Try.func22, Try.ntmps22
  go_wp2_with fail
  refine wp_scope_on 0 rfl ?_
  go_wp2_with fail
  go_loopw [8] (fun i wr => ∃ j : Nat, j ≤ N ∧ i = .int .i64 j ∧ Hid (Below w.heap.size w wr ∧ ∀ (i : Nat) (x : Ask), i < j → l[i]? = some x → x.e = 0)) (fun i _ => N - (intOf i).toNat)
  case atStart => exact ⟨0, Nat.zero_le _, rfl, Below.refl _ _, fun i x hi => by omega⟩
  case round =>
    rename_i wr hrel
    obtain ⟨j, hj, rfl, hI⟩ := hrel
    by_cases hlt : j < N
    · obtain ⟨q, hq⟩ : ∃ q, l[j]? = some q := ⟨l[j]'(by rw [HN.out]; exact hlt), List.getElem?_eq_getElem _⟩
      have hc := HR.out _ hI.out.1 j q hq
      obtain ⟨hent, hcall⟩ := HA.out j q hq hI.out.2
      have HC := Lib.hid (hcall _ hI.out.1)
      have HQ := Lib.hid hq
      clear hcall hq
      go_wp2_with fail
      refine HC.out.mono ?_
      rintro e w2 ⟨rfl, hb2⟩
      have HB2 := Lib.hid (below_on hI.out.1 hb2)
      clear hb2
      by_cases h0 : q.e = 0
      · have h1 : (q.e != 0) = false := by simpa using h0
        have H0 := Lib.hid h0
        clear h0
        go_wp2_with fail
        go_roundw
        case rel => exact ⟨j + 1, by omega, by go_num, HB2.out, fun i x hi hx => by
          rcases Nat.lt_or_ge i j with h | h
          · exact hI.out.2 i x h hx
          · have : i = j := by omega
            subst this
            have := HQ.out
            rw [this] at hx
            injection hx with hx
            subst hx
            exact H0.out⟩
        case measure => simp [intOf]; omega
      · have h1 : (q.e != 0) = true := by simpa using h0
        have H0 := Lib.hid (firstE_at HQ.out h0 hI.out.2)
        clear h0
        go_wp2_with fail
        go_step3
        refine ⟨rfl, ?_⟩
        show Code.wp _ _ _ _ _
        go_wp2
        rw [Exit.noGoto_ret]
        go_ret
        exact ⟨by rw [H0.out]; rfl, HB2.out⟩
    · have hz : Hid (firstE l = 0) := firstE_zero fun i x hx => hI.out.2 i x (by have := (List.getElem?_eq_some_iff.1 hx).1; have := HN.out; omega) hx
      go_wp2_with fail
      simp only [Exit.jump]
      go_ret
      exact ⟨by rw [hz.out]; rfl, hI.out.1⟩



/-- A sight. -/
structure Sg where
  nm : Nm
  back : Bool
  cnt : Int
  deriving DecidableEq
def Sg.cells (x : Sg) : List Value := [.int .u32 x.nm.n, .int .u32 x.nm.m, .int .u64 x.nm.t, .int .u32 x.nm.q, .bool x.back, .int .u8 x.cnt]
def encSg (x : Sg) : Value := .agg #[.int .u32 x.nm.n, .int .u32 x.nm.m, .int .u64 x.nm.t, .int .u32 x.nm.q, .bool x.back, .int .u8 x.cnt]

theorem sgEq_run (a b : Sg) (w : World) : (Op.equalIn 10000 80 (encSg a) (encSg b)).run Try.prog w = .ok (decide (a = b)) w := by
  unfold encSg
  obtain ⟨⟨a0, a1, a2, a3⟩, a4, a5⟩ := a
  obtain ⟨⟨b0, b1, b2, b3⟩, b4, b5⟩ := b
  go_simp
  by_cases h0 : a0 = b0 <;> by_cases h1 : a1 = b1 <;> by_cases h2 : a2 = b2 <;> by_cases h3 : a3 = b3 <;> by_cases h4 : a4 = b4 <;> by_cases h5 : a5 = b5 <;> simp [h0, h1, h2, h3, h4, h5]
theorem asEq_run (a b : Sg) (w : World) : (Op.equalIn 10000 42 (encSg a) (encSg b)).run Try.prog w = .ok (decide (a = b)) w := by
  unfold encSg
  obtain ⟨⟨a0, a1, a2, a3⟩, a4, a5⟩ := a
  obtain ⟨⟨b0, b1, b2, b3⟩, b4, b5⟩ := b
  go_simp
  by_cases h0 : a0 = b0 <;> by_cases h1 : a1 = b1 <;> by_cases h2 : a2 = b2 <;> by_cases h3 : a3 = b3 <;> by_cases h4 : a4 = b4 <;> by_cases h5 : a5 = b5 <;> simp [h0, h1, h2, h3, h4, h5]
theorem encSg_inj (a b : Sg) (h : encSg a = encSg b) : a = b := by
  obtain ⟨⟨a0, a1, a2, a3⟩, a4, a5⟩ := a
  obtain ⟨⟨b0, b1, b2, b3⟩, b4, b5⟩ := b
  simpa [encSg, and_assoc] using h
theorem sg_bits (n : Nat) (k : Sg) : Instr.sameBits (n + 2) (encSg k) (encSg k) = true := by
  unfold encSg
  simp [Instr.sameBits]
theorem sg_stays {P : Program} (k : Sg) (w : World) : (Instr.keyThatStays (encSg k) (encSg k)).run P w = .ok (encSg k) w := by
  unfold Instr.keyThatStays
  rw [if_pos (sg_bits 9998 k)]
  rfl
theorem keySg : KeyK Try.prog 80 encSg := by
  refine KeyK.struct Try.underlying80 encSg_inj (fun em k w => ?_) sgEq_run (fun k w => sg_stays k w)
  unfold encSg
  kernel_rfl
theorem keyAs : KeyK Try.prog 42 encSg := by
  refine KeyK.struct Try.underlying42 encSg_inj (fun em k w => ?_) asEq_run (fun k w => sg_stays k w)
  unfold encSg
  kernel_rfl

/-! ### The small functions -/

theorem seunless_any (is : Bool) (e : Int) (w : World) : Calls Try.prog 40 #[.bool is, .int .i64 e] w fun x w' => x = .returned (.int .i64 (unE is e)) ∧ w' = w := by
  cases is <;>
  · go_enter Try.func40, Try.ntmps40
    go_wp2_with fail
    go_ret
    exact ⟨rfl, rfl⟩

theorem semore_any (b n : Int) (w : World) : Calls Try.prog 50 #[.int .i64 b, .int .i64 n] w fun x w' => x = .returned (.bool (decide (n < b))) ∧ w' = w := by
  go_enter Try.func50, Try.ntmps50
  go_wp2_with fail
  go_ret
  exact ⟨rfl, rfl⟩


end Go.Proofs.Ytdnjoohicbdmiaa
