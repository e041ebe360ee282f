/- Package disk: refusal. -/
import Derived.Test.YtekeooeapiodmaaZDkA
namespace Go.Proofs.Ytekeooeapiodmaa
open Go Go.RowKit Go.Shelf
set_option linter.unusedSimpArgs false
set_option linter.unusedVariables false
set_option maxRecDepth 100000

attribute [local go_sem] Oper.semAt_some

/-- A question: its function, what it is handed, what it answers. -/
structure Ask where
  g : Nat
  fs : Array Value
  lb : Array Value
  e : Int

/-- The first answer that isn't OK. -/
def firstE : List Ask → Int
  | [] => 0
  | q :: r => if q.e = 0 then firstE r else q.e

theorem firstE_zero {l : List Ask} (h : ∀ (j : Nat) (q : Ask), l[j]? = some q → q.e = 0) : firstE l = 0 := by
  induction l with
  | nil => rfl
  | cons q r ih =>
    rw [firstE, if_pos (h 0 q rfl)]
    exact ih fun j x hx => h (j + 1) x hx

theorem firstE_at {l : List Ask} {j : Nat} {q : Ask} (hq : l[j]? = some q) (hn : q.e ≠ 0) (h : ∀ (i : Nat) (x : Ask), i < j → l[i]? = some x → x.e = 0) : firstE l = q.e := by
  induction l generalizing j with
  | nil => cases hq
  | cons x r ih =>
    cases j with
    | zero =>
      injection hq with hq
      subst hq
      rw [firstE, if_neg hn]
    | succ j =>
      rw [firstE, if_pos (h 0 x (by omega) rfl)]
      exact ih hq fun i y hi hy => h (i + 1) y (by omega) hy

/-- Each question that is asked answers. -/
def AsksAt (w : World) (l : List Ask) : Prop := ∀ (j : Nat) (q : Ask), l[j]? = some q → (∀ (i : Nat) (x : Ask), i < j → l[i]? = some x → x.e = 0) → (∀ args w, (callFunc q.g args).run Try.prog w = .ok (.enter q.g args) w) ∧ ∀ w', Below w.heap.size w w' → Calls Try.prog q.g (q.fs ++ q.lb) w' fun e w'' => e = .returned (.int .i64 q.e) ∧ Below w'.heap.size w' w''

set_option maxHeartbeats 2000000 in
theorem refusal_any (b : Nat) (l : List Ask) (w : World) (hlen : l.length ≤ 100) (hlt : b < w.heap.size) (hrow : ∀ (j : Nat) (q : Ask), l[j]? = some q → w.cell? ⟨b, j, none⟩ = some (.func (.func q.g) q.fs q.lb)) (hask : AsksAt w l) :
    Calls Try.prog 26 #[.slice (some ⟨b, 0, none⟩) l.length l.length] w fun e w' => e = .returned (.int .i64 (firstE l)) ∧ Below w.heap.size w w' := by
  have HR : Hid (∀ wr, Below w.heap.size w wr → ∀ (j : Nat) (q : Ask), l[j]? = some q → wr.cell? ⟨b, j, none⟩ = some (.func (.func q.g) q.fs q.lb)) := fun wr hb j q hq => (hb.cell (p := ⟨b, j, none⟩) hlt).trans (hrow j q hq)
  have HA := Lib.hid hask
  have HL := Lib.hid hlen
  generalize hN : l.length = N at *
  have HN := Lib.hid hN
  clear hrow hask hN hlt
  go_enter Try.func26, Try.ntmps26
  go_wp2_with fail
  refine wp_scope_on 0 rfl ?_
  go_wp2_with fail
  go_loopw [8] (fun i wr => ∃ j : Nat, j ≤ N ∧ i = .int .i64 j ∧ Hid (Below w.heap.size w wr ∧ ∀ (i : Nat) (x : Ask), i < j → l[i]? = some x → x.e = 0)) (fun i _ => N - (intOf i).toNat)
  case atStart => exact ⟨0, Nat.zero_le _, rfl, Below.refl _ _, fun i x hi => by omega⟩
  case round =>
    rename_i wr hrel
    obtain ⟨j, hj, rfl, hI⟩ := hrel
    by_cases hlt : j < N
    · obtain ⟨q, hq⟩ : ∃ q, l[j]? = some q := ⟨l[j]'(by rw [HN.out]; exact hlt), List.getElem?_eq_getElem _⟩
      have hc := HR.out _ hI.out.1 j q hq
      obtain ⟨hent, hcall⟩ := HA.out j q hq hI.out.2
      have HC := Lib.hid (hcall _ hI.out.1)
      have HQ := Lib.hid hq
      clear hcall hq
      go_wp2_with fail
      refine HC.out.mono ?_
      rintro e w2 ⟨rfl, hb2⟩
      have HB2 := Lib.hid (below_on hI.out.1 hb2)
      clear hb2
      by_cases h0 : q.e = 0
      · have h1 : (q.e != 0) = false := by simpa using h0
        have H0 := Lib.hid h0
        clear h0
        go_wp2_with fail
        go_roundw
        case rel => exact ⟨j + 1, by omega, by go_num, HB2.out, fun i x hi hx => by
          rcases Nat.lt_or_ge i j with h | h
          · exact hI.out.2 i x h hx
          · have : i = j := by omega
            subst this
            have := HQ.out
            rw [this] at hx
            injection hx with hx
            subst hx
            exact H0.out⟩
        case measure => simp [intOf]; omega
      · have h1 : (q.e != 0) = true := by simpa using h0
        have H0 := Lib.hid (firstE_at HQ.out h0 hI.out.2)
        clear h0
        go_wp2_with fail
        go_step3
        refine ⟨rfl, ?_⟩
        show Code.wp _ _ _ _ _
        go_wp2
        rw [Exit.noGoto_ret]
        go_ret
        exact ⟨by rw [H0.out]; rfl, HB2.out⟩
    · have hz : Hid (firstE l = 0) := firstE_zero fun i x hx => hI.out.2 i x (by have := (List.getElem?_eq_some_iff.1 hx).1; have := HN.out; omega) hx
      go_wp2_with fail
      simp only [Exit.jump]
      go_ret
      exact ⟨by rw [hz.out]; rfl, hI.out.1⟩

end Go.Proofs.Ytekeooeapiodmaa

