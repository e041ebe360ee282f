/- Questions, one after another; the first that is not answered OK. -/
import Derived.Test.YtdnjoohicbdmiaaMapK
namespace Go.Proofs.Ytdnjoohicbdmiaa
open Go Go.RowKit Go.Shelf
open Go.ChangeMaps (setBlock)
set_option linter.unusedSimpArgs false
set_option linter.unusedVariables false
set_option linter.unusedSectionVars false
set_option maxRecDepth 100000

attribute [local go_sem] Oper.semAt_some

/-- A question: its function, what it is handed, what it answers. -/
structure Ask where
  g : Nat
  fs : Array Value
  lb : Array Value
  e : Int

/-- The first answer that isn't OK. -/
def firstE : List Ask → Int
  | [] => 0
  | q :: r => if q.e = 0 then firstE r else q.e

theorem firstE_zero {l : List Ask} (h : ∀ (j : Nat) (q : Ask), l[j]? = some q → q.e = 0) : firstE l = 0 := by
  induction l with
  | nil => rfl
  | cons q r ih =>
    rw [firstE, if_pos (h 0 q rfl)]
    exact ih fun j x hx => h (j + 1) x hx

theorem firstE_at {l : List Ask} {j : Nat} {q : Ask} (hq : l[j]? = some q) (hn : q.e ≠ 0) (h : ∀ (i : Nat) (x : Ask), i < j → l[i]? = some x → x.e = 0) : firstE l = q.e := by
  induction l generalizing j with
  | nil => cases hq
  | cons x r ih =>
    cases j with
    | zero =>
      injection hq with hq
      subst hq
      rw [firstE, if_neg hn]
    | succ j =>
      rw [firstE, if_pos (h 0 x (by omega) rfl)]
      exact ih hq fun i y hi hy => h (i + 1) y (by omega) hy

/-- Each question that is asked answers. -/
def AsksAt (w : World) (l : List Ask) : Prop := ∀ (j : Nat) (q : Ask), l[j]? = some q → (∀ (i : Nat) (x : Ask), i < j → l[i]? = some x → x.e = 0) → (∀ args w, (callFunc q.g args).run Try.prog w = .ok (.enter q.g args) w) ∧ ∀ w', Below w.heap.size w w' → Calls Try.prog q.g (q.fs ++ q.lb) w' fun e w'' => e = .returned (.int .i64 q.e) ∧ Below w'.heap.size w' w''

/-- What unless answers. -/
def unE (is : Bool) (e : Int) : Int := if is = true then 0 else e
/-- Is n between lo and hi? -/
def inB (lo hi n : Int) : Bool := decide (lo ≤ n) && decide (n ≤ hi)

theorem firstE_one (q : Ask) : firstE [q] = q.e := by
  unfold firstE
  split
  · rename_i h
    rw [h]
    rfl
  · rfl
theorem asks_one {w : World} {q : Ask} (he : ∀ args w, (callFunc q.g args).run Try.prog w = .ok (.enter q.g args) w) (hc : ∀ w', Below w.heap.size w w' → Calls Try.prog q.g (q.fs ++ q.lb) w' fun e w'' => e = .returned (.int .i64 q.e) ∧ Below w'.heap.size w' w'') : AsksAt w [q] := fun j x hj _ => by
  cases j with
  | zero =>
    injection hj with hj
    subst hj
    exact ⟨he, hc⟩
  | succ j => cases hj
theorem asks_cons {w : World} {q : Ask} {l : List Ask} (he : ∀ args w, (callFunc q.g args).run Try.prog w = .ok (.enter q.g args) w) (hc : ∀ w', Below w.heap.size w w' → Calls Try.prog q.g (q.fs ++ q.lb) w' fun e w'' => e = .returned (.int .i64 q.e) ∧ Below w'.heap.size w' w'') (h : AsksAt w l) : AsksAt w (q :: l) := fun j x hj hi => by
  cases j with
  | zero =>
    injection hj with hj
    subst hj
    exact ⟨he, hc⟩
  | succ j => exact h j x hj fun i y hy hiy => hi (i + 1) y (by omega) hiy
theorem asks_nil {w : World} : AsksAt w [] := fun j x hj _ => by cases hj

theorem KMap.len {κ : Type} [DecidableEq κ] {enc : κ → Value} {P : Program} {t kt et : TypeId} {w : World} {b : Nat} {l : List (κ × Value)} (h : KMap enc w b l) (ht : P.underlying t = some (.map kt et)) (ty : TypeId) : (Builtin.len_ #[t] ty #[.map (some b)]).run P w = .ok (.int .i64 (l.length : Int)) w := by
  obtain ⟨es, c, hb, _, _, hp, hn⟩ := h
  have e1 : es.size = l.length := by
    have := congrArg List.length hp
    simpa using this
  rw [← e1]
  simp [Builtin.len_, run_underlying ht, MapKept.run_getObj_map hb, goInt, Result.andThen]

theorem mkF (fn : Fn) (first cap : Array Value) (w : World) : (Instr.makeFunc fn first cap).run Try.prog w = .ok (.func fn first cap) w := rfl

end Go.Proofs.Ytdnjoohicbdmiaa
