/- DiskPlays, walked. -/
import Derived.Test.YtekeooeapiodmaaZDkL3
namespace Go.Proofs.Ytekeooeapiodmaa
open Go Go.RowKit Go.Shelf
set_option linter.unusedSimpArgs false
set_option linter.unusedVariables false
set_option maxRecDepth 100000

attribute [local go_sem] Oper.semAt_some

/-- The document's rows are none that begins with a slice. -/
theorem RfV.apart {w : World} {N : Nat → List Value → Prop} {v : Value} {D : DkM} (h : RfV w N v D) {b : Nat} {a : Option Addr} {n c : Nat} (hb : w.cell? ⟨b, 0, none⟩ = some (.slice a n c)) : RfV w (fun g l => N g l ∧ g ≠ b) v D := by
  obtain ⟨A1, C1, A2, C2, rfl, h1, h2⟩ := h
  have key : ∀ (A : Option Addr) (l : List Value), (∀ u, l[0]? = some u → ∀ a n c, u ≠ .slice a n c) → RdO w N A l → RdO w (fun g l => N g l ∧ g ≠ b) A l := by
    intro A l hl hA
    rcases hA with h | ⟨g, rfl, hg, hr, hn⟩
    · exact .inl h
    · cases l with
      | nil => exact .inl rfl
      | cons u r =>
        refine .inr ⟨g, rfl, hg, hr, hn, fun e => ?_⟩
        subst e
        have h0 := hr.1 0 u rfl
        rw [hb] at h0
        injection h0 with h0
        exact hl u rfl a n c h0.symm
  refine ⟨A1, C1, A2, C2, rfl, key _ _ (fun u hu a n c e => ?_) h1, key _ _ (fun u hu a n c e => ?_) h2⟩
  · subst e
    have hm := List.mem_of_getElem? hu
    simp only [lieL, List.mem_map] at hm
    obtain ⟨k, _, h⟩ := hm
    cases h
  · subst e
    cases hw : D.wt with
    | nil => rw [hw] at hu; simp [putsL] at hu
    | cons x r => rw [hw] at hu; simp [putsL] at hu
theorem DStK.put {K : Nat → Prop} {wk w0 X : World} {p b : Nat} {D D' : DkM} {Q : List (Nat × List Value)} {v : Value} {a : Option Addr} {n c : Nat} {u1 u2 : Value} (h : DStK K wk w0 X p D Q) (hm : (b, [.slice a n c, u1, u2]) ∈ Q) (hv : RfV X (inR Q) v D') (hw : w0.heap.size ≤ b) (c0 c1 c2 : Value) :
    DStK K wk w0 (set3 X b c0 c1 c2) p D ((b, [c0, c1, c2]) :: Q.filter fun r => decide (r.1 ≠ b)) ∧ RfV (set3 X b c0 c1 c2) (inR ((b, [c0, c1, c2]) :: Q.filter fun r => decide (r.1 ≠ b))) v D' := by
  have hv2 := hv.apart ((h.row hm).1 0 _ rfl)
  have hne : ∀ r ∈ Q.filter (fun r => decide (r.1 ≠ b)), r.1 ≠ b := fun r hr => by
    have := (List.mem_filter.1 hr).2
    simpa using this
  have h1 : DStK K wk w0 X p D ((b, [.slice a n c, u1, u2]) :: Q.filter fun r => decide (r.1 ≠ b)) := h.sub fun r hr => by
    rcases List.mem_cons.1 hr with rfl | hr
    · exact hm
    · exact (List.mem_filter.1 hr).1
  have h2 := h1.set3H hw hne c0 c1 c2
  have hv3 : RfV X (inR (Q.filter fun r => decide (r.1 ≠ b))) v D' := hv2.mono fun g l _ h => List.mem_filter.2 ⟨h.1, by simpa using h.2⟩
  exact ⟨h2, hv3.stay h2 fun r hr => List.mem_cons_of_mem _ hr⟩
/-- Both disks, the document's in a box. -/
def Both (w0 w : World) (p : Nat) (D : DkM) (b : Nat) : Prop :=
  ∃ A1 C1 A2 C2 Q, DSt w0 w p D Q ∧ (b, [.slice A1 D.n C1, .slice A2 D.wt.length C2, .int .i64 D.left]) ∈ Q ∧ RfV w (inR Q) (.agg #[.slice A1 D.n C1, .slice A2 D.wt.length C2, .int .i64 D.left]) D ∧ D.pl
theorem both_put {w0 X : World} {p b : Nat} {D : DkM} {Q : List (Nat × List Value)} {A1 A2 a : Option Addr} {C1 C2 n c : Nat} {u1 u2 : Value} (h : DSt w0 X p D Q) (hm : (b, [.slice a n c, u1, u2]) ∈ Q) (hv : RfV X (inR Q) (.agg #[.slice A1 D.n C1, .slice A2 D.wt.length C2, .int .i64 D.left]) D) (hw : w0.heap.size ≤ b) (hpl : D.pl) :
    Both w0 (set3 X b (.slice A1 D.n C1) (.slice A2 D.wt.length C2) (.int .i64 D.left)) p D b := by
  obtain ⟨h1, h2⟩ := h.put hm hv hw (.slice A1 D.n C1) (.slice A2 D.wt.length C2) (.int .i64 D.left)
  exact ⟨A1, C1, A2, C2, _, h1, List.mem_cons_self .., h2, hpl⟩
/-- The disk behind these calls. -/
def runM (l : List AcT) (D : DkM) : DkM := l.foldl (fun D x => nextM D x.what x.ka x.mo x.bt x.keep) D
theorem runM_push (l : List AcT) (x : AcT) (D : DkM) : runM (l ++ [x]) D = nextM (runM l D) x.what x.ka x.mo x.bt x.keep := by simp [runM]
theorem runM_few : ∀ (l : List AcT) (D : DkM), (runM l D).wt.length ≤ D.wt.length + l.length
  | [], D => Nat.le_refl _
  | x :: r, D => by
    have h1 := runM_few r (nextM D x.what x.ka x.mo x.bt x.keep)
    have h2 := next_few D x.what x.ka x.mo x.bt x.keep
    have e : runM (x :: r) D = runM r (nextM D x.what x.ka x.mo x.bt x.keep) := rfl
    rw [e, List.length_cons]
    omega
theorem takeA {l : List AcT} {i : Nat} {x : AcT} (hx : l[i]? = some x) : l.take (i + 1) = l.take i ++ [x] := by rw [List.take_add_one, hx]; rfl
theorem act_ok {w0 : World} {x : AcT} (hf : x.fine = true) (h : x.fit w0 w0.heap.size) : ActOk w0 x.what x.ka x.mo x.kA x.keep := by
  unfold AcT.fine at hf
  simp only [Bool.and_eq_true, decide_eq_true_eq, Bool.not_eq_true', Bool.and_eq_false_iff, beq_eq_false_iff_ne, decide_eq_false_iff_not] at hf
  exact ⟨h.1, h.2.1, h.2.2, hf.1, fun e => by rcases hf.2 with h | h; exact absurd e h; omega⟩
theorem few_len {l : List AcT} {m : Nat} (h : fewA l m = true) : l.length ≤ m := by
  unfold fewA at h
  simp only [Bool.and_eq_true, decide_eq_true_eq] at h
  exact h.2
theorem newM_pl (n : Nat) : (newM n).pl := fun x hx => by cases hx

end Go.Proofs.Ytekeooeapiodmaa

