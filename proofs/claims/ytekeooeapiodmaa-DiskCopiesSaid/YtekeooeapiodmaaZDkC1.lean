/- Package disk: two disks side by side; calls in one row. -/
import Derived.Test.YtekeooeapiodmaaZDkM1
namespace Go.Proofs.Ytekeooeapiodmaa
open Go Go.RowKit Go.Shelf
set_option linter.unusedSimpArgs false
set_option linter.unusedVariables false
set_option maxRecDepth 100000

/-- Blocks that were laid between. -/
def betw (w w' : World) : Nat → Prop := fun b => w.heap.size ≤ b ∧ b < w'.heap.size
/-- All blocks but those laid between, and these rows. -/
def restK (w w' w6 : World) (Q : List (Nat × List Value)) : Nat → Prop := fun b => b < w6.heap.size ∧ ¬ betw w w' b ∧ ∀ r ∈ Q, r.1 ≠ b
/-- The copy, behind a call on the other one. -/
theorem DStK.other {K : Nat → Prop} {wk w0 w w' w6 : World} {p q : Nat} {D D' : DkM} {Q Q6 R0 : List (Nat × List Value)} (hc : DStK K wk w w' q D R0) (hcS : ∀ b, K b → False) (hd : DStK (betw w w') w' w0 w6 p D' Q6) (hw : w0.heap.size ≤ w.heap.size) (hQ : ∀ r ∈ Q, r ∈ Q6) :
    DStK (restK w w' w6 Q) w6 w0 w6 q D Q := by
  obtain ⟨S, h1, h2, h3, h4, h5, h6⟩ := hc
  obtain ⟨S', g1, g2, g3, g4, g5, g6⟩ := hd
  refine ⟨S, h1.kept (fun b hb _ => (g6 b (h3 b hb)).1) fun _ h => h, h2, fun b hb => ⟨Nat.le_trans hw (h3 b hb).1, (g6 b (h3 b hb)).2.2.1⟩, g4, fun r hr => ⟨(g5 r (hQ r hr)).1, fun hs => ?_, (g5 r (hQ r hr)).2.2⟩, fun b hb => ⟨rfl, fun hs => hb.2.1 (h3 b hs), hb.1, hb.2.2⟩⟩
  exact (g6 r.1 (h3 r.1 hs)).2.2.2 r (hQ r hr) rfl
/-- The first one, behind a call on the copy. -/
theorem DStK.back {w0 w w' w6 w7 : World} {p q : Nat} {D Dc : DkM} {Q Q6 Q' Rc : List (Nat × List Value)} (hd : DStK (betw w w') w' w0 w6 p D Q6) (hc : DStK (restK w w' w6 Q) w6 w0 w7 q Dc Rc) (hQ : ∀ r ∈ Q, r ∈ Q6) (hQ' : ∀ r ∈ Q', r ∈ Q6 ∧ r ∈ Rc) : DSt w0 w7 p D Q' := by
  obtain ⟨S, h1, h2, h3, h4, h5, h6⟩ := hc
  obtain ⟨S', g1, g2, g3, g4, g5, g6⟩ := hd
  have hk : ∀ b, S' b → b < w6.heap.size → restK w w' w6 Q b := fun b hb hl => ⟨hl, fun h => (g6 b h).2.1 hb, fun r hr e => (g5 r (hQ r hr)).2.1 (by rw [e]; exact hb)⟩
  refine ⟨S', g1.kept (fun b hb hl => (h6 b (hk b hb hl)).1) fun _ h => h, g2, fun b hb => ⟨(g3 b hb).1, (h6 b (hk b hb (g3 b hb).2)).2.2.1⟩, h4, fun r hr => ⟨(h5 r (hQ' r hr).2).1, (g5 r (hQ' r hr).1).2.1, (h5 r (hQ' r hr).2).2.2⟩, fun b hb => hb.elim⟩
theorem DStK.plain {K : Nat → Prop} {wk w0 w : World} {p : Nat} {D : DkM} {R : List (Nat × List Value)} (h : DStK K wk w0 w p D R) : DSt w0 w p D R := by
  obtain ⟨S, h1, h2, h3, h4, h5, _⟩ := h
  exact ⟨S, h1, h2, h3, h4, h5, fun b hb => hb.elim⟩
theorem DStK.same2 {K K2 : Nat → Prop} {wk wk2 w0 w1 w : World} {p q : Nat} {D E : DkM} {R R2 : List (Nat × List Value)} (h : DStK K wk w0 w p D R) (h2 : DStK K2 wk2 w1 w q E R2) :
    Calls Try.prog 18 #[.pointer (some ⟨p, 0, none⟩), .pointer (some ⟨q, 0, none⟩)] w fun e w' => e = .returned (.bool (sameB D E)) ∧ Below w.heap.size w w' := by
  obtain ⟨S, hd, hok, _⟩ := h
  obtain ⟨S2, hd2, hok2, _⟩ := h2
  exact same2_any S S2 p q D E hok hok2 w hd hd2
theorem sameB_comm (D E : DkM) : sameB D E = sameB E D := by
  have key : ∀ D E : DkM, sameB D E = true → sameB E D = true := by
    intro D E h
    unfold sameB at h ⊢
    simp only [Bool.and_eq_true, beq_iff_eq, List.all_eq_true, List.mem_range] at h ⊢
    obtain ⟨⟨⟨h1, h2⟩, h3⟩, h4⟩ := h
    exact ⟨⟨⟨h1.symm, h2.symm⟩, h3.symm⟩, fun k hk => (h4 k (by omega)).symm⟩
  cases h1 : sameB D E
  · cases h2 : sameB E D
    · rfl
    · rw [key _ _ h2] at h1; cases h1
  · exact (key _ _ h1).symm

/-- The cells of calls one behind another. -/
def flatA : List AcT → List Value
  | [] => []
  | x :: r => x.cells ++ flatA r
theorem cells_len (x : AcT) : x.cells.length = 5 := rfl
theorem flatA_len : ∀ l : List AcT, (flatA l).length = l.length * 5
  | [] => rfl
  | x :: r => by simp only [flatA, List.length_append, cells_len, flatA_len r, List.length_cons]; omega
theorem flatA_append : ∀ l m : List AcT, flatA (l ++ m) = flatA l ++ flatA m
  | [], _ => rfl
  | x :: r, m => by simp only [List.cons_append, flatA, flatA_append r m, List.append_assoc]
theorem flatA_at : ∀ {l : List AcT} {i : Nat} {x : AcT}, l[i]? = some x → ∀ j, j < 5 → (flatA l)[i * 5 + j]? = x.cells[j]?
  | [], _, _, h, _, _ => by simp at h
  | y :: r, 0, x, h, j, hj => by
    simp only [List.getElem?_cons_zero, Option.some.injEq] at h
    subst h
    simp only [flatA]
    rw [List.getElem?_append_left (by rw [cells_len]; omega)]
    congr 1
    omega
  | y :: r, i + 1, x, h, j, hj => by
    simp only [List.getElem?_cons_succ] at h
    simp only [flatA]
    rw [List.getElem?_append_right (by rw [cells_len]; omega), cells_len, ← flatA_at (l := r) h j hj]
    congr 1
    omega
theorem flatA_one {l : List AcT} : ∀ u ∈ flatA l, u.oneCell' = true := by
  induction l with
  | nil => intro u hu; cases hu
  | cons x r ih =>
    intro u hu
    simp only [flatA, List.mem_append] at hu
    rcases hu with hu | hu
    · simp only [AcT.cells, List.mem_cons, List.not_mem_nil, or_false] at hu
      rcases hu with rfl | rfl | rfl | rfl | rfl <;> rfl
    · exact ih u hu
theorem RdAc.src {w : World} {B : Nat} {A : Option Addr} {l : List AcT} (h : RdAc w B A l) : Src w A (flatA l) := by
  rcases h with rfl | ⟨g, o, rfl, hg, hc⟩
  · exact .inl rfl
  · refine .inr ⟨_, rfl, fun j u hu => ?_⟩
    have hj : j < l.length * 5 := by rw [← flatA_len]; exact (List.getElem?_eq_some_iff.1 hu).1
    obtain ⟨x, hx⟩ : ∃ x, l[j / 5]? = some x := ⟨_, List.getElem?_eq_getElem (by omega)⟩
    have h1 := flatA_at hx (j % 5) (by omega)
    rw [show j / 5 * 5 + j % 5 = j by omega, hu] at h1
    have h2 := (hc (j / 5) x hx).1 (j % 5) u h1.symm
    rw [mk_addr_add]
    rw [show o + j / 5 * 5 + j % 5 = o + j by omega] at h2
    exact h2
theorem info_act : (Try.prog.info? 40).map (fun i => (i.zero, i.size, i.bytes)) = some (some (.agg #[.int .i64 0, .int .i64 0, .int .i64 0, .int .u8 0, .slice none 0 0]), 5, 56) := by kernel_rfl
/-- Calls in a row of one's own. -/
theorem own_acts {w : World} {B n C : Nat} {e : TypeId} {A : Option Addr} {l : List AcT} (h : w.ownsRow B e 5 (.slice A n C) n (flatA l)) (hn : n = l.length) (hf : ∀ x ∈ l, x.fit w w.heap.size) : RdAc w w.heap.size A l := by
  by_cases h0 : n = 0
  · exact .inl (List.eq_nil_of_length_eq_zero (by omega))
  · obtain ⟨g, cap, hv, _, hl, _, hr⟩ := own_rowB h h0
    injection hv with hA
    refine .inr ⟨g, 0, hA, hl, fun i x hx => ⟨fun j v hj => ?_, hf x (List.mem_of_getElem? hx)⟩⟩
    rw [Nat.zero_add]
    have hj5 : j < 5 := by rw [← cells_len x]; exact (List.getElem?_eq_some_iff.1 hj).1
    exact hr.1 _ v (by rw [flatA_at hx j hj5]; exact hj)
theorem AcT.fit.on {x : AcT} {w w' : World} (h : x.fit w w.heap.size) (hb : Below w.heap.size w w') : x.fit w' w'.heap.size := by
  obtain ⟨h1, h2, h3⟩ := h.later hb
  refine ⟨h1, h2, ?_⟩
  rcases h3 with h | ⟨g, o, e, hg, hc⟩
  · exact .inl h
  · exact .inr ⟨g, o, e, Nat.lt_of_lt_of_le hg hb.size, hc⟩
theorem RdAc.on {w w' : World} {A : Option Addr} {l : List AcT} (h : RdAc w w.heap.size A l) (hb : Below w.heap.size w w') : RdAc w' w'.heap.size A l := by
  rcases h with h | ⟨g, o, rfl, hg, hc⟩
  · exact .inl h
  · exact .inr ⟨g, o, rfl, Nat.lt_of_lt_of_le hg hb.size, fun i x hx => ⟨fun j v hv => (hb.cell (p := ⟨g, o + i * 5 + j, none⟩) hg).trans ((hc i x hx).1 j v hv), (hc i x hx).2.on hb⟩⟩
theorem RdAc.fits {w : World} {B : Nat} {A : Option Addr} {l : List AcT} (h : RdAc w B A l) : ∀ x ∈ l, x.fit w B := fun x hx => by
  rcases h with rfl | ⟨g, o, rfl, hg, hc⟩
  · cases hx
  · obtain ⟨i, hi⟩ := List.getElem?_of_mem hx
    exact (hc i x hi).2
theorem minmax_dk (many : Int) (m n : Nat) (h1 : n ≤ m) (ha : many ≤ n ∨ n = m) (hb : n ≤ 1 ∨ ¬ many ≤ (n : Int) - 1) (hc : n = 0 → m = 0) : (if (m : Int) < (if 1 < many then many else 1) then (m : Int) else (if 1 < many then many else 1)) = n := by
  split <;> split <;> omega

end Go.Proofs.Ytekeooeapiodmaa

