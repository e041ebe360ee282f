/- Package rank's law: names taken out one by one (pure). -/
import Derived.Test.YthfndphngeaihaaDoorRkL
import Derived.Test.YthfndphngeaihaaDoorRkH
namespace Go.Proofs.YthfndphngeaihaaDoor
open Go Go.RowKit Go.Shelf
set_option linter.unusedSimpArgs false
set_option linter.unusedVariables false
set_option linter.unusedSectionVars false

/-- What is left when the greater ranks are out, and of rank r those ahead of place i. -/
def leftA (P : List Wt) (r : Int) (i : Nat) : List Wt := (P.take i).filter fun x => decide (x.rank < r)
def leftB (P : List Wt) (r : Int) (i : Nat) : List Wt := (P.drop i).filter fun x => decide (x.rank ≤ r)
def rest (P : List Wt) (r : Int) (i : Nat) : List Wt := leftA P r i ++ leftB P r i
theorem drop_at {P : List Wt} {i : Nat} {x : Wt} (h : P[i]? = some x) : P.drop i = x :: P.drop (i + 1) := by
  obtain ⟨hi, rfl⟩ := List.getElem?_eq_some_iff.1 h
  exact List.drop_eq_getElem_cons hi
theorem take_at {P : List Wt} {i : Nat} {x : Wt} (h : P[i]? = some x) : P.take (i + 1) = P.take i ++ [x] := by
  rw [List.take_add_one, h]
  rfl
theorem rest_skip {P : List Wt} {r : Int} {i : Nat} {x : Wt} (h : P[i]? = some x) (hx : x.rank ≠ r) : rest P r (i + 1) = rest P r i := by
  unfold rest leftA leftB
  rw [take_at h, drop_at h, List.filter_append, List.filter_cons]
  by_cases h1 : x.rank < r
  · have h2 : x.rank ≤ r := by omega
    simp [h1, h2]
  · have h2 : ¬ x.rank ≤ r := by omega
    simp [h1, h2]
theorem rest_take {P : List Wt} {r : Int} {i : Nat} {x : Wt} (h : P[i]? = some x) (hx : x.rank = r) : rest P r i = leftA P r i ++ x :: leftB P r (i + 1) ∧ rest P r (i + 1) = leftA P r i ++ leftB P r (i + 1) := by
  unfold rest leftA leftB
  rw [take_at h, drop_at h, List.filter_append, List.filter_cons]
  simp [hx]
theorem rest_start {P : List Wt} (h : ∀ x ∈ P, x.rank ≤ 2) : rest P 2 0 = P := by
  unfold rest leftA leftB
  simp only [List.take_zero, List.filter_nil, List.nil_append, List.drop_zero]
  exact List.filter_eq_self.2 fun x hx => by simpa using h x hx
theorem rest_next (P : List Wt) (r : Int) : rest P r P.length = rest P (r - 1) 0 := by
  unfold rest leftA leftB
  simp only [List.take_length, List.drop_length, List.filter_nil, List.append_nil, List.take_zero, List.nil_append, List.drop_zero]
  congr 1
  funext x
  have : x.rank < r ↔ x.rank ≤ r - 1 := by omega
  simp [this]
theorem rest_end {P : List Wt} (h : ∀ x ∈ P, 0 ≤ x.rank) : rest P (-1) 0 = [] := by
  unfold rest leftA leftB
  simp only [List.take_zero, List.filter_nil, List.nil_append, List.drop_zero]
  exact List.filter_eq_nil_iff.2 fun x hx => by have := h x hx; simp; omega
theorem rm_mid {A B : List Wt} {x : Wt} (hn : ((A ++ x :: B).map Wt.nm).Nodup) : rm (A ++ x :: B) x.nm = A ++ B := by
  have hne : ∀ y, y ∈ A ++ B → y.nm ≠ x.nm := by
    have hn' := ((List.perm_middle (l₁ := A) (l₂ := B) (a := x)).map Wt.nm).nodup hn
    rw [List.map_cons] at hn'
    obtain ⟨h1, _⟩ := List.nodup_cons.1 hn'
    intro y hy e
    refine h1 ?_
    rw [← e]
    exact List.mem_map.2 ⟨y, hy, rfl⟩
  unfold rm
  rw [List.filter_append, List.filter_cons, if_neg (by simp), ← List.filter_append]
  exact List.filter_eq_self.2 fun y hy => by simpa using hne y hy
theorem rm_app {D : List Wt} {x : Wt} (h : wt D x.nm = none) : rm (D ++ [x]) x.nm = D := by
  have hne : ∀ y ∈ D, y.nm ≠ x.nm := fun y hy e => by
    have := List.find?_eq_none.1 h y hy
    simp [e] at this
  unfold rm
  rw [List.filter_append]
  have h1 : D.filter (fun y => decide (y.nm ≠ x.nm)) = D := List.filter_eq_self.2 fun y hy => by simpa using hne y hy
  rw [h1]
  simp
theorem first_rest {A B : List Wt} {x : Wt} (hr : 0 ≤ x.rank ∧ x.rank ≤ 2) (hx : x.node = 7) (hA : ∀ y ∈ A, y.rank < x.rank) (hB : ∀ y ∈ B, y.rank ≤ x.rank) : ∃ t, allOf (A ++ x :: B) 7 = x :: t := by
  have hno : ∀ k : Int, x.rank < k → allR (A ++ x :: B) 7 k = [] := fun k hk => List.filter_eq_nil_iff.2 fun y hy => by
    have hle : y.rank ≤ x.rank := by
      rcases List.mem_append.1 hy with h | h
      · exact Int.le_of_lt (hA y h)
      · rcases List.mem_cons.1 h with rfl | h
        · exact Int.le_refl _
        · exact hB y h
    simp only [decide_eq_true_eq]
    intro e
    have : y.rank = k := congrArg Qk.rank e
    omega
  have hyes : ∃ t, allR (A ++ x :: B) 7 x.rank = x :: t := by
    unfold allR
    rw [List.filter_append, List.filter_cons, if_pos (by simp [Wt.qk, hx])]
    have : A.filter (fun y => decide (y.qk = ⟨7, x.rank⟩)) = [] := List.filter_eq_nil_iff.2 fun y hy => by
      have := hA y hy
      simp only [decide_eq_true_eq]
      intro e
      have : y.rank = x.rank := congrArg Qk.rank e
      omega
    rw [this]
    exact ⟨_, rfl⟩
  obtain ⟨t, ht⟩ := hyes
  unfold allOf
  rcases (by omega : x.rank = 2 ∨ x.rank = 1 ∨ x.rank = 0) with e | e | e
  · rw [e] at ht
    rw [ht]
    exact ⟨_, rfl⟩
  · rw [hno 2 (by omega)]
    rw [e] at ht
    rw [ht]
    exact ⟨_, rfl⟩
  · rw [hno 2 (by omega), hno 1 (by omega)]
    rw [e] at ht
    rw [ht]
    exact ⟨_, rfl⟩

end Go.Proofs.YthfndphngeaihaaDoor
