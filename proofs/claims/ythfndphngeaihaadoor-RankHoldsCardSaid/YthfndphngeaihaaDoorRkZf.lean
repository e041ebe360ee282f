/- Package rank's law: what is put, and how it is taken out (pure). -/
import Derived.Test.YthfndphngeaihaaDoorRkZe
import Derived.Test.YthfndphngeaihaaDoorRkI
import Derived.Test.YthfndphngeaihaaDoorRkJ
namespace Go.Proofs.YthfndphngeaihaaDoor
open Go Go.RowKit Go.Shelf
open Go.ChangeMaps (setBlock)
set_option linter.unusedSimpArgs false
set_option linter.unusedVariables false
set_option linter.unusedSectionVars false
set_option maxRecDepth 100000

attribute [local go_sem] Oper.semAt_some

/-- What is put, one after another, each to neighbour 7. -/
def to7 (x : Wt) : Wt := { x with node := 7 }
def putAll (most : Int) : List Wt → List Wt → List Wt
  | D, [] => D
  | D, x :: r => putAll most (if putE D most (to7 x) = 0 then D ++ [to7 x] else D) r
theorem putAll_add (most : Int) : ∀ (l D : List Wt) (x : Wt), putAll most D (l ++ [x]) = (if putE (putAll most D l) most (to7 x) = 0 then putAll most D l ++ [to7 x] else putAll most D l)
  | [], D, x => rfl
  | y :: r, D, x => putAll_add most r _ x
theorem putE_right {D : List Wt} {most : Int} {x : Wt} (h : putE D most x = 0) : (0 ≤ x.rank ∧ x.rank ≤ 2) ∧ (1 ≤ x.size ∧ x.size ≤ 65536) ∧ wt D x.nm = none := by
  unfold putE at h
  split at h
  · cases h
  · rename_i h1
    split at h
    · cases h
    · rename_i h2
      have h3 : rightW x = true := by simpa using h1
      unfold rightW inB at h3
      simp at h3
      refine ⟨⟨by omega, by omega⟩, ⟨by omega, by omega⟩, ?_⟩
      cases hw : wt D x.nm with
      | none => rfl
      | some y => rw [hw] at h2; simp at h2

theorem putE_may {D : List Wt} {most : Int} {x : Wt} (h : putE D most x = 0) : mayN x.nm = true := by
  unfold putE at h
  split at h
  · cases h
  · rename_i h1
    have h3 : rightW x = true := by simpa using h1
    unfold rightW at h3
    simp only [Bool.and_eq_true] at h3
    exact h3.1

/-- What is put, as it must be. -/
def PutOk (P : List Wt) : Prop := (∀ x ∈ P, x.node = 7 ∧ (0 ≤ x.rank ∧ x.rank ≤ 2) ∧ mayN x.nm = true) ∧ (P.map Wt.nm).Nodup
theorem nodup_add {D : List Wt} {x : Wt} (h : (D.map Wt.nm).Nodup) (hx : wt D x.nm = none) : ((D ++ [x]).map Wt.nm).Nodup := by
  rw [List.map_append, List.map_cons, List.map_nil]
  refine List.nodup_append.2 ⟨h, by simp, ?_⟩
  intro a ha b hb
  obtain ⟨y, hy, rfl⟩ := List.mem_map.1 ha
  rw [List.mem_singleton] at hb
  subst hb
  intro e
  have := List.find?_eq_none.1 hx y hy
  simp [e] at this
theorem putOk_step {D : List Wt} {most : Int} (x : Wt) (h : PutOk D) : PutOk (if putE D most (to7 x) = 0 then D ++ [to7 x] else D) := by
  by_cases h0 : putE D most (to7 x) = 0
  · rw [if_pos h0]
    refine ⟨fun y hy => ?_, nodup_add h.2 (putE_right h0).2.2⟩
    rcases List.mem_append.1 hy with hy | hy
    · exact h.1 y hy
    · rw [List.mem_singleton] at hy
      subst hy
      exact ⟨rfl, (putE_right h0).1, putE_may h0⟩
  · rw [if_neg h0]
    exact h
theorem putAll_ok (most : Int) : ∀ (l D : List Wt), PutOk D → PutOk (putAll most D l) ∧ (putAll most D l).length ≤ D.length + l.length
  | [], D, h => ⟨h, Nat.le_add_right _ _⟩
  | x :: r, D, h => by
    obtain ⟨h1, h2⟩ := putAll_ok most r _ (putOk_step (most := most) x h)
    refine ⟨h1, Nat.le_trans h2 ?_⟩
    rw [List.length_cons]
    split
    · rw [List.length_append, List.length_singleton]
      omega
    · omega
theorem wt_mid {A B : List Wt} {x : Wt} (hn : ((A ++ x :: B).map Wt.nm).Nodup) : wt (A ++ x :: B) x.nm = some x := by
  unfold wt
  have hne : ∀ y ∈ A, ¬ decide (y.nm = x.nm) = true := fun y hy e => by
    rw [List.map_append, List.map_cons] at hn
    exact (List.nodup_append.1 hn).2.2 y.nm (List.mem_map.2 ⟨y, hy, rfl⟩) x.nm (by simp) (of_decide_eq_true e)
  rw [List.find?_append, List.find?_eq_none.2 hne, List.find?_cons_of_pos (by simp)]
  rfl
theorem rest_perm {P : List Wt} (r : Int) (i : Nat) : List.Sublist (rest P r i) P := by
  unfold rest leftA leftB
  have h : List.Sublist (((P.take i).filter fun x => decide (x.rank < r)) ++ ((P.drop i).filter fun x => decide (x.rank ≤ r))) (P.take i ++ P.drop i) := List.filter_sublist.append List.filter_sublist
  rwa [List.take_append_drop] at h
theorem rest_few {P : List Wt} (r : Int) (i : Nat) : (rest P r i).length ≤ P.length := (rest_perm r i).length_le
/-- The next one of its rank comes first, is taken out, and the others are left. -/
theorem step_first {P : List Wt} {r : Int} {i : Nat} {x : Wt} (h : PutOk P) (hx : P[i]? = some x) (hr : x.rank = r) :
    firstWE (rest P r i) 7 = (x, 0) ∧ dropE (rest P r i) x.nm = 0 ∧ (wt (rest P r i) x.nm).getD wtZ = x ∧ rm (rest P r i) x.nm = rest P r (i + 1) := by
  obtain ⟨e1, e2⟩ := rest_take hx hr
  have hok := h.1 x (List.mem_of_getElem? hx)
  have hn : (((rest P r i)).map Wt.nm).Nodup := ((rest_perm r i).map Wt.nm).nodup h.2
  rw [e1] at hn
  have hw := wt_mid hn
  obtain ⟨t, ht⟩ := first_rest (A := leftA P r i) (B := leftB P r (i + 1)) (x := x) hok.2.1 hok.1 (fun y hy => by
    have := (List.mem_filter.1 hy).2
    rw [hr]
    exact of_decide_eq_true this) (fun y hy => by
    have := (List.mem_filter.1 hy).2
    rw [hr]
    exact of_decide_eq_true this)
  rw [e1, e2]
  refine ⟨?_, ?_, ?_, rm_mid hn⟩
  · unfold firstWE
    rw [if_neg (by decide), ht]
  · unfold dropE
    rw [hok.2.2, hw]
    rfl
  · rw [hw]
    rfl
theorem first_none {P : List Wt} (h : PutOk P) : firstWE (rest P (-1) 0) 7 = (wtZ, 5) := by
  rw [rest_end fun x hx => (h.1 x hx).2.1.1]
  rfl
/-- One more is put, and taken out again. -/
theorem more_back {P : List Wt} {most : Int} {x : Wt} (hp : (P.map Wt.nm).Nodup) (h : putE P most x = 0) :
    dropE (P ++ [x]) x.nm = 0 ∧ (wt (P ++ [x]) x.nm).getD wtZ = x ∧ rm (P ++ [x]) x.nm = P := by
  have hn := nodup_add hp (putE_right h).2.2
  have hw := wt_mid (A := P) (B := []) hn
  refine ⟨?_, ?_, rm_app (putE_right h).2.2⟩
  · unfold dropE
    rw [putE_may h, hw]
    rfl
  · rw [hw]
    rfl

end Go.Proofs.YthfndphngeaihaaDoor
