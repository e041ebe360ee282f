/- Package rank: what a line is behind a join, behind a leave. -/
import Derived.Test.YthfndphngeaihaaDoorRkD
namespace Go.Proofs.YthfndphngeaihaaDoor
open Go Go.RowKit Go.Shelf
open Go.ChangeMaps (setBlock)
set_option linter.unusedSimpArgs false
set_option linter.unusedVariables false
set_option linter.unusedSectionVars false
set_option maxRecDepth 100000

theorem own_some {w : World} {B : Nat} {e : TypeId} {k : Nat} {v : Value} {n : Nat} {xs : List Value} (h : w.ownsRow B e k v n xs) (hn : 0 < n) : ∃ j, v.ownBlock = some j ∧ j < w.heap.size := by
  rcases h.2 with ⟨_, h2⟩ | ⟨g, cap, cur, rfl, _, hg, _⟩
  · omega
  · exact ⟨g, rfl, (Array.getElem?_eq_some_iff.1 hg).1⟩

theorem namesOf_add (D : List Wt) (x : Wt) (q : Qk) : namesOf (D ++ [x]) q = namesOf D q ++ if x.qk = q then [x.nm] else [] := by
  unfold namesOf
  rw [List.filter_append, List.map_append]
  by_cases h : x.qk = q <;> simp [h]
theorem wt_add {D : List Wt} {x : Wt} (hx : wt D x.nm = none) (n : Nm) : wt (D ++ [x]) n = if n = x.nm then some x else wt D n := by
  unfold wt at *
  rw [List.find?_append]
  by_cases h : n = x.nm
  · subst h
    rw [if_pos rfl, hx]
    simp
  · rw [if_neg h]
    have h2 : ¬ x.nm = n := fun e => h e.symm
    cases hf : List.find? (fun x => decide (x.nm = n)) D <;> simp [h2]
theorem wt_none {D : List Wt} {n : Nm} : wt D n = none ↔ n ∉ D.map Wt.nm := by
  unfold wt
  rw [List.find?_eq_none]
  simp only [decide_eq_true_eq, List.mem_map, not_exists, not_and]
theorem flatNm_append (a b : List Nm) : flatNm (a ++ b) = flatNm a ++ flatNm b := List.flatMap_append ..
theorem flatNm_one (x : Nm) : flatNm [x] = x.cells := by simp [flatNm]

/-- The slice of a queue, nil where it is none. -/
def sliceOf (lq : List (Qk × Value)) (q : Qk) : Value := (lk lq q).getD (.slice none 0 0)
theorem QsAt.own {w : World} {lq : List (Qk × Value)} {D : List Wt} (h : QsAt w lq D) (q : Qk) : w.ownsRow 0 28 4 (sliceOf lq q) (namesOf D q).length (flatNm (namesOf D q)) := by
  unfold sliceOf
  cases hl : lk lq q with
  | none =>
    rw [(h.1 q).1 hl]
    exact World.ownsRow_nil w 0 _ 4
  | some v => exact h.2.1 q v hl

theorem line_join {w w' : World} {S : Nat → Prop} {p : Nat} {most : Int} {D : List Wt} {bq bw : Nat} {lq : List (Qk × Value)} {lw : List (Nm × Value)} (x : Wt)
    (h1 : RowB w p [.int .i64 most, .map (some bq), .map (some bw)]) (h4 : QsAt w lq D) (h5 : WsAt lw D)
    (h6 : S p ∧ S bq ∧ S bw ∧ ∀ q v j, lk lq q = some v → v.ownBlock = some j → S j) (h7 : bq ≠ bw ∧ p ≠ bq ∧ p ≠ bw ∧ ∀ q v j, lk lq q = some v → v.ownBlock = some j → j ≠ p ∧ j ≠ bq ∧ j ≠ bw)
    (hx : wt D x.nm = none) (v' : Value) (e1 : KMap encQk w' bq (up lq x.qk v')) (e2 : KMap encNm w' bw (up lw x.nm (encWt x)))
    (e3 : w'.ownsRow 0 28 4 v' ((namesOf D x.qk).length + 1) (flatNm (namesOf D x.qk) ++ x.nm.cells))
    (e4 : ∀ j, j < w.heap.size → j ≠ bq → j ≠ bw → (sliceOf lq x.qk).ownBlock ≠ some j → w'.heap[j]? = w.heap[j]?)
    (e5 : ∀ j, v'.ownBlock = some j → (sliceOf lq x.qk).ownBlock = some j ∨ w.heap.size ≤ j) (hbq : bq < w.heap.size) (hbw : bw < w.heap.size) : LineAt w' (fun b => S b ∨ newS w w' b) p most (D ++ [x]) := by
  have hsl : ∀ j, (sliceOf lq x.qk).ownBlock = some j → ∃ v, lk lq x.qk = some v ∧ v.ownBlock = some j := fun j hj => by
    unfold sliceOf at hj
    cases hl : lk lq x.qk with
    | none => rw [hl] at hj; cases hj
    | some v => rw [hl] at hj; exact ⟨v, rfl, hj⟩
  obtain ⟨s1, s2, s3, s4⟩ := h6
  obtain ⟨n1, n2, n3, n4⟩ := h7
  obtain ⟨jv, hjv, hjl⟩ := own_some e3 (Nat.succ_pos _)
  have hup : ∀ q v j, lk (up lq x.qk v') q = some v → v.ownBlock = some j → (q = x.qk ∧ v = v' ∧ j = jv) ∨ (q ≠ x.qk ∧ lk lq q = some v) := fun q v j hq hj => by
    rw [lk_up] at hq
    split at hq
    · injection hq with hq
      subst hq
      rw [hjv] at hj
      injection hj with hj
      exact .inl ⟨‹_›, rfl, hj.symm⟩
    · exact .inr ⟨‹_›, hq⟩
  have hnew : ∀ q v, lk lq q = some v → q ≠ x.qk → v.ownBlock ≠ some jv := fun q v hq hne hj => by
    rcases e5 jv hjv with h | h
    · obtain ⟨u, hu, huj⟩ := hsl jv h
      exact h4.2.2 q x.qk v u hne hq hu (hj.trans huj.symm)
    · have := h4.lt hq hj
      omega
  have hjS : S jv ∨ newS w w' jv := by
    rcases e5 jv hjv with h | h
    · obtain ⟨u, hu, huj⟩ := hsl jv h
      exact .inl (s4 _ u jv hu huj)
    · exact .inr ⟨h, hjl⟩
  have hjn : jv ≠ p ∧ jv ≠ bq ∧ jv ≠ bw := by
    rcases e5 jv hjv with h | h
    · obtain ⟨u, hu, huj⟩ := hsl jv h
      exact n4 _ u jv hu huj
    · have := h1.lt
      exact ⟨by omega, by omega, by omega⟩
  refine ⟨bq, bw, up lq x.qk v', up lw x.nm (encWt x), h1.kept (e4 p h1.lt n2 n3 fun h => ?_), e1, e2, ⟨fun q => ?_, fun q v hq => ?_, fun q q' v u hne hq hq' hvu => ?_⟩, ⟨fun n => ?_, ?_, ?_⟩, ⟨.inl s1, .inl s2, .inl s3, fun q v j hq hj => ?_⟩, n1, n2, n3, fun q v j hq hj => ?_⟩
  · obtain ⟨u, hu, huj⟩ := hsl p h
    exact (n4 _ u p hu huj).1 rfl
  · rw [lk_up, namesOf_add]
    by_cases h : q = x.qk
    · subst h
      simp
    · rw [if_neg h, if_neg (Ne.symm h), List.append_nil]
      exact h4.1 q
  · rw [lk_up] at hq
    rw [namesOf_add]
    by_cases h : q = x.qk
    · subst h
      rw [if_pos rfl] at hq ⊢
      injection hq with hq
      subst hq
      rw [List.length_append, flatNm_append, flatNm_one]
      exact e3
    · rw [if_neg h] at hq
      rw [if_neg (Ne.symm h), List.append_nil]
      refine ownsRow_kept (h4.2.1 q v hq) fun j hj => e4 j (h4.lt hq hj) (n4 q v j hq hj).2.1 (n4 q v j hq hj).2.2 fun hs => ?_
      obtain ⟨u, hu, huj⟩ := hsl j hs
      exact h4.2.2 q x.qk v u h hq hu (hj.trans huj.symm)
  · rw [lk_up] at hq hq'
    by_cases h : q = x.qk
    · rw [if_pos h] at hq
      rw [if_neg (fun h' => hne (h.trans h'.symm))] at hq'
      injection hq with hq
      subst hq
      exact hnew q' u hq' (fun h' => hne (h.trans h'.symm)) (hvu.symm.trans hjv)
    · rw [if_neg h] at hq
      by_cases h' : q' = x.qk
      · rw [if_pos h'] at hq'
        injection hq' with hq'
        subst hq'
        exact hnew q v hq h (hvu.trans hjv)
      · rw [if_neg h'] at hq'
        exact h4.2.2 q q' v u hne hq hq' hvu
  · rw [lk_up, wt_add hx, h5.1 n]
    split <;> rfl
  · have : (lk lw x.nm).isSome = false := by rw [h5.1, hx]; rfl
    rw [up_len, this, h5.2.1]
    simp
  · rw [List.map_append, List.nodup_append]
    refine ⟨h5.2.2, by simp, fun a ha b hb => ?_⟩
    simp only [List.map_cons, List.map_nil, List.mem_singleton] at hb
    subst hb
    rintro rfl
    exact wt_none.1 hx ha
  · rcases hup q v j hq hj with ⟨_, _, rfl⟩ | ⟨_, h⟩
    · exact hjS
    · exact .inl (s4 q v j h hj)
  · rcases hup q v j hq hj with ⟨_, _, rfl⟩ | ⟨_, h⟩
    · exact hjn
    · exact n4 q v j h hj

end Go.Proofs.YthfndphngeaihaaDoor
