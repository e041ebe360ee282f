/- Package seen's law: what is seen (pure). -/
import Derived.Test.YtdnjoohicbdmiaaSeH
import Derived.Test.YtdnjoohicbdmiaaRdV
namespace Go.Proofs.Ytdnjoohicbdmiaa
open Go Go.RowKit Go.Shelf
open Go.ChangeMaps (setBlock)
set_option linter.unusedSimpArgs false
set_option linter.unusedVariables false
set_option linter.unusedSectionVars false

/-- A call. -/
structure SAct where
  what : Int
  s : Sg
  at0 : Int
  deriving DecidableEq
def SAct.cells (x : SAct) : List Value := [.int .i64 x.what, .int .u32 x.s.nm.n, .int .u32 x.s.nm.m, .int .u64 x.s.nm.t, .int .u32 x.s.nm.q, .bool x.s.back, .int .u8 x.s.cnt, .int .u64 x.at0]
def saZ : SAct := ⟨0, ⟨⟨0, 0, 0, 0⟩, false, 0⟩, 0⟩
def atS (l : List SAct) (k : Nat) : SAct := l[k]?.getD saZ
def flatSA (l : List SAct) : List Value := l.flatMap SAct.cells
theorem flatSA_len (l : List SAct) : (flatSA l).length = l.length * 8 := by
  induction l with
  | nil => rfl
  | cons x r ih =>
    unfold flatSA at ih ⊢
    rw [List.flatMap_cons, List.length_append, ih, List.length_cons]
    simp [SAct.cells]
    omega
theorem flatSA_at : ∀ (ns : List SAct) (k : Nat), k < ns.length → ∀ (i : Nat), i < 8 → (flatSA ns)[k * 8 + i]? = (atS ns k).cells[i]?
  | [], _, h, _, _ => by simp at h
  | y :: r, 0, _, i, hi => by
    show (flatSA (y :: r))[0 * 8 + i]? = y.cells[i]?
    rw [Nat.zero_mul, Nat.zero_add]
    show (y.cells ++ flatSA r)[i]? = _
    rw [List.getElem?_append_left (by simpa [SAct.cells] using hi)]
  | y :: r, k + 1, h, i, hi => by
    have ih := flatSA_at r k (by simpa using h) i hi
    rw [show (k + 1) * 8 + i = k * 8 + i + 8 by omega]
    exact ih
theorem sa_take (l : List SAct) (k : Nat) (hk : k < l.length) : l.take (k + 1) = l.take k ++ [atS l k] := by
  rw [List.take_add_one]
  unfold atS
  rw [List.getElem?_eq_getElem hk]
  rfl

/-- What is seen, one after another. -/
def seeL (l : List (Sg × Value)) (a : SAct) : List (Sg × Value) := if seeE l 100 a.s a.at0 = 0 then up l a.s (.int .u64 a.at0) else l
def seenL (acts : List SAct) : List (Sg × Value) := acts.foldl seeL []
theorem seenL_add (acts : List SAct) (a : SAct) : seenL (acts ++ [a]) = seeL (seenL acts) a := by
  unfold seenL
  rw [List.foldl_append]
  rfl
theorem seeE_zero {l : List (Sg × Value)} {most : Int} {x : Sg} {at0 : Int} (h : seeE l most x at0 = 0) : mayN x.nm = true ∧ endB at0 = true ∧ lk l x = none := by
  unfold seeE at h
  split at h
  · cases h
  · rename_i h1
    split at h
    · cases h
    · rename_i h2
      have h3 : (mayN x.nm && endB at0) = true := by simpa using h1
      rw [Bool.and_eq_true] at h3
      refine ⟨h3.1, h3.2, ?_⟩
      cases hw : lk l x with
      | none => rfl
      | some y => rw [hw] at h2; simp at h2
theorem seeE_cases (l : List (Sg × Value)) (most : Int) (x : Sg) (at0 : Int) (h : (l.length : Int) < most) : (seeE l most x at0 = 0 ∧ (lk l x).isSome = false) ∨ (seeE l most x at0 = 150 ∧ (lk l x).isSome = true) ∨ seeE l most x at0 = 2 := by
  unfold seeE
  by_cases h1 : (mayN x.nm && endB at0) = false
  · rw [if_pos h1]
    exact .inr (.inr rfl)
  · rw [if_neg h1]
    cases hw : lk l x with
    | none =>
      rw [if_neg (by simp), if_pos h]
      exact .inl ⟨rfl, rfl⟩
    | some y =>
      rw [if_pos (by rfl)]
      exact .inr (.inl ⟨rfl, rfl⟩)
/-- Each that was seen may be, and counts until a time. -/
def SeenOk (l : List (Sg × Value)) : Prop := ∀ q ∈ l, mayN q.1.nm = true ∧ ∃ n : Int, q.2 = .int .u64 n ∧ endB n = true
theorem SeenOk.allT {l : List (Sg × Value)} (h : SeenOk l) : AllT l := fun q hq => by
  obtain ⟨_, n, e, _⟩ := h q hq
  exact ⟨n, e⟩
theorem seeL_ok {l : List (Sg × Value)} {a : SAct} (h : SeenOk l) (hn : (l.map (·.1)).Nodup) : SeenOk (seeL l a) ∧ ((seeL l a).map (·.1)).Nodup ∧ (seeL l a).length ≤ l.length + 1 := by
  unfold seeL
  by_cases h0 : seeE l 100 a.s a.at0 = 0
  · rw [if_pos h0]
    obtain ⟨h1, h2, h3⟩ := seeE_zero h0
    refine ⟨fun q hq => ?_, up_nodup hn _ _, ?_⟩
    · rw [up_new (lk_eq_none h3 hn)] at hq
      rcases List.mem_append.1 hq with hq | hq
      · exact h q hq
      · rw [List.mem_singleton] at hq
        subst hq
        exact ⟨h1, _, rfl, h2⟩
    · rw [up_len, h3]
      exact Nat.le_refl _
  · rw [if_neg h0]
    exact ⟨h, hn, Nat.le_succ _⟩
theorem seenL_ok (acts : List SAct) : SeenOk (seenL acts) ∧ ((seenL acts).map (·.1)).Nodup ∧ (seenL acts).length ≤ acts.length := by
  suffices h : ∀ (acts : List SAct) (l : List (Sg × Value)), SeenOk l → (l.map (·.1)).Nodup → SeenOk (acts.foldl seeL l) ∧ ((acts.foldl seeL l).map (·.1)).Nodup ∧ (acts.foldl seeL l).length ≤ l.length + acts.length by
    have := h acts [] (fun q hq => by cases hq) (by simp)
    simpa [seenL] using this
  intro acts
  induction acts with
  | nil => exact fun l h1 h2 => ⟨h1, h2, Nat.le_refl _⟩
  | cons a r ih =>
    intro l h1 h2
    obtain ⟨k1, k2, k3⟩ := seeL_ok (a := a) h1 h2
    obtain ⟨j1, j2, j3⟩ := ih _ k1 k2
    refine ⟨j1, j2, Nat.le_trans j3 ?_⟩
    simp only [List.length_cons]
    omega
/-- Each that is seen came in some call. -/
theorem seenL_from (acts : List SAct) (q : Sg) (v : Value) (h : lk (seenL acts) q = some v) : ∃ i, i < acts.length ∧ (atS acts i).s = q := by
  suffices hs : ∀ (acts : List SAct) (l : List (Sg × Value)), lk (acts.foldl seeL l) q = some v → lk l q = some v ∨ ∃ i, i < acts.length ∧ (atS acts i).s = q by
    rcases hs acts [] h with h | h
    · cases h
    · exact h
  intro acts
  induction acts with
  | nil => exact fun l h => .inl h
  | cons a r ih =>
    intro l h
    rcases ih _ h with h1 | ⟨i, hi, e⟩
    · unfold seeL at h1
      split at h1
      · rw [lk_up] at h1
        by_cases e : q = a.s
        · exact .inr ⟨0, by simp, e.symm⟩
        · rw [if_neg e] at h1
          exact .inl h1
      · exact .inl h1
    · exact .inr ⟨i + 1, by simpa using hi, e⟩

/-- The second table, as far as it was filled from behind. -/
def OthK (l lo : List (Sg × Value)) (acts : List SAct) (k : Nat) : Prop := (∀ q v, lk lo q = some v → lk l q = some v) ∧ (∀ i, k ≤ i → i < acts.length → ∀ v, lk l (atS acts i).s = some v → lk lo (atS acts i).s = some v) ∧ AllT lo ∧ (lo.map (·.1)).Nodup ∧ lo.length + k ≤ acts.length
theorem othK_start (l : List (Sg × Value)) (acts : List SAct) : OthK l [] acts acts.length :=
  ⟨fun q v h => (by cases h), fun i h1 h2 => (by omega), fun q h => (by cases h), by simp, by simp⟩
theorem othK_skip {l lo : List (Sg × Value)} {acts : List SAct} {k : Nat} (h : OthK l lo acts (k + 1)) (hn : lk l (atS acts k).s = none) : OthK l lo acts k := by
  obtain ⟨h1, h2, h3, h4, h5⟩ := h
  refine ⟨h1, fun i hi hl v hv => ?_, h3, h4, by omega⟩
  rcases Nat.lt_or_ge k i with h | h
  · exact h2 i h hl v hv
  · obtain rfl : i = k := by omega
    rw [hn] at hv
    cases hv
theorem othK_step {l lo : List (Sg × Value)} {acts : List SAct} {k : Nat} {n : Int} (h : OthK l lo acts (k + 1)) (hv : lk l (atS acts k).s = some (.int .u64 n)) (h0 : seeE lo 100 (atS acts k).s n = 0 ∨ (lk lo (atS acts k).s).isSome = true) : OthK l (if seeE lo 100 (atS acts k).s n = 0 then up lo (atS acts k).s (.int .u64 n) else lo) acts k := by
  obtain ⟨h1, h2, h3, h4, h5⟩ := h
  by_cases hz : seeE lo 100 (atS acts k).s n = 0
  · rw [if_pos hz]
    have hno := (seeE_zero hz).2.2
    refine ⟨fun q v hq => ?_, fun i hi hl v hq => ?_, ?_, up_nodup h4 _ _, ?_⟩
    · rw [lk_up] at hq
      by_cases e : q = (atS acts k).s
      · rw [if_pos e] at hq
        injection hq with hq
        rw [e, ← hq]
        exact hv
      · rw [if_neg e] at hq
        exact h1 q v hq
    · rw [lk_up]
      by_cases e : (atS acts i).s = (atS acts k).s
      · rw [if_pos e]
        rw [e, hv] at hq
        exact hq
      · rw [if_neg e]
        rcases Nat.lt_or_ge k i with h | h
        · exact h2 i h hl v hq
        · obtain rfl : i = k := by omega
          exact absurd rfl e
    · rw [up_new (lk_eq_none hno h4)]
      intro q hq
      rcases List.mem_append.1 hq with hq | hq
      · exact h3 q hq
      · rw [List.mem_singleton] at hq
        subst hq
        exact ⟨_, rfl⟩
    · rw [up_len, hno]
      simp only [Option.isSome_none, Bool.false_eq_true, if_false]
      omega
  · rw [if_neg hz]
    have hs : (lk lo (atS acts k).s).isSome = true := by
      rcases h0 with h0 | h0
      · exact absurd h0 hz
      · exact h0
    refine ⟨h1, fun i hi hl v hq => ?_, h3, h4, by omega⟩
    rcases Nat.lt_or_ge k i with h | h
    · exact h2 i h hl v hq
    · obtain rfl : i = k := by omega
      obtain ⟨u, hu⟩ := Option.isSome_iff_exists.1 hs
      have := h1 _ _ hu
      rw [hq] at this
      rw [hu, ← this]
theorem othK_end {l lo : List (Sg × Value)} {acts : List SAct} (h : OthK l lo acts 0) (hl : l = seenL acts) (q : Sg) : lk l q = lk lo q := by
  obtain ⟨h1, h2, _⟩ := h
  cases hv : lk l q with
  | some v =>
    obtain ⟨i, hi, e⟩ := seenL_from acts q v (by rw [← hl]; exact hv)
    have := h2 i (Nat.zero_le _) hi v (by rw [e]; exact hv)
    rw [e] at this
    exact this.symm
  | none =>
    cases hw : lk lo q with
    | none => rfl
    | some w =>
      rw [h1 q w hw] at hv
      cases hv
/-- What is asked of the second table is answered so. -/
theorem oth_see {l lo : List (Sg × Value)} {acts : List SAct} {k : Nat} {n : Int} (h : OthK l lo acts (k + 1)) (hok : SeenOk l) (hv : lk l (atS acts k).s = some (.int .u64 n)) (hk : acts.length ≤ 40) : seeE lo 100 (atS acts k).s n = 0 ∨ (lk lo (atS acts k).s).isSome = true := by
  obtain ⟨h1, m, e, h2⟩ := hok _ (lk_mem hv)
  simp only at h1 e
  injection e with _ e
  subst e
  rcases seeE_cases lo 100 (atS acts k).s n (by have := h.2.2.2.2; omega) with h | h | h
  · exact .inl h.1
  · exact .inr h.2
  · unfold seeE at h
    rw [h1, h2] at h
    simp only [Bool.and_self, Bool.true_eq_false, if_false] at h
    split at h
    · cases h
    · split at h
      · cases h
      · cases h

/-- What is left of what is fresh, as far as it was gone over. -/
def FreshK (l lf : List (Sg × Value)) (acts : List SAct) (at0 : Int) (i gone : Nat) : Prop := (∀ q v, lk lf q = some v → lk l q = some v) ∧ (∀ q v, lk l q = some v → at0 < tI v → lk lf q = some v) ∧ (∀ j, j < i → ∀ v, lk lf (atS acts j).s = some v → at0 < tI v) ∧ (lf.map (·.1)).Nodup ∧ lf.length + gone = l.length
theorem freshK_start (l : List (Sg × Value)) (acts : List SAct) (at0 : Int) (hn : (l.map (·.1)).Nodup) : FreshK l l acts at0 0 0 := ⟨fun q v h => h, fun q v h _ => h, fun j h => (by omega), hn, rfl⟩
theorem freshK_skip {l lf : List (Sg × Value)} {acts : List SAct} {at0 : Int} {i gone : Nat} (h : FreshK l lf acts at0 i gone) (hs : ∀ v, lk lf (atS acts i).s = some v → at0 < tI v) : FreshK l lf acts at0 (i + 1) gone := by
  obtain ⟨h1, h2, h3, h4, h5⟩ := h
  refine ⟨h1, h2, fun j hj v hv => ?_, h4, h5⟩
  rcases Nat.lt_or_ge j i with h | h
  · exact h3 j h v hv
  · obtain rfl : j = i := by omega
    exact hs v hv
theorem dl_len {l : List (Sg × Value)} (hn : (l.map (·.1)).Nodup) {k : Sg} {v : Value} (h : lk l k = some v) : (dl l k).length + 1 = l.length := by
  obtain ⟨j, hj⟩ := List.getElem?_of_mem (lk_mem h)
  rw [dl_at hn hj, List.length_eraseIdx, if_pos (List.getElem?_eq_some_iff.1 hj).1]
  have := (List.getElem?_eq_some_iff.1 hj).1
  omega
theorem freshK_drop {l lf : List (Sg × Value)} {acts : List SAct} {at0 : Int} {i gone : Nat} {v : Value} (h : FreshK l lf acts at0 i gone) (hv : lk lf (atS acts i).s = some v) (hs : ¬ at0 < tI v) : FreshK l (dl lf (atS acts i).s) acts at0 (i + 1) (gone + 1) := by
  obtain ⟨h1, h2, h3, h4, h5⟩ := h
  refine ⟨fun q u hq => ?_, fun q u hq ht => ?_, fun j hj u hu => ?_, dl_nodup h4 _, ?_⟩
  · rw [lk_dl] at hq
    by_cases e : q = (atS acts i).s
    · rw [if_pos e] at hq
      cases hq
    · rw [if_neg e] at hq
      exact h1 q u hq
  · rw [lk_dl]
    by_cases e : q = (atS acts i).s
    · rw [e, h1 _ _ hv] at hq
      injection hq with hq
      rw [hq] at hs
      exact absurd ht hs
    · rw [if_neg e]
      exact h2 q u hq ht
  · rw [lk_dl] at hu
    by_cases e : (atS acts j).s = (atS acts i).s
    · rw [if_pos e] at hu
      cases hu
    · rw [if_neg e] at hu
      rcases Nat.lt_or_ge j i with h | h
      · exact h3 j h u hu
      · obtain rfl : j = i := by omega
        exact absurd rfl e
  · have := dl_len h4 hv
    omega
theorem pruned_lk {l : List (Sg × Value)} (hn : (l.map (·.1)).Nodup) (at0 : Int) (q : Sg) (v : Value) : lk (pruned l at0) q = some v ↔ lk l q = some v ∧ at0 < tI v := by
  have hn2 : ((pruned l at0).map (·.1)).Nodup := (List.filter_sublist.map _).nodup hn
  constructor
  · intro h
    have hm := List.mem_filter.1 (lk_mem h)
    exact ⟨lk_of_mem hn hm.1, of_decide_eq_true hm.2⟩
  · rintro ⟨h1, h2⟩
    exact lk_of_mem hn2 (List.mem_filter.2 ⟨lk_mem h1, decide_eq_true h2⟩)
theorem freshK_end {l lf : List (Sg × Value)} {acts : List SAct} {at0 : Int} {gone : Nat} (h : FreshK l lf acts at0 acts.length gone) (hl : l = seenL acts) (hn : (l.map (·.1)).Nodup) : (pruned l at0).length + gone = l.length := by
  obtain ⟨h1, h2, h3, h4, h5⟩ := h
  have he : lf.length = (pruned l at0).length := keys_perm h4 ((List.filter_sublist.map _).nodup hn) fun k => by
    constructor
    · intro hk
      cases hw : lk (pruned l at0) k with
      | none => rfl
      | some v =>
        obtain ⟨a, b⟩ := (pruned_lk hn at0 k v).1 hw
        rw [h2 k v a b] at hk
        cases hk
    · intro hk
      cases hw : lk lf k with
      | none => rfl
      | some v =>
        have a := h1 k v hw
        obtain ⟨i, hi, e⟩ := seenL_from acts k v (by rw [← hl]; exact a)
        have b := h3 i hi v (by rw [e]; exact hw)
        rw [(pruned_lk hn at0 k v).2 ⟨a, b⟩] at hk
        cases hk
  omega

end Go.Proofs.Ytdnjoohicbdmiaa
