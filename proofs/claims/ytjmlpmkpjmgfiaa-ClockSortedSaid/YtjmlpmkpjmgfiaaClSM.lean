/- The mathematics of spans in order: insertion gives what the library's sort gives. -/
import Derived.Test.YtjmlpmkpjmgfiaaClSr
namespace Go.Proofs.Ytjmlpmkpjmgfiaa
open Go.RowKit Go.Shelf Go.Sort
set_option linter.unusedSimpArgs false
set_option linter.unusedVariables false

/-- Is x ahead of y? -/
def ahS (x y : Int × Int) : Bool := ltOf ordS x y

theorem ahS_eq (x y : Int × Int) : ahS x y = decide (x.1 < y.1 ∨ (x.1 = y.1 ∧ x.2 < y.2)) := ltS x y

/-- Where x is to be put, from place j down. -/
def insJ (x : Int × Int) (L : List (Int × Int)) : Nat → Nat
  | 0 => 0
  | j + 1 => if ahS x (fAt L j, uAt L j) then insJ x L j else j + 1

def insS (x : Int × Int) (L : List (Int × Int)) : List (Int × Int) := L.take (insJ x L L.length) ++ x :: L.drop (insJ x L L.length)

/-- Those of the first k that may be, in order. -/
def refS (ss : List (Int × Int)) (k : Nat) : List (Int × Int) := ((ss.take k).filter riS).foldl (fun L p => insS p L) []

theorem insJ_spec (x : Int × Int) (L : List (Int × Int)) : ∀ j, insJ x L j ≤ j ∧ (∀ t, insJ x L j ≤ t → t < j → ahS x (fAt L t, uAt L t) = true) ∧ (0 < insJ x L j → ahS x (fAt L (insJ x L j - 1), uAt L (insJ x L j - 1)) = false)
  | 0 => ⟨Nat.le_refl _, fun t _ h => absurd h (Nat.not_lt_zero _), fun h => absurd h (Nat.lt_irrefl _)⟩
  | j + 1 => by
    cases h : ahS x (fAt L j, uAt L j)
    · have e : insJ x L (j + 1) = j + 1 := by simp [insJ, h]
      rw [e]
      exact ⟨Nat.le_refl _, fun t h1 h2 => absurd h2 (by omega), fun _ => h⟩
    · have e : insJ x L (j + 1) = insJ x L j := by simp [insJ, h]
      rw [e]
      obtain ⟨h1, h2, h3⟩ := insJ_spec x L j
      refine ⟨by omega, fun t ht ht2 => ?_, h3⟩
      by_cases e2 : t = j
      · subst e2; exact h
      · exact h2 t ht (by omega)

theorem insS_perm (x : Int × Int) (L : List (Int × Int)) : (insS x L).Perm (x :: L) := by
  unfold insS
  refine List.perm_middle.trans ?_
  rw [List.take_append_drop]

theorem insS_length (x : Int × Int) (L : List (Int × Int)) : (insS x L).length = L.length + 1 := (insS_perm x L).length_eq

/-- x is not behind y. -/
def leS (x y : Int × Int) : Bool := !(ltOf ordS) y x

theorem leS_iff (x y : Int × Int) : leS x y = true ↔ (x.1 < y.1 ∨ (x.1 = y.1 ∧ x.2 ≤ y.2)) := by
  unfold leS
  rw [ltS]
  simp
  omega

theorem leS_anti (x y : Int × Int) (h1 : leS x y = true) (h2 : leS y x = true) : x = y := by
  rw [leS_iff] at *
  apply Prod.ext <;> omega

theorem leS_trans (x y z : Int × Int) (h1 : leS x y = true) (h2 : leS y z = true) : leS x z = true := by
  rw [leS_iff] at *
  omega

theorem leS_of_ahS {x y : Int × Int} (h : ahS x y = true) : leS x y = true := by
  rw [leS_iff]
  rw [ahS_eq] at h
  simp at h
  omega

theorem leS_of_not {x y : Int × Int} (h : ahS x y = false) : leS y x = true := by
  rw [leS_iff]
  rw [ahS_eq] at h
  simp at h
  omega

theorem at_get (L : List (Int × Int)) (t : Nat) (ht : t < L.length) : (fAt L t, uAt L t) = L[t] := by
  simp [fAt, uAt, List.getElem?_eq_getElem ht]

theorem insS_sorted (x : Int × Int) (L : List (Int × Int)) (h : L.Pairwise fun a b => leS a b = true) : (insS x L).Pairwise fun a b => leS a b = true := by
  obtain ⟨h1, h2, h3⟩ := insJ_spec x L L.length
  unfold insS
  generalize insJ x L L.length = j at h1 h2 h3
  have hL : (L.take j ++ L.drop j).Pairwise fun a b => leS a b = true := by rw [List.take_append_drop]; exact h
  obtain ⟨p1, p2, p3⟩ := List.pairwise_append.1 hL
  have hd : ∀ b ∈ L.drop j, leS x b = true := fun b hb => by
    obtain ⟨t, ht, rfl⟩ := List.getElem_of_mem hb
    rw [List.length_drop] at ht
    rw [List.getElem_drop, ← at_get L (j + t) (by omega)]
    exact leS_of_ahS (h2 (j + t) (by omega) (by omega))
  have ha : ∀ a ∈ L.take j, leS a x = true := fun a ha => by
    obtain ⟨t, ht, rfl⟩ := List.getElem_of_mem ha
    rw [List.length_take] at ht
    have hj : 0 < j := by omega
    have hl : leS (fAt L (j - 1), uAt L (j - 1)) x = true := leS_of_not (h3 hj)
    rw [at_get L (j - 1) (by omega)] at hl
    rw [List.getElem_take]
    by_cases e : t = j - 1
    · subst e; exact hl
    · exact leS_trans _ _ _ (List.pairwise_iff_getElem.1 h t (j - 1) (by omega) (by omega) (by omega)) hl
  refine List.pairwise_append.2 ⟨p1, List.pairwise_cons.2 ⟨hd, p2⟩, fun a haa b hb => ?_⟩
  rcases List.mem_cons.1 hb with rfl | hb
  · exact ha a haa
  · exact p3 a haa b hb

theorem foldl_ins : ∀ (l : List (Int × Int)) (L : List (Int × Int)), (L.Pairwise fun a b => leS a b = true) → (l.foldl (fun L p => insS p L) L).Perm (l ++ L) ∧ (l.foldl (fun L p => insS p L) L).Pairwise fun a b => leS a b = true
  | [], L, h => ⟨List.Perm.refl _, h⟩
  | p :: l, L, h => by
    obtain ⟨h1, h2⟩ := foldl_ins l (insS p L) (insS_sorted p L h)
    refine ⟨?_, h2⟩
    refine h1.trans ?_
    refine ((insS_perm p L).append_left l).trans ?_
    exact List.perm_middle

theorem refS_eq (ss : List (Int × Int)) : refS ss ss.length = sortS (ss.filter riS) := by
  unfold refS sortS
  rw [List.take_length]
  obtain ⟨h1, h2⟩ := foldl_ins (ss.filter riS) [] List.Pairwise.nil
  rw [List.append_nil] at h1
  have hp : ((ss.filter riS).mergeSort fun x y => !(ltOf ordS) y x).Pairwise fun a b => leS a b = true :=
    List.pairwise_mergeSort (le := leS) leS_trans (fun a b => by
      cases h : leS a b
      · have : leS b a = true := by
          rw [leS_iff]
          have : ¬ (leS a b = true) := by rw [h]; simp
          rw [leS_iff] at this
          omega
        simp [this]
      · rfl) _
  exact List.Perm.eq_of_pairwise (fun a b _ _ => leS_anti a b) h2 hp (h1.trans (List.mergeSort_perm _ _).symm)

theorem refS_succ (ss : List (Int × Int)) (k : Nat) (hk : k < ss.length) : refS ss (k + 1) = if rightT (fAt ss k) (uAt ss k) then insS (fAt ss k, uAt ss k) (refS ss k) else refS ss k := by
  unfold refS
  rw [take_snoc _ _ hk, List.filter_append, List.foldl_append]
  cases h : rightT (fAt ss k) (uAt ss k) <;> simp [riS, h]

theorem refS_le (ss : List (Int × Int)) (k : Nat) (hk : k ≤ ss.length) : (refS ss k).length ≤ k := by
  obtain ⟨h1, _⟩ := foldl_ins ((ss.take k).filter riS) [] List.Pairwise.nil
  have h2 := h1.length_eq
  have h3 := List.length_filter_le riS (ss.take k)
  rw [List.length_take] at h3
  unfold refS
  rw [h2]
  simp
  omega

set_option maxHeartbeats 1000000 in
theorem ahead_any (f u g v : Int) (w : World) :
    Calls Try.prog 14 #[.agg #[.int .u64 f, .int .u64 u], .agg #[.int .u64 g, .int .u64 v]] w fun e w' => e = .returned (.bool (ahS (f, u) (g, v))) ∧ w' = (w.alloc (.cells #[.int .u64 f, .int .u64 u] 30)).alloc (.cells #[.int .u64 g, .int .u64 v] 30) := by
  rw [ahS_eq]
  by_cases h1 : f < g
  · go_enter Try.func14, Try.ntmps14
    go_wp2
    go_ret
    exact ⟨by simp [h1], rfl⟩
  · by_cases h2 : f = g
    · subst h2
      by_cases h3 : u < v
      · go_enter Try.func14, Try.ntmps14
        go_wp2
        go_ret
        exact ⟨by simp [h3], rfl⟩
      · go_enter Try.func14, Try.ntmps14
        go_wp2
        go_ret
        exact ⟨by simp [h3], rfl⟩
    · go_enter Try.func14, Try.ntmps14
      go_wp2
      go_ret
      exact ⟨by simp [h1, h2], rfl⟩

end Go.Proofs.Ytjmlpmkpjmgfiaa
