/- A region that draws its order, whose first operations make memory and lay values in slots of their own: whatever the order, all is there in the end. -/
import Derived.Test.YtdnjoohicbdmiaaGen
import Derived.Orders
namespace Go.Proofs.Ytdnjoohicbdmiaa
open Go Go.RowKit Go.Shelf
set_option linter.unusedSimpArgs false
set_option linter.unusedVariables false

section
variable {P : Program} {ops : Array Oper} {Q : Exit → Act → World → Prop} {md : Region.Mode} {T : Nat}

/-- Operation k waits for number j. -/
def depB (md : Region.Mode) (ops : Array Oper) (k j : Nat) : Bool := match ops[k]? with
  | some o => o.after.any (fun e => Region.binds md e && e.on == j)
  | none => false
/-- What is waited for, by what is marked, from number k down. -/
def markB (md : Region.Mode) (ops : Array Oper) : Nat → (Nat → Bool) → (Nat → Bool)
  | 0, m => m
  | k + 1, m => markB md ops k (if m k then fun j => m j || depB md ops k j else m)

def Lst (listed : Array Bool) (i : Nat) : Prop := listed.getD i false = true
def ClosedB (md : Region.Mode) (ops : Array Oper) (listed : Array Bool) : Prop := ∀ k j, Lst listed k → depB md ops k j = true → Lst listed j

theorem markB_sound {listed : Array Bool} (hc : ClosedB md ops listed) : ∀ (k : Nat) (m : Nat → Bool), (∀ j, m j = true → Lst listed j) → ∀ j, markB md ops k m j = true → Lst listed j
  | 0, m, h, j, hj => h j hj
  | k + 1, m, h, j, hj => by
    refine markB_sound hc k _ (fun i hi => ?_) j hj
    by_cases hk : m k = true
    · rw [if_pos hk] at hi
      simp only [Bool.or_eq_true] at hi
      rcases hi with hi | hi
      · exact h i hi
      · exact hc k i (h k hk) hi
    · rw [if_neg hk] at hi
      exact h i hi

theorem depB_listed {i j : Nat} {listed : Array Bool} (hi : i ∈ Region.ready md ops listed) (h : depB md ops i j = true) : Lst listed j := by
  rw [mem_ready] at hi
  obtain ⟨_, o, ho, hall⟩ := hi
  unfold depB at h
  rw [ho] at h
  simp only [Array.any_eq_true, Bool.and_eq_true, beq_iff_eq] at h
  obtain ⟨k, hk, hb, he⟩ := h
  have := hall _ (Array.getElem_mem hk) hb
  rw [he] at this
  exact this

/-- Slots laid one behind another. -/
def laidS (s : Nat → Nat) (val : Nat → Nat → Value) (β : Nat → Nat) : Nat → Array Value → Array Value
  | 0, t => t
  | i + 1, t => (laidS s val β i t).setIfInBounds (s i) (val i (β i))

theorem laidS_size {s : Nat → Nat} {val : Nat → Nat → Value} {β : Nat → Nat} : ∀ (n : Nat) (t : Array Value), (laidS s val β n t).size = t.size
  | 0, t => rfl
  | n + 1, t => by rw [laidS, Array.size_setIfInBounds, laidS_size n t]

theorem laidS_at {s : Nat → Nat} {val : Nat → Nat → Value} {β : Nat → Nat} (t : Array Value) : ∀ (n i : Nat), i < n → (∀ a b, a < n → b < n → s a = s b → a = b) → s i < t.size → (laidS s val β n t)[s i]? = some (val i (β i))
  | 0, i, h, _, _ => absurd h (Nat.not_lt_zero _)
  | n + 1, i, h, hinj, hs => by
    rw [laidS]
    by_cases e : i = n
    · subst e
      rw [Array.getElem?_setIfInBounds_self_of_lt (by rw [laidS_size]; exact hs)]
    · rw [Array.getElem?_setIfInBounds_ne (fun h' => e (hinj i n (by omega) (by omega) h'.symm))]
      exact laidS_at t n i (by omega) (fun a b ha hb => hinj a b (by omega) (by omega)) hs

theorem laidS_other {s : Nat → Nat} {val : Nat → Nat → Value} {β : Nat → Nat} (t : Array Value) (j : Nat) : ∀ (n : Nat), (∀ i, i < n → s i ≠ j) → (laidS s val β n t)[j]? = t[j]?
  | 0, _ => rfl
  | n + 1, h => by
    rw [laidS, Array.getElem?_setIfInBounds_ne (h n (by omega))]
    exact laidS_other t j n fun i hi => h i (by omega)

/-- What holds on the way. -/
structure FreeInv (md : Region.Mode) (ops : Array Oper) (T : Nat) (s : Nat → Nat) (val : Nat → Nat → Value) (z : Nat → Option (List Value)) (T0 : Array Value) (D0 : List _) (w0 : World) (listed : Array Bool) (a : Act) (w : World) (β : Nat → Nat) : Prop where
  size : listed.size = ops.size
  late : ∀ i, T ≤ i → ¬ Lst listed i
  closed : ClosedB md ops listed
  defers : a.defers = D0
  tsize : a.tmps.size = T0.size
  rest : ∀ j, (∀ i, i < T → Lst listed i → s i ≠ j) → a.tmps[j]? = T0[j]?
  vals : ∀ i, i < T → Lst listed i → a.tmps[s i]? = some (val i (β i))
  rows : ∀ i zs, i < T → Lst listed i → z i = some zs → RowB w (β i) zs ∧ w0.heap.size ≤ β i ∧ β i < w.heap.size
  ne : ∀ i j, i < T → j < T → Lst listed i → Lst listed j → (z i).isSome = true → (z j).isSome = true → i ≠ j → β i ≠ β j
  bel : Below w0.heap.size w0 w

/-- How many of the first T are left. -/
def leftN (listed : Array Bool) : Nat → Nat
  | 0 => 0
  | n + 1 => leftN listed n + if listed.getD n false = true then 0 else 1

theorem leftN_zero {listed : Array Bool} : ∀ {n : Nat}, leftN listed n = 0 → ∀ i, i < n → Lst listed i
  | 0, _, i, hi => absurd hi (Nat.not_lt_zero _)
  | n + 1, h, i, hi => by
    rw [leftN] at h
    by_cases e : i = n
    · subst e
      by_cases hl : listed.getD i false = true
      · exact hl
      · rw [if_neg hl] at h
        omega
    · exact leftN_zero (n := n) (by omega) i (by omega)

theorem leftN_set {listed : Array Bool} {i : Nat} (hs : i < listed.size) (hi : ¬ Lst listed i) : ∀ n, leftN (listed.setIfInBounds i true) n + (if i < n then 1 else 0) = leftN listed n
  | 0 => by simp [leftN]
  | n + 1 => by
    have ih := leftN_set hs hi n
    simp only [leftN]
    by_cases e : i = n
    · subst e
      have h1 : (listed.setIfInBounds i true).getD i false = true := by simp [hs]
      have h2 : listed.getD i false ≠ true := hi
      simp only [h1, h2, if_true, if_false, Nat.lt_irrefl, Nat.lt_succ_self] at ih ⊢
      split <;> simp_all
    · have h1 := getD_set_ne (listed := listed) false e
      rw [h1]
      by_cases h : i < n
      · have h2 : i < n + 1 := Nat.lt_succ_of_lt h
        simp only [h, h2, if_true] at ih ⊢
        omega
      · have h2 : ¬ i < n + 1 := fun hh => by omega
        simp only [h, h2, if_false] at ih ⊢
        omega

theorem leftN_some {listed : Array Bool} : ∀ {n : Nat}, 0 < leftN listed n → ∃ i, i < n ∧ ¬ Lst listed i ∧ ∀ j, j < i → Lst listed j
  | 0, h => absurd h (by simp [leftN])
  | n + 1, h => by
    rcases Nat.eq_zero_or_pos (leftN listed n) with h0 | h0
    · rw [leftN, h0] at h
      refine ⟨n, Nat.lt_succ_self _, fun hl => ?_, leftN_zero h0⟩
      rw [if_pos (show listed.getD n false = true from hl)] at h
      omega
    · obtain ⟨i, hi, h1, h2⟩ := leftN_some h0
      exact ⟨i, by omega, h1, h2⟩

theorem wpOp_of {i : Nat} {o : Oper} {a : Act} {w : World} {K : Act → World → Prop} (ho : ops[i]? = some o) (hg : o.guard = none) (h : Oper.wp P o a w K Q) : wpOp P ops Q i K a w := by
  unfold wpOp
  rw [ho]
  simp only
  rw [if_pos (by simp [Region.wanted, hg])]
  exact .inl h

theorem free_go {s : Nat → Nat} {val : Nat → Nat → Value} {z : Nat → Option (List Value)} {T0 : Array Value} {D0 : List _} {w0 : World} {r : Nat}
    (hT : T ≤ ops.size) (hinj : ∀ i j, i < T → j < T → s i = s j → i = j) (hs : ∀ i, i < T → s i < T0.size)
    (hdep : ∀ k j, k < T → depB md ops k j = true → j < k)
    (hlate : ∀ i j, T ≤ i → i < ops.size → j < T → markB md ops ops.size (depB md ops i) j = true)
    (hstep : ∀ (i : Nat) (a : Act) (w : World) (β : Nat → Nat) (K : Act → World → Prop), i < T → Below w0.heap.size w0 w → a.defers = D0 → a.tmps.size = T0.size →
      (∀ j, (∀ k, k < T → s k ≠ j) → a.tmps[j]? = T0[j]?) → (∀ j, depB md ops i j = true → a.tmps[s j]? = some (val j (β j))) →
      (∀ (b : Nat) (w' : World), Below w.heap.size w w' → (∀ zs, z i = some zs → RowB w' b zs ∧ w.heap.size ≤ b ∧ b < w'.heap.size) → K (a.put (some (s i)) (val i b)) w') → wpOp P ops Q i K a w)
    (hfin : ∀ (w : World) (β : Nat → Nat) (listed : Array Bool), listed.size = ops.size → (∀ i, i < T → Lst listed i) → (∀ i, T ≤ i → ¬ Lst listed i) → Below w0.heap.size w0 w →
      (∀ i zs, i < T → z i = some zs → RowB w (β i) zs ∧ w0.heap.size ≤ β i ∧ β i < w.heap.size) → (∀ i j, i < T → j < T → (z i).isSome = true → (z j).isSome = true → i ≠ j → β i ≠ β j) →
      wpAny P md ops Q r listed { tmps := laidS s val β T T0, defers := D0 } w) :
    ∀ (m : Nat) (listed : Array Bool) (a : Act) (w : World) (β : Nat → Nat), leftN listed T = m → FreeInv md ops T s val z T0 D0 w0 listed a w β → wpAny P md ops Q (m + r) listed a w := by
  intro m
  induction m with
  | zero =>
    intro listed a w β hm I
    have hall := leftN_zero hm
    rw [Nat.zero_add]
    have ha : a = { tmps := laidS s val β T T0, defers := D0 } := by
      obtain ⟨tm, df⟩ := a
      have e1 := I.defers
      have e2 : tm = laidS s val β T T0 := by
        apply Array.ext_getElem?
        intro j
        by_cases hj : ∃ i, i < T ∧ s i = j
        · obtain ⟨i, hi, rfl⟩ := hj
          rw [laidS_at T0 T i hi (fun a b ha hb => hinj a b ha hb) (hs i hi)]
          exact I.vals i hi (hall i hi)
        · have hj' : ∀ i, i < T → s i ≠ j := fun i hi e => hj ⟨i, hi, e⟩
          rw [laidS_other T0 j T hj']
          exact I.rest j fun i hi _ => hj' i hi
      dsimp only at e1
      rw [e1, e2]
    rw [ha]
    exact hfin w β listed I.size hall I.late I.bel (fun i zs hi hz => I.rows i zs hi (hall i hi) hz) (fun i j hi hj hzi hzj hne => I.ne i j hi hj (hall i hi) (hall j hj) hzi hzj hne)
  | succ m ih =>
    intro listed a w β hm I
    rw [Nat.succ_add]
    refine ⟨fun hr => ?_, fun i hi => ?_⟩
    · exfalso
      obtain ⟨i, hiT, hni, hlt⟩ := leftN_some (n := T) (listed := listed) (by omega)
      have : i ∈ Region.ready md ops listed := by
        rw [mem_ready]
        have hio : i < ops.size := by omega
        have hil : i < listed.size := by rw [I.size]; exact hio
        refine ⟨?_, ops[i], Array.getElem?_eq_getElem hio, fun e he hb => ?_⟩
        · have h1 : ¬ listed.getD i false = true := hni
          simp only [Array.getD_eq_getD_getElem?, Array.getElem?_eq_getElem hil, Option.getD_some] at h1 ⊢
          simpa using h1
        · have hd : depB md ops i e.on = true := by
            unfold depB
            rw [Array.getElem?_eq_getElem hio]
            simp only [Array.any_eq_true, Bool.and_eq_true, beq_iff_eq]
            obtain ⟨k, hk, hke⟩ := Array.mem_iff_getElem.1 he
            exact ⟨k, hk, by rw [hke]; exact hb, by rw [hke]⟩
          exact hlt e.on (hdep i e.on hiT hd)
      rw [hr] at this
      cases this
    · have hni : ¬ Lst listed i := by
        have h0 := (mem_ready.1 hi).1
        intro h
        have h' : listed.getD i false = true := h
        by_cases hil : i < listed.size
        · simp only [Array.getD_eq_getD_getElem?, Array.getElem?_eq_getElem hil, Option.getD_some] at h0 h'
          rw [h0] at h'
          cases h'
        · simp [Array.getElem?_eq_none (Nat.not_lt.1 hil)] at h'
      have hio : i < ops.size := by
        obtain ⟨_, o, ho, _⟩ := mem_ready.1 hi
        exact (Array.getElem?_eq_some_iff.1 ho).1
      by_cases hiT : i < T
      · refine hstep i a w β _ hiT I.bel I.defers I.tsize (fun j hj => I.rest j fun k hk _ => hj k hk) (fun j hd => I.vals j (by have := hdep i j hiT hd; omega) (depB_listed hi hd)) ?_
        intro b w' hb hz
        have hil : i < listed.size := by rw [I.size]; exact hio
        have hlen := leftN_set (listed := listed) hil hni T
        rw [if_pos hiT] at hlen
        have lst : ∀ k, Lst (listed.setIfInBounds i true) k ↔ (k = i ∨ Lst listed k) := fun k => by
          unfold Lst
          by_cases e : k = i
          · subst e
            simp [hil]
          · rw [getD_set_ne false (Ne.symm e)]
            simp [e]
        obtain ⟨β', hβi, hβo⟩ : ∃ β' : Nat → Nat, β' i = b ∧ ∀ k, k ≠ i → β' k = β k := ⟨fun k => if k = i then b else β k, by simp, fun k hk => by simp [hk]⟩
        refine ih _ _ _ β' (by omega) ⟨by rw [Array.size_setIfInBounds]; exact I.size, fun k hk hl => ?_, fun k j hk hd => ?_, I.defers, by simp only [Act.put, Array.size_setIfInBounds]; exact I.tsize, fun j hj => ?_, fun k hk hl => ?_, fun k zs hk hl hzk => ?_, fun k j hk hj hlk hlj hzk hzj hne => ?_, I.bel.trans (hb.mono I.bel.size)⟩
        · rcases (lst k).1 hl with e | h
          · omega
          · exact I.late k hk h
        · refine (lst j).2 (.inr ?_)
          rcases (lst k).1 hk with e | h
          · subst e
            exact depB_listed hi hd
          · exact I.closed k j h hd
        · have hne : s i ≠ j := hj i hiT ((lst i).2 (.inl rfl))
          simp only [Act.put]
          rw [Array.getElem?_setIfInBounds_ne hne]
          exact I.rest j fun k hk hl => hj k hk ((lst k).2 (.inr hl))
        · simp only [Act.put]
          by_cases e : k = i
          · subst e
            rw [hβi, Array.getElem?_setIfInBounds_self_of_lt (by rw [I.tsize]; exact hs k hk)]
          · rw [hβo k e, Array.getElem?_setIfInBounds_ne (fun h' => e (hinj i k hiT hk h').symm)]
            exact I.vals k hk (((lst k).1 hl).resolve_left e)
        · by_cases e : k = i
          · subst e
            rw [hβi]
            obtain ⟨h1, h2, h3⟩ := hz zs hzk
            exact ⟨h1, Nat.le_trans I.bel.size h2, h3⟩
          · rw [hβo k e]
            obtain ⟨h1, h2, h3⟩ := I.rows k zs hk (((lst k).1 hl).resolve_left e) hzk
            exact ⟨h1.on hb h3, h2, Nat.lt_of_lt_of_le h3 hb.size⟩
        · have fresh : ∀ k, k < T → Lst listed k → (z k).isSome = true → β k < w.heap.size := fun k hk hl hz => by
            obtain ⟨zs, hzs⟩ := Option.isSome_iff_exists.1 hz
            exact (I.rows k zs hk hl hzs).2.2
          have newb : (z i).isSome = true → w.heap.size ≤ b := fun h => by
            obtain ⟨zs, hzs⟩ := Option.isSome_iff_exists.1 h
            exact (hz zs hzs).2.1
          by_cases ek : k = i
          · subst ek
            have ej : j ≠ k := Ne.symm hne
            rw [hβi, hβo j ej]
            have h1 := fresh j hj (((lst j).1 hlj).resolve_left ej) hzj
            have h2 := newb hzk
            omega
          · by_cases ej : j = i
            · subst ej
              rw [hβi, hβo k ek]
              have h1 := fresh k hk (((lst k).1 hlk).resolve_left ek) hzk
              have h2 := newb hzj
              omega
            · rw [hβo k ek, hβo j ej]
              exact I.ne k j hk hj (((lst k).1 hlk).resolve_left ek) (((lst j).1 hlj).resolve_left ej) hzk hzj hne
      · exfalso
        have hall : ∀ j, j < T → Lst listed j := fun j hj => markB_sound I.closed ops.size _ (fun k hk => depB_listed hi hk) j (hlate i j (by omega) hio hj)
        have : leftN listed T = 0 := by
          have : ∀ n, n ≤ T → leftN listed n = 0 := by
            intro n
            induction n with
            | zero => intro _; rfl
            | succ n ih2 =>
              intro hn
              rw [leftN, ih2 (by omega), if_pos (show listed.getD n false = true from hall n (by omega))]
          exact this T (Nat.le_refl _)
        omega

/-- What a program can look up of the edges. -/
theorem dep_ok {n : Nat} (h : ((List.range n).all fun k => match ops[k]? with | some o => o.after.all (fun e => decide (e.on < k)) | none => true) = true) : ∀ k j, k < n → depB md ops k j = true → j < k := by
  intro k j hk hd
  have h1 := List.all_eq_true.1 h k (List.mem_range.2 hk)
  unfold depB at hd
  cases ho : ops[k]? with
  | none => rw [ho] at hd; cases hd
  | some o =>
    rw [ho] at hd h1
    simp only [Array.any_eq_true, Bool.and_eq_true, beq_iff_eq] at hd
    obtain ⟨i, hi, _, he⟩ := hd
    have h2 := Array.all_eq_true.1 h1 i hi
    rw [he] at h2
    exact of_decide_eq_true h2

theorem late_ok {n : Nat} (h : ((List.range ops.size).all fun i => decide (i < n) || (List.range n).all fun j => markB md ops ops.size (depB md ops i) j) = true) : ∀ i j, n ≤ i → i < ops.size → j < n → markB md ops ops.size (depB md ops i) j = true := by
  intro i j hi hs hj
  have h1 := List.all_eq_true.1 h i (List.mem_range.2 hs)
  simp only [Bool.or_eq_true, decide_eq_true_eq] at h1
  rcases h1 with h1 | h1
  · omega
  · exact List.all_eq_true.1 h1 j (List.mem_range.2 hj)

theorem listed_eq {listed : Array Bool} {n : Nat} (hs : listed.size = n) (h1 : ∀ i, i < T → Lst listed i) (h2 : ∀ i, T ≤ i → ¬ Lst listed i) : listed = ((List.range n).map fun i => decide (i < T)).toArray := by
  apply Array.ext (by simp [hs])
  intro i hi hj
  have hl : listed.getD i false = listed[i] := by simp [hi]
  simp only [List.getElem_toArray, List.getElem_map, List.getElem_range]
  rw [← hl]
  by_cases h : i < T
  · rw [decide_eq_true h]
    exact h1 i h
  · rw [decide_eq_false h]
    have := h2 i (by omega)
    unfold Lst at this
    simpa using this

/-- The region, whole. -/
theorem wp_region_free {id : Nat} {a : Act} {w : World} (T : Nat) (s : Nat → Nat) (val : Nat → Nat → Value) (z : Nat → Option (List Value)) (hm : P.follows .mixedOrders = true)
    (hT : T ≤ ops.size) (hinj : ∀ i j, i < T → j < T → s i = s j → i = j) (hs : ∀ i, i < T → s i < a.tmps.size)
    (hdep : ∀ k j, k < T → depB .any ops k j = true → j < k)
    (hlate : ∀ i j, T ≤ i → i < ops.size → j < T → markB .any ops ops.size (depB .any ops i) j = true)
    (hstep : ∀ (i : Nat) (tm : Array Value) (v : World) (β : Nat → Nat) (K : Act → World → Prop), i < T → Below w.heap.size w v → tm.size = a.tmps.size →
      (∀ j, (∀ k, k < T → s k ≠ j) → tm[j]? = a.tmps[j]?) → (∀ j, depB .any ops i j = true → tm[s j]? = some (val j (β j))) →
      (∀ (b : Nat) (w' : World), Below v.heap.size v w' → (∀ zs, z i = some zs → RowB w' b zs ∧ v.heap.size ≤ b ∧ b < w'.heap.size) → K (Act.put { tmps := tm, defers := a.defers } (some (s i)) (val i b)) w') → wpOp P ops Q i K { tmps := tm, defers := a.defers } v)
    (hfin : ∀ (v : World) (β : Nat → Nat) (listed : Array Bool), listed.size = ops.size → (∀ i, i < T → Lst listed i) → (∀ i, T ≤ i → ¬ Lst listed i) → Below w.heap.size w v →
      (∀ i zs, i < T → z i = some zs → RowB v (β i) zs ∧ w.heap.size ≤ β i ∧ β i < v.heap.size) → (∀ i j, i < T → j < T → (z i).isSome = true → (z j).isSome = true → i ≠ j → β i ≠ β j) →
      wpAny P .any ops Q (ops.size - T) listed { tmps := laidS s val β T a.tmps, defers := a.defers } v) : (Code.region id ops true).wp P Q a w := by
  refine wp_region_any hm ?_
  have hl : ∀ i, ¬ Lst (Array.replicate ops.size false) i := fun i h => by
    have h' : (Array.replicate ops.size false).getD i false = true := h
    by_cases hi : i < ops.size
    · simp [hi] at h'
    · simp [hi] at h'
  have hN : ∀ n, leftN (Array.replicate ops.size false) n = n := by
    intro n
    induction n with
    | zero => rfl
    | succ n ih => rw [leftN, ih, if_neg (show ¬ (Array.replicate ops.size false).getD n false = true from hl n)]
  have h := free_go (P := P) (Q := Q) (md := .any) (ops := ops) (T := T) (s := s) (val := val) (z := z) (T0 := a.tmps) (D0 := a.defers) (w0 := w) (r := ops.size - T) hT hinj hs hdep hlate
    (fun i a' v β K hi hb hd hz hr hv hk => by
      obtain ⟨tm, df⟩ := a'
      dsimp only at hd hz hr hv
      subst hd
      exact hstep i tm v β K hi hb hz hr hv hk) hfin T (Array.replicate ops.size false) a { w with drawn := w.drawn + 1 } (fun _ => 0) (hN T)
    ⟨by simp, fun i _ => hl i, fun k j hk => absurd hk (hl k), rfl, rfl, fun _ _ => rfl, fun i _ h => absurd h (hl i), fun i _ _ h => absurd h (hl i), fun i j _ _ h => absurd h (hl i), ⟨rfl, rfl, rfl, Nat.le_refl _, fun _ _ => rfl⟩⟩
  have e : T + (ops.size - T) = ops.size := by omega
  rw [e] at h
  exact h

end

end Go.Proofs.Ytdnjoohicbdmiaa
