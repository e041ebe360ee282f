/- A region that draws its order: as Free, where of each value something is told that stays so while what lies stays as it lies. -/
import Derived.Test.YtdnjoohicbdmiaaFree
namespace Go.Proofs.Ytdnjoohicbdmiaa
open Go Go.RowKit Go.Shelf
set_option linter.unusedSimpArgs false
set_option linter.unusedVariables false

section
variable {P : Program} {ops : Array Oper} {Q : Exit → Act → World → Prop} {md : Region.Mode} {T : Nat}

/-- Slots laid one behind another. -/
def laidV (s : Nat → Nat) (vals : Nat → Value) : Nat → Array Value → Array Value
  | 0, t => t
  | i + 1, t => (laidV s vals i t).setIfInBounds (s i) (vals i)

theorem laidV_size {s : Nat → Nat} {vals : Nat → Value} : ∀ (n : Nat) (t : Array Value), (laidV s vals n t).size = t.size
  | 0, t => rfl
  | n + 1, t => by rw [laidV, Array.size_setIfInBounds, laidV_size n t]

theorem laidV_at {s : Nat → Nat} {vals : Nat → Value} (t : Array Value) : ∀ (n i : Nat), i < n → (∀ a b, a < n → b < n → s a = s b → a = b) → s i < t.size → (laidV s vals n t)[s i]? = some (vals i)
  | 0, i, h, _, _ => absurd h (Nat.not_lt_zero _)
  | n + 1, i, h, hinj, hs => by
    rw [laidV]
    by_cases e : i = n
    · subst e
      rw [Array.getElem?_setIfInBounds_self_of_lt (by rw [laidV_size]; exact hs)]
    · rw [Array.getElem?_setIfInBounds_ne (fun h' => e (hinj i n (by omega) (by omega) h'.symm))]
      exact laidV_at t n i (by omega) (fun a b ha hb => hinj a b (by omega) (by omega)) hs

theorem laidV_other {s : Nat → Nat} {vals : Nat → Value} (t : Array Value) (j : Nat) : ∀ (n : Nat), (∀ i, i < n → s i ≠ j) → (laidV s vals n t)[j]? = t[j]?
  | 0, _ => rfl
  | n + 1, h => by
    rw [laidV, Array.getElem?_setIfInBounds_ne (h n (by omega))]
    exact laidV_other t j n fun i hi => h i (by omega)

def updV (vals : Nat → Value) (i : Nat) (u : Value) : Nat → Value := fun k => if k = i then u else vals k

/-- What holds on the way. -/
structure FreeInv3 (md : Region.Mode) (ops : Array Oper) (T : Nat) (s : Nat → Nat) (V : Nat → Value → World → Prop) (T0 : Array Value) (D0 : List _) (w0 : World) (listed : Array Bool) (a : Act) (w : World) (vals : Nat → Value) : Prop where
  size : listed.size = ops.size
  late : ∀ i, T ≤ i → ¬ Lst listed i
  closed : ClosedB md ops listed
  defers : a.defers = D0
  tsize : a.tmps.size = T0.size
  rest : ∀ j, (∀ i, i < T → Lst listed i → s i ≠ j) → a.tmps[j]? = T0[j]?
  at' : ∀ i, i < T → Lst listed i → a.tmps[s i]? = some (vals i)
  good : ∀ i, i < T → Lst listed i → V i (vals i) w
  bel : Below w0.heap.size w0 w

theorem free_go3 {s : Nat → Nat} {V : Nat → Value → World → Prop} {T0 : Array Value} {D0 : List _} {w0 : World} {r : Nat}
    (hT : T ≤ ops.size) (hinj : ∀ i j, i < T → j < T → s i = s j → i = j) (hs : ∀ i, i < T → s i < T0.size)
    (hdep : ∀ k j, k < T → depB md ops k j = true → j < k)
    (hlate : ∀ i j, T ≤ i → i < ops.size → j < T → markB md ops ops.size (depB md ops i) j = true)
    (hmono : ∀ (i : Nat) (u : Value) (w w' : World), i < T → V i u w → Below w.heap.size w w' → V i u w')
    (hstep : ∀ (i : Nat) (a : Act) (w : World) (K : Act → World → Prop), i < T → Below w0.heap.size w0 w → a.defers = D0 → a.tmps.size = T0.size →
      (∀ j, (∀ k, k < T → s k ≠ j) → a.tmps[j]? = T0[j]?) → (∀ j, depB md ops i j = true → ∃ u, a.tmps[s j]? = some u ∧ V j u w) →
      (∀ (u : Value) (w' : World), Below w.heap.size w w' → V i u w' → K (a.put (some (s i)) u) w') → wpOp P ops Q i K a w)
    (hfin : ∀ (w : World) (vals : Nat → Value) (listed : Array Bool), listed.size = ops.size → (∀ i, i < T → Lst listed i) → (∀ i, T ≤ i → ¬ Lst listed i) → Below w0.heap.size w0 w →
      (∀ i, i < T → V i (vals i) w) → wpAny P md ops Q r listed { tmps := laidV s vals T T0, defers := D0 } w) :
    ∀ (m : Nat) (listed : Array Bool) (a : Act) (w : World) (vals : Nat → Value), leftN listed T = m → FreeInv3 md ops T s V T0 D0 w0 listed a w vals → wpAny P md ops Q (m + r) listed a w := by
  intro m
  induction m with
  | zero =>
    intro listed a w vals hm I
    have hall := leftN_zero hm
    rw [Nat.zero_add]
    have ha : a = { tmps := laidV s vals T T0, defers := D0 } := by
      obtain ⟨tm, df⟩ := a
      have e1 := I.defers
      have e2 : tm = laidV s vals T T0 := by
        apply Array.ext_getElem?
        intro j
        by_cases hj : ∃ i, i < T ∧ s i = j
        · obtain ⟨i, hi, rfl⟩ := hj
          rw [laidV_at T0 T i hi (fun a b ha hb => hinj a b ha hb) (hs i hi)]
          exact I.at' i hi (hall i hi)
        · have hj' : ∀ i, i < T → s i ≠ j := fun i hi e => hj ⟨i, hi, e⟩
          rw [laidV_other T0 j T hj']
          exact I.rest j fun i hi _ => hj' i hi
      dsimp only at e1
      rw [e1, e2]
    rw [ha]
    exact hfin w vals listed I.size hall I.late I.bel fun i hi => I.good i hi (hall i hi)
  | succ m ih =>
    intro listed a w vals hm I
    rw [Nat.succ_add]
    refine ⟨fun hr => ?_, fun i hi => ?_⟩
    · exfalso
      obtain ⟨i, hiT, hni, hlt⟩ := leftN_some (n := T) (listed := listed) (by omega)
      have : i ∈ Region.ready md ops listed := by
        rw [mem_ready]
        have hio : i < ops.size := by omega
        have hil : i < listed.size := by rw [I.size]; exact hio
        refine ⟨?_, ops[i], Array.getElem?_eq_getElem hio, fun e he hb => ?_⟩
        · have h1 : ¬ listed.getD i false = true := hni
          simp only [Array.getD_eq_getD_getElem?, Array.getElem?_eq_getElem hil, Option.getD_some] at h1 ⊢
          simpa using h1
        · have hd : depB md ops i e.on = true := by
            unfold depB
            rw [Array.getElem?_eq_getElem hio]
            simp only [Array.any_eq_true, Bool.and_eq_true, beq_iff_eq]
            obtain ⟨k, hk, hke⟩ := Array.mem_iff_getElem.1 he
            exact ⟨k, hk, by rw [hke]; exact hb, by rw [hke]⟩
          exact hlt e.on (hdep i e.on hiT hd)
      rw [hr] at this
      cases this
    · have hni : ¬ Lst listed i := by
        have h0 := (mem_ready.1 hi).1
        intro h
        have h' : listed.getD i false = true := h
        by_cases hil : i < listed.size
        · simp only [Array.getD_eq_getD_getElem?, Array.getElem?_eq_getElem hil, Option.getD_some] at h0 h'
          rw [h0] at h'
          cases h'
        · simp [Array.getElem?_eq_none (Nat.not_lt.1 hil)] at h'
      have hio : i < ops.size := by
        obtain ⟨_, o, ho, _⟩ := mem_ready.1 hi
        exact (Array.getElem?_eq_some_iff.1 ho).1
      by_cases hiT : i < T
      · refine hstep i a w _ hiT I.bel I.defers I.tsize (fun j hj => I.rest j fun k hk _ => hj k hk) (fun j hd => by
          have hj : j < T := by have := hdep i j hiT hd; omega
          have hl := depB_listed hi hd
          exact ⟨_, I.at' j hj hl, I.good j hj hl⟩) ?_
        intro u w' hb hz
        have hil : i < listed.size := by rw [I.size]; exact hio
        have hlen := leftN_set (listed := listed) hil hni T
        rw [if_pos hiT] at hlen
        have lst : ∀ k, Lst (listed.setIfInBounds i true) k ↔ (k = i ∨ Lst listed k) := fun k => by
          unfold Lst
          by_cases e : k = i
          · subst e
            simp [hil]
          · rw [getD_set_ne false (Ne.symm e)]
            simp [e]
        have hβi : updV vals i u i = u := by simp [updV]
        have hβo : ∀ k, k ≠ i → updV vals i u k = vals k := fun k hk => by simp [updV, hk]
        refine ih _ _ _ (updV vals i u) (by omega) ⟨by rw [Array.size_setIfInBounds]; exact I.size, fun k hk hl => ?_, fun k j hk hd => ?_, I.defers, by simp only [Act.put, Array.size_setIfInBounds]; exact I.tsize, fun j hj => ?_, fun k hk hl => ?_, fun k hk hl => ?_, I.bel.trans (hb.mono I.bel.size)⟩
        · rcases (lst k).1 hl with e | h
          · omega
          · exact I.late k hk h
        · refine (lst j).2 (.inr ?_)
          rcases (lst k).1 hk with e | h
          · subst e
            exact depB_listed hi hd
          · exact I.closed k j h hd
        · have hne : s i ≠ j := hj i hiT ((lst i).2 (.inl rfl))
          simp only [Act.put]
          rw [Array.getElem?_setIfInBounds_ne hne]
          exact I.rest j fun k hk hl => hj k hk ((lst k).2 (.inr hl))
        · simp only [Act.put]
          by_cases e : k = i
          · subst e
            rw [hβi, Array.getElem?_setIfInBounds_self_of_lt (by rw [I.tsize]; exact hs k hk)]
          · have hl' := ((lst k).1 hl).resolve_left e
            rw [hβo k e, Array.getElem?_setIfInBounds_ne (fun h' => e (hinj i k hiT hk h').symm)]
            exact I.at' k hk hl'
        · by_cases e : k = i
          · subst e
            rw [hβi]
            exact hz
          · rw [hβo k e]
            exact hmono k _ w w' hk (I.good k hk (((lst k).1 hl).resolve_left e)) hb
      · exfalso
        have hall : ∀ j, j < T → Lst listed j := fun j hj => markB_sound I.closed ops.size _ (fun k hk => depB_listed hi hk) j (hlate i j (by omega) hio hj)
        have : leftN listed T = 0 := by
          have : ∀ n, n ≤ T → leftN listed n = 0 := by
            intro n
            induction n with
            | zero => intro _; rfl
            | succ n ih2 =>
              intro hn
              rw [leftN, ih2 (by omega), if_pos (show listed.getD n false = true from hall n (by omega))]
          exact this T (Nat.le_refl _)
        omega

/-- The region, whole. -/
theorem wp_region_free3 {id : Nat} {a : Act} {w : World} (T : Nat) (s : Nat → Nat) (V : Nat → Value → World → Prop) (hm : P.follows .mixedOrders = true)
    (hT : T ≤ ops.size) (hinj : ∀ i j, i < T → j < T → s i = s j → i = j) (hs : ∀ i, i < T → s i < a.tmps.size)
    (hdep : ∀ k j, k < T → depB .any ops k j = true → j < k)
    (hlate : ∀ i j, T ≤ i → i < ops.size → j < T → markB .any ops ops.size (depB .any ops i) j = true)
    (hmono : ∀ (i : Nat) (u : Value) (w w' : World), i < T → V i u w → Below w.heap.size w w' → V i u w')
    (hstep : ∀ (i : Nat) (tm : Array Value) (v : World) (K : Act → World → Prop), i < T → Below w.heap.size w v → tm.size = a.tmps.size →
      (∀ j, (∀ k, k < T → s k ≠ j) → tm[j]? = a.tmps[j]?) → (∀ j, depB .any ops i j = true → ∃ u, tm[s j]? = some u ∧ V j u v) →
      (∀ (u : Value) (w' : World), Below v.heap.size v w' → V i u w' → K (Act.put { tmps := tm, defers := a.defers } (some (s i)) u) w') → wpOp P ops Q i K { tmps := tm, defers := a.defers } v)
    (hfin : ∀ (v : World) (vals : Nat → Value) (listed : Array Bool), listed.size = ops.size → (∀ i, i < T → Lst listed i) → (∀ i, T ≤ i → ¬ Lst listed i) → Below w.heap.size w v →
      (∀ i, i < T → V i (vals i) v) → wpAny P .any ops Q (ops.size - T) listed { tmps := laidV s vals T a.tmps, defers := a.defers } v) : (Code.region id ops true).wp P Q a w := by
  refine wp_region_any hm ?_
  have hl : ∀ i, ¬ Lst (Array.replicate ops.size false) i := fun i h => by
    have h' : (Array.replicate ops.size false).getD i false = true := h
    by_cases hi : i < ops.size
    · simp [hi] at h'
    · simp [hi] at h'
  have hN : ∀ n, leftN (Array.replicate ops.size false) n = n := by
    intro n
    induction n with
    | zero => rfl
    | succ n ih => rw [leftN, ih, if_neg (show ¬ (Array.replicate ops.size false).getD n false = true from hl n)]
  have h := free_go3 (P := P) (Q := Q) (md := .any) (ops := ops) (T := T) (s := s) (V := V) (T0 := a.tmps) (D0 := a.defers) (w0 := w) (r := ops.size - T) hT hinj hs hdep hlate hmono
    (fun i a' v K hi hb hd hz hr hv hk => by
      obtain ⟨tm, df⟩ := a'
      dsimp only at hd hz hr hv
      subst hd
      exact hstep i tm v K hi hb hz hr hv hk) hfin T (Array.replicate ops.size false) a { w with drawn := w.drawn + 1 } (fun _ => undef) (hN T)
    ⟨by simp, fun i _ => hl i, fun k j hk => absurd hk (hl k), rfl, rfl, fun _ _ => rfl, fun i _ h => absurd h (hl i), fun i _ h => absurd h (hl i), ⟨rfl, rfl, rfl, Nat.le_refl _, fun _ _ => rfl⟩⟩
  have e : T + (ops.size - T) = ops.size := by omega
  rw [e] at h
  exact h

end

theorem wpAny_next {P : Program} {md : Region.Mode} {ops : Array Oper} {Q : Exit → Act → World → Prop} {fuel : Nat} {listed : Array Bool} {a : Act} {w : World} {i : Nat} {o : Oper} (hr : Region.ready md ops listed = [i]) (ho : ops[i]? = some o)
    (h : ∀ K' : Act → World → Prop, (∀ a w, wpAny P md ops Q fuel (listed.setIfInBounds i true) a w → K' a w) → if Region.wanted o (yielded ops a.tmps) = true then Oper.wp P o a w K' Q else K' (a.put o.dst undef) w) : wpAny P md ops Q (fuel + 1) listed a w :=
  wpAny_ready hr (by simp) (AllReady.cons ho h AllReady.nil)

end Go.Proofs.Ytdnjoohicbdmiaa
