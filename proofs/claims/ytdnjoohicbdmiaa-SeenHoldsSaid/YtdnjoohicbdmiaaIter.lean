/- A range over an iterator that may itself range over another one: its promise, the statement. -/
import Derived.Test.YtdnjoohicbdmiaaRange
namespace Go.Proofs.Ytdnjoohicbdmiaa
open Go.RowKit Go.Shelf

variable {P : Program}

/-- The blocks of which S speaks, and those that were laid from n0 on. -/
def SinceB (S : Nat → Prop) (n0 : Nat) (W : World) (b : Nat) : Prop := S b ∨ (n0 ≤ b ∧ b < W.heap.size)

/-- WHAT AN ITERATOR PROMISES, that may lay blocks of its own and turn them: a round keeps them. -/
def GoesO (P : Program) (g : FuncId) (lb : Array Value) (enc : Nat → Array Value) (S : Nat → Prop) (N : Nat) (w : World) : Prop :=
  ∀ (l : Nat) (J Jx : Nat → World → Prop) (W : World), Below w.heap.size w W → OwnFrom W.heap.size J → OwnFrom W.heap.size Jx →
    (∀ k W1, k < N → J k W1 → W.heap.size ≤ W1.heap.size → YieldAt Fence.wide 9 P l (enc k) W1 fun e W' => (e = .returned (.bool true) ∧ J (k + 1) W' ∧ W1.heap.size ≤ W'.heap.size ∧ KeepB (SinceB S W.heap.size W1) W1 W') ∨ (e = .returned (.bool false) ∧ Jx k W' ∧ W1.heap.size ≤ W'.heap.size ∧ KeepB (SinceB S W.heap.size W1) W1 W')) →
    J 0 W → Calls P g (#[.func (.yield l) #[] #[]] ++ lb) W fun e W' => (∃ v, e = .returned v) ∧ (J N W' ∨ ∃ k, k < N ∧ Jx k W')

/-- How round k's body may be left. -/
def roundEndsO (B : Nat) (S : Nat → Prop) (I : Nat → World → Prop) (Ix : Code → Nat → World → Prop) (k : Nat) (W : World) : Exit → Act → World → Prop
  | .normal, _, W' => KeepsFrom B W W' ∧ KeepB (SinceB S (B + 2) W) W W' ∧ I (k + 1) W'
  | .ret, _, W' => (KeepsFrom B W W' ∧ KeepB (SinceB S (B + 2) W) W W') ∧ Ix .ret k W'
  | .exit id, _, W' => (KeepsFrom B W W' ∧ KeepB (SinceB S (B + 2) W) W W') ∧ Ix (.exit id) k W'
  | .goto t, _, W' => (KeepsFrom B W W' ∧ KeepB (SinceB S (B + 2) W) W W') ∧ Ix (.goto t) k W'
  | .panic _, _, _ => False
  | .outgrown, _, _ => False

/-- A round keeps its word at whatever depth, in whatever round. -/
theorem roundIn_any {n m l l' : Nat} {f : FuncId} {tmps : Array Value} {assign body : Code} {w : World} {R : Ending → World → Prop} (h : RoundIn Fence.wide n P l f tmps assign body w R) : RoundIn (Fence.wide.inRound l') m P l f tmps assign body w R :=
  ⟨h.1, fun c cs _ => h.2 c cs (fun d hd => by cases hd)⟩

set_option maxHeartbeats 1000000 in
/-- THE STATEMENT 'for .. := range g { .. }' OVER SUCH AN ITERATOR; the iterator may range over another one. -/
theorem wp_rangeGoesO {g : Operand} {ps : Array Tmp} {assign body : Code} {Q : Exit → Act → World → Prop} {a : Act} {w : World} {gf : Nat} {lb : Array Value}
    (hg : a.eval g = .func (.func gf) #[] lb) (eg : ∀ args w, (callFunc gf args).run P w = .ok (.enter gf args) w)
    {enc : Nat → Array Value} {S : Nat → Prop} {N : Nat} (hseq : GoesO P gf lb enc S N w) (hS : ∀ b, S b → b < w.heap.size) (hps : ∀ k, (enc k).size = ps.size)
    (I : Nat → World → Prop) (Ix : Code → Nat → World → Prop) (hI : OwnFrom w.heap.size I) (hIx : ∀ c, OwnFrom w.heap.size (Ix c)) (h0 : I 0 w)
    (Ax : Nat → Act → World → Prop) (hAx : ∀ k a', OwnFrom w.heap.size (fun (_ : Unit) W => Ax k a' W))
    (hassign : ∀ (l k : Nat) (W : World) (K : Act → World → Prop), k < N → I k W → (∀ a' W', KeepsFrom w.heap.size W W' → KeepB (SinceB S (w.heap.size + 2) W) W W' → I k W' → Ax k a' W' → K a' W') →
      assign.wpIn (Fence.wide.inRound l) 9 P (Exit.then K (fun _ _ _ => False)) { tmps := (ps.zip (enc k)).foldl (fun t (p, v) => t.setIfInBounds p v) a.tmps, defers := [] } W)
    (hbody : ∀ (l k : Nat) (a' : Act) (W : World), k < N → w.heap.size ≤ l → (∃ r, W.heap[l]? = some (.loop r)) → I k W → Ax k a' W → body.wpIn (Fence.wide.inRound l) 9 P (roundEndsO w.heap.size S I Ix k W) a' W)
    (hdone : ∀ (D : Nat) (W : World), w.heap.size ≤ D → I N W → W.heap[D]? = some (.deferred (some [])) → Q .normal { a with defers := { target := .collected D, args := #[] } :: a.defers } W)
    (hstop : ∀ (D : Nat) (c : Code) (k : Nat) (W : World), w.heap.size ≤ D → k < N → Ix c k W → W.heap[D]? = some (.deferred (some [])) → c.wp P Q { a with defers := { target := .collected D, args := #[] } :: a.defers } W) :
    (Code.rangeFunc g ps assign body).wp P Q a w := by
  refine (wpIn_wide (n := 11)).1 (wpIn_rangeFunc fun fn hfn => ?_)
  let rec0 : LoopState → Option Code → Loop := fun st pe => { state := st, pending := pe, fn, tmps := a.tmps, params := ps, assign, body, defers := w.heap.size }
  obtain ⟨W1, hW1⟩ : ∃ W1, (w.alloc (.deferred (some []))).alloc (.loop (rec0 .ready none)) = W1 := ⟨_, rfl⟩
  have hb1 : Below w.heap.size w W1 := by rw [← hW1]; exact ((Below.refl _ w).alloc (Nat.le_refl _) _).alloc (by simp) _
  have hsz : W1.heap.size = w.heap.size + 2 := by rw [← hW1]; simp
  have hL1 : W1.heap[w.heap.size + 1]? = some (.loop (rec0 .ready none)) := by
    rw [← hW1]
    have := World.alloc_heap_new (w.alloc (.deferred (some []))) (.loop (rec0 .ready none))
    rwa [World.size_alloc] at this
  have hD1 : W1.heap[w.heap.size]? = some (.deferred (some [])) := by
    rw [← hW1]
    exact (Below.heap_alloc _ _ _ (by simp)).trans (World.alloc_heap_new w _)
  have hI1 : I 0 W1 := by rw [← hW1]; exact hI.alloc _ (hI.alloc _ h0)
  refine ⟨w.heap.size + 1, [{ target := .collected w.heap.size, args := #[] }], W1, { target := .fn (.func gf) lb, args := #[.func (.yield (w.heap.size + 1)) #[] #[]] }, W1, gf,
    #[.func (.yield (w.heap.size + 1)) #[] #[]] ++ lb, W1, ?_, ?_, fun _ _ => trivial, ?_, fun h => by simp [Fence.wide] at h, ?_⟩
  · rw [← hW1]
    exact run_enterLoop_outer _ _ _ _ _
  · simp only [resolve, hg]
    simp [go_sem]
  · simp [invoke, go_sem, eg]
  have keepL : ∀ {A A' : World} {row : Option Nat} {st : LoopState} {pe : Option Code}, A.grownBy A' row → (∀ r, row = some r → W1.heap.size ≤ r ∧ ∃ o : Obj, A.heap[r]? = some o ∧ o.isCells = false) →
      A.heap[w.heap.size + 1]? = some (.loop (rec0 st pe)) → A.heap[w.heap.size]? = some (.deferred (some [])) →
      A'.heap[w.heap.size + 1]? = some (.loop (rec0 st pe)) ∧ A'.heap[w.heap.size]? = some (.deferred (some [])) := fun hg' hr h1 h2 =>
    ⟨(hg'.block _ (Array.getElem?_eq_some_iff.1 h1).1 (fun e => by have := (hr _ e.symm).1; omega)).trans h1, (hg'.block _ (Array.getElem?_eq_some_iff.1 h2).1 (fun e => by have := (hr _ e.symm).1; omega)).trans h2⟩
  refine (callsIn_wide.2 (hseq (w.heap.size + 1)
    (fun k W => I k W ∧ W.heap[w.heap.size + 1]? = some (.loop (rec0 .ready none)) ∧ W.heap[w.heap.size]? = some (.deferred (some [])))
    (fun k W => ∃ c, Ix c k W ∧ W.heap[w.heap.size + 1]? = some (.loop (rec0 .done (some c))) ∧ W.heap[w.heap.size]? = some (.deferred (some [])))
    W1 hb1 (fun s A A' row hs hg' hr => ⟨hI s A A' row hs.1 hg' (fun r e => ⟨by have := (hr r e).1; omega, (hr r e).2⟩), keepL hg' hr hs.2.1 hs.2.2⟩)
    (fun s A A' row hs hg' hr => by
      obtain ⟨c, hc, h1, h2⟩ := hs
      exact ⟨c, hIx c s A A' row hc hg' (fun r e => ⟨by have := (hr r e).1; omega, (hr r e).2⟩), keepL hg' hr h1 h2⟩) ?_ ⟨hI1, hL1, hD1⟩)).mono ?_
  · rintro k W hk ⟨hi, hl, hd⟩ hszW
    refine ⟨fn, _, assign, body, run_yield (P := P) (args := enc k) hl (hps k), roundIn_of_wpIn (n := 9) hfn (hassign _ k W _ hk hi ?_)⟩
    intro a' Wa hka hba hia hax
    have hla := hka.same _ _ (by omega) hl rfl
    have hda := hka.same _ _ (Nat.le_refl _) hd rfl
    have hlt : w.heap.size + 1 < Wa.heap.size := (Array.getElem?_eq_some_iff.1 hla).1
    refine ⟨_, run_beginRound hla rfl, ?_⟩
    have hl2 : (Wa.putObj (w.heap.size + 1) (.loop { rec0 .ready none with state := .busy })).heap[w.heap.size + 1]? = some (.loop { rec0 .ready none with state := .busy }) := World.putObj_heap_same hlt
    have hd2 : (Wa.putObj (w.heap.size + 1) (.loop { rec0 .ready none with state := .busy })).heap[w.heap.size]? = some (.deferred (some [])) := (World.putObj_heap_other (by omega)).trans hda
    refine wpIn_mono (hbody _ k a' _ hk (by omega) ⟨_, hl2⟩ (hI.putObj _ hia (by omega) hla rfl) ((hAx k a').putObj (s := ()) _ hax (by omega) hla rfl)) ?_
    have put : ∀ (X A : World) (o : Obj), KeepB (SinceB S (w.heap.size + 2) X) A (A.putObj (w.heap.size + 1) o) := fun X A o b hb => World.putObj_heap_other (hb.elim (fun hb => by have := hS b hb; omega) (fun hb => by have := hb.1; omega))
    have szp : ∀ (A : World) (o : Obj), (A.putObj (w.heap.size + 1) o).heap.size = A.heap.size := fun A o => by simp [World.putObj]
    have fin : ∀ (jump : Option Code) (W3 : World), KeepsFrom w.heap.size (Wa.putObj (w.heap.size + 1) (.loop { rec0 .ready none with state := .busy })) W3 →
        (Instr.endRound (w.heap.size + 1) jump).run P W3 = .ok (.bool jump.isNone) (W3.putObj (w.heap.size + 1) (.loop (rec0 (if jump.isNone then .ready else .done) jump))) ∧
        W3.heap[w.heap.size + 1]? = some (.loop { rec0 .ready none with state := .busy }) ∧
        (W3.putObj (w.heap.size + 1) (.loop (rec0 (if jump.isNone then .ready else .done) jump))).heap[w.heap.size + 1]? = some (.loop (rec0 (if jump.isNone then .ready else .done) jump)) ∧
        (W3.putObj (w.heap.size + 1) (.loop (rec0 (if jump.isNone then .ready else .done) jump))).heap[w.heap.size]? = some (.deferred (some [])) := fun jump W3 hk3 => by
      have hl3 := hk3.same _ _ (by omega) hl2 rfl
      exact ⟨run_endRound (P := P) jump hl3, hl3, World.putObj_heap_same (Array.getElem?_eq_some_iff.1 hl3).1, (World.putObj_heap_other (by omega)).trans (hk3.same _ _ (Nat.le_refl _) hd2 rfl)⟩
    have keepS : ∀ {W3 : World} {o3 : Obj}, KeepsFrom w.heap.size (Wa.putObj (w.heap.size + 1) (.loop { rec0 .ready none with state := .busy })) W3 → KeepB (SinceB S (w.heap.size + 2) (Wa.putObj (w.heap.size + 1) (.loop { rec0 .ready none with state := .busy }))) (Wa.putObj (w.heap.size + 1) (.loop { rec0 .ready none with state := .busy })) W3 →
        W.heap.size ≤ (W3.putObj (w.heap.size + 1) o3).heap.size ∧ KeepB (SinceB S W1.heap.size W) W (W3.putObj (w.heap.size + 1) o3) := fun {W3 o3} hk3 hb3 =>
      ⟨by rw [szp]; have h1 := hka.size; have h2 := hk3.size; rw [szp] at h2; omega, by rw [hsz]; exact ((hba.trans (put _ _ _)).trans (fun b hb => hb3 b (by rcases hb with hb | hb; exact .inl hb; exact .inr ⟨hb.1, by rw [szp]; have := hka.size; omega⟩))).trans (put _ _ _)⟩
    rintro e a3 W3 hp
    cases e with
    | normal =>
      obtain ⟨hk3, hb3, hi3⟩ := hp
      obtain ⟨hr, hl3, hl4, hd4⟩ := fin none W3 hk3
      exact ⟨_, _, hr, .inl ⟨rfl, ⟨hI.putObj _ hi3 (by omega) hl3 rfl, hl4, hd4⟩, (keepS hk3 hb3).1, (keepS hk3 hb3).2⟩⟩
    | ret =>
      obtain ⟨hr, hl3, hl4, hd4⟩ := fin (some .ret) W3 hp.1.1
      exact ⟨_, _, hr, .inr ⟨rfl, ⟨.ret, (hIx _).putObj _ hp.2 (by omega) hl3 rfl, hl4, hd4⟩, (keepS hp.1.1 hp.1.2).1, (keepS hp.1.1 hp.1.2).2⟩⟩
    | exit id =>
      obtain ⟨hr, hl3, hl4, hd4⟩ := fin (some (.exit id)) W3 hp.1.1
      exact ⟨_, _, hr, .inr ⟨rfl, ⟨.exit id, (hIx _).putObj _ hp.2 (by omega) hl3 rfl, hl4, hd4⟩, (keepS hp.1.1 hp.1.2).1, (keepS hp.1.1 hp.1.2).2⟩⟩
    | goto t =>
      obtain ⟨hr, hl3, hl4, hd4⟩ := fin (some (.goto t)) W3 hp.1.1
      exact ⟨_, _, hr, .inr ⟨rfl, ⟨.goto t, (hIx _).putObj _ hp.2 (by omega) hl3 rfl, hl4, hd4⟩, (keepS hp.1.1 hp.1.2).1, (keepS hp.1.1 hp.1.2).2⟩⟩
    | panic ch => exact hp.elim
    | outgrown => exact hp.elim
  · rintro e W2 ⟨⟨v, rfl⟩, ⟨hi, hl, hd⟩ | ⟨k, hk, c, hi, hl, hd⟩⟩
    · exact ⟨none, _, run_endLoop (P := P) hl (by simp [rec0]), hdone _ _ (Nat.le_refl _) (hI.putObj _ hi (by omega) hl rfl) ((World.putObj_heap_other (by omega)).trans hd)⟩
    · exact ⟨some c, _, run_endLoop (P := P) hl (by simp [rec0]), wpIn_wide.2 (hstop _ c k _ (Nat.le_refl _) hk ((hIx c).putObj _ hi (by omega) hl rfl) ((World.putObj_heap_other (by omega)).trans hd))⟩

/-- The same, where the assignment to the loop's variables lays no block: the frame behind it is known. -/
theorem wp_rangeGoesO_plain {g : Operand} {ps : Array Tmp} {assign body : Code} {Q : Exit → Act → World → Prop} {a : Act} {w : World} {gf : Nat} {lb : Array Value}
    (hg : a.eval g = .func (.func gf) #[] lb) (eg : ∀ args w, (callFunc gf args).run P w = .ok (.enter gf args) w)
    {enc : Nat → Array Value} {S : Nat → Prop} {N : Nat} (hseq : GoesO P gf lb enc S N w) (hS : ∀ b, S b → b < w.heap.size) (hps : ∀ k, (enc k).size = ps.size)
    (I : Nat → World → Prop) (Ix : Code → Nat → World → Prop) (hI : OwnFrom w.heap.size I) (hIx : ∀ c, OwnFrom w.heap.size (Ix c)) (h0 : I 0 w) (F : Nat → Act)
    (hassign : ∀ (l k : Nat) (W : World) (K : Act → World → Prop), K (F k) W →
      assign.wpIn (Fence.wide.inRound l) 9 P (Exit.then K (fun _ _ _ => False)) { tmps := (ps.zip (enc k)).foldl (fun t (p, v) => t.setIfInBounds p v) a.tmps, defers := [] } W)
    (hbody : ∀ (l k : Nat) (W : World), k < N → w.heap.size ≤ l → (∃ r, W.heap[l]? = some (.loop r)) → I k W → body.wpIn (Fence.wide.inRound l) 9 P (roundEndsO w.heap.size S I Ix k W) (F k) W)
    (hdone : ∀ (D : Nat) (W : World), w.heap.size ≤ D → I N W → W.heap[D]? = some (.deferred (some [])) → Q .normal { a with defers := { target := .collected D, args := #[] } :: a.defers } W)
    (hstop : ∀ (D : Nat) (c : Code) (k : Nat) (W : World), w.heap.size ≤ D → k < N → Ix c k W → W.heap[D]? = some (.deferred (some [])) → c.wp P Q { a with defers := { target := .collected D, args := #[] } :: a.defers } W) :
    (Code.rangeFunc g ps assign body).wp P Q a w :=
  wp_rangeGoesO hg eg hseq hS hps I Ix hI hIx h0 (fun k a' _ => a' = F k) (fun _ _ _ _ _ _ h _ _ => h)
    (fun l k W K _ hi hK => hassign l k W K (hK _ _ (KeepsFrom.refl _ _) (fun _ _ => rfl) hi rfl))
    (fun l k a' W hk hl hr hi e => by subst e; exact hbody l k W hk hl hr hi) hdone hstop

/-- The same, where one value comes a round, and one variable takes it. -/
theorem wp_rangeGoesO_at {g : Operand} {p : Tmp} {assign body : Code} {Q : Exit → Act → World → Prop} {a : Act} {w : World} {gf : Nat} {lb : Array Value} (q : Tmp) (val : Nat → Value)
    (hg : a.eval g = .func (.func gf) #[] lb) (eg : ∀ args w, (callFunc gf args).run P w = .ok (.enter gf args) w)
    {S : Nat → Prop} {N : Nat} (hseq : GoesO P gf lb (fun k => #[val k]) S N w) (hS : ∀ b, S b → b < w.heap.size)
    (I : Nat → World → Prop) (Ix : Code → Nat → World → Prop) (hI : OwnFrom w.heap.size I) (hIx : ∀ c, OwnFrom w.heap.size (Ix c)) (h0 : I 0 w)
    (hassign : ∀ (l k : Nat) (W : World) (K : Act → World → Prop), K { tmps := (a.tmps.setIfInBounds p (val k)).setIfInBounds q (val k), defers := [] } W →
      assign.wpIn (Fence.wide.inRound l) 9 P (Exit.then K (fun _ _ _ => False)) { tmps := a.tmps.setIfInBounds p (val k), defers := [] } W)
    (hbody : ∀ (l k : Nat) (W : World), k < N → w.heap.size ≤ l → (∃ r, W.heap[l]? = some (.loop r)) → I k W → body.wpIn (Fence.wide.inRound l) 9 P (roundEndsO w.heap.size S I Ix k W) { tmps := (a.tmps.setIfInBounds p (val k)).setIfInBounds q (val k), defers := [] } W)
    (hdone : ∀ (D : Nat) (W : World), w.heap.size ≤ D → I N W → W.heap[D]? = some (.deferred (some [])) → Q .normal { a with defers := { target := .collected D, args := #[] } :: a.defers } W)
    (hstop : ∀ (D : Nat) (c : Code) (k : Nat) (W : World), w.heap.size ≤ D → k < N → Ix c k W → W.heap[D]? = some (.deferred (some [])) → c.wp P Q { a with defers := { target := .collected D, args := #[] } :: a.defers } W) :
    (Code.rangeFunc g #[p] assign body).wp P Q a w :=
  wp_rangeGoesO_plain hg eg hseq hS (fun _ => rfl) I Ix hI hIx h0 (fun k => { tmps := (a.tmps.setIfInBounds p (val k)).setIfInBounds q (val k), defers := [] }) (fun l k W K hK => by
    have h := hassign l k W K hK
    simpa using h) hbody hdone hstop

/-- The same, where a round may break off, by one way: what holds behind both. -/
theorem wp_rangeGoesO_brk {g : Operand} {p : Tmp} {assign body : Code} {Q : Exit → Act → World → Prop} {a : Act} {w : World} {gf : Nat} {lb : Array Value} (q : Tmp) (val : Nat → Value)
    (hg : a.eval g = .func (.func gf) #[] lb) (eg : ∀ args w, (callFunc gf args).run P w = .ok (.enter gf args) w)
    {S : Nat → Prop} {N : Nat} (hseq : GoesO P gf lb (fun k => #[val k]) S N w) (hS : ∀ b, S b → b < w.heap.size)
    (I : Nat → World → Prop) (R : World → Prop) (id : Nat) (hI : OwnFrom w.heap.size I) (hR : OwnFrom w.heap.size (fun (_ : Unit) X => R X)) (h0 : I 0 w)
    (hassign : ∀ (l k : Nat) (W : World) (K : Act → World → Prop), K { tmps := (a.tmps.setIfInBounds p (val k)).setIfInBounds q (val k), defers := [] } W →
      assign.wpIn (Fence.wide.inRound l) 9 P (Exit.then K (fun _ _ _ => False)) { tmps := a.tmps.setIfInBounds p (val k), defers := [] } W)
    (hbody : ∀ (l k : Nat) (W : World), k < N → w.heap.size ≤ l → (∃ r, W.heap[l]? = some (.loop r)) → I k W → body.wpIn (Fence.wide.inRound l) 9 P (roundEndsO w.heap.size S I (fun c _ X => c = .exit id ∧ R X) k W) { tmps := (a.tmps.setIfInBounds p (val k)).setIfInBounds q (val k), defers := [] } W)
    (hIR : ∀ X, I N X → R X) (hQ : ∀ a X, Q .normal a X → (Code.exit id).wp P Q a X)
    (hafter : ∀ (D : Nat) (W : World), w.heap.size ≤ D → R W → W.heap[D]? = some (.deferred (some [])) → Q .normal { a with defers := { target := .collected D, args := #[] } :: a.defers } W) :
    (Code.rangeFunc g #[p] assign body).wp P Q a w :=
  wp_rangeGoesO_at q val hg eg hseq hS I (fun c _ X => c = .exit id ∧ R X) hI (fun c => OwnFrom.and (ownFrom_pure _ (fun _ => c = .exit id)) (fun _ X Y row hs hg hr => hR () X Y row hs hg hr)) h0 hassign hbody
    (fun D W hD hi hd => hafter D W hD (hIR W hi) hd) (fun D c k W hD _ hx hd => by
      obtain ⟨rfl, hr⟩ := hx
      exact hQ _ _ (hafter D W hD hr hd))

end Go.Proofs.Ytdnjoohicbdmiaa
