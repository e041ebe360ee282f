/- A range over an iterator whose order is not known ahead (a map's): it goes from state to state. -/
import Derived.Test.YthfndphngeaihaaDoorIterM
namespace Go.Proofs.YthfndphngeaihaaDoor
open Go.RowKit Go.Shelf

variable {P : Program}

def GoesR {σ : Type} (P : Program) (g : FuncId) (lb : Array Value) (R : σ → Array Value → σ → Prop) (F : σ → Prop) (S : Nat → Prop) (s0 : σ) (w : World) : Prop :=
  ∀ (l : Nat) (J Jx : σ → World → Prop) (M : World → Nat → Prop) (W : World), Below w.heap.size w W → OwnFrom W.heap.size J → OwnFrom W.heap.size Jx → OwnM W.heap.size M → (∀ k X, J k X → ∀ b, M X b → b < X.heap.size) →
    (∀ k v k' W1, R k v k' → J k W1 → W.heap.size ≤ W1.heap.size → YieldAt Fence.wide 9 P l v W1 fun e W' => (e = .returned (.bool true) ∧ J k' W' ∧ W1.heap.size ≤ W'.heap.size ∧ KeepM S W.heap.size M W1 W') ∨ (e = .returned (.bool false) ∧ Jx k W' ∧ W1.heap.size ≤ W'.heap.size ∧ KeepM S W.heap.size M W1 W')) →
    J s0 W → Calls P g (#[.func (.yield l) #[] #[]] ++ lb) W fun e W' => (∃ v, e = .returned v) ∧ ((∃ k, F k ∧ J k W') ∨ ∃ k, Jx k W')

theorem GoesM.toR {g : FuncId} {lb : Array Value} {enc : Nat → Array Value} {S : Nat → Prop} {N : Nat} {w : World} (h : GoesM P g lb enc S N w) : GoesR P g lb (fun k v k' => k < N ∧ v = enc k ∧ k' = k + 1) (fun k => k = N) S 0 w := fun l J Jx M W hW hJ hJx hM hJM hY h0 =>
  (h l J Jx M W hW hJ hJx hM hJM (fun k W1 hk hj hz => hY k _ _ W1 ⟨hk, rfl, rfl⟩ hj hz) h0).mono fun _ _ hr => ⟨hr.1, hr.2.imp (fun h => ⟨N, rfl, h⟩) (fun ⟨k, _, h⟩ => ⟨k, h⟩)⟩

/-- How a round's body may be left. -/
def roundEndsR {σ : Type} (B : Nat) (S : Nat → Prop) (M : World → Nat → Prop) (I : σ → World → Prop) (Ix : Code → σ → World → Prop) (k k' : σ) (W : World) : Exit → Act → World → Prop
  | .normal, _, W' => KeepsFrom B W W' ∧ KeepM S (B + 2) M W W' ∧ I k' W'
  | .ret, _, W' => (KeepsFrom B W W' ∧ KeepM S (B + 2) M W W') ∧ Ix .ret k W'
  | .exit id, _, W' => (KeepsFrom B W W' ∧ KeepM S (B + 2) M W W') ∧ Ix (.exit id) k W'
  | .goto t, _, W' => (KeepsFrom B W W' ∧ KeepM S (B + 2) M W W') ∧ Ix (.goto t) k W'
  | .panic _, _, _ => False
  | .outgrown, _, _ => False

set_option maxHeartbeats 1000000 in
/-- THE STATEMENT 'for .. := range g { .. }' OVER SUCH AN ITERATOR; the iterator may range over another one. -/
theorem wp_rangeGoesR {σ : Type} {g : Operand} {ps : Array Tmp} {assign body : Code} {Q : Exit → Act → World → Prop} {a : Act} {w : World} {gf : Nat} {lb : Array Value}
    (hg : a.eval g = .func (.func gf) #[] lb) (eg : ∀ args w, (callFunc gf args).run P w = .ok (.enter gf args) w)
    {R : σ → Array Value → σ → Prop} {F : σ → Prop} {S : Nat → Prop} {s0 : σ} (hseq : GoesR P gf lb R F S s0 w) (hS : ∀ b, S b → b < w.heap.size) (hps : ∀ s v s', R s v s' → v.size = ps.size)
    (M : World → Nat → Prop) (hM : OwnM w.heap.size M) (I : σ → World → Prop) (hIM : ∀ k X, I k X → ∀ b, M X b → b < X.heap.size) (Ix : Code → σ → World → Prop) (hI : OwnFrom w.heap.size I) (hIx : ∀ c, OwnFrom w.heap.size (Ix c)) (h0 : I s0 w)
    (Ax : σ → Array Value → σ → Act → World → Prop) (hAx : ∀ s v s' a', OwnFrom w.heap.size (fun (_ : Unit) W => Ax s v s' a' W))
    (hassign : ∀ (l : Nat) (k : σ) (v : Array Value) (k' : σ) (W : World) (K : Act → World → Prop), R k v k' → I k W → (∀ a' W', KeepsFrom w.heap.size W W' → KeepB (SinceM S (w.heap.size + 2) M W) W W' → (∀ b, M W' b → M W b) → I k W' → Ax k v k' a' W' → K a' W') →
      assign.wpIn (Fence.wide.inRound l) 9 P (Exit.then K (fun _ _ _ => False)) { tmps := (ps.zip v).foldl (fun t (p, v) => t.setIfInBounds p v) a.tmps, defers := [] } W)
    (hbody : ∀ (l : Nat) (k : σ) (v : Array Value) (k' : σ) (a' : Act) (W : World), R k v k' → w.heap.size ≤ l → (∃ r, W.heap[l]? = some (.loop r)) → I k W → Ax k v k' a' W → body.wpIn (Fence.wide.inRound l) 9 P (roundEndsR w.heap.size S M I Ix k k' W) a' W)
    (hdone : ∀ (D : Nat) (k : σ) (W : World), w.heap.size ≤ D → F k → I k W → W.heap[D]? = some (.deferred (some [])) → Q .normal { a with defers := { target := .collected D, args := #[] } :: a.defers } W)
    (hstop : ∀ (D : Nat) (c : Code) (k : σ) (W : World), w.heap.size ≤ D → Ix c k W → W.heap[D]? = some (.deferred (some [])) → c.wp P Q { a with defers := { target := .collected D, args := #[] } :: a.defers } W) :
    (Code.rangeFunc g ps assign body).wp P Q a w := by
  refine (wpIn_wide (n := 11)).1 (wpIn_rangeFunc fun fn hfn => ?_)
  let rec0 : LoopState → Option Code → Loop := fun st pe => { state := st, pending := pe, fn, tmps := a.tmps, params := ps, assign, body, defers := w.heap.size }
  obtain ⟨W1, hW1⟩ : ∃ W1, (w.alloc (.deferred (some []))).alloc (.loop (rec0 .ready none)) = W1 := ⟨_, rfl⟩
  have hb1 : Below w.heap.size w W1 := by rw [← hW1]; exact ((Below.refl _ w).alloc (Nat.le_refl _) _).alloc (by simp) _
  have hsz : W1.heap.size = w.heap.size + 2 := by rw [← hW1]; simp
  have hL1 : W1.heap[w.heap.size + 1]? = some (.loop (rec0 .ready none)) := by
    rw [← hW1]
    have := World.alloc_heap_new (w.alloc (.deferred (some []))) (.loop (rec0 .ready none))
    rwa [World.size_alloc] at this
  have hD1 : W1.heap[w.heap.size]? = some (.deferred (some [])) := by
    rw [← hW1]
    exact (Below.heap_alloc _ _ _ (by simp)).trans (World.alloc_heap_new w _)
  have hI1 : I s0 W1 := by rw [← hW1]; exact hI.alloc _ (hI.alloc _ h0)
  refine ⟨w.heap.size + 1, [{ target := .collected w.heap.size, args := #[] }], W1, { target := .fn (.func gf) lb, args := #[.func (.yield (w.heap.size + 1)) #[] #[]] }, W1, gf,
    #[.func (.yield (w.heap.size + 1)) #[] #[]] ++ lb, W1, ?_, ?_, fun _ _ => trivial, ?_, fun h => by simp [Fence.wide] at h, ?_⟩
  · rw [← hW1]
    exact run_enterLoop_outer _ _ _ _ _
  · simp only [resolve, hg]
    simp [go_sem]
  · simp [invoke, go_sem, eg]
  have keepL : ∀ {A A' : World} {row : Option Nat} {st : LoopState} {pe : Option Code}, A.grownBy A' row → (∀ r, row = some r → W1.heap.size ≤ r ∧ ∃ o : Obj, A.heap[r]? = some o ∧ o.isCells = false) →
      A.heap[w.heap.size + 1]? = some (.loop (rec0 st pe)) → A.heap[w.heap.size]? = some (.deferred (some [])) →
      A'.heap[w.heap.size + 1]? = some (.loop (rec0 st pe)) ∧ A'.heap[w.heap.size]? = some (.deferred (some [])) := fun hg' hr h1 h2 =>
    ⟨(hg'.block _ (Array.getElem?_eq_some_iff.1 h1).1 (fun e => by have := (hr _ e.symm).1; omega)).trans h1, (hg'.block _ (Array.getElem?_eq_some_iff.1 h2).1 (fun e => by have := (hr _ e.symm).1; omega)).trans h2⟩
  refine (callsIn_wide.2 (hseq (w.heap.size + 1)
    (fun k W => I k W ∧ W.heap[w.heap.size + 1]? = some (.loop (rec0 .ready none)) ∧ W.heap[w.heap.size]? = some (.deferred (some [])))
    (fun k W => ∃ c, Ix c k W ∧ W.heap[w.heap.size + 1]? = some (.loop (rec0 .done (some c))) ∧ W.heap[w.heap.size]? = some (.deferred (some [])))
    M W1 hb1 (fun s A A' row hs hg' hr => ⟨hI s A A' row hs.1 hg' (fun r e => ⟨by have := (hr r e).1; omega, (hr r e).2⟩), keepL hg' hr hs.2.1 hs.2.2⟩)
    (fun s A A' row hs hg' hr => by
      obtain ⟨c, hc, h1, h2⟩ := hs
      exact ⟨c, hIx c s A A' row hc hg' (fun r e => ⟨by have := (hr r e).1; omega, (hr r e).2⟩), keepL hg' hr h1 h2⟩) (fun A A' row hz' hg' hr => hM A A' row (by omega) hg' (fun r e => ⟨by have := (hr r e).1; omega, (hr r e).2⟩)) (fun k X h => hIM k X h.1) ?_ ⟨hI1, hL1, hD1⟩)).mono ?_
  · rintro k v k' W hk ⟨hi, hl, hd⟩ hszW
    refine ⟨fn, _, assign, body, run_yield (P := P) (args := v) hl (hps k v k' hk), roundIn_of_wpIn (n := 9) hfn (hassign _ k v k' W _ hk hi ?_)⟩
    intro a' Wa hka hba hma hia hax
    have hla := hka.same _ _ (by omega) hl rfl
    have hda := hka.same _ _ (Nat.le_refl _) hd rfl
    have hlt : w.heap.size + 1 < Wa.heap.size := (Array.getElem?_eq_some_iff.1 hla).1
    refine ⟨_, run_beginRound hla rfl, ?_⟩
    have hl2 : (Wa.putObj (w.heap.size + 1) (.loop { rec0 .ready none with state := .busy })).heap[w.heap.size + 1]? = some (.loop { rec0 .ready none with state := .busy }) := World.putObj_heap_same hlt
    have hd2 : (Wa.putObj (w.heap.size + 1) (.loop { rec0 .ready none with state := .busy })).heap[w.heap.size]? = some (.deferred (some [])) := (World.putObj_heap_other (by omega)).trans hda
    refine wpIn_mono (hbody _ k v k' a' _ hk (by omega) ⟨_, hl2⟩ (hI.putObj _ hia (by omega) hla rfl) ((hAx k v k' a').putObj (s := ()) _ hax (by omega) hla rfl)) ?_
    have put : ∀ (X A : World) (o : Obj), KeepB (SinceM S (w.heap.size + 2) M X) A (A.putObj (w.heap.size + 1) o) := fun X A o b hb => World.putObj_heap_other (hb.elim (fun hb => by have := hS b hb; omega) (fun hb => by have := hb.1; omega))
    have szp : ∀ (A : World) (o : Obj), (A.putObj (w.heap.size + 1) o).heap.size = A.heap.size := fun A o => by simp [World.putObj]
    have fin : ∀ (jump : Option Code) (W3 : World), KeepsFrom w.heap.size (Wa.putObj (w.heap.size + 1) (.loop { rec0 .ready none with state := .busy })) W3 →
        (Instr.endRound (w.heap.size + 1) jump).run P W3 = .ok (.bool jump.isNone) (W3.putObj (w.heap.size + 1) (.loop (rec0 (if jump.isNone then .ready else .done) jump))) ∧
        W3.heap[w.heap.size + 1]? = some (.loop { rec0 .ready none with state := .busy }) ∧
        (W3.putObj (w.heap.size + 1) (.loop (rec0 (if jump.isNone then .ready else .done) jump))).heap[w.heap.size + 1]? = some (.loop (rec0 (if jump.isNone then .ready else .done) jump)) ∧
        (W3.putObj (w.heap.size + 1) (.loop (rec0 (if jump.isNone then .ready else .done) jump))).heap[w.heap.size]? = some (.deferred (some [])) := fun jump W3 hk3 => by
      have hl3 := hk3.same _ _ (by omega) hl2 rfl
      exact ⟨run_endRound (P := P) jump hl3, hl3, World.putObj_heap_same (Array.getElem?_eq_some_iff.1 hl3).1, (World.putObj_heap_other (by omega)).trans (hk3.same _ _ (Nat.le_refl _) hd2 rfl)⟩
    have keepS : ∀ {W3 : World} {o3 : Obj}, KeepsFrom w.heap.size (Wa.putObj (w.heap.size + 1) (.loop { rec0 .ready none with state := .busy })) W3 → KeepM S (w.heap.size + 2) M (Wa.putObj (w.heap.size + 1) (.loop { rec0 .ready none with state := .busy })) W3 →
        W.heap.size ≤ (W3.putObj (w.heap.size + 1) o3).heap.size ∧ KeepM S W1.heap.size M W (W3.putObj (w.heap.size + 1) o3) := fun {W3 o3} hk3 hb3 =>
      have hput : ∀ b, M (Wa.putObj (w.heap.size + 1) (.loop { rec0 .ready none with state := .busy })) b → M W b := fun b hm => hma b (hM Wa _ (some (w.heap.size + 1)) (by have := (Array.getElem?_eq_some_iff.1 hla).1; omega) (grownBy_putObj' _ _ _) (fun r e => by cases e; exact ⟨by omega, _, hla, rfl⟩) b hm)
      have hl3 := hk3.same _ _ (by omega) hl2 rfl
      ⟨by rw [szp]; have h1 := hka.size; have h2 := hk3.size; rw [szp] at h2; omega, by
        rw [hsz]
        exact ⟨((hba.trans (put _ _ _)).trans (fun b hb => hb3.1 b (by rcases hb with hb | hb; exact .inl hb; exact .inr ⟨hb.1, by rw [szp]; have := hka.size; have := hb.2.1; omega, fun hm => hb.2.2 (hput b hm)⟩))).trans (put _ _ _), fun b hb hm =>
          hput b (hb3.2 b (by rw [szp]; have := hka.size; omega) (hM W3 _ (some (w.heap.size + 1)) (by have := (Array.getElem?_eq_some_iff.1 hl3).1; omega) (grownBy_putObj' _ _ _) (fun r e => by cases e; exact ⟨by omega, _, hl3, rfl⟩) b hm))⟩⟩
    rintro e a3 W3 hp
    cases e with
    | normal =>
      obtain ⟨hk3, hb3, hi3⟩ := hp
      obtain ⟨hr, hl3, hl4, hd4⟩ := fin none W3 hk3
      exact ⟨_, _, hr, .inl ⟨rfl, ⟨hI.putObj _ hi3 (by omega) hl3 rfl, hl4, hd4⟩, (keepS hk3 hb3).1, (keepS hk3 hb3).2⟩⟩
    | ret =>
      obtain ⟨hr, hl3, hl4, hd4⟩ := fin (some .ret) W3 hp.1.1
      exact ⟨_, _, hr, .inr ⟨rfl, ⟨.ret, (hIx _).putObj _ hp.2 (by omega) hl3 rfl, hl4, hd4⟩, (keepS hp.1.1 hp.1.2).1, (keepS hp.1.1 hp.1.2).2⟩⟩
    | exit id =>
      obtain ⟨hr, hl3, hl4, hd4⟩ := fin (some (.exit id)) W3 hp.1.1
      exact ⟨_, _, hr, .inr ⟨rfl, ⟨.exit id, (hIx _).putObj _ hp.2 (by omega) hl3 rfl, hl4, hd4⟩, (keepS hp.1.1 hp.1.2).1, (keepS hp.1.1 hp.1.2).2⟩⟩
    | goto t =>
      obtain ⟨hr, hl3, hl4, hd4⟩ := fin (some (.goto t)) W3 hp.1.1
      exact ⟨_, _, hr, .inr ⟨rfl, ⟨.goto t, (hIx _).putObj _ hp.2 (by omega) hl3 rfl, hl4, hd4⟩, (keepS hp.1.1 hp.1.2).1, (keepS hp.1.1 hp.1.2).2⟩⟩
    | panic ch => exact hp.elim
    | outgrown => exact hp.elim
  · rintro e W2 ⟨⟨v, rfl⟩, ⟨k, hf, hi, hl, hd⟩ | ⟨k, c, hi, hl, hd⟩⟩
    · exact ⟨none, _, run_endLoop (P := P) hl (by simp [rec0]), hdone _ k _ (Nat.le_refl _) hf (hI.putObj _ hi (by omega) hl rfl) ((World.putObj_heap_other (by omega)).trans hd)⟩
    · exact ⟨some c, _, run_endLoop (P := P) hl (by simp [rec0]), wpIn_wide.2 (hstop _ c k _ (Nat.le_refl _) ((hIx c).putObj _ hi (by omega) hl rfl) ((World.putObj_heap_other (by omega)).trans hd))⟩


end Go.Proofs.YthfndphngeaihaaDoor
