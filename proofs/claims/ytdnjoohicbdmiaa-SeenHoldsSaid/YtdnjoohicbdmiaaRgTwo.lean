/- Ranges over two values; boxes of numbers that a loop turns. -/
import Derived.Test.YtdnjoohicbdmiaaIter2
namespace Go.Proofs.Ytdnjoohicbdmiaa
open Go Go.RowKit Go.Shelf
set_option linter.unusedSimpArgs false
set_option linter.unusedVariables false
set_option maxRecDepth 100000

attribute [local go_sem] Oper.semAt_some

/-- A range of two values, each laid in a slot. -/
theorem wp_rangeGoesO_at2 {P : Program} {g : Operand} {p1 p2 : Tmp} {assign body : Code} {Q : Exit → Act → World → Prop} {a : Act} {w : World} {gf : Nat} {lb : Array Value} (q1 q2 : Tmp) (v1 v2 : Nat → Value)
    (hg : a.eval g = .func (.func gf) #[] lb) (eg : ∀ args w, (callFunc gf args).run P w = .ok (.enter gf args) w)
    {S : Nat → Prop} {N : Nat} (hseq : GoesO P gf lb (fun k => #[v1 k, v2 k]) S N w) (hS : ∀ b, S b → b < w.heap.size)
    (I : Nat → World → Prop) (Ix : Code → Nat → World → Prop) (hI : OwnFrom w.heap.size I) (hIx : ∀ c, OwnFrom w.heap.size (Ix c)) (h0 : I 0 w)
    (hassign : ∀ (l k : Nat) (W : World) (K : Act → World → Prop), K { tmps := (((a.tmps.setIfInBounds p1 (v1 k)).setIfInBounds p2 (v2 k)).setIfInBounds q1 (v1 k)).setIfInBounds q2 (v2 k), defers := [] } W →
      assign.wpIn (Fence.wide.inRound l) 9 P (Exit.then K (fun _ _ _ => False)) { tmps := (a.tmps.setIfInBounds p1 (v1 k)).setIfInBounds p2 (v2 k), defers := [] } W)
    (hbody : ∀ (l k : Nat) (W : World), k < N → w.heap.size ≤ l → (∃ r, W.heap[l]? = some (.loop r)) → I k W → body.wpIn (Fence.wide.inRound l) 9 P (roundEndsO w.heap.size S I Ix k W) { tmps := (((a.tmps.setIfInBounds p1 (v1 k)).setIfInBounds p2 (v2 k)).setIfInBounds q1 (v1 k)).setIfInBounds q2 (v2 k), defers := [] } W)
    (hdone : ∀ (D : Nat) (W : World), w.heap.size ≤ D → I N W → W.heap[D]? = some (.deferred (some [])) → Q .normal { a with defers := { target := .collected D, args := #[] } :: a.defers } W)
    (hstop : ∀ (D : Nat) (c : Code) (k : Nat) (W : World), w.heap.size ≤ D → k < N → Ix c k W → W.heap[D]? = some (.deferred (some [])) → c.wp P Q { a with defers := { target := .collected D, args := #[] } :: a.defers } W) :
    (Code.rangeFunc g #[p1, p2] assign body).wp P Q a w :=
  wp_rangeGoesO_plain hg eg hseq hS (fun _ => rfl) I Ix hI hIx h0 (fun k => { tmps := (((a.tmps.setIfInBounds p1 (v1 k)).setIfInBounds p2 (v2 k)).setIfInBounds q1 (v1 k)).setIfInBounds q2 (v2 k), defers := [] }) (fun l k W K hK => by
    have h := hassign l k W K hK
    simpa using h) hbody hdone hstop

/-- What the box of a number holds. -/
def atB (ab : Nat) (X : World) : Nat := match X.cell? ⟨ab, 0, none⟩ with | some (.int _ z) => z.toNat | _ => 0
theorem atB_eq {ab p : Nat} {X : World} {t : TypeId} (h : Boxed X ab t (.int .i64 p)) : atB ab X = p := by
  unfold atB
  rw [h.cell]
  simp
theorem boxed_lt {X : World} {b : Nat} {t : TypeId} {v : Value} (h : Boxed X b t v) : b < X.heap.size := (Array.getElem?_eq_some_iff.1 h).1
theorem boxed_on {X Y : World} {b : Nat} {t : TypeId} {v : Value} (h : Boxed X b t v) (hb : Below X.heap.size X Y) : Boxed Y b t v := (hb.block b (boxed_lt h)).trans h
theorem keeps_on {B : Nat} {X Y Z : World} (h : KeepsFrom B X Y) (hb : Below Y.heap.size Y Z) : KeepsFrom B X Z := h.trans ⟨hb.size, fun i o' hi ho _ => (hb.block i (Array.getElem?_eq_some_iff.1 ho).1).trans ho⟩
/-- Where nothing but the end is a way out. -/
def onlyN (Q : Exit → Act → World → Prop) : Exit → Act → World → Prop
  | .normal, a, w => Q .normal a w
  | _, _, _ => False
theorem wp_onlyN {P : Program} {c : Code} {Q : Exit → Act → World → Prop} {a : Act} {w : World} (h : c.wp P (onlyN Q) a w) : c.wp P Q a w := wp_mono h fun e a1 w1 hq => by
  cases e with
  | normal => exact hq
  | exit id => exact hq.elim
  | goto t => exact hq.elim
  | ret => exact hq.elim
  | panic ch => exact hq.elim
  | outgrown => exact hq.elim

/-- A range of two values, each laid in a slot, that may be left by a break. -/
theorem wp_rangeGoesO_brk2 {P : Program} {g : Operand} {p1 p2 : Tmp} {assign body : Code} {Q : Exit → Act → World → Prop} {a : Act} {w : World} {gf : Nat} {lb : Array Value} (q1 q2 : Tmp) (v1 v2 : Nat → Value)
    (hg : a.eval g = .func (.func gf) #[] lb) (eg : ∀ args w, (callFunc gf args).run P w = .ok (.enter gf args) w)
    {S : Nat → Prop} {N : Nat} (hseq : GoesO P gf lb (fun k => #[v1 k, v2 k]) S N w) (hS : ∀ b, S b → b < w.heap.size)
    (I : Nat → World → Prop) (R : World → Prop) (id : Nat) (hI : OwnFrom w.heap.size I) (hR : OwnFrom w.heap.size (fun (_ : Unit) X => R X)) (h0 : I 0 w)
    (hassign : ∀ (l k : Nat) (W : World) (K : Act → World → Prop), K { tmps := (((a.tmps.setIfInBounds p1 (v1 k)).setIfInBounds p2 (v2 k)).setIfInBounds q1 (v1 k)).setIfInBounds q2 (v2 k), defers := [] } W →
      assign.wpIn (Fence.wide.inRound l) 9 P (Exit.then K (fun _ _ _ => False)) { tmps := (a.tmps.setIfInBounds p1 (v1 k)).setIfInBounds p2 (v2 k), defers := [] } W)
    (hbody : ∀ (l k : Nat) (W : World), k < N → w.heap.size ≤ l → (∃ r, W.heap[l]? = some (.loop r)) → I k W → body.wpIn (Fence.wide.inRound l) 9 P (roundEndsO w.heap.size S I (fun c _ X => c = .exit id ∧ R X) k W) { tmps := (((a.tmps.setIfInBounds p1 (v1 k)).setIfInBounds p2 (v2 k)).setIfInBounds q1 (v1 k)).setIfInBounds q2 (v2 k), defers := [] } W)
    (hIR : ∀ X, I N X → R X) (hQ : ∀ a X, Q .normal a X → (Code.exit id).wp P Q a X)
    (hafter : ∀ (D : Nat) (W : World), w.heap.size ≤ D → R W → W.heap[D]? = some (.deferred (some [])) → Q .normal { a with defers := { target := .collected D, args := #[] } :: a.defers } W) :
    (Code.rangeFunc g #[p1, p2] assign body).wp P Q a w :=
  wp_rangeGoesO_at2 q1 q2 v1 v2 hg eg hseq hS I (fun c _ X => c = .exit id ∧ R X) hI (fun c => OwnFrom.and (ownFrom_pure _ (fun _ => c = .exit id)) (fun _ X Y row hs hg hr => hR () X Y row hs hg hr)) h0 hassign hbody
    (fun D W hD hi hd => hafter D W hD (hIR W hi) hd) (fun D c k W hD _ hx hd => by
      obtain ⟨rfl, hr⟩ := hx
      exact hQ _ _ (hafter D W hD hr hd))

end Go.Proofs.Ytdnjoohicbdmiaa
