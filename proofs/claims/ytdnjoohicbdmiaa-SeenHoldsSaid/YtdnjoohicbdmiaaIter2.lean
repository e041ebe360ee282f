/- More words of iterators: no iterator is nil; two ways that are over; a range whose element lies in a variable of its own. -/
import Derived.Test.YtdnjoohicbdmiaaIter
namespace Go.Proofs.Ytdnjoohicbdmiaa
open Go.RowKit Go.Shelf
set_option linter.unusedSimpArgs false
set_option linter.unusedVariables false

theorem eqlIn_func_nil {P : Program} (w : World) (d : Nat) (t : TypeId) (ps rs : Array TypeId) (b : Bool) (fn : Fn) (f c : Array Value) (h : P.underlying t = some (.func ps rs b)) :
    (Op.equalIn (d + 1) t (.func fn f c) .nilFunc).run P w = .ok false w := by
  simp [Op.equalIn, run_underlying h]

theorem eql_func_nil {P : Program} (w : World) (t : TypeId) (ps rs : Array TypeId) (b : Bool) (fn : Fn) (f c : Array Value) (h : P.underlying t = some (.func ps rs b)) :
    (binOp .eql t (.func fn f c) .nilFunc).run P w = .ok (.bool false) w := by
  simp only [binOp]
  simp [Op.equal, Op.maxDepth, eqlIn_func_nil w 9999 t ps rs b fn f c h]

/-- The way out behind two loops. -/
theorem marks_two {P : Program} {fn : Func} {R : Ending → World → Prop} {tmps : Array Value} {w : World} {v : Value} {D1 D2 : Nat} (h2 : w.heap[D2]? = some (.deferred (some []))) (h1 : (w.putObj D2 (.deferred none)).heap[D1]? = some (.deferred (some [])))
    (hr : (results fn tmps).run P ((w.putObj D2 (.deferred none)).putObj D1 (.deferred none)) = .ok v ((w.putObj D2 (.deferred none)).putObj D1 (.deferred none))) (hR : R (.returned v) ((w.putObj D2 (.deferred none)).putObj D1 (.deferred none))) :
    bodyPostM Fence.wide 9 P fn R .ret { tmps := tmps, defers := [{ target := .collected D2, args := #[] }, { target := .collected D1, args := #[] }] } w :=
  ⟨by simp, .inl ⟨_, _, rfl, run_takeDeferred h2, by simp, .inl ⟨_, _, rfl, run_takeDeferred h1, v, hr, hR⟩⟩⟩

theorem notS {n7 B nb : Nat} {X : World} (h1 : n7 ≤ nb) (h2 : nb < B) : ¬ SinceB (· < n7) (B + 2) X nb := fun h => h.elim (fun h => absurd h (Nat.not_lt.2 h1)) (fun h => by have := h.1; omega)

theorem boxed_below {w w' : World} {b B : Nat} {t : TypeId} {v : Value} (h : Boxed w b t v) (hb : Below B w w') (hlt : b < B) : Boxed w' b t v := (hb.block b hlt).trans h

/-- A range that may be left by its end or a break, its element in a variable of its own. -/
theorem wp_rangeGoesO_brkA {P : Program} {g : Operand} {ps : Array Tmp} {assign body : Code} {Q : Exit → Act → World → Prop} {a : Act} {w : World} {gf : Nat} {lb : Array Value}
    (hg : a.eval g = .func (.func gf) #[] lb) (eg : ∀ args w, (callFunc gf args).run P w = .ok (.enter gf args) w)
    {enc : Nat → Array Value} {S : Nat → Prop} {N : Nat} (hseq : GoesO P gf lb enc S N w) (hS : ∀ b, S b → b < w.heap.size) (hps : ∀ k, (enc k).size = ps.size)
    (I : Nat → World → Prop) (R : World → Prop) (id : Nat) (hI : OwnFrom w.heap.size I) (hR : OwnFrom w.heap.size (fun (_ : Unit) X => R X)) (h0 : I 0 w)
    (Ax : Nat → Act → World → Prop) (hAx : ∀ k a', OwnFrom w.heap.size (fun (_ : Unit) W => Ax k a' W))
    (hassign : ∀ (l k : Nat) (W : World) (K : Act → World → Prop), k < N → I k W → (∀ a' W', KeepsFrom w.heap.size W W' → KeepB (SinceB S (w.heap.size + 2) W) W W' → I k W' → Ax k a' W' → K a' W') →
      assign.wpIn (Fence.wide.inRound l) 9 P (Exit.then K (fun _ _ _ => False)) { tmps := (ps.zip (enc k)).foldl (fun t (p, v) => t.setIfInBounds p v) a.tmps, defers := [] } W)
    (hbody : ∀ (l k : Nat) (a' : Act) (W : World), k < N → w.heap.size ≤ l → (∃ r, W.heap[l]? = some (.loop r)) → I k W → Ax k a' W → body.wpIn (Fence.wide.inRound l) 9 P (roundEndsO w.heap.size S I (fun c _ X => c = .exit id ∧ R X) k W) a' W)
    (hIR : ∀ X, I N X → R X) (hQ : ∀ a X, Q .normal a X → (Code.exit id).wp P Q a X)
    (hafter : ∀ (D : Nat) (W : World), w.heap.size ≤ D → R W → W.heap[D]? = some (.deferred (some [])) → Q .normal { a with defers := { target := .collected D, args := #[] } :: a.defers } W) :
    (Code.rangeFunc g ps assign body).wp P Q a w :=
  wp_rangeGoesO hg eg hseq hS hps I (fun c _ X => c = .exit id ∧ R X) hI (fun c => OwnFrom.and (ownFrom_pure _ (fun _ => c = .exit id)) (fun _ X Y row hs hg hr => hR () X Y row hs hg hr)) h0 Ax hAx hassign hbody
    (fun D W hD hi hd => hafter D W hD (hIR W hi) hd) (fun D c k W hD _ hx hd => by
      obtain ⟨rfl, hr⟩ := hx
      exact hQ _ _ (hafter D W hD hr hd))

/-- The same, where one value comes a round, and the round lays it into a variable of its own, whose block is named in a slot. -/
theorem wp_rangeGoesO_brkB {P : Program} {g : Operand} {p : Tmp} {assign body : Code} {Q : Exit → Act → World → Prop} {a : Act} {w : World} {gf : Nat} {lb : Array Value} (slot : Tmp) (val : Nat → Value)
    (hg : a.eval g = .func (.func gf) #[] lb) (eg : ∀ args w, (callFunc gf args).run P w = .ok (.enter gf args) w)
    {S : Nat → Prop} {N : Nat} (hseq : GoesO P gf lb (fun k => #[val k]) S N w) (hS : ∀ b, S b → b < w.heap.size)
    (I : Nat → World → Prop) (R : World → Prop) (id : Nat) (C : Nat → Nat → World → Prop) (hI : OwnFrom w.heap.size I) (hR : OwnFrom w.heap.size (fun (_ : Unit) X => R X)) (hC : ∀ k, OwnFrom w.heap.size (C k)) (h0 : I 0 w)
    (hassign : ∀ (l k : Nat) (W : World) (K : Act → World → Prop), k < N → I k W → (∀ bx W', KeepsFrom w.heap.size W W' → KeepB (SinceB S (w.heap.size + 2) W) W W' → I k W' → C k bx W' → K { tmps := (a.tmps.setIfInBounds p (val k)).setIfInBounds slot (.pointer (some ⟨bx, 0, none⟩)), defers := [] } W') →
      assign.wpIn (Fence.wide.inRound l) 9 P (Exit.then K (fun _ _ _ => False)) { tmps := a.tmps.setIfInBounds p (val k), defers := [] } W)
    (hbody : ∀ (l k bx : Nat) (W : World), k < N → w.heap.size ≤ l → (∃ r, W.heap[l]? = some (.loop r)) → I k W → C k bx W → body.wpIn (Fence.wide.inRound l) 9 P (roundEndsO w.heap.size S I (fun c _ X => c = .exit id ∧ R X) k W) { tmps := (a.tmps.setIfInBounds p (val k)).setIfInBounds slot (.pointer (some ⟨bx, 0, none⟩)), defers := [] } W)
    (hIR : ∀ X, I N X → R X) (hQ : ∀ a X, Q .normal a X → (Code.exit id).wp P Q a X)
    (hafter : ∀ (D : Nat) (W : World), w.heap.size ≤ D → R W → W.heap[D]? = some (.deferred (some [])) → Q .normal { a with defers := { target := .collected D, args := #[] } :: a.defers } W) :
    (Code.rangeFunc g #[p] assign body).wp P Q a w :=
  wp_rangeGoesO_brkA hg eg hseq hS (fun _ => rfl) I R id hI hR h0
    (fun k a' W => ∃ bx, a' = { tmps := (a.tmps.setIfInBounds p (val k)).setIfInBounds slot (.pointer (some ⟨bx, 0, none⟩)), defers := [] } ∧ C k bx W)
    (fun k a' s X Y row hs hg hr => by
      obtain ⟨bx, e, c⟩ := hs
      exact ⟨bx, e, hC k bx X Y row c hg hr⟩)
    (fun l k W K hk hi hK => by
      have h := hassign l k W K hk hi (fun bx W' h1 h2 h3 h4 => hK _ W' h1 h2 h3 ⟨bx, rfl, h4⟩)
      simpa using h)
    (fun l k a' W hk hl hr hi ⟨bx, e, c⟩ => by subst e; exact hbody l k bx W hk hl hr hi c) hIR hQ hafter

end Go.Proofs.Ytdnjoohicbdmiaa
