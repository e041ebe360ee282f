/- Joined texts. -/
import Derived.Test.YtkbnglcpcehaiaaDoorRows
import Derived.WalkKit
import Derived.WalkSpells
import Derived.WalkLawsBesides
import Derived.Lib.Hide
import Derived.Shelf.Abstract
import Derived.Deep.OwnRows
import Derived.Laws.BytesArg
import Derived.WalkMore
import Derived.ScopeJumps
import Derived.RangeFuncNested
import Derived.RangeFuncBound
import Derived.RangeFuncCalls
import Derived.RangeFuncLeaves
import Derived.OwnWalkIn
import Derived.TacticsInMore
import Derived.LoopNIn
import Derived.LoopIn
import Derived.Maps.OwnOps
import Derived.Maps.OwnSet
import Derived.Maps.Views
import Derived.WideKeyEntry
import Derived.Deep.RegionHeld
import Derived.ProofKit
import Derived.OpenShut
import Derived.ChangeOld
import Derived.SizedLaws
import Derived.Maps.AppendAt
import Derived.Deep.AppendLies
import Derived.Lib.SliceRun
namespace Go.Proofs.YtkbnglcpcehaiaaDoor
open Go.RowKit Go.Shelf

/-- A number of 64 bits. -/
def U64 (n : Int) : Prop := 0 ≤ n ∧ n < 18446744073709551616

theorem U64.div (n : Int) (h : U64 n) : (n / 18446744073709551616 == 0) = true := by
  unfold U64 at h
  have : n / 18446744073709551616 = 0 := by omega
  simp [this]

/-- One step more, of a call. -/
theorem below_on {a b c : World} (h : Below a.heap.size a b) (k : Below b.heap.size b c) : Below a.heap.size a c := h.trans (k.mono h.size)
/-- One step more, of a new block. -/
theorem below_al {a b : World} (h : Below a.heap.size a b) (o : Obj) : Below a.heap.size a (b.alloc o) := h.alloc h.size o
/-- One step more, of draws. -/
theorem below_dr {a b : World} (h : Below a.heap.size a b) (n : Nat) : Below a.heap.size a (b.drewN n) := ⟨h.os, h.tape, h.output, h.size, h.block⟩

/-- The number of byte k (0 behind the last one). -/
def byteAt (bs : List UInt8) (k : Nat) : Int := ((bs[k]?.getD 0).toNat : Int)

theorem byteAt_lo (bs : List UInt8) (k : Nat) : 0 ≤ byteAt bs k := by unfold byteAt; omega
theorem byteAt_hi (bs : List UInt8) (k : Nat) : byteAt bs k < 256 := by
  unfold byteAt
  have := UInt8.toNat_lt (bs[k]?.getD 0)
  omega

/-- A slice at address a reads as the bytes bs, in a block below B. -/
def RdB (w : World) (B : Nat) (a : Option Addr) (bs : List UInt8) : Prop :=
  bs = [] ∨ ∃ b o, a = some ⟨b, o, none⟩ ∧ b < B ∧ ∀ j, j < bs.length → w.cell? ⟨b, o + j, none⟩ = some (.int .u8 (byteAt bs j))

theorem RdB.nil (w : World) (B : Nat) (a : Option Addr) : RdB w B a [] := .inl rfl

theorem RdB.below {w w' : World} {B : Nat} {a : Option Addr} {bs : List UInt8} (h : RdB w B a bs) (hb : Below B w w') : RdB w' B a bs := by
  rcases h with h | ⟨b, o, e, hlt, hc⟩
  · exact .inl h
  · exact .inr ⟨b, o, e, hlt, fun j hj => (hb.cell (p := ⟨b, o + j, none⟩) hlt).trans (hc j hj)⟩

theorem RdB.mono {w : World} {B B' : Nat} {a : Option Addr} {bs : List UInt8} (h : RdB w B a bs) (hB : B ≤ B') : RdB w B' a bs := by
  rcases h with h | ⟨b, o, e, hlt, hc⟩
  · exact .inl h
  · exact .inr ⟨b, o, e, by omega, hc⟩

/-- Two steps at once: kept below a bound that lies at or above its block. -/
theorem RdB.later {w w' : World} {B : Nat} {a : Option Addr} {bs : List UInt8} (h : RdB w B a bs) (hb : Below B w w') : RdB w' w'.heap.size a bs ∨ w'.heap.size < B := by
  rcases Nat.lt_or_ge w'.heap.size B with hl | hl
  · exact .inr hl
  · exact .inl ((h.below hb).mono hl)

theorem mk_addr_add (b o j : Nat) : (⟨b, o, none⟩ : Addr).add j = ⟨b, o + j, none⟩ := by
  unfold Addr.add
  split <;> simp_all

/-- The text of bytes. -/
theorem RdB.text {P : Program} {w : World} {B : Nat} {a : Option Addr} {bs : List UInt8} (h : RdB w B a bs) (src dst e : TypeId) (n c : Nat) (hn : n = bs.length)
    (hs : P.underlying src = some (.slice e)) (he : P.underlying e = some (.int .u8)) (hd : P.underlying dst = some .string) :
    (convert src dst (.slice a n c)).run P w = .ok (.string ⟨bs.toArray⟩) w := by
  subst hn
  rcases a with _ | ad
  · rcases h with rfl | ⟨b, o, e, _⟩
    · exact run_convert_bytes_nil w src e hs he _ _ dst hd
    · cases e
  · refine run_convert_bytes_back w src dst e ad c bs hs he hd fun j hj => ?_
    rcases h with rfl | ⟨b, o, e, hlt, hc⟩
    · simp at hj
    · injection e with e
      subst e
      rw [mk_addr_add, hc j hj]
      simp [byteAt, List.getElem?_eq_getElem hj]

theorem RdB.drewN {w : World} {B : Nat} {a : Option Addr} {bs : List UInt8} (h : RdB w B a bs) (q : Nat) : RdB (w.drewN q) B a bs := h

theorem RdB.lt {w : World} {B : Nat} {a : Option Addr} {bs : List UInt8} (h : RdB w B a bs) (p : Addr) (hne : bs ≠ []) (hp : a = some p) : p.block < B := by
  rcases h with h | ⟨b, o, e, hlt, _⟩
  · exact absurd h hne
  · rw [hp] at e
    cases e
    exact hlt

theorem byteAt_take (bs : List UInt8) (n j : Nat) (h : j < n) : byteAt (bs.take n) j = byteAt bs j := by
  simp [byteAt, h]

theorem byteAt_drop (bs : List UInt8) (n j : Nat) : byteAt (bs.drop n) j = byteAt bs (n + j) := by
  simp [byteAt]

theorem RdB.take {w : World} {B : Nat} {a : Option Addr} {bs : List UInt8} (h : RdB w B a bs) (n : Nat) : RdB w B a (bs.take n) := by
  rcases h with rfl | ⟨b, o, e, hlt, hc⟩
  · exact .inl (by simp)
  · refine .inr ⟨b, o, e, hlt, fun j hj => ?_⟩
    simp at hj
    rw [byteAt_take bs n j (by omega)]
    exact hc j (by omega)

/-- A whole own row reads as bytes. -/
theorem RdB.of_row {w : World} {g : Nat} {t : TypeId} {bs : List UInt8} (h : w.rowIs g t bs.length (fun j => .int .u8 (byteAt bs j))) : RdB w w.heap.size (some ⟨g, 0, none⟩) bs :=
  .inr ⟨g, 0, rfl, h.lt, fun j hj => by rw [Nat.zero_add]; exact h.cell hj⟩

theorem ext_bytes {l m : List UInt8} (hl : l.length = m.length) (h : ∀ j, j < l.length → byteAt l j = byteAt m j) : l = m := by
  apply List.ext_getElem hl
  intro j h1 h2
  have := h j h1
  simp only [byteAt, List.getElem?_eq_getElem h1, List.getElem?_eq_getElem h2, Option.getD_some] at this
  exact UInt8.toNat_inj.1 (by omega)

/-- A scope whose jumps go forward, to one label, behind which nothing jumps any more. -/
theorem wp_scope_on {P : Program} {a : Act} {w : World} {Q : Exit → Act → World → Prop} {c rest : Code} (l : Nat) (hf : findLabel c l = some rest)
    (first : c.wp P (Exit.jump l (fun a' w' => rest.wp P (Exit.noGoto Q) a' w') Q) a w) : (Code.scope c).wp P Q a w :=
  wp_scope_jumps l _ (fun _ _ => 0) hf first fun a' w' h => wp_mono h fun e a1 w1 hq => by
    cases e with
    | goto t => exact hq.elim
    | normal => exact hq
    | exit id => exact hq
    | ret => exact hq
    | panic ch => exact hq
    | outgrown => exact hq

section
variable {l : Nat} {J : Act → World → Prop} {Q : Exit → Act → World → Prop} {a : Act} {w : World}
theorem jump_ret : Exit.jump l J Q .ret a w = Q .ret a w := rfl
theorem jump_goto (t : Nat) : Exit.jump l J Q (.goto t) a w = (t = l ∧ J a w) := rfl
end

end Go.Proofs.YtkbnglcpcehaiaaDoor

namespace Go.Proofs.YtkbnglcpcehaiaaDoor
open Go.RowKit Go.Shelf

set_option maxHeartbeats 1000000 in
theorem equal_any (a1 a2 : Option Addr) (n1 n2 c1 c2 : Nat) (xs ys : List UInt8) (hn1 : n1 = xs.length) (hn2 : n2 = ys.length) (w : World) (B : Nat) (h1 : RdB w B a1 xs) (h2 : RdB w B a2 ys) :
    Calls Tryd.prog 71 #[.slice a1 n1 c1, .slice a2 n2 c2] w fun e w' => e = .returned (.bool (xs == ys)) ∧ w' = w := by
  have k1 := h1.text (P := Tryd.prog) 42 9 5 n1 c1 hn1 Tryd.underlying42 Tryd.underlying5 Tryd.underlying9
  have k2 := h2.text (P := Tryd.prog) 42 9 5 n2 c2 hn2 Tryd.underlying42 Tryd.underlying5 Tryd.underlying9
  clear h1 h2 hn1 hn2
  go_enter Tryd.func71, Tryd.ntmps71
  go_wp2
  go_ret
  exact ⟨rfl, rfl⟩

end Go.Proofs.YtkbnglcpcehaiaaDoor

namespace Go.Proofs.YtkbnglcpcehaiaaDoor
open Go.RowKit Go.Shelf

variable {P : Program}

/-- The blocks of which S speaks lie as they lay. -/
def KeepB (S : Nat → Prop) (W W' : World) : Prop := ∀ b, S b → W'.heap[b]? = W.heap[b]?

theorem KeepB.refl (S : Nat → Prop) (W : World) : KeepB S W W := fun _ _ => rfl
theorem KeepB.trans {S : Nat → Prop} {A B C : World} (h : KeepB S A B) (k : KeepB S B C) : KeepB S A C := fun b hb => (k b hb).trans (h b hb)
theorem keepB_below {n0 : Nat} {A B : World} (h : Below n0 A B) : KeepB (· < n0) A B := h.block
theorem KeepB.setCell {S : Nat → Prop} {A B : World} (h : KeepB S A B) {p : Addr} (hp : ¬ S p.block) (u : Value) : KeepB S A (B.setCell p u) :=
  fun b hb => (Below.heap_setCell B p u b (fun e => hp (e ▸ hb))).trans (h b hb)
theorem KeepB.alloc {S : Nat → Prop} {A B : World} (h : KeepB S A B) (hS : ∀ b, S b → b < B.heap.size) (o : Obj) : KeepB S A (B.alloc o) :=
  fun b hb => (Below.heap_alloc B o b (hS b hb)).trans (h b hb)
theorem KeepB.grown {S : Nat → Prop} {A B C : World} {row : Option Nat} (h : KeepB S A B) (hS : ∀ b, S b → b < B.heap.size) (hg : B.grownBy C row) (hr : ∀ r, row = some r → ¬ S r) : KeepB S A C :=
  fun b hb => (hg.block b (hS b hb) (fun e => hr b e.symm hb)).trans (h b hb)

/-- WHAT AN ITERATOR PROMISES: it hands over enc 0, enc 1, .. one by one, N at most, for every loop body that keeps the blocks of which S speaks. -/
def Goes (P : Program) (g : FuncId) (lb : Array Value) (enc : Nat → Array Value) (S : Nat → Prop) (N : Nat) (w : World) : Prop :=
  ∀ (l : Nat) (J Jx : Nat → World → Prop) (W : World), Below w.heap.size w W → AbidesFrom W.heap.size J → AbidesFrom W.heap.size Jx →
    (∀ k W1, k < N → J k W1 → YieldAt Fence.wide 9 P l (enc k) W1 fun e W' => (e = .returned (.bool true) ∧ J (k + 1) W' ∧ KeepB S W1 W') ∨ (e = .returned (.bool false) ∧ Jx k W')) →
    J 0 W → CallsIn Fence.wide 10 P g (#[.func (.yield l) #[] #[]] ++ lb) W fun e W' => (∃ v, e = .returned v) ∧ (J N W' ∨ ∃ k, k < N ∧ Jx k W')

/-- How round k's body may be left. -/
def roundEnds (B : Nat) (S : Nat → Prop) (I : Nat → World → Prop) (Ix : Code → Nat → World → Prop) (k : Nat) (W : World) : Exit → Act → World → Prop
  | .normal, _, W' => KeepsFrom B W W' ∧ KeepB S W W' ∧ I (k + 1) W'
  | .ret, _, W' => KeepsFrom B W W' ∧ Ix .ret k W'
  | .exit id, _, W' => KeepsFrom B W W' ∧ Ix (.exit id) k W'
  | .goto t, _, W' => KeepsFrom B W W' ∧ Ix (.goto t) k W'
  | .panic _, _, _ => False
  | .outgrown, _, _ => False

theorem not_walk_cells {A : World} {B C : Nat} {row : Option Nat} (hBC : B ≤ C) (h : ∀ r, row = some r → C ≤ r ∧ ∃ o : Obj, A.heap[r]? = some o ∧ o.isWalk = true) :
    ∀ r, row = some r → B ≤ r ∧ ∃ o : Obj, A.heap[r]? = some o ∧ o.isCells = false := fun r e => by
  obtain ⟨h1, o, ho, hw⟩ := h r e
  exact ⟨Nat.le_trans hBC h1, o, ho, Obj.not_cells_of_walk hw⟩

theorem kept_noncells {A A' : World} {row : Option Nat} {i : Nat} {o : Obj} (hg : A.grownBy A' row) (hr : ∀ r, row = some r → ∃ o : Obj, A.heap[r]? = some o ∧ o.isWalk = true) (h : A.heap[i]? = some o) (ho : o.isWalk = false) : A'.heap[i]? = some o := by
  refine (hg.block i (Array.getElem?_eq_some_iff.1 h).1 ?_).trans h
  intro e
  obtain ⟨o', ho', hw⟩ := hr i e.symm
  rw [h] at ho'
  cases ho'
  rw [ho] at hw
  cases hw

set_option maxHeartbeats 1000000 in
/-- THE STATEMENT 'for .. := range g { .. }' OVER SUCH AN ITERATOR. -/
theorem wp_rangeGoes {g : Operand} {ps : Array Tmp} {assign body : Code} {Q : Exit → Act → World → Prop} {a : Act} {w : World} {gf : Nat} {lb : Array Value}
    (hg : a.eval g = .func (.func gf) #[] lb) (eg : ∀ args w, (callFunc gf args).run P w = .ok (.enter gf args) w)
    {enc : Nat → Array Value} {S : Nat → Prop} {N : Nat} (hseq : Goes P gf lb enc S N w) (hS : ∀ b, S b → b < w.heap.size) (hps : ∀ k, (enc k).size = ps.size)
    (I : Nat → World → Prop) (Ix : Code → Nat → World → Prop) (hI : OwnFrom w.heap.size I) (hIx : ∀ c, OwnFrom w.heap.size (Ix c)) (h0 : I 0 w)
    (Ax : Nat → Act → World → Prop) (hAx : ∀ k a', OwnFrom w.heap.size (fun (_ : Unit) W => Ax k a' W))
    (hassign : ∀ (l k : Nat) (W : World) (K : Act → World → Prop), k < N → I k W → (∀ a' W', KeepsFrom w.heap.size W W' → KeepB S W W' → I k W' → Ax k a' W' → K a' W') →
      assign.wpIn (Fence.wide.inRound l) 9 P (Exit.then K (fun _ _ _ => False)) { tmps := (ps.zip (enc k)).foldl (fun t (p, v) => t.setIfInBounds p v) a.tmps, defers := [] } W)
    (hbody : ∀ (l k : Nat) (a' : Act) (W : World), k < N → w.heap.size ≤ l → (∃ r, W.heap[l]? = some (.loop r)) → I k W → Ax k a' W → body.wpIn (Fence.wide.inRound l) 9 P (roundEnds w.heap.size S I Ix k W) a' W)
    (hdone : ∀ (D : Nat) (W : World), w.heap.size ≤ D → I N W → W.heap[D]? = some (.deferred (some [])) → Q .normal { a with defers := { target := .collected D, args := #[] } :: a.defers } W)
    (hstop : ∀ (D : Nat) (c : Code) (k : Nat) (W : World), w.heap.size ≤ D → k < N → Ix c k W → W.heap[D]? = some (.deferred (some [])) → c.wp P Q { a with defers := { target := .collected D, args := #[] } :: a.defers } W) :
    (Code.rangeFunc g ps assign body).wp P Q a w := by
  refine (wpIn_wide (n := 11)).1 (wpIn_rangeFunc fun fn hfn => ?_)
  let rec0 : LoopState → Option Code → Loop := fun st pe => { state := st, pending := pe, fn, tmps := a.tmps, params := ps, assign, body, defers := w.heap.size }
  obtain ⟨W1, hW1⟩ : ∃ W1, (w.alloc (.deferred (some []))).alloc (.loop (rec0 .ready none)) = W1 := ⟨_, rfl⟩
  have hb1 : Below w.heap.size w W1 := by rw [← hW1]; exact ((Below.refl _ w).alloc (Nat.le_refl _) _).alloc (by simp) _
  have hsz : W1.heap.size = w.heap.size + 2 := by rw [← hW1]; simp
  have hL1 : W1.heap[w.heap.size + 1]? = some (.loop (rec0 .ready none)) := by
    rw [← hW1]
    have := World.alloc_heap_new (w.alloc (.deferred (some []))) (.loop (rec0 .ready none))
    rwa [World.size_alloc] at this
  have hD1 : W1.heap[w.heap.size]? = some (.deferred (some [])) := by
    rw [← hW1]
    exact (Below.heap_alloc _ _ _ (by simp)).trans (World.alloc_heap_new w _)
  have hI1 : I 0 W1 := by rw [← hW1]; exact hI.alloc _ (hI.alloc _ h0)
  refine ⟨w.heap.size + 1, [{ target := .collected w.heap.size, args := #[] }], W1, { target := .fn (.func gf) lb, args := #[.func (.yield (w.heap.size + 1)) #[] #[]] }, W1, gf,
    #[.func (.yield (w.heap.size + 1)) #[] #[]] ++ lb, W1, ?_, ?_, fun _ _ => trivial, ?_, fun h => by simp [Fence.wide] at h, ?_⟩
  · rw [← hW1]
    exact run_enterLoop_outer _ _ _ _ _
  · simp only [resolve, hg]
    simp [go_sem]
  · simp [invoke, go_sem, eg]
  have keepL : ∀ {A A' : World} {row : Option Nat} {st : LoopState} {pe : Option Code}, A.grownBy A' row → (∀ r, row = some r → W1.heap.size ≤ r ∧ ∃ o : Obj, A.heap[r]? = some o ∧ o.isWalk = true) →
      A.heap[w.heap.size + 1]? = some (.loop (rec0 st pe)) → A.heap[w.heap.size]? = some (.deferred (some [])) →
      A'.heap[w.heap.size + 1]? = some (.loop (rec0 st pe)) ∧ A'.heap[w.heap.size]? = some (.deferred (some [])) := fun hg' hr h1 h2 =>
    ⟨kept_noncells hg' (fun r e => (hr r e).2) h1 rfl, kept_noncells hg' (fun r e => (hr r e).2) h2 rfl⟩
  refine (hseq (w.heap.size + 1)
    (fun k W => I k W ∧ W.heap[w.heap.size + 1]? = some (.loop (rec0 .ready none)) ∧ W.heap[w.heap.size]? = some (.deferred (some [])))
    (fun k W => ∃ c, Ix c k W ∧ W.heap[w.heap.size + 1]? = some (.loop (rec0 .done (some c))) ∧ W.heap[w.heap.size]? = some (.deferred (some [])))
    W1 hb1 (fun s A A' row hs hg' hr => ⟨hI s A A' row hs.1 hg' (not_walk_cells (by omega) hr), keepL hg' hr hs.2.1 hs.2.2⟩)
    (fun s A A' row hs hg' hr => by
      obtain ⟨c, hc, h1, h2⟩ := hs
      exact ⟨c, hIx c s A A' row hc hg' (not_walk_cells (by omega) hr), keepL hg' hr h1 h2⟩) ?_ ⟨hI1, hL1, hD1⟩).mono ?_
  · rintro k W hk ⟨hi, hl, hd⟩
    refine ⟨fn, _, assign, body, run_yield (P := P) (args := enc k) hl (hps k), roundIn_of_wpIn (n := 9) hfn (hassign _ k W _ hk hi ?_)⟩
    intro a' Wa hka hba hia hax
    have hla := hka.same _ _ (by omega) hl rfl
    have hda := hka.same _ _ (Nat.le_refl _) hd rfl
    have hlt : w.heap.size + 1 < Wa.heap.size := (Array.getElem?_eq_some_iff.1 hla).1
    refine ⟨_, run_beginRound hla rfl, ?_⟩
    have hl2 : (Wa.putObj (w.heap.size + 1) (.loop { rec0 .ready none with state := .busy })).heap[w.heap.size + 1]? = some (.loop { rec0 .ready none with state := .busy }) := World.putObj_heap_same hlt
    have hd2 : (Wa.putObj (w.heap.size + 1) (.loop { rec0 .ready none with state := .busy })).heap[w.heap.size]? = some (.deferred (some [])) := (World.putObj_heap_other (by omega)).trans hda
    refine wpIn_mono (hbody _ k a' _ hk (by omega) ⟨_, hl2⟩ (hI.putObj _ hia (by omega) hla rfl) ((hAx k a').putObj (s := ()) _ hax (by omega) hla rfl)) ?_
    have put : ∀ (A : World) (o : Obj), KeepB S A (A.putObj (w.heap.size + 1) o) := fun A o b hb => World.putObj_heap_other (by have := hS b hb; omega)
    have fin : ∀ (jump : Option Code) (W3 : World), KeepsFrom w.heap.size (Wa.putObj (w.heap.size + 1) (.loop { rec0 .ready none with state := .busy })) W3 →
        (Instr.endRound (w.heap.size + 1) jump).run P W3 = .ok (.bool jump.isNone) (W3.putObj (w.heap.size + 1) (.loop (rec0 (if jump.isNone then .ready else .done) jump))) ∧
        W3.heap[w.heap.size + 1]? = some (.loop { rec0 .ready none with state := .busy }) ∧
        (W3.putObj (w.heap.size + 1) (.loop (rec0 (if jump.isNone then .ready else .done) jump))).heap[w.heap.size + 1]? = some (.loop (rec0 (if jump.isNone then .ready else .done) jump)) ∧
        (W3.putObj (w.heap.size + 1) (.loop (rec0 (if jump.isNone then .ready else .done) jump))).heap[w.heap.size]? = some (.deferred (some [])) := fun jump W3 hk3 => by
      have hl3 := hk3.same _ _ (by omega) hl2 rfl
      exact ⟨run_endRound (P := P) jump hl3, hl3, World.putObj_heap_same (Array.getElem?_eq_some_iff.1 hl3).1, (World.putObj_heap_other (by omega)).trans (hk3.same _ _ (Nat.le_refl _) hd2 rfl)⟩
    rintro e a3 W3 hp
    cases e with
    | normal =>
      obtain ⟨hk3, hb3, hi3⟩ := hp
      obtain ⟨hr, hl3, hl4, hd4⟩ := fin none W3 hk3
      exact ⟨_, _, hr, .inl ⟨rfl, ⟨hI.putObj _ hi3 (by omega) hl3 rfl, hl4, hd4⟩, ((hba.trans (put _ _)).trans hb3).trans (put _ _)⟩⟩
    | ret =>
      obtain ⟨hr, hl3, hl4, hd4⟩ := fin (some .ret) W3 hp.1
      exact ⟨_, _, hr, .inr ⟨rfl, .ret, (hIx _).putObj _ hp.2 (by omega) hl3 rfl, hl4, hd4⟩⟩
    | exit id =>
      obtain ⟨hr, hl3, hl4, hd4⟩ := fin (some (.exit id)) W3 hp.1
      exact ⟨_, _, hr, .inr ⟨rfl, .exit id, (hIx _).putObj _ hp.2 (by omega) hl3 rfl, hl4, hd4⟩⟩
    | goto t =>
      obtain ⟨hr, hl3, hl4, hd4⟩ := fin (some (.goto t)) W3 hp.1
      exact ⟨_, _, hr, .inr ⟨rfl, .goto t, (hIx _).putObj _ hp.2 (by omega) hl3 rfl, hl4, hd4⟩⟩
    | panic ch => exact hp.elim
    | outgrown => exact hp.elim
  · rintro e W2 ⟨⟨v, rfl⟩, ⟨hi, hl, hd⟩ | ⟨k, hk, c, hi, hl, hd⟩⟩
    · exact ⟨none, _, run_endLoop (P := P) hl (by simp [rec0]), hdone _ _ (Nat.le_refl _) (hI.putObj _ hi (by omega) hl rfl) ((World.putObj_heap_other (by omega)).trans hd)⟩
    · exact ⟨some c, _, run_endLoop (P := P) hl (by simp [rec0]), wpIn_wide.2 (hstop _ c k _ (Nat.le_refl _) hk ((hIx c).putObj _ hi (by omega) hl rfl) ((World.putObj_heap_other (by omega)).trans hd))⟩

/-- The same, where the assignment to the loop's variables lays no block: the frame behind it is known. -/
theorem wp_rangeGoes_plain {g : Operand} {ps : Array Tmp} {assign body : Code} {Q : Exit → Act → World → Prop} {a : Act} {w : World} {gf : Nat} {lb : Array Value}
    (hg : a.eval g = .func (.func gf) #[] lb) (eg : ∀ args w, (callFunc gf args).run P w = .ok (.enter gf args) w)
    {enc : Nat → Array Value} {S : Nat → Prop} {N : Nat} (hseq : Goes P gf lb enc S N w) (hS : ∀ b, S b → b < w.heap.size) (hps : ∀ k, (enc k).size = ps.size)
    (I : Nat → World → Prop) (Ix : Code → Nat → World → Prop) (hI : OwnFrom w.heap.size I) (hIx : ∀ c, OwnFrom w.heap.size (Ix c)) (h0 : I 0 w) (F : Nat → Act)
    (hassign : ∀ (l k : Nat) (W : World) (K : Act → World → Prop), K (F k) W →
      assign.wpIn (Fence.wide.inRound l) 9 P (Exit.then K (fun _ _ _ => False)) { tmps := (ps.zip (enc k)).foldl (fun t (p, v) => t.setIfInBounds p v) a.tmps, defers := [] } W)
    (hbody : ∀ (l k : Nat) (W : World), k < N → w.heap.size ≤ l → (∃ r, W.heap[l]? = some (.loop r)) → I k W → body.wpIn (Fence.wide.inRound l) 9 P (roundEnds w.heap.size S I Ix k W) (F k) W)
    (hdone : ∀ (D : Nat) (W : World), w.heap.size ≤ D → I N W → W.heap[D]? = some (.deferred (some [])) → Q .normal { a with defers := { target := .collected D, args := #[] } :: a.defers } W)
    (hstop : ∀ (D : Nat) (c : Code) (k : Nat) (W : World), w.heap.size ≤ D → k < N → Ix c k W → W.heap[D]? = some (.deferred (some [])) → c.wp P Q { a with defers := { target := .collected D, args := #[] } :: a.defers } W) :
    (Code.rangeFunc g ps assign body).wp P Q a w :=
  wp_rangeGoes hg eg hseq hS hps I Ix hI hIx h0 (fun k a' _ => a' = F k) (fun _ _ _ _ _ _ h _ _ => h)
    (fun l k W K _ hi hK => hassign l k W K (hK _ _ (KeepsFrom.refl _ _) (KeepB.refl _ _) hi rfl))
    (fun l k a' W hk hl hr hi e => by subst e; exact hbody l k W hk hl hr hi) hdone hstop

/-- A function's contract from its body, where the body holds such a loop. -/
theorem calls_of_marks {f : FuncId} {fn : Func} {c : Code} {args : Array Value} {w : World} {R : Ending → World → Prop} (hf : P.funcs[f]? = some fn) (hb : fn.body = some c)
    (h : c.wp P (bodyPostM Fence.wide 9 P fn R) { tmps := args ++ Array.replicate (fn.ntmps - args.size) undef, defers := [] } w) : Calls P f args w R :=
  callsIn_wide.1 (callsIn_of_wp_marks (n := 9) hf hb trivial (wpIn_wide.2 h))

/-- The way out, where no loop was come to. -/
theorem marks_none {fn : Func} {R : Ending → World → Prop} {tmps : Array Value} {w : World} {v : Value} (hr : (results fn tmps).run P w = .ok v w) (hR : R (.returned v) w) :
    bodyPostM Fence.wide 9 P fn R .ret { tmps := tmps, defers := [] } w := ⟨v, hr, hR⟩

/-- The way out behind one loop. -/
theorem marks_one {fn : Func} {R : Ending → World → Prop} {tmps : Array Value} {w : World} {v : Value} {D : Nat} (hD : w.heap[D]? = some (.deferred (some [])))
    (hr : (results fn tmps).run P (w.putObj D (.deferred none)) = .ok v (w.putObj D (.deferred none))) (hR : R (.returned v) (w.putObj D (.deferred none))) :
    bodyPostM Fence.wide 9 P fn R .ret { tmps := tmps, defers := [{ target := .collected D, args := #[] }] } w :=
  ⟨by simp, .inl ⟨_, _, rfl, run_takeDeferred hD, v, hr, hR⟩⟩

end Go.Proofs.YtkbnglcpcehaiaaDoor

namespace Go.Proofs.YtkbnglcpcehaiaaDoor
open Go Go.RowKit Go.Shelf
open Go.Maps (Keyed)
open Go.ChangeMaps (setBlock heap_setBlock_same modify_eq_set)
open Go.WideElems (Fit rd rg pl rd_val elemAt)

section
variable {H : Type} {P : Program} {k e t : TypeId} {w : World} {b n : Nat} {D : DataW H}

/-- The key that stands last alone is found. -/
theorem find_last (K : Keyed P k) (w : World) {key : Value} {kl : Lit} (hkey : keyOf P k key = some kl) (l : List MapEntry) (z : Value) (st : Nat) (hl : ∀ x ∈ l, ∃ q, keyOf P k x.key = some q) (hn : ∀ x ∈ l, x.key ≠ key) :
    ∃ i, (Instr.findKey k key (l ++ [⟨key, z, st⟩])).run P w = .ok (some (i, z)) w := by
  rcases K.find w hkey (l ++ [⟨key, z, st⟩]) (by
    intro x hx
    rcases List.mem_append.1 hx with h | h
    · exact hl x h
    · simp only [List.mem_singleton] at h
      subst h
      exact ⟨kl, hkey⟩) with ⟨_, h2⟩ | ⟨j, e0, h1, h2, h3⟩
  · exact absurd rfl (h2 ⟨key, z, st⟩ (by simp))
  · have hm : e0 ∈ l ++ [⟨key, z, st⟩] := List.mem_of_getElem? h2
    rcases List.mem_append.1 hm with h | h
    · exact absurd h3 (hn e0 h)
    · simp only [List.mem_singleton] at h
      subst h
      exact ⟨j, h1⟩

theorem store_run {w1 : World} {es1 : Array MapEntry} {clock1 st i : Nat} (hb1 : w1.heap[b]? = some (.map es1 clock1)) (hidx : es1.findIdx? (fun e => ((e.born : Nat) : Int) == ((st : Nat) : Int)) = some i) (v : Value) :
    (Instr.entryStore t (.map (some b)) (.int .i64 st) v).run P w1 = .ok () (setBlock w1 b (.map (es1.modify i fun e => { e with val := v }) clock1)) := by
  simp [Instr.entryStore, MapKept.run_getObj_map hb1, asInt, asIntOf, hidx, MapKept.run_setObj_map _ hb1, Result.andThen, setBlock]

theorem setBlock_twice (w : World) (b : Nat) (o o' : Obj) : setBlock (setBlock w b o) b o' = setBlock w b o' := by
  simp [setBlock]

theorem goInt_nat (n : Nat) : goInt n = .int .i64 n := rfl

set_option maxHeartbeats 1000000 in
theorem incr_run (K : Keyed P k) (ht : P.underlying t = some (.map k e)) (he : P.underlying e = some (.int .i64)) (hz : ∀ u : World, (zeroValue e).run P u = .ok (.int .i64 0) u)
    (hown : w.ownsMap P k (plainElem P e) b n D) (hn : n < maxLen) {key : Value} {kl : Lit} (hkey : keyOf P k key = some kl) :
    ∃ (c : Int) (st : Nat) (w1 : World), D.atKey kl (.lit (.int .i64 0)) = .lit (.int .i64 c) ∧ (Instr.lookup t (.map (some b)) key false).run P w = .ok (.int .i64 c) w ∧
      (Instr.mapEntry t (.map (some b)) key).run P w = .ok (.tuple #[.int .i64 c, .int .i64 st]) w1 ∧ (Instr.lookup t (.map (some b)) key false).run P w1 = .ok (.int .i64 c) w1 ∧
      ∀ c' : Int, (Lit.int .i64 c').wf = true → ∃ w2, (Instr.entryStore t (.map (some b)) (.int .i64 st) (.int .i64 c')).run P w1 = .ok () w2 ∧ w2.ownsMap P k (plainElem P e) b (n + 1) (D.put kl (.lit (.int .i64 c'))) ∧ w.grownBy w2 (some b) := by
  obtain ⟨c, hrun, hat, _⟩ := hown.lookup_int K ht he (hz w) hkey
  have hup := fun (c' : Int) (hw' : (Lit.int .i64 c').wf = true) => hown.update K ht hn hkey (plainElem_int (H := H) he hw')
  obtain ⟨es, clock, hb, F, _, rfl⟩ := hown
  obtain ⟨s1, s2, _⟩ := F.stamped
  have heap1 : ∀ (es1 : Array MapEntry) (clock1 : Nat), (setBlock w b (.map es1 clock1)).heap[b]? = some (.map es1 clock1) := fun es1 clock1 => heap_setBlock_same hb _
  rcases K.find w hkey es.toList F.keys with ⟨h1, h2⟩ | ⟨j, e0, h1, h2, h3⟩
  · have hc : c = 0 := by
      simp [Instr.lookup, run_underlying ht, MapKept.run_getObj_map hb, K.check w _ hkey, h1, hz, Result.andThen] at hrun
      omega
    subst hc
    refine ⟨0, clock, setBlock w b (.map (es.push ⟨key, .int .i64 0, clock⟩) (clock + 1)), hat, hrun, ?_, ?_, fun c' hw' => ?_⟩
    · simp [Instr.mapEntry, run_underlying ht, MapKept.run_getObj_map hb, K.check w false hkey, h1, hz, MapKept.run_setObj_map _ hb, Result.andThen, setBlock, goInt]
    · obtain ⟨i, hi⟩ := find_last K (setBlock w b (.map (es.push ⟨key, .int .i64 0, clock⟩) (clock + 1))) hkey es.toList (.int .i64 0) clock F.keys h2
      simp [Instr.lookup, run_underlying ht, MapKept.run_getObj_map (heap1 _ _), K.check _ _ hkey, hi, Result.andThen]
    · obtain ⟨w2, hr2, ho2, hg2⟩ := hup c' hw'
      refine ⟨w2, ?_, ho2, hg2⟩
      rw [← hr2]
      have hidx : (es.push ⟨key, .int .i64 0, clock⟩).findIdx? (fun e => ((e.born : Nat) : Int) == ((clock : Nat) : Int)) = some es.size := by
        rw [WideElems.findIdx_arr]
        exact WideElems.findIdx_born (l := (es.push ⟨key, .int .i64 0, clock⟩).toList) (j := es.size) (e0 := ⟨key, .int .i64 0, clock⟩) (by
          simp only [Array.toList_push, List.map_append, List.map_cons, List.map_nil]
          refine List.nodup_append.2 ⟨s2, by simp, fun a ha c hc e1 => ?_⟩
          simp only [List.mem_singleton] at hc
          obtain ⟨x, hx, rfl⟩ := List.mem_map.1 ha
          have := s1 x hx
          omega) (by simp)
      have hmod : (es.push ⟨key, .int .i64 0, clock⟩).modify es.size (fun e => { e with val := .int .i64 c' }) = es.push ⟨key, .int .i64 c', clock⟩ := by
        apply Array.ext'
        rw [Array.toList_modify, Array.toList_push, Array.toList_push, ← Array.length_toList, WideElems.modify_last]
      rw [store_run (heap1 _ _) hidx, setBlock_twice, hmod]
      simp [Instr.mapUpdate, run_underlying ht, MapKept.run_getObj_map hb, K.check w false hkey, h1, MapKept.run_setObj_map _ hb, Result.andThen, setBlock]
  · have hv0 : e0.val = .int .i64 c := by
      simp [Instr.lookup, run_underlying ht, MapKept.run_getObj_map hb, K.check w _ hkey, h1, Result.andThen] at hrun
      exact hrun
    have hj : es[j]? = some e0 := by simpa using h2
    have hsame : es.modify j (fun e => { e with key := key }) = es := by
      apply Array.ext'
      rw [Array.toList_modify, modify_eq_set _ _ _ _ h2]
      have : ({ e0 with key := key } : MapEntry) = e0 := by rw [← h3]
      rw [this]
      exact WideElems.set_self _ _ _ h2
    refine ⟨c, e0.born, setBlock w b (.map es clock), hat, hrun, ?_, ?_, fun c' hw' => ?_⟩
    · simp [Instr.mapEntry, run_underlying ht, MapKept.run_getObj_map hb, K.check w false hkey, h1, hj, h3, hv0, K.stays w hkey, hsame, MapKept.run_setObj_map _ hb, Result.andThen, setBlock, goInt]
    · have hf : (Instr.findKey k key es.toList).run P (setBlock w b (.map es clock)) = .ok (some (j, e0.val)) (setBlock w b (.map es clock)) := by
        have hw : setBlock w b (.map es clock) = w := by
          unfold setBlock
          have : w.heap.setIfInBounds b (.map es clock) = w.heap := by
            apply Array.ext'
            rw [Array.toList_setIfInBounds]
            exact WideElems.set_self _ _ _ (by simpa using hb)
          rw [this]
        rw [hw]
        exact h1
      simp [Instr.lookup, run_underlying ht, MapKept.run_getObj_map (heap1 _ _), K.check _ _ hkey, hf, hv0, Result.andThen]
    · obtain ⟨w2, hr2, ho2, hg2⟩ := hup c' hw'
      refine ⟨w2, ?_, ho2, hg2⟩
      rw [← hr2]
      have hidx : es.findIdx? (fun e => ((e.born : Nat) : Int) == ((e0.born : Nat) : Int)) = some j := by
        rw [WideElems.findIdx_arr]
        exact WideElems.findIdx_born s2 h2
      have hmod : es.modify j (fun e => { e with val := .int .i64 c' }) = es.modify j (fun e' => { e' with key := key, val := .int .i64 c' }) := by
        apply Array.ext'
        rw [Array.toList_modify, Array.toList_modify, modify_eq_set _ _ _ _ h2, modify_eq_set _ _ _ _ h2, ← h3]
      rw [store_run (heap1 _ _) hidx, setBlock_twice, hmod]
      simp [Instr.mapUpdate, run_underlying ht, MapKept.run_getObj_map hb, K.check w false hkey, h1, hj, h3, K.stays w hkey, MapKept.run_setObj_map _ hb, Result.andThen, setBlock]
end

end Go.Proofs.YtkbnglcpcehaiaaDoor

namespace Go.Proofs.YtkbnglcpcehaiaaDoor
open Go Go.RowKit Go.Shelf

section
variable {P : Program} {ops : Array Oper} {Q : Exit → Act → World → Prop} {md : Region.Mode} {S : World → Prop} {T : Nat}

/-- Whatever order is picked, and S holds behind each operation ahead of T. -/
def wpAnyT (P : Program) (md : Region.Mode) (ops : Array Oper) (Q : Exit → Act → World → Prop) (S : World → Prop) (T : Nat) : Nat → Array Bool → Act → World → Prop
  | 0, listed, a, w => Region.ready md ops listed = [] ∧ Q .normal a w
  | fuel + 1, listed, a, w =>
    (Region.ready md ops listed = [] → Q .normal a w) ∧
    ∀ i ∈ Region.ready md ops listed, wpOp P ops Q i (fun a' w' => (i < T → S w') ∧ wpAnyT P md ops Q S T fuel (listed.setIfInBounds i true) a' w') a w

theorem wpAny_of_T : ∀ (fuel : Nat) (listed : Array Bool) (a : Act) (w : World), wpAnyT P md ops Q S T fuel listed a w → wpAny P md ops Q fuel listed a w
  | 0, _, _, _, h => h
  | fuel + 1, _, _, _, h => ⟨h.1, fun i hi => wpOp_mono (fun a' w' h' => wpAny_of_T fuel _ a' w' h'.2) (h.2 i hi)⟩

/-- Each operation from T on waits for number i. -/
def lateB (md : Region.Mode) (ops : Array Oper) (T i : Nat) : Bool :=
  (List.range ops.size).all fun j => decide (j < T) || (match ops[j]? with | some oj => oj.after.any (fun e => Region.binds md e && e.on == i) | none => true)

theorem lateB_spec {i j : Nat} {oj : Oper} (h : lateB md ops T i = true) (hT : T ≤ j) (hj : ops[j]? = some oj) : ∃ e ∈ oj.after, Region.binds md e = true ∧ e.on = i := by
  have hlt : j < ops.size := (Array.getElem?_eq_some_iff.1 hj).1
  have h1 := List.all_eq_true.1 h j (List.mem_range.2 hlt)
  rw [hj] at h1
  simp only [Bool.or_eq_true, decide_eq_true_eq] at h1
  rcases h1 with h1 | h1
  · omega
  · rw [← Array.any_toList] at h1
    obtain ⟨e, he, hb⟩ := List.any_eq_true.1 h1
    simp only [Bool.and_eq_true, beq_iff_eq] at hb
    exact ⟨e, Array.mem_toList_iff.1 he, hb.1, hb.2⟩

theorem wpAnyT_first {i : Nat} {oi : Oper} {v : Value} (hi : ops[i]? = some oi) (hsel : ∀ (j : Nat) (o : Oper) cs b, ops[j]? = some o → o.op ≠ .select cs b)
    (hQ : ∀ c a w, Q (.panic c) (a.put oi.dst v) w → Q (.panic c) a w) (hlate : ∀ j oj, T ≤ j → ops[j]? = some oj → ∃ e ∈ oj.after, Region.binds md e = true ∧ e.on = i) :
    ∀ (fuel : Nat) (listed : Array Bool) (a : Act) (w : World),
      (∀ j oj, ops[j]? = some oj → j ≠ i → listed.getD j true = false → (∀ e ∈ oj.after, Region.binds md e = true → e.on ≠ i) → oi.apart ops oj = true) →
      i ∈ Region.ready md ops listed → YieldsIf P ops S oi v a → S w →
      wpAnyT P md ops Q S T fuel (listed.setIfInBounds i true) (a.put oi.dst v) w → wpAnyT P md ops Q S T (fuel + 1) listed a w := by
  intro fuel
  induction fuel with
  | zero =>
    intro listed a w _ hr hy hS H
    refine ⟨fun h => (by rw [h] at hr; cases hr), fun j hj => ?_⟩
    by_cases hji : j = i
    · subst hji
      exact hy.wpOp hi hS ⟨fun _ => hS, H⟩
    · have := ready_mono hj hji
      rw [H.1] at this
      cases this
  | succ fuel ih =>
    intro listed a w hfree hr hy hS H
    refine ⟨fun h => (by rw [h] at hr; cases hr), fun j hj => ?_⟩
    by_cases hji : j = i
    · subst hji
      exact hy.wpOp hi hS ⟨fun _ => hS, H⟩
    · have h1 := H.2 j (ready_mono hj hji)
      obtain ⟨hjun, oj, hoj, hall⟩ := mem_ready.1 hj
      have hnot : ∀ e ∈ oj.after, Region.binds md e = true → e.on ≠ i := fun e he hb heq => by
        have h1 := hall e he hb
        have h0 := (mem_ready.1 hr).1
        rw [heq] at h1
        rcases Nat.lt_or_ge i listed.size with h' | h'
        · simp [h'] at h0 h1
          rw [h0] at h1
          cases h1
        · simp [Array.getElem?_eq_none h'] at h1
      have hjT : j < T := by
        rcases Nat.lt_or_ge j T with h | h
        · exact h
        · obtain ⟨e, he, hb, heq⟩ := hlate j oj h hoj
          exact absurd heq (hnot e he hb)
      have h2 := wpOp_putIf hoj (hfree j oj hoj hji hjun hnot) (fun cs b => hsel i oi cs b hi) (fun cs b => hsel j oj cs b hoj) hQ hy h1
      have hfree' : ∀ k ok, ops[k]? = some ok → k ≠ i → (listed.setIfInBounds j true).getD k true = false →
          (∀ e ∈ ok.after, Region.binds md e = true → e.on ≠ i) → oi.apart ops ok = true := fun k ok hk hki hun hno => by
        refine hfree k ok hk hki ?_ hno
        by_cases hjk : j = k
        · subst hjk
          exact hjun
        · rw [getD_set_ne true hjk] at hun
          exact hun
      refine wpOp_mono (fun a' w' h3 => ⟨h3.2.1, ih (listed.setIfInBounds j true) a' w' hfree' (ready_mono hr (Ne.symm hji)) h3.1 (h3.2.1 hjT) ?_⟩) h2
      rw [Array.setIfInBounds_comm _ _ hji]
      exact h3.2.2

/-- An operation taken first. -/
theorem wpAnyT_take {l : List Oper} {i : Nat} {oi : Oper} {v : Value} {fuel : Nat} {listed : Array Bool} {a : Act} {w : World} (hi : l[i]? = some oi)
    (hs : Region.noSelect l.toArray = true) (hf : Region.free md l.toArray listed i = true) (hr : (Region.ready md l.toArray listed).contains i = true) (hl : lateB md l.toArray T i = true)
    (hQ : ∀ c a w, Q (.panic c) (a.put oi.dst v) w → Q (.panic c) a w) (hy : YieldsIf P l.toArray S oi v a) (hS : S w)
    (h : wpAnyT P md l.toArray Q S T fuel (listed.setIfInBounds i true) (a.put oi.dst v) w) : wpAnyT P md l.toArray Q S T (fuel + 1) listed a w :=
  wpAnyT_first (by simpa using hi) (Region.noSelect_spec hs) hQ (fun _ _ hT hj => lateB_spec hl hT hj) fuel listed a w (Region.free_spec (by simpa using hi) hf) (by simpa using hr) hy hS h

/-- One alone may come up. -/
theorem wpAnyT_one {l : List Oper} {i : Nat} {o : Oper} {fuel : Nat} {listed : Array Bool} {a : Act} {w : World} (hr : Region.ready md l.toArray listed = [i]) (ho : l[i]? = some o)
    (h : ∀ K' : Act → World → Prop, Shut (∀ a w, (i < T → S w) → wpAnyT P md l.toArray Q S T fuel (listed.setIfInBounds i true) a w → K' a w) →
      if Region.wanted o (yielded l.toArray a.tmps) = true then Oper.wp P o a w K' Q else K' (a.put o.dst undef) w) : wpAnyT P md l.toArray Q S T (fuel + 1) listed a w := by
  refine ⟨fun h0 => (by rw [hr] at h0; cases h0), fun j hj => ?_⟩
  rw [hr] at hj
  obtain rfl : j = i := by simpa using hj
  exact wpOp_step (by simpa using ho) (fun K' hK => h K' (fun a w hS hW => hK a w ⟨hS, hW⟩))

/-- One of two may come up. -/
theorem wpAnyT_two {l : List Oper} {i k : Nat} {o u : Oper} {fuel : Nat} {listed : Array Bool} {a : Act} {w : World} (hr : Region.ready md l.toArray listed = [i, k]) (ho : l[i]? = some o) (hu : l[k]? = some u)
    (h : ∀ K' : Act → World → Prop, Shut (∀ a w, (i < T → S w) → wpAnyT P md l.toArray Q S T fuel (listed.setIfInBounds i true) a w → K' a w) →
      if Region.wanted o (yielded l.toArray a.tmps) = true then Oper.wp P o a w K' Q else K' (a.put o.dst undef) w)
    (h2 : ∀ K' : Act → World → Prop, Shut (∀ a w, (k < T → S w) → wpAnyT P md l.toArray Q S T fuel (listed.setIfInBounds k true) a w → K' a w) →
      if Region.wanted u (yielded l.toArray a.tmps) = true then Oper.wp P u a w K' Q else K' (a.put u.dst undef) w) : wpAnyT P md l.toArray Q S T (fuel + 1) listed a w := by
  refine ⟨fun h0 => (by rw [hr] at h0; cases h0), fun j hj => ?_⟩
  rw [hr] at hj
  rcases (show j = i ∨ j = k by simpa using hj) with rfl | rfl
  · exact wpOp_step (by simpa using ho) (fun K' hK => h K' (fun a w hS hW => hK a w ⟨hS, hW⟩))
  · exact wpOp_step (by simpa using hu) (fun K' hK => h2 K' (fun a w hS hW => hK a w ⟨hS, hW⟩))

/-- All have come up. -/
theorem wpAnyT_done {listed : Array Bool} {a : Act} {w : World} (hr : Region.ready md ops listed = []) (h : Q .normal a w) : ∀ fuel, wpAnyT P md ops Q S T fuel listed a w
  | 0 => ⟨hr, h⟩
  | _ + 1 => ⟨fun _ => h, by rw [hr]; simp⟩

/-- The beginning. -/
theorem wp_region_T {id : Nat} {a : Act} {w : World} (S : World → Prop) (T : Nat) (hm : P.follows .mixedOrders = true)
    (h : wpAnyT P .any ops Q S T ops.size (Array.replicate ops.size false) a w.drew) : (Code.region id ops true).wp P Q a w :=
  wp_region_any hm (wpAny_of_T _ _ _ _ h)

end

end Go.Proofs.YtkbnglcpcehaiaaDoor

namespace Go.Proofs.YtkbnglcpcehaiaaDoor
open Go.ChangeShapes Go.WideShapes Go.ChangeAt Go.RowKit

set_option maxRecDepth 100000

theorem lawOwn : ownKnob Tryd.prog.godebug = none := by kernel_rfl
theorem lawLaid : laidOutB Tryd.prog = true := by kernel_rfl
theorem bytes_u8 : Tryd.prog.bytesOf 5 = 1 := by kernel_rfl

theorem wf_u8 {n : Int} (h : (Lit.int .u8 n).wf = true) : 0 ≤ n ∧ n < 256 := by
  simp [Lit.wf, IntKind.min, IntKind.max, IntKind.signed, IntKind.bits] at h
  omega

/-- The bytes of numbers. -/
def ofNums (zs : List Int) : List UInt8 := zs.map fun z => UInt8.ofNat z.toNat

theorem byteAt_ofNums (zs : List Int) (hz : ∀ z ∈ zs, 0 ≤ z ∧ z < 256) (j : Nat) (hj : j < zs.length) : byteAt (ofNums zs) j = zs.getD j 0 := by
  have h := hz zs[j] (List.getElem_mem hj)
  simp only [byteAt, ofNums, List.getElem?_map, List.getElem?_eq_getElem hj, Option.map_some, Option.getD_some, UInt8.toNat_ofNat', List.getD]
  omega

section
variable {H : Type} {enc : TypeId × Value → H} {W : World} {base : Nat}

/-- A slice of bytes that came in. -/
theorem open_bytes {ts : List TypeId} {ds : List (DataW H)} {jn : Nat} {v : Value} {d : DataW H} {p : List MemPlace} (hv : Value.okWide Tryd.prog W .any base 42 v)
    (hd : DataW.Trod enc Tryd.prog W 0 (fun _ => true) true 42 v d p) (hlt : ∀ x ∈ p, x.block < W.heap.size)
    (hsz : (DataW.weightsEach Tryd.prog ts ds).all (· ≤ reachBytes) = true) (ht : ts[jn]? = some 42) (hdj : ds[jn]? = some d) :
    ∃ a c bs, v = .slice a (List.length bs) c ∧ bs.length ≤ c ∧ bs.length ≤ 140737488351232 ∧ RdB W W.heap.size a bs := by
  obtain ⟨a0, len, cap, rfl⟩ := okWide_slice Tryd.underlying42 hv
  obtain ⟨fuel, hf⟩ := hd
  rcases open_ints Tryd.underlying42 Tryd.underlying5 (by kernel_rfl) hf with ⟨hcs, hx⟩ | ⟨x, l, c, zs, hcs, _, hl, hm, hz, hx, hcell, hwz⟩
  · simp [Value.cells] at hcs
    obtain ⟨rfl, rfl, rfl⟩ := hcs
    exact ⟨none, 0, [], rfl, Nat.le_refl _, by simp, RdB.nil _ _ _⟩
  · simp [Value.cells] at hcs
    obtain ⟨rfl, rfl, rfl⟩ := hcs
    simp only [Prod.mk.injEq] at hx
    obtain ⟨rfl, rfl⟩ := hx
    simp only [if_true] at hz
    have hreach : len ≤ 140737488351232 := by
      have := sized_slice hsz (j := jn) (t := 42) (e := 5) ht hdj Tryd.underlying42
      rw [bytes_u8] at this
      simp only [lits, List.length_map, List.length_take, List.length_drop, reachBytes] at this
      omega
    have hbl : (ofNums (zs.take len)).length = len := by simp [ofNums]; omega
    refine ⟨some x, cap, ofNums (zs.take len), by rw [hbl], by rw [hbl]; exact hl, by rw [hbl]; exact hreach, ?_⟩
    by_cases hl0 : len = 0
    · exact .inl (List.eq_nil_of_length_eq_zero (by rw [hbl]; exact hl0))
    · obtain ⟨b, off, spot⟩ := x
      have hspot : spot = none := by simpa [Addr.add] using World.cell?_spot (hcell 0 (by omega))
      subst hspot
      have hbW : b < W.heap.size := hlt (.cell b off) (MemPlace.mem_row.2 ⟨0, by omega, by simp⟩)
      refine .inr ⟨b, off, rfl, hbW, fun j hj => ?_⟩
      rw [hbl] at hj
      have h1 := hcell j (by omega)
      rw [mk_addr_add] at h1
      rw [h1, byteAt_ofNums _ (fun z hz' => wf_u8 (hwz z (List.mem_of_mem_take hz'))) j (by simp; omega)]
      simp [List.getD, hj]

end

end Go.Proofs.YtkbnglcpcehaiaaDoor

namespace Go.Proofs.YtkbnglcpcehaiaaDoor
open Go.RowKit Go.Shelf

/-- A slice value of the call's own (its block from base on), holding just these cells. -/
def OwnV (w : World) (base : Nat) (e : TypeId) (v : Value) (xs : List Value) : Prop := w.ownsRow base e 1 v xs.length xs

/-- A slice at A reads as these cells. -/
def Src (w : World) (A : Option Addr) (ys : List Value) : Prop := ys = [] ∨ ∃ ad, A = some ad ∧ ∀ j u, ys[j]? = some u → w.cell? (ad.add j) = some u

theorem Src.alloc {w : World} {A : Option Addr} {ys : List Value} (h : Src w A ys) (o : Obj) : Src (w.alloc o) A ys := by
  rcases h with h | ⟨ad, e, hc⟩
  · exact .inl h
  · exact .inr ⟨ad, e, fun j u hu => by
      have h1 := hc j u hu
      rw [World.cell?_alloc_lt _ _ _ (World.block_lt_of_cell? w _ h1)]
      exact h1⟩

theorem OwnV.nil (w : World) (base : Nat) (e : TypeId) : OwnV w base e (.slice none 0 0) [] := World.ownsRow_nil w base e 1

theorem OwnV.kept {w w' : World} {base : Nat} {e : TypeId} {v : Value} {xs : List Value} {row : Option Nat} (h : OwnV w base e v xs) (hg : w.grownBy w' row) (hne : v.ownBlock = none ∨ v.ownBlock ≠ row) : OwnV w' base e v xs :=
  World.ownsRow.kept h hg hne

theorem OwnV.alloc {w : World} {base : Nat} {e : TypeId} {v : Value} {xs : List Value} (h : OwnV w base e v xs) (o : Obj) : OwnV (w.alloc o) base e v xs := World.ownsRow.alloc h o

theorem OwnV.lit (w : World) (base : Nat) (e : TypeId) (cs : Array Value) (hb : base ≤ w.heap.size) (hm : cs.size ≤ maxLen) : OwnV (w.alloc (.cells cs e)) base e (.slice (some ⟨w.heap.size, 0, none⟩) cs.size cs.size) cs.toList := by
  unfold OwnV
  rw [Array.length_toList]
  exact World.ownsRow_lit w cs cs.size hb hm (by simp)

/-- Its shape, its cells. -/
theorem OwnV.form {w : World} {base : Nat} {e : TypeId} {v : Value} {xs : List Value} (h : OwnV w base e v xs) :
    (v = .slice none 0 0 ∧ xs = []) ∨ ∃ g cap, v = .slice (some ⟨g, 0, none⟩) xs.length cap ∧ base ≤ g ∧ g < w.heap.size ∧ xs.length ≤ cap ∧ cap ≤ maxLen ∧ (∀ j, j < xs.length → w.cell? ⟨g, j, none⟩ = xs[j]?) ∧ (∀ j, w.frozen? ⟨g, j, none⟩ = false) := by
  rcases h.2 with ⟨rfl, h0⟩ | ⟨g, cap, cur, rfl, hb, hg, hn, hm, hs, ht⟩
  · exact .inl ⟨rfl, List.eq_nil_of_length_eq_zero h0⟩
  · refine .inr ⟨g, cap, rfl, hb, (Array.getElem?_eq_some_iff.1 hg).1, hn, hm, fun j hj => ?_, fun j => by simp [World.frozen?, hg]⟩
    have h1 : w.cell? ⟨g, j, none⟩ = cur[j]? := by simp [World.cell?, hg]
    rw [h1, ← ht, List.getElem?_take, if_pos (by omega)]
    simp

theorem OwnV.src {w : World} {base : Nat} {e : TypeId} {A : Option Addr} {n c : Nat} {xs : List Value} (h : OwnV w base e (.slice A n c) xs) : Src w A xs := by
  rcases h.form with ⟨_, rfl⟩ | ⟨g, cap, hv, _, _, _, _, hc, _⟩
  · exact .inl rfl
  · injection hv with hA
    refine .inr ⟨⟨g, 0, none⟩, hA, fun j u hu => ?_⟩
    rw [mk_addr_add, Nat.zero_add, hc j (List.getElem?_eq_some_iff.1 hu).1]
    exact hu

theorem src_one (w : World) (u : Value) (t : TypeId) : Src (w.alloc (.cells #[u] t)) (some ⟨w.heap.size, 0, none⟩) [u] :=
  (OwnV.lit w 0 t #[u] (Nat.zero_le _) (by simp [maxLen])).src

theorem OwnV.base {w : World} {base base' : Nat} {e : TypeId} {v : Value} {xs : List Value} (h : OwnV w base e v xs) (hb : base' ≤ base) : OwnV w base' e v xs := by
  obtain ⟨h1, h2⟩ := h
  refine ⟨h1, ?_⟩
  rcases h2 with h2 | ⟨g, cap, cur, hv, hg, r⟩
  · exact .inl h2
  · exact .inr ⟨g, cap, cur, hv, Nat.le_trans hb hg, r⟩

theorem OwnV.row {w : World} {base : Nat} {e : TypeId} {v : Value} {xs : List Value} (h : OwnV w base e v xs) : ∀ r, v.ownBlock = some r → base ≤ r ∧ r < w.heap.size := World.ownsRow.lt h

section
variable {P : Program} (w : World)

theorem run_append_nothing (base : Nat) (t ty e : TypeId) (i : TypeInfo) (ht : P.underlying t = some (.slice e)) (hi : P.info? e = some i)
    (v : Value) (xs : List Value) (hown : OwnV w base e v xs) (c : Nat) : (Builtin.append_ #[t, t] ty #[v, .slice none 0 c]).run P w = .ok v w := by
  rcases hown.form with ⟨rfl, rfl⟩ | ⟨g, cap, rfl, _, _, hn, _⟩
  · simp [Builtin.append_, run_underlying ht, sizeOf, typeInfo, hi, Builtin.lenOf, Builtin.firstCells]
  · simp [Builtin.append_, run_underlying ht, sizeOf, typeInfo, hi, Builtin.lenOf, Builtin.firstCells, hn, storeCells]

/-- WHAT AN APPEND MAKES. -/
def AppPost (w : World) (base : Nat) (e : TypeId) (v : Value) (xs ys : List Value) (v' : Value) (w' : World) : Prop :=
  OwnV w' base e v' (xs ++ ys) ∧ w.grownBy w' v.ownBlock ∧ (v'.ownBlock = v.ownBlock ∨ v'.ownBlock = some w.heap.size)

theorem run_app (base : Nat) (t ty e : TypeId) (z : Value) (bytes : Nat) (ht : P.underlying t = some (.slice e)) (hinfo : (P.info? e).map (fun i => (i.zero, i.size, i.bytes)) = some (some z, 1, bytes)) (hz1 : z.cells.size = 1)
    (v : Value) (xs : List Value) (hown : OwnV w base e v xs) (A : Option Addr) (m c : Nat) (ys : List Value) (hm : ys.length = m) (hs : Src w A ys) (h1 : ∀ u ∈ ys, u.oneCell' = true)
    (h63 : xs.length + ys.length ≤ maxLen) (hbytes : (xs.length + ys.length) * bytes ≤ 140737488355328) (hbase : base ≤ w.heap.size) :
    ∃ v' w', (Builtin.append_ #[t, t] ty #[v, .slice A m c]).run P w = .ok v' w' ∧ AppPost w base e v xs ys v' w' := by
  obtain ⟨i, hi, hz0, hsz, hb⟩ := info_parts hinfo
  subst hm
  rcases A with _ | ad
  · obtain rfl : ys = [] := by
      rcases hs with h | ⟨ad, h, _⟩
      · exact h
      · cases h
    exact ⟨v, w, run_append_nothing w base t ty e i ht hi v xs hown c, by simpa using hown, World.grownBy.refl w _, .inl rfl⟩
  · have hcells : ∀ j u, ys[j]? = some u → w.cell? (ad.add j) = some u := by
      intro j u hu
      rcases hs with rfl | ⟨ad', h, hc⟩
      · simp at hu
      · injection h with h
        subst h
        exact hc j u hu
    obtain ⟨v', w', hrun, h2, h3, _, h5⟩ := run_append_own_at (P := P) w base t ty e i z 1 bytes ht hi hz0 hsz hb hz1 (by decide) v xs.length xs hown ad ys.length c ys (by simp) hcells h1 h63 hbytes hbase
    refine ⟨v', w', hrun, ?_, h3, h5⟩
    unfold OwnV
    rw [List.length_append]
    exact h2

/-- One element more: what lay below base lies as it lay. -/
theorem AppPost.below {w : World} {base : Nat} {e : TypeId} {v : Value} {xs ys : List Value} {v' : Value} {w' : World} (h : AppPost w base e v xs ys v' w') (hown : OwnV w base e v xs) (hb : base ≤ w.heap.size) : Below base w w' :=
  (Below.refl _ _).grown h.2.1 hb (fun r e => (hown.row r e).1)

theorem wpList_app {ops : Array Oper} {rest : List Oper} {o : Oper} {a : Act} {Q : Exit → Act → World → Prop} (hgd : o.guard = none) (s x : Operand) (t : TypeId)
    (ho : o.op = .call { callee := .builtin .append, args := #[s, x], argTypes := #[t, t] })
    (base : Nat) (e : TypeId) (z : Value) (bytes : Nat) (ht : P.underlying t = some (.slice e)) (hinfo : (P.info? e).map (fun i => (i.zero, i.size, i.bytes)) = some (some z, 1, bytes)) (hz1 : z.cells.size = 1)
    (v : Value) (xs : List Value) (hv : a.eval s = v) (hown : OwnV w base e v xs) (A : Option Addr) (m c : Nat) (ys : List Value) (hx : a.eval x = .slice A m c) (hm : ys.length = m) (hs : Src w A ys) (h1 : ∀ u ∈ ys, u.oneCell' = true)
    (h63 : xs.length + ys.length ≤ maxLen) (hbytes : (xs.length + ys.length) * bytes ≤ 140737488355328) (hbase : base ≤ w.heap.size)
    (h : ∀ v' w', AppPost w base e v xs ys v' w' → wpList P ops Q rest (a.put o.dst v') w') : wpList P ops Q (o :: rest) a w :=
  wpList_plain hgd fun _ hK => by
    obtain ⟨v', w', hrun, hp⟩ := run_app (P := P) w base t o.type e z bytes ht hinfo hz1 v xs hown A m c ys hm hs h1 h63 hbytes hbase
    unfold Oper.wp execOp
    simp only [ho, resolve, invoke, builtin, Sem.run_bind, Sem.run_pure, Result.andThen_ok, List.map_toArray, List.map_cons, List.map_nil, hv, hx, hrun]
    exact hK _ _ (h v' w' hp)

end

/-- A byte's cell. -/
def encB (c : UInt8) : Value := .int .u8 (c.toNat : Int)

theorem encB_at (bs : List UInt8) (j : Nat) (hj : j < bs.length) : (bs.map encB)[j]? = some (.int .u8 (byteAt bs j)) := by
  simp [encB, byteAt, List.getElem?_eq_getElem hj]

theorem encB_one (bs : List UInt8) : ∀ u ∈ bs.map encB, u.oneCell' = true := by
  intro u hu
  obtain ⟨c, _, rfl⟩ := List.mem_map.1 hu
  rfl

theorem RdB.src {w : World} {B : Nat} {a : Option Addr} {bs : List UInt8} (h : RdB w B a bs) : Src w a (bs.map encB) := by
  rcases h with rfl | ⟨b, o, e, _, hc⟩
  · exact .inl rfl
  · refine .inr ⟨_, e, fun j u hu => ?_⟩
    have hj : j < bs.length := by
      have := (List.getElem?_eq_some_iff.1 hu).1
      simpa using this
    rw [encB_at bs j hj] at hu
    injection hu with hu
    subst hu
    rw [mk_addr_add]
    exact hc j hj

/-- Bytes of the call's own. -/
theorem OwnV.bytes {w : World} {base : Nat} {e : TypeId} {v : Value} {bs : List UInt8} (h : OwnV w base e v (bs.map encB)) :
    ∃ a c, v = .slice a bs.length c ∧ bs.length ≤ c ∧ RdB w w.heap.size a bs ∧ (∀ p, a = some p → base ≤ p.block ∧ p.block < w.heap.size) := by
  rcases h.form with ⟨rfl, hx⟩ | ⟨g, cap, rfl, hb, hlt, hn, _, hc, _⟩
  · obtain rfl : bs = [] := by simpa using hx
    exact ⟨none, 0, rfl, Nat.le_refl _, .inl rfl, fun p hp => by cases hp⟩
  · rw [List.length_map] at hn
    refine ⟨some ⟨g, 0, none⟩, cap, by rw [List.length_map], hn, .inr ⟨g, 0, rfl, hlt, fun j hj => ?_⟩, fun p hp => by cases hp; exact ⟨hb, hlt⟩⟩
    rw [Nat.zero_add, hc j (by simpa using hj), encB_at bs j hj]

/-! ### Cuts of a slice -/

/-- Where a cut of a slice lies. -/
def subA (a : Option Addr) (l m : Nat) : Option Addr := if m = l then a else a.map (·.add (l * 1))

theorem subA_block {a : Option Addr} {l m : Nat} {q : Addr} (h : subA a l m = some q) : ∃ p, a = some p ∧ q.block = p.block := by
  unfold subA at h
  split at h
  · exact ⟨q, h, rfl⟩
  · rcases a with _ | p
    · cases h
    · refine ⟨p, rfl, ?_⟩
      have : p.add (l * 1) = q := by simpa using h
      rw [← this]
      unfold Addr.add
      split <;> rfl

theorem RdB.cut {w : World} {B : Nat} {a : Option Addr} {bs : List UInt8} (h : RdB w B a bs) (l m k : Nat) (hm : l + k ≤ m) : RdB w B (subA a l m) ((bs.drop l).take k) := by
  rcases h with rfl | ⟨b, o, rfl, hlt, hc⟩
  · exact .inl (by simp)
  · by_cases hk : k = 0
    · subst hk
      exact .inl (by simp)
    · refine .inr ⟨b, o + l, ?_, hlt, fun j hj => ?_⟩
      · unfold subA
        rw [if_neg (by omega)]
        simp [mk_addr_add]
      · simp at hj
        rw [byteAt_take _ _ _ (by omega), byteAt_drop, Nat.add_assoc]
        exact hc (l + j) (by omega)

section
variable {P : Program}

theorem run_cut3 (t e : TypeId) (ht : P.underlying t = some (.slice e)) (hz : ∀ w, (Go.sizeOf e).run P w = .ok 1 w) (a : Option Addr) (n cap l h m : Nat) (h1 : l ≤ h) (h2 : h ≤ m) (h3 : m ≤ cap) (w : World) :
    (Instr.slice t (.slice a n cap) (some (.int .i64 (l : Int))) (some (.int .i64 (h : Int))) (some (.int .i64 (m : Int)))).run P w = .ok (.slice (subA a l m) (h - l) (m - l)) w := by
  have ht' : P.underlying t = some (.slice (P.elem t)) := by simp [Program.elem, ht]
  have he : P.elem t = e := by simp [Program.elem, ht]
  rw [run_slice_lhm w t a n cap ht' .i64 .i64 .i64 l h m (by omega) (by omega) (by omega) (by omega), he, hz]
  simp [Result.andThen, sliced, subA]

theorem run_cut2 (t e : TypeId) (ht : P.underlying t = some (.slice e)) (hz : ∀ w, (Go.sizeOf e).run P w = .ok 1 w) (a : Option Addr) (n cap l h : Nat) (h1 : l ≤ h) (h2 : h ≤ cap) (w : World) :
    (Instr.slice t (.slice a n cap) (some (.int .i64 (l : Int))) (some (.int .i64 (h : Int))) none).run P w = .ok (.slice (subA a l cap) (h - l) (cap - l)) w := by
  have ht' : P.underlying t = some (.slice (P.elem t)) := by simp [Program.elem, ht]
  have he : P.elem t = e := by simp [Program.elem, ht]
  rw [run_slice_lh w t a n cap ht' .i64 .i64 l h (by omega) (by omega) (by omega), he, hz]
  simp [Result.andThen, sliced, subA]

theorem run_cut1 (t e : TypeId) (ht : P.underlying t = some (.slice e)) (hz : ∀ w, (Go.sizeOf e).run P w = .ok 1 w) (a : Option Addr) (n cap l : Nat) (h1 : l ≤ n) (w : World) :
    (Instr.slice t (.slice a n cap) (some (.int .i64 (l : Int))) none none).run P w = .ok (.slice (subA a l cap) (n - l) (cap - l)) w := by
  have ht' : P.underlying t = some (.slice (P.elem t)) := by simp [Program.elem, ht]
  have he : P.elem t = e := by simp [Program.elem, ht]
  rw [run_slice_l w t a n cap ht' .i64 l (by omega) (by omega), he, hz]
  simp [Result.andThen, sliced, subA]

/-- 'make([]T, 0, n)', T of one cell. -/
theorem run_make0 (t e : TypeId) (z : Value) (bytes : Nat) (ht : P.underlying t = some (.slice e)) (hinfo : (P.info? e).map (fun i => (i.zero, i.size, i.bytes)) = some (some z, 1, bytes)) (hz1 : z.cells = #[z])
    (n : Nat) (hbytes : bytes * n ≤ 281474976710656) (h63 : n ≤ 9223372036854775807) (w : World) :
    (Instr.makeSlice t (.int .i64 0) (.int .i64 (n : Int))).run P w = .ok (.slice (some ⟨w.heap.size, 0, none⟩) 0 n) (w.alloc (.cells (madeCells #[z] n) e)) := by
  obtain ⟨i, hi, hz0, hsz, hb⟩ := info_parts hinfo
  have hb' : (i.bytes : Int) * (n : Int) ≤ 281474976710656 := by
    have h : ((i.bytes * n : Nat) : Int) ≤ 281474976710656 := by rw [hb]; omega
    rwa [Int.natCast_mul] at h
  have hr := run_make (P := P) w t e i z ht hi hz0 .i64 .i64 0 n (by omega) (by omega) hb' (by omega)
  simp only [Int.toNat_natCast, hsz, Nat.mul_one, hz1] at hr
  exact hr

theorem OwnV.made (w : World) (base : Nat) (e : TypeId) (z : Value) (n : Nat) (hb : base ≤ w.heap.size) (hm : n ≤ maxLen) : OwnV (w.alloc (.cells (madeCells #[z] n) e)) base e (.slice (some ⟨w.heap.size, 0, none⟩) 0 n) [] :=
  World.ownsRow_made w (madeCells #[z] n) n hb hm (by rw [size_madeCells, Nat.mul_one])

end

/-! ### Lists of pieces -/

/-- A slice value that reads as these bytes, its block from B0 on, below B1. -/
def PieceV (w : World) (B0 B1 : Nat) (v : Value) (p : List UInt8) : Prop :=
  ∃ A c, v = .slice A p.length c ∧ p.length ≤ c ∧ RdB w B1 A p ∧ (∀ q, A = some q → B0 ≤ q.block ∧ q.block < B1)

/-- Slice values, one for each piece. -/
def Pcs (w : World) (B0 B1 : Nat) (vs : List Value) (ps : List (List UInt8)) : Prop :=
  vs.length = ps.length ∧ ∀ j, j < ps.length → PieceV w B0 B1 (vs[j]?.getD undef) (ps[j]?.getD [])

theorem PieceV.below {w w' : World} {B0 B1 : Nat} {v : Value} {p : List UInt8} (h : PieceV w B0 B1 v p) (hb : Below B1 w w') : PieceV w' B0 B1 v p := by
  obtain ⟨A, c, hv, hc, hr, ha⟩ := h
  exact ⟨A, c, hv, hc, hr.below hb, ha⟩

theorem PieceV.mono {w : World} {B0 B1 B2 : Nat} {v : Value} {p : List UInt8} (h : PieceV w B0 B1 v p) (hb : B1 ≤ B2) : PieceV w B0 B2 v p := by
  obtain ⟨A, c, hv, hc, hr, ha⟩ := h
  exact ⟨A, c, hv, hc, hr.mono hb, fun q hq => ⟨(ha q hq).1, Nat.lt_of_lt_of_le (ha q hq).2 hb⟩⟩

theorem Pcs.below {w w' : World} {B0 B1 : Nat} {vs : List Value} {ps : List (List UInt8)} (h : Pcs w B0 B1 vs ps) (hb : Below B1 w w') : Pcs w' B0 B1 vs ps := ⟨h.1, fun j hj => (h.2 j hj).below hb⟩

theorem Pcs.mono {w : World} {B0 B1 B2 : Nat} {vs : List Value} {ps : List (List UInt8)} (h : Pcs w B0 B1 vs ps) (hb : B1 ≤ B2) : Pcs w B0 B2 vs ps := ⟨h.1, fun j hj => (h.2 j hj).mono hb⟩

theorem Pcs.nil (w : World) (B0 B1 : Nat) : Pcs w B0 B1 [] [] := ⟨rfl, fun j hj => absurd hj (Nat.not_lt_zero j)⟩

theorem Pcs.snoc {w : World} {B0 B1 : Nat} {vs : List Value} {ps : List (List UInt8)} {v : Value} {p : List UInt8} (h : Pcs w B0 B1 vs ps) (hp : PieceV w B0 B1 v p) : Pcs w B0 B1 (vs ++ [v]) (ps ++ [p]) := by
  refine ⟨by simp [h.1], fun j hj => ?_⟩
  simp at hj
  by_cases e : j < ps.length
  · rw [List.getElem?_append_left (by rw [h.1]; exact e), List.getElem?_append_left e]
    exact h.2 j e
  · obtain rfl : j = ps.length := by omega
    rw [List.getElem?_append_right (by rw [h.1]; exact Nat.le_refl _), List.getElem?_append_right (Nat.le_refl _), h.1]
    simpa using hp

end Go.Proofs.YtkbnglcpcehaiaaDoor
