/- Joined texts. -/
import Derived.Test.YtiahakbkagipkaaGreatDoorZBc
import Derived.Test.YtiahakbkagipkaaGreatDoorZKq
import Derived.Test.YtiahakbkagipkaaGreatDoorZJf
set_option linter.unusedSimpArgs false
set_option linter.unusedVariables false
set_option maxRecDepth 100000
namespace Go.Proofs.YtiahakbkagipkaaGreatDoor
open Go Go.RowKit Go.Shelf

attribute [local go_sem] Oper.semAt_some

theorem ItV.rdB {w : World} {B : Nat} {x : It} {a A : Option Addr} {c C : Nat} (h : ItV w B (.agg #[.int .i64 x.k, .int .u64 x.n, .slice a x.b.length c, .string ⟨x.s.toArray⟩, .slice A x.l.length C]) x) : x.b.length ≤ c ∧ RdB w B a x.b ∧ x.b.length ≤ 140737488355328 := by
 obtain ⟨k, n, b, s, l⟩ := x
 simp only [ItV] at h
 obtain ⟨A1, ⟨a1, c1, C1, e, ⟨hc, _⟩, hr, _, _, hz, _⟩, _⟩ := h
 simp only [It.k, It.n, It.b, It.s, It.l] at e ⊢
 injection e with e
 have e' := congrArg Array.toList e
 simp only [List.cons.injEq, Value.slice.injEq, and_true, true_and] at e'
 obtain ⟨⟨rfl, rfl⟩, _⟩ := e'
 exact ⟨hc, hr, hz⟩

theorem ItSL.at {w : World} {S : Nat → Prop} {g : Nat} : ∀ {l : List It} {o i : Nat} {x : It}, ItSL w S g o l → l[i]? = some x → ∃ v, At5 w g (o + i * 5) v ∧ ItS w S v x
 | [], _, i, _, _, hi => by simp at hi
 | y :: ys, o, 0, x, h, hi => by
  simp only [ItSL] at h
  simp at hi
  subst hi
  simpa using h.1
 | y :: ys, o, i + 1, x, h, hi => by
  simp only [ItSL] at h
  have := ItSL.at h.2 (i := i) (x := x) (by simpa using hi)
  rw [show o + (i + 1) * 5 = o + 5 + i * 5 by omega]
  exact this

def bput4 (w : World) (g : Nat) (v0 v1 v2 v3 : Value) : World := (((w.setCell ⟨g, 0, none⟩ v0).setCell ⟨g, 1, none⟩ v1).setCell ⟨g, 2, none⟩ v2).setCell ⟨g, 3, none⟩ v3
theorem bput4_row {w : World} {g : Nat} {u0 u1 u2 u3 : Value} (h : RowB w g [u0, u1, u2, u3]) (v0 v1 v2 v3 : Value) : RowB (bput4 w g v0 v1 v2 v3) g [v0, v1, v2, v3] := (((h.set 0 v0).set 1 v1).set 2 v2).set 3 v3
theorem bput4_on {B g : Nat} {w0 w : World} (h : Below B w0 w) (hB : B ≤ g) (v0 v1 v2 v3 : Value) : Below B w0 (bput4 w g v0 v1 v2 v3) := by
 unfold bput4
 exact (((h.setCell (p := ⟨g, 0, none⟩) hB _).setCell (p := ⟨g, 1, none⟩) hB _).setCell (p := ⟨g, 2, none⟩) hB _).setCell (p := ⟨g, 3, none⟩) hB _
theorem bput4_block {w : World} {g b : Nat} (h : b ≠ g) (v0 v1 v2 v3 : Value) : (bput4 w g v0 v1 v2 v3).heap[b]? = w.heap[b]? := by
 unfold bput4
 rw [Below.heap_setCell _ _ _ _ h, Below.heap_setCell _ _ _ _ h, Below.heap_setCell _ _ _ _ h, Below.heap_setCell _ _ _ _ h]
theorem bput4_size (w : World) (g : Nat) (v0 v1 v2 v3 : Value) : (bput4 w g v0 v1 v2 v3).heap.size = w.heap.size := by simp [bput4]

attribute [local go_sem] Oper.semAt_some

def BkAt (w0 w : World) (b : Bl) (v : Value) : Prop := ∃ a c, v = .agg #[.int .u64 b.t, .int .u64 b.n, .int .i64 b.s, .slice a b.d.length c] ∧ b.d.length ≤ c ∧ b.d.length ≤ 140737488355328 ∧ RdBS w (newB w0 w) a b.d

theorem BkAt.of {w0 w w1 w2 : World} {b : Bl} {v : Value} (h : BkAt w w1 b v) (h0 : w0.heap.size ≤ w.heap.size) (hs : w1.heap.size ≤ w2.heap.size) (hk : ∀ j, w.heap.size ≤ j → j < w1.heap.size → w2.heap[j]? = w1.heap[j]?) : BkAt w0 w2 b v := by
 obtain ⟨a, c, rfl, hc, hc47, hr⟩ := h
 refine ⟨a, c, rfl, hc, hc47, RdBS.more (RdBS.keep hr fun j hj => hk j hj.1 hj.2) fun j hj => ⟨Nat.le_trans h0 hj.1, Nat.lt_of_lt_of_le hj.2 hs⟩⟩
theorem BkAt.put {w w1 : World} {b : Bl} {v : Value} (h : BkAt w w1 b v) {g : Nat} (hg : g < w.heap.size) (v0 v1 v2 v3 : Value) : BkAt w (bput4 w1 g v0 v1 v2 v3) b v :=
 h.of (Nat.le_refl _) (Nat.le_of_eq (bput4_size w1 g v0 v1 v2 v3).symm) fun j hj _ => bput4_block (by omega) v0 v1 v2 v3
theorem BkAt.set {w w1 : World} {b : Bl} {v : Value} (h : BkAt w w1 b v) {g i : Nat} (hg : g < w.heap.size) (u : Value) : BkAt w (w1.setCell ⟨g, i, none⟩ u) b v :=
 h.of (Nat.le_refl _) (by simp) fun j hj _ => Below.heap_setCell _ _ _ _ (by show j ≠ g; omega)
theorem BkAt.low {w0 w w1 : World} {b : Bl} {v : Value} (h : BkAt w w1 b v) (h0 : w0.heap.size ≤ w.heap.size) : BkAt w0 w1 b v :=
 h.of h0 (Nat.le_refl _) fun _ _ _ => rfl
theorem BkAt.on {w w1 w2 : World} {b : Bl} {v : Value} (h : BkAt w w1 b v) (hb : Below w1.heap.size w1 w2) : BkAt w w2 b v :=
 h.of (Nat.le_refl _) hb.size fun j _ hj => hb.block j hj

theorem bcells4 {w : World} {g : Nat} {v0 v1 v2 v3 : Value} (h : RowB w g [v0, v1, v2, v3]) : w.cell? ⟨g, 0, none⟩ = some v0 ∧ w.cell? ⟨g, 1, none⟩ = some v1 ∧ w.cell? ⟨g, 2, none⟩ = some v2 ∧ w.cell? ⟨g, 3, none⟩ = some v3 :=
 ⟨h.1 0 _ rfl, h.1 1 _ rfl, h.1 2 _ rfl, h.1 3 _ rfl⟩

def RdBl (w : World) (r : Except Int Bl) (e : Ending) (w' : World) : Prop :=
 Below w.heap.size w w' ∧ match r with
  | .ok b => ∃ v, e = .returned v ∧ BkAt w w' b v
  | .error c => e = gives c

end Go.Proofs.YtiahakbkagipkaaGreatDoor
