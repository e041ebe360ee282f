/- Joined texts. -/
import Derived.Test.YteldifnkeekafaaGreatDoorZJa
import Derived.Maps.AppendAt
import Derived.OwnWalk
import Derived.Deep.CutRange
import Derived.Deep.RegionHeld3
import Derived.Test.YteldifnkeekafaaGreatDoorZKv
set_option linter.unusedSimpArgs false
set_option linter.unusedVariables false
set_option maxRecDepth 100000
namespace Go.Proofs.YteldifnkeekafaaGreatDoor
open Go Go.RowKit Go.Shelf

theorem box_at {w w' : World} {cs : Array Value} {t : TypeId} (h : Below (w.alloc (.cells cs t)).heap.size (w.alloc (.cells cs t)) w') (i : Nat) : w'.cell? ⟨w.heap.size, i, none⟩ = cs[i]? :=
 (h.cell (p := ⟨w.heap.size, i, none⟩) (by simp)).trans (by rw [World.cell?_alloc_mark])

theorem frozen_at {w w' : World} {cs : Array Value} {t : TypeId} (h : Below (w.alloc (.cells cs t)).heap.size (w.alloc (.cells cs t)) w') (i : Nat) : w'.frozen? ⟨w.heap.size, i, none⟩ = false :=
 (h.frozen (p := ⟨w.heap.size, i, none⟩) (by simp)).trans (by simp)

theorem take_listed {P : Program} {l : List Oper} {Q : Exit → Act → World → Prop} {md : Region.Mode} {S : World → Prop} {i : Nat} {oi : Oper} {v : Value} {fuel : Nat} {listed : Array Bool} {a : Act} {w : World} (hi : l[i]? = some oi)
  (hs : Region.noSelect l.toArray = true) (hf : Region.free md l.toArray listed i = true) (hr : (Region.ready md l.toArray listed).contains i = true)
  (hQ : ∀ c a w, Q (.panic c) (a.put oi.dst v) w → Q (.panic c) a w) (hy : YieldsIf P l.toArray S oi v a) (hS : S w)
  (h : wpAnyH P md l.toArray Q S fuel (listed.setIfInBounds i true) (a.put oi.dst v) w) : wpAnyH P md l.toArray Q S (fuel + 1) listed a w :=
 wpAnyH_take (by simpa using hi) hs hf hr hQ hy hS h

def RowB (w : World) (b : Nat) (vs : List Value) : Prop := (∀ i v, vs[i]? = some v → w.cell? ⟨b, i, none⟩ = some v) ∧ ∀ i, w.frozen? ⟨b, i, none⟩ = false

theorem RowB.on {w w' : World} {b : Nat} {vs : List Value} (h : RowB w b vs) (hb : Below w.heap.size w w') (hlt : b < w.heap.size) : RowB w' b vs :=
 ⟨fun i v hv => (hb.cell (p := ⟨b, i, none⟩) hlt).trans (h.1 i v hv), fun i => (hb.frozen (p := ⟨b, i, none⟩) hlt).trans (h.2 i)⟩

theorem RowB.set {w : World} {b : Nat} {vs : List Value} (h : RowB w b vs) (i : Nat) (v : Value) : RowB (w.setCell ⟨b, i, none⟩ v) b (vs.set i v) := by
 refine ⟨fun j u hj => ?_, fun j => (World.frozen?_setCell ..).trans (h.2 j)⟩
 by_cases e : i = j
 ·subst e
  rw [List.getElem?_set] at hj
  simp only [if_true] at hj
  split at hj
  ·rename_i hi
   injection hj with hj
   subst hj
   exact World.cell?_setCell_same _ _ _ (h.1 i _ (List.getElem?_eq_getElem hi))
  ·cases hj
 ·rw [List.getElem?_set_ne e] at hj
  exact (World.cell?_setCell_other _ _ _ _ (by simp <;> omega)).trans (h.1 j u hj)

theorem RowB.other {w : World} {b c i : Nat} {vs : List Value} (h : RowB w b vs) (hne : c ≠ b) (v : Value) : RowB (w.setCell ⟨c, i, none⟩ v) b vs :=
 ⟨fun j u hj => (World.cell?_setCell_other _ _ _ _ (by intro h'; injection h' with h1; exact hne h1)).trans (h.1 j u hj), fun j => (World.frozen?_setCell ..).trans (h.2 j)⟩

theorem RowB.new (w : World) (vs : List Value) (t : TypeId) : RowB (w.alloc (.cells vs.toArray t)) w.heap.size vs :=
 ⟨fun i v hv => by rw [World.cell?_alloc_mark]; simpa using hv, fun i => World.frozen?_alloc_new _ _ _ _⟩

theorem r5 {w : World} {b : Nat} {c0 c1 c2 c3 c4 : Value} (h : RowB w b [c0, c1, c2, c3, c4]) : w.cell? ⟨b, 0, none⟩ = some c0 ∧ w.cell? ⟨b, 1, none⟩ = some c1 ∧ w.cell? ⟨b, 2, none⟩ = some c2 ∧ w.cell? ⟨b, 3, none⟩ = some c3 ∧ w.cell? ⟨b, 4, none⟩ = some c4 := ⟨h.1 0 _ rfl, h.1 1 _ rfl, h.1 2 _ rfl, h.1 3 _ rfl, h.1 4 _ rfl⟩
theorem f5 {w : World} {b : Nat} {vs : List Value} (h : RowB w b vs) : w.frozen? ⟨b, 0, none⟩ = false ∧ w.frozen? ⟨b, 1, none⟩ = false ∧ w.frozen? ⟨b, 2, none⟩ = false ∧ w.frozen? ⟨b, 3, none⟩ = false ∧ w.frozen? ⟨b, 4, none⟩ = false := ⟨h.2 0, h.2 1, h.2 2, h.2 3, h.2 4⟩
theorem r15 {w : World} {b : Nat} {c0 c1 c2 c3 c4 c5 c6 c7 c8 c9 c10 c11 c12 c13 c14 : Value} (h : RowB w b [c0, c1, c2, c3, c4, c5, c6, c7, c8, c9, c10, c11, c12, c13, c14]) : w.cell? ⟨b, 0, none⟩ = some c0 ∧ w.cell? ⟨b, 1, none⟩ = some c1 ∧ w.cell? ⟨b, 2, none⟩ = some c2 ∧ w.cell? ⟨b, 3, none⟩ = some c3 ∧ w.cell? ⟨b, 4, none⟩ = some c4 ∧ w.cell? ⟨b, 5, none⟩ = some c5 ∧ w.cell? ⟨b, 6, none⟩ = some c6 ∧ w.cell? ⟨b, 7, none⟩ = some c7 ∧ w.cell? ⟨b, 8, none⟩ = some c8 ∧ w.cell? ⟨b, 9, none⟩ = some c9 ∧ w.cell? ⟨b, 10, none⟩ = some c10 ∧ w.cell? ⟨b, 11, none⟩ = some c11 ∧ w.cell? ⟨b, 12, none⟩ = some c12 ∧ w.cell? ⟨b, 13, none⟩ = some c13 ∧ w.cell? ⟨b, 14, none⟩ = some c14 := ⟨h.1 0 _ rfl, h.1 1 _ rfl, h.1 2 _ rfl, h.1 3 _ rfl, h.1 4 _ rfl, h.1 5 _ rfl, h.1 6 _ rfl, h.1 7 _ rfl, h.1 8 _ rfl, h.1 9 _ rfl, h.1 10 _ rfl, h.1 11 _ rfl, h.1 12 _ rfl, h.1 13 _ rfl, h.1 14 _ rfl⟩
theorem f15 {w : World} {b : Nat} {vs : List Value} (h : RowB w b vs) : w.frozen? ⟨b, 0, none⟩ = false ∧ w.frozen? ⟨b, 1, none⟩ = false ∧ w.frozen? ⟨b, 2, none⟩ = false ∧ w.frozen? ⟨b, 3, none⟩ = false ∧ w.frozen? ⟨b, 4, none⟩ = false ∧ w.frozen? ⟨b, 5, none⟩ = false ∧ w.frozen? ⟨b, 6, none⟩ = false ∧ w.frozen? ⟨b, 7, none⟩ = false ∧ w.frozen? ⟨b, 8, none⟩ = false ∧ w.frozen? ⟨b, 9, none⟩ = false ∧ w.frozen? ⟨b, 10, none⟩ = false ∧ w.frozen? ⟨b, 11, none⟩ = false ∧ w.frozen? ⟨b, 12, none⟩ = false ∧ w.frozen? ⟨b, 13, none⟩ = false ∧ w.frozen? ⟨b, 14, none⟩ = false := ⟨h.2 0, h.2 1, h.2 2, h.2 3, h.2 4, h.2 5, h.2 6, h.2 7, h.2 8, h.2 9, h.2 10, h.2 11, h.2 12, h.2 13, h.2 14⟩

def LI (w : World) (S : Nat → Prop) : List Value → List It → Prop
 | xs, [] => xs = []
 | xs, x :: l => ∃ v0 v1 v2 v3 v4 rest, xs = v0 :: v1 :: v2 :: v3 :: v4 :: rest ∧ ItS w S (.agg #[v0, v1, v2, v3, v4]) x ∧ LI w S rest l

theorem LI.one {w : World} {S : Nat → Prop} {x : It} {v0 v1 v2 v3 v4 : Value} (hx : ItS w S (.agg #[v0, v1, v2, v3, v4]) x) : LI w S [v0, v1, v2, v3, v4] [x] :=
 ⟨v0, v1, v2, v3, v4, [], rfl, hx, rfl⟩

theorem LI.itSL {w : World} {S : Nat → Prop} {g : Nat} : ∀ {l : List It} {xs : List Value} {o : Nat}, LI w S xs l → (∀ j u, xs[j]? = some u → w.cell? ⟨g, o + j, none⟩ = some u) → ItSL w S g o l
 | [], _, _, _, _ => by simp only [ItSL]
 | x :: l, xs, o, h, hc => by
  obtain ⟨v0, v1, v2, v3, v4, rest, rfl, hx, hr⟩ := h
  simp only [ItSL]
  refine ⟨⟨_, ⟨v0, v1, v2, v3, v4, rfl, hc 0 _ rfl, hc 1 _ rfl, hc 2 _ rfl, hc 3 _ rfl, hc 4 _ rfl⟩, hx⟩, LI.itSL hr fun j u hj => ?_⟩
  have := hc (j + 5) u (by simpa using hj)
  rw [show o + 5 + j = o + (j + 5) by omega]
  exact this

theorem psize_item (w : World) : (Go.sizeOf 45).run Tryz.prog w = .ok 5 w := by kernel_rfl

theorem ItL.pcells {w : World} {B g : Nat} {l : List It} {o i : Nat} {y : It} (hL : ItL w B g o l) (hg : g < B) (hi : l[i]? = some y) : ∃ a0 c0 A0 C0, ∀ w', Below B w w' → ItV w' B (.agg #[.int .i64 y.k, .int .u64 y.n, .slice a0 y.b.length c0, .string ⟨y.s.toArray⟩, .slice A0 y.l.length C0]) y ∧ (w'.cell? ⟨g, o + i * 5, none⟩ = some (.int .i64 y.k) ∧ w'.cell? ⟨g, o + i * 5 + 1, none⟩ = some (.int .u64 y.n) ∧ w'.cell? ⟨g, o + i * 5 + 2, none⟩ = some (.slice a0 y.b.length c0) ∧ w'.cell? ⟨g, o + i * 5 + 3, none⟩ = some (.string ⟨y.s.toArray⟩) ∧ w'.cell? ⟨g, o + i * 5 + 4, none⟩ = some (.slice A0 y.l.length C0)) := by
 obtain ⟨v0, p0, q0⟩ := ItL.at hL hi
 obtain ⟨a0, c0, A0, C0, rfl⟩ := q0.form
 refine ⟨a0, c0, A0, C0, fun w' hb => ⟨ItV.below hb _ q0, ?_⟩⟩
 obtain ⟨u0, u1, u2, u3, u4, e, h0, h1, h2, h3, h4⟩ := p0.below hb hg
 injection e with e
 have e' := congrArg Array.toList e
 simp only [List.cons.injEq, and_true] at e'
 obtain ⟨rfl, rfl, rfl, rfl, rfl⟩ := e'
 exact ⟨h0, h1, h2, h3, h4⟩

end Go.Proofs.YteldifnkeekafaaGreatDoor
