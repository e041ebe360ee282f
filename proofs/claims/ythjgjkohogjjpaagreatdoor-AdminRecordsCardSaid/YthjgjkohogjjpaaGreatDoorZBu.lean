/- Joined texts. -/
import Derived.Test.YthjgjkohogjjpaaGreatDoorZJa
import Derived.Maps.AppendAt
import Derived.OwnWalk
import Derived.Deep.CutRange
import Derived.Deep.RegionHeld3
import Derived.Test.YthjgjkohogjjpaaGreatDoorZKv
set_option linter.unusedSimpArgs false
set_option linter.unusedVariables false
set_option maxRecDepth 100000
namespace Go.Proofs.YthjgjkohogjjpaaGreatDoor
open Go Go.RowKit Go.Shelf

theorem box_at {w w' : World} {cs : Array Value} {t : TypeId} (h : Below (w.alloc (.cells cs t)).heap.size (w.alloc (.cells cs t)) w') (i : Nat) : w'.cell? ⟨w.heap.size, i, none⟩ = cs[i]? :=
 (h.cell (p := ⟨w.heap.size, i, none⟩) (by simp)).trans (by rw [World.cell?_alloc_mark])

theorem frozen_at {w w' : World} {cs : Array Value} {t : TypeId} (h : Below (w.alloc (.cells cs t)).heap.size (w.alloc (.cells cs t)) w') (i : Nat) : w'.frozen? ⟨w.heap.size, i, none⟩ = false :=
 (h.frozen (p := ⟨w.heap.size, i, none⟩) (by simp)).trans (by simp)

theorem take_listed {P : Program} {l : List Oper} {Q : Exit → Act → World → Prop} {md : Region.Mode} {S : World → Prop} {i : Nat} {oi : Oper} {v : Value} {fuel : Nat} {listed : Array Bool} {a : Act} {w : World} (hi : l[i]? = some oi)
  (hs : Region.noSelect l.toArray = true) (hf : Region.free md l.toArray listed i = true) (hr : (Region.ready md l.toArray listed).contains i = true)
  (hQ : ∀ c a w, Q (.panic c) (a.put oi.dst v) w → Q (.panic c) a w) (hy : YieldsIf P l.toArray S oi v a) (hS : S w)
  (h : wpAnyH P md l.toArray Q S fuel (listed.setIfInBounds i true) (a.put oi.dst v) w) : wpAnyH P md l.toArray Q S (fuel + 1) listed a w :=
 wpAnyH_take (by simpa using hi) hs hf hr hQ hy hS h

def RowB (w : World) (b : Nat) (vs : List Value) : Prop := (∀ i v, vs[i]? = some v → w.cell? ⟨b, i, none⟩ = some v) ∧ ∀ i, w.frozen? ⟨b, i, none⟩ = false

theorem RowB.on {w w' : World} {b : Nat} {vs : List Value} (h : RowB w b vs) (hb : Below w.heap.size w w') (hlt : b < w.heap.size) : RowB w' b vs :=
 ⟨fun i v hv => (hb.cell (p := ⟨b, i, none⟩) hlt).trans (h.1 i v hv), fun i => (hb.frozen (p := ⟨b, i, none⟩) hlt).trans (h.2 i)⟩

theorem RowB.set {w : World} {b : Nat} {vs : List Value} (h : RowB w b vs) (i : Nat) (v : Value) : RowB (w.setCell ⟨b, i, none⟩ v) b (vs.set i v) := by
 refine ⟨fun j u hj => ?_, fun j => (World.frozen?_setCell ..).trans (h.2 j)⟩
 by_cases e : i = j
 ·subst e
  rw [List.getElem?_set] at hj
  simp only [if_true] at hj
  split at hj
  ·rename_i hi
   injection hj with hj
   subst hj
   exact World.cell?_setCell_same _ _ _ (h.1 i _ (List.getElem?_eq_getElem hi))
  ·cases hj
 ·rw [List.getElem?_set_ne e] at hj
  exact (World.cell?_setCell_other _ _ _ _ (by simp <;> omega)).trans (h.1 j u hj)

theorem RowB.other {w : World} {b c i : Nat} {vs : List Value} (h : RowB w b vs) (hne : c ≠ b) (v : Value) : RowB (w.setCell ⟨c, i, none⟩ v) b vs :=
 ⟨fun j u hj => (World.cell?_setCell_other _ _ _ _ (by intro h'; injection h' with h1; exact hne h1)).trans (h.1 j u hj), fun j => (World.frozen?_setCell ..).trans (h.2 j)⟩

theorem RowB.new (w : World) (vs : List Value) (t : TypeId) : RowB (w.alloc (.cells vs.toArray t)) w.heap.size vs :=
 ⟨fun i v hv => by rw [World.cell?_alloc_mark]; simpa using hv, fun i => World.frozen?_alloc_new _ _ _ _⟩

def LI (w : World) (S : Nat → Prop) : List Value → List It → Prop
 | xs, [] => xs = []
 | xs, x :: l => ∃ v0 v1 v2 v3 v4 rest, xs = v0 :: v1 :: v2 :: v3 :: v4 :: rest ∧ ItS w S (.agg #[v0, v1, v2, v3, v4]) x ∧ LI w S rest l

theorem LI.keep {w w' : World} {S : Nat → Prop} (hk : KeepB S w w') : ∀ {l : List It} {xs : List Value}, LI w S xs l → LI w' S xs l
 | [], _, h => h
 | x :: l, xs, h => by
  obtain ⟨v0, v1, v2, v3, v4, rest, e, hx, hr⟩ := h
  exact ⟨v0, v1, v2, v3, v4, rest, e, hx.keep hk, LI.keep hk hr⟩

theorem LI.more {w : World} {S T : Nat → Prop} (hST : ∀ b, S b → T b) : ∀ {l : List It} {xs : List Value}, LI w S xs l → LI w T xs l
 | [], _, h => h
 | x :: l, xs, h => by
  obtain ⟨v0, v1, v2, v3, v4, rest, e, hx, hr⟩ := h
  exact ⟨v0, v1, v2, v3, v4, rest, e, hx.more hST, LI.more hST hr⟩

theorem LI.app {w : World} {S : Nat → Prop} {m : List It} {ys : List Value} (hm : LI w S ys m) : ∀ {l : List It} {xs : List Value}, LI w S xs l → LI w S (xs ++ ys) (l ++ m)
 | [], xs, h => by
  have h : xs = [] := h
  subst h
  exact hm
 | y :: l, xs, h => by
  obtain ⟨u0, u1, u2, u3, u4, rest, rfl, hy, hr⟩ := h
  exact ⟨u0, u1, u2, u3, u4, rest ++ ys, rfl, hy, LI.app hm hr⟩

theorem LI.one {w : World} {S : Nat → Prop} {x : It} {v0 v1 v2 v3 v4 : Value} (hx : ItS w S (.agg #[v0, v1, v2, v3, v4]) x) : LI w S [v0, v1, v2, v3, v4] [x] :=
 ⟨v0, v1, v2, v3, v4, [], rfl, hx, rfl⟩

theorem LI.itSL {w : World} {S : Nat → Prop} {g : Nat} : ∀ {l : List It} {xs : List Value} {o : Nat}, LI w S xs l → (∀ j u, xs[j]? = some u → w.cell? ⟨g, o + j, none⟩ = some u) → ItSL w S g o l
 | [], _, _, _, _ => by simp only [ItSL]
 | x :: l, xs, o, h, hc => by
  obtain ⟨v0, v1, v2, v3, v4, rest, rfl, hx, hr⟩ := h
  simp only [ItSL]
  refine ⟨⟨_, ⟨v0, v1, v2, v3, v4, rfl, hc 0 _ rfl, hc 1 _ rfl, hc 2 _ rfl, hc 3 _ rfl, hc 4 _ rfl⟩, hx⟩, LI.itSL hr fun j u hj => ?_⟩
  have := hc (j + 5) u (by simpa using hj)
  rw [show o + 5 + j = o + (j + 5) by omega]
  exact this

theorem LI.length {w : World} {S : Nat → Prop} : ∀ {l : List It} {xs : List Value}, LI w S xs l → xs.length = l.length * 5
 | [], xs, h => by
  have h : xs = [] := h
  subst h
  rfl
 | x :: l, xs, h => by
  obtain ⟨v0, v1, v2, v3, v4, rest, rfl, _, hr⟩ := h
  have := LI.length hr
  simp only [List.length_cons]
  omega

def newBut (w wr : World) (v : Value) (b : Nat) : Prop := newB w wr b ∧ v.ownBlock ≠ some b

def ListO (w wr : World) (v : Value) (l : List It) : Prop := Below w.heap.size w wr ∧ ∃ xs, wr.ownsRow w.heap.size 51 5 v l.length xs ∧ LI wr (newBut w wr v) xs l

theorem ListO.nil {w wr : World} (h : Below w.heap.size w wr) : ListO w wr (.slice none 0 0) [] := ⟨h, [], World.ownsRow_nil _ _ _ _, rfl⟩

theorem ListO.app {w wr w1 w2 : World} {v v' : Value} {l m : List It} {xs ys : List Value} (hb : Below w.heap.size w wr) (hown : wr.ownsRow w.heap.size 51 5 v l.length xs) (hls : LI wr (newBut w wr v) xs l)
  (hb1 : Below wr.heap.size wr w1) (hy : LI w1 (newBut w w1 v) ys m) (h2 : w2.ownsRow w.heap.size 51 5 v' (l.length + m.length) (xs ++ ys)) (h3 : w1.grownBy w2 v.ownBlock) (h5 : v'.ownBlock = v.ownBlock ∨ v'.ownBlock = some w1.heap.size) :
  ListO w w2 v' (l ++ m) := by
 have hrow := World.ownsRow.lt hown
 have hsz := hb.size
 have hsz1 := hb1.size
 have hB2 : Below w.heap.size w1 w2 := bR.grown h3 (by omega) (fun k hk => (hrow k hk).1)
 have hsz2 := hB2.size
 have hkeep : ∀ S : Nat → Prop, (∀ b, S b → b < w1.heap.size) → (∀ r, v.ownBlock = some r → ¬ S r) → KeepB S w1 w2 := fun S hS hne =>
  KeepB.grown (S := S) (fun b hb => rfl) hS h3 hne
 have k1 : KeepB (newBut w wr v) w1 w2 := hkeep _ (fun b hb => Nat.lt_of_lt_of_le hb.1.2 hsz1) (fun r hr hs => hs.2 hr)
 have k0 : KeepB (newBut w wr v) wr w2 := fun b hb => (k1 b hb).trans (hb1.block b hb.1.2)
 have k2 : KeepB (newBut w w1 v) w1 w2 := hkeep _ (fun b hb => hb.1.2) (fun r hr hs => hs.2 hr)
 have hT : ∀ b, newBut w w1 v b → newBut w w2 v' b := fun b hb => ⟨⟨hb.1.1, by have := hb.1.2; omega⟩, fun q => by
  rcases h5 with h5 | h5
  ·rw [h5] at q
   exact hb.2 q
  ·rw [h5] at q
   injection q with q
   have := hb.1.2
   omega⟩
 have hS : ∀ b, newBut w wr v b → newBut w w2 v' b := fun b hb => ⟨⟨hb.1.1, by have := hb.1.2; omega⟩, fun q => by
  rcases h5 with h5 | h5
  ·rw [h5] at q
   exact hb.2 q
  ·rw [h5] at q
   injection q with q
   have := hb.1.2
   omega⟩
 refine ⟨hb.trans ((hb1.mono hsz).trans hB2), xs ++ ys, ?_, LI.app ((hy.keep k2).more hT) ((hls.keep k0).more hS)⟩
 rw [List.length_append]
 exact h2

theorem ListO.form {w wr : World} {v : Value} {l : List It} (h : ListO w wr v l) :
  ∃ A C, v = .slice A l.length C ∧ l.length ≤ C ∧ (l = [] ∨ ∃ g, A = some ⟨g, 0, none⟩ ∧ newB w wr g ∧ ItSL wr (newB w wr) g 0 l) := by
 obtain ⟨hb, xs, hown, hls⟩ := h
 rcases hown.2 with ⟨rfl, h0⟩ | ⟨gg, cp, cur, rfl, hb0, hg, hn, hm, hs, htk⟩
 ·obtain rfl : l = [] := List.eq_nil_of_length_eq_zero h0
  exact ⟨none, 0, rfl, Nat.le_refl _, .inl rfl⟩
 ·have hlt := (Array.getElem?_eq_some_iff.1 hg).1
  refine ⟨some ⟨gg, 0, none⟩, cp, rfl, hn, .inr ⟨gg, rfl, ⟨hb0, hlt⟩, ?_⟩⟩
  refine ItSL.more (fun b hb => hb.1) l (LI.itSL hls fun i u hi => ?_)
  have h1 : wr.cell? ⟨gg, 0 + i, none⟩ = cur[i]? := by simp [World.cell?, hg]
  rw [h1]
  have hil : i < xs.length := (List.getElem?_eq_some_iff.1 hi).1
  rw [← htk, List.getElem?_take] at hi
  split at hi
  ·simpa using hi
  ·cases hi

theorem ListO.item {w wr : World} {v : Value} {l : List It} (h : ListO w wr v l) (hs : l.length ≤ 1000000) : ∃ A C, v = .slice A l.length C ∧ ItS wr (newB w wr) (listV A l.length C) (itLs l) := by
 obtain ⟨A, C, rfl, hc, hl⟩ := h.form
 refine ⟨A, C, rfl, ?_⟩
 unfold itLs listV
 simp only [ItS]
 refine ⟨A, ⟨none, 0, C, rfl, ⟨Nat.le_refl _, hc⟩, .inl rfl, ⟨by decide, by decide⟩, by decide, Nat.zero_le _, Nat.zero_le _, by unfold Sz; omega⟩, hl.imp id ?_⟩
 rintro ⟨g, e, hg, hl⟩
 exact ⟨g, 0, e, hg, hl⟩

theorem ListO.src {w wr w1 : World} {v : Value} {l : List It} (h : ListO w wr v l) (hb1 : Below wr.heap.size wr w1) : ∃ A C, v = .slice A l.length C ∧ l.length ≤ C ∧ (A = none → l = []) ∧
  ∃ ys, LI w1 (newB w wr) ys l ∧ (l = [] ∨ ∃ ad, A = some ad ∧ ∀ j u, ys[j]? = some u → w1.cell? (ad.add j) = some u) := by
 obtain ⟨hb, xs, hown, hls⟩ := h
 have hl1 : LI w1 (newB w wr) xs l := LI.more (fun b hb => hb.1) (hls.keep (fun b hb => hb1.block b hb.1.2))
 rcases hown.2 with ⟨rfl, h0⟩ | ⟨gg, cp, cur, rfl, hb0, hg, hn, hm, hs, htk⟩
 ·obtain rfl : l = [] := List.eq_nil_of_length_eq_zero h0
  exact ⟨none, 0, rfl, Nat.le_refl _, fun _ => rfl, xs, hl1, .inl rfl⟩
 ·have hlt := (Array.getElem?_eq_some_iff.1 hg).1
  refine ⟨some ⟨gg, 0, none⟩, cp, rfl, hn, fun e => (by cases e), xs, hl1, .inr ⟨_, rfl, fun j u hu => ?_⟩⟩
  rw [mk_addr_add, Nat.zero_add]
  have h1 : wr.cell? ⟨gg, j, none⟩ = cur[j]? := by simp [World.cell?, hg]
  rw [hb1.cell (p := ⟨gg, j, none⟩) hlt, h1]
  have hil : j < xs.length := (List.getElem?_eq_some_iff.1 hu).1
  rw [← htk, List.getElem?_take] at hu
  split at hu
  ·simpa using hu
  ·cases hu

theorem ListO.lit {w wr : World} {x : It} {v0 v1 v2 v3 v4 : Value} (hb : Below w.heap.size w wr) (hx : ItS wr (newB w wr) (.agg #[v0, v1, v2, v3, v4]) x) : ListO w (wr.alloc (.cells #[v0, v1, v2, v3, v4] 51)) (.slice (some ⟨wr.heap.size, 0, none⟩) 1 1) [x] := by
 refine ⟨below_al hb _, [v0, v1, v2, v3, v4], ⟨rfl, .inr ⟨wr.heap.size, 1, #[v0, v1, v2, v3, v4], rfl, hb.size, World.alloc_heap_new wr _, ⟨Nat.le_refl _, by decide, rfl, rfl⟩⟩⟩, LI.one ?_⟩
 refine ItS.more (fun b hb => ⟨⟨hb.1, ?_⟩, fun q => ?_⟩) _ (ItS.keep (keepNew_below (below_al bR _)) _ hx)
 ·rw [World.size_alloc]
  have := hb.2
  omega
 ·have q' : some wr.heap.size = some b := q
  injection q' with q'
  have := hb.2
  omega

theorem psize_item (w : World) : (Go.sizeOf 51).run Tryz.prog w = .ok 5 w := by kernel_rfl

end Go.Proofs.YthjgjkohogjjpaaGreatDoor
