/- Joined texts. -/
import Derived.Test.YtiahakbkagipkaaGreatDoorZKv
import Derived.Maps.AppendAt
import Derived.OwnWalk
import Derived.Deep.CutRange
import Derived.Deep.RegionHeld3
set_option linter.unusedSimpArgs false
set_option linter.unusedVariables false
set_option maxRecDepth 100000
namespace Go.Proofs.YtiahakbkagipkaaGreatDoor
open Go Go.RowKit Go.Shelf

def LI (w : World) (S : Nat → Prop) : List Value → List It → Prop
 | xs, [] => xs = []
 | xs, x :: l => ∃ v0 v1 v2 v3 v4 rest, xs = v0 :: v1 :: v2 :: v3 :: v4 :: rest ∧ ItS w S (.agg #[v0, v1, v2, v3, v4]) x ∧ LI w S rest l

theorem LI.keep {w w' : World} {S : Nat → Prop} (hk : KeepB S w w') : ∀ {l : List It} {xs : List Value}, LI w S xs l → LI w' S xs l
 | [], _, h => h
 | x :: l, xs, h => by
  obtain ⟨v0, v1, v2, v3, v4, rest, e, hx, hr⟩ := h
  exact ⟨v0, v1, v2, v3, v4, rest, e, hx.keep hk, LI.keep hk hr⟩

theorem LI.more {w : World} {S T : Nat → Prop} (hST : ∀ b, S b → T b) : ∀ {l : List It} {xs : List Value}, LI w S xs l → LI w T xs l
 | [], _, h => h
 | x :: l, xs, h => by
  obtain ⟨v0, v1, v2, v3, v4, rest, e, hx, hr⟩ := h
  exact ⟨v0, v1, v2, v3, v4, rest, e, hx.more hST, LI.more hST hr⟩

theorem LI.app {w : World} {S : Nat → Prop} {m : List It} {ys : List Value} (hm : LI w S ys m) : ∀ {l : List It} {xs : List Value}, LI w S xs l → LI w S (xs ++ ys) (l ++ m)
 | [], xs, h => by
  have h : xs = [] := h
  subst h
  exact hm
 | y :: l, xs, h => by
  obtain ⟨u0, u1, u2, u3, u4, rest, rfl, hy, hr⟩ := h
  exact ⟨u0, u1, u2, u3, u4, rest ++ ys, rfl, hy, LI.app hm hr⟩

theorem LI.one {w : World} {S : Nat → Prop} {x : It} {v0 v1 v2 v3 v4 : Value} (hx : ItS w S (.agg #[v0, v1, v2, v3, v4]) x) : LI w S [v0, v1, v2, v3, v4] [x] :=
 ⟨v0, v1, v2, v3, v4, [], rfl, hx, rfl⟩

theorem LI.itSL {w : World} {S : Nat → Prop} {g : Nat} : ∀ {l : List It} {xs : List Value} {o : Nat}, LI w S xs l → (∀ j u, xs[j]? = some u → w.cell? ⟨g, o + j, none⟩ = some u) → ItSL w S g o l
 | [], _, _, _, _ => by simp only [ItSL]
 | x :: l, xs, o, h, hc => by
  obtain ⟨v0, v1, v2, v3, v4, rest, rfl, hx, hr⟩ := h
  simp only [ItSL]
  refine ⟨⟨_, ⟨v0, v1, v2, v3, v4, rfl, hc 0 _ rfl, hc 1 _ rfl, hc 2 _ rfl, hc 3 _ rfl, hc 4 _ rfl⟩, hx⟩, LI.itSL hr fun j u hj => ?_⟩
  have := hc (j + 5) u (by simpa using hj)
  rw [show o + 5 + j = o + (j + 5) by omega]
  exact this

theorem LI.length {w : World} {S : Nat → Prop} : ∀ {l : List It} {xs : List Value}, LI w S xs l → xs.length = l.length * 5
 | [], xs, h => by
  have h : xs = [] := h
  subst h
  rfl
 | x :: l, xs, h => by
  obtain ⟨v0, v1, v2, v3, v4, rest, rfl, _, hr⟩ := h
  have := LI.length hr
  simp only [List.length_cons]
  omega

theorem ItS.oneCells {w : World} {S : Nat → Prop} {x : It} {v0 v1 v2 v3 v4 : Value} (h : ItS w S (.agg #[v0, v1, v2, v3, v4]) x) : ∀ u ∈ [v0, v1, v2, v3, v4], u.oneCell' = true := by
 obtain ⟨a, c, A, C, e⟩ := h.form
 have e' : [v0, v1, v2, v3, v4] = [Value.int .i64 x.k, .int .u64 x.n, .slice a x.b.length c, .string ⟨x.s.toArray⟩, .slice A x.l.length C] := congrArg (fun v => match v with | .agg l => l.toList | _ => []) e
 rw [e']
 intro u hu
 simp only [List.mem_cons, List.not_mem_nil, or_false] at hu
 rcases hu with rfl | rfl | rfl | rfl | rfl <;> rfl

theorem LI.oneCell {w : World} {S : Nat → Prop} : ∀ {l : List It} {xs : List Value}, LI w S xs l → ∀ u ∈ xs, u.oneCell' = true
 | [], xs, h => by
  have h : xs = [] := h
  subst h
  intro u hu
  cases hu
 | x :: l, xs, h => by
  obtain ⟨v0, v1, v2, v3, v4, rest, rfl, hx, hr⟩ := h
  intro u hu
  rcases List.mem_append.1 (show u ∈ [v0, v1, v2, v3, v4] ++ rest from hu) with h | h
  ·exact hx.oneCells u h
  ·exact LI.oneCell hr u h

theorem info_itm : (Tryz.prog.info? 83).map (fun i => (i.zero, i.size, i.bytes)) = some (some (.agg #[.int .i64 0, .int .u64 0, .slice none 0 0, .string ⟨#[]⟩, .slice none 0 0]), 5, 80) := by kernel_rfl

def newBut (w wr : World) (v : Value) (b : Nat) : Prop := newB w wr b ∧ v.ownBlock ≠ some b

def ListO (w wr : World) (v : Value) (l : List It) : Prop := Below w.heap.size w wr ∧ ∃ xs, wr.ownsRow w.heap.size 83 5 v l.length xs ∧ LI wr (newBut w wr v) xs l

theorem ListO.nil {w wr : World} (h : Below w.heap.size w wr) : ListO w wr (.slice none 0 0) [] := ⟨h, [], World.ownsRow_nil _ _ _ _, rfl⟩

theorem ListO.app {w wr w1 w2 : World} {v v' : Value} {l m : List It} {xs ys : List Value} (hb : Below w.heap.size w wr) (hown : wr.ownsRow w.heap.size 83 5 v l.length xs) (hls : LI wr (newBut w wr v) xs l)
  (hb1 : Below wr.heap.size wr w1) (hy : LI w1 (newBut w w1 v) ys m) (h2 : w2.ownsRow w.heap.size 83 5 v' (l.length + m.length) (xs ++ ys)) (h3 : w1.grownBy w2 v.ownBlock) (h5 : v'.ownBlock = v.ownBlock ∨ v'.ownBlock = some w1.heap.size) :
  ListO w w2 v' (l ++ m) := by
 have hrow := World.ownsRow.lt hown
 have hsz := hb.size
 have hsz1 := hb1.size
 have hB2 : Below w.heap.size w1 w2 := bR.grown h3 (by omega) (fun k hk => (hrow k hk).1)
 have hsz2 := hB2.size
 have hkeep : ∀ S : Nat → Prop, (∀ b, S b → b < w1.heap.size) → (∀ r, v.ownBlock = some r → ¬ S r) → KeepB S w1 w2 := fun S hS hne =>
  KeepB.grown (S := S) (fun b hb => rfl) hS h3 hne
 have k1 : KeepB (newBut w wr v) w1 w2 := hkeep _ (fun b hb => Nat.lt_of_lt_of_le hb.1.2 hsz1) (fun r hr hs => hs.2 hr)
 have k0 : KeepB (newBut w wr v) wr w2 := fun b hb => (k1 b hb).trans (hb1.block b hb.1.2)
 have k2 : KeepB (newBut w w1 v) w1 w2 := hkeep _ (fun b hb => hb.1.2) (fun r hr hs => hs.2 hr)
 have hT : ∀ b, newBut w w1 v b → newBut w w2 v' b := fun b hb => ⟨⟨hb.1.1, by have := hb.1.2; omega⟩, fun q => by
  rcases h5 with h5 | h5
  ·rw [h5] at q
   exact hb.2 q
  ·rw [h5] at q
   injection q with q
   have := hb.1.2
   omega⟩
 have hS : ∀ b, newBut w wr v b → newBut w w2 v' b := fun b hb => ⟨⟨hb.1.1, by have := hb.1.2; omega⟩, fun q => by
  rcases h5 with h5 | h5
  ·rw [h5] at q
   exact hb.2 q
  ·rw [h5] at q
   injection q with q
   have := hb.1.2
   omega⟩
 refine ⟨hb.trans ((hb1.mono hsz).trans hB2), xs ++ ys, ?_, LI.app ((hy.keep k2).more hT) ((hls.keep k0).more hS)⟩
 rw [List.length_append]
 exact h2

theorem ListO.form {w wr : World} {v : Value} {l : List It} (h : ListO w wr v l) :
  ∃ A C, v = .slice A l.length C ∧ l.length ≤ C ∧ (l = [] ∨ ∃ g, A = some ⟨g, 0, none⟩ ∧ newB w wr g ∧ ItSL wr (newB w wr) g 0 l) := by
 obtain ⟨hb, xs, hown, hls⟩ := h
 rcases hown.2 with ⟨rfl, h0⟩ | ⟨gg, cp, cur, rfl, hb0, hg, hn, hm, hs, htk⟩
 ·obtain rfl : l = [] := List.eq_nil_of_length_eq_zero h0
  exact ⟨none, 0, rfl, Nat.le_refl _, .inl rfl⟩
 ·have hlt := (Array.getElem?_eq_some_iff.1 hg).1
  refine ⟨some ⟨gg, 0, none⟩, cp, rfl, hn, .inr ⟨gg, rfl, ⟨hb0, hlt⟩, ?_⟩⟩
  refine ItSL.more (fun b hb => hb.1) l (LI.itSL hls fun i u hi => ?_)
  have h1 : wr.cell? ⟨gg, 0 + i, none⟩ = cur[i]? := by simp [World.cell?, hg]
  rw [h1]
  have hil : i < xs.length := (List.getElem?_eq_some_iff.1 hi).1
  rw [← htk, List.getElem?_take] at hi
  split at hi
  ·simpa using hi
  ·cases hi

theorem ListO.item {w wr : World} {v : Value} {l : List It} (h : ListO w wr v l) (hs : l.length ≤ 1000000) : ∃ A C, v = .slice A l.length C ∧ ItS wr (newB w wr) (listV A l.length C) (itLs l) := by
 obtain ⟨A, C, rfl, hc, hl⟩ := h.form
 refine ⟨A, C, rfl, ?_⟩
 unfold itLs listV
 simp only [ItS]
 refine ⟨A, ⟨none, 0, C, rfl, ⟨Nat.le_refl _, hc⟩, .inl rfl, ⟨by decide, by decide⟩, by decide, Nat.zero_le _, Nat.zero_le _, by unfold Sz; omega⟩, hl.imp id ?_⟩
 rintro ⟨g, e, hg, hl⟩
 exact ⟨g, 0, e, hg, hl⟩

theorem ListO.newer {w wr w1 : World} {v : Value} {l : List It} (h : ListO w wr v l) : ∀ b, newB wr w1 b → newBut w w1 v b := fun b hb => by
 obtain ⟨hb0, xs, hown, _⟩ := h
 refine ⟨⟨Nat.le_trans hb0.size hb.1, hb.2⟩, fun q => ?_⟩
 have := ((World.ownsRow.lt hown) b q).2
 have := hb.1
 omega

theorem ListO.src {w wr w1 : World} {v : Value} {l : List It} (h : ListO w wr v l) (hb1 : Below wr.heap.size wr w1) : ∃ A C, v = .slice A l.length C ∧ l.length ≤ C ∧ (A = none → l = []) ∧
  ∃ ys, LI w1 (newB w wr) ys l ∧ (l = [] ∨ ∃ ad, A = some ad ∧ ∀ j u, ys[j]? = some u → w1.cell? (ad.add j) = some u) := by
 obtain ⟨hb, xs, hown, hls⟩ := h
 have hl1 : LI w1 (newB w wr) xs l := LI.more (fun b hb => hb.1) (hls.keep (fun b hb => hb1.block b hb.1.2))
 rcases hown.2 with ⟨rfl, h0⟩ | ⟨gg, cp, cur, rfl, hb0, hg, hn, hm, hs, htk⟩
 ·obtain rfl : l = [] := List.eq_nil_of_length_eq_zero h0
  exact ⟨none, 0, rfl, Nat.le_refl _, fun _ => rfl, xs, hl1, .inl rfl⟩
 ·have hlt := (Array.getElem?_eq_some_iff.1 hg).1
  refine ⟨some ⟨gg, 0, none⟩, cp, rfl, hn, fun e => (by cases e), xs, hl1, .inr ⟨_, rfl, fun j u hu => ?_⟩⟩
  rw [mk_addr_add, Nat.zero_add]
  have h1 : wr.cell? ⟨gg, j, none⟩ = cur[j]? := by simp [World.cell?, hg]
  rw [hb1.cell (p := ⟨gg, j, none⟩) hlt, h1]
  have hil : j < xs.length := (List.getElem?_eq_some_iff.1 hu).1
  rw [← htk, List.getElem?_take] at hu
  split at hu
  ·simpa using hu
  ·cases hu

theorem ListO.lit {w wr : World} {x : It} {v0 v1 v2 v3 v4 : Value} (hb : Below w.heap.size w wr) (hx : ItS wr (newB w wr) (.agg #[v0, v1, v2, v3, v4]) x) : ListO w (wr.alloc (.cells #[v0, v1, v2, v3, v4] 83)) (.slice (some ⟨wr.heap.size, 0, none⟩) 1 1) [x] := by
 refine ⟨below_al hb _, [v0, v1, v2, v3, v4], ⟨rfl, .inr ⟨wr.heap.size, 1, #[v0, v1, v2, v3, v4], rfl, hb.size, World.alloc_heap_new wr _, ⟨Nat.le_refl _, by decide, rfl, rfl⟩⟩⟩, LI.one ?_⟩
 refine ItS.more (fun b hb => ⟨⟨hb.1, ?_⟩, fun q => ?_⟩) _ (ItS.keep (keepNew_below (below_al bR _)) _ hx)
 ·rw [World.size_alloc]
  have := hb.2
  omega
 ·have q' : some wr.heap.size = some b := q
  injection q' with q'
  have := hb.2
  omega

theorem listO_run {w wr w1 : World} {v : Value} {l : List It} (h : ListO w wr v l) (hb1 : Below wr.heap.size wr w1) (A : Option Addr) (m : List It) (c : Nat) (hlen : l.length + m.length ≤ 1000000)
  (hy : ∃ ys, LI w1 (newBut w w1 v) ys m ∧ (m = [] ∨ ∃ ad, A = some ad ∧ ∀ j u, ys[j]? = some u → w1.cell? (ad.add j) = some u)) (hnil : A = none → m = []) :
  ∃ v' w2, (Builtin.append_ #[71, 71] 71 #[v, .slice A m.length c]).run Tryz.prog w1 = .ok v' w2 ∧ ListO w w2 v' (l ++ m) := by
 obtain ⟨hb, xs, hown, hls⟩ := h
 obtain ⟨ys, hyl, hyc⟩ := hy
 obtain ⟨i, hi, hz, hsz, hby⟩ := info_parts info_itm
 have hown1 : w1.ownsRow w.heap.size 83 5 v l.length xs := by
  obtain ⟨h1, h2⟩ := hown
  refine ⟨h1, h2.imp id ?_⟩
  rintro ⟨g, cap, cur, hv, hg0, hg, r⟩
  exact ⟨g, cap, cur, hv, hg0, (hb1.block g (Array.getElem?_eq_some_iff.1 hg).1).trans hg, r⟩
 rcases A with _ | ad
 ·obtain rfl := hnil rfl
  have hrun : (Builtin.append_ #[71, 71] 71 #[v, .slice none 0 c]).run Tryz.prog w1 = .ok v w1 := by
   rcases hown1.2 with ⟨rfl, _⟩ | ⟨g, cap, cur, rfl, _, _, hn, _⟩
   ·simp [Builtin.append_, run_underlying Tryz.underlying71, sizeOf, typeInfo, hi, Builtin.lenOf, Builtin.firstCells]
   ·simp [Builtin.append_, run_underlying Tryz.underlying71, sizeOf, typeInfo, hi, Builtin.lenOf, Builtin.firstCells, hn, storeCells]
  have hy0 : ys = [] := hyl
  subst hy0
  exact ⟨v, w1, hrun, ListO.app hb hown hls hb1 hyl (by simpa using hown1) (World.grownBy.refl _ _) (.inl rfl)⟩
 ·have hcells : ∀ j u, ys[j]? = some u → w1.cell? (ad.add j) = some u := by
    rcases hyc with rfl | ⟨ad', e, h⟩
    ·have hy0 : ys = [] := hyl
     subst hy0
     intro j u hu
     simp at hu
    ·cases e
     exact h
  obtain ⟨v', w2, hrun, h2, h3, _, h5⟩ := run_append_own_at (P := Tryz.prog) w1 w.heap.size 71 71 83 i _ 5 80 Tryz.underlying71 hi hz hsz hby rfl (by decide) v l.length xs hown1 ad m.length c ys (hyl.length) hcells hyl.oneCell (by unfold maxLen; omega) (by omega) (by have := hb.size; have := hb1.size; omega)
  exact ⟨v', w2, hrun, ListO.app hb hown hls hb1 hyl h2 h3 h5⟩

theorem box_at {w w' : World} {cs : Array Value} {t : TypeId} (h : Below (w.alloc (.cells cs t)).heap.size (w.alloc (.cells cs t)) w') (i : Nat) : w'.cell? ⟨w.heap.size, i, none⟩ = cs[i]? :=
 (h.cell (p := ⟨w.heap.size, i, none⟩) (by simp)).trans (by rw [World.cell?_alloc_mark])

theorem frozen_at {w w' : World} {cs : Array Value} {t : TypeId} (h : Below (w.alloc (.cells cs t)).heap.size (w.alloc (.cells cs t)) w') (i : Nat) : w'.frozen? ⟨w.heap.size, i, none⟩ = false :=
 (h.frozen (p := ⟨w.heap.size, i, none⟩) (by simp)).trans (by simp)

theorem take_listed {P : Program} {l : List Oper} {Q : Exit → Act → World → Prop} {md : Region.Mode} {S : World → Prop} {i : Nat} {oi : Oper} {v : Value} {fuel : Nat} {listed : Array Bool} {a : Act} {w : World} (hi : l[i]? = some oi)
  (hs : Region.noSelect l.toArray = true) (hf : Region.free md l.toArray listed i = true) (hr : (Region.ready md l.toArray listed).contains i = true)
  (hQ : ∀ c a w, Q (.panic c) (a.put oi.dst v) w → Q (.panic c) a w) (hy : YieldsIf P l.toArray S oi v a) (hS : S w)
  (h : wpAnyH P md l.toArray Q S fuel (listed.setIfInBounds i true) (a.put oi.dst v) w) : wpAnyH P md l.toArray Q S (fuel + 1) listed a w :=
 wpAnyH_take (by simpa using hi) hs hf hr hQ hy hS h

def set5 (w : World) (g : Nat) (v0 v1 v2 v3 v4 : Value) : World :=
 ((((w.setCell ⟨g, 0, none⟩ v0).setCell ⟨g, 1, none⟩ v1).setCell ⟨g, 2, none⟩ v2).setCell ⟨g, 3, none⟩ v3).setCell ⟨g, 4, none⟩ v4

theorem set5_cells {w : World} {g : Nat} {u0 u1 u2 u3 u4 : Value} (h0 : w.cell? ⟨g, 0, none⟩ = some u0) (h1 : w.cell? ⟨g, 1, none⟩ = some u1) (h2 : w.cell? ⟨g, 2, none⟩ = some u2) (h3 : w.cell? ⟨g, 3, none⟩ = some u3) (h4 : w.cell? ⟨g, 4, none⟩ = some u4) (v0 v1 v2 v3 v4 : Value) :
  (set5 w g v0 v1 v2 v3 v4).cell? ⟨g, 0, none⟩ = some v0 ∧ (set5 w g v0 v1 v2 v3 v4).cell? ⟨g, 1, none⟩ = some v1 ∧ (set5 w g v0 v1 v2 v3 v4).cell? ⟨g, 2, none⟩ = some v2 ∧ (set5 w g v0 v1 v2 v3 v4).cell? ⟨g, 3, none⟩ = some v3 ∧ (set5 w g v0 v1 v2 v3 v4).cell? ⟨g, 4, none⟩ = some v4 := by
 unfold set5
 refine ⟨?_, ?_, ?_, ?_, ?_⟩ <;> go_simp

theorem set5_on {B g : Nat} {w0 w : World} (h : Below B w0 w) (hB : B ≤ g) (v0 v1 v2 v3 v4 : Value) : Below B w0 (set5 w g v0 v1 v2 v3 v4) := by
 unfold set5
 exact ((((h.setCell hB v0).setCell hB v1).setCell hB v2).setCell hB v3).setCell hB v4

theorem set5_size (w : World) (g : Nat) (v0 v1 v2 v3 v4 : Value) : (set5 w g v0 v1 v2 v3 v4).heap.size = w.heap.size := by simp [set5]

theorem set5_block {w : World} {g b : Nat} (h : b ≠ g) (v0 v1 v2 v3 v4 : Value) : (set5 w g v0 v1 v2 v3 v4).heap[b]? = w.heap[b]? := by
 unfold set5
 rw [Below.heap_setCell _ _ _ _ h, Below.heap_setCell _ _ _ _ h, Below.heap_setCell _ _ _ _ h, Below.heap_setCell _ _ _ _ h, Below.heap_setCell _ _ _ _ h]

theorem wpList_run {P : Program} {ops : Array Oper} {rest : List Oper} {o : Oper} {a : Act} {w : World} {Q : Exit → Act → World → Prop} (hgd : o.guard = none) (s x : Operand) (t u : TypeId)
  (ho : o.op = .call { callee := .builtin .append, args := #[s, x], argTypes := #[t, u] }) (v y v' : Value) (w' : World) (hv : a.eval s = v) (hy : a.eval x = y)
  (hrun : (Builtin.append_ #[t, u] o.type #[v, y]).run P w = .ok v' w') (h : wpList P ops Q rest (a.put o.dst v') w') : wpList P ops Q (o :: rest) a w :=
 wpList_plain hgd fun _ hK => by
  unfold Oper.wp execOp
  simp only [ho, resolve, invoke, builtin, Sem.run_bind, Sem.run_pure, Result.andThen_ok, List.map_toArray, List.map_cons, List.map_nil, hv, hy, hrun]
  exact hK _ _ h

theorem listO_one {w wr w1 : World} {v : Value} {l : List It} {x : It} {v0 v1 v2 v3 v4 : Value} (h : ListO w wr v l) (hb1 : Below wr.heap.size wr w1) (hx : ItS w1 (newB wr w1) (.agg #[v0, v1, v2, v3, v4]) x) (hlen : l.length ≤ 900000) :
  ∃ v' w2, (Builtin.append_ #[71, 71] 71 #[v, .slice (some ⟨w1.heap.size, 0, none⟩) 1 1]).run Tryz.prog (w1.alloc (.cells #[v0, v1, v2, v3, v4] 83)) = .ok v' w2 ∧ ListO w w2 v' (l ++ [x]) := by
 have hb2 : Below wr.heap.size wr (w1.alloc (.cells #[v0, v1, v2, v3, v4] 83)) := below_al hb1 _
 exact listO_run h hb2 (some ⟨w1.heap.size, 0, none⟩) [x] 1 (by simp; omega)
  ⟨[v0, v1, v2, v3, v4], LI.one (ItS.more h.newer _ (hx.new_on (below_al bR _))), .inr ⟨_, rfl, fun j u hu => by
   rw [mk_addr_add, Nat.zero_add, box_at bR j]
   simpa using hu⟩⟩ (fun e => by cases e)

def NewP (w : World) (x : It) (e : Ending) (w' : World) : Prop := Below w.heap.size w w' ∧ ∃ v, e = .returned v ∧ ItS w' (newB w w') v x

def RowB (w : World) (b : Nat) (vs : List Value) : Prop := (∀ i v, vs[i]? = some v → w.cell? ⟨b, i, none⟩ = some v) ∧ ∀ i, w.frozen? ⟨b, i, none⟩ = false

theorem RowB.on {w w' : World} {b : Nat} {vs : List Value} (h : RowB w b vs) (hb : Below w.heap.size w w') (hlt : b < w.heap.size) : RowB w' b vs :=
 ⟨fun i v hv => (hb.cell (p := ⟨b, i, none⟩) hlt).trans (h.1 i v hv), fun i => (hb.frozen (p := ⟨b, i, none⟩) hlt).trans (h.2 i)⟩

theorem RowB.set {w : World} {b : Nat} {vs : List Value} (h : RowB w b vs) (i : Nat) (v : Value) : RowB (w.setCell ⟨b, i, none⟩ v) b (vs.set i v) := by
 refine ⟨fun j u hj => ?_, fun j => (World.frozen?_setCell ..).trans (h.2 j)⟩
 by_cases e : i = j
 ·subst e
  rw [List.getElem?_set] at hj
  simp only [if_true] at hj
  split at hj
  ·rename_i hi
   injection hj with hj
   subst hj
   exact World.cell?_setCell_same _ _ _ (h.1 i _ (List.getElem?_eq_getElem hi))
  ·cases hj
 ·rw [List.getElem?_set_ne e] at hj
  exact (World.cell?_setCell_other _ _ _ _ (by simp <;> omega)).trans (h.1 j u hj)

theorem RowB.other {w : World} {b c i : Nat} {vs : List Value} (h : RowB w b vs) (hne : c ≠ b) (v : Value) : RowB (w.setCell ⟨c, i, none⟩ v) b vs :=
 ⟨fun j u hj => (World.cell?_setCell_other _ _ _ _ (by intro h'; injection h' with h1; exact hne h1)).trans (h.1 j u hj), fun j => (World.frozen?_setCell ..).trans (h.2 j)⟩

theorem RowB.new (w : World) (vs : List Value) (t : TypeId) : RowB (w.alloc (.cells vs.toArray t)) w.heap.size vs :=
 ⟨fun i v hv => by rw [World.cell?_alloc_mark]; simpa using hv, fun i => World.frozen?_alloc_new _ _ _ _⟩

theorem ItL.pcells {w : World} {B g : Nat} {l : List It} {o i : Nat} {y : It} (hL : ItL w B g o l) (hg : g < B) (hi : l[i]? = some y) : ∃ a0 c0 A0 C0, ∀ w', Below B w w' → ItV w' B (.agg #[.int .i64 y.k, .int .u64 y.n, .slice a0 y.b.length c0, .string ⟨y.s.toArray⟩, .slice A0 y.l.length C0]) y ∧ (w'.cell? ⟨g, o + i * 5, none⟩ = some (.int .i64 y.k) ∧ w'.cell? ⟨g, o + i * 5 + 1, none⟩ = some (.int .u64 y.n) ∧ w'.cell? ⟨g, o + i * 5 + 2, none⟩ = some (.slice a0 y.b.length c0) ∧ w'.cell? ⟨g, o + i * 5 + 3, none⟩ = some (.string ⟨y.s.toArray⟩) ∧ w'.cell? ⟨g, o + i * 5 + 4, none⟩ = some (.slice A0 y.l.length C0)) := by
 obtain ⟨v0, p0, q0⟩ := ItL.at hL hi
 obtain ⟨a0, c0, A0, C0, rfl⟩ := q0.form
 refine ⟨a0, c0, A0, C0, fun w' hb => ⟨ItV.below hb _ q0, ?_⟩⟩
 obtain ⟨u0, u1, u2, u3, u4, e, h0, h1, h2, h3, h4⟩ := p0.below hb hg
 injection e with e
 have e' := congrArg Array.toList e
 simp only [List.cons.injEq, and_true] at e'
 obtain ⟨rfl, rfl, rfl, rfl, rfl⟩ := e'
 exact ⟨h0, h1, h2, h3, h4⟩

def nuP (x : It) : Option Nat := if x.k = 1 then some x.n.toNat else none

end Go.Proofs.YtiahakbkagipkaaGreatDoor
