/- Items in rows of the call's own, that grow. -/
import Derived.Test.YtlmdbeccfoncpaaGreatDoorZKv
import Derived.Maps.AppendAt
import Derived.OwnWalk
namespace Go.Proofs.YtlmdbeccfoncpaaGreatDoor
open Go Go.RowKit Go.Shelf
set_option linter.unusedSimpArgs false
set_option linter.unusedVariables false

/-- Cells that are items', five each. -/
def LI (w : World) (S : Nat → Prop) : List Value → List It → Prop
  | xs, [] => xs = []
  | xs, x :: l => ∃ v0 v1 v2 v3 v4 rest, xs = v0 :: v1 :: v2 :: v3 :: v4 :: rest ∧ ItS w S (.agg #[v0, v1, v2, v3, v4]) x ∧ LI w S rest l

theorem LI.keep {w w' : World} {S : Nat → Prop} (hk : KeepB S w w') : ∀ {l : List It} {xs : List Value}, LI w S xs l → LI w' S xs l
  | [], _, h => h
  | x :: l, xs, h => by
    obtain ⟨v0, v1, v2, v3, v4, rest, e, hx, hr⟩ := h
    exact ⟨v0, v1, v2, v3, v4, rest, e, hx.keep hk, LI.keep hk hr⟩

theorem LI.more {w : World} {S T : Nat → Prop} (hST : ∀ b, S b → T b) : ∀ {l : List It} {xs : List Value}, LI w S xs l → LI w T xs l
  | [], _, h => h
  | x :: l, xs, h => by
    obtain ⟨v0, v1, v2, v3, v4, rest, e, hx, hr⟩ := h
    exact ⟨v0, v1, v2, v3, v4, rest, e, hx.more hST, LI.more hST hr⟩

theorem LI.app {w : World} {S : Nat → Prop} {m : List It} {ys : List Value} (hm : LI w S ys m) : ∀ {l : List It} {xs : List Value}, LI w S xs l → LI w S (xs ++ ys) (l ++ m)
  | [], xs, h => by
    have h : xs = [] := h
    subst h
    exact hm
  | y :: l, xs, h => by
    obtain ⟨u0, u1, u2, u3, u4, rest, rfl, hy, hr⟩ := h
    exact ⟨u0, u1, u2, u3, u4, rest ++ ys, rfl, hy, LI.app hm hr⟩

theorem LI.one {w : World} {S : Nat → Prop} {x : It} {v0 v1 v2 v3 v4 : Value} (hx : ItS w S (.agg #[v0, v1, v2, v3, v4]) x) : LI w S [v0, v1, v2, v3, v4] [x] :=
  ⟨v0, v1, v2, v3, v4, [], rfl, hx, rfl⟩

theorem LI.itSL {w : World} {S : Nat → Prop} {g : Nat} : ∀ {l : List It} {xs : List Value} {o : Nat}, LI w S xs l → (∀ j u, xs[j]? = some u → w.cell? ⟨g, o + j, none⟩ = some u) → ItSL w S g o l
  | [], _, _, _, _ => by simp only [ItSL]
  | x :: l, xs, o, h, hc => by
    obtain ⟨v0, v1, v2, v3, v4, rest, rfl, hx, hr⟩ := h
    simp only [ItSL]
    refine ⟨⟨_, ⟨v0, v1, v2, v3, v4, rfl, hc 0 _ rfl, hc 1 _ rfl, hc 2 _ rfl, hc 3 _ rfl, hc 4 _ rfl⟩, hx⟩, LI.itSL hr fun j u hj => ?_⟩
    have := hc (j + 5) u (by simpa using hj)
    rw [show o + 5 + j = o + (j + 5) by omega]
    exact this

theorem LI.length {w : World} {S : Nat → Prop} : ∀ {l : List It} {xs : List Value}, LI w S xs l → xs.length = l.length * 5
  | [], xs, h => by
    have h : xs = [] := h
    subst h
    rfl
  | x :: l, xs, h => by
    obtain ⟨v0, v1, v2, v3, v4, rest, rfl, _, hr⟩ := h
    have := LI.length hr
    simp only [List.length_cons]
    omega

theorem ItS.oneCells {w : World} {S : Nat → Prop} {x : It} {v0 v1 v2 v3 v4 : Value} (h : ItS w S (.agg #[v0, v1, v2, v3, v4]) x) : ∀ u ∈ [v0, v1, v2, v3, v4], u.oneCell' = true := by
  obtain ⟨a, c, A, C, e⟩ := h.form
  have e' : [v0, v1, v2, v3, v4] = [Value.int .i64 x.k, .int .u64 x.n, .slice a x.b.length c, .string ⟨x.s.toArray⟩, .slice A x.l.length C] := congrArg (fun v => match v with | .agg l => l.toList | _ => []) e
  rw [e']
  intro u hu
  simp only [List.mem_cons, List.not_mem_nil, or_false] at hu
  rcases hu with rfl | rfl | rfl | rfl | rfl <;> rfl

theorem LI.oneCell {w : World} {S : Nat → Prop} : ∀ {l : List It} {xs : List Value}, LI w S xs l → ∀ u ∈ xs, u.oneCell' = true
  | [], xs, h => by
    have h : xs = [] := h
    subst h
    intro u hu
    cases hu
  | x :: l, xs, h => by
    obtain ⟨v0, v1, v2, v3, v4, rest, rfl, hx, hr⟩ := h
    intro u hu
    rcases List.mem_append.1 (show u ∈ [v0, v1, v2, v3, v4] ++ rest from hu) with h | h
    · exact hx.oneCells u h
    · exact LI.oneCell hr u h

theorem info_itm : (Tryz.prog.info? 84).map (fun i => (i.zero, i.size, i.bytes)) = some (some (.agg #[.int .i64 0, .int .u64 0, .slice none 0 0, .string ⟨#[]⟩, .slice none 0 0]), 5, 80) := by kernel_rfl

/-- What is new since w, the own row apart. -/
def newBut (w wr : World) (v : Value) (b : Nat) : Prop := newB w wr b ∧ v.ownBlock ≠ some b

/-- Items in a row of the call's own. -/
def ListO (w wr : World) (v : Value) (l : List It) : Prop := Below w.heap.size w wr ∧ ∃ xs, wr.ownsRow w.heap.size 84 5 v l.length xs ∧ LI wr (newBut w wr v) xs l

theorem ListO.nil {w wr : World} (h : Below w.heap.size w wr) : ListO w wr (.slice none 0 0) [] := ⟨h, [], World.ownsRow_nil _ _ _ _, rfl⟩

/-- What is appended, and what comes of it: ys lie in new memory since wr, in the block g (and elsewhere). -/
theorem ListO.app {w wr w1 w2 : World} {v v' : Value} {l m : List It} {xs ys : List Value} (hb : Below w.heap.size w wr) (hown : wr.ownsRow w.heap.size 84 5 v l.length xs) (hls : LI wr (newBut w wr v) xs l)
    (hb1 : Below wr.heap.size wr w1) (hy : LI w1 (newBut w w1 v) ys m) (h2 : w2.ownsRow w.heap.size 84 5 v' (l.length + m.length) (xs ++ ys)) (h3 : w1.grownBy w2 v.ownBlock) (h5 : v'.ownBlock = v.ownBlock ∨ v'.ownBlock = some w1.heap.size) :
    ListO w w2 v' (l ++ m) := by
  have hrow := World.ownsRow.lt hown
  have hsz := hb.size
  have hsz1 := hb1.size
  have hB2 : Below w.heap.size w1 w2 := (Below.refl _ _).grown h3 (by omega) (fun k hk => (hrow k hk).1)
  have hsz2 := hB2.size
  have hkeep : ∀ S : Nat → Prop, (∀ b, S b → b < w1.heap.size) → (∀ r, v.ownBlock = some r → ¬ S r) → KeepB S w1 w2 := fun S hS hne =>
    KeepB.grown (S := S) (fun b hb => rfl) hS h3 hne
  have k1 : KeepB (newBut w wr v) w1 w2 := hkeep _ (fun b hb => Nat.lt_of_lt_of_le hb.1.2 hsz1) (fun r hr hs => hs.2 hr)
  have k0 : KeepB (newBut w wr v) wr w2 := fun b hb => (k1 b hb).trans (hb1.block b hb.1.2)
  have k2 : KeepB (newBut w w1 v) w1 w2 := hkeep _ (fun b hb => hb.1.2) (fun r hr hs => hs.2 hr)
  have hT : ∀ b, newBut w w1 v b → newBut w w2 v' b := fun b hb => ⟨⟨hb.1.1, by have := hb.1.2; omega⟩, fun q => by
    rcases h5 with h5 | h5
    · rw [h5] at q
      exact hb.2 q
    · rw [h5] at q
      injection q with q
      have := hb.1.2
      omega⟩
  have hS : ∀ b, newBut w wr v b → newBut w w2 v' b := fun b hb => ⟨⟨hb.1.1, by have := hb.1.2; omega⟩, fun q => by
    rcases h5 with h5 | h5
    · rw [h5] at q
      exact hb.2 q
    · rw [h5] at q
      injection q with q
      have := hb.1.2
      omega⟩
  refine ⟨hb.trans ((hb1.mono hsz).trans hB2), xs ++ ys, ?_, LI.app ((hy.keep k2).more hT) ((hls.keep k0).more hS)⟩
  rw [List.length_append]
  exact h2

/-- What a list of the call's own is. -/
theorem ListO.form {w wr : World} {v : Value} {l : List It} (h : ListO w wr v l) :
    ∃ A C, v = .slice A l.length C ∧ l.length ≤ C ∧ (l = [] ∨ ∃ g, A = some ⟨g, 0, none⟩ ∧ newB w wr g ∧ ItSL wr (newB w wr) g 0 l) := by
  obtain ⟨hb, xs, hown, hls⟩ := h
  rcases hown.2 with ⟨rfl, h0⟩ | ⟨gg, cp, cur, rfl, hb0, hg, hn, hm, hs, htk⟩
  · obtain rfl : l = [] := List.eq_nil_of_length_eq_zero h0
    exact ⟨none, 0, rfl, Nat.le_refl _, .inl rfl⟩
  · have hlt := (Array.getElem?_eq_some_iff.1 hg).1
    refine ⟨some ⟨gg, 0, none⟩, cp, rfl, hn, .inr ⟨gg, rfl, ⟨hb0, hlt⟩, ?_⟩⟩
    refine ItSL.more (fun b hb => hb.1) l (LI.itSL hls fun i u hi => ?_)
    have h1 : wr.cell? ⟨gg, 0 + i, none⟩ = cur[i]? := by simp [World.cell?, hg]
    rw [h1]
    have hil : i < xs.length := (List.getElem?_eq_some_iff.1 hi).1
    rw [← htk, List.getElem?_take] at hi
    split at hi
    · simpa using hi
    · cases hi

/-- The list's own item. -/
theorem ListO.item {w wr : World} {v : Value} {l : List It} (h : ListO w wr v l) (hs : l.length ≤ 1000000) : ∃ A C, v = .slice A l.length C ∧ ItS wr (newB w wr) (listV A l.length C) (itLs l) := by
  obtain ⟨A, C, rfl, hc, hl⟩ := h.form
  refine ⟨A, C, rfl, ?_⟩
  unfold itLs listV
  simp only [ItS]
  refine ⟨A, ⟨none, 0, C, rfl, ⟨Nat.le_refl _, hc⟩, .inl rfl, ⟨by decide, by decide⟩, by decide, Nat.zero_le _, Nat.zero_le _, by unfold Sz; omega⟩, hl.imp id ?_⟩
  rintro ⟨g, e, hg, hl⟩
  exact ⟨g, 0, e, hg, hl⟩

/-- New since a later world: not the own row. -/
theorem ListO.newer {w wr w1 : World} {v : Value} {l : List It} (h : ListO w wr v l) : ∀ b, newB wr w1 b → newBut w w1 v b := fun b hb => by
  obtain ⟨hb0, xs, hown, _⟩ := h
  refine ⟨⟨Nat.le_trans hb0.size hb.1, hb.2⟩, fun q => ?_⟩
  have := ((World.ownsRow.lt hown) b q).2
  have := hb.1
  omega

/-- A list as a source, later. -/
theorem ListO.src {w wr w1 : World} {v : Value} {l : List It} (h : ListO w wr v l) (hb1 : Below wr.heap.size wr w1) : ∃ A C, v = .slice A l.length C ∧ l.length ≤ C ∧ (A = none → l = []) ∧
    ∃ ys, LI w1 (newB w wr) ys l ∧ (l = [] ∨ ∃ ad, A = some ad ∧ ∀ j u, ys[j]? = some u → w1.cell? (ad.add j) = some u) := by
  obtain ⟨hb, xs, hown, hls⟩ := h
  have hl1 : LI w1 (newB w wr) xs l := LI.more (fun b hb => hb.1) (hls.keep (fun b hb => hb1.block b hb.1.2))
  rcases hown.2 with ⟨rfl, h0⟩ | ⟨gg, cp, cur, rfl, hb0, hg, hn, hm, hs, htk⟩
  · obtain rfl : l = [] := List.eq_nil_of_length_eq_zero h0
    exact ⟨none, 0, rfl, Nat.le_refl _, fun _ => rfl, xs, hl1, .inl rfl⟩
  · have hlt := (Array.getElem?_eq_some_iff.1 hg).1
    refine ⟨some ⟨gg, 0, none⟩, cp, rfl, hn, fun e => (by cases e), xs, hl1, .inr ⟨_, rfl, fun j u hu => ?_⟩⟩
    rw [mk_addr_add, Nat.zero_add]
    have h1 : wr.cell? ⟨gg, j, none⟩ = cur[j]? := by simp [World.cell?, hg]
    rw [hb1.cell (p := ⟨gg, j, none⟩) hlt, h1]
    have hil : j < xs.length := (List.getElem?_eq_some_iff.1 hu).1
    rw [← htk, List.getElem?_take] at hu
    split at hu
    · simpa using hu
    · cases hu

/-- A row of one item. -/
theorem ListO.lit {w wr : World} {x : It} {v0 v1 v2 v3 v4 : Value} (hb : Below w.heap.size w wr) (hx : ItS wr (newB w wr) (.agg #[v0, v1, v2, v3, v4]) x) : ListO w (wr.alloc (.cells #[v0, v1, v2, v3, v4] 84)) (.slice (some ⟨wr.heap.size, 0, none⟩) 1 1) [x] := by
  refine ⟨below_al hb _, [v0, v1, v2, v3, v4], ⟨rfl, .inr ⟨wr.heap.size, 1, #[v0, v1, v2, v3, v4], rfl, hb.size, World.alloc_heap_new wr _, ⟨Nat.le_refl _, by decide, rfl, rfl⟩⟩⟩, LI.one ?_⟩
  refine ItS.more (fun b hb => ⟨⟨hb.1, ?_⟩, fun q => ?_⟩) _ (ItS.keep (keepNew_below (below_al (Below.refl _ _) _)) _ hx)
  · rw [World.size_alloc]
    have := hb.2
    omega
  · have q' : some wr.heap.size = some b := q
    injection q' with q'
    have := hb.2
    omega

/-- The run of an append onto such a list. -/
theorem listO_run {w wr w1 : World} {v : Value} {l : List It} (h : ListO w wr v l) (hb1 : Below wr.heap.size wr w1) (A : Option Addr) (m : List It) (c : Nat) (hlen : l.length + m.length ≤ 1000000)
    (hy : ∃ ys, LI w1 (newBut w w1 v) ys m ∧ (m = [] ∨ ∃ ad, A = some ad ∧ ∀ j u, ys[j]? = some u → w1.cell? (ad.add j) = some u)) (hnil : A = none → m = []) :
    ∃ v' w2, (Builtin.append_ #[70, 70] 70 #[v, .slice A m.length c]).run Tryz.prog w1 = .ok v' w2 ∧ ListO w w2 v' (l ++ m) := by
  obtain ⟨hb, xs, hown, hls⟩ := h
  obtain ⟨ys, hyl, hyc⟩ := hy
  obtain ⟨i, hi, hz, hsz, hby⟩ := info_parts info_itm
  have hown1 : w1.ownsRow w.heap.size 84 5 v l.length xs := by
    obtain ⟨h1, h2⟩ := hown
    refine ⟨h1, h2.imp id ?_⟩
    rintro ⟨g, cap, cur, hv, hg0, hg, r⟩
    exact ⟨g, cap, cur, hv, hg0, (hb1.block g (Array.getElem?_eq_some_iff.1 hg).1).trans hg, r⟩
  rcases A with _ | ad
  · obtain rfl := hnil rfl
    have hrun : (Builtin.append_ #[70, 70] 70 #[v, .slice none 0 c]).run Tryz.prog w1 = .ok v w1 := by
      rcases hown1.2 with ⟨rfl, _⟩ | ⟨g, cap, cur, rfl, _, _, hn, _⟩
      · simp [Builtin.append_, run_underlying Tryz.underlying70, sizeOf, typeInfo, hi, Builtin.lenOf, Builtin.firstCells]
      · simp [Builtin.append_, run_underlying Tryz.underlying70, sizeOf, typeInfo, hi, Builtin.lenOf, Builtin.firstCells, hn, storeCells]
    have hy0 : ys = [] := hyl
    subst hy0
    exact ⟨v, w1, hrun, ListO.app hb hown hls hb1 hyl (by simpa using hown1) (World.grownBy.refl _ _) (.inl rfl)⟩
  · have hcells : ∀ j u, ys[j]? = some u → w1.cell? (ad.add j) = some u := by
      rcases hyc with rfl | ⟨ad', e, h⟩
      · have hy0 : ys = [] := hyl
        subst hy0
        intro j u hu
        simp at hu
      · cases e
        exact h
    obtain ⟨v', w2, hrun, h2, h3, _, h5⟩ := run_append_own_at (P := Tryz.prog) w1 w.heap.size 70 70 84 i _ 5 80 Tryz.underlying70 hi hz hsz hby rfl (by decide) v l.length xs hown1 ad m.length c ys (hyl.length) hcells hyl.oneCell (by unfold maxLen; omega) (by omega) (by have := hb.size; have := hb1.size; omega)
    exact ⟨v', w2, hrun, ListO.app hb hown hls hb1 hyl h2 h3 h5⟩

end Go.Proofs.YtlmdbeccfoncpaaGreatDoor
