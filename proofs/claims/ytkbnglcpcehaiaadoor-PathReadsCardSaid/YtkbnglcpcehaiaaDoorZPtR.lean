/- Package path's laws: a path that is copied. -/
import Derived.Test.YtkbnglcpcehaiaaDoorZPtQ
import Derived.Test.YtkbnglcpcehaiaaDoorZJc
import Derived.Deep.CutRange
import Derived.Deep.RegionHeld3
namespace Go.Proofs.YtkbnglcpcehaiaaDoor
open Go Go.RowKit Go.Shelf
set_option linter.unusedSimpArgs false
set_option linter.unusedVariables false
set_option maxRecDepth 100000

/-- What a copy of a path reads as. -/
def OwnP (W wx : World) (O : Nat) (bk : Bool) (xs : List Cr) : Prop :=
  Below W.heap.size W wx ∧ ∃ A C, (wx.cell? ⟨O, 0, none⟩ = some (.bool bk) ∧ wx.cell? ⟨O, 1, none⟩ = some (.slice A xs.length C)) ∧ xs.length ≤ C ∧ RdX wx wx.heap.size A xs

theorem own_rd {w' : World} {B : Nat} {v : Value} {xs : List Cr} (h : w'.ownsRow B 27 2 v xs.length (flatX xs)) : ∃ A C, v = .slice A xs.length C ∧ xs.length ≤ C ∧ RdX w' w'.heap.size A xs ∧ (xs = [] ∨ ∃ g, A = some ⟨g, 0, none⟩ ∧ v.ownBlock = some g ∧ B ≤ g) := by
  rcases ownX_form h with ⟨rfl, rfl⟩ | ⟨g, C, rfl, hC, hg0, hg1, hrow⟩
  · exact ⟨none, 0, rfl, Nat.le_refl _, .inl rfl, .inl rfl⟩
  · exact ⟨_, C, rfl, hC, hrow.rd hg1, .inr ⟨g, rfl, rfl, hg0⟩⟩

/-- The copy's box, written last. -/
theorem own_set {W wx : World} {O : Nat} {bk : Bool} {A : Option Addr} {C : Nat} {xs : List Cr} {u0 u1 : Value} (hb : Below W.heap.size W wx) (hO : W.heap.size ≤ O) (h0 : wx.cell? ⟨O, 0, none⟩ = some u0) (h1 : wx.cell? ⟨O, 1, none⟩ = some u1) (hC : xs.length ≤ C)
    (hr : RdX wx wx.heap.size A xs) (hne : xs = [] ∨ ∃ g, A = some ⟨g, 0, none⟩ ∧ g ≠ O) : OwnP W ((wx.setCell ⟨O, 0, none⟩ (.bool bk)).setCell ⟨O, 1, none⟩ (.slice A xs.length C)) O bk xs := by
  refine ⟨(hb.setCell hO _).setCell hO _, A, C, set2_cells h0 h1 _ _, hC, ?_⟩
  rcases hne with rfl | ⟨g, rfl, hg⟩
  · exact .inl rfl
  · rcases hr with h | ⟨b, o, e, hlt, hc⟩
    · exact .inl h
    · cases e
      refine .inr ⟨g, 0, rfl, by rw [World.size_setCell, World.size_setCell]; exact hlt, fun j hj => ?_⟩
      exact ((hc j hj).kept (Below.heap_setCell _ _ _ _ hg)).kept (Below.heap_setCell _ _ _ _ hg)

theorem grown_cell {w w' : World} {row : Option Nat} (hg : w.grownBy w' row) {O : Nat} (hO : O < w.heap.size) (hne : row ≠ some O) (i : Nat) : w'.cell? ⟨O, i, none⟩ = w.cell? ⟨O, i, none⟩ := by
  have h := hg.block O hO (fun e => hne e.symm)
  simp [World.cell?, h]

/-- A box that an append beside it leaves. -/
theorem grown_box {w w' : World} {row : Option Nat} {O : Nat} {cs : Array Value} {t : TypeId} (hg : w.grownBy w' row) (hb : w.heap[O]? = some (.cells cs t)) (hne : row ≠ some O) (i : Nat) : w'.cell? ⟨O, i, none⟩ = cs[i]? ∧ w'.frozen? ⟨O, i, none⟩ = false := by
  have h := hg.block O (Array.getElem?_eq_some_iff.1 hb).1 (fun e => hne e.symm)
  rw [hb] at h
  constructor
  · simp [World.cell?, h]
  · simp [World.frozen?, h]

theorem heap_old (w : World) (o : Obj) {b : Nat} (h : b < w.heap.size) : (w.alloc o).heap[b]? = w.heap[b]? :=
   heap_alloc_old w o h

theorem heap_two (w : World) (o o' : Obj) : ((w.alloc o).alloc o').drew.heap[w.heap.size]? = some o ∧ ((w.alloc o).alloc o').drew.heap[w.heap.size + 1]? = some o' := by
  have h := World.alloc_heap_new (w.alloc o) o'
  rw [World.size_alloc] at h
  exact ⟨(heap_old (w.alloc o) o' (by simp)).trans (World.alloc_heap_new w o), h⟩

/-- Crossings appended onto crossings of the call's own. -/
theorem appX2 (w : World) (base : Nat) (v : Value) (zs : List Cr) (hown : w.ownsRow base 27 2 v zs.length (flatX zs)) (hbase : base ≤ w.heap.size) (a : Option Addr) (c B : Nat) (xs : List Cr) (hr : RdX w B a xs)
    (hlen : zs.length + xs.length ≤ 1000000) :
    ∃ v' w', (Builtin.append_ #[22, 22] 22 #[v, .slice a xs.length c]).run Tryd.prog w = .ok v' w' ∧ w'.ownsRow base 27 2 v' (zs ++ xs).length (flatX (zs ++ xs)) ∧ w.grownBy w' v.ownBlock ∧ (v'.ownBlock = v.ownBlock ∨ v'.ownBlock = some w.heap.size) := by
  obtain ⟨i, hi, hz, hs, hb⟩ := info_parts info_cross
  rcases a with _ | ad
  · obtain rfl : xs = [] := by
      rcases hr with h | ⟨g, o, h, _⟩
      · exact h
      · cases h
    refine ⟨v, w, run_app_nil w base 2 22 22 27 i Tryd.underlying22 hi v zs.length (flatX zs) hown c, ?_, World.grownBy.refl w _, .inl rfl⟩
    rw [List.append_nil]
    exact hown
  · obtain ⟨v', w', hrun, h2, h3, _, h4⟩ := run_append_own_at (P := Tryd.prog) w base 22 22 27 i _ 2 8 Tryd.underlying22 hi hz hs hb rfl (by decide) v zs.length (flatX zs) hown ad xs.length c (flatX xs) (flatX_length xs) (fun j u hu => by
      rcases hr with rfl | ⟨b, o, e, _, hc⟩
      · simp [flatX] at hu
      · cases e
        rw [mk_addr_add]
        exact flatX_cell hc j u hu) (flatX_one xs) (by unfold maxLen; omega) (by omega) hbase
    rw [flatX_append, List.length_append]
    exact ⟨v', w', hrun, h2, h3, h4⟩

/-- An operation of a region that draws its order, taken first: of a written list. -/
theorem take_listed {P : Program} {l : List Oper} {Q : Exit → Act → World → Prop} {md : Region.Mode} {S : World → Prop} {i : Nat} {oi : Oper} {v : Value} {fuel : Nat} {listed : Array Bool} {a : Act} {w : World} (hi : l[i]? = some oi)
    (hs : Region.noSelect l.toArray = true) (hf : Region.free md l.toArray listed i = true) (hr : (Region.ready md l.toArray listed).contains i = true)
    (hQ : ∀ c a w, Q (.panic c) (a.put oi.dst v) w → Q (.panic c) a w) (hy : YieldsIf P l.toArray S oi v a) (hS : S w)
    (h : wpAnyH P md l.toArray Q S fuel (listed.setIfInBounds i true) (a.put oi.dst v) w) : wpAnyH P md l.toArray Q S (fuel + 1) listed a w :=
  wpAnyH_take (by simpa using hi) hs hf hr hQ hy hS h

theorem wiE_no {xs : List Cr} {x : Cr} (h : rightX xs = false) : wiE xs x = 2 := by
  unfold wiE
  rw [if_pos (.inl h)]

theorem sameP_self (b : Bool) (xs : List Cr) : sameP b b xs xs = true := by simp [sameP]

theorem num_same (n : Int) : (n != n) = false := by simp
theorem bool_same (q : Bool) : (q != q) = false := by simp

end Go.Proofs.YtkbnglcpcehaiaaDoor
