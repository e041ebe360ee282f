/- Package octet's Split once more: where the pieces lie. -/
import Derived.Test.YtncemmhbbkpieaaDoorOctV
namespace Go.Proofs.YtncemmhbbkpieaaDoor
open Go.RowKit Go.Shelf

/-- The cells of a block of bytes: cap of them, the first L hold bytes. -/
def CloneB (w : World) (g cap L : Nat) : Prop :=
  (∀ j, j < cap → (w.cell? ⟨g, j, none⟩).isSome = true ∧ w.frozen? ⟨g, j, none⟩ = false) ∧ ∀ j, j < L → ∃ x, 0 ≤ x ∧ x < 256 ∧ w.cell? ⟨g, j, none⟩ = some (.int .u8 x)

/-- A cut of a slice at a, of length L and capacity c. -/
def PieceI (a : Option Addr) (c L : Nat) (v : Value) : Prop := ∃ l m n k, v = .slice (subA a l m) n k ∧ k = m - l ∧ n ≤ k ∧ l + n ≤ L ∧ l + k ≤ c

/-- A piece of the block g. -/
def PieceIn (g cap L : Nat) (v : Value) : Prop := ∃ A n k, v = .slice A n k ∧ n ≤ k ∧ (k = 0 ∨ ∃ o, A = some ⟨g, o, none⟩ ∧ o + n ≤ L ∧ o + k ≤ cap)

theorem pieceI_snoc {a : Option Addr} {c L : Nat} {vs : List Value} {v : Value} (h : ∀ j, j < vs.length → PieceI a c L (vs[j]?.getD undef)) (hv : PieceI a c L v) : ∀ j, j < (vs ++ [v]).length → PieceI a c L ((vs ++ [v])[j]?.getD undef) := by
  intro j hj
  simp at hj
  by_cases e : j < vs.length
  · rw [List.getElem?_append_left e]
    exact h j e
  · obtain rfl : j = vs.length := by omega
    rw [List.getElem?_append_right (Nat.le_refl _)]
    simpa using hv

/-- What is told of the row of pieces, and of the block that they lie in. -/
def RowL (w w' : World) (L : Nat) (v : Value) (vs : List Value) : Prop :=
  ∃ g cap, OwnV w' w.heap.size 22 v vs ∧ w.heap.size ≤ g ∧ v.ownBlock ≠ some g ∧ CloneB w' g cap L ∧ ∀ j, j < vs.length → PieceIn g cap L (vs[j]?.getD undef)

/-- What Split answers, and where it lies. -/
def SplitL (w : World) (bs : List UInt8) (zs : List Int) (e : Ending) (w' : World) : Prop :=
  ((cutAt bs 0 zs = none ∧ e = .returned (.tuple #[.slice none 0 0, .int .i64 4])) ∨
   ∃ ps v vs, cutAt bs 0 zs = some ps ∧ e = .returned (.tuple #[v, .int .i64 0]) ∧ RowL w w' bs.length v vs ∧ Pcs w' w.heap.size w'.heap.size vs ps) ∧ Below w.heap.size w w'

theorem CloneB.same {w w' : World} {g cap L : Nat} (h : CloneB w g cap L) (he : w'.heap[g]? = w.heap[g]?) : CloneB w' g cap L := by
  have e1 : ∀ j, w'.cell? ⟨g, j, none⟩ = w.cell? ⟨g, j, none⟩ := fun j => World.cell?_of_block (a := ⟨g, j, none⟩) he
  have e2 : ∀ j, w'.frozen? ⟨g, j, none⟩ = w.frozen? ⟨g, j, none⟩ := fun j => by simp only [World.frozen?, he]
  refine ⟨fun j hj => ?_, fun j hj => ?_⟩
  · rw [e1, e2]
    exact h.1 j hj
  · rw [e1]
    exact h.2 j hj

theorem clone_cells {w : World} {base L c : Nat} {a : Option Addr} {bs : List UInt8} (h : OwnV w base 5 (.slice a L c) (bs.map encB)) :
    (a = none ∧ c = 0 ∧ bs = []) ∨ ∃ g, a = some ⟨g, 0, none⟩ ∧ base ≤ g ∧ g < w.heap.size ∧ CloneB w g c bs.length := by
  rcases h.2 with ⟨hv, h0⟩ | ⟨g, cap, cur, hv, hb, hg, hn, hm, hs, ht⟩
  · injection hv with e1 e2 e3
    exact .inl ⟨e1, e3, List.eq_nil_of_length_eq_zero (by simpa using h0)⟩
  · injection hv with e1 e2 e3
    subst e1 e3
    refine .inr ⟨g, rfl, hb, (Array.getElem?_eq_some_iff.1 hg).1, fun j hj => ?_, fun j hj => ?_⟩
    · have h1 : w.cell? ⟨g, j, none⟩ = cur[j]? := by simp [World.cell?, hg]
      rw [h1, Array.getElem?_eq_getElem (by omega)]
      exact ⟨rfl, by simp [World.frozen?, hg]⟩
    · rcases h.form with ⟨hx, _⟩ | ⟨g2, cap2, hv2, _, _, _, _, hc, _⟩
      · cases hx
      · injection hv2 with e1 _ _
        simp only [Option.some.injEq, Addr.mk.injEq] at e1
        obtain ⟨rfl, _⟩ := e1
        refine ⟨byteAt bs j, byteAt_lo bs j, byteAt_hi bs j, ?_⟩
        rw [hc j (by simpa using hj), encB_at bs j hj]

theorem splitI_end {w w1 w2 : World} {c : Nat} {a : Option Addr} {bs : List UInt8} {v' : Value} {vs : List Value}
    (hcl : (a = none ∧ c = 0 ∧ bs = []) ∨ ∃ g, a = some ⟨g, 0, none⟩ ∧ w.heap.size ≤ g ∧ g < w1.heap.size ∧ CloneB w1 g c bs.length) (hp : OwnV w2 w1.heap.size 22 v' vs) (hs : w.heap.size ≤ w1.heap.size) (hby : Below w1.heap.size w1 w2)
    (hI : ∀ j, j < vs.length → PieceI a c bs.length (vs[j]?.getD undef)) : RowL w w2 bs.length v' vs := by
  rcases hcl with ⟨rfl, rfl, rfl⟩ | ⟨g, rfl, hg, hgl, hcb⟩
  · refine ⟨w2.heap.size, 0, hp.base hs, Nat.le_trans hs hby.size, fun e => ?_, ⟨fun j hj => absurd hj (Nat.not_lt_zero j), fun j hj => absurd hj (Nat.not_lt_zero j)⟩, fun j hj => ?_⟩
    · have := (hp.row _ e).2
      omega
    · obtain ⟨l, m, n, k, hv, h1, h2, h3, h4⟩ := hI j hj
      exact ⟨_, n, k, hv, h2, .inl (by omega)⟩
  · refine ⟨g, c, hp.base hs, hg, fun e => ?_, hcb.same (hby.block g hgl), fun j hj => ?_⟩
    · have := (hp.row _ e).1
      omega
    · obtain ⟨l, m, n, k, hv, h1, h2, h3, h4⟩ := hI j hj
      refine ⟨_, n, k, hv, h2, ?_⟩
      by_cases e : m = l
      · exact .inl (by omega)
      · refine .inr ⟨l, ?_, h3, h4⟩
        simp only [subA, if_neg e, Option.map_some, mk_addr_add]
        simp

end Go.Proofs.YtncemmhbbkpieaaDoor
