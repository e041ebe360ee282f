/- The document's answer for Split: pieces, each in memory of its own. -/
import Derived.Test.YtncemmhbbkpieaaDoorOctI
namespace Go.Proofs.YtncemmhbbkpieaaDoor
open Go.RowKit Go.Shelf

/-- Rows of elements of two types are two rows. -/
theorem OwnV.apart {w : World} {b1 b2 : Nat} {e1 e2 : TypeId} {v1 v2 : Value} {xs1 xs2 : List Value} (he : e1 ≠ e2) (h1 : OwnV w b1 e1 v1 xs1) (h2 : OwnV w b2 e2 v2 xs2) : v1.ownBlock = none ∨ v1.ownBlock ≠ v2.ownBlock := by
  rcases h1.2 with ⟨rfl, _⟩ | ⟨g, cap, cur, rfl, _, hg, _⟩
  · exact .inl rfl
  · refine .inr fun e => ?_
    rcases h2.2 with ⟨rfl, _⟩ | ⟨g2, cap2, cur2, rfl, _, hg2, _⟩
    · simp [Value.ownBlock] at e
    · simp [Value.ownBlock] at e
      subst e
      rw [hg] at hg2
      simp at hg2
      exact he hg2.2

/-- Pieces, each in memory of its own. -/
def OPcs (w : World) (B0 : Nat) (vs : List Value) (ps : List (List UInt8)) : Prop :=
  vs.length = ps.length ∧ ∀ j, j < ps.length → OwnV w B0 5 (vs[j]?.getD undef) ((ps[j]?.getD []).map encB)

theorem OPcs.nil (w : World) (B0 : Nat) : OPcs w B0 [] [] := ⟨rfl, fun j hj => absurd hj (Nat.not_lt_zero j)⟩

theorem OPcs.snoc {w : World} {B0 : Nat} {vs : List Value} {ps : List (List UInt8)} {v : Value} {p : List UInt8} (h : OPcs w B0 vs ps) (hp : OwnV w B0 5 v (p.map encB)) : OPcs w B0 (vs ++ [v]) (ps ++ [p]) := by
  refine ⟨by simp [h.1], fun j hj => ?_⟩
  simp at hj
  by_cases e : j < ps.length
  · rw [List.getElem?_append_left (by rw [h.1]; exact e), List.getElem?_append_left e]
    exact h.2 j e
  · obtain rfl : j = ps.length := by omega
    rw [List.getElem?_append_right (by rw [h.1]; exact Nat.le_refl _), List.getElem?_append_right (Nat.le_refl _), h.1]
    simpa using hp

theorem OPcs.alloc {w : World} {B0 : Nat} {vs : List Value} {ps : List (List UInt8)} (h : OPcs w B0 vs ps) (o : Obj) : OPcs (w.alloc o) B0 vs ps := ⟨h.1, fun j hj => (h.2 j hj).alloc o⟩

/-- Through a change of a row of another type, or of a row that is new. -/
theorem OPcs.kept {w w' : World} {B0 : Nat} {vs : List Value} {ps : List (List UInt8)} {row : Option Nat} (h : OPcs w B0 vs ps) (hg : w.grownBy w' row)
    (hne : ∀ v xs, OwnV w B0 5 v xs → v.ownBlock = none ∨ v.ownBlock ≠ row) : OPcs w' B0 vs ps := ⟨h.1, fun j hj => (h.2 j hj).kept hg (hne _ _ (h.2 j hj))⟩

theorem OPcs.pcs {w : World} {B0 : Nat} {vs : List Value} {ps : List (List UInt8)} (h : OPcs w B0 vs ps) : Pcs w B0 w.heap.size vs ps := by
  refine ⟨h.1, fun j hj => ?_⟩
  obtain ⟨A, c, hv, hc, hr, ha⟩ := (h.2 j hj).bytes
  exact ⟨A, c, hv, hc, hr, ha⟩

/-- What lay ahead of a new row lies as it lay when that one grows. -/
theorem row_kept {wr w2 : World} {B0 : Nat} {e : TypeId} {v : Value} {vs : List Value} {o : Obj} (hov : OwnV wr B0 e v vs) (g1 : (wr.alloc o).grownBy w2 (Value.slice (some ⟨wr.heap.size, 0, none⟩) 0 0).ownBlock) : OwnV w2 B0 e v vs :=
  (hov.alloc o).kept g1 (.inr fun e => by
    have := (hov.row wr.heap.size (by rw [e]; rfl)).2
    omega)

/-- One piece more: the piece's own row is made, then the row of pieces grows. -/
theorem piece_more {wr w2 w4 : World} {B0 : Nat} {v v1 v' : Value} {vs : List Value} {ps : List (List UInt8)} {p : List UInt8} (hB : B0 ≤ wr.heap.size) (hov : OwnV wr B0 22 v vs) (hpc : OPcs wr B0 vs ps)
    (hp1 : AppPost (wr.alloc (.cells #[] 5)) wr.heap.size 5 (.slice (some ⟨wr.heap.size, 0, none⟩) 0 0) [] (p.map encB) v1 w2)
    (hp2 : AppPost (w2.alloc (.cells #[v1] 22)) B0 22 v vs [v1] v' w4) :
    OwnV w4 B0 22 v' (vs ++ [v1]) ∧ OPcs w4 B0 (vs ++ [v1]) (ps ++ [p]) ∧ Below B0 wr w4 := by
  obtain ⟨h1, g1, _⟩ := hp1
  obtain ⟨h2, g2, _⟩ := hp2
  rw [List.nil_append] at h1
  have hov2 : OwnV w2 B0 22 v vs := (hov.alloc (.cells #[] 5)).kept g1 (.inr fun e => by
    have := (hov.row wr.heap.size (by rw [e]; rfl)).2
    omega)
  have hpc1 : OPcs w2 B0 vs ps := ⟨hpc.1, fun j hj => ((hpc.2 j hj).alloc (.cells #[] 5)).kept g1 (.inr fun e => by
    have := ((hpc.2 j hj).row wr.heap.size (by rw [e]; rfl)).2
    omega)⟩
  have hpc2 : OPcs w2 B0 (vs ++ [v1]) (ps ++ [p]) := hpc1.snoc (h1.base hB)
  refine ⟨h2, (hpc2.alloc (.cells #[v1] 22)).kept g2 (fun u xs hu => hu.apart (by decide) (hov2.alloc _)), ?_⟩
  have b1 := (((Below.refl B0 wr).alloc hB (.cells #[] 5)).grown g1 (by simp; omega) (fun r e => by cases e; exact hB)).alloc (Nat.le_trans hB (Nat.le_trans (by simp) g1.size)) (.cells #[v1] 22)
  exact b1.grown g2 (Nat.le_trans hB (by simpa using b1.size)) (fun r e => (hov2.row r e).1)

end Go.Proofs.YtncemmhbbkpieaaDoor
