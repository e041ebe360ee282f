/- Whether two lists of pieces are the same: the document's answer. -/
import Derived.Test.YtncemmhbbkpieaaDoorOctH
namespace Go.Proofs.YtncemmhbbkpieaaDoor
open Go.RowKit Go.Shelf

/-- A slice at a reads as these values (of one cell each). -/
def RdV (w : World) (a : Option Addr) (vs : List Value) : Prop :=
  vs = [] ∨ ∃ b o, a = some ⟨b, o, none⟩ ∧ ∀ j, j < vs.length → w.cell? ⟨b, o + j, none⟩ = vs[j]?

theorem OwnV.rdV {w : World} {base : Nat} {e : TypeId} {v : Value} {xs : List Value} (h : OwnV w base e v xs) : ∃ A c, v = .slice A xs.length c ∧ RdV w A xs := by
  rcases h.form with ⟨rfl, rfl⟩ | ⟨g, cap, rfl, _, _, _, _, hc, _⟩
  · exact ⟨none, 0, rfl, .inl rfl⟩
  · exact ⟨_, _, rfl, .inr ⟨g, 0, rfl, fun j hj => by rw [Nat.zero_add]; exact hc j hj⟩⟩

/-- A list of pieces, read. -/
def RdP (w : World) (B : Nat) (a : Option Addr) (ps : List (List UInt8)) : Prop :=
  ps = [] ∨ ∃ b o, a = some ⟨b, o, none⟩ ∧ b < B ∧ ∀ j, j < ps.length → ∃ A c, w.cell? ⟨b, o + j, none⟩ = some (.slice A (ps[j]?.getD []).length c) ∧ (ps[j]?.getD []).length ≤ c ∧ RdB w B A (ps[j]?.getD [])

theorem RdP.drewN {w : World} {B : Nat} {a : Option Addr} {ps : List (List UInt8)} (h : RdP w B a ps) (q : Nat) : RdP (w.drewN q) B a ps := h

theorem RdP.below {w w' : World} {B : Nat} {a : Option Addr} {ps : List (List UInt8)} (h : RdP w B a ps) (hb : Below B w w') : RdP w' B a ps := by
  rcases h with h | ⟨b, o, e, hlt, hc⟩
  · exact .inl h
  · refine .inr ⟨b, o, e, hlt, fun j hj => ?_⟩
    obtain ⟨A, c, h1, h2, h3⟩ := hc j hj
    exact ⟨A, c, (hb.cell (p := ⟨b, o + j, none⟩) hlt).trans h1, h2, h3.below hb⟩

theorem RdP.mono {w : World} {B B' : Nat} {a : Option Addr} {ps : List (List UInt8)} (h : RdP w B a ps) (hB : B ≤ B') : RdP w B' a ps := by
  rcases h with h | ⟨b, o, e, hlt, hc⟩
  · exact .inl h
  · refine .inr ⟨b, o, e, by omega, fun j hj => ?_⟩
    obtain ⟨A, c, h1, h2, h3⟩ := hc j hj
    exact ⟨A, c, h1, h2, h3.mono hB⟩

theorem rdP_own {w : World} {base B0 : Nat} {e : TypeId} {v : Value} {vs : List Value} {ps : List (List UInt8)} (h : OwnV w base e v vs) (hp : Pcs w B0 w.heap.size vs ps) :
    ∃ A c, v = .slice A ps.length c ∧ RdP w w.heap.size A ps := by
  rcases h.form with ⟨rfl, rfl⟩ | ⟨g, cap, rfl, _, hg, _, _, hc, _⟩
  · have : ps = [] := List.eq_nil_of_length_eq_zero (by rw [← hp.1]; rfl)
    subst this
    exact ⟨none, 0, rfl, .inl rfl⟩
  · refine ⟨_, _, by rw [hp.1], .inr ⟨g, 0, rfl, hg, fun j hj => ?_⟩⟩
    obtain ⟨A, c, hv, hle, hr, _⟩ := hp.2 j hj
    refine ⟨A, c, ?_, hle, hr⟩
    have hj' : j < vs.length := by rw [hp.1]; exact hj
    rw [Nat.zero_add, hc j hj', List.getElem?_eq_getElem hj', ← hv]
    simp [List.getElem?_eq_getElem hj']

end Go.Proofs.YtncemmhbbkpieaaDoor
