/- Bytes that are lent, and whether they were kept. -/
import Derived.Test.YtncemmhbbkpieaaDoorOctJ
namespace Go.Proofs.YtncemmhbbkpieaaDoor
open Go.RowKit Go.Shelf

/-- Bytes that are lent: in memory of their own, 77 behind them. -/
def LentP (w : World) (bs : List UInt8) (e : Ending) (w' : World) : Prop :=
  ∃ g cap, e = .returned (.slice (some ⟨g, 0, none⟩) bs.length cap) ∧ bs.length < cap ∧ w.heap.size ≤ g ∧ RdB w' w'.heap.size (some ⟨g, 0, none⟩) (bs ++ [77]) ∧ Below w.heap.size w w'

theorem lent_form {w : World} {base : Nat} {v : Value} {bs : List UInt8} (h : OwnV w base 5 v (([] ++ bs.map encB) ++ [.int .u8 77])) :
    ∃ g cap, v = .slice (some ⟨g, 0, none⟩) (bs.length + 1) cap ∧ base ≤ g ∧ g < w.heap.size ∧ bs.length + 1 ≤ cap ∧ RdB w w.heap.size (some ⟨g, 0, none⟩) (bs ++ [77]) := by
  have e : ([] ++ bs.map encB) ++ [Value.int .u8 77] = (bs ++ [77]).map encB := by simp [encB]
  rw [e] at h
  obtain ⟨a, c, hv, hc, hr, ha⟩ := h.bytes
  rcases h.form with ⟨_, h0⟩ | ⟨g, cap, rfl, hb, hlt, hn, _⟩
  · simp at h0
  · injection hv with h1 h2 h3
    subst h1 h3
    refine ⟨g, cap, by simp, hb, hlt, by simpa using hn, hr⟩

/-- 's[:h]': at the same place. -/
theorem run_cut1h {P : Program} (t e : TypeId) (ht : P.underlying t = some (.slice e)) (hz : ∀ w, (Go.sizeOf e).run P w = .ok 1 w) (a : Option Addr) (n cap h : Nat) (h1 : h ≤ cap) (w : World) :
    (Instr.slice t (.slice a n cap) none (some (.int .i64 (h : Int))) none).run P w = .ok (.slice a h cap) w := by
  have ht' : P.underlying t = some (.slice (P.elem t)) := by simp [Program.elem, ht]
  have he : P.elem t = e := by simp [Program.elem, ht]
  rw [run_slice_h w t a n cap ht' .i64 h (by omega) (by omega), he, hz]
  rcases a with _ | ad
  · simp [Result.andThen, sliced]
  · simp [Result.andThen, sliced, Addr.add]

end Go.Proofs.YtncemmhbbkpieaaDoor
