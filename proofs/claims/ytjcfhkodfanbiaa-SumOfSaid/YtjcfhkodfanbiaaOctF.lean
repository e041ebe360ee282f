/- The document's answers for Get and Begins; package octet's Begins. -/
import Derived.Test.YtjcfhkodfanbiaaOctE
import Derived.Deep.QuietTactic
import Derived.BigQuiet
namespace Go.Proofs.Ytjcfhkodfanbiaa
open Go.RowKit Go.Shelf

attribute [local go_sem] Oper.semAt_some

/-- Do the bytes begin so? -/
def begins (b a : List UInt8) : Bool := decide (a.length ≤ b.length) && (b.take a.length == a)

theorem begins_iff (b a : List UInt8) : begins b a = true ↔ ∀ j, j < a.length → j < b.length ∧ byteAt b j = byteAt a j := by
  simp only [begins, Bool.and_eq_true, decide_eq_true_eq, beq_iff_eq]
  constructor
  · rintro ⟨hl, he⟩ j hj
    exact ⟨by omega, by rw [← byteAt_take b a.length j hj, he]⟩
  · intro h
    have hl : a.length ≤ b.length := by
      rcases Nat.eq_zero_or_pos a.length with h0 | h0
      · omega
      · have := (h (a.length - 1) (by omega)).1
        omega
    refine ⟨hl, ext_bytes (by simp; omega) fun j hj => ?_⟩
    have hj' : j < a.length := by simp at hj; omega
    rw [byteAt_take b a.length j hj']
    exact (h j hj').2

/-- What the third of three new boxes holds. -/
theorem cell_box2 (w : World) (u v x : Value) (s t r : TypeId) : (((w.alloc (.cells #[u] s)).alloc (.cells #[v] t)).alloc (.cells #[x] r)).cell? ⟨w.heap.size + 1 + 1, 0, none⟩ = some x := by
  have h := (Boxed.new ((w.alloc (.cells #[u] s)).alloc (.cells #[v] t)) r x).cell
  simpa using h

end Go.Proofs.Ytjcfhkodfanbiaa
