/- What a slice of calls weighs. -/
import Derived.Test.YtekeooeapiodmaaZDkO1
import Derived.Test.YtekeooeapiodmaaZDkC2
namespace Go.Proofs.Ytekeooeapiodmaa
open Go.ChangeShapes Go.WideShapes Go.ChangeAt Go.RowKit

set_option maxRecDepth 100000

section
variable {H : Type} {enc : TypeId × Value → H} {W : World}

theorem acts_few {ts : List TypeId} {ds : List (DataW H)} {jn : Nat} {a : Option Addr} {n c : Nat} {d : DataW H} {p : List MemPlace}
    (hd : DataW.Trod enc Try.prog W 0 (fun _ => true) true 22 (.slice a n c) d p)
    (hsz : (DataW.weightsEach Try.prog ts ds).all (· ≤ reachBytes) = true) (ht : ts[jn]? = some 22) (hdj : ds[jn]? = some d) : n * 56 ≤ 140737488351232 := by
  obtain ⟨fuel, hf⟩ := hd
  have hw : ∀ n ∈ d.weights Try.prog 22, n ≤ 140737488351232 := by
    intro n hn
    have := List.all_eq_true.1 hsz n (DataW.weights_mem_each ht hdj n hn)
    have h := of_decide_eq_true this
    simpa [reachBytes] using h
  have hf : DataW.trod enc Try.prog W 0 (fun _ => true) true fuel 22 [.slice a n c] = some (d, p) := by simpa [Value.cells] using hf
  rcases DataW.trod_slice Try.underlying22 hf with ⟨e4, _⟩ | ⟨A, len, cap, elems, rest, n', rfl, e4, hx, _, hl, hle, hel, hat, _, _⟩
  · simp at e4
    obtain ⟨rfl, rfl, rfl⟩ := e4
    omega
  · simp at e4
    obtain ⟨rfl, rfl, rfl⟩ := e4
    simp only [Prod.mk.injEq] at hx
    obtain ⟨rfl, rfl⟩ := hx
    simp only [DataW.weights, Try.underlying22] at hw
    have q := hw _ (List.mem_cons_self ..)
    have b56 : Try.prog.bytesOf 40 = 56 := by kernel_rfl
    rw [b56] at q
    simp only [List.length_map] at q
    omega
end
end Go.Proofs.Ytekeooeapiodmaa

