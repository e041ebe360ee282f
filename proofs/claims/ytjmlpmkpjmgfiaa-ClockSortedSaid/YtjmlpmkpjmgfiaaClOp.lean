/- How numbers and spans that came in are opened: numbers of 64 bits; a struct, an array of them. -/
import Derived.Test.YtjmlpmkpjmgfiaaClA
import Derived.ProofKit
import Derived.OpenShut
import Derived.ChangeOld
import Derived.SizedLaws
namespace Go.Proofs.Ytjmlpmkpjmgfiaa
open Go.ChangeShapes Go.WideShapes Go.ChangeAt Go.RowKit

set_option maxRecDepth 100000

theorem clOwn : ownKnob Try.prog.godebug = none := by kernel_rfl
theorem clLaid : laidOutB Try.prog = true := by kernel_rfl

theorem wf_w64 {n : Int} (h : (Lit.int .u64 n).wf = true) : W64 n := by
  unfold W64
  simp [Lit.wf, IntKind.min, IntKind.max, IntKind.signed, IntKind.bits] at h
  omega

/-- An array of two numbers that came in. -/
theorem open_u2 {H : Type} {enc : TypeId × Value → H} {W : World} {base : Nat} {v : Value} {d : DataW H} {p : List MemPlace} (hv : Value.okWide Try.prog W .any base 56 v)
    (hd : DataW.Trod enc Try.prog W 0 (fun _ => true) true 56 v d p) : ∃ t0 t1, v = .agg #[.int .u64 t0, .int .u64 t1] ∧ W64 t0 ∧ W64 t1 := by
  have hu := Try.underlying56
  have hc2 : Try.prog.cellsOf 56 = 2 := by kernel_rfl
  have hc1 : Try.prog.cellsOf 28 = 1 := by kernel_rfl
  simp only [Value.okWide, hu] at hv
  obtain ⟨cs, rfl, hsz, _⟩ := hv
  rw [hc2] at hsz
  obtain ⟨cs⟩ := cs
  simp only [List.size_toArray] at hsz
  match cs, hsz with
  | [c0, c1], _ =>
    obtain ⟨fuel, hf⟩ := hd
    obtain ⟨xs, m, rfl, _, _, hl, hx⟩ := DataW.trod_array hu hf
    simp only [hc1, Value.cells] at hx
    have e0 := hx 0 (by omega)
    have e1 := hx 1 (by omega)
    rw [List.getElem?_eq_getElem (by omega)] at e0 e1
    obtain ⟨n0, h0, g0, k0⟩ := DataW.trod_int Try.underlying28 e0
    obtain ⟨n1, h1, g1, k1⟩ := DataW.trod_int Try.underlying28 e1
    simp at h0 h1
    subst h0 h1
    exact ⟨n0, n1, rfl, wf_w64 k0, wf_w64 k1⟩

/-- A span that came in. -/
theorem open_span {H : Type} {enc : TypeId × Value → H} {W : World} {base : Nat} {v : Value} {d : DataW H} {p : List MemPlace} (hv : Value.okWide Try.prog W .any base 30 v)
    (hd : DataW.Trod enc Try.prog W 0 (fun _ => true) true 30 v d p) : ∃ f u, v = .agg #[.int .u64 f, .int .u64 u] ∧ W64 f ∧ W64 u := by
  obtain ⟨cs, rfl, hsz⟩ := okWide_struct Try.underlying30 hv
  obtain ⟨fuel, hf⟩ := hd
  have hc2 : Try.prog.cellsOf 30 = 2 := by kernel_rfl
  have hc1 : Try.prog.cellsOf 28 = 1 := by kernel_rfl
  obtain ⟨y0, y1, n, _, _, e0, e1⟩ := trod_struct2 Try.underlying30 hf
  rw [hc2] at hsz
  obtain ⟨cs⟩ := cs
  simp only [List.size_toArray] at hsz
  match cs, hsz with
  | [c0, c1], _ =>
    simp only [hc1, Value.cells] at e0 e1
    obtain ⟨n0, h0, g0, k0⟩ := DataW.trod_int Try.underlying28 e0
    obtain ⟨n1, h1, g1, k1⟩ := DataW.trod_int Try.underlying28 e1
    simp at h0 h1
    subst h0 h1
    exact ⟨n0, n1, rfl, wf_w64 k0, wf_w64 k1⟩

end Go.Proofs.Ytjmlpmkpjmgfiaa
