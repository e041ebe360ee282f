/- How endpoints and names that came in are opened. -/
import Derived.Test.YtjbdpkjkeelgfaaDoorNmH1
import Derived.ProofKit
import Derived.OpenShut
import Derived.ChangeOld
import Derived.SizedLaws
namespace Go.Proofs.YtjbdpkjkeelgfaaDoor
open Go.ChangeShapes Go.WideShapes Go.ChangeAt Go.RowKit

set_option maxRecDepth 100000

section
variable {H : Type} {enc : TypeId × Value → H} {W : World}

theorem wf_n32 {n : Int} (h : (Lit.int .u32 n).wf = true) : ∃ k : Nat, n = k ∧ k ≤ 4294967295 := by
  simp [Lit.wf, IntKind.min, IntKind.max, IntKind.signed, IntKind.bits] at h
  exact ⟨n.toNat, by omega, by omega⟩
theorem wf_n64 {n : Int} (h : (Lit.int .u64 n).wf = true) : ∃ k : Nat, n = k ∧ k < 18446744073709551616 := by
  simp [Lit.wf, IntKind.min, IntKind.max, IntKind.signed, IntKind.bits] at h
  exact ⟨n.toNat, by omega, by omega⟩

theorem ep_cells {fuel : Nat} {cs : List Value} {x : DataW H × List MemPlace} (h : DataW.trod enc Tryd.prog W 0 (fun _ => true) true fuel 24 cs = some x) : ∃ n m : Nat, (n ≤ 4294967295 ∧ m ≤ 4294967295) ∧ cs = [.int .u32 n, .int .u32 m] := by
  obtain ⟨xs, n, rfl, hx, hlen, hn, hf⟩ := DataW.trod_struct Tryd.underlying24 h
  have c2 : Tryd.prog.cellsOf 24 = 2 := by kernel_rfl
  rw [c2] at hlen
  match cs, hlen with
  | [c0, c1], _ =>
  match xs, hn with
  | [x0, x1], _ =>
  have u1 : Tryd.prog.cellsOf 22 = 1 := by kernel_rfl
  have f0 : DataW.trod enc Tryd.prog W 0 (fun _ => true) true n 22 [c0] = some x0 := by have h := hf 0 _ rfl; simpa [u1] using h
  have f1 : DataW.trod enc Tryd.prog W 0 (fun _ => true) true n 22 [c1] = some x1 := by have h := hf 1 _ rfl; simpa [u1] using h
  obtain ⟨k, e0, _, k0⟩ := DataW.trod_int Tryd.underlying22 f0
  obtain ⟨m, e1, _, k1⟩ := DataW.trod_int Tryd.underlying22 f1
  simp only [List.cons.injEq, and_true] at e0 e1
  subst e0 e1
  obtain ⟨k', rfl, h0⟩ := wf_n32 k0
  obtain ⟨m', rfl, h1⟩ := wf_n32 k1
  exact ⟨k', m', ⟨h0, h1⟩, rfl⟩

theorem name_cells {fuel : Nat} {cs : List Value} {x : DataW H × List MemPlace} (h : DataW.trod enc Tryd.prog W 0 (fun _ => true) true fuel 47 cs = some x) : ∃ a : NmT, a.ok ∧ cs = [.int .u32 a.n, .int .u32 a.m, .int .u64 a.t, .int .u32 a.q] := by
  obtain ⟨xs, n, rfl, hx, hlen, hn, hf⟩ := DataW.trod_struct Tryd.underlying47 h
  have c4 : Tryd.prog.cellsOf 47 = 4 := by kernel_rfl
  rw [c4] at hlen
  match cs, hlen with
  | [c0, c1, c2, c3], _ =>
  match xs, hn with
  | [x0, x1, x2], _ =>
  have u0 : Tryd.prog.cellsOf 24 = 2 := by kernel_rfl
  have u1 : Tryd.prog.cellsOf 29 = 1 := by kernel_rfl
  have u2 : Tryd.prog.cellsOf 22 = 1 := by kernel_rfl
  have f0 : DataW.trod enc Tryd.prog W 0 (fun _ => true) true n 24 [c0, c1] = some x0 := by have h := hf 0 _ rfl; simpa [u0] using h
  have f1 : DataW.trod enc Tryd.prog W 0 (fun _ => true) true n 29 [c2] = some x1 := by have h := hf 1 _ rfl; simpa [u0, u1] using h
  have f2 : DataW.trod enc Tryd.prog W 0 (fun _ => true) true n 22 [c3] = some x2 := by have h := hf 2 _ rfl; simpa [u0, u1, u2] using h
  obtain ⟨a, b, ⟨ha, hb⟩, e0⟩ := ep_cells f0
  obtain ⟨m, e1, _, k1⟩ := DataW.trod_int Tryd.underlying29 f1
  obtain ⟨q, e2, _, k2⟩ := DataW.trod_int Tryd.underlying22 f2
  simp only [List.cons.injEq, and_true] at e0 e1 e2
  obtain ⟨rfl, rfl⟩ := e0
  subst e1 e2
  obtain ⟨m', rfl, h1⟩ := wf_n64 k1
  obtain ⟨q', rfl, h2⟩ := wf_n32 k2
  exact ⟨⟨a, b, m', q'⟩, ⟨⟨ha, hb⟩, h1, h2⟩, rfl⟩

/-- An endpoint that came in. -/
theorem open_ep {base : Nat} {v : Value} {d : DataW H} {p : List MemPlace} (hv : Value.okWide Tryd.prog W .any base 24 v)
    (hd : DataW.Trod enc Tryd.prog W 0 (fun _ => true) true 24 v d p) : ∃ n m : Nat, v = .agg #[.int .u32 n, .int .u32 m] ∧ n ≤ 4294967295 ∧ m ≤ 4294967295 := by
  obtain ⟨cs, rfl, _⟩ := okWide_struct Tryd.underlying24 hv
  obtain ⟨fuel, hf⟩ := hd
  obtain ⟨n, m, h, e⟩ := ep_cells hf
  obtain ⟨l⟩ := cs
  have e' : l = [.int .u32 n, .int .u32 m] := by simpa [Value.cells] using e
  subst e'
  exact ⟨n, m, rfl, h⟩

/-- A name that came in. -/
theorem open_name {base : Nat} {v : Value} {d : DataW H} {p : List MemPlace} (hv : Value.okWide Tryd.prog W .any base 47 v)
    (hd : DataW.Trod enc Tryd.prog W 0 (fun _ => true) true 47 v d p) : ∃ a : NmT, v = .agg #[.int .u32 a.n, .int .u32 a.m, .int .u64 a.t, .int .u32 a.q] ∧ a.ok := by
  obtain ⟨cs, rfl, _⟩ := okWide_struct Tryd.underlying47 hv
  obtain ⟨fuel, hf⟩ := hd
  obtain ⟨a, h, e⟩ := name_cells hf
  obtain ⟨l⟩ := cs
  have e' : l = [.int .u32 a.n, .int .u32 a.m, .int .u64 a.t, .int .u32 a.q] := by simpa [Value.cells] using e
  subst e'
  exact ⟨a, rfl, h⟩

/-- Three names that came in. -/
theorem open_names3 {base : Nat} {v : Value} {d : DataW H} {p : List MemPlace} (hv : Value.okWide Tryd.prog W .any base 75 v)
    (hd : DataW.Trod enc Tryd.prog W 0 (fun _ => true) true 75 v d p) : ∃ a b c : NmT, v = .agg #[.int .u32 a.n, .int .u32 a.m, .int .u64 a.t, .int .u32 a.q, .int .u32 b.n, .int .u32 b.m, .int .u64 b.t, .int .u32 b.q, .int .u32 c.n, .int .u32 c.m, .int .u64 c.t, .int .u32 c.q] ∧ a.ok ∧ b.ok ∧ c.ok := by
  have hu := Tryd.underlying75
  have hc12 : Tryd.prog.cellsOf 75 = 12 := by kernel_rfl
  have hc4 : Tryd.prog.cellsOf 47 = 4 := by kernel_rfl
  simp only [Value.okWide, hu] at hv
  obtain ⟨cs, rfl, hsz, _⟩ := hv
  rw [hc12] at hsz
  obtain ⟨cs⟩ := cs
  simp only [List.size_toArray] at hsz
  match cs, hsz with
  | [c0, c1, c2, c3, c4, c5, c6, c7, c8, c9, c10, c11], _ =>
    obtain ⟨fuel, hf⟩ := hd
    obtain ⟨xs, m, rfl, _, _, hl, hx⟩ := DataW.trod_array hu hf
    simp only [hc4, Value.cells] at hx
    have e0 := hx 0 (by omega)
    have e1 := hx 1 (by omega)
    have e2 := hx 2 (by omega)
    rw [List.getElem?_eq_getElem (by omega)] at e0 e1 e2
    obtain ⟨a, h0, g0⟩ := name_cells e0
    obtain ⟨b, h1, g1⟩ := name_cells e1
    obtain ⟨c, h2, g2⟩ := name_cells e2
    simp at g0 g1 g2
    obtain ⟨rfl, rfl, rfl, rfl⟩ := g0
    obtain ⟨rfl, rfl, rfl, rfl⟩ := g1
    obtain ⟨rfl, rfl, rfl, rfl⟩ := g2
    exact ⟨a, b, c, rfl, h0, h1, h2⟩

end
end Go.Proofs.YtjbdpkjkeelgfaaDoor
