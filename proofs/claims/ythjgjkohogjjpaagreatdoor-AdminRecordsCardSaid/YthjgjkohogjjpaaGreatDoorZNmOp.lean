/- How endpoints and names that came in are opened. -/
import Derived.Test.YthjgjkohogjjpaaGreatDoorZKh
import Derived.ProofKit
import Derived.OpenShut
import Derived.ChangeOld
import Derived.SizedLaws
set_option maxRecDepth 100000
namespace Go.Proofs.YthjgjkohogjjpaaGreatDoor
open Go.ChangeShapes Go.WideShapes Go.ChangeAt Go.RowKit


section
variable {H : Type} {enc : TypeId × Value → H} {W : World}

theorem wf_n32 {n : Int} (h : (Lit.int .u32 n).wf = true) : ∃ k : Nat, n = k ∧ k ≤ 4294967295 := by
 simp [Lit.wf, IntKind.min, IntKind.max, IntKind.signed, IntKind.bits] at h
 exact ⟨n.toNat, by omega, by omega⟩
theorem wf_n64 {n : Int} (h : (Lit.int .u64 n).wf = true) : ∃ k : Nat, n = k ∧ k < 18446744073709551616 := by
 simp [Lit.wf, IntKind.min, IntKind.max, IntKind.signed, IntKind.bits] at h
 exact ⟨n.toNat, by omega, by omega⟩

theorem ep_cells {fuel : Nat} {cs : List Value} {x : DataW H × List MemPlace} (h : DataW.trod enc Tryz.prog W 0 (fun _ => true) true fuel 25 cs = some x) : ∃ n m : Nat, (n ≤ 4294967295 ∧ m ≤ 4294967295) ∧ cs = [.int .u32 n, .int .u32 m] := by
 obtain ⟨xs, n, rfl, hx, hlen, hn, hf⟩ := DataW.trod_struct Tryz.underlying25 h
 have c2 : Tryz.prog.cellsOf 25 = 2 := by kernel_rfl
 rw [c2] at hlen
 match cs, hlen with
 | [c0, c1], _ =>
 match xs, hn with
 | [x0, x1], _ =>
 have u1 : Tryz.prog.cellsOf 23 = 1 := by kernel_rfl
 have f0 : DataW.trod enc Tryz.prog W 0 (fun _ => true) true n 23 [c0] = some x0 := by have h := hf 0 _ rfl; simpa [u1] using h
 have f1 : DataW.trod enc Tryz.prog W 0 (fun _ => true) true n 23 [c1] = some x1 := by have h := hf 1 _ rfl; simpa [u1] using h
 obtain ⟨k, e0, _, k0⟩ := DataW.trod_int Tryz.underlying23 f0
 obtain ⟨m, e1, _, k1⟩ := DataW.trod_int Tryz.underlying23 f1
 simp only [List.cons.injEq, and_true] at e0 e1
 subst e0 e1
 obtain ⟨k', rfl, h0⟩ := wf_n32 k0
 obtain ⟨m', rfl, h1⟩ := wf_n32 k1
 exact ⟨k', m', ⟨h0, h1⟩, rfl⟩

theorem name_cells {fuel : Nat} {cs : List Value} {x : DataW H × List MemPlace} (h : DataW.trod enc Tryz.prog W 0 (fun _ => true) true fuel 28 cs = some x) : ∃ a : NmT, a.ok ∧ cs = [.int .u32 a.n, .int .u32 a.m, .int .u64 a.t, .int .u32 a.q] := by
 obtain ⟨xs, n, rfl, hx, hlen, hn, hf⟩ := DataW.trod_struct Tryz.underlying28 h
 have c4 : Tryz.prog.cellsOf 28 = 4 := by kernel_rfl
 rw [c4] at hlen
 match cs, hlen with
 | [c0, c1, c2, c3], _ =>
 match xs, hn with
 | [x0, x1, x2], _ =>
 have u0 : Tryz.prog.cellsOf 25 = 2 := by kernel_rfl
 have u1 : Tryz.prog.cellsOf 26 = 1 := by kernel_rfl
 have u2 : Tryz.prog.cellsOf 23 = 1 := by kernel_rfl
 have f0 : DataW.trod enc Tryz.prog W 0 (fun _ => true) true n 25 [c0, c1] = some x0 := by have h := hf 0 _ rfl; simpa [u0] using h
 have f1 : DataW.trod enc Tryz.prog W 0 (fun _ => true) true n 26 [c2] = some x1 := by have h := hf 1 _ rfl; simpa [u0, u1] using h
 have f2 : DataW.trod enc Tryz.prog W 0 (fun _ => true) true n 23 [c3] = some x2 := by have h := hf 2 _ rfl; simpa [u0, u1, u2] using h
 obtain ⟨a, b, ⟨ha, hb⟩, e0⟩ := ep_cells f0
 obtain ⟨m, e1, _, k1⟩ := DataW.trod_int Tryz.underlying26 f1
 obtain ⟨q, e2, _, k2⟩ := DataW.trod_int Tryz.underlying23 f2
 simp only [List.cons.injEq, and_true] at e0 e1 e2
 obtain ⟨rfl, rfl⟩ := e0
 subst e1 e2
 obtain ⟨m', rfl, h1⟩ := wf_n64 k1
 obtain ⟨q', rfl, h2⟩ := wf_n32 k2
 exact ⟨⟨a, b, m', q'⟩, ⟨⟨ha, hb⟩, h1, h2⟩, rfl⟩

end
end Go.Proofs.YthjgjkohogjjpaaGreatDoor

