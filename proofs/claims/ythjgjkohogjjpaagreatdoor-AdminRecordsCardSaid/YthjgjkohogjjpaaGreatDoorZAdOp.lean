/- How a record that came in is opened. -/
import Derived.Test.YthjgjkohogjjpaaGreatDoorZNmOp
import Derived.Test.YthjgjkohogjjpaaGreatDoorZAdG
set_option maxRecDepth 100000
namespace Go.Proofs.YthjgjkohogjjpaaGreatDoor
open Go.ChangeShapes Go.WideShapes Go.ChangeAt Go.RowKit


section
variable {H : Type} {enc : TypeId × Value → H} {W : World}

theorem dwf_n8 {n : Int} (h : (Lit.int .u8 n).wf = true) : ∃ k : Nat, n = k ∧ k ≤ 255 := by
 simp [Lit.wf, IntKind.min, IntKind.max, IntKind.signed, IntKind.bits] at h
 exact ⟨n.toNat, by omega, by omega⟩

theorem open_record {base : Nat} {v : Value} {d : DataW H} {p : List MemPlace} (hv : Value.okWide Tryz.prog W .any base 30 v)
  (hd : DataW.Trod enc Tryz.prog W 0 (fun _ => true) true 30 v d p) : ∃ x : Rc, v = .agg #[.int .i64 x.k, .int .u32 x.n, .int .u32 x.m, .int .u64 x.t, .int .u32 x.q, .int .i64 x.wh, .int .i64 x.wy, .int .u64 x.at0, .int .u64 x.no, .int .u32 x.nd, .int .u32 x.rg, .bool x.ys, .int .u64 x.fr, .int .u64 x.un, .int .u8 x.lv] ∧ x.ok := by
 obtain ⟨cs, rfl, _⟩ := okWide_struct Tryz.underlying30 hv
 obtain ⟨fuel, hf⟩ := hd
 obtain ⟨l⟩ := cs
 simp only [Value.cells] at hf
 obtain ⟨xs, n, rfl, hx, hlen, hn, hg⟩ := DataW.trod_struct Tryz.underlying30 hf
 have c15 : Tryz.prog.cellsOf 30 = 15 := by kernel_rfl
 rw [c15] at hlen
 match l, hlen with
 | [c0, c1, c2, c3, c4, c5, c6, c7, c8, c9, c10, c11, c12, c13, c14], _ =>
 match xs, hn with
 | [x0, x1, x2, x3, x4, x5, x6, x7, x8, x9, x10, x11], _ =>
 have u0 : Tryz.prog.cellsOf 22 = 1 := by kernel_rfl
 have u1 : Tryz.prog.cellsOf 28 = 4 := by kernel_rfl
 have u2 : Tryz.prog.cellsOf 3 = 1 := by kernel_rfl
 have u3 : Tryz.prog.cellsOf 26 = 1 := by kernel_rfl
 have u4 : Tryz.prog.cellsOf 23 = 1 := by kernel_rfl
 have u5 : Tryz.prog.cellsOf 4 = 1 := by kernel_rfl
 have u6 : Tryz.prog.cellsOf 5 = 1 := by kernel_rfl
 have f0 : DataW.trod enc Tryz.prog W 0 (fun _ => true) true n 22 [c0] = some x0 := by have h := hg 0 _ rfl; simpa [u0, u1, u2, u3, u4, u5, u6] using h
 have f1 : DataW.trod enc Tryz.prog W 0 (fun _ => true) true n 28 [c1, c2, c3, c4] = some x1 := by have h := hg 1 _ rfl; simpa [u0, u1, u2, u3, u4, u5, u6] using h
 have f2 : DataW.trod enc Tryz.prog W 0 (fun _ => true) true n 3 [c5] = some x2 := by have h := hg 2 _ rfl; simpa [u0, u1, u2, u3, u4, u5, u6] using h
 have f3 : DataW.trod enc Tryz.prog W 0 (fun _ => true) true n 3 [c6] = some x3 := by have h := hg 3 _ rfl; simpa [u0, u1, u2, u3, u4, u5, u6] using h
 have f4 : DataW.trod enc Tryz.prog W 0 (fun _ => true) true n 26 [c7] = some x4 := by have h := hg 4 _ rfl; simpa [u0, u1, u2, u3, u4, u5, u6] using h
 have f5 : DataW.trod enc Tryz.prog W 0 (fun _ => true) true n 26 [c8] = some x5 := by have h := hg 5 _ rfl; simpa [u0, u1, u2, u3, u4, u5, u6] using h
 have f6 : DataW.trod enc Tryz.prog W 0 (fun _ => true) true n 23 [c9] = some x6 := by have h := hg 6 _ rfl; simpa [u0, u1, u2, u3, u4, u5, u6] using h
 have f7 : DataW.trod enc Tryz.prog W 0 (fun _ => true) true n 23 [c10] = some x7 := by have h := hg 7 _ rfl; simpa [u0, u1, u2, u3, u4, u5, u6] using h
 have f8 : DataW.trod enc Tryz.prog W 0 (fun _ => true) true n 4 [c11] = some x8 := by have h := hg 8 _ rfl; simpa [u0, u1, u2, u3, u4, u5, u6] using h
 have f9 : DataW.trod enc Tryz.prog W 0 (fun _ => true) true n 26 [c12] = some x9 := by have h := hg 9 _ rfl; simpa [u0, u1, u2, u3, u4, u5, u6] using h
 have f10 : DataW.trod enc Tryz.prog W 0 (fun _ => true) true n 26 [c13] = some x10 := by have h := hg 10 _ rfl; simpa [u0, u1, u2, u3, u4, u5, u6] using h
 have f11 : DataW.trod enc Tryz.prog W 0 (fun _ => true) true n 5 [c14] = some x11 := by have h := hg 11 _ rfl; simpa [u0, u1, u2, u3, u4, u5, u6] using h
 obtain ⟨k0, e0, _, w0⟩ := DataW.trod_int Tryz.underlying22 f0
 obtain ⟨nm, hnm, e1⟩ := name_cells f1
 obtain ⟨k2, e2, _, w2⟩ := DataW.trod_int Tryz.underlying3 f2
 obtain ⟨k3, e3, _, w3⟩ := DataW.trod_int Tryz.underlying3 f3
 obtain ⟨k4, e4, _, w4⟩ := DataW.trod_int Tryz.underlying26 f4
 obtain ⟨k5, e5, _, w5⟩ := DataW.trod_int Tryz.underlying26 f5
 obtain ⟨k6, e6, _, w6⟩ := DataW.trod_int Tryz.underlying23 f6
 obtain ⟨k7, e7, _, w7⟩ := DataW.trod_int Tryz.underlying23 f7
 obtain ⟨b8, e8, _⟩ := DataW.trod_bool Tryz.underlying4 f8
 obtain ⟨k9, e9, _, w9⟩ := DataW.trod_int Tryz.underlying26 f9
 obtain ⟨k10, e10, _, w10⟩ := DataW.trod_int Tryz.underlying26 f10
 obtain ⟨k11, e11, _, w11⟩ := DataW.trod_int Tryz.underlying5 f11
 simp only [List.cons.injEq, and_true] at e0 e1 e2 e3 e4 e5 e6 e7 e8 e9 e10 e11
 obtain ⟨rfl, rfl, rfl, rfl⟩ := e1
 subst e0 e2 e3 e4 e5 e6 e7 e8 e9 e10 e11
 obtain ⟨m4, rfl, q4⟩ := wf_n64 w4
 obtain ⟨m5, rfl, q5⟩ := wf_n64 w5
 obtain ⟨m6, rfl, q6⟩ := wf_n32 w6
 obtain ⟨m7, rfl, q7⟩ := wf_n32 w7
 obtain ⟨m9, rfl, q9⟩ := wf_n64 w9
 obtain ⟨m10, rfl, q10⟩ := wf_n64 w10
 obtain ⟨m11, rfl, q11⟩ := dwf_n8 w11
 exact ⟨⟨k0, nm.n, nm.m, nm.t, nm.q, k2, k3, m4, m5, m6, m7, b8, m9, m10, m11⟩, rfl, ⟨hnm, q4, q5, q6, q7, q9, q10, q11⟩⟩

end

end Go.Proofs.YthjgjkohogjjpaaGreatDoor

