/- How a primary, and a slice of uint32, that came in are opened. -/
import Derived.Test.YtlmdbeccfoncpaaGreatDoorZMu
import Derived.ProofKit
import Derived.OpenShut
import Derived.ChangeOld
import Derived.SizedLaws
namespace Go.Proofs.YtlmdbeccfoncpaaGreatDoor
open Go.ChangeShapes Go.WideShapes Go.ChangeAt Go.RowKit

set_option maxRecDepth 100000

section
variable {H : Type} {enc : TypeId × Value → H} {W : World}

theorem fit_n32 {n : Int} (h : (Lit.int .u32 n).wf = true) : ∃ k : Nat, n = k ∧ k ≤ 4294967295 := by
  simp [Lit.wf, IntKind.min, IntKind.max, IntKind.signed, IntKind.bits] at h
  exact ⟨n.toNat, by omega, by omega⟩
theorem fit_n64 {n : Int} (h : (Lit.int .u64 n).wf = true) : ∃ k : Nat, n = k ∧ k < 18446744073709551616 := by
  simp [Lit.wf, IntKind.min, IntKind.max, IntKind.signed, IntKind.bits] at h
  exact ⟨n.toNat, by omega, by omega⟩

theorem pep_cells {fuel : Nat} {cs : List Value} {x : DataW H × List MemPlace} (h : DataW.trod enc Tryz.prog W 0 (fun _ => true) true fuel 25 cs = some x) : ∃ n m : Nat, (n ≤ 4294967295 ∧ m ≤ 4294967295) ∧ cs = [.int .u32 n, .int .u32 m] := by
  obtain ⟨xs, n, rfl, hx, hlen, hn, hf⟩ := DataW.trod_struct Tryz.underlying25 h
  have c2 : Tryz.prog.cellsOf 25 = 2 := by kernel_rfl
  rw [c2] at hlen
  match cs, hlen with
  | [c0, c1], _ =>
  match xs, hn with
  | [x0, x1], _ =>
  have u1 : Tryz.prog.cellsOf 22 = 1 := by kernel_rfl
  have f0 : DataW.trod enc Tryz.prog W 0 (fun _ => true) true n 22 [c0] = some x0 := by have h := hf 0 _ rfl; simpa [u1] using h
  have f1 : DataW.trod enc Tryz.prog W 0 (fun _ => true) true n 22 [c1] = some x1 := by have h := hf 1 _ rfl; simpa [u1] using h
  obtain ⟨k, e0, _, k0⟩ := DataW.trod_int Tryz.underlying22 f0
  obtain ⟨m, e1, _, k1⟩ := DataW.trod_int Tryz.underlying22 f1
  simp only [List.cons.injEq, and_true] at e0 e1
  subst e0 e1
  obtain ⟨k', rfl, h0⟩ := fit_n32 k0
  obtain ⟨m', rfl, h1⟩ := fit_n32 k1
  exact ⟨k', m', ⟨h0, h1⟩, rfl⟩

theorem prim_cells {fuel : Nat} {cs : List Value} {x : DataW H × List MemPlace} (h : DataW.trod enc Tryz.prog W 0 (fun _ => true) true fuel 28 cs = some x) :
    ∃ p : Pm, p.ok ∧ cs = [.int .u32 p.f, .int .i64 p.s, .int .u32 p.tn, .int .u32 p.tm, .int .u32 p.sn, .int .u32 p.sm, .int .u32 p.rn, .int .u32 p.rm, .int .u64 p.t, .int .u32 p.q, .int .u64 p.l] := by
  obtain ⟨xs, n, rfl, hx, hlen, hn, hf⟩ := DataW.trod_struct Tryz.underlying28 h
  have c11 : Tryz.prog.cellsOf 28 = 11 := by kernel_rfl
  rw [c11] at hlen
  match cs, hlen with
  | [c0, c1, c2, c3, c4, c5, c6, c7, c8, c9, c10], _ =>
  match xs, hn with
  | [x0, x1, x2, x3, x4, x5, x6, x7], _ =>
  have u0 : Tryz.prog.cellsOf 25 = 2 := by kernel_rfl
  have u1 : Tryz.prog.cellsOf 26 = 1 := by kernel_rfl
  have u2 : Tryz.prog.cellsOf 22 = 1 := by kernel_rfl
  have u3 : Tryz.prog.cellsOf 23 = 1 := by kernel_rfl
  have f0 : DataW.trod enc Tryz.prog W 0 (fun _ => true) true n 22 [c0] = some x0 := by have h := hf 0 _ rfl; simpa [u0, u1, u2, u3] using h
  have f1 : DataW.trod enc Tryz.prog W 0 (fun _ => true) true n 23 [c1] = some x1 := by have h := hf 1 _ rfl; simpa [u0, u1, u2, u3] using h
  have f2 : DataW.trod enc Tryz.prog W 0 (fun _ => true) true n 25 [c2, c3] = some x2 := by have h := hf 2 _ rfl; simpa [u0, u1, u2, u3] using h
  have f3 : DataW.trod enc Tryz.prog W 0 (fun _ => true) true n 25 [c4, c5] = some x3 := by have h := hf 3 _ rfl; simpa [u0, u1, u2, u3] using h
  have f4 : DataW.trod enc Tryz.prog W 0 (fun _ => true) true n 25 [c6, c7] = some x4 := by have h := hf 4 _ rfl; simpa [u0, u1, u2, u3] using h
  have f5 : DataW.trod enc Tryz.prog W 0 (fun _ => true) true n 26 [c8] = some x5 := by have h := hf 5 _ rfl; simpa [u0, u1, u2, u3] using h
  have f6 : DataW.trod enc Tryz.prog W 0 (fun _ => true) true n 22 [c9] = some x6 := by have h := hf 6 _ rfl; simpa [u0, u1, u2, u3] using h
  have f7 : DataW.trod enc Tryz.prog W 0 (fun _ => true) true n 26 [c10] = some x7 := by have h := hf 7 _ rfl; simpa [u0, u1, u2, u3] using h
  obtain ⟨k0, e0, _, w0⟩ := DataW.trod_int Tryz.underlying22 f0
  obtain ⟨k1, e1, _, w1⟩ := DataW.trod_int Tryz.underlying23 f1
  obtain ⟨a2, b2, ⟨ha2, hb2⟩, e2⟩ := pep_cells f2
  obtain ⟨a3, b3, ⟨ha3, hb3⟩, e3⟩ := pep_cells f3
  obtain ⟨a4, b4, ⟨ha4, hb4⟩, e4⟩ := pep_cells f4
  obtain ⟨k5, e5, _, w5⟩ := DataW.trod_int Tryz.underlying26 f5
  obtain ⟨k6, e6, _, w6⟩ := DataW.trod_int Tryz.underlying22 f6
  obtain ⟨k7, e7, _, w7⟩ := DataW.trod_int Tryz.underlying26 f7
  simp only [List.cons.injEq, and_true] at e0 e1 e2 e3 e4 e5 e6 e7
  obtain ⟨rfl, rfl⟩ := e2
  obtain ⟨rfl, rfl⟩ := e3
  obtain ⟨rfl, rfl⟩ := e4
  subst e0 e1 e5 e6 e7
  obtain ⟨n0, rfl, h0⟩ := fit_n32 w0
  obtain ⟨n5, rfl, h5⟩ := fit_n64 w5
  obtain ⟨n6, rfl, h6⟩ := fit_n32 w6
  obtain ⟨n7, rfl, h7⟩ := fit_n64 w7
  exact ⟨⟨n0, k1, a2, b2, a3, b3, a4, b4, n5, n6, n7⟩, ⟨h0, ha2, hb2, ha3, hb3, ha4, hb4, h5, h6, h7⟩, rfl⟩

/-- A primary that came in. -/
theorem open_prim {base : Nat} {v : Value} {d : DataW H} {p : List MemPlace} (hv : Value.okWide Tryz.prog W .any base 28 v)
    (hd : DataW.Trod enc Tryz.prog W 0 (fun _ => true) true 28 v d p) : ∃ a : Pm, v = .agg #[.int .u32 a.f, .int .i64 a.s, .int .u32 a.tn, .int .u32 a.tm, .int .u32 a.sn, .int .u32 a.sm, .int .u32 a.rn, .int .u32 a.rm, .int .u64 a.t, .int .u32 a.q, .int .u64 a.l] ∧ a.ok := by
  obtain ⟨cs, rfl, _⟩ := okWide_struct Tryz.underlying28 hv
  obtain ⟨fuel, hf⟩ := hd
  obtain ⟨a, h, e⟩ := prim_cells hf
  obtain ⟨l⟩ := cs
  have e' : l = [.int .u32 a.f, .int .i64 a.s, .int .u32 a.tn, .int .u32 a.tm, .int .u32 a.sn, .int .u32 a.sm, .int .u32 a.rn, .int .u32 a.rm, .int .u64 a.t, .int .u32 a.q, .int .u64 a.l] := by simpa [Value.cells] using e
  subst e'
  exact ⟨a, rfl, h⟩

/-- A slice of uint32 that came in. -/
theorem open_u32s {base : Nat} {ts : List TypeId} {ds : List (DataW H)} {jn : Nat} {v : Value} {d : DataW H} {p : List MemPlace} (hv : Value.okWide Tryz.prog W .any base 40 v)
    (hd : DataW.Trod enc Tryz.prog W 0 (fun _ => true) true 40 v d p) (_hlt : ∀ x ∈ p, x.block < W.heap.size)
    (hsz : (DataW.weightsEach Tryz.prog ts ds).all (· ≤ reachBytes) = true) (ht : ts[jn]? = some 40) (hdj : ds[jn]? = some d) :
    ∃ a c zs, v = .slice a (List.length zs) c ∧ zs.length ≤ 140737488351232 ∧ (∀ x ∈ zs, x < 4294967296) ∧ RdU3 W W.heap.size a zs := by
  obtain ⟨a0, len0, cap0, rfl⟩ := okWide_slice Tryz.underlying40 hv
  obtain ⟨fuel, hf⟩ := hd
  have hw : ∀ n ∈ d.weights Tryz.prog 40, n ≤ 140737488351232 := by
    intro n hn
    have := List.all_eq_true.1 hsz n (DataW.weights_mem_each ht hdj n hn)
    have h := of_decide_eq_true this
    simpa [reachBytes] using h
  have c1 : Tryz.prog.cellsOf 22 = 1 := by kernel_rfl
  rcases DataW.trod_slice Tryz.underlying40 hf with ⟨e4, _⟩ | ⟨A, len, cap, elems, rest, n', rfl, e4, hx, _, hl, _, hel, hat, _, _⟩
  · simp [Value.cells] at e4
    obtain ⟨rfl, rfl, rfl⟩ := e4
    exact ⟨none, 0, [], rfl, by simp, by simp, .inl rfl⟩
  · simp [Value.cells] at e4
    obtain ⟨rfl, rfl, rfl⟩ := e4
    simp only [Prod.mk.injEq] at hx
    obtain ⟨rfl, rfl⟩ := hx
    simp only [DataW.weights, Tryz.underlying40] at hw
    rw [c1] at hat
    have hlen : len0 ≤ 140737488351232 := by
      have q := hw _ (List.mem_cons_self ..)
      have b4 : Tryz.prog.bytesOf 22 = 4 := by kernel_rfl
      rw [b4] at q
      simp only [List.length_map] at q
      omega
    have hA : 0 < len0 → A.spot = none ∧ A.block < W.heap.size := by
      intro h0
      have h := hat 0 h0
      rw [List.getElem?_eq_getElem (by omega), Option.bind_eq_some_iff] at h
      obtain ⟨csi, hcs, _⟩ := h
      obtain ⟨_, hcl, hcc⟩ := World.cells?_some hcs
      obtain ⟨b, off, spot⟩ := A
      have q0 := hcc 0 (by omega)
      obtain ⟨y, hy⟩ : ∃ y, csi[0]? = some y := ⟨_, List.getElem?_eq_getElem (by omega)⟩
      rw [hy] at q0
      have e0 : ((⟨b, off, spot⟩ : Addr).add (0 * 1)).add 0 = ⟨b, off, spot⟩ := by simp [Addr.add]
      rw [e0] at q0
      exact ⟨World.cell?_spot q0, World.block_lt_of_cell? W _ q0⟩
    have hex : ∀ i, ∃ x : Nat, x < 4294967296 ∧ (i < len0 → A.spot = none ∧ A.block < W.heap.size ∧ W.cell? ⟨A.block, A.off + i, none⟩ = some (.int .u32 x)) := by
      intro i
      by_cases hi : i < len0
      · have h := hat i hi
        rw [List.getElem?_eq_getElem (by omega), Option.bind_eq_some_iff] at h
        obtain ⟨csi, hcs, ht⟩ := h
        obtain ⟨_, hcl, hcc⟩ := World.cells?_some hcs
        obtain ⟨k, e0, _, w0⟩ := DataW.trod_int Tryz.underlying22 ht
        subst e0
        obtain ⟨n0, rfl, h0⟩ := fit_n32 w0
        have q0 := hcc 0 (by omega)
        obtain ⟨hspot, hbl⟩ := hA (by omega)
        obtain ⟨b, off, spot⟩ := A
        simp only at hspot
        subst hspot
        rw [mk_addr_add, mk_addr_add] at q0
        exact ⟨n0, by omega, fun _ => ⟨rfl, hbl, by simpa using q0⟩⟩
      · exact ⟨0, by decide, fun h => absurd h hi⟩
    let f : Nat → Nat := fun i => (hex i).choose
    have hfs := fun i => (hex i).choose_spec
    have hll : ((List.range len0).map f).length = len0 := by simp
    refine ⟨some A, cap0, (List.range len0).map f, by rw [hll], by rw [hll]; exact hlen, ?_, ?_⟩
    · intro x hx
      obtain ⟨i, _, rfl⟩ := List.mem_map.1 hx
      exact (hfs i).1
    by_cases hl0 : len0 = 0
    · exact .inl (List.eq_nil_of_length_eq_zero (by rw [hll]; exact hl0))
    · obtain ⟨hsp, hbl, _⟩ := (hfs 0).2 (by omega)
      obtain ⟨b, off, spot⟩ := A
      simp only at hsp
      subst hsp
      refine .inr ⟨b, off, rfl, hbl, fun i hi => ?_⟩
      rw [hll] at hi
      have h := ((hfs i).2 hi).2.2
      have e : ((List.range len0).map f)[i]?.getD 0 = f i := by simp [hi]
      rw [e]
      exact h

end
end Go.Proofs.YtlmdbeccfoncpaaGreatDoor
