/- How a slice of spans that came in is opened. -/
import Derived.Test.YtjmlpmkpjmgfiaaClOp
import Derived.Test.YtjmlpmkpjmgfiaaClF
namespace Go.Proofs.Ytjmlpmkpjmgfiaa
open Go.ChangeShapes Go.WideShapes Go.ChangeAt Go.RowKit

set_option maxRecDepth 100000

theorem span_cells {H : Type} {enc : TypeId × Value → H} {W : World} {fuel : Nat} {cs : List Value} {x : DataW H × List MemPlace} (h : DataW.trod enc Try.prog W 0 (fun _ => true) true fuel 30 cs = some x) : ∃ f u, cs = [.int .u64 f, .int .u64 u] := by
  obtain ⟨xs, n, rfl, hx, hlen, hn, hf⟩ := DataW.trod_struct Try.underlying30 h
  have c2 : Try.prog.cellsOf 30 = 2 := by kernel_rfl
  rw [c2] at hlen
  match cs, hlen with
  | [c0, c1], _ =>
  match xs, hn with
  | [x0, x1], _ =>
  have u1 : Try.prog.cellsOf 28 = 1 := by kernel_rfl
  have f0 : DataW.trod enc Try.prog W 0 (fun _ => true) true n 28 [c0] = some x0 := by have h := hf 0 _ rfl; simpa [u1] using h
  have f1 : DataW.trod enc Try.prog W 0 (fun _ => true) true n 28 [c1] = some x1 := by have h := hf 1 _ rfl; simpa [u1] using h
  obtain ⟨k, e0, _, k0⟩ := DataW.trod_int Try.underlying28 f0
  obtain ⟨m, e1, _, k1⟩ := DataW.trod_int Try.underlying28 f1
  simp only [List.cons.injEq, and_true] at e0 e1
  subst e0 e1
  exact ⟨k, m, rfl⟩

/-- A slice of spans that came in. -/
theorem open_spans {H : Type} {enc : TypeId × Value → H} {W : World} {base : Nat} {ts : List TypeId} {ds : List (DataW H)} {jn : Nat} {v : Value} {d : DataW H} {p : List MemPlace} (hv : Value.okWide Try.prog W .any base 22 v)
    (hd : DataW.Trod enc Try.prog W 0 (fun _ => true) true 22 v d p) (hlt : ∀ x ∈ p, x.block < W.heap.size)
    (hsz : (DataW.weightsEach Try.prog ts ds).all (· ≤ reachBytes) = true) (ht : ts[jn]? = some 22) (hdj : ds[jn]? = some d) :
    ∃ a c ss, v = .slice a (List.length ss) c ∧ ss.length ≤ 140737488351232 ∧ RdS W W.heap.size a ss := by
  obtain ⟨a0, len0, cap0, rfl⟩ := okWide_slice Try.underlying22 hv
  obtain ⟨fuel, hf⟩ := hd
  have hw : ∀ n ∈ d.weights Try.prog 22, n ≤ 140737488351232 := by
    intro n hn
    have := List.all_eq_true.1 hsz n (DataW.weights_mem_each ht hdj n hn)
    have h := of_decide_eq_true this
    simpa [reachBytes] using h
  have c2 : Try.prog.cellsOf 30 = 2 := by kernel_rfl
  rcases DataW.trod_slice Try.underlying22 hf with ⟨e4, _⟩ | ⟨A, len, cap, elems, rest, n', rfl, e4, hx, _, hl, _, hel, hat, _, _⟩
  · simp [Value.cells] at e4
    obtain ⟨rfl, rfl, rfl⟩ := e4
    exact ⟨none, 0, [], rfl, by simp, .inl rfl⟩
  · simp [Value.cells] at e4
    obtain ⟨rfl, rfl, rfl⟩ := e4
    simp only [Prod.mk.injEq] at hx
    obtain ⟨rfl, rfl⟩ := hx
    simp only [DataW.weights, Try.underlying22] at hw
    rw [c2] at hat
    have hlen : len0 ≤ 140737488351232 := by
      have q := hw _ (List.mem_cons_self ..)
      have b16 : Try.prog.bytesOf 30 = 16 := by kernel_rfl
      rw [b16] at q
      simp only [List.length_map] at q
      omega
    have hA : 0 < len0 → A.spot = none ∧ A.block < W.heap.size := by
      intro h0
      have h := hat 0 h0
      rw [List.getElem?_eq_getElem (by omega), Option.bind_eq_some_iff] at h
      obtain ⟨csi, hcs, _⟩ := h
      obtain ⟨_, hcl, hcc⟩ := World.cells?_some hcs
      obtain ⟨b, off, spot⟩ := A
      have q0 := hcc 0 (by omega)
      obtain ⟨y, hy⟩ : ∃ y, csi[0]? = some y := ⟨_, List.getElem?_eq_getElem (by omega)⟩
      rw [hy] at q0
      have e0 : ((⟨b, off, spot⟩ : Addr).add (0 * 2)).add 0 = ⟨b, off, spot⟩ := by simp [Addr.add]
      rw [e0] at q0
      exact ⟨World.cell?_spot q0, World.block_lt_of_cell? W _ q0⟩
    have hex : ∀ i, ∃ x : Int × Int, i < len0 → W.cell? ⟨A.block, A.off + i * 2, none⟩ = some (.int .u64 x.1) ∧ W.cell? ⟨A.block, A.off + i * 2 + 1, none⟩ = some (.int .u64 x.2) := by
      intro i
      by_cases hi : i < len0
      · have h := hat i hi
        rw [List.getElem?_eq_getElem (by omega), Option.bind_eq_some_iff] at h
        obtain ⟨csi, hcs, ht⟩ := h
        obtain ⟨_, hcl, hcc⟩ := World.cells?_some hcs
        obtain ⟨f, u, rfl⟩ := span_cells ht
        refine ⟨(f, u), fun _ => ?_⟩
        have hspot := (hA (by omega)).1
        obtain ⟨b, off, spot⟩ := A
        simp only at hspot
        subst hspot
        have q0 := hcc 0 (by omega)
        have q1 := hcc 1 (by omega)
        rw [mk_addr_add, mk_addr_add] at q0 q1
        exact ⟨by simpa using q0, by simpa using q1⟩
      · exact ⟨(0, 0), fun h => absurd h hi⟩
    let f : Nat → Int × Int := fun i => (hex i).choose
    have hfs := fun i => (hex i).choose_spec
    have hll : ((List.range len0).map f).length = len0 := by simp
    refine ⟨some A, cap0, (List.range len0).map f, by rw [hll], by rw [hll]; exact hlen, ?_⟩
    by_cases hl0 : len0 = 0
    · exact .inl (List.eq_nil_of_length_eq_zero (by rw [hll]; exact hl0))
    · obtain ⟨hsp, hbl⟩ := hA (by omega)
      obtain ⟨b, off, spot⟩ := A
      simp only at hsp
      subst hsp
      refine .inr ⟨b, off, rfl, hbl, fun i hi => ?_⟩
      rw [hll] at hi
      have h := hfs i hi
      have e : (((List.range len0).map f)[i]?.getD (0, 0)) = f i := by simp [hi]
      rw [e]
      exact h

end Go.Proofs.Ytjmlpmkpjmgfiaa
