/- How a slice of names that came in is opened. -/
import Derived.Test.YtjbdpkjkeelgfaaDoorNmOp
import Derived.Test.YtjbdpkjkeelgfaaDoorNnA
namespace Go.Proofs.YtjbdpkjkeelgfaaDoor
open Go.ChangeShapes Go.WideShapes Go.ChangeAt Go.RowKit

set_option maxRecDepth 100000

/-- A slice of names that came in. -/
theorem open_names {H : Type} {enc : TypeId × Value → H} {W : World} {base : Nat} {ts : List TypeId} {ds : List (DataW H)} {jn : Nat} {v : Value} {d : DataW H} {p : List MemPlace} (hv : Value.okWide Tryd.prog W .any base 68 v)
    (hd : DataW.Trod enc Tryd.prog W 0 (fun _ => true) true 68 v d p) (hlt : ∀ x ∈ p, x.block < W.heap.size)
    (hsz : (DataW.weightsEach Tryd.prog ts ds).all (· ≤ reachBytes) = true) (ht : ts[jn]? = some 68) (hdj : ds[jn]? = some d) :
    ∃ a c ss, v = .slice a (List.length ss) c ∧ ss.length ≤ 140737488351232 ∧ RdNs W W.heap.size a ss := by
  obtain ⟨a0, len0, cap0, rfl⟩ := okWide_slice Tryd.underlying68 hv
  obtain ⟨fuel, hf⟩ := hd
  have hw : ∀ n ∈ d.weights Tryd.prog 68, n ≤ 140737488351232 := by
    intro n hn
    have := List.all_eq_true.1 hsz n (DataW.weights_mem_each ht hdj n hn)
    have h := of_decide_eq_true this
    simpa [reachBytes] using h
  have c2 : Tryd.prog.cellsOf 47 = 4 := by kernel_rfl
  rcases DataW.trod_slice Tryd.underlying68 hf with ⟨e4, _⟩ | ⟨A, len, cap, elems, rest, n', rfl, e4, hx, _, hl, _, hel, hat, _, _⟩
  · simp [Value.cells] at e4
    obtain ⟨rfl, rfl, rfl⟩ := e4
    exact ⟨none, 0, [], rfl, by simp, .inl rfl⟩
  · simp [Value.cells] at e4
    obtain ⟨rfl, rfl, rfl⟩ := e4
    simp only [Prod.mk.injEq] at hx
    obtain ⟨rfl, rfl⟩ := hx
    simp only [DataW.weights, Tryd.underlying68] at hw
    rw [c2] at hat
    have hlen : len0 ≤ 140737488351232 := by
      have q := hw _ (List.mem_cons_self ..)
      have b24 : Tryd.prog.bytesOf 47 = 24 := by kernel_rfl
      rw [b24] at q
      simp only [List.length_map] at q
      omega
    have hA : 0 < len0 → A.spot = none ∧ A.block < W.heap.size := by
      intro h0
      have h := hat 0 h0
      rw [List.getElem?_eq_getElem (by omega), Option.bind_eq_some_iff] at h
      obtain ⟨csi, hcs, _⟩ := h
      obtain ⟨_, hcl, hcc⟩ := World.cells?_some hcs
      obtain ⟨b, off, spot⟩ := A
      have q0 := hcc 0 (by omega)
      obtain ⟨y, hy⟩ : ∃ y, csi[0]? = some y := ⟨_, List.getElem?_eq_getElem (by omega)⟩
      rw [hy] at q0
      have e0 : ((⟨b, off, spot⟩ : Addr).add (0 * 4)).add 0 = ⟨b, off, spot⟩ := by simp [Addr.add]
      rw [e0] at q0
      exact ⟨World.cell?_spot q0, World.block_lt_of_cell? W _ q0⟩
    have hex : ∀ i, ∃ x : NmS, i < len0 → CellN W A.block (A.off + i * 4) x := by
      intro i
      by_cases hi : i < len0
      · have h := hat i hi
        rw [List.getElem?_eq_getElem (by omega), Option.bind_eq_some_iff] at h
        obtain ⟨csi, hcs, ht⟩ := h
        obtain ⟨_, hcl, hcc⟩ := World.cells?_some hcs
        obtain ⟨x, hx, rfl⟩ := name_cells ht
        refine ⟨⟨x, hx⟩, fun _ => ?_⟩
        have hspot := (hA (by omega)).1
        obtain ⟨b, off, spot⟩ := A
        simp only at hspot
        subst hspot
        have q0 := hcc 0 (by omega)
        have q1 := hcc 1 (by omega)
        have q2 := hcc 2 (by omega)
        have q3 := hcc 3 (by omega)
        rw [mk_addr_add, mk_addr_add] at q0 q1 q2 q3
        exact ⟨by simpa using q0, by simpa using q1, by simpa using q2, by simpa using q3⟩
      · exact ⟨nmZero, fun h => absurd h hi⟩
    let f : Nat → NmS := fun i => (hex i).choose
    have hfs := fun i => (hex i).choose_spec
    have hll : ((List.range len0).map f).length = len0 := by simp
    refine ⟨some A, cap0, (List.range len0).map f, by rw [hll], by rw [hll]; exact hlen, ?_⟩
    by_cases hl0 : len0 = 0
    · exact .inl (List.eq_nil_of_length_eq_zero (by rw [hll]; exact hl0))
    · obtain ⟨hsp, hbl⟩ := hA (by omega)
      obtain ⟨b, off, spot⟩ := A
      simp only at hsp
      subst hsp
      refine .inr ⟨b, off, rfl, hbl, fun i hi => ?_⟩
      rw [hll] at hi
      have h := hfs i hi
      have e : atN ((List.range len0).map f) i = f i := by simp [atN, hi]
      rw [e]
      exact h

end Go.Proofs.YtjbdpkjkeelgfaaDoor
