/- How a slice of items that came in is opened. -/
import Derived.Test.YtkbnglcpcehaiaaDoorZCbOp
import Derived.Test.YtkbnglcpcehaiaaDoorZJd
namespace Go.Proofs.YtkbnglcpcehaiaaDoor
open Go.ChangeShapes Go.WideShapes Go.ChangeAt Go.RowKit

set_option maxRecDepth 100000

theorem wf_i64 {n : Int} (h : (Lit.int .i64 n).wf = true) : -9223372036854775808 ≤ n ∧ n < 9223372036854775808 := by
  simp [Lit.wf, IntKind.min, IntKind.max, IntKind.signed, IntKind.bits] at h
  omega

/-- A slice of items that came in. -/
theorem open_items {H : Type} {enc : TypeId × Value → H} {W : World} {base : Nat} {ts : List TypeId} {ds : List (DataW H)} {jn : Nat} {v : Value} {d : DataW H} {p : List MemPlace} (hv : Value.okWide Tryd.prog W .any base 43 v)
    (hd : DataW.Trod enc Tryd.prog W 0 (fun _ => true) true 43 v d p) (hlt : ∀ x ∈ p, x.block < W.heap.size)
    (hsz : (DataW.weightsEach Tryd.prog ts ds).all (· ≤ reachBytes) = true) (ht : ts[jn]? = some 43) (hdj : ds[jn]? = some d) :
    ∃ a c l, v = .slice a (List.length l) c ∧ l.length ≤ c ∧ l.length ≤ 140737488351232 ∧ ItSl W a l := by
  obtain ⟨a0, len0, cap0, rfl⟩ := okWide_slice Tryd.underlying43 hv
  obtain ⟨fuel, hf⟩ := hd
  have hw : ∀ n ∈ d.weights Tryd.prog 43, n ≤ 140737488351232 := by
    intro n hn
    have := List.all_eq_true.1 hsz n (DataW.weights_mem_each ht hdj n hn)
    have h := of_decide_eq_true this
    simpa [reachBytes] using h
  have c5 : Tryd.prog.cellsOf 45 = 5 := by kernel_rfl
  rcases DataW.trod_slice Tryd.underlying43 hf with ⟨e4, _⟩ | ⟨A, len, cap, elems, rest, n', rfl, e4, hx, _, hl, _, hel, hat, _, _⟩
  · simp [Value.cells] at e4
    obtain ⟨rfl, rfl, rfl⟩ := e4
    exact ⟨none, 0, [], rfl, Nat.le_refl _, by simp, .inl rfl⟩
  · simp [Value.cells] at e4
    obtain ⟨rfl, rfl, rfl⟩ := e4
    simp only [Prod.mk.injEq] at hx
    obtain ⟨rfl, rfl⟩ := hx
    simp only [DataW.weights, Tryd.underlying43] at hw
    rw [c5] at hat
    have hlen : len0 ≤ 140737488351232 := by
      have q := hw _ (List.mem_cons_self ..)
      have b80 : Tryd.prog.bytesOf 45 = 80 := by kernel_rfl
      rw [b80] at q
      simp only [List.length_map] at q
      omega
    have hA : 0 < len0 → A.spot = none ∧ A.block < W.heap.size := by
      intro h0
      have h := hat 0 h0
      rw [List.getElem?_eq_getElem (by omega), Option.bind_eq_some_iff] at h
      obtain ⟨csi, hcs, _⟩ := h
      obtain ⟨_, hcl, hcc⟩ := World.cells?_some hcs
      obtain ⟨b, off, spot⟩ := A
      have q0 := hcc 0 (by omega)
      obtain ⟨y, hy⟩ : ∃ y, csi[0]? = some y := ⟨_, List.getElem?_eq_getElem (by omega)⟩
      rw [hy] at q0
      have e0 : ((⟨b, off, spot⟩ : Addr).add (0 * 5)).add 0 = ⟨b, off, spot⟩ := by simp [Addr.add]
      rw [e0] at q0
      exact ⟨World.cell?_spot q0, World.block_lt_of_cell? W _ q0⟩
    have hex : ∀ i, ∃ x : It, i < len0 → ∃ v, At5 W A.block (A.off + i * 5) v ∧ ItV W W.heap.size v x := by
      intro i
      by_cases hi : i < len0
      · have hi' : i < elems.length := by omega
        have h := hat i hi
        rw [List.getElem?_eq_getElem hi', Option.bind_eq_some_iff] at h
        obtain ⟨csi, hcs, ht⟩ := h
        obtain ⟨_, hcl, hcc⟩ := World.cells?_some hcs
        obtain ⟨d0, d1, d2, d3, d4, x, rfl, hx⟩ := open_itF n' csi elems[i].1 elems[i].2 ht
          (fun q hq => hlt q (List.mem_append_right _ (List.mem_flatMap.2 ⟨elems[i], List.mem_append_left _ (List.getElem_mem hi'), hq⟩)))
          (fun q hq => hw q (List.mem_cons_of_mem _ (List.mem_append_left _ (weights_all_mem (List.mem_map.2 ⟨elems[i], List.getElem_mem hi', rfl⟩) q hq))))
        refine ⟨x, fun _ => ⟨_, ⟨d0, d1, d2, d3, d4, rfl, ?_⟩, hx⟩⟩
        have hspot := (hA (by omega)).1
        obtain ⟨b, off, spot⟩ := A
        simp only at hspot
        subst hspot
        have q0 := hcc 0 (by omega)
        have q1 := hcc 1 (by omega)
        have q2 := hcc 2 (by omega)
        have q3 := hcc 3 (by omega)
        have q4 := hcc 4 (by omega)
        rw [mk_addr_add, mk_addr_add] at q0 q1 q2 q3 q4
        exact ⟨by simpa using q0, by simpa using q1, by simpa using q2, by simpa using q3, by simpa using q4⟩
      · exact ⟨.mk 0 0 [] [] [], fun h => absurd h hi⟩
    let f : Nat → It := fun i => (hex i).choose
    have hfs := fun i => (hex i).choose_spec
    have hll : ((List.range len0).map f).length = len0 := by simp
    refine ⟨some A, cap0, (List.range len0).map f, by rw [hll], by rw [hll]; exact hl, by rw [hll]; exact hlen, ?_⟩
    by_cases hl0 : len0 = 0
    · exact .inl (List.eq_nil_of_length_eq_zero (by rw [hll]; exact hl0))
    · obtain ⟨hsp, hbl⟩ := hA (by omega)
      obtain ⟨b, off, spot⟩ := A
      simp only at hsp
      subst hsp
      refine .inr ⟨b, off, rfl, hbl, itL_of _ _ fun i hi => ?_⟩
      rw [hll] at hi
      obtain ⟨v, hv, hx⟩ := hfs i hi
      refine ⟨v, hv, ?_⟩
      simp only [List.getElem_map, List.getElem_range]
      exact hx

end Go.Proofs.YtkbnglcpcehaiaaDoor
