/- How an item that came in is opened. -/
import Derived.Test.YtkbnglcpcehaiaaDoorZJa
import Derived.Test.YtkbnglcpcehaiaaDoorZJd
namespace Go.Proofs.YtkbnglcpcehaiaaDoor
open Go.ChangeShapes Go.WideShapes Go.ChangeAt Go.RowKit

set_option maxRecDepth 100000

section
variable {H : Type} {enc : TypeId × Value → H} {W : World}

theorem itL_of {w : World} {B g : Nat} : ∀ (l : List It) (o : Nat), (∀ i (h : i < l.length), ∃ v, At5 w g (o + i * 5) v ∧ ItV w B v l[i]) → ItL w B g o l
  | [], _, _ => by simp only [ItL]
  | x :: xs, o, h => by
    simp only [ItL]
    refine ⟨by have := h 0 (by simp); rw [show o + 0 * 5 = o by omega] at this; exact this, itL_of xs (o + 5) fun i hi => ?_⟩
    have := h (i + 1) (by simpa using hi)
    rw [show o + 5 + i * 5 = o + (i + 1) * 5 by omega]
    simpa using this

theorem weights_all_mem {P : Program} {e : TypeId} : ∀ {ds : List (DataW H)} {d : DataW H}, d ∈ ds → ∀ n ∈ d.weights P e, n ∈ DataW.weightsAll P e ds
  | d0 :: ds, d, hd, n, hn => by
    simp only [DataW.weightsAll, List.mem_append]
    rcases List.mem_cons.1 hd with rfl | h
    · exact .inl hn
    · exact .inr (weights_all_mem h n hn)

theorem open_bytesF {fuel : Nat} {v : Value} {d : DataW H} {p : List MemPlace} (hf : DataW.trod enc Tryd.prog W 0 (fun _ => true) true fuel 42 [v] = some (d, p)) (hlt : ∀ x ∈ p, x.block < W.heap.size)
    (hw : ∀ n ∈ d.weights Tryd.prog 42, n ≤ 140737488351232) :
    ∃ a c bs, v = .slice a (List.length bs) c ∧ bs.length ≤ c ∧ bs.length ≤ 140737488351232 ∧ RdB W W.heap.size a bs := by
  rcases open_ints Tryd.underlying42 Tryd.underlying5 (by kernel_rfl) hf with ⟨hcs, hx⟩ | ⟨x, len, cap, zs, hcs, _, hl, hm, hz, hx, hcell, hwz⟩
  · simp only [List.cons.injEq, and_true] at hcs
    subst hcs
    exact ⟨none, 0, [], rfl, Nat.le_refl _, by simp, RdB.nil _ _ _⟩
  · simp only [List.cons.injEq, and_true] at hcs
    subst hcs
    simp only [Prod.mk.injEq] at hx
    obtain ⟨rfl, rfl⟩ := hx
    simp only [if_true] at hz
    have hreach : len ≤ 140737488351232 := by
      simp only [DataW.weights, Tryd.underlying42] at hw
      have h1 := hw _ (List.mem_cons_self ..)
      rw [bytes_u8] at h1
      simp only [lits, List.length_map, List.length_take, List.length_drop] at h1
      omega
    have hbl : (ofNums (zs.take len)).length = len := by simp [ofNums]; omega
    refine ⟨some x, cap, ofNums (zs.take len), by rw [hbl], by rw [hbl]; exact hl, by rw [hbl]; exact hreach, ?_⟩
    by_cases hl0 : len = 0
    · exact .inl (List.eq_nil_of_length_eq_zero (by rw [hbl]; exact hl0))
    · obtain ⟨b, off, spot⟩ := x
      have hspot : spot = none := by simpa [Addr.add] using World.cell?_spot (hcell 0 (by omega))
      subst hspot
      have hbW : b < W.heap.size := hlt (.cell b off) (MemPlace.mem_row.2 ⟨0, by omega, by simp⟩)
      refine .inr ⟨b, off, rfl, hbW, fun j hj => ?_⟩
      rw [hbl] at hj
      have h1 := hcell j (by omega)
      rw [mk_addr_add] at h1
      rw [h1, byteAt_ofNums _ (fun z hz' => wf_u8 (hwz z (List.mem_of_mem_take hz'))) j (by simp; omega)]
      simp [List.getD, hj]

theorem open_itF : ∀ (fuel : Nat) (cs : List Value) (d : DataW H) (p : List MemPlace), DataW.trod enc Tryd.prog W 0 (fun _ => true) true fuel 45 cs = some (d, p) → (∀ x ∈ p, x.block < W.heap.size) → (∀ n ∈ d.weights Tryd.prog 45, n ≤ 140737488351232) →
    ∃ c0 c1 c2 c3 c4 x, cs = [c0, c1, c2, c3, c4] ∧ ItV W W.heap.size (.agg #[c0, c1, c2, c3, c4]) x := by
  intro fuel
  induction fuel using Nat.strongRecOn with
  | ind fuel ih =>
    intro cs d p h hlt hw
    obtain ⟨xs, n, rfl, hx, hlen, hn, hf⟩ := DataW.trod_struct Tryd.underlying45 h
    have c5 : Tryd.prog.cellsOf 45 = 5 := by kernel_rfl
    rw [c5] at hlen
    simp only [Prod.mk.injEq] at hx
    obtain ⟨rfl, rfl⟩ := hx
    match cs, hlen with
    | [c0, c1, c2, c3, c4], _ =>
    match xs, hn with
    | [x0, x1, x2, x3, x4], _ =>
    have u0 : Tryd.prog.cellsOf 40 = 1 := by kernel_rfl
    have u1 : Tryd.prog.cellsOf 41 = 1 := by kernel_rfl
    have u2 : Tryd.prog.cellsOf 42 = 1 := by kernel_rfl
    have u3 : Tryd.prog.cellsOf 9 = 1 := by kernel_rfl
    have u4 : Tryd.prog.cellsOf 43 = 1 := by kernel_rfl
    have f0 : DataW.trod enc Tryd.prog W 0 (fun _ => true) true n 40 [c0] = some x0 := by have h := hf 0 _ rfl; simpa [u0] using h
    have f1 : DataW.trod enc Tryd.prog W 0 (fun _ => true) true n 41 [c1] = some x1 := by have h := hf 1 _ rfl; simpa [u1] using h
    have f2 : DataW.trod enc Tryd.prog W 0 (fun _ => true) true n 42 [c2] = some x2 := by have h := hf 2 _ rfl; simpa [u2] using h
    have f3 : DataW.trod enc Tryd.prog W 0 (fun _ => true) true n 9 [c3] = some x3 := by have h := hf 3 _ rfl; simpa [u3] using h
    have f4 : DataW.trod enc Tryd.prog W 0 (fun _ => true) true n 43 [c4] = some x4 := by have h := hf 4 _ rfl; simpa [u4] using h
    clear hf h
    simp only [DataW.weights, Tryd.underlying45] at hw
    have w2 : ∀ n ∈ x2.1.weights Tryd.prog 42, n ≤ 140737488351232 := fun n hn => hw n (DataW.weights_mem_each (j := 2) rfl rfl n hn)
    have w3 : ∀ n ∈ x3.1.weights Tryd.prog 9, n ≤ 140737488351232 := fun n hn => hw n (DataW.weights_mem_each (j := 3) rfl rfl n hn)
    have w4 : ∀ n ∈ x4.1.weights Tryd.prog 43, n ≤ 140737488351232 := fun n hn => hw n (DataW.weights_mem_each (j := 4) rfl rfl n hn)
    have l2 : ∀ x ∈ x2.2, x.block < W.heap.size := fun x hx => hlt x (by simp [hx])
    have l4 : ∀ x ∈ x4.2, x.block < W.heap.size := fun x hx => hlt x (by simp [hx])
    clear hw hlt
    obtain ⟨k, e0, _, k0⟩ := DataW.trod_int Tryd.underlying40 f0
    obtain ⟨m, e1, _, k1⟩ := DataW.trod_int Tryd.underlying41 f1
    obtain ⟨s, e3, r3, _⟩ := DataW.trod_string Tryd.underlying9 f3
    obtain ⟨a, c, bs, rfl, h1, h2, h3⟩ := open_bytesF (d := x2.1) (p := x2.2) f2 l2 w2
    simp only [List.cons.injEq, and_true] at e0 e1 e3
    subst e0 e1 e3
    have hs : s.data.toList.length ≤ 140737488351232 := by
      rw [r3] at w3
      exact w3 _ (by simp [DataW.weights])
    have hk : -9223372036854775808 ≤ k ∧ k < 9223372036854775808 := by
      simp [Lit.wf, IntKind.min, IntKind.max, IntKind.signed, IntKind.bits] at k0
      omega
    have hm : U64 m := by
      simp [Lit.wf, IntKind.min, IntKind.max, IntKind.signed, IntKind.bits] at k1
      exact ⟨by omega, by omega⟩
    have hstr : s = ⟨s.data.toList.toArray⟩ := by simp
    rcases DataW.trod_slice Tryd.underlying43 f4 with ⟨e4, _⟩ | ⟨A, len, cap, elems, rest, n', rfl, e4, rfl, _, hl, _, hel, hat, _, _⟩
    · simp only [List.cons.injEq, and_true] at e4
      subst e4
      refine ⟨_, _, _, _, _, .mk k m bs s.data.toList [], rfl, ?_⟩
      simp only [ItV]
      exact ⟨none, ⟨a, c, 0, by rw [← hstr]; rfl, ⟨h1, Nat.le_refl _⟩, h3, hm, hk, by simp only [Sz]; omega, by simp only [Sz]; omega, by simp [Sz]⟩, .inl trivial⟩
    · simp only [List.cons.injEq, and_true] at e4
      subst e4
      simp only [DataW.weights, Tryd.underlying43] at w4
      rw [c5] at hat
      have hlen : len ≤ 140737488351232 := by
        have q := w4 _ (List.mem_cons_self ..)
        have b80 : Tryd.prog.bytesOf 45 = 80 := by kernel_rfl
        rw [b80] at q
        simp only [List.length_map] at q
        omega
      have hA : 0 < len → A.spot = none ∧ A.block < W.heap.size := by
        intro h0
        have h := hat 0 h0
        rw [List.getElem?_eq_getElem (by omega), Option.bind_eq_some_iff] at h
        obtain ⟨csi, hcs, _⟩ := h
        obtain ⟨_, hcl, hcc⟩ := World.cells?_some hcs
        obtain ⟨b, off, spot⟩ := A
        have q0 := hcc 0 (by omega)
        obtain ⟨y, hy⟩ : ∃ y, csi[0]? = some y := ⟨_, List.getElem?_eq_getElem (by omega)⟩
        rw [hy] at q0
        have e0 : ((⟨b, off, spot⟩ : Addr).add (0 * 5)).add 0 = ⟨b, off, spot⟩ := by simp [Addr.add]
        rw [e0] at q0
        exact ⟨World.cell?_spot q0, World.block_lt_of_cell? W _ q0⟩
      have hex : ∀ i, ∃ x : It, i < len → ∃ v, At5 W A.block (A.off + i * 5) v ∧ ItV W W.heap.size v x := by
        intro i
        by_cases hi : i < len
        · have hi' : i < elems.length := by omega
          have h := hat i hi
          rw [List.getElem?_eq_getElem hi', Option.bind_eq_some_iff] at h
          obtain ⟨csi, hcs, ht⟩ := h
          obtain ⟨_, hcl, hcc⟩ := World.cells?_some hcs
          obtain ⟨d0, d1, d2, d3, d4, x, rfl, hx⟩ := ih n' (by omega) csi elems[i].1 elems[i].2 ht
            (fun q hq => l4 q (List.mem_append_right _ (List.mem_flatMap.2 ⟨elems[i], List.mem_append_left _ (List.getElem_mem hi'), hq⟩)))
            (fun q hq => w4 q (List.mem_cons_of_mem _ (List.mem_append_left _ (weights_all_mem (List.mem_map.2 ⟨elems[i], List.getElem_mem hi', rfl⟩) q hq))))
          refine ⟨x, fun _ => ⟨_, ⟨d0, d1, d2, d3, d4, rfl, ?_⟩, hx⟩⟩
          · have hspot := (hA (by omega)).1
            obtain ⟨b, off, spot⟩ := A
            simp only at hspot
            subst hspot
            have q0 := hcc 0 (by omega)
            have q1 := hcc 1 (by omega)
            have q2 := hcc 2 (by omega)
            have q3 := hcc 3 (by omega)
            have q4 := hcc 4 (by omega)
            rw [mk_addr_add, mk_addr_add] at q0 q1 q2 q3 q4
            exact ⟨by simpa using q0, by simpa using q1, by simpa using q2, by simpa using q3, by simpa using q4⟩
        · exact ⟨.mk 0 0 [] [] [], fun h => absurd h hi⟩
      let f : Nat → It := fun i => (hex i).choose
      have hfs := fun i => (hex i).choose_spec
      have hll : ((List.range len).map f).length = len := by simp
      refine ⟨_, _, _, _, _, .mk k m bs s.data.toList ((List.range len).map f), rfl, ?_⟩
      rw [ItV, hll]
      refine ⟨some A, ⟨a, c, cap, by rw [← hstr], ⟨h1, hl⟩, h3, hm, hk, by simp only [Sz]; omega, by simp only [Sz]; omega, by simp only [Sz]; omega⟩, ?_⟩
      by_cases hl0 : len = 0
      · subst hl0
        exact .inl rfl
      · obtain ⟨hsp, hbl⟩ := hA (by omega)
        obtain ⟨b, off, spot⟩ := A
        simp only at hsp
        subst hsp
        refine .inr ⟨b, off, rfl, hbl, itL_of _ _ fun i hi => ?_⟩
        rw [hll] at hi
        obtain ⟨v, hv, hx⟩ := hfs i hi
        refine ⟨v, hv, ?_⟩
        simp only [List.getElem_map, List.getElem_range]
        exact hx

/-- An item that came in. -/
theorem open_item {base : Nat} {ts : List TypeId} {ds : List (DataW H)} {jn : Nat} {v : Value} {d : DataW H} {p : List MemPlace} (hv : Value.okWide Tryd.prog W .any base 45 v)
    (hd : DataW.Trod enc Tryd.prog W 0 (fun _ => true) true 45 v d p) (hlt : ∀ x ∈ p, x.block < W.heap.size)
    (hsz : (DataW.weightsEach Tryd.prog ts ds).all (· ≤ reachBytes) = true) (ht : ts[jn]? = some 45) (hdj : ds[jn]? = some d) : ∃ x, ItV W W.heap.size v x := by
  obtain ⟨cs, rfl, _⟩ := okWide_struct Tryd.underlying45 hv
  obtain ⟨fuel, hf⟩ := hd
  have hw : ∀ n ∈ d.weights Tryd.prog 45, n ≤ 140737488351232 := by
    intro n hn
    have := List.all_eq_true.1 hsz n (DataW.weights_mem_each ht hdj n hn)
    have h := of_decide_eq_true this
    simpa [reachBytes] using h
  obtain ⟨c0, c1, c2, c3, c4, x, e, hx⟩ := open_itF fuel _ d p hf hlt hw
  obtain ⟨l⟩ := cs
  have e' : l = [c0, c1, c2, c3, c4] := by simpa [Value.cells] using e
  subst e'
  exact ⟨x, hx⟩

end
end Go.Proofs.YtkbnglcpcehaiaaDoor
