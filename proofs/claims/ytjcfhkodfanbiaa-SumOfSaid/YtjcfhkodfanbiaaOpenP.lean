/- How a slice of slices of bytes that came in is opened: it reads as a list of lists. -/
import Derived.Test.YtjcfhkodfanbiaaOpen
import Derived.Test.YtjcfhkodfanbiaaOctI
import Derived.Deep.Matrix
namespace Go.Proofs.Ytjcfhkodfanbiaa
open Go.ChangeShapes Go.WideShapes Go.ChangeAt Go.RowKit

section
variable {H : Type} {enc : TypeId × Value → H} {W : World} {base : Nat}

theorem weights_mem_all {P : Program} {e : TypeId} : ∀ {ds : List (DataW H)} {d : DataW H}, d ∈ ds → ∀ n ∈ d.weights P e, n ∈ DataW.weightsAll P e ds
  | d0 :: ds, d, hd, n, hn => by
    simp only [DataW.weightsAll, List.mem_append]
    rcases List.mem_cons.1 hd with rfl | h
    · exact .inl hn
    · exact .inr (weights_mem_all h n hn)

/-- A slice of slices of bytes that came in. -/
theorem open_lists {ts : List TypeId} {ds : List (DataW H)} {jn : Nat} {v : Value} {d : DataW H} {p : List MemPlace} (hv : Value.okWide Try.prog W .any base 22 v)
    (hd : DataW.Trod enc Try.prog W 0 (fun _ => true) true 22 v d p) (hlt : ∀ x ∈ p, x.block < W.heap.size)
    (hsz : (DataW.weightsEach Try.prog ts ds).all (· ≤ reachBytes) = true) (ht : ts[jn]? = some 22) (hdj : ds[jn]? = some d) :
    ∃ a c ps, v = .slice a (List.length ps) c ∧ ps.length ≤ c ∧ ps.length ≤ 140737488351232 ∧ (∀ j, j < ps.length → (ps[j]?.getD []).length ≤ 140737488351232) ∧ RdP W W.heap.size a ps := by
  obtain ⟨a0, len, cap, rfl⟩ := okWide_slice Try.underlying22 hv
  obtain ⟨fuel, hf⟩ := hd
  rcases Deep.open_int_rows Try.underlying22 Try.underlying23 Try.underlying5 (by kernel_rfl) (by kernel_rfl) hf with ⟨hcs, hx⟩ | ⟨x, l, c, A, L, C, Z, hcs, _, hl, hm, hx, hrow⟩
  · simp [Value.cells] at hcs
    obtain ⟨rfl, rfl, rfl⟩ := hcs
    exact ⟨none, 0, [], rfl, Nat.le_refl _, by simp, fun j hj => by simp at hj, .inl rfl⟩
  · simp [Value.cells] at hcs
    obtain ⟨rfl, rfl, rfl⟩ := hcs
    simp only [Prod.mk.injEq] at hx
    obtain ⟨rfl, rfl⟩ := hx
    have hall := DataW.weights_mem_each (P := Try.prog) ht hdj
    have hle : ∀ n ∈ DataW.weights Try.prog 22 (.slice ((List.range len).map fun r => Deep.intRow .u8 (A r) (L r) (Z r)) ((List.range (cap - len)).map fun j => Deep.intRow .u8 (A (len + j)) (L (len + j)) (Z (len + j))) : DataW H), n ≤ 140737488351232 := by
      intro n hn
      have := List.all_eq_true.1 hsz n (hall n hn)
      have h := of_decide_eq_true this
      simpa [reachBytes] using h
    simp only [DataW.weights, Try.underlying22] at hle
    have hlen : len ≤ 140737488351232 := by
      have h1 := hle _ (List.mem_cons_self ..)
      have h2 : Try.prog.bytesOf 23 = 24 := by kernel_rfl
      rw [h2] at h1
      simp only [List.length_map, List.length_range] at h1
      omega
    have hz : ∀ r, r < len → (Z r).length ≤ 140737488351232 ∨ A r = none := by
      intro r hr
      cases hA : A r with
      | none => exact .inr rfl
      | some a' =>
        refine .inl (hle _ (List.mem_cons_of_mem _ (List.mem_append_left _ (weights_mem_all (d := Deep.intRow .u8 (A r) (L r) (Z r)) (List.mem_map.2 ⟨r, List.mem_range.2 hr, rfl⟩) _ ?_))))
        simp only [Deep.intRow, hA, DataW.weights, Try.underlying23, bytes_u8, lits, List.length_map, List.length_take, List.length_drop]
        refine List.mem_cons.2 (.inl ?_)
        have h1 := (hrow r (by omega)).2.1
        have h2 := (hrow r (by omega)).2.2.2.1
        omega
    have hpl : ((List.range len).map fun r => ofNums ((Z r).take (L r))).length = len := by simp
    have hat : ∀ j, j < len → ((List.range len).map fun r => ofNums ((Z r).take (L r)))[j]?.getD [] = ofNums ((Z j).take (L j)) := fun j hj => by simp [hj]
    have hL : ∀ j, j < len → (ofNums ((Z j).take (L j))).length = L j := fun j hj => by
      have h1 := (hrow j (by omega)).2.1
      have h2 := (hrow j (by omega)).2.2.2.1
      simp [ofNums]
      omega
    refine ⟨some x, cap, (List.range len).map fun r => ofNums ((Z r).take (L r)), by rw [hpl], by rw [hpl]; exact hl, by rw [hpl]; exact hlen, fun j hj => ?_, ?_⟩
    · rw [hpl] at hj
      rw [hat j hj, hL j hj]
      obtain ⟨_, h1, _, h2, _, h3, _⟩ := hrow j (by omega)
      rcases hz j hj with h | h
      · omega
      · have := h3 h
        omega
    · by_cases hl0 : len = 0
      · exact .inl (List.eq_nil_of_length_eq_zero (by rw [hpl]; exact hl0))
      · obtain ⟨b, off, spot⟩ := x
        have hspot : spot = none := by simpa [Addr.add] using World.cell?_spot (hrow 0 (by omega)).1
        subst hspot
        have hbW : b < W.heap.size := hlt (.cell b off) (List.mem_append_left _ (MemPlace.mem_row.2 ⟨0, by omega, by simp⟩))
        refine .inr ⟨b, off, rfl, hbW, fun j hj => ?_⟩
        rw [hpl] at hj
        obtain ⟨g1, g2, g3, g4, g5, g6, g7⟩ := hrow j (by omega)
        rw [mk_addr_add] at g1
        rw [hat j hj, hL j hj]
        refine ⟨A j, C j, g1, g2, ?_⟩
        by_cases hL0 : L j = 0
        · exact .inl (List.eq_nil_of_length_eq_zero (by rw [hL j hj]; exact hL0))
        · cases hA : A j with
          | none => exact absurd (g6 hA) (by omega)
          | some a' =>
            obtain ⟨_, g8⟩ := g7 a' hA
            obtain ⟨b', off', spot'⟩ := a'
            have hspot' : spot' = none := by simpa [Addr.add] using World.cell?_spot (g8 0 (by omega))
            subst hspot'
            have hbW' : b' < W.heap.size := hlt (.cell b' off') (List.mem_append_right _ (List.mem_flatMap.2 ⟨j, List.mem_range.2 (by omega), by
              rw [hA]
              exact MemPlace.mem_row.2 ⟨0, by rw [g4]; omega, by simp⟩⟩))
            refine .inr ⟨b', off', rfl, hbW', fun i hi => ?_⟩
            rw [hL j hj] at hi
            have h1 := g8 i (by omega)
            rw [mk_addr_add] at h1
            rw [h1, byteAt_ofNums _ (fun z hz' => wf_u8 (g5 z (List.mem_of_mem_take hz'))) i (by simp; omega)]
            simp [List.getD, hi]

end

end Go.Proofs.Ytjcfhkodfanbiaa
