/- Joined texts. -/
import Derived.Test.YteldifnkeekafaaGreatDoorZAp
import Derived.Test.YteldifnkeekafaaGreatDoorZCy
import Derived.Test.YteldifnkeekafaaGreatDoorZAc
import Derived.Test.YteldifnkeekafaaGreatDoorZBo
import Derived.Test.YteldifnkeekafaaGreatDoorZKl
import Derived.Test.YteldifnkeekafaaGreatDoorRows
import Derived.Test.YteldifnkeekafaaGreatDoorZCbI1
import Derived.Test.YteldifnkeekafaaGreatDoorZKh
set_option maxHeartbeats 16000000
set_option linter.unusedSimpArgs false
set_option linter.unusedVariables false
set_option maxRecDepth 100000
namespace Go.Proofs.YteldifnkeekafaaGreatDoor
open Go Go.RowKit Go.Shelf

attribute [local go_sem] Oper.semAt_some

end Go.Proofs.YteldifnkeekafaaGreatDoor

namespace Go.Proofs.YteldifnkeekafaaGreatDoor
open Go.ChangeShapes Go.WideShapes Go.ChangeAt Go.RowKit


mutual
def It.wt : It → Nat
 | .mk _ _ b s l => 2 + b.length + s.length + wtL l
def wtL : List It → Nat
 | [] => 0
 | x :: xs => x.wt + wtL xs
end

mutual
theorem depth_wt : ∀ x : It, 2 * x.depth ≤ x.wt
 | .mk k n b s l => by
  have := depthL_wt l
  simp only [It.depth, It.wt]
  omega
theorem depthL_wt : ∀ l : List It, 2 * It.depth.depthL l ≤ wtL l
 | [] => by simp [It.depth.depthL, wtL]
 | x :: xs => by
  have h1 := depth_wt x
  have h2 := depthL_wt xs
  simp only [It.depth.depthL, wtL]
  omega
end

mutual
theorem bytes_wt : ∀ x : It, x.bytes.length ≤ 9 * x.wt
 | .mk k n b s l => by
  have h1 := ownB_length k n b s l.length
  have h2 := bytesL_wt l
  simp only [It.bytes, It.wt, List.length_append]
  omega
theorem bytesL_wt : ∀ l : List It, (bytesL l).length ≤ 9 * wtL l
 | [] => by simp [bytesL, wtL]
 | x :: xs => by
  have h1 := bytes_wt x
  have h2 := bytesL_wt xs
  simp only [bytesL, wtL, List.length_append]
  omega
end

theorem bulk_one {H : Type} (d : DataW H) : 1 ≤ Rows.uptoBulk d := by
 cases d with
 | lit l => cases l <;> simp [Rows.uptoBulk]
 | _ => simp [Rows.uptoBulk]
theorem bulk_len {H : Type} (l : List (DataW H)) : l.length ≤ Rows.uptoBulkAll l := by
 induction l with
 | nil => simp [Rows.uptoBulkAll]
 | cons x r ih => have := bulk_one x; simp only [Rows.uptoBulkAll, List.length_cons]; omega
theorem wtL_le {H : Type} : ∀ (l : List It) (ds : List (DataW H)) {n : Nat}, l.length = n → ds.length = n → (∀ i, i < n → ∃ x d, l[i]? = some x ∧ ds[i]? = some d ∧ x.wt ≤ Rows.uptoBulk d) → wtL l ≤ Rows.uptoBulkAll ds
 | [], [], _, _, _, _ => by simp [wtL, Rows.uptoBulkAll]
 | [], _ :: _, _, h1, h2, _ => by simp at h1 h2; omega
 | _ :: _, [], _, h1, h2, _ => by simp at h1 h2; omega
 | x :: xs, d :: ds, n, h1, h2, h => by
  simp only [List.length_cons] at h1 h2
  obtain ⟨y, e, hy, he, hw⟩ := h 0 (by omega)
  simp only [List.getElem?_cons_zero, Option.some.injEq] at hy he
  subst hy he
  have := wtL_le xs ds (n := n - 1) (by omega) (by omega) fun i hi => by
   obtain ⟨y, e, hy, he, hw⟩ := h (i + 1) (by omega)
   exact ⟨y, e, by simpa using hy, by simpa using he, hw⟩
  simp only [wtL, Rows.uptoBulkAll]
  omega

section
variable {H : Type} {enc : TypeId × Value → H} {W : World}

theorem open_bytesW {fuel : Nat} {v : Value} {d : DataW H} {p : List MemPlace} (hf : DataW.trod enc Tryz.prog W 0 (fun _ => true) true fuel 22 [v] = some (d, p)) (hlt : ∀ x ∈ p, x.block < W.heap.size)
  (hw : ∀ n ∈ d.weights Tryz.prog 22, n ≤ 140737488351232) :
  ∃ a c bs, v = .slice a (List.length bs) c ∧ bs.length ≤ c ∧ bs.length ≤ 140737488351232 ∧ RdB W W.heap.size a bs ∧ bs.length + 1 ≤ Rows.uptoBulk d := by
 rcases open_ints Tryz.underlying22 Tryz.underlying5 (by kernel_rfl) hf with ⟨hcs, hx⟩ | ⟨x, len, cap, zs, hcs, _, hl, hm, hz, hx, hcell, hwz⟩
 ·simp only [List.cons.injEq, and_true] at hcs
  subst hcs
  obtain rfl : d = .nil := by injection hx
  exact ⟨none, 0, [], rfl, Nat.le_refl _, by simp, RdB.nil _ _ _, by simp [Rows.uptoBulk]⟩
 ·simp only [List.cons.injEq, and_true] at hcs
  subst hcs
  simp only [Prod.mk.injEq] at hx
  obtain ⟨rfl, rfl⟩ := hx
  simp only [if_true] at hz
  have hreach : len ≤ 140737488351232 := by
   simp only [DataW.weights, Tryz.underlying22] at hw
   have h1 := hw _ (List.mem_cons_self ..)
   rw [bytes_u8] at h1
   simp only [lits, List.length_map, List.length_take, List.length_drop] at h1
   omega
  have hbl : (ofNums (zs.take len)).length = len := by simp [ofNums]; omega
  have hbk : len + 1 ≤ Rows.uptoBulk (DataW.slice (lits .u8 (zs.take len)) (lits .u8 (zs.drop len)) : DataW H) := by
   have h1 := bulk_len (lits (H := H) .u8 (zs.take len))
   have h2 : (lits (H := H) .u8 (zs.take len)).length = len := by simp [lits]; omega
   simp only [Rows.uptoBulk]
   omega
  refine ⟨some x, cap, ofNums (zs.take len), by rw [hbl], by rw [hbl]; exact hl, by rw [hbl]; exact hreach, ?_, by rw [hbl]; exact hbk⟩
  by_cases hl0 : len = 0
  ·exact .inl (List.eq_nil_of_length_eq_zero (by rw [hbl]; exact hl0))
  ·obtain ⟨b, off, spot⟩ := x
   have hspot : spot = none := by simpa [Addr.add] using World.cell?_spot (hcell 0 (by omega))
   subst hspot
   have hbW : b < W.heap.size := hlt (.cell b off) (MemPlace.mem_row.2 ⟨0, by omega, by simp⟩)
   refine .inr ⟨b, off, rfl, hbW, fun j hj => ?_⟩
   rw [hbl] at hj
   have h1 := hcell j (by omega)
   rw [mk_addr_add] at h1
   rw [h1, byteAt_ofNums _ (fun z hz' => wf_u8 (hwz z (List.mem_of_mem_take hz'))) j (by simp; omega)]
   simp [List.getD, hj]

theorem open_itW : ∀ (fuel : Nat) (cs : List Value) (d : DataW H) (p : List MemPlace), DataW.trod enc Tryz.prog W 0 (fun _ => true) true fuel 45 cs = some (d, p) → (∀ x ∈ p, x.block < W.heap.size) → (∀ n ∈ d.weights Tryz.prog 45, n ≤ 140737488351232) →
  ∃ c0 c1 c2 c3 c4 x, cs = [c0, c1, c2, c3, c4] ∧ ItV W W.heap.size (.agg #[c0, c1, c2, c3, c4]) x ∧ x.wt ≤ Rows.uptoBulk d := by
 intro fuel
 induction fuel using Nat.strongRecOn with
 | ind fuel ih =>
  intro cs d p h hlt hw
  obtain ⟨xs, n, rfl, hx, hlen, hn, hf⟩ := DataW.trod_struct Tryz.underlying45 h
  have c5 : Tryz.prog.cellsOf 45 = 5 := by kernel_rfl
  rw [c5] at hlen
  simp only [Prod.mk.injEq] at hx
  obtain ⟨rfl, rfl⟩ := hx
  match cs, hlen with
  | [c0, c1, c2, c3, c4], _ =>
  match xs, hn with
  | [x0, x1, x2, x3, x4], _ =>
  have u0 : Tryz.prog.cellsOf 43 = 1 := by kernel_rfl
  have u1 : Tryz.prog.cellsOf 28 = 1 := by kernel_rfl
  have u2 : Tryz.prog.cellsOf 22 = 1 := by kernel_rfl
  have u3 : Tryz.prog.cellsOf 9 = 1 := by kernel_rfl
  have u4 : Tryz.prog.cellsOf 42 = 1 := by kernel_rfl
  have f0 : DataW.trod enc Tryz.prog W 0 (fun _ => true) true n 43 [c0] = some x0 := by have h := hf 0 _ rfl; simpa [u0] using h
  have f1 : DataW.trod enc Tryz.prog W 0 (fun _ => true) true n 28 [c1] = some x1 := by have h := hf 1 _ rfl; simpa [u1] using h
  have f2 : DataW.trod enc Tryz.prog W 0 (fun _ => true) true n 22 [c2] = some x2 := by have h := hf 2 _ rfl; simpa [u2] using h
  have f3 : DataW.trod enc Tryz.prog W 0 (fun _ => true) true n 9 [c3] = some x3 := by have h := hf 3 _ rfl; simpa [u3] using h
  have f4 : DataW.trod enc Tryz.prog W 0 (fun _ => true) true n 42 [c4] = some x4 := by have h := hf 4 _ rfl; simpa [u4] using h
  clear hf h
  simp only [DataW.weights, Tryz.underlying45] at hw
  have w2 : ∀ n ∈ x2.1.weights Tryz.prog 22, n ≤ 140737488351232 := fun n hn => hw n (DataW.weights_mem_each (j := 2) rfl rfl n hn)
  have w3 : ∀ n ∈ x3.1.weights Tryz.prog 9, n ≤ 140737488351232 := fun n hn => hw n (DataW.weights_mem_each (j := 3) rfl rfl n hn)
  have w4 : ∀ n ∈ x4.1.weights Tryz.prog 42, n ≤ 140737488351232 := fun n hn => hw n (DataW.weights_mem_each (j := 4) rfl rfl n hn)
  have l2 : ∀ x ∈ x2.2, x.block < W.heap.size := fun x hx => hlt x (by simp [hx])
  have l4 : ∀ x ∈ x4.2, x.block < W.heap.size := fun x hx => hlt x (by simp [hx])
  clear hw hlt
  obtain ⟨k, e0, _, k0⟩ := DataW.trod_int Tryz.underlying43 f0
  obtain ⟨m, e1, _, k1⟩ := DataW.trod_int Tryz.underlying28 f1
  obtain ⟨s, e3, r3, _⟩ := DataW.trod_string Tryz.underlying9 f3
  obtain ⟨a, c, bs, rfl, h1, h2, h3, hbw⟩ := open_bytesW (d := x2.1) (p := x2.2) f2 l2 w2
  simp only [List.cons.injEq, and_true] at e0 e1 e3
  subst e0 e1 e3
  have hs : s.data.toList.length ≤ 140737488351232 := by
   rw [r3] at w3
   exact w3 _ (by simp [DataW.weights])
  have hk : -9223372036854775808 ≤ k ∧ k < 9223372036854775808 := by
   simp [Lit.wf, IntKind.min, IntKind.max, IntKind.signed, IntKind.bits] at k0
   omega
  have hm : U64 m := by
   simp [Lit.wf, IntKind.min, IntKind.max, IntKind.signed, IntKind.bits] at k1
   exact ⟨by omega, by omega⟩
  have hstr : s = ⟨s.data.toList.toArray⟩ := by simp
  have hsw : Rows.uptoBulk x3.1 = s.data.toList.length + 1 := by rw [r3]; simp only [Rows.uptoBulk]
  have h01 := bulk_one x0.1
  have h11 := bulk_one x1.1
  have h41 := bulk_one x4.1
  have hall : Rows.uptoBulk (DataW.agg ([x0, x1, x2, x3, x4].map (·.1))) = Rows.uptoBulk x0.1 + (Rows.uptoBulk x1.1 + (Rows.uptoBulk x2.1 + (Rows.uptoBulk x3.1 + (Rows.uptoBulk x4.1 + 0)))) + 1 := by simp only [List.map_cons, List.map_nil, Rows.uptoBulk, Rows.uptoBulkAll]
  rcases DataW.trod_slice Tryz.underlying42 f4 with ⟨e4, _⟩ | ⟨A, len, cap, elems, rest, n', rfl, e4, rfl, _, hl, _, hel, hat, _, _⟩
  ·simp only [List.cons.injEq, and_true] at e4
   subst e4
   refine ⟨_, _, _, _, _, .mk k m bs s.data.toList [], rfl, ?_, by rw [hall]; simp only [It.wt, wtL]; omega⟩
   simp only [ItV]
   exact ⟨none, ⟨a, c, 0, by rw [← hstr]; rfl, ⟨h1, Nat.le_refl _⟩, h3, hm, hk, by simp only [Sz]; omega, by simp only [Sz]; omega, by simp [Sz]⟩, .inl trivial⟩
  ·simp only [List.cons.injEq, and_true] at e4
   subst e4
   simp only [DataW.weights, Tryz.underlying42] at w4
   rw [c5] at hat
   have hlen : len ≤ 140737488351232 := by
    have q := w4 _ (List.mem_cons_self ..)
    have b80 : Tryz.prog.bytesOf 45 = 80 := by kernel_rfl
    rw [b80] at q
    simp only [List.length_map] at q
    omega
   have hA : 0 < len → A.spot = none ∧ A.block < W.heap.size := by
    intro h0
    have h := hat 0 h0
    rw [List.getElem?_eq_getElem (by omega), Option.bind_eq_some_iff] at h
    obtain ⟨csi, hcs, _⟩ := h
    obtain ⟨_, hcl, hcc⟩ := World.cells?_some hcs
    obtain ⟨b, off, spot⟩ := A
    have q0 := hcc 0 (by omega)
    obtain ⟨y, hy⟩ : ∃ y, csi[0]? = some y := ⟨_, List.getElem?_eq_getElem (by omega)⟩
    rw [hy] at q0
    have e0 : ((⟨b, off, spot⟩ : Addr).add (0 * 5)).add 0 = ⟨b, off, spot⟩ := by simp [Addr.add]
    rw [e0] at q0
    exact ⟨World.cell?_spot q0, World.block_lt_of_cell? W _ q0⟩
   have hex : ∀ i, ∃ x : It, i < len → (∃ v, At5 W A.block (A.off + i * 5) v ∧ ItV W W.heap.size v x) ∧ ∃ y, elems[i]? = some y ∧ x.wt ≤ Rows.uptoBulk y.1 := by
    intro i
    by_cases hi : i < len
    ·have hi' : i < elems.length := by omega
     have h := hat i hi
     rw [List.getElem?_eq_getElem hi', Option.bind_eq_some_iff] at h
     obtain ⟨csi, hcs, ht⟩ := h
     obtain ⟨_, hcl, hcc⟩ := World.cells?_some hcs
     obtain ⟨d0, d1, d2, d3, d4, x, rfl, hx, hwx⟩ := ih n' (by omega) csi elems[i].1 elems[i].2 ht
      (fun q hq => l4 q (List.mem_append_right _ (List.mem_flatMap.2 ⟨elems[i], List.mem_append_left _ (List.getElem_mem hi'), hq⟩)))
      (fun q hq => w4 q (List.mem_cons_of_mem _ (List.mem_append_left _ (weights_all_mem (List.mem_map.2 ⟨elems[i], List.getElem_mem hi', rfl⟩) q hq))))
     refine ⟨x, fun _ => ⟨⟨_, ⟨d0, d1, d2, d3, d4, rfl, ?_⟩, hx⟩, elems[i], List.getElem?_eq_getElem hi', hwx⟩⟩
     ·have hspot := (hA (by omega)).1
      obtain ⟨b, off, spot⟩ := A
      simp only at hspot
      subst hspot
      have q0 := hcc 0 (by omega)
      have q1 := hcc 1 (by omega)
      have q2 := hcc 2 (by omega)
      have q3 := hcc 3 (by omega)
      have q4 := hcc 4 (by omega)
      rw [mk_addr_add, mk_addr_add] at q0 q1 q2 q3 q4
      exact ⟨by simpa using q0, by simpa using q1, by simpa using q2, by simpa using q3, by simpa using q4⟩
    ·exact ⟨.mk 0 0 [] [] [], fun h => absurd h hi⟩
   let f : Nat → It := fun i => (hex i).choose
   have hfs := fun i => (hex i).choose_spec
   have hll : ((List.range len).map f).length = len := by simp
   have hws : wtL ((List.range len).map f) ≤ Rows.uptoBulkAll (elems.map (·.1)) := wtL_le _ _ hll (by rw [List.length_map]; exact hel) fun i hi => by
    obtain ⟨_, y, hy, hwy⟩ := hfs i hi
    exact ⟨f i, y.1, by simp [hi], by rw [List.getElem?_map, hy]; rfl, hwy⟩
   have h4 : Rows.uptoBulkAll (elems.map (·.1)) + 1 ≤ Rows.uptoBulk (DataW.slice (elems.map (·.1)) (rest.map (·.1))) := by simp only [Rows.uptoBulk]; omega
   refine ⟨_, _, _, _, _, .mk k m bs s.data.toList ((List.range len).map f), rfl, ?_, by rw [hall]; simp only [It.wt]; omega⟩
   rw [ItV, hll]
   refine ⟨some A, ⟨a, c, cap, by rw [← hstr], ⟨h1, hl⟩, h3, hm, hk, by simp only [Sz]; omega, by simp only [Sz]; omega, by simp only [Sz]; omega⟩, ?_⟩
   by_cases hl0 : len = 0
   ·subst hl0
    exact .inl rfl
   ·obtain ⟨hsp, hbl⟩ := hA (by omega)
    obtain ⟨b, off, spot⟩ := A
    simp only at hsp
    subst hsp
    refine .inr ⟨b, off, rfl, hbl, itL_of _ _ fun i hi => ?_⟩
    rw [hll] at hi
    obtain ⟨⟨v, hv, hx⟩, _⟩ := hfs i hi
    refine ⟨v, hv, ?_⟩
    simp only [List.getElem_map, List.getElem_range]
    exact hx


end

theorem open_itemsW {H : Type} {enc : TypeId × Value → H} {W : World} {base : Nat} {ts : List TypeId} {ds : List (DataW H)} {jn : Nat} {v : Value} {d : DataW H} {p : List MemPlace} (hv : Value.okWide Tryz.prog W .any base 42 v)
  (hd : DataW.Trod enc Tryz.prog W 0 (fun _ => true) true 42 v d p) (hlt : ∀ x ∈ p, x.block < W.heap.size)
  (hsz : (DataW.weightsEach Tryz.prog ts ds).all (· ≤ reachBytes) = true) (ht : ts[jn]? = some 42) (hdj : ds[jn]? = some d) :
  ∃ a c l, v = .slice a (List.length l) c ∧ l.length ≤ c ∧ l.length ≤ 140737488351232 ∧ ItSl W a l ∧ wtL l + 1 ≤ Rows.uptoBulk d := by
 obtain ⟨a0, len0, cap0, rfl⟩ := okWide_slice Tryz.underlying42 hv
 obtain ⟨fuel, hf⟩ := hd
 have hw : ∀ n ∈ d.weights Tryz.prog 42, n ≤ 140737488351232 := by
  intro n hn
  have := List.all_eq_true.1 hsz n (DataW.weights_mem_each ht hdj n hn)
  have h := of_decide_eq_true this
  simpa [reachBytes] using h
 have c5 : Tryz.prog.cellsOf 45 = 5 := by kernel_rfl
 rcases DataW.trod_slice Tryz.underlying42 hf with ⟨e4, _⟩ | ⟨A, len, cap, elems, rest, n', rfl, e4, hx, _, hl, _, hel, hat, _, _⟩
 ·simp [Value.cells] at e4
  obtain ⟨rfl, rfl, rfl⟩ := e4
  rename_i hd0
  exact ⟨none, 0, [], rfl, Nat.le_refl _, by simp, .inl rfl, by simpa [wtL] using bulk_one d⟩
 ·simp [Value.cells] at e4
  obtain ⟨rfl, rfl, rfl⟩ := e4
  simp only [Prod.mk.injEq] at hx
  obtain ⟨rfl, rfl⟩ := hx
  simp only [DataW.weights, Tryz.underlying42] at hw
  rw [c5] at hat
  have hlen : len0 ≤ 140737488351232 := by
   have q := hw _ (List.mem_cons_self ..)
   have b80 : Tryz.prog.bytesOf 45 = 80 := by kernel_rfl
   rw [b80] at q
   simp only [List.length_map] at q
   omega
  have hA : 0 < len0 → A.spot = none ∧ A.block < W.heap.size := by
   intro h0
   have h := hat 0 h0
   rw [List.getElem?_eq_getElem (by omega), Option.bind_eq_some_iff] at h
   obtain ⟨csi, hcs, _⟩ := h
   obtain ⟨_, hcl, hcc⟩ := World.cells?_some hcs
   obtain ⟨b, off, spot⟩ := A
   have q0 := hcc 0 (by omega)
   obtain ⟨y, hy⟩ : ∃ y, csi[0]? = some y := ⟨_, List.getElem?_eq_getElem (by omega)⟩
   rw [hy] at q0
   have e0 : ((⟨b, off, spot⟩ : Addr).add (0 * 5)).add 0 = ⟨b, off, spot⟩ := by simp [Addr.add]
   rw [e0] at q0
   exact ⟨World.cell?_spot q0, World.block_lt_of_cell? W _ q0⟩
  have hex : ∀ i, ∃ x : It, i < len0 → (∃ v, At5 W A.block (A.off + i * 5) v ∧ ItV W W.heap.size v x) ∧ ∃ y, elems[i]? = some y ∧ x.wt ≤ Rows.uptoBulk y.1 := by
   intro i
   by_cases hi : i < len0
   ·have hi' : i < elems.length := by omega
    have h := hat i hi
    rw [List.getElem?_eq_getElem hi', Option.bind_eq_some_iff] at h
    obtain ⟨csi, hcs, ht⟩ := h
    obtain ⟨_, hcl, hcc⟩ := World.cells?_some hcs
    obtain ⟨d0, d1, d2, d3, d4, x, rfl, hx, hwx⟩ := open_itW n' csi elems[i].1 elems[i].2 ht
     (fun q hq => hlt q (List.mem_append_right _ (List.mem_flatMap.2 ⟨elems[i], List.mem_append_left _ (List.getElem_mem hi'), hq⟩)))
     (fun q hq => hw q (List.mem_cons_of_mem _ (List.mem_append_left _ (weights_all_mem (List.mem_map.2 ⟨elems[i], List.getElem_mem hi', rfl⟩) q hq))))
    refine ⟨x, fun _ => ⟨⟨_, ⟨d0, d1, d2, d3, d4, rfl, ?_⟩, hx⟩, elems[i], List.getElem?_eq_getElem hi', hwx⟩⟩
    have hspot := (hA (by omega)).1
    obtain ⟨b, off, spot⟩ := A
    simp only at hspot
    subst hspot
    have q0 := hcc 0 (by omega)
    have q1 := hcc 1 (by omega)
    have q2 := hcc 2 (by omega)
    have q3 := hcc 3 (by omega)
    have q4 := hcc 4 (by omega)
    rw [mk_addr_add, mk_addr_add] at q0 q1 q2 q3 q4
    exact ⟨by simpa using q0, by simpa using q1, by simpa using q2, by simpa using q3, by simpa using q4⟩
   ·exact ⟨.mk 0 0 [] [] [], fun h => absurd h hi⟩
  let f : Nat → It := fun i => (hex i).choose
  have hfs := fun i => (hex i).choose_spec
  have hll : ((List.range len0).map f).length = len0 := by simp
  have hws : wtL ((List.range len0).map f) ≤ Rows.uptoBulkAll (elems.map (·.1)) := wtL_le _ _ hll (by rw [List.length_map]; exact hel) fun i hi => by
   obtain ⟨_, y, hy, hwy⟩ := hfs i hi
   exact ⟨f i, y.1, by simp [hi], by rw [List.getElem?_map, hy]; rfl, hwy⟩
  refine ⟨some A, cap0, (List.range len0).map f, by rw [hll], by rw [hll]; exact hl, by rw [hll]; exact hlen, ?_, by simp only [Rows.uptoBulk]; omega⟩
  by_cases hl0 : len0 = 0
  ·exact .inl (List.eq_nil_of_length_eq_zero (by rw [hll]; exact hl0))
  ·obtain ⟨hsp, hbl⟩ := hA (by omega)
   obtain ⟨b, off, spot⟩ := A
   simp only at hsp
   subst hsp
   refine .inr ⟨b, off, rfl, hbl, itL_of _ _ fun i hi => ?_⟩
   rw [hll] at hi
   obtain ⟨⟨v, hv, hx⟩, _⟩ := hfs i hi
   refine ⟨v, hv, ?_⟩
   simp only [List.getElem_map, List.getElem_range]
   exact hx

end Go.Proofs.YteldifnkeekafaaGreatDoor

namespace Go.Proofs.YteldifnkeekafaaGreatDoor
open Go Go.RowKit Go.Shelf

attribute [local go_sem] Oper.semAt_some

theorem decode_own {x : It} (he : x.err = 0) (hf : x.fit) : decodeN x.bytes = .ok x := by
 have h1 := firstN_of x [] he hf (by rw [List.append_nil]; exact berrlen he)
 rw [List.append_nil] at h1
 rw [decodeN, h1]
 simp
theorem rd_own {w : World} {B : Nat} {v : Value} {x : It} (hv : ItV w B v x) (he : x.err = 0) : (∃ q, ofR x = some q ∧ rdRcB x.bytes = .ok q) ∨ (ofR x = none ∧ rdRcB x.bytes = .error 180) := by
 have hd := decode_own he (hv.fit x)
 have hr := rd_of hv (err_right he)
 cases ho : ofR x with
 | some q => exact .inl ⟨q, rfl, rdRcB_some hd (hr.trans ho)⟩
 | none => exact .inr ⟨rfl, rdRcB_none hd (hr.trans ho)⟩

theorem w10 {k n : Nat} (h : k < n) (h10 : n ≤ 10) : wrap64 ((k : Int) + 1) = ((k + 1 : Nat) : Int) := by rw [IntWalk.wrap64_in] <;> omega
theorem k10 {k n : Nat} (h : k < n) : k + 1 ≤ n := h
theorem m10 {k n : Nat} (h : k < n) (h10 : n ≤ 10) : n - (intOf (.int .i64 ((k : Int) + 1))).toNat < n - (intOf (.int .i64 (k : Int))).toNat := by simp only [intOf]; omega

theorem walk_aiE (a : Option Addr) (c : Nat) (l : List It) (x : It) (hx : x = It.mk 4 0 [] [] l) (w : World) (hcap : l.length ≤ c) (hbig : l.length ≤ 140737488351232) (hwt : wtL l ≤ 1048576) (hr : ItSl w a l) (ht : TabW w) (hb : 10 < l.length ∨ 6 < x.depth ∨ x.err ≠ 0) :
  Calls Tryz.prog 4 #[.slice a l.length c] w fun e w' => e = .returned (.bool true) ∧ Below w.heap.size w w' := by
 have HV0 : Hid (ItV w w.heap.size (.agg #[.int .i64 4, .int .u64 0, .slice none 0 0, .string ⟨#[]⟩, .slice a l.length c]) x) := by
  rw [Hid, hx]
  simp only [ItV]
  exact ⟨a, ⟨none, 0, c, rfl, ⟨Nat.le_refl _, hcap⟩, .inl rfl, ⟨by decide, by decide⟩, by decide, by simp [Sz], by simp [Sz], by simp only [Sz]; omega⟩, hr⟩
 have hxw : x.wt = 2 + wtL l := by rw [hx]; simp [It.wt]
 have HD0 : Hid (x.depth ≤ 1000000) := by have := depth_wt x; rw [Hid]; omega
 have HBy : Hid (x.bytes.length ≤ 1000000000) := by have := bytes_wt x; rw [Hid]; omega
 have HTw0 : Hid (∀ w', Below w.heap.size w w' → TabW w') := fun w' h => ht.on h
 have HL := h_ hr
 obtain ⟨n, hn⟩ : ∃ n, n = l.length := ⟨_, rfl⟩
 have HN := h_ hn
 rw [← hn] at HV0 ⊢
 rw [← hn] at hb
 clear hr ht hwt hcap hbig hxw hx hn
 go_enter Tryz.func4, Tryz.ntmps4
 go_wp2_with fail
 refine (refList_any a n c w).mono ?_
 rintro e w1 ⟨rfl, hb1⟩
 obtain ⟨W, hW⟩ : ∃ W, W = w1.alloc (.cells #[.int .i64 4, .int .u64 0, .slice none 0 0, .string ⟨#[]⟩, .slice a n c] 45) := ⟨_, rfl⟩
 have HB0 : Hid (Below w.heap.size w W) := by rw [hW]; exact below_on hb1 (below_al bR _)
 have HX : Hid (∀ w', Below W.heap.size W w' → (w'.cell? ⟨w1.heap.size, 0, none⟩ = some (.int .i64 4) ∧ w'.cell? ⟨w1.heap.size, 1, none⟩ = some (.int .u64 0) ∧ w'.cell? ⟨w1.heap.size, 2, none⟩ = some (.slice none 0 0) ∧ w'.cell? ⟨w1.heap.size, 3, none⟩ = some (.string ⟨#[]⟩) ∧ w'.cell? ⟨w1.heap.size, 4, none⟩ = some (.slice a n c))) := fun w' h => by
  rw [hW] at h
  exact ⟨box_at h 0, box_at h 1, box_at h 2, box_at h 3, box_at h 4⟩
 have HV : Hid (∀ w', Below W.heap.size W w' → ItV w' w'.heap.size (.agg #[.int .i64 4, .int .u64 0, .slice none 0 0, .string ⟨#[]⟩, .slice a n c]) x) := fun w' h => (HV0.out.on HB0.out).on h
 have HTw : Hid (∀ w', Below W.heap.size W w' → TabW w') := fun w' h => HTw0.out w' (below_on HB0.out h)
 have HBW : Hid (∀ w', Below W.heap.size W w' → Below w.heap.size w w') := fun w' h => below_on HB0.out h
 have HW := h_ hW
 clear hb1 hW
 go_upto_region 2 with fail
 rw [← HW.out]
 by_cases h10 : 10 < n
 ·have h10I : (10 : Int) < (n : Int) := by omega
  go_wp2_with fail
  refine (dworks_any W (HTw.out W bR)).mono ?_
  rintro e w2 ⟨rfl, hb2⟩
  have HB2 := h_ (HBW.out _ hb2)
  clear hb2
  go_wp2_with fail
  go_ret
  exact ⟨rfl, HB2.out⟩
 have h10I : ¬ (10 : Int) < (n : Int) := by omega
 obtain ⟨x0, x1, x2, x3, x4⟩ := HX.out W bR
 go_wp2_with fail
 refine (depth_any x _ W HD0.out (HV.out W bR)).mono ?_
 rintro e w2 ⟨rfl, hb2⟩
 have HB2 := h_ hb2
 clear hb2 x0 x1 x2 x3 x4
 by_cases h6 : 6 < x.depth
 ·have h6I : (6 : Int) < (x.depth : Int) := by omega
  go_wp2_with fail
  refine (dworks_any w2 (HTw.out _ HB2.out)).mono ?_
  rintro e w3 ⟨rfl, hb3⟩
  have HB3 := h_ (HBW.out _ (below_on HB2.out hb3))
  clear hb3
  go_wp2_with fail
  go_ret
  exact ⟨rfl, HB3.out⟩
 have h6I : ¬ (6 : Int) < (x.depth : Int) := by omega
 have HD6 : Hid (x.depth ≤ 60000) := by rw [Hid]; omega
 obtain ⟨x0, x1, x2, x3, x4⟩ := HX.out w2 HB2.out
 clear h6
 go_wp2_with fail
 refine (refCheck_any x _ _ _ _ _ w2 (HV.out w2 HB2.out) HD6.out HBy.out).mono ?_
 rintro e w3 ⟨rfl, hb3⟩
 have HB3 := h_ (below_on HB2.out hb3)
 clear hb3 x0 x1 x2 x3 x4
 have he : x.err ≠ 0 := by omega
 ·have heb : (((x.err : Nat) : Int) != 0) = true := by simp; omega
  go_wp2_with fail
  refine (dworks_any w3 (HTw.out _ HB3.out)).mono ?_
  rintro e w4 ⟨rfl, hb4⟩
  have HB4 := h_ (HBW.out _ (below_on HB3.out hb4))
  clear hb4
  go_wp2_with fail
  go_ret
  exact ⟨rfl, HB4.out⟩

theorem walk_aiS (a : Option Addr) (c : Nat) (l : List It) (x : It) (hx : x = It.mk 4 0 [] [] l) (w : World) (hcap : l.length ≤ c) (hbig : l.length ≤ 140737488351232) (hwt : wtL l ≤ 1048576) (hr : ItSl w a l) (ht : TabW w) (h10 : l.length ≤ 10) (h6 : x.depth ≤ 6) (he : x.err = 0) (q : Rc) (hof : ofR x = some q) (hrd : rdRcB x.bytes = .ok q) :
  Calls Tryz.prog 4 #[.slice a l.length c] w fun e w' => e = .returned (.bool true) ∧ Below w.heap.size w w' := by
 have HV0 : Hid (ItV w w.heap.size (.agg #[.int .i64 4, .int .u64 0, .slice none 0 0, .string ⟨#[]⟩, .slice a l.length c]) x) := by
  rw [Hid, hx]
  simp only [ItV]
  exact ⟨a, ⟨none, 0, c, rfl, ⟨Nat.le_refl _, hcap⟩, .inl rfl, ⟨by decide, by decide⟩, by decide, by simp [Sz], by simp [Sz], by simp only [Sz]; omega⟩, hr⟩
 have hxw : x.wt = 2 + wtL l := by rw [hx]; simp [It.wt]
 have HD0 : Hid (x.depth ≤ 1000000) := by have := depth_wt x; rw [Hid]; omega
 have HBy : Hid (x.bytes.length ≤ 1000000000) := by have := bytes_wt x; rw [Hid]; omega
 have HTw0 : Hid (∀ w', Below w.heap.size w w' → TabW w') := fun w' h => ht.on h
 have HL := h_ hr
 obtain ⟨n, hn⟩ : ∃ n, n = l.length := ⟨_, rfl⟩
 have HN := h_ hn
 rw [← hn] at HV0 ⊢
 have HE := h_ he
 have HOf := h_ hof
 have HRd := h_ hrd
 have H10 : Hid (n ≤ 10) := by rw [Hid]; omega
 have HD6 : Hid (x.depth ≤ 60000) := by rw [Hid]; omega
 have h10I : ¬ (10 : Int) < (n : Int) := by omega
 have h6I : ¬ (6 : Int) < (x.depth : Int) := by omega
 clear hr ht hwt hcap hbig hxw hx hn h10 hof hrd h6
 go_enter Tryz.func4, Tryz.ntmps4
 go_wp2_with fail
 refine (refList_any a n c w).mono ?_
 rintro e w1 ⟨rfl, hb1⟩
 obtain ⟨W, hW⟩ : ∃ W, W = w1.alloc (.cells #[.int .i64 4, .int .u64 0, .slice none 0 0, .string ⟨#[]⟩, .slice a n c] 45) := ⟨_, rfl⟩
 have HB0 : Hid (Below w.heap.size w W) := by rw [hW]; exact below_on hb1 (below_al bR _)
 have HX : Hid (∀ w', Below W.heap.size W w' → (w'.cell? ⟨w1.heap.size, 0, none⟩ = some (.int .i64 4) ∧ w'.cell? ⟨w1.heap.size, 1, none⟩ = some (.int .u64 0) ∧ w'.cell? ⟨w1.heap.size, 2, none⟩ = some (.slice none 0 0) ∧ w'.cell? ⟨w1.heap.size, 3, none⟩ = some (.string ⟨#[]⟩) ∧ w'.cell? ⟨w1.heap.size, 4, none⟩ = some (.slice a n c))) := fun w' h => by
  rw [hW] at h
  exact ⟨box_at h 0, box_at h 1, box_at h 2, box_at h 3, box_at h 4⟩
 have HV : Hid (∀ w', Below W.heap.size W w' → ItV w' w'.heap.size (.agg #[.int .i64 4, .int .u64 0, .slice none 0 0, .string ⟨#[]⟩, .slice a n c]) x) := fun w' h => (HV0.out.on HB0.out).on h
 have HTw : Hid (∀ w', Below W.heap.size W w' → TabW w') := fun w' h => HTw0.out w' (below_on HB0.out h)
 have HBW : Hid (∀ w', Below W.heap.size W w' → Below w.heap.size w w') := fun w' h => below_on HB0.out h
 have HW := h_ hW
 clear hb1 hW
 go_upto_region 2 with fail
 rw [← HW.out]
 obtain ⟨x0, x1, x2, x3, x4⟩ := HX.out W bR
 go_wp2_with fail
 refine (depth_any x _ W HD0.out (HV.out W bR)).mono ?_
 rintro e w2 ⟨rfl, hb2⟩
 have HB2 := h_ hb2
 clear hb2 x0 x1 x2 x3 x4
 obtain ⟨x0, x1, x2, x3, x4⟩ := HX.out w2 HB2.out
 go_wp2_with fail
 refine (refCheck_any x _ _ _ _ _ w2 (HV.out w2 HB2.out) HD6.out HBy.out).mono ?_
 rintro e w3 ⟨rfl, hb3⟩
 have HB3 := h_ (below_on HB2.out hb3)
 clear hb3 x0 x1 x2 x3 x4
 rw [he]
 clear he
 go_wp2_with fail
 clear h6I h10I
 go_loopw [4] (fun i wr => ∃ k : Nat, k ≤ n ∧ i = .int .i64 k ∧ Hid (Below W.heap.size W wr)) (fun i _ => n - (intOf i).toNat)
 case atStart => exact ⟨0, Nat.zero_le _, rfl, HB3.out⟩
 case round =>
  obtain ⟨k, hk, rfl, HI⟩ := hrel
  by_cases hlt : k < n
  ·have hltI : (k : Int) < (n : Int) := by omega
   have hkl : k < l.length := by have := HN.out; omega
   obtain ⟨g, o, rfl, hg, hlL⟩ : ∃ g o, a = some ⟨g, o, none⟩ ∧ g < w.heap.size ∧ ItL w w.heap.size g o l := by
    rcases HL.out with h | h
    ·rw [h] at hkl; simp at hkl
    ·exact h
   obtain ⟨y, hy⟩ : ∃ y, l[k]? = some y := ⟨_, List.getElem?_eq_getElem hkl⟩
   obtain ⟨_, _, Ay, Cy, _, c0, c1, c2, c3, c4⟩ := hlL.get (i := k) hy (HBW.out _ HI.out) hg
   obtain ⟨nl, hnl⟩ : ∃ q, q = y.l.length := ⟨_, rfl⟩
   obtain ⟨nb, hnb⟩ : ∃ q, q = y.b.length := ⟨_, rfl⟩
   obtain ⟨ns, hns⟩ : ∃ q, q = y.s.length := ⟨_, rfl⟩
   have hs1 : (⟨y.s.toArray⟩ : ByteArray).size = ns := by rw [hns]; simp [ByteArray.size]
   generalize (⟨y.s.toArray⟩ : ByteArray) = sv at c3 hs1
   rw [← hnl] at c4
   rw [← hnb] at c2
   clear hlL hnl hnb hns c0 c1
   by_cases hbad : 6 < nl ∨ 100 < nb ∨ 100 < ns
   ·by_cases h1 : 6 < nl
    ·have h1I : (6 : Int) < (nl : Int) := by omega
     go_wp2_with fail
     refine (dworks_any _ (HTw.out _ HI.out)).mono ?_
     rintro e9 w9 ⟨rfl, hb9⟩
     have HB9 := h_ (below_on HI.out hb9)
     clear hb9
     go_wp2_with fail
     go_ret
     exact ⟨rfl, HBW.out _ HB9.out⟩
    have h1I : ¬ (6 : Int) < (nl : Int) := by omega
    by_cases h2 : 100 < nb
    ·have h2I : (100 : Int) < (nb : Int) := by omega
     go_wp2_with fail
     refine (dworks_any _ (HTw.out _ HI.out)).mono ?_
     rintro e9 w9 ⟨rfl, hb9⟩
     have HB9 := h_ (below_on HI.out hb9)
     clear hb9
     go_wp2_with fail
     go_ret
     exact ⟨rfl, HBW.out _ HB9.out⟩
    have h2I : ¬ (100 : Int) < (nb : Int) := by omega
    have h3I : (100 : Int) < (ns : Int) := by omega
    go_wp2_with fail
    refine (dworks_any _ (HTw.out _ HI.out)).mono ?_
    rintro e9 w9 ⟨rfl, hb9⟩
    have HB9 := h_ (below_on HI.out hb9)
    clear hb9
    go_wp2_with fail
    go_ret
    exact ⟨rfl, HBW.out _ HB9.out⟩
   ·have h1I : ¬ (6 : Int) < (nl : Int) := by omega
    have h2I : ¬ (100 : Int) < (nb : Int) := by omega
    have h3I : ¬ (100 : Int) < (ns : Int) := by omega
    go_wp2_with fail
    have hk1 := k10 hlt
    have hms := m10 hlt H10.out
    go_roundw
    case rel => exact ⟨k + 1, hk1, rfl, HI.out⟩
    case measure => exact hms
  ·obtain rfl : k = n := by omega
   obtain ⟨x0, x1, x2, x3, x4⟩ := HX.out wr HI.out
   go_wp2_with fail
   refine (refBytes_any x _ wr (err_right HE.out) HBy.out (HV.out wr HI.out)).mono ?_
   rintro e w5 ⟨v5, rfl, ho5, hb5⟩
   obtain ⟨A5, C5, rfl, hC5, hd5, _⟩ := ho5.bytes
   have HB5 := h_ (below_on HI.out hb5)
   have hlen := berrlen HE.out
   have HDc := h_ (dDecode_any A5 x.bytes.length C5 x.bytes rfl w5 hd5 hC5 (by omega) (HTw.out _ HB5.out))
   clear x0 x1 x2 x3 x4 ho5 hb5 hC5 hd5 hlen
   generalize x.bytes.length = nby at *
   go_wp2_with fail
   refine HDc.out.mono ?_
   rintro e w6 ⟨hb6, hm6⟩
   rw [HRd.out] at hm6
   have hm6 : e = .returned (.tuple #[.agg #[.int .i64 q.k, .int .u32 q.n, .int .u32 q.m, .int .u64 q.t, .int .u32 q.q, .int .i64 q.wh, .int .i64 q.wy, .int .u64 q.at0, .int .u64 q.no, .int .u32 q.nd, .int .u32 q.rg, .bool q.ys, .int .u64 q.fr, .int .u64 q.un, .int .u8 q.lv], .int .i64 0]) := hm6
   subst hm6
   obtain ⟨W7, hW7⟩ : ∃ W, W = w6.alloc (.cells #[.int .i64 q.k, .int .u32 q.n, .int .u32 q.m, .int .u64 q.t, .int .u32 q.q, .int .i64 q.wh, .int .i64 q.wy, .int .u64 q.at0, .int .u64 q.no, .int .u32 q.nd, .int .u32 q.rg, .bool q.ys, .int .u64 q.fr, .int .u64 q.un, .int .u8 q.lv] 32) := ⟨_, rfl⟩
   have hb7 : Below w6.heap.size w6 W7 := by rw [hW7]; exact below_al bR _
   have hx7 : RowB W7 w6.heap.size [.int .i64 q.k, .int .u32 q.n, .int .u32 q.m, .int .u64 q.t, .int .u32 q.q, .int .i64 q.wh, .int .i64 q.wy, .int .u64 q.at0, .int .u64 q.no, .int .u32 q.nd, .int .u32 q.rg, .bool q.ys, .int .u64 q.fr, .int .u64 q.un, .int .u8 q.lv] := by rw [hW7]; exact RowB.new w6 _ _
   have HB7 := h_ (below_on HB5.out (below_on hb6 hb7))
   have HX7 := h_ hx7
   have HS7 : Hid (w6.heap.size < W7.heap.size) := by rw [Hid, hW7]; simp
   have HW7 := h_ hW7
   clear hb6 hb7 hx7 hW7
   go_upto_region 10 with fail
   as_aux_lemma =>
    rw [← HW7.out]
    obtain ⟨x0, x1, x2, x3, x4⟩ := HX.out W7 HB7.out
    go_wp2_with fail
    refine (refOf10_any x _ W7 (HV.out W7 HB7.out)).mono ?_
    as_aux_lemma =>
     clear x0 x1 x2 x3 x4
     rintro e w8 ⟨hb8, ⟨q', ho, rfl⟩ | ⟨ho, rfl⟩⟩
     rotate_left
     ·rw [HOf.out] at ho
      cases ho
     obtain rfl : q' = q := by
      rw [HOf.out] at ho
      injection ho with ho
      exact ho.symm
     obtain ⟨W9, hW9⟩ : ∃ W, W = w8.alloc (.cells #[.int .i64 q'.k, .int .u32 q'.n, .int .u32 q'.m, .int .u64 q'.t, .int .u32 q'.q, .int .i64 q'.wh, .int .i64 q'.wy, .int .u64 q'.at0, .int .u64 q'.no, .int .u32 q'.nd, .int .u32 q'.rg, .bool q'.ys, .int .u64 q'.fr, .int .u64 q'.un, .int .u8 q'.lv] 32) := ⟨_, rfl⟩
     have hb9 : Below w8.heap.size w8 W9 := by rw [hW9]; exact below_al bR _
     have hx9 : RowB W9 w8.heap.size [.int .i64 q'.k, .int .u32 q'.n, .int .u32 q'.m, .int .u64 q'.t, .int .u32 q'.q, .int .i64 q'.wh, .int .i64 q'.wy, .int .u64 q'.at0, .int .u64 q'.no, .int .u32 q'.nd, .int .u32 q'.rg, .bool q'.ys, .int .u64 q'.fr, .int .u64 q'.un, .int .u8 q'.lv] := by rw [hW9]; exact RowB.new w8 _ _
     have HB79 := h_ (below_on hb8 hb9)
     have HB9 := h_ (below_on HB7.out HB79.out)
     have HX79 := h_ (HX7.out.on HB79.out HS7.out)
     have HX9 := h_ hx9
     have HW9 := h_ hW9
     have heq : ∀ w : World, (Op.equalIn 10000 32 (.agg #[.int .i64 q'.k, .int .u32 q'.n, .int .u32 q'.m, .int .u64 q'.t, .int .u32 q'.q, .int .i64 q'.wh, .int .i64 q'.wy, .int .u64 q'.at0, .int .u64 q'.no, .int .u32 q'.nd, .int .u32 q'.rg, .bool q'.ys, .int .u64 q'.fr, .int .u64 q'.un, .int .u8 q'.lv]) (.agg #[.int .i64 q'.k, .int .u32 q'.n, .int .u32 q'.m, .int .u64 q'.t, .int .u32 q'.q, .int .i64 q'.wh, .int .i64 q'.wy, .int .u64 q'.at0, .int .u64 q'.no, .int .u32 q'.nd, .int .u32 q'.rg, .bool q'.ys, .int .u64 q'.fr, .int .u64 q'.un, .int .u8 q'.lv])).run Tryz.prog w = .ok true w := fun w => by
      have h := eqRc_run q' q' w
      rw [(sameRc_iff _ _).2 rfl] at h
      exact h
     clear hb8 hb9 hx9 hW9 ho
     go_upto_region 11 with fail
     as_aux_lemma =>
      rw [← HW9.out]
      obtain ⟨y0, y1, y2, y3, y4, y5, y6, y7, y8, y9, y10, y11, y12, y13, y14⟩ := r15 HX79.out
      obtain ⟨z0, z1, z2, z3, z4, z5, z6, z7, z8, z9, z10, z11, z12, z13, z14⟩ := r15 HX9.out
      go_wp2_with fail
      refine (dnum10_any 0 _).mono ?_
      rintro e9 w9 ⟨rfl, h9⟩
      rw [← h9]
      clear h9 w9 y0 y1 y2 y3 y4 y5 y6 y7 y8 y9 y10 y11 y12 y13 y14 z0 z1 z2 z3 z4 z5 z6 z7 z8 z9 z10 z11 z12 z13 z14
      as_aux_lemma =>
       go_wp2_with fail
       refine (dworks_any _ (HTw.out _ HB9.out)).mono ?_
       rintro e9 w10 ⟨rfl, hb10⟩
       have HB10 := h_ (below_on HB9.out hb10)
       clear hb10 heq
       go_wp2_with fail
       go_ret
       exact ⟨rfl, HBW.out _ HB10.out⟩

theorem walk_aiN (a : Option Addr) (c : Nat) (l : List It) (x : It) (hx : x = It.mk 4 0 [] [] l) (w : World) (hcap : l.length ≤ c) (hbig : l.length ≤ 140737488351232) (hwt : wtL l ≤ 1048576) (hr : ItSl w a l) (ht : TabW w) (h10 : l.length ≤ 10) (h6 : x.depth ≤ 6) (he : x.err = 0) (hof : ofR x = none) (hrd : rdRcB x.bytes = .error 180) :
  Calls Tryz.prog 4 #[.slice a l.length c] w fun e w' => e = .returned (.bool true) ∧ Below w.heap.size w w' := by
 have HV0 : Hid (ItV w w.heap.size (.agg #[.int .i64 4, .int .u64 0, .slice none 0 0, .string ⟨#[]⟩, .slice a l.length c]) x) := by
  rw [Hid, hx]
  simp only [ItV]
  exact ⟨a, ⟨none, 0, c, rfl, ⟨Nat.le_refl _, hcap⟩, .inl rfl, ⟨by decide, by decide⟩, by decide, by simp [Sz], by simp [Sz], by simp only [Sz]; omega⟩, hr⟩
 have hxw : x.wt = 2 + wtL l := by rw [hx]; simp [It.wt]
 have HD0 : Hid (x.depth ≤ 1000000) := by have := depth_wt x; rw [Hid]; omega
 have HBy : Hid (x.bytes.length ≤ 1000000000) := by have := bytes_wt x; rw [Hid]; omega
 have HTw0 : Hid (∀ w', Below w.heap.size w w' → TabW w') := fun w' h => ht.on h
 have HL := h_ hr
 obtain ⟨n, hn⟩ : ∃ n, n = l.length := ⟨_, rfl⟩
 have HN := h_ hn
 rw [← hn] at HV0 ⊢
 have HE := h_ he
 have HOf := h_ hof
 have HRd := h_ hrd
 have H10 : Hid (n ≤ 10) := by rw [Hid]; omega
 have HD6 : Hid (x.depth ≤ 60000) := by rw [Hid]; omega
 have h10I : ¬ (10 : Int) < (n : Int) := by omega
 have h6I : ¬ (6 : Int) < (x.depth : Int) := by omega
 clear hr ht hwt hcap hbig hxw hx hn h10 hof hrd h6
 go_enter Tryz.func4, Tryz.ntmps4
 go_wp2_with fail
 refine (refList_any a n c w).mono ?_
 rintro e w1 ⟨rfl, hb1⟩
 obtain ⟨W, hW⟩ : ∃ W, W = w1.alloc (.cells #[.int .i64 4, .int .u64 0, .slice none 0 0, .string ⟨#[]⟩, .slice a n c] 45) := ⟨_, rfl⟩
 have HB0 : Hid (Below w.heap.size w W) := by rw [hW]; exact below_on hb1 (below_al bR _)
 have HX : Hid (∀ w', Below W.heap.size W w' → (w'.cell? ⟨w1.heap.size, 0, none⟩ = some (.int .i64 4) ∧ w'.cell? ⟨w1.heap.size, 1, none⟩ = some (.int .u64 0) ∧ w'.cell? ⟨w1.heap.size, 2, none⟩ = some (.slice none 0 0) ∧ w'.cell? ⟨w1.heap.size, 3, none⟩ = some (.string ⟨#[]⟩) ∧ w'.cell? ⟨w1.heap.size, 4, none⟩ = some (.slice a n c))) := fun w' h => by
  rw [hW] at h
  exact ⟨box_at h 0, box_at h 1, box_at h 2, box_at h 3, box_at h 4⟩
 have HV : Hid (∀ w', Below W.heap.size W w' → ItV w' w'.heap.size (.agg #[.int .i64 4, .int .u64 0, .slice none 0 0, .string ⟨#[]⟩, .slice a n c]) x) := fun w' h => (HV0.out.on HB0.out).on h
 have HTw : Hid (∀ w', Below W.heap.size W w' → TabW w') := fun w' h => HTw0.out w' (below_on HB0.out h)
 have HBW : Hid (∀ w', Below W.heap.size W w' → Below w.heap.size w w') := fun w' h => below_on HB0.out h
 have HW := h_ hW
 clear hb1 hW
 go_upto_region 2 with fail
 rw [← HW.out]
 obtain ⟨x0, x1, x2, x3, x4⟩ := HX.out W bR
 go_wp2_with fail
 refine (depth_any x _ W HD0.out (HV.out W bR)).mono ?_
 rintro e w2 ⟨rfl, hb2⟩
 have HB2 := h_ hb2
 clear hb2 x0 x1 x2 x3 x4
 obtain ⟨x0, x1, x2, x3, x4⟩ := HX.out w2 HB2.out
 go_wp2_with fail
 refine (refCheck_any x _ _ _ _ _ w2 (HV.out w2 HB2.out) HD6.out HBy.out).mono ?_
 rintro e w3 ⟨rfl, hb3⟩
 have HB3 := h_ (below_on HB2.out hb3)
 clear hb3 x0 x1 x2 x3 x4
 rw [he]
 clear he
 go_wp2_with fail
 clear h6I h10I
 go_loopw [4] (fun i wr => ∃ k : Nat, k ≤ n ∧ i = .int .i64 k ∧ Hid (Below W.heap.size W wr)) (fun i _ => n - (intOf i).toNat)
 case atStart => exact ⟨0, Nat.zero_le _, rfl, HB3.out⟩
 case round =>
  obtain ⟨k, hk, rfl, HI⟩ := hrel
  by_cases hlt : k < n
  ·have hltI : (k : Int) < (n : Int) := by omega
   have hkl : k < l.length := by have := HN.out; omega
   obtain ⟨g, o, rfl, hg, hlL⟩ : ∃ g o, a = some ⟨g, o, none⟩ ∧ g < w.heap.size ∧ ItL w w.heap.size g o l := by
    rcases HL.out with h | h
    ·rw [h] at hkl; simp at hkl
    ·exact h
   obtain ⟨y, hy⟩ : ∃ y, l[k]? = some y := ⟨_, List.getElem?_eq_getElem hkl⟩
   obtain ⟨_, _, Ay, Cy, _, c0, c1, c2, c3, c4⟩ := hlL.get (i := k) hy (HBW.out _ HI.out) hg
   obtain ⟨nl, hnl⟩ : ∃ q, q = y.l.length := ⟨_, rfl⟩
   obtain ⟨nb, hnb⟩ : ∃ q, q = y.b.length := ⟨_, rfl⟩
   obtain ⟨ns, hns⟩ : ∃ q, q = y.s.length := ⟨_, rfl⟩
   have hs1 : (⟨y.s.toArray⟩ : ByteArray).size = ns := by rw [hns]; simp [ByteArray.size]
   generalize (⟨y.s.toArray⟩ : ByteArray) = sv at c3 hs1
   rw [← hnl] at c4
   rw [← hnb] at c2
   clear hlL hnl hnb hns c0 c1
   by_cases hbad : 6 < nl ∨ 100 < nb ∨ 100 < ns
   ·by_cases h1 : 6 < nl
    ·have h1I : (6 : Int) < (nl : Int) := by omega
     go_wp2_with fail
     refine (dworks_any _ (HTw.out _ HI.out)).mono ?_
     rintro e9 w9 ⟨rfl, hb9⟩
     have HB9 := h_ (below_on HI.out hb9)
     clear hb9
     go_wp2_with fail
     go_ret
     exact ⟨rfl, HBW.out _ HB9.out⟩
    have h1I : ¬ (6 : Int) < (nl : Int) := by omega
    by_cases h2 : 100 < nb
    ·have h2I : (100 : Int) < (nb : Int) := by omega
     go_wp2_with fail
     refine (dworks_any _ (HTw.out _ HI.out)).mono ?_
     rintro e9 w9 ⟨rfl, hb9⟩
     have HB9 := h_ (below_on HI.out hb9)
     clear hb9
     go_wp2_with fail
     go_ret
     exact ⟨rfl, HBW.out _ HB9.out⟩
    have h2I : ¬ (100 : Int) < (nb : Int) := by omega
    have h3I : (100 : Int) < (ns : Int) := by omega
    go_wp2_with fail
    refine (dworks_any _ (HTw.out _ HI.out)).mono ?_
    rintro e9 w9 ⟨rfl, hb9⟩
    have HB9 := h_ (below_on HI.out hb9)
    clear hb9
    go_wp2_with fail
    go_ret
    exact ⟨rfl, HBW.out _ HB9.out⟩
   ·have h1I : ¬ (6 : Int) < (nl : Int) := by omega
    have h2I : ¬ (100 : Int) < (nb : Int) := by omega
    have h3I : ¬ (100 : Int) < (ns : Int) := by omega
    go_wp2_with fail
    have hk1 := k10 hlt
    have hms := m10 hlt H10.out
    go_roundw
    case rel => exact ⟨k + 1, hk1, rfl, HI.out⟩
    case measure => exact hms
  ·obtain rfl : k = n := by omega
   obtain ⟨x0, x1, x2, x3, x4⟩ := HX.out wr HI.out
   go_wp2_with fail
   refine (refBytes_any x _ wr (err_right HE.out) HBy.out (HV.out wr HI.out)).mono ?_
   rintro e w5 ⟨v5, rfl, ho5, hb5⟩
   obtain ⟨A5, C5, rfl, hC5, hd5, _⟩ := ho5.bytes
   have HB5 := h_ (below_on HI.out hb5)
   have hlen := berrlen HE.out
   have HDc := h_ (dDecode_any A5 x.bytes.length C5 x.bytes rfl w5 hd5 hC5 (by omega) (HTw.out _ HB5.out))
   clear x0 x1 x2 x3 x4 ho5 hb5 hC5 hd5 hlen
   generalize x.bytes.length = nby at *
   go_wp2_with fail
   refine HDc.out.mono ?_
   rintro e w6 ⟨hb6, hm6⟩
   rw [HRd.out] at hm6
   have hm6 : e = .returned (.tuple #[.agg #[.int .i64 0, .int .u32 0, .int .u32 0, .int .u64 0, .int .u32 0, .int .i64 0, .int .i64 0, .int .u64 0, .int .u64 0, .int .u32 0, .int .u32 0, .bool false, .int .u64 0, .int .u64 0, .int .u8 0], .int .i64 180]) := hm6
   subst hm6
   obtain ⟨W7, hW7⟩ : ∃ W, W = w6.alloc (.cells #[.int .i64 0, .int .u32 0, .int .u32 0, .int .u64 0, .int .u32 0, .int .i64 0, .int .i64 0, .int .u64 0, .int .u64 0, .int .u32 0, .int .u32 0, .bool false, .int .u64 0, .int .u64 0, .int .u8 0] 32) := ⟨_, rfl⟩
   have hb7 : Below w6.heap.size w6 W7 := by rw [hW7]; exact below_al bR _
   have hx7 : RowB W7 w6.heap.size [.int .i64 0, .int .u32 0, .int .u32 0, .int .u64 0, .int .u32 0, .int .i64 0, .int .i64 0, .int .u64 0, .int .u64 0, .int .u32 0, .int .u32 0, .bool false, .int .u64 0, .int .u64 0, .int .u8 0] := by rw [hW7]; exact RowB.new w6 _ _
   have HB7 := h_ (below_on HB5.out (below_on hb6 hb7))
   have HX7 := h_ hx7
   have HS7 : Hid (w6.heap.size < W7.heap.size) := by rw [Hid, hW7]; simp
   have HW7 := h_ hW7
   clear hb6 hb7 hx7 hW7
   go_upto_region 10 with fail
   as_aux_lemma =>
    rw [← HW7.out]
    obtain ⟨x0, x1, x2, x3, x4⟩ := HX.out W7 HB7.out
    go_wp2_with fail
    refine (refOf10_any x _ W7 (HV.out W7 HB7.out)).mono ?_
    as_aux_lemma =>
     clear x0 x1 x2 x3 x4
     rintro e w8 ⟨hb8, ⟨q', ho, rfl⟩ | ⟨ho, rfl⟩⟩
     ·rw [HOf.out] at ho
      cases ho
     obtain ⟨W9, hW9⟩ : ∃ W, W = w8.alloc (.cells #[.int .i64 0, .int .u32 0, .int .u32 0, .int .u64 0, .int .u32 0, .int .i64 0, .int .i64 0, .int .u64 0, .int .u64 0, .int .u32 0, .int .u32 0, .bool false, .int .u64 0, .int .u64 0, .int .u8 0] 32) := ⟨_, rfl⟩
     have hb9 : Below w8.heap.size w8 W9 := by rw [hW9]; exact below_al bR _
     have hx9 : RowB W9 w8.heap.size [.int .i64 0, .int .u32 0, .int .u32 0, .int .u64 0, .int .u32 0, .int .i64 0, .int .i64 0, .int .u64 0, .int .u64 0, .int .u32 0, .int .u32 0, .bool false, .int .u64 0, .int .u64 0, .int .u8 0] := by rw [hW9]; exact RowB.new w8 _ _
     have HB79 := h_ (below_on hb8 hb9)
     have HB9 := h_ (below_on HB7.out HB79.out)
     have HX79 := h_ (HX7.out.on HB79.out HS7.out)
     have HX9 := h_ hx9
     have HW9 := h_ hW9
     have heq : ∀ w : World, (Op.equalIn 10000 32 (.agg #[.int .i64 0, .int .u32 0, .int .u32 0, .int .u64 0, .int .u32 0, .int .i64 0, .int .i64 0, .int .u64 0, .int .u64 0, .int .u32 0, .int .u32 0, .bool false, .int .u64 0, .int .u64 0, .int .u8 0]) (.agg #[.int .i64 0, .int .u32 0, .int .u32 0, .int .u64 0, .int .u32 0, .int .i64 0, .int .i64 0, .int .u64 0, .int .u64 0, .int .u32 0, .int .u32 0, .bool false, .int .u64 0, .int .u64 0, .int .u8 0])).run Tryz.prog w = .ok true w := fun w => by
      have h := eqRc_run rc0 rc0 w
      rw [(sameRc_iff _ _).2 rfl] at h
      exact h
     clear hb8 hb9 hx9 hW9 ho
     go_upto_region 11 with fail
     as_aux_lemma =>
      rw [← HW9.out]
      obtain ⟨y0, y1, y2, y3, y4, y5, y6, y7, y8, y9, y10, y11, y12, y13, y14⟩ := r15 HX79.out
      obtain ⟨z0, z1, z2, z3, z4, z5, z6, z7, z8, z9, z10, z11, z12, z13, z14⟩ := r15 HX9.out
      go_wp2_with fail
      refine (dnum10_any 180 _).mono ?_
      rintro e9 w9 ⟨rfl, h9⟩
      rw [← h9]
      clear h9 w9 y0 y1 y2 y3 y4 y5 y6 y7 y8 y9 y10 y11 y12 y13 y14 z0 z1 z2 z3 z4 z5 z6 z7 z8 z9 z10 z11 z12 z13 z14
      as_aux_lemma =>
       go_wp2_with fail
       refine (dnum10_any 180 _).mono ?_
       rintro e9 w9 ⟨rfl, h9⟩
       rw [← h9]
       clear h9 w9
       go_wp2_with fail
       refine (dworks_any _ (HTw.out _ HB9.out)).mono ?_
       rintro e9 w10 ⟨rfl, hb10⟩
       have HB10 := h_ (below_on HB9.out hb10)
       clear hb10 heq
       go_wp2_with fail
       go_ret
       exact ⟨rfl, HBW.out _ HB10.out⟩

theorem walk_aitems (a : Option Addr) (c : Nat) (l : List It) (w : World) (hcap : l.length ≤ c) (hbig : l.length ≤ 140737488351232) (hwt : wtL l ≤ 1048576) (hr : ItSl w a l) (ht : TabW w) :
  Calls Tryz.prog 4 #[.slice a l.length c] w fun e w' => e = .returned (.bool true) ∧ Below w.heap.size w w' := by
 obtain ⟨x, hx⟩ : ∃ x, x = It.mk 4 0 [] [] l := ⟨_, rfl⟩
 by_cases hb : 10 < l.length ∨ 6 < x.depth ∨ x.err ≠ 0
 ·exact walk_aiE a c l x hx w hcap hbig hwt hr ht hb
 have h10 : l.length ≤ 10 := by omega
 have h6 : x.depth ≤ 6 := by omega
 have he : x.err = 0 := by omega
 have HV0 : ItV w w.heap.size (.agg #[.int .i64 4, .int .u64 0, .slice none 0 0, .string ⟨#[]⟩, .slice a l.length c]) x := by
  rw [hx]
  simp only [ItV]
  exact ⟨a, ⟨none, 0, c, rfl, ⟨Nat.le_refl _, hcap⟩, .inl rfl, ⟨by decide, by decide⟩, by decide, by simp [Sz], by simp [Sz], by simp only [Sz]; omega⟩, hr⟩
 rcases rd_own HV0 he with ⟨q, hof, hrd⟩ | ⟨hof, hrd⟩
 ·exact walk_aiS a c l x hx w hcap hbig hwt hr ht h10 h6 he q hof hrd
 ·exact walk_aiN a c l x hx w hcap hbig hwt hr ht h10 h6 he hof hrd
end Go.Proofs.YteldifnkeekafaaGreatDoor
