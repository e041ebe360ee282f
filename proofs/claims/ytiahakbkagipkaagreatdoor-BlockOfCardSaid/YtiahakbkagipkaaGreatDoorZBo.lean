/- Joined texts. -/
import Derived.Test.YtiahakbkagipkaaGreatDoorZJa
import Derived.ProofKit
import Derived.OpenShut
import Derived.ChangeOld
import Derived.SizedLaws
import Derived.Test.YtiahakbkagipkaaGreatDoorZKv
import Derived.Test.YtiahakbkagipkaaGreatDoorZBn
import Derived.Test.YtiahakbkagipkaaGreatDoorZBg
set_option maxRecDepth 100000
namespace Go.Proofs.YtiahakbkagipkaaGreatDoor
open Go.ChangeShapes Go.WideShapes Go.ChangeAt Go.RowKit

theorem lawLaid : laidOutB Tryz.prog = true := by kernel_rfl
theorem bytes_u8 : Tryz.prog.bytesOf 5 = 1 := by kernel_rfl

theorem wf_u8 {n : Int} (h : (Lit.int .u8 n).wf = true) : 0 ≤ n ∧ n < 256 := by
 simp [Lit.wf, IntKind.min, IntKind.max, IntKind.signed, IntKind.bits] at h
 omega

def ofNums (zs : List Int) : List UInt8 := zs.map fun z => UInt8.ofNat z.toNat

theorem byteAt_ofNums (zs : List Int) (hz : ∀ z ∈ zs, 0 ≤ z ∧ z < 256) (j : Nat) (hj : j < zs.length) : byteAt (ofNums zs) j = zs.getD j 0 := by
 have h := hz zs[j] (List.getElem_mem hj)
 simp only [byteAt, ofNums, List.getElem?_map, List.getElem?_eq_getElem hj, Option.map_some, Option.getD_some, UInt8.toNat_ofNat', List.getD]
 omega

section
variable {H : Type} {enc : TypeId × Value → H} {W : World} {base : Nat}

end

end Go.Proofs.YtiahakbkagipkaaGreatDoor

namespace Go.Proofs.YtiahakbkagipkaaGreatDoor
open Go.ChangeShapes Go.WideShapes Go.ChangeAt Go.RowKit


section
variable {H : Type} {enc : TypeId × Value → H} {W : World}

theorem weights_all_mem {P : Program} {e : TypeId} : ∀ {ds : List (DataW H)} {d : DataW H}, d ∈ ds → ∀ n ∈ d.weights P e, n ∈ DataW.weightsAll P e ds
 | d0 :: ds, d, hd, n, hn => by
  simp only [DataW.weightsAll, List.mem_append]
  rcases List.mem_cons.1 hd with rfl | h
  ·exact .inl hn
  ·exact .inr (weights_all_mem h n hn)

theorem open_bytesF {fuel : Nat} {v : Value} {d : DataW H} {p : List MemPlace} (hf : DataW.trod enc Tryz.prog W 0 (fun _ => true) true fuel 24 [v] = some (d, p)) (hlt : ∀ x ∈ p, x.block < W.heap.size)
  (hw : ∀ n ∈ d.weights Tryz.prog 24, n ≤ 140737488351232) :
  ∃ a c bs, v = .slice a (List.length bs) c ∧ bs.length ≤ c ∧ bs.length ≤ 140737488351232 ∧ RdB W W.heap.size a bs := by
 rcases open_ints Tryz.underlying24 Tryz.underlying5 (by kernel_rfl) hf with ⟨hcs, hx⟩ | ⟨x, len, cap, zs, hcs, _, hl, hm, hz, hx, hcell, hwz⟩
 ·simp only [List.cons.injEq, and_true] at hcs
  subst hcs
  exact ⟨none, 0, [], rfl, Nat.le_refl _, by simp, RdB.nil _ _ _⟩
 ·simp only [List.cons.injEq, and_true] at hcs
  subst hcs
  simp only [Prod.mk.injEq] at hx
  obtain ⟨rfl, rfl⟩ := hx
  simp only [if_true] at hz
  have hreach : len ≤ 140737488351232 := by
   simp only [DataW.weights, Tryz.underlying24] at hw
   have h1 := hw _ (List.mem_cons_self ..)
   rw [bytes_u8] at h1
   simp only [lits, List.length_map, List.length_take, List.length_drop] at h1
   omega
  have hbl : (ofNums (zs.take len)).length = len := by simp [ofNums]; omega
  refine ⟨some x, cap, ofNums (zs.take len), by rw [hbl], by rw [hbl]; exact hl, by rw [hbl]; exact hreach, ?_⟩
  by_cases hl0 : len = 0
  ·exact .inl (List.eq_nil_of_length_eq_zero (by rw [hbl]; exact hl0))
  ·obtain ⟨b, off, spot⟩ := x
   have hspot : spot = none := by simpa [Addr.add] using World.cell?_spot (hcell 0 (by omega))
   subst hspot
   have hbW : b < W.heap.size := hlt (.cell b off) (MemPlace.mem_row.2 ⟨0, by omega, by simp⟩)
   refine .inr ⟨b, off, rfl, hbW, fun j hj => ?_⟩
   rw [hbl] at hj
   have h1 := hcell j (by omega)
   rw [mk_addr_add] at h1
   rw [h1, byteAt_ofNums _ (fun z hz' => wf_u8 (hwz z (List.mem_of_mem_take hz'))) j (by simp; omega)]
   simp [List.getD, hj]

end
end Go.Proofs.YtiahakbkagipkaaGreatDoor

namespace Go.Proofs.YtiahakbkagipkaaGreatDoor
open Go.ChangeShapes Go.WideShapes Go.ChangeAt Go.RowKit


section
variable {H : Type} {enc : TypeId × Value → H} {W : World}

theorem block_cells {fuel : Nat} {cs : List Value} {d : DataW H} {p : List MemPlace} (h : DataW.trod enc Tryz.prog W 0 (fun _ => true) true fuel 26 cs = some (d, p)) (hlt : ∀ x ∈ p, x.block < W.heap.size)
  (hw : ∀ n ∈ d.weights Tryz.prog 26, n ≤ 140737488351232) : ∃ x : LB, x.b.ok ∧ cs = x.vs ∧ RdLB W W.heap.size x ∧ x.b.d.length ≤ 140737488351232 ∧ (Lit.int .i64 x.b.s).wf = true := by
 obtain ⟨xs, n, rfl, hx, hlen, hn, hg⟩ := DataW.trod_struct Tryz.underlying26 h
 have c4 : Tryz.prog.cellsOf 26 = 4 := by kernel_rfl
 rw [c4] at hlen
 simp only [Prod.mk.injEq] at hx
 obtain ⟨rfl, rfl⟩ := hx
 match cs, hlen with
 | [c0, c1, c2, c3], _ =>
 match xs, hn with
 | [x0, x1, x2, x3], _ =>
 have u0 : Tryz.prog.cellsOf 22 = 1 := by kernel_rfl
 have u1 : Tryz.prog.cellsOf 23 = 1 := by kernel_rfl
 have u2 : Tryz.prog.cellsOf 24 = 1 := by kernel_rfl
 have f0 : DataW.trod enc Tryz.prog W 0 (fun _ => true) true n 22 [c0] = some x0 := by have h := hg 0 _ rfl; simpa [u0] using h
 have f1 : DataW.trod enc Tryz.prog W 0 (fun _ => true) true n 22 [c1] = some x1 := by have h := hg 1 _ rfl; simpa [u0] using h
 have f2 : DataW.trod enc Tryz.prog W 0 (fun _ => true) true n 23 [c2] = some x2 := by have h := hg 2 _ rfl; simpa [u1] using h
 have f3 : DataW.trod enc Tryz.prog W 0 (fun _ => true) true n 24 [c3] = some x3 := by have h := hg 3 _ rfl; simpa [u2] using h
 simp only [DataW.weights, Tryz.underlying26] at hw
 have w3 : ∀ n ∈ x3.1.weights Tryz.prog 24, n ≤ 140737488351232 := fun n hn => hw n (DataW.weights_mem_each (j := 3) rfl rfl n hn)
 have l3 : ∀ x ∈ x3.2, x.block < W.heap.size := fun x hx => hlt x (by simp [hx])
 obtain ⟨k0, e0, _, w0⟩ := DataW.trod_int Tryz.underlying22 f0
 obtain ⟨k1, e1, _, w1⟩ := DataW.trod_int Tryz.underlying22 f1
 obtain ⟨k2, e2, _, w2⟩ := DataW.trod_int Tryz.underlying23 f2
 obtain ⟨a, c, bs, rfl, h1, h2, h3⟩ := open_bytesF (d := x3.1) (p := x3.2) f3 l3 w3
 simp only [List.cons.injEq, and_true] at e0 e1 e2
 subst e0 e1 e2
 obtain ⟨n0, rfl, h0⟩ := fit_n64 w0
 obtain ⟨n1, rfl, h4⟩ := fit_n64 w1
 exact ⟨⟨⟨n0, n1, k2, bs⟩, a, c⟩, ⟨h0, h4⟩, rfl, ⟨h1, by show bs.length ≤ _; omega, h3⟩, h2, w2⟩

theorem weights_of {ts : List TypeId} {ds : List (DataW H)} {jn : Nat} {d : DataW H} {t : TypeId} (hsz : (DataW.weightsEach Tryz.prog ts ds).all (· ≤ reachBytes) = true) (ht : ts[jn]? = some t) (hdj : ds[jn]? = some d) : ∀ n ∈ d.weights Tryz.prog t, n ≤ 140737488351232 := by
 intro n hn
 have := List.all_eq_true.1 hsz n (DataW.weights_mem_each ht hdj n hn)
 have h := of_decide_eq_true this
 simpa [reachBytes] using h

theorem open_blocks {base : Nat} {ts : List TypeId} {ds : List (DataW H)} {jn : Nat} {v : Value} {d : DataW H} {p : List MemPlace} (hv : Value.okWide Tryz.prog W .any base 47 v)
  (hd : DataW.Trod enc Tryz.prog W 0 (fun _ => true) true 47 v d p) (hlt : ∀ x ∈ p, x.block < W.heap.size)
  (hsz : (DataW.weightsEach Tryz.prog ts ds).all (· ≤ reachBytes) = true) (ht : ts[jn]? = some 47) (hdj : ds[jn]? = some d) :
  ∃ a c xs, v = .slice a (List.length xs) c ∧ xs.length ≤ c ∧ xs.length ≤ 140737488351232 ∧ RdLs W W.heap.size a xs ∧ ∀ x ∈ xs, x.b.ok := by
 obtain ⟨a0, len0, cap0, rfl⟩ := okWide_slice Tryz.underlying47 hv
 obtain ⟨fuel, hf⟩ := hd
 have hw := weights_of hsz ht hdj
 have c4 : Tryz.prog.cellsOf 26 = 4 := by kernel_rfl
 rcases DataW.trod_slice Tryz.underlying47 hf with ⟨e4, _⟩ | ⟨A, len, cap, elems, rest, n', rfl, e4, hx, _, hl, hle, hel, hat, _, _⟩
 ·simp [Value.cells] at e4
  obtain ⟨rfl, rfl, rfl⟩ := e4
  exact ⟨none, 0, [], rfl, Nat.le_refl _, by simp, ⟨by simp, .inl rfl⟩, by simp⟩
 ·simp [Value.cells] at e4
  obtain ⟨rfl, rfl, rfl⟩ := e4
  simp only [Prod.mk.injEq] at hx
  obtain ⟨rfl, rfl⟩ := hx
  simp only [DataW.weights, Tryz.underlying47] at hw
  rw [c4] at hat
  have hlen : len0 ≤ 140737488351232 := by
   have q := hw _ (List.mem_cons_self ..)
   have b8 : Tryz.prog.bytesOf 26 = 48 := by kernel_rfl
   rw [b8] at q
   simp only [List.length_map] at q
   omega
  have hA : 0 < len0 → A.spot = none ∧ A.block < W.heap.size := by
   intro h0
   have h := hat 0 h0
   rw [List.getElem?_eq_getElem (by omega), Option.bind_eq_some_iff] at h
   obtain ⟨csi, hcs, _⟩ := h
   obtain ⟨_, hcl, hcc⟩ := World.cells?_some hcs
   obtain ⟨b, off, spot⟩ := A
   have q0 := hcc 0 (by omega)
   obtain ⟨y, hy⟩ : ∃ y, csi[0]? = some y := ⟨_, List.getElem?_eq_getElem (by omega)⟩
   rw [hy] at q0
   have e0 : ((⟨b, off, spot⟩ : Addr).add (0 * 4)).add 0 = ⟨b, off, spot⟩ := by simp [Addr.add]
   rw [e0] at q0
   exact ⟨World.cell?_spot q0, World.block_lt_of_cell? W _ q0⟩
  have hex : ∀ i, ∃ x : LB, (x.b.ok ∧ RdLB W W.heap.size x) ∧ (i < len0 → CellB W A.block (A.off + i * 4) x) := by
   intro i
   by_cases hi : i < len0
   ·have h := hat i hi
    rw [List.getElem?_eq_getElem (by omega), Option.bind_eq_some_iff] at h
    obtain ⟨csi, hcs, ht⟩ := h
    obtain ⟨_, hcl, hcc⟩ := World.cells?_some hcs
    have hi' : i < elems.length := by omega
    obtain ⟨x, ho, rfl, hr, _, _⟩ := block_cells (d := elems[i].1) (p := elems[i].2) ht
     (fun q hq => hlt q (List.mem_append_right _ (List.mem_flatMap.2 ⟨elems[i], List.mem_append_left _ (List.getElem_mem hi'), hq⟩)))
     (fun q hq => hw q (List.mem_cons_of_mem _ (List.mem_append_left _ (weights_all_mem (List.mem_map.2 ⟨elems[i], List.getElem_mem hi', rfl⟩) q hq))))
    refine ⟨x, ⟨ho, hr⟩, fun _ => ?_⟩
    have hspot := (hA (by omega)).1
    obtain ⟨b, off, spot⟩ := A
    simp only at hspot
    subst hspot
    have q0 := hcc 0 (by omega)
    have q1 := hcc 1 (by omega)
    have q2 := hcc 2 (by omega)
    have q3 := hcc 3 (by omega)
    rw [mk_addr_add, mk_addr_add] at q0 q1 q2 q3
    exact ⟨by simpa [LB.vs] using q0, by simpa [LB.vs] using q1, by simpa [LB.vs] using q2, by simpa [LB.vs] using q3⟩
   ·exact ⟨⟨⟨0, 0, 0, []⟩, none, 0⟩, ⟨⟨by decide, by decide⟩, Nat.le_refl _, by simp, .inl rfl⟩, fun h => absurd h hi⟩
  let f : Nat → LB := fun i => (hex i).choose
  have hfs := fun i => (hex i).choose_spec
  have hll : ((List.range len0).map f).length = len0 := by simp
  refine ⟨some A, cap0, (List.range len0).map f, by rw [hll], by rw [hll]; omega, by rw [hll]; exact hlen, ⟨?_, ?_⟩, ?_⟩
  ·intro x hx
   obtain ⟨i, _, rfl⟩ := List.mem_map.1 hx
   exact (hfs i).1.2
  ·by_cases hl0 : len0 = 0
   ·exact .inl (List.eq_nil_of_length_eq_zero (by rw [hll]; exact hl0))
   ·obtain ⟨hsp, hbl⟩ := hA (by omega)
    obtain ⟨b, off, spot⟩ := A
    simp only at hsp
    subst hsp
    refine .inr ⟨b, off, rfl, hbl, fun j x hx => ?_⟩
    have hj : j < len0 := by have := (List.getElem?_eq_some_iff.1 hx).1; rw [hll] at this; exact this
    have e : f j = x := by
     rw [List.getElem?_map, List.getElem?_range hj] at hx
     simpa using hx
    rw [← e]
    exact (hfs j).2 hj
  ·intro x hx
   obtain ⟨i, _, rfl⟩ := List.mem_map.1 hx
   exact (hfs i).1.1

end
end Go.Proofs.YtiahakbkagipkaaGreatDoor
