/- Joined texts. -/
import Derived.Test.YtiahakbkagipkaaGreatDoorZJa
import Derived.ProofKit
import Derived.OpenShut
import Derived.ChangeOld
import Derived.SizedLaws
import Derived.Test.YtiahakbkagipkaaGreatDoorZKv
import Derived.Test.YtiahakbkagipkaaGreatDoorZBn
import Derived.Test.YtiahakbkagipkaaGreatDoorZBg
set_option maxRecDepth 100000
namespace Go.Proofs.YtiahakbkagipkaaGreatDoor
open Go.ChangeShapes Go.WideShapes Go.ChangeAt Go.RowKit

theorem lawLaid : laidOutB Tryz.prog = true := by kernel_rfl
theorem bytes_u8 : Tryz.prog.bytesOf 5 = 1 := by kernel_rfl

theorem wf_u8 {n : Int} (h : (Lit.int .u8 n).wf = true) : 0 ≤ n ∧ n < 256 := by
 simp [Lit.wf, IntKind.min, IntKind.max, IntKind.signed, IntKind.bits] at h
 omega

def ofNums (zs : List Int) : List UInt8 := zs.map fun z => UInt8.ofNat z.toNat

theorem byteAt_ofNums (zs : List Int) (hz : ∀ z ∈ zs, 0 ≤ z ∧ z < 256) (j : Nat) (hj : j < zs.length) : byteAt (ofNums zs) j = zs.getD j 0 := by
 have h := hz zs[j] (List.getElem_mem hj)
 simp only [byteAt, ofNums, List.getElem?_map, List.getElem?_eq_getElem hj, Option.map_some, Option.getD_some, UInt8.toNat_ofNat', List.getD]
 omega

section
variable {H : Type} {enc : TypeId × Value → H} {W : World} {base : Nat}

end

end Go.Proofs.YtiahakbkagipkaaGreatDoor

namespace Go.Proofs.YtiahakbkagipkaaGreatDoor
open Go.ChangeShapes Go.WideShapes Go.ChangeAt Go.RowKit


section
variable {H : Type} {enc : TypeId × Value → H} {W : World}

theorem open_bytesF {fuel : Nat} {v : Value} {d : DataW H} {p : List MemPlace} (hf : DataW.trod enc Tryz.prog W 0 (fun _ => true) true fuel 24 [v] = some (d, p)) (hlt : ∀ x ∈ p, x.block < W.heap.size)
  (hw : ∀ n ∈ d.weights Tryz.prog 24, n ≤ 140737488351232) :
  ∃ a c bs, v = .slice a (List.length bs) c ∧ bs.length ≤ c ∧ bs.length ≤ 140737488351232 ∧ RdB W W.heap.size a bs := by
 rcases open_ints Tryz.underlying24 Tryz.underlying5 (by kernel_rfl) hf with ⟨hcs, hx⟩ | ⟨x, len, cap, zs, hcs, _, hl, hm, hz, hx, hcell, hwz⟩
 ·simp only [List.cons.injEq, and_true] at hcs
  subst hcs
  exact ⟨none, 0, [], rfl, Nat.le_refl _, by simp, RdB.nil _ _ _⟩
 ·simp only [List.cons.injEq, and_true] at hcs
  subst hcs
  simp only [Prod.mk.injEq] at hx
  obtain ⟨rfl, rfl⟩ := hx
  simp only [if_true] at hz
  have hreach : len ≤ 140737488351232 := by
   simp only [DataW.weights, Tryz.underlying24] at hw
   have h1 := hw _ (List.mem_cons_self ..)
   rw [bytes_u8] at h1
   simp only [lits, List.length_map, List.length_take, List.length_drop] at h1
   omega
  have hbl : (ofNums (zs.take len)).length = len := by simp [ofNums]; omega
  refine ⟨some x, cap, ofNums (zs.take len), by rw [hbl], by rw [hbl]; exact hl, by rw [hbl]; exact hreach, ?_⟩
  by_cases hl0 : len = 0
  ·exact .inl (List.eq_nil_of_length_eq_zero (by rw [hbl]; exact hl0))
  ·obtain ⟨b, off, spot⟩ := x
   have hspot : spot = none := by simpa [Addr.add] using World.cell?_spot (hcell 0 (by omega))
   subst hspot
   have hbW : b < W.heap.size := hlt (.cell b off) (MemPlace.mem_row.2 ⟨0, by omega, by simp⟩)
   refine .inr ⟨b, off, rfl, hbW, fun j hj => ?_⟩
   rw [hbl] at hj
   have h1 := hcell j (by omega)
   rw [mk_addr_add] at h1
   rw [h1, byteAt_ofNums _ (fun z hz' => wf_u8 (hwz z (List.mem_of_mem_take hz'))) j (by simp; omega)]
   simp [List.getD, hj]

end
end Go.Proofs.YtiahakbkagipkaaGreatDoor

namespace Go.Proofs.YtiahakbkagipkaaGreatDoor
open Go.ChangeShapes Go.WideShapes Go.ChangeAt Go.RowKit


section
variable {H : Type} {enc : TypeId × Value → H} {W : World}

theorem block_cells {fuel : Nat} {cs : List Value} {d : DataW H} {p : List MemPlace} (h : DataW.trod enc Tryz.prog W 0 (fun _ => true) true fuel 26 cs = some (d, p)) (hlt : ∀ x ∈ p, x.block < W.heap.size)
  (hw : ∀ n ∈ d.weights Tryz.prog 26, n ≤ 140737488351232) : ∃ x : LB, x.b.ok ∧ cs = x.vs ∧ RdLB W W.heap.size x ∧ x.b.d.length ≤ 140737488351232 ∧ (Lit.int .i64 x.b.s).wf = true := by
 obtain ⟨xs, n, rfl, hx, hlen, hn, hg⟩ := DataW.trod_struct Tryz.underlying26 h
 have c4 : Tryz.prog.cellsOf 26 = 4 := by kernel_rfl
 rw [c4] at hlen
 simp only [Prod.mk.injEq] at hx
 obtain ⟨rfl, rfl⟩ := hx
 match cs, hlen with
 | [c0, c1, c2, c3], _ =>
 match xs, hn with
 | [x0, x1, x2, x3], _ =>
 have u0 : Tryz.prog.cellsOf 22 = 1 := by kernel_rfl
 have u1 : Tryz.prog.cellsOf 23 = 1 := by kernel_rfl
 have u2 : Tryz.prog.cellsOf 24 = 1 := by kernel_rfl
 have f0 : DataW.trod enc Tryz.prog W 0 (fun _ => true) true n 22 [c0] = some x0 := by have h := hg 0 _ rfl; simpa [u0] using h
 have f1 : DataW.trod enc Tryz.prog W 0 (fun _ => true) true n 22 [c1] = some x1 := by have h := hg 1 _ rfl; simpa [u0] using h
 have f2 : DataW.trod enc Tryz.prog W 0 (fun _ => true) true n 23 [c2] = some x2 := by have h := hg 2 _ rfl; simpa [u1] using h
 have f3 : DataW.trod enc Tryz.prog W 0 (fun _ => true) true n 24 [c3] = some x3 := by have h := hg 3 _ rfl; simpa [u2] using h
 simp only [DataW.weights, Tryz.underlying26] at hw
 have w3 : ∀ n ∈ x3.1.weights Tryz.prog 24, n ≤ 140737488351232 := fun n hn => hw n (DataW.weights_mem_each (j := 3) rfl rfl n hn)
 have l3 : ∀ x ∈ x3.2, x.block < W.heap.size := fun x hx => hlt x (by simp [hx])
 obtain ⟨k0, e0, _, w0⟩ := DataW.trod_int Tryz.underlying22 f0
 obtain ⟨k1, e1, _, w1⟩ := DataW.trod_int Tryz.underlying22 f1
 obtain ⟨k2, e2, _, w2⟩ := DataW.trod_int Tryz.underlying23 f2
 obtain ⟨a, c, bs, rfl, h1, h2, h3⟩ := open_bytesF (d := x3.1) (p := x3.2) f3 l3 w3
 simp only [List.cons.injEq, and_true] at e0 e1 e2
 subst e0 e1 e2
 obtain ⟨n0, rfl, h0⟩ := fit_n64 w0
 obtain ⟨n1, rfl, h4⟩ := fit_n64 w1
 exact ⟨⟨⟨n0, n1, k2, bs⟩, a, c⟩, ⟨h0, h4⟩, rfl, ⟨h1, by show bs.length ≤ _; omega, h3⟩, h2, w2⟩

theorem weights_of {ts : List TypeId} {ds : List (DataW H)} {jn : Nat} {d : DataW H} {t : TypeId} (hsz : (DataW.weightsEach Tryz.prog ts ds).all (· ≤ reachBytes) = true) (ht : ts[jn]? = some t) (hdj : ds[jn]? = some d) : ∀ n ∈ d.weights Tryz.prog t, n ≤ 140737488351232 := by
 intro n hn
 have := List.all_eq_true.1 hsz n (DataW.weights_mem_each ht hdj n hn)
 have h := of_decide_eq_true this
 simpa [reachBytes] using h

theorem open_block {base : Nat} {ts : List TypeId} {ds : List (DataW H)} {jn : Nat} {v : Value} {d : DataW H} {p : List MemPlace} (hv : Value.okWide Tryz.prog W .any base 26 v)
  (hd : DataW.Trod enc Tryz.prog W 0 (fun _ => true) true 26 v d p) (hlt : ∀ x ∈ p, x.block < W.heap.size)
  (hsz : (DataW.weightsEach Tryz.prog ts ds).all (· ≤ reachBytes) = true) (ht : ts[jn]? = some 26) (hdj : ds[jn]? = some d) :
  ∃ x : LB, v = .agg #[.int .u64 x.b.t, .int .u64 x.b.n, .int .i64 x.b.s, .slice x.a x.b.d.length x.c] ∧ x.b.ok ∧ RdLB W W.heap.size x ∧ x.b.d.length ≤ 140737488351232 := by
 obtain ⟨cs, rfl, _⟩ := okWide_struct Tryz.underlying26 hv
 obtain ⟨fuel, hf⟩ := hd
 obtain ⟨l⟩ := cs
 simp only [Value.cells] at hf
 obtain ⟨x, ho, rfl, hr, h2, _⟩ := block_cells hf hlt (weights_of hsz ht hdj)
 exact ⟨x, rfl, ho, hr, h2⟩

end
end Go.Proofs.YtiahakbkagipkaaGreatDoor
