/- Joined texts. -/
import Derived.Test.YtiahakbkagipkaaGreatDoorZMe
import Derived.Test.YtiahakbkagipkaaGreatDoorZKs
import Derived.ProofKit
import Derived.OpenShut
import Derived.ChangeOld
import Derived.SizedLaws
import Derived.Test.YtiahakbkagipkaaGreatDoorZBp
set_option linter.unusedSimpArgs false
set_option linter.unusedVariables false
set_option maxRecDepth 100000
namespace Go.Proofs.YtiahakbkagipkaaGreatDoor
open Go Go.RowKit Go.Shelf

attribute [local go_sem] Oper.semAt_some

attribute [local go_sem] Oper.semAt_some

attribute [local go_sem] Oper.semAt_some

def RdU3 (w : World) (B : Nat) (a : Option Addr) (zs : List Nat) : Prop :=
 zs = [] ∨ ∃ b o, a = some ⟨b, o, none⟩ ∧ b < B ∧ ∀ j, j < zs.length → w.cell? ⟨b, o + j, none⟩ = some (.int .u32 ((zs[j]?.getD 0 : Nat) : Int))

theorem RdU3.below {w w' : World} {B : Nat} {a : Option Addr} {zs : List Nat} (h : RdU3 w B a zs) (hb : Below B w w') : RdU3 w' B a zs := by
 rcases h with h | ⟨b, o, e, hlt, hc⟩
 ·exact .inl h
 ·exact .inr ⟨b, o, e, hlt, fun j hj => (hb.cell (p := ⟨b, o + j, none⟩) hlt).trans (hc j hj)⟩

theorem RdU3.mono {w : World} {B B' : Nat} {a : Option Addr} {zs : List Nat} (h : RdU3 w B a zs) (hB : B ≤ B') : RdU3 w B' a zs := by
 rcases h with h | ⟨b, o, e, hlt, hc⟩
 ·exact .inl h
 ·exact .inr ⟨b, o, e, Nat.lt_of_lt_of_le hlt hB, hc⟩

theorem RdU3.at {w : World} {B : Nat} {a : Option Addr} {zs : List Nat} (h : RdU3 w B a zs) (k : Nat) (hk : k < zs.length) :
  ∃ b o, a = some ⟨b, o, none⟩ ∧ b < B ∧ w.cell? ⟨b, o + k, none⟩ = some (.int .u32 ((zs[k]?.getD 0 : Nat) : Int)) := by
 rcases h with rfl | ⟨b, o, e, hlt, hc⟩
 ·simp at hk
 ·exact ⟨b, o, e, hlt, hc k hk⟩

end Go.Proofs.YtiahakbkagipkaaGreatDoor

namespace Go.Proofs.YtiahakbkagipkaaGreatDoor
open Go.ChangeShapes Go.WideShapes Go.ChangeAt Go.RowKit


section
variable {H : Type} {enc : TypeId × Value → H} {W : World}

theorem fit_n32 {n : Int} (h : (Lit.int .u32 n).wf = true) : ∃ k : Nat, n = k ∧ k ≤ 4294967295 := by
 simp [Lit.wf, IntKind.min, IntKind.max, IntKind.signed, IntKind.bits] at h
 exact ⟨n.toNat, by omega, by omega⟩
theorem fit_n64 {n : Int} (h : (Lit.int .u64 n).wf = true) : ∃ k : Nat, n = k ∧ k < 18446744073709551616 := by
 simp [Lit.wf, IntKind.min, IntKind.max, IntKind.signed, IntKind.bits] at h
 exact ⟨n.toNat, by omega, by omega⟩

theorem pep_cells {fuel : Nat} {cs : List Value} {x : DataW H × List MemPlace} (h : DataW.trod enc Tryz.prog W 0 (fun _ => true) true fuel 41 cs = some x) : ∃ n m : Nat, (n ≤ 4294967295 ∧ m ≤ 4294967295) ∧ cs = [.int .u32 n, .int .u32 m] := by
 obtain ⟨xs, n, rfl, hx, hlen, hn, hf⟩ := DataW.trod_struct Tryz.underlying41 h
 have c2 : Tryz.prog.cellsOf 41 = 2 := by kernel_rfl
 rw [c2] at hlen
 match cs, hlen with
 | [c0, c1], _ =>
 match xs, hn with
 | [x0, x1], _ =>
 have u1 : Tryz.prog.cellsOf 39 = 1 := by kernel_rfl
 have f0 : DataW.trod enc Tryz.prog W 0 (fun _ => true) true n 39 [c0] = some x0 := by have h := hf 0 _ rfl; simpa [u1] using h
 have f1 : DataW.trod enc Tryz.prog W 0 (fun _ => true) true n 39 [c1] = some x1 := by have h := hf 1 _ rfl; simpa [u1] using h
 obtain ⟨k, e0, _, k0⟩ := DataW.trod_int Tryz.underlying39 f0
 obtain ⟨m, e1, _, k1⟩ := DataW.trod_int Tryz.underlying39 f1
 simp only [List.cons.injEq, and_true] at e0 e1
 subst e0 e1
 obtain ⟨k', rfl, h0⟩ := fit_n32 k0
 obtain ⟨m', rfl, h1⟩ := fit_n32 k1
 exact ⟨k', m', ⟨h0, h1⟩, rfl⟩

end
end Go.Proofs.YtiahakbkagipkaaGreatDoor

namespace Go.Proofs.YtiahakbkagipkaaGreatDoor
open Go.ChangeShapes Go.WideShapes Go.ChangeAt Go.RowKit


section
variable {H : Type} {enc : TypeId × Value → H} {W : World}

theorem wf_g32 {n : Int} (h : (Lit.int .u32 n).wf = true) : ∃ k : UInt32, n = k.toNat := by
 simp [Lit.wf, IntKind.min, IntKind.max, IntKind.signed, IntKind.bits] at h
 refine ⟨UInt32.ofNat n.toNat, ?_⟩
 have e : (UInt32.ofNat n.toNat).toNat = n.toNat := by
  rw [UInt32.toNat_ofNat']
  exact Nat.mod_eq_of_lt (by omega)
 rw [e]
 omega

theorem cross_cells {fuel : Nat} {cs : List Value} {x : DataW H × List MemPlace} (h : DataW.trod enc Tryz.prog W 0 (fun _ => true) true fuel 138 cs = some x) : ∃ x : Cr, cs = [.int .u32 x.1.toNat, .bool x.2] := by
 obtain ⟨xs, n, rfl, hx, hlen, hn, hf⟩ := DataW.trod_struct Tryz.underlying138 h
 have c2 : Tryz.prog.cellsOf 138 = 2 := by kernel_rfl
 rw [c2] at hlen
 match cs, hlen with
 | [c0, c1], _ =>
 match xs, hn with
 | [x0, x1], _ =>
 have u0 : Tryz.prog.cellsOf 39 = 1 := by kernel_rfl
 have u1 : Tryz.prog.cellsOf 4 = 1 := by kernel_rfl
 have f0 : DataW.trod enc Tryz.prog W 0 (fun _ => true) true n 39 [c0] = some x0 := by have h := hf 0 _ rfl; simpa [u0] using h
 have f1 : DataW.trod enc Tryz.prog W 0 (fun _ => true) true n 4 [c1] = some x1 := by have h := hf 1 _ rfl; simpa [u0, u1] using h
 obtain ⟨k, e0, _, k0⟩ := DataW.trod_int Tryz.underlying39 f0
 obtain ⟨b, e1, _⟩ := DataW.trod_bool Tryz.underlying4 f1
 simp only [List.cons.injEq, and_true] at e0 e1
 subst e0 e1
 obtain ⟨g, rfl⟩ := wf_g32 k0
 exact ⟨(g, b), rfl⟩

theorem crossesF {fuel : Nat} {v : Value} {d : DataW H} {p : List MemPlace} (hf : DataW.trod enc Tryz.prog W 0 (fun _ => true) true fuel 42 [v] = some (d, p)) (hlt : ∀ x ∈ p, x.block < W.heap.size)
  (hw : ∀ n ∈ d.weights Tryz.prog 42, n ≤ 140737488351232) : ∃ a c xs, v = .slice a (List.length xs) c ∧ xs.length ≤ c ∧ xs.length ≤ 140737488351232 ∧ RdX W W.heap.size a xs := by
 have c2 : Tryz.prog.cellsOf 138 = 2 := by kernel_rfl
 rcases DataW.trod_slice Tryz.underlying42 hf with ⟨e4, _⟩ | ⟨A, len, cap, elems, rest, n', rfl, e4, hx, _, hl, hle, hel, hat, _, _⟩
 ·simp at e4
  subst e4
  exact ⟨none, 0, [], rfl, Nat.le_refl _, by simp, .inl rfl⟩
 ·simp at e4
  subst e4
  simp only [Prod.mk.injEq] at hx
  obtain ⟨rfl, rfl⟩ := hx
  simp only [DataW.weights, Tryz.underlying42] at hw
  rw [c2] at hat
  have hlen : len ≤ 140737488351232 := by
   have q := hw _ (List.mem_cons_self ..)
   have b8 : Tryz.prog.bytesOf 138 = 8 := by kernel_rfl
   rw [b8] at q
   simp only [List.length_map] at q
   omega
  have hA : 0 < len → A.spot = none ∧ A.block < W.heap.size := by
   intro h0
   have h := hat 0 h0
   rw [List.getElem?_eq_getElem (by omega), Option.bind_eq_some_iff] at h
   obtain ⟨csi, hcs, _⟩ := h
   obtain ⟨_, hcl, hcc⟩ := World.cells?_some hcs
   obtain ⟨b, off, spot⟩ := A
   have q0 := hcc 0 (by omega)
   obtain ⟨y, hy⟩ : ∃ y, csi[0]? = some y := ⟨_, List.getElem?_eq_getElem (by omega)⟩
   rw [hy] at q0
   have e0 : ((⟨b, off, spot⟩ : Addr).add (0 * 2)).add 0 = ⟨b, off, spot⟩ := by simp [Addr.add]
   rw [e0] at q0
   exact ⟨World.cell?_spot q0, World.block_lt_of_cell? W _ q0⟩
  have hex : ∀ i, ∃ x : Cr, i < len → CellX W A.block (A.off + i * 2) x := by
   intro i
   by_cases hi : i < len
   ·have h := hat i hi
    rw [List.getElem?_eq_getElem (by omega), Option.bind_eq_some_iff] at h
    obtain ⟨csi, hcs, ht⟩ := h
    obtain ⟨_, hcl, hcc⟩ := World.cells?_some hcs
    obtain ⟨x, rfl⟩ := cross_cells ht
    refine ⟨x, fun _ => ?_⟩
    have hspot := (hA (by omega)).1
    obtain ⟨b, off, spot⟩ := A
    simp only at hspot
    subst hspot
    have q0 := hcc 0 (by omega)
    have q1 := hcc 1 (by omega)
    rw [mk_addr_add, mk_addr_add] at q0 q1
    exact ⟨by simpa using q0, by simpa using q1⟩
   ·exact ⟨(0, false), fun h => absurd h hi⟩
  let f : Nat → Cr := fun i => (hex i).choose
  have hfs := fun i => (hex i).choose_spec
  have hll : ((List.range len).map f).length = len := by simp
  refine ⟨some A, cap, (List.range len).map f, by rw [hll], by rw [hll]; omega, by rw [hll]; exact hlen, ?_⟩
  by_cases hl0 : len = 0
  ·exact .inl (List.eq_nil_of_length_eq_zero (by rw [hll]; exact hl0))
  ·obtain ⟨hsp, hbl⟩ := hA (by omega)
   obtain ⟨b, off, spot⟩ := A
   simp only at hsp
   subst hsp
   refine .inr ⟨b, off, rfl, hbl, fun i hi => ?_⟩
   rw [hll] at hi
   have h := hfs i hi
   have e : atX ((List.range len).map f) i = f i := by simp [atX, hi]
   rw [e]
   exact h

end
end Go.Proofs.YtiahakbkagipkaaGreatDoor
