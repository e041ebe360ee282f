/- Joined texts. -/
import Derived.Test.YtiahakbkagipkaaGreatDoorZJa
import Derived.ProofKit
import Derived.OpenShut
import Derived.ChangeOld
import Derived.SizedLaws
import Derived.Test.YtiahakbkagipkaaGreatDoorZKv
import Derived.Test.YtiahakbkagipkaaGreatDoorZBn
import Derived.Test.YtiahakbkagipkaaGreatDoorZBg
set_option maxRecDepth 100000
namespace Go.Proofs.YtiahakbkagipkaaGreatDoor
open Go.ChangeShapes Go.WideShapes Go.ChangeAt Go.RowKit

theorem lawLaid : laidOutB Tryz.prog = true := by kernel_rfl

section
variable {H : Type} {enc : TypeId × Value → H} {W : World} {base : Nat}

end

end Go.Proofs.YtiahakbkagipkaaGreatDoor

namespace Go.Proofs.YtiahakbkagipkaaGreatDoor
open Go.ChangeShapes Go.WideShapes Go.ChangeAt Go.RowKit


section
variable {H : Type} {enc : TypeId × Value → H} {W : World}

end
end Go.Proofs.YtiahakbkagipkaaGreatDoor

namespace Go.Proofs.YtiahakbkagipkaaGreatDoor
open Go.ChangeShapes Go.WideShapes Go.ChangeAt Go.RowKit


section
variable {H : Type} {enc : TypeId × Value → H} {W : World}

theorem fit_n8 {n : Int} (h : (Lit.int .u8 n).wf = true) : ∃ k : Nat, n = k ∧ k ≤ 255 := by
 simp [Lit.wf, IntKind.min, IntKind.max, IntKind.signed, IntKind.bits] at h
 exact ⟨n.toNat, by omega, by omega⟩

theorem weights_of {ts : List TypeId} {ds : List (DataW H)} {jn : Nat} {d : DataW H} {t : TypeId} (hsz : (DataW.weightsEach Tryz.prog ts ds).all (· ≤ reachBytes) = true) (ht : ts[jn]? = some t) (hdj : ds[jn]? = some d) : ∀ n ∈ d.weights Tryz.prog t, n ≤ 140737488351232 := by
 intro n hn
 have := List.all_eq_true.1 hsz n (DataW.weights_mem_each ht hdj n hn)
 have h := of_decide_eq_true this
 simpa [reachBytes] using h

theorem open_extra {base : Nat} {ts : List TypeId} {ds : List (DataW H)} {jn : Nat} {v : Value} {d : DataW H} {p : List MemPlace} (hv : Value.okWide Tryz.prog W .any base 46 v)
  (hd : DataW.Trod enc Tryz.prog W 0 (fun _ => true) true 46 v d p) (hlt : ∀ x ∈ p, x.block < W.heap.size)
  (hsz : (DataW.weightsEach Tryz.prog ts ds).all (· ≤ reachBytes) = true) (ht : ts[jn]? = some 46) (hdj : ds[jn]? = some d) :
  ∃ (x : Ex) (A : Option Addr) (C : Nat), v = .agg #[.int .u32 x.n, .int .u32 x.m, .int .u64 x.g, .int .u8 x.l, .int .u8 x.c, .bool x.b, .slice A x.xs.length C] ∧ x.n ≤ 4294967295 ∧ x.m ≤ 4294967295 ∧ x.g < 18446744073709551616 ∧ x.l ≤ 255 ∧ x.c ≤ 255 ∧
   x.xs.length ≤ C ∧ x.xs.length ≤ 140737488351232 ∧ RdX W W.heap.size A x.xs := by
 obtain ⟨cs, rfl, _⟩ := okWide_struct Tryz.underlying46 hv
 obtain ⟨fuel, hf⟩ := hd
 have hw := weights_of hsz ht hdj
 obtain ⟨l⟩ := cs
 simp only [Value.cells] at hf
 obtain ⟨xs, n, rfl, hx, hlen, hn, hg⟩ := DataW.trod_struct Tryz.underlying46 hf
 have c7 : Tryz.prog.cellsOf 46 = 7 := by kernel_rfl
 rw [c7] at hlen
 simp only [Prod.mk.injEq] at hx
 obtain ⟨rfl, rfl⟩ := hx
 match l, hlen with
 | [c0, c1, c2, c3, c4, c5, c6], _ =>
 match xs, hn with
 | [x0, x1, x2, x3, x4], _ =>
 have u0 : Tryz.prog.cellsOf 41 = 2 := by kernel_rfl
 have u1 : Tryz.prog.cellsOf 22 = 1 := by kernel_rfl
 have u2 : Tryz.prog.cellsOf 5 = 1 := by kernel_rfl
 have u3 : Tryz.prog.cellsOf 44 = 2 := by kernel_rfl
 have f0 : DataW.trod enc Tryz.prog W 0 (fun _ => true) true n 41 [c0, c1] = some x0 := by have h := hg 0 _ rfl; simpa [u0, u1, u2, u3] using h
 have f1 : DataW.trod enc Tryz.prog W 0 (fun _ => true) true n 22 [c2] = some x1 := by have h := hg 1 _ rfl; simpa [u0, u1, u2, u3] using h
 have f2 : DataW.trod enc Tryz.prog W 0 (fun _ => true) true n 5 [c3] = some x2 := by have h := hg 2 _ rfl; simpa [u0, u1, u2, u3] using h
 have f3 : DataW.trod enc Tryz.prog W 0 (fun _ => true) true n 5 [c4] = some x3 := by have h := hg 3 _ rfl; simpa [u0, u1, u2, u3] using h
 have f4 : DataW.trod enc Tryz.prog W 0 (fun _ => true) true n 44 [c5, c6] = some x4 := by have h := hg 4 _ rfl; simpa [u0, u1, u2, u3] using h
 simp only [DataW.weights, Tryz.underlying46] at hw
 have w4 : ∀ n ∈ x4.1.weights Tryz.prog 44, n ≤ 140737488351232 := fun n hn => hw n (DataW.weights_mem_each (j := 4) rfl rfl n hn)
 have l4 : ∀ x ∈ x4.2, x.block < W.heap.size := fun x hx => hlt x (by simp [hx])
 obtain ⟨a0, b0, ⟨ha0, hb0⟩, e0⟩ := pep_cells f0
 obtain ⟨k1, e1, _, w1⟩ := DataW.trod_int Tryz.underlying22 f1
 obtain ⟨k2, e2, _, w2⟩ := DataW.trod_int Tryz.underlying5 f2
 obtain ⟨k3, e3, _, w3⟩ := DataW.trod_int Tryz.underlying5 f3
 obtain ⟨x4d, x4p⟩ := x4
 obtain ⟨ys, n', rfl, hy, hlen', hn', hg'⟩ := DataW.trod_struct Tryz.underlying44 f4
 simp only [Prod.mk.injEq] at hy
 obtain ⟨rfl, rfl⟩ := hy
 match ys, hn' with
 | [y0, y1], _ =>
 have v0 : Tryz.prog.cellsOf 4 = 1 := by kernel_rfl
 have v1 : Tryz.prog.cellsOf 42 = 1 := by kernel_rfl
 have g0 : DataW.trod enc Tryz.prog W 0 (fun _ => true) true n' 4 [c5] = some y0 := by have h := hg' 0 _ rfl; simpa [v0] using h
 have g1 : DataW.trod enc Tryz.prog W 0 (fun _ => true) true n' 42 [c6] = some y1 := by have h := hg' 1 _ rfl; simpa [v0, v1] using h
 simp only [DataW.weights, Tryz.underlying44] at w4
 have z1 : ∀ n ∈ y1.1.weights Tryz.prog 42, n ≤ 140737488351232 := fun n hn => w4 n (DataW.weights_mem_each (j := 1) rfl rfl n hn)
 have l1 : ∀ x ∈ y1.2, x.block < W.heap.size := fun x hx => l4 x (by simp [hx])
 obtain ⟨b, e5, _⟩ := DataW.trod_bool Tryz.underlying4 g0
 obtain ⟨a, c, zs, rfl, h1, h2, h3⟩ := crossesF (d := y1.1) (p := y1.2) g1 l1 z1
 simp only [List.cons.injEq, and_true] at e0 e1 e2 e3 e5
 obtain ⟨rfl, rfl⟩ := e0
 subst e1 e2 e3 e5
 obtain ⟨n1, rfl, q1⟩ := fit_n64 w1
 obtain ⟨n2, rfl, q2⟩ := fit_n8 w2
 obtain ⟨n3, rfl, q3⟩ := fit_n8 w3
 exact ⟨⟨a0, b0, n1, n2, n3, b, zs⟩, a, c, rfl, ha0, hb0, q1, q2, q3, h1, h2, h3⟩

end
end Go.Proofs.YtiahakbkagipkaaGreatDoor
