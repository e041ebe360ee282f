/- How what waits, and slices of it that came in, are opened. -/
import Derived.Test.YthfndphngeaihaaDoorRkS
import Derived.ProofKit
import Derived.OpenShut
import Derived.ChangeOld
import Derived.SizedLaws
namespace Go.Proofs.YthfndphngeaihaaDoor
open Go.ChangeShapes Go.WideShapes Go.ChangeAt Go.RowKit

set_option maxRecDepth 100000

/-- A slice that came in reads as these cells. -/
def RdV (w : World) (A : Option Addr) (xs : List Value) : Prop := ∀ j u, xs[j]? = some u → ∃ g o, A = some ⟨g, o, none⟩ ∧ g < w.heap.size ∧ w.cell? ⟨g, o + j, none⟩ = some u
theorem RdV.on {w w' : World} {A : Option Addr} {xs : List Value} (h : RdV w A xs) (hb : Below w.heap.size w w') : RdV w' A xs := fun j u hu => by
  obtain ⟨g, o, e, hg, hc⟩ := h j u hu
  exact ⟨g, o, e, Nat.lt_of_lt_of_le hg hb.size, (hb.cell (p := ⟨g, o + j, none⟩) hg).trans hc⟩

section
variable {H : Type} {enc : TypeId × Value → H} {W : World}

theorem iep_cells {fuel : Nat} {cs : List Value} {x : DataW H × List MemPlace} (h : DataW.trod enc Tryd.prog W 0 (fun _ => true) true fuel 25 cs = some x) : ∃ n m : Int, cs = [.int .u32 n, .int .u32 m] := by
  obtain ⟨xs, n, rfl, hx, hlen, hn, hf⟩ := DataW.trod_struct Tryd.underlying25 h
  have c2 : Tryd.prog.cellsOf 25 = 2 := by kernel_rfl
  rw [c2] at hlen
  match cs, hlen with
  | [c0, c1], _ =>
  match xs, hn with
  | [x0, x1], _ =>
  have u1 : Tryd.prog.cellsOf 23 = 1 := by kernel_rfl
  have f0 : DataW.trod enc Tryd.prog W 0 (fun _ => true) true n 23 [c0] = some x0 := by have h := hf 0 _ rfl; simpa [u1] using h
  have f1 : DataW.trod enc Tryd.prog W 0 (fun _ => true) true n 23 [c1] = some x1 := by have h := hf 1 _ rfl; simpa [u1] using h
  obtain ⟨k, e0, _, k0⟩ := DataW.trod_int Tryd.underlying23 f0
  obtain ⟨m, e1, _, k1⟩ := DataW.trod_int Tryd.underlying23 f1
  simp only [List.cons.injEq, and_true] at e0 e1
  subst e0 e1
  exact ⟨k, m, rfl⟩

theorem iname_cells {fuel : Nat} {cs : List Value} {x : DataW H × List MemPlace} (h : DataW.trod enc Tryd.prog W 0 (fun _ => true) true fuel 28 cs = some x) : ∃ a : Nm, cs = a.cells := by
  obtain ⟨xs, n, rfl, hx, hlen, hn, hf⟩ := DataW.trod_struct Tryd.underlying28 h
  have c4 : Tryd.prog.cellsOf 28 = 4 := by kernel_rfl
  rw [c4] at hlen
  match cs, hlen with
  | [c0, c1, c2, c3], _ =>
  match xs, hn with
  | [x0, x1, x2], _ =>
  have u0 : Tryd.prog.cellsOf 25 = 2 := by kernel_rfl
  have u1 : Tryd.prog.cellsOf 26 = 1 := by kernel_rfl
  have u2 : Tryd.prog.cellsOf 23 = 1 := by kernel_rfl
  have f0 : DataW.trod enc Tryd.prog W 0 (fun _ => true) true n 25 [c0, c1] = some x0 := by have h := hf 0 _ rfl; simpa [u0] using h
  have f1 : DataW.trod enc Tryd.prog W 0 (fun _ => true) true n 26 [c2] = some x1 := by have h := hf 1 _ rfl; simpa [u0, u1] using h
  have f2 : DataW.trod enc Tryd.prog W 0 (fun _ => true) true n 23 [c3] = some x2 := by have h := hf 2 _ rfl; simpa [u0, u1, u2] using h
  obtain ⟨a, b, e0⟩ := iep_cells f0
  obtain ⟨m, e1, _, k1⟩ := DataW.trod_int Tryd.underlying26 f1
  obtain ⟨q, e2, _, k2⟩ := DataW.trod_int Tryd.underlying23 f2
  simp only [List.cons.injEq, and_true] at e0 e1 e2
  obtain ⟨rfl, rfl⟩ := e0
  subst e1 e2
  exact ⟨⟨a, b, m, q⟩, rfl⟩

theorem wait_cells {fuel : Nat} {cs : List Value} {x : DataW H × List MemPlace} (h : DataW.trod enc Tryd.prog W 0 (fun _ => true) true fuel 30 cs = some x) : ∃ a : Wt, cs = a.cells := by
  obtain ⟨xs, n, rfl, hx, hlen, hn, hf⟩ := DataW.trod_struct Tryd.underlying30 h
  have c7 : Tryd.prog.cellsOf 30 = 7 := by kernel_rfl
  rw [c7] at hlen
  match cs, hlen with
  | [c0, c1, c2, c3, c4, c5, c6], _ =>
  match xs, hn with
  | [x0, x1, x2, x3], _ =>
  have u0 : Tryd.prog.cellsOf 28 = 4 := by kernel_rfl
  have u1 : Tryd.prog.cellsOf 23 = 1 := by kernel_rfl
  have u2 : Tryd.prog.cellsOf 3 = 1 := by kernel_rfl
  have f0 : DataW.trod enc Tryd.prog W 0 (fun _ => true) true n 28 [c0, c1, c2, c3] = some x0 := by have h := hf 0 _ rfl; simpa [u0] using h
  have f1 : DataW.trod enc Tryd.prog W 0 (fun _ => true) true n 23 [c4] = some x1 := by have h := hf 1 _ rfl; simpa [u0, u1] using h
  have f2 : DataW.trod enc Tryd.prog W 0 (fun _ => true) true n 3 [c5] = some x2 := by have h := hf 2 _ rfl; simpa [u0, u1, u2] using h
  have f3 : DataW.trod enc Tryd.prog W 0 (fun _ => true) true n 3 [c6] = some x3 := by have h := hf 3 _ rfl; simpa [u0, u1, u2] using h
  obtain ⟨a, e0⟩ := iname_cells f0
  obtain ⟨m, e1, _, k1⟩ := DataW.trod_int Tryd.underlying23 f1
  obtain ⟨q, e2, _, k2⟩ := DataW.trod_int Tryd.underlying3 f2
  obtain ⟨s, e3, _, k3⟩ := DataW.trod_int Tryd.underlying3 f3
  simp only [Nm.cells, List.cons.injEq, and_true] at e0 e1 e2 e3
  obtain ⟨rfl, rfl, rfl, rfl⟩ := e0
  subst e1 e2 e3
  exact ⟨⟨a, m, q, s⟩, rfl⟩

/-- What waits, that came in. -/
theorem open_wait {base : Nat} {v : Value} {d : DataW H} {p : List MemPlace} (hv : Value.okWide Tryd.prog W .any base 30 v)
    (hd : DataW.Trod enc Tryd.prog W 0 (fun _ => true) true 30 v d p) : ∃ x : Wt, v = .agg #[.int .u32 x.nm.n, .int .u32 x.nm.m, .int .u64 x.nm.t, .int .u32 x.nm.q, .int .u32 x.node, .int .i64 x.rank, .int .i64 x.size] := by
  obtain ⟨cs, rfl, _⟩ := okWide_struct Tryd.underlying30 hv
  obtain ⟨fuel, hf⟩ := hd
  obtain ⟨x, e⟩ := wait_cells hf
  obtain ⟨l⟩ := cs
  have e' : l = x.cells := by simpa [Value.cells] using e
  subst e'
  exact ⟨x, rfl⟩

/-- A slice of what waits that came in. -/
theorem open_waits {base : Nat} {v : Value} {d : DataW H} {p : List MemPlace} (hv : Value.okWide Tryd.prog W .any base 22 v)
    (hd : DataW.Trod enc Tryd.prog W 0 (fun _ => true) true 22 v d p) : ∃ a c xs, v = .slice a (List.length xs) c ∧ RdV W a (flatWt xs) := by
  obtain ⟨a0, len0, cap0, rfl⟩ := okWide_slice Tryd.underlying22 hv
  obtain ⟨fuel, hf⟩ := hd
  simp only [Value.cells] at hf
  have c7 : Tryd.prog.cellsOf 30 = 7 := by kernel_rfl
  rcases DataW.trod_slice Tryd.underlying22 hf with ⟨e4, _⟩ | ⟨A, len, cap, elems, rest, n', rfl, e4, hx, _, hl, hle, hel, hat, _, _⟩
  · simp at e4
    obtain ⟨rfl, rfl, rfl⟩ := e4
    exact ⟨none, 0, [], rfl, fun j u hu => by simp [flatWt] at hu⟩
  · simp at e4
    obtain ⟨rfl, rfl, rfl⟩ := e4
    rw [c7] at hat
    have hA : 0 < len0 → A.spot = none ∧ A.block < W.heap.size := by
      intro h0
      have h := hat 0 h0
      rw [List.getElem?_eq_getElem (by omega), Option.bind_eq_some_iff] at h
      obtain ⟨csi, hcs, _⟩ := h
      obtain ⟨_, hcl, hcc⟩ := World.cells?_some hcs
      obtain ⟨b, off, spot⟩ := A
      have q0 := hcc 0 (by omega)
      obtain ⟨y, hy⟩ : ∃ y, csi[0]? = some y := ⟨_, List.getElem?_eq_getElem (by omega)⟩
      rw [hy] at q0
      have e0 : ((⟨b, off, spot⟩ : Addr).add (0 * 7)).add 0 = ⟨b, off, spot⟩ := by simp [Addr.add]
      rw [e0] at q0
      exact ⟨World.cell?_spot q0, World.block_lt_of_cell? W _ q0⟩
    have hex : ∀ i, ∃ x : Wt, i < len0 → ∀ j u, x.cells[j]? = some u → A.spot = none ∧ A.block < W.heap.size ∧ W.cell? ⟨A.block, A.off + (i * 7 + j), none⟩ = some u := by
      intro i
      by_cases hi : i < len0
      · have h := hat i hi
        rw [List.getElem?_eq_getElem (by omega), Option.bind_eq_some_iff] at h
        obtain ⟨csi, hcs, ht⟩ := h
        obtain ⟨_, hcl, hcc⟩ := World.cells?_some hcs
        obtain ⟨x, rfl⟩ := wait_cells ht
        refine ⟨x, fun _ j u hu => ?_⟩
        have hj : j < 7 := by
          have := (List.getElem?_eq_some_iff.1 hu).1
          simpa [Wt.cells] using this
        have q := hcc j hj
        rw [hu] at q
        obtain ⟨hsp, hbl⟩ := hA (by omega)
        obtain ⟨b, off, spot⟩ := A
        simp only at hsp
        subst hsp
        rw [mk_addr_add, mk_addr_add, Nat.add_assoc] at q
        exact ⟨rfl, hbl, q⟩
      · exact ⟨wtZ, fun h => absurd h hi⟩
    let f : Nat → Wt := fun i => (hex i).choose
    have hfs := fun i => (hex i).choose_spec
    have hll : ((List.range len0).map f).length = len0 := by simp
    refine ⟨some A, cap0, (List.range len0).map f, by rw [hll], fun j u hu => ?_⟩
    have hjl : j < len0 * 7 := by
      have := (List.getElem?_eq_some_iff.1 hu).1
      rw [flatWt_len, hll] at this
      exact this
    have hi : j / 7 < len0 := by omega
    have hm : j % 7 < 7 := Nat.mod_lt _ (by decide)
    have hat' := flatWt_at ((List.range len0).map f) (j / 7) (by rw [hll]; exact hi) (j % 7) hm
    rw [show j / 7 * 7 + j % 7 = j by omega, hu] at hat'
    have e : atW ((List.range len0).map f) (j / 7) = f (j / 7) := by simp [atW, hi]
    rw [e] at hat'
    obtain ⟨h1, h2, h3⟩ := hfs (j / 7) hi (j % 7) u hat'.symm
    rw [show j / 7 * 7 + j % 7 = j by omega] at h3
    obtain ⟨b, off, spot⟩ := A
    simp only at h1
    subst h1
    exact ⟨b, off, rfl, h2, h3⟩

end
end Go.Proofs.YthfndphngeaihaaDoor
