/- Names that came in, as whole numbers; slices of rows of cells that came in. -/
import Derived.Test.YtdnjoohicbdmiaaNmV
import Derived.Test.YtdnjoohicbdmiaaRdV
import Derived.ProofKit
import Derived.OpenShut
import Derived.ChangeOld
import Derived.SizedLaws
namespace Go.Proofs.Ytdnjoohicbdmiaa
open Go.ChangeShapes Go.WideShapes Go.ChangeAt Go.RowKit

set_option maxRecDepth 100000

section
variable {H : Type} {enc : TypeId × Value → H} {W : World}

theorem iep_cells {fuel : Nat} {cs : List Value} {x : DataW H × List MemPlace} (h : DataW.trod enc Try.prog W 0 (fun _ => true) true fuel 37 cs = some x) : ∃ n m : Int, cs = [.int .u32 n, .int .u32 m] := by
  obtain ⟨xs, n, rfl, hx, hlen, hn, hf⟩ := DataW.trod_struct Try.underlying37 h
  have c2 : Try.prog.cellsOf 37 = 2 := by kernel_rfl
  rw [c2] at hlen
  match cs, hlen with
  | [c0, c1], _ =>
  match xs, hn with
  | [x0, x1], _ =>
  have u1 : Try.prog.cellsOf 35 = 1 := by kernel_rfl
  have f0 : DataW.trod enc Try.prog W 0 (fun _ => true) true n 35 [c0] = some x0 := by have h := hf 0 _ rfl; simpa [u1] using h
  have f1 : DataW.trod enc Try.prog W 0 (fun _ => true) true n 35 [c1] = some x1 := by have h := hf 1 _ rfl; simpa [u1] using h
  obtain ⟨k, e0, _, k0⟩ := DataW.trod_int Try.underlying35 f0
  obtain ⟨m, e1, _, k1⟩ := DataW.trod_int Try.underlying35 f1
  simp only [List.cons.injEq, and_true] at e0 e1
  subst e0 e1
  exact ⟨k, m, rfl⟩

theorem iname_cells {fuel : Nat} {cs : List Value} {x : DataW H × List MemPlace} (h : DataW.trod enc Try.prog W 0 (fun _ => true) true fuel 40 cs = some x) : ∃ a : Nm, cs = a.cells := by
  obtain ⟨xs, n, rfl, hx, hlen, hn, hf⟩ := DataW.trod_struct Try.underlying40 h
  have c4 : Try.prog.cellsOf 40 = 4 := by kernel_rfl
  rw [c4] at hlen
  match cs, hlen with
  | [c0, c1, c2, c3], _ =>
  match xs, hn with
  | [x0, x1, x2], _ =>
  have u0 : Try.prog.cellsOf 37 = 2 := by kernel_rfl
  have u1 : Try.prog.cellsOf 38 = 1 := by kernel_rfl
  have u2 : Try.prog.cellsOf 35 = 1 := by kernel_rfl
  have f0 : DataW.trod enc Try.prog W 0 (fun _ => true) true n 37 [c0, c1] = some x0 := by have h := hf 0 _ rfl; simpa [u0] using h
  have f1 : DataW.trod enc Try.prog W 0 (fun _ => true) true n 38 [c2] = some x1 := by have h := hf 1 _ rfl; simpa [u0, u1] using h
  have f2 : DataW.trod enc Try.prog W 0 (fun _ => true) true n 35 [c3] = some x2 := by have h := hf 2 _ rfl; simpa [u0, u1, u2] using h
  obtain ⟨a, b, e0⟩ := iep_cells f0
  obtain ⟨m, e1, _, k1⟩ := DataW.trod_int Try.underlying38 f1
  obtain ⟨q, e2, _, k2⟩ := DataW.trod_int Try.underlying35 f2
  simp only [List.cons.injEq, and_true] at e0 e1 e2
  obtain ⟨rfl, rfl⟩ := e0
  subst e1 e2
  exact ⟨⟨a, b, m, q⟩, rfl⟩


/-- A slice of rows of K cells that came in. -/
theorem open_rows {α : Type} (T ST : TypeId) (K : Nat) (cells : α → List Value) (z : α) (hK : 0 < K) (hcl : ∀ a, (cells a).length = K) (hun : Try.prog.underlying ST = some (.slice T)) (hc : Try.prog.cellsOf T = K)
    (hcell : ∀ {fuel : Nat} {cs : List Value} {x : DataW H × List MemPlace}, DataW.trod enc Try.prog W 0 (fun _ => true) true fuel T cs = some x → ∃ a : α, cs = cells a)
    {base : Nat} {v : Value} {d : DataW H} {p : List MemPlace} (hv : Value.okWide Try.prog W .any base ST v) (hd : DataW.Trod enc Try.prog W 0 (fun _ => true) true ST v d p) :
    ∃ a c xs, v = .slice a (List.length xs) c ∧ RdV W a (xs.flatMap cells) := by
  obtain ⟨a0, len0, cap0, rfl⟩ := okWide_slice hun hv
  obtain ⟨fuel, hf⟩ := hd
  simp only [Value.cells] at hf
  have hflat : ∀ (ns : List α) (k : Nat), k < ns.length → ∀ (i : Nat), i < K → (ns.flatMap cells)[k * K + i]? = (cells (ns[k]?.getD z))[i]? := by
    intro ns
    induction ns with
    | nil => intro k h; simp at h
    | cons y r ih =>
      intro k h i hi
      cases k with
      | zero =>
        rw [Nat.zero_mul, Nat.zero_add, List.flatMap_cons, List.getElem?_append_left (by rw [hcl]; exact hi)]
        rfl
      | succ k =>
        have := ih k (by simpa using h) i hi
        rw [List.flatMap_cons, List.getElem?_append_right (by rw [hcl, Nat.succ_mul]; omega), hcl, show (k + 1) * K + i - K = k * K + i by rw [Nat.succ_mul]; omega, this]
        rfl
  have hfl : ∀ ns : List α, (ns.flatMap cells).length = ns.length * K := by
    intro ns
    induction ns with
    | nil => simp
    | cons y r ih => rw [List.flatMap_cons, List.length_append, ih, hcl, List.length_cons, Nat.succ_mul, Nat.add_comm]
  rcases DataW.trod_slice hun hf with ⟨e4, _⟩ | ⟨A, len, cap, elems, rest, n', rfl, e4, hx, _, hl, hle, hel, hat, _, _⟩
  · simp at e4
    obtain ⟨rfl, rfl, rfl⟩ := e4
    exact ⟨none, 0, [], rfl, fun j u hu => by simp at hu⟩
  · simp at e4
    obtain ⟨rfl, rfl, rfl⟩ := e4
    rw [hc] at hat
    have hA : 0 < len0 → A.spot = none ∧ A.block < W.heap.size := by
      intro h0
      have h := hat 0 h0
      rw [List.getElem?_eq_getElem (by omega), Option.bind_eq_some_iff] at h
      obtain ⟨csi, hcs, _⟩ := h
      obtain ⟨_, hcl', hcc⟩ := World.cells?_some hcs
      obtain ⟨b, off, spot⟩ := A
      have q0 := hcc 0 (by omega)
      obtain ⟨y, hy⟩ : ∃ y, csi[0]? = some y := ⟨_, List.getElem?_eq_getElem (by omega)⟩
      rw [hy] at q0
      have e0 : ((⟨b, off, spot⟩ : Addr).add (0 * K)).add 0 = ⟨b, off, spot⟩ := by simp [Addr.add]
      rw [e0] at q0
      exact ⟨World.cell?_spot q0, World.block_lt_of_cell? W _ q0⟩
    have hex : ∀ i, ∃ x : α, i < len0 → ∀ j u, (cells x)[j]? = some u → A.spot = none ∧ A.block < W.heap.size ∧ W.cell? ⟨A.block, A.off + (i * K + j), none⟩ = some u := by
      intro i
      by_cases hi : i < len0
      · have h := hat i hi
        rw [List.getElem?_eq_getElem (by omega), Option.bind_eq_some_iff] at h
        obtain ⟨csi, hcs, ht⟩ := h
        obtain ⟨_, _, hcc⟩ := World.cells?_some hcs
        obtain ⟨x, rfl⟩ := hcell ht
        refine ⟨x, fun _ j u hu => ?_⟩
        have hj : j < K := by
          have := (List.getElem?_eq_some_iff.1 hu).1
          rwa [hcl] at this
        have q := hcc j hj
        rw [hu] at q
        obtain ⟨hsp, hbl⟩ := hA (by omega)
        obtain ⟨b, off, spot⟩ := A
        simp only at hsp
        subst hsp
        rw [mk_addr_add, mk_addr_add, Nat.add_assoc] at q
        exact ⟨rfl, hbl, q⟩
      · exact ⟨z, fun h => absurd h hi⟩
    let f : Nat → α := fun i => (hex i).choose
    have hfs := fun i => (hex i).choose_spec
    have hll : ((List.range len0).map f).length = len0 := by simp
    refine ⟨some A, cap0, (List.range len0).map f, by rw [hll], fun j u hu => ?_⟩
    have hjl : j < len0 * K := by
      have := (List.getElem?_eq_some_iff.1 hu).1
      rw [hfl, hll] at this
      exact this
    have hi : j / K < len0 := (Nat.div_lt_iff_lt_mul hK).2 hjl
    have hm : j % K < K := Nat.mod_lt _ hK
    have hjj : j / K * K + j % K = j := Nat.div_add_mod' j K
    have hat' := hflat ((List.range len0).map f) (j / K) (by rw [hll]; exact hi) (j % K) hm
    rw [hjj, hu] at hat'
    have e : ((List.range len0).map f)[j / K]?.getD z = f (j / K) := by simp [hi]
    rw [e] at hat'
    obtain ⟨h1, h2, h3⟩ := hfs (j / K) hi (j % K) u hat'.symm
    rw [hjj] at h3
    obtain ⟨b, off, spot⟩ := A
    simp only at h1
    subst h1
    exact ⟨b, off, rfl, h2, h3⟩

end
end Go.Proofs.Ytdnjoohicbdmiaa
