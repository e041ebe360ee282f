/- How a slice of truths that came in is opened. -/
import Derived.Test.YtekeooeapiodmaaZDkY
import Derived.ProofKit
import Derived.OpenShut
import Derived.ChangeOld
import Derived.SizedLaws
import Derived.Carry
namespace Go.Proofs.Ytekeooeapiodmaa
open Go.ChangeShapes Go.WideShapes Go.ChangeAt Go.RowKit

set_option maxRecDepth 100000

theorem dkLaid : laidOutB Try.prog = true := by kernel_rfl
theorem dkOwn : ownKnob Try.prog.godebug = none := by kernel_rfl

section
variable {H : Type} {enc : TypeId × Value → H} {W : World}

theorem wf_b8 {n : Int} (h : (Lit.int .u8 n).wf = true) : ∃ k : UInt8, n = (k.toNat : Int) := by
  simp [Lit.wf, IntKind.min, IntKind.max, IntKind.signed, IntKind.bits] at h
  refine ⟨UInt8.ofNat n.toNat, ?_⟩
  have e : (UInt8.ofNat n.toNat).toNat = n.toNat := by
    rw [UInt8.toNat_ofNat']
    exact Nat.mod_eq_of_lt (by omega)
  rw [e]
  omega

theorem truth_cell {fuel : Nat} {cs : List Value} {x : DataW H × List MemPlace} (h : DataW.trod enc Try.prog W 0 (fun _ => true) true fuel 4 cs = some x) : ∃ b : Bool, cs = [.bool b] := by
  obtain ⟨b, e, _⟩ := DataW.trod_bool Try.underlying4 h
  exact ⟨b, e⟩

/-- Where a slice's first element lies. -/
theorem cells_first {w : World} {base : Nat} {A : Addr} {k : Nat} {cs : List Value} (h : w.cells? base (A.add 0) k = some cs) (hk : 0 < k) : A.spot = none ∧ A.block < w.heap.size := by
  obtain ⟨_, hcl, hcc⟩ := World.cells?_some h
  obtain ⟨b, off, spot⟩ := A
  have q0 := hcc 0 hk
  obtain ⟨y, hy⟩ : ∃ y, cs[0]? = some y := ⟨_, List.getElem?_eq_getElem (by omega)⟩
  rw [hy] at q0
  have e0 : ((⟨b, off, spot⟩ : Addr).add 0).add 0 = ⟨b, off, spot⟩ := by simp [Addr.add]
  rw [e0] at q0
  exact ⟨World.cell?_spot q0, World.block_lt_of_cell? w _ q0⟩
theorem cells_at {w : World} {base : Nat} {A : Addr} {n k : Nat} {cs : List Value} (hs : A.spot = none) (h : w.cells? base (A.add n) k = some cs) : ∀ j v, cs[j]? = some v → w.cell? ⟨A.block, A.off + n + j, none⟩ = some v := by
  obtain ⟨_, hcl, hcc⟩ := World.cells?_some h
  obtain ⟨b, off, spot⟩ := A
  simp only at hs
  subst hs
  intro j v hj
  have hjl : j < cs.length := (List.getElem?_eq_some_iff.1 hj).1
  have q := hcc j (by omega)
  rw [hj, mk_addr_add, mk_addr_add] at q
  exact q

theorem truthsF {fuel : Nat} {v : Value} {d : DataW H} {p : List MemPlace} (hf : DataW.trod enc Try.prog W 0 (fun _ => true) true fuel 38 [v] = some (d, p)) : ∃ a c xs, v = .slice a (List.length xs) c ∧ RdT W W.heap.size a xs := by
  have c2 : Try.prog.cellsOf 4 = 1 := by kernel_rfl
  rcases DataW.trod_slice Try.underlying38 hf with ⟨e4, _⟩ | ⟨A, len, cap, elems, rest, n', rfl, e4, hx, _, hl, hle, hel, hat, _, _⟩
  · simp at e4
    subst e4
    exact ⟨none, 0, [], rfl, .inl rfl⟩
  · simp at e4
    subst e4
    rw [c2] at hat
    have hA : 0 < len → A.spot = none ∧ A.block < W.heap.size := by
      intro h0
      have h := hat 0 h0
      rw [List.getElem?_eq_getElem (by omega), Option.bind_eq_some_iff] at h
      obtain ⟨csi, hcs, _⟩ := h
      exact cells_first (by simpa using hcs) (by decide)
    have hex : ∀ i, ∃ x : Bool, i < len → W.cell? ⟨A.block, A.off + i, none⟩ = some (.bool x) := by
      intro i
      by_cases hi : i < len
      · have h := hat i hi
        rw [List.getElem?_eq_getElem (by omega), Option.bind_eq_some_iff] at h
        obtain ⟨csi, hcs, ht⟩ := h
        obtain ⟨x, rfl⟩ := truth_cell ht
        have h3 := cells_at (hA (by omega)).1 hcs
        exact ⟨x, fun _ => by have h := h3 0 _ rfl; simpa using h⟩
      · exact ⟨false, fun h => absurd h hi⟩
    let f : Nat → Bool := fun i => (hex i).choose
    have hfs := fun i => (hex i).choose_spec
    have hll : ((List.range len).map f).length = len := by simp
    refine ⟨some A, cap, (List.range len).map f, by rw [hll], ?_⟩
    by_cases hl0 : len = 0
    · exact .inl (List.eq_nil_of_length_eq_zero (by rw [hll]; exact hl0))
    · obtain ⟨hsp, hbl⟩ := hA (by omega)
      obtain ⟨b, off, spot⟩ := A
      simp only at hsp
      subst hsp
      refine .inr ⟨b, off, rfl, hbl, fun i x hx => ?_⟩
      have hi : i < len := by have := (List.getElem?_eq_some_iff.1 hx).1; rw [hll] at this; exact this
      have e : x = f i := by simpa [hi] using hx.symm
      subst e
      exact hfs i hi

end
end Go.Proofs.Ytekeooeapiodmaa

