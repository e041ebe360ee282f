/- Joined texts. -/
import Derived.Test.YteldifnkeekafaaGreatDoorZJa
import Derived.ProofKit
import Derived.OpenShut
import Derived.ChangeOld
import Derived.SizedLaws
set_option maxRecDepth 100000
namespace Go.Proofs.YteldifnkeekafaaGreatDoor
open Go.ChangeShapes Go.WideShapes Go.ChangeAt Go.RowKit

theorem lawLaid : laidOutB Tryz.prog = true := by kernel_rfl
theorem bytes_u8 : Tryz.prog.bytesOf 5 = 1 := by kernel_rfl

theorem wf_u8 {n : Int} (h : (Lit.int .u8 n).wf = true) : 0 ≤ n ∧ n < 256 := by
 simp [Lit.wf, IntKind.min, IntKind.max, IntKind.signed, IntKind.bits] at h
 omega

def ofNums (zs : List Int) : List UInt8 := zs.map fun z => UInt8.ofNat z.toNat

theorem byteAt_ofNums (zs : List Int) (hz : ∀ z ∈ zs, 0 ≤ z ∧ z < 256) (j : Nat) (hj : j < zs.length) : byteAt (ofNums zs) j = zs.getD j 0 := by
 have h := hz zs[j] (List.getElem_mem hj)
 simp only [byteAt, ofNums, List.getElem?_map, List.getElem?_eq_getElem hj, Option.map_some, Option.getD_some, UInt8.toNat_ofNat', List.getD]
 omega

section
variable {H : Type} {enc : TypeId × Value → H} {W : World} {base : Nat}

theorem open_bytes {ts : List TypeId} {ds : List (DataW H)} {jn : Nat} {v : Value} {d : DataW H} {p : List MemPlace} (hv : Value.okWide Tryz.prog W .any base 22 v)
  (hd : DataW.Trod enc Tryz.prog W 0 (fun _ => true) true 22 v d p) (hlt : ∀ x ∈ p, x.block < W.heap.size)
  (hsz : (DataW.weightsEach Tryz.prog ts ds).all (· ≤ reachBytes) = true) (ht : ts[jn]? = some 22) (hdj : ds[jn]? = some d) :
  ∃ a c bs, v = .slice a (List.length bs) c ∧ bs.length ≤ c ∧ bs.length ≤ 140737488351232 ∧ RdB W W.heap.size a bs := by
 obtain ⟨a0, len, cap, rfl⟩ := okWide_slice Tryz.underlying22 hv
 obtain ⟨fuel, hf⟩ := hd
 rcases open_ints Tryz.underlying22 Tryz.underlying5 (by kernel_rfl) hf with ⟨hcs, hx⟩ | ⟨x, l, c, zs, hcs, _, hl, hm, hz, hx, hcell, hwz⟩
 ·simp [Value.cells] at hcs
  obtain ⟨rfl, rfl, rfl⟩ := hcs
  exact ⟨none, 0, [], rfl, Nat.le_refl _, by simp, RdB.nil _ _ _⟩
 ·simp [Value.cells] at hcs
  obtain ⟨rfl, rfl, rfl⟩ := hcs
  simp only [Prod.mk.injEq] at hx
  obtain ⟨rfl, rfl⟩ := hx
  simp only [if_true] at hz
  have hreach : len ≤ 140737488351232 := by
   have := sized_slice hsz (j := jn) (t := 22) (e := 5) ht hdj Tryz.underlying22
   rw [bytes_u8] at this
   simp only [lits, List.length_map, List.length_take, List.length_drop, reachBytes] at this
   omega
  have hbl : (ofNums (zs.take len)).length = len := by simp [ofNums]; omega
  refine ⟨some x, cap, ofNums (zs.take len), by rw [hbl], by rw [hbl]; exact hl, by rw [hbl]; exact hreach, ?_⟩
  by_cases hl0 : len = 0
  ·exact .inl (List.eq_nil_of_length_eq_zero (by rw [hbl]; exact hl0))
  ·obtain ⟨b, off, spot⟩ := x
   have hspot : spot = none := by simpa [Addr.add] using World.cell?_spot (hcell 0 (by omega))
   subst hspot
   have hbW : b < W.heap.size := hlt (.cell b off) (MemPlace.mem_row.2 ⟨0, by omega, by simp⟩)
   refine .inr ⟨b, off, rfl, hbW, fun j hj => ?_⟩
   rw [hbl] at hj
   have h1 := hcell j (by omega)
   rw [mk_addr_add] at h1
   rw [h1, byteAt_ofNums _ (fun z hz' => wf_u8 (hwz z (List.mem_of_mem_take hz'))) j (by simp; omega)]
   simp [List.getD, hj]

end

end Go.Proofs.YteldifnkeekafaaGreatDoor
