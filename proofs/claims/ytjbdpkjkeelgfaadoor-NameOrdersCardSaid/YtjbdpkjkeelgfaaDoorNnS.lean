/- slices.SortFunc of names by name.Order, out of the library's own contract; name.Sorted. -/
import Derived.Test.YtjbdpkjkeelgfaaDoorNnV
import Derived.Shelf.SlSortCmp.NoneTotal
namespace Go.Proofs.YtjbdpkjkeelgfaaDoor
open Go Go.RowKit Go.Shelf Go.Sort
set_option linter.unusedSimpArgs false
set_option linter.unusedVariables false

/-- The order of names that fit their types. -/
def ordNS (x y : NmS) : Int := x.1.ord y.1

theorem ltNS (x y : NmS) : ltOf ordNS x y = decide (x.1.ord y.1 < 0) := by
  unfold ltOf ordNS
  rfl

theorem ordNS_swo : SWO (ltOf ordNS) where
  irrefl x := by
    rw [ltNS]
    have := (ord_zero (x := x.1) (y := x.1)).2 rfl
    simp [this]
  trans x y z h1 h2 := by
    rw [ltNS] at *
    simp at *
    exact ord_trans h1 h2
  ntrans x y z h1 h2 := by
    rw [ltNS] at *
    simp only [decide_eq_false_iff_not] at *
    rw [ord_neg] at *
    omega

theorem ordNS_total (x y : NmS) (h1 : ltOf ordNS x y = false) (h2 : ltOf ordNS y x = false) : x = y := by
  rw [ltNS] at *
  simp only [decide_eq_false_iff_not] at *
  have h3 := ord_swap x.1 y.1
  have h4 : x.1.ord y.1 = 0 := by omega
  exact Subtype.ext (ord_zero.1 h4)

theorem nmOrder_lays (blk off size : Nat) (w : World) : CmpLays Tryd.prog 33 #[] encN 4 ordNS blk off size w :=
  fun _ _ _ _ x y => nmOrder_any _ _ _ _ _ _ _ _ ⟨⟨by omega, by have := x.2.1.1; omega⟩, ⟨by omega, by have := x.2.1.2; omega⟩, by omega, by have := x.2.2.2; omega⟩ ⟨⟨by omega, by have := y.2.1.1; omega⟩, ⟨by omega, by have := y.2.1.2; omega⟩, by omega, by have := y.2.2.2; omega⟩ _

def Tryd.sortNm_ren : Go.Shelf.Ren := ⟨fun | 6 => 66 | 15 => 84 | 14 => 83 | 28 => 101 | 29 => 102 | 20 => 93 | 21 => 94 | 22 => 95 | 23 => 96 | 24 => 97 | 25 => 98 | 26 => 99 | 27 => 100 | 46 => 110 | 47 => 111 | 48 => 112 | 49 => 113 | 50 => 114 | 57 => 128 | n => n, fun | 22 => 68 | 24 => 47 | 25 => 69 | 3 => 3 | 39 => 123 | 0 => 0 | 53 => 22 | 55 => 29 | 4 => 4 | 46 => 134 | 45 => 133 | 50 => 138 | 5 => 5 | 9 => 9 | 66 => 149 | 70 => 152 | 76 => 166 | 77 => 167 | n => n, fun | n => n⟩

theorem Tryd.sortNm : Go.Proofs.SlLaysF0.n6 Tryd.prog Tryd.sortNm_ren := {
  mixed := by kernel_rfl,
  f6 := ⟨Tryd.f66.name, by decide, Tryd.func66.trans (congrArg some (by kernel_rfl))⟩,
  f14 := ⟨Tryd.f83.name, by decide, Tryd.func83.trans (congrArg some (by kernel_rfl))⟩,
  f15 := Tryd.func84.trans (congrArg some (by kernel_rfl)),
  f20 := ⟨Tryd.f93.name, by decide, Tryd.func93.trans (congrArg some (by kernel_rfl))⟩,
  f21 := ⟨Tryd.f94.name, by decide, Tryd.func94.trans (congrArg some (by kernel_rfl))⟩,
  f22 := ⟨Tryd.f95.name, by decide, Tryd.func95.trans (congrArg some (by kernel_rfl))⟩,
  f23 := ⟨Tryd.f96.name, by decide, Tryd.func96.trans (congrArg some (by kernel_rfl))⟩,
  f24 := ⟨Tryd.f97.name, by decide, Tryd.func97.trans (congrArg some (by kernel_rfl))⟩,
  f25 := ⟨Tryd.f98.name, by decide, Tryd.func98.trans (congrArg some (by kernel_rfl))⟩,
  f26 := ⟨Tryd.f99.name, by decide, Tryd.func99.trans (congrArg some (by kernel_rfl))⟩,
  f27 := ⟨Tryd.f100.name, by decide, Tryd.func100.trans (congrArg some (by kernel_rfl))⟩,
  f28 := Tryd.func101.trans (congrArg some (by kernel_rfl)),
  f29 := Tryd.func102.trans (congrArg some (by kernel_rfl)),
  f46 := ⟨Tryd.f110.name, by decide, Tryd.func110.trans (congrArg some (by kernel_rfl))⟩,
  f47 := Tryd.func111.trans (congrArg some (by kernel_rfl)),
  f48 := Tryd.func112.trans (congrArg some (by kernel_rfl)),
  f49 := ⟨Tryd.f113.name, by decide, Tryd.func113.trans (congrArg some (by kernel_rfl))⟩,
  f50 := ⟨Tryd.f114.name, by decide, Tryd.func114.trans (congrArg some (by kernel_rfl))⟩,
  f57 := ⟨Tryd.f128.name, by decide, Tryd.func128.trans (congrArg some (by kernel_rfl))⟩,
  t0 := Tryd.underlying0,
  a0 := Tryd.isAgg0,
  z0 := Tryd.sizeOf0,
  v0 := Tryd.zeroValue0,
  t3 := Tryd.underlying3,
  a3 := Tryd.isAgg3,
  z3 := Tryd.sizeOf3,
  v3 := Tryd.zeroValue3,
  t4 := Tryd.underlying4,
  a4 := Tryd.isAgg4,
  z4 := Tryd.sizeOf4,
  v4 := Tryd.zeroValue4,
  t5 := Tryd.underlying5,
  a5 := Tryd.isAgg5,
  z5 := Tryd.sizeOf5,
  v5 := Tryd.zeroValue5,
  t9 := Tryd.underlying9,
  a9 := Tryd.isAgg9,
  z9 := Tryd.sizeOf9,
  v9 := Tryd.zeroValue9,
  t22 := Tryd.underlying68,
  a22 := Tryd.isAgg68,
  z22 := Tryd.sizeOf68,
  v22 := Tryd.zeroValue68,
  t25 := Tryd.underlying69,
  a25 := Tryd.isAgg69,
  z25 := Tryd.sizeOf69,
  v25 := Tryd.zeroValue69,
  t39 := Tryd.underlying123,
  a39 := Tryd.isAgg123,
  z39 := Tryd.sizeOf123,
  v39 := Tryd.zeroValue123,
  t45 := Tryd.underlying133,
  a45 := Tryd.isAgg133,
  z45 := Tryd.sizeOf133,
  v45 := Tryd.zeroValue133,
  t46 := Tryd.underlying134,
  a46 := Tryd.isAgg134,
  z46 := Tryd.sizeOf134,
  v46 := Tryd.zeroValue134,
  t50 := Tryd.underlying138,
  a50 := Tryd.isAgg138,
  z50 := Tryd.sizeOf138,
  v50 := Tryd.zeroValue138,
  t53 := Tryd.underlying22,
  a53 := Tryd.isAgg22,
  z53 := Tryd.sizeOf22,
  v53 := Tryd.zeroValue22,
  t55 := Tryd.underlying29,
  a55 := Tryd.isAgg29,
  z55 := Tryd.sizeOf29,
  v55 := Tryd.zeroValue29,
  t66 := Tryd.underlying149,
  a66 := Tryd.isAgg149,
  z66 := Tryd.sizeOf149,
  v66 := Tryd.zeroValue149,
  t70 := Tryd.underlying152,
  a70 := Tryd.isAgg152,
  z70 := Tryd.sizeOf152,
  v70 := Tryd.zeroValue152,
  t76 := Tryd.underlying166,
  a76 := Tryd.isAgg166,
  z76 := Tryd.sizeOf166,
  v76 := Tryd.zeroValue166,
  t77 := Tryd.underlying167,
  a77 := Tryd.isAgg167,
  z77 := Tryd.sizeOf167,
  v77 := Tryd.zeroValue167 }


/-- Names in order. -/
def sortNm (ss : List NmS) : List NmS := ss.mergeSort fun x y => !(ltOf ordNS) y x

theorem sortNm_length (ss : List NmS) : (sortNm ss).length = ss.length := (List.mergeSort_perm ss _).length_eq

theorem encN_len (x : NmS) : (encN x).length = 4 := rfl
theorem encN_one (x : NmS) : ∀ v ∈ encN x, v.oneCell' = true := fun v hv => by
  simp [encN] at hv
  rcases hv with rfl | rfl | rfl | rfl <;> rfl

theorem get_toArrayN (zs : List NmS) (j : Nat) (hj : j < zs.length) : zs.toArray[j]! = atN zs j := by
  rw [getElem!_pos zs.toArray j (by simpa using hj)]
  simp [atN, List.getElem?_eq_getElem hj]

theorem RowN.holds {w : World} {g o : Nat} {zs : List NmS} (h : RowN w g o zs) : HoldsK encN 4 w g o zs.toArray := by
  intro t ht
  rw [size_flatK] at ht
  have ht' : t < zs.length * 4 := by simpa using ht
  rw [get_flatK _ _ _ _ ht, get_toArrayN zs (t / 4) (by omega)]
  obtain ⟨⟨c0, c1, c2, c3⟩, hf⟩ := h (t / 4) (by omega)
  have hm : t % 4 = 0 ∨ t % 4 = 1 ∨ t % 4 = 2 ∨ t % 4 = 3 := by omega
  rcases hm with hm | hm | hm | hm
  · rw [hm, show o + t = o + t / 4 * 4 by omega]
    exact ⟨c0, by first | (simp; done) | exact hf 0 (by decide)⟩
  · rw [hm, show o + t = o + t / 4 * 4 + 1 by omega]
    exact ⟨c1, hf 1 (by decide)⟩
  · rw [hm, show o + t = o + t / 4 * 4 + 2 by omega]
    exact ⟨c2, hf 2 (by decide)⟩
  · rw [hm, show o + t = o + t / 4 * 4 + 3 by omega]
    exact ⟨c3, hf 3 (by decide)⟩

theorem RowN.of_holds {w : World} {g o : Nat} {zs : List NmS} (h : HoldsK encN 4 w g o zs.toArray) : RowN w g o zs := fun j hj => by
  have h0 := h.cell (i := j) (c := 0) (by simpa using hj) (by omega)
  have h1 := h.cell (i := j) (c := 1) (by simpa using hj) (by omega)
  have h2 := h.cell (i := j) (c := 2) (by simpa using hj) (by omega)
  have h3 := h.cell (i := j) (c := 3) (by simpa using hj) (by omega)
  rw [get_toArrayN zs j hj] at h0 h1 h2 h3
  refine ⟨⟨h0.1, h1.1, h2.1, h3.1⟩, fun i hi => ?_⟩
  have : i = 0 ∨ i = 1 ∨ i = 2 ∨ i = 3 := by omega
  rcases this with rfl | rfl | rfl | rfl
  · exact h0.2
  · exact h1.2
  · exact h2.2
  · exact h3.2

theorem grown_sortN {w : World} {g o n : Nat} {os : Array Obj} (d : Array NmS) : w.grownBy (sortWorldK encN 4 w g o n d os) (some g) := by
  unfold sortWorldK putRowK
  refine ⟨rfl, rfl, rfl, by simp, fun k hk hne => ?_⟩
  rw [heap_grow_old _ _ (by simpa using hk)]
  have : g ≠ k := fun e => hne (by rw [e])
  simp [putRow, mapBlock, Sort.ahead, Array.getElem?_modify, this]

theorem sortNames_any (g o c : Nat) (zs : List NmS) (w : World) (hlen : zs.length ≤ 140737488355328) (hg : g < w.heap.size) (hr : RowN w g o zs) :
    Calls Tryd.prog 66 #[.slice (some ⟨g, o, none⟩) zs.length c, .func (.func 33) #[] #[]] w fun e w' =>
      e = .returned (.tuple #[]) ∧ RowN w' g o (sortNm zs) ∧ w.grownBy w' (some g) := by
  have hcon := AnyQ.slices_SortFunc_total Tryd.sortNm 4 Tryd.isAgg47 Tryd.sizeOf47 encN encN_len encN_one ordNS ordNS_swo 33 #[] g o c zs.toArray w
    (enters_of Tryd.func33 (by kernel_rfl) rfl) (nmOrder_lays g o zs.toArray.size w) hr.holds hg (by simp; omega) ordNS_total
  change Calls Tryd.prog 66 #[.slice (some ⟨g, o, none⟩) zs.length c, _] w _ at hcon
  refine hcon.mono ?_
  rintro e w' ⟨rfl, n, os, rfl⟩
  refine ⟨rfl, RowN.of_holds ?_, grown_sortN _⟩
  exact holdsK_sortWorldK encN 4 w g o n zs.toArray _ os hg hr.holds (by simp [List.length_mergeSort])

theorem sortNoneN_any (c : Nat) (p : Option Addr) (fv : Value) (w : World) :
    Calls Tryd.prog 66 #[.slice p 0 c, fv] w fun e w' => e = .returned (.tuple #[]) ∧ w' = w :=
  AnyF.slices_SortFunc_none Tryd.sortNm p c fv w

/-- The names in order, in new memory, and the way over them. -/
def SortedN (w : World) (ss : List NmS) (e : Ending) (w' : World) : Prop :=
  ∃ Ns A' C', e = .returned (.func (.func 67) #[] #[.pointer (some ⟨Ns, 0, none⟩)]) ∧ w'.cell? ⟨Ns, 0, none⟩ = some (.slice A' (sortNm ss).length C') ∧ (w.heap.size ≤ Ns ∧ Ns < w'.heap.size) ∧
    RdNs w' w'.heap.size A' (sortNm ss) ∧ (∀ p, A' = some p → w.heap.size ≤ p.block ∧ p.block < w'.heap.size) ∧ Below w.heap.size w w'

set_option maxRecDepth 100000 in
set_option maxHeartbeats 2000000 in
theorem nsorted_any (A : Option Addr) (C : Nat) (ss : List NmS) (w : World) (hlen : ss.length ≤ 1000000) (hr : RdNs w w.heap.size A ss) :
    Calls Tryd.prog 36 #[.slice A ss.length C] w (SortedN w ss) := by
  have hmf : ∀ (fn : Fn) (first cap : Array Value) (w : World), (Instr.makeFunc fn first cap).run Tryd.prog w = .ok (.func fn first cap) w := fun _ _ _ _ => rfl
  have HCl := Lib.hid (nclone_any A C ss w hlen hr)
  clear hr
  go_enter Tryd.func36, Tryd.ntmps36
  go_wp2_with fail
  refine HCl.out.mono ?_
  rintro e w1 ⟨A', C', rfl, hC, (⟨rfl, rfl⟩ | ⟨g, rfl, hg1, hg2, hrow⟩), hb1⟩
  · have HB1 := Lib.hid hb1
    clear hb1
    go_wp2_with fail
    refine (sortNoneN_any _ _ _ _).mono ?_
    rintro e w3 ⟨rfl, rfl⟩
    go_wp2
    go_ret
    refine ⟨w1.heap.size, none, C', rfl, by simp [sortNm], ⟨HB1.out.size, by simp⟩, .inl (by simp [sortNm]), fun p h => (by cases h), below_al HB1.out _⟩
  · have HB1 := Lib.hid hb1
    have hz1 := hb1.size
    have hrow3 : RowN (w1.alloc (.cells #[.slice (some ⟨g, 0, none⟩) ss.length C'] 68)) g 0 ss := hrow.kept (by rw [Below.heap_alloc _ _ _ (by omega)])
    have HS := Lib.hid (sortNames_any g 0 C' ss (w1.alloc (.cells #[.slice (some ⟨g, 0, none⟩) ss.length C'] 68)) (by omega) (by simp; omega) hrow3)
    have hc2 : (w1.alloc (.cells #[.slice (some ⟨g, 0, none⟩) ss.length C'] 68)).cell? ⟨w1.heap.size, 0, none⟩ = some (.slice (some ⟨g, 0, none⟩) ss.length C') := by simp
    have HC2 := Lib.hid hc2
    clear hb1 hrow hrow3 hc2
    go_wp2_with fail
    refine HS.out.mono ?_
    rintro e w3 ⟨rfl, hrow4, hg4⟩
    have HR4 := Lib.hid hrow4
    have HG4 := Lib.hid hg4
    clear hrow4 hg4
    go_wp2
    go_ret
    have hz4 := HG4.out.size
    rw [World.size_alloc] at hz4
    have hc4 := HG4.out.cell HC2.out (by simp; omega)
    unfold SortedN
    refine ⟨w1.heap.size, some ⟨g, 0, none⟩, C', rfl, by rw [sortNm_length]; exact hc4, ⟨HB1.out.size, by omega⟩, HR4.out.rd (B := w3.heap.size) (by omega), fun p h => (by cases h; exact ⟨hg1, by show g < _; omega⟩), ?_⟩
    exact (below_al HB1.out _).grown HG4.out (by rw [World.size_alloc]; omega) (fun k e => by cases e; exact hg1)

end Go.Proofs.YtjbdpkjkeelgfaaDoor
