/- slices.SortFunc of spans by clock.order, out of the library's own contract; clock.Sorted. -/
import Derived.Test.YtjmlpmkpjmgfiaaClDf
import Derived.Test.YtjmlpmkpjmgfiaaClSo
namespace Go.Proofs.Ytjmlpmkpjmgfiaa
open Go.RowKit Go.Shelf Go.Sort
set_option linter.unusedSimpArgs false
set_option linter.unusedVariables false

def Try.sortS_ren : Go.Shelf.Ren := ⟨fun | 6 => 19 | 15 => 33 | 14 => 32 | 28 => 47 | 29 => 48 | 20 => 39 | 21 => 40 | 22 => 41 | 23 => 42 | 24 => 43 | 25 => 44 | 26 => 45 | 27 => 46 | 46 => 50 | 47 => 51 | 48 => 52 | 49 => 53 | 50 => 54 | 57 => 56 | n => n, fun | 22 => 22 | 24 => 30 | 25 => 41 | 3 => 3 | 39 => 55 | 0 => 0 | 53 => 71 | 55 => 28 | 4 => 4 | 46 => 64 | 45 => 63 | 50 => 68 | 5 => 5 | 9 => 9 | 66 => 74 | 70 => 77 | 76 => 79 | 77 => 80 | n => n, fun | n => n⟩

theorem Try.sortS : Go.Proofs.SlLaysF0.n6 Try.prog Try.sortS_ren := {
  mixed := by kernel_rfl,
  f6 := ⟨Try.f19.name, by decide, Try.func19.trans (congrArg some (by kernel_rfl))⟩,
  f14 := ⟨Try.f32.name, by decide, Try.func32.trans (congrArg some (by kernel_rfl))⟩,
  f15 := Try.func33.trans (congrArg some (by kernel_rfl)),
  f20 := ⟨Try.f39.name, by decide, Try.func39.trans (congrArg some (by kernel_rfl))⟩,
  f21 := ⟨Try.f40.name, by decide, Try.func40.trans (congrArg some (by kernel_rfl))⟩,
  f22 := ⟨Try.f41.name, by decide, Try.func41.trans (congrArg some (by kernel_rfl))⟩,
  f23 := ⟨Try.f42.name, by decide, Try.func42.trans (congrArg some (by kernel_rfl))⟩,
  f24 := ⟨Try.f43.name, by decide, Try.func43.trans (congrArg some (by kernel_rfl))⟩,
  f25 := ⟨Try.f44.name, by decide, Try.func44.trans (congrArg some (by kernel_rfl))⟩,
  f26 := ⟨Try.f45.name, by decide, Try.func45.trans (congrArg some (by kernel_rfl))⟩,
  f27 := ⟨Try.f46.name, by decide, Try.func46.trans (congrArg some (by kernel_rfl))⟩,
  f28 := Try.func47.trans (congrArg some (by kernel_rfl)),
  f29 := Try.func48.trans (congrArg some (by kernel_rfl)),
  f46 := ⟨Try.f50.name, by decide, Try.func50.trans (congrArg some (by kernel_rfl))⟩,
  f47 := Try.func51.trans (congrArg some (by kernel_rfl)),
  f48 := Try.func52.trans (congrArg some (by kernel_rfl)),
  f49 := ⟨Try.f53.name, by decide, Try.func53.trans (congrArg some (by kernel_rfl))⟩,
  f50 := ⟨Try.f54.name, by decide, Try.func54.trans (congrArg some (by kernel_rfl))⟩,
  f57 := ⟨Try.f56.name, by decide, Try.func56.trans (congrArg some (by kernel_rfl))⟩,
  t0 := Try.underlying0,
  a0 := Try.isAgg0,
  z0 := Try.sizeOf0,
  v0 := Try.zeroValue0,
  t3 := Try.underlying3,
  a3 := Try.isAgg3,
  z3 := Try.sizeOf3,
  v3 := Try.zeroValue3,
  t4 := Try.underlying4,
  a4 := Try.isAgg4,
  z4 := Try.sizeOf4,
  v4 := Try.zeroValue4,
  t5 := Try.underlying5,
  a5 := Try.isAgg5,
  z5 := Try.sizeOf5,
  v5 := Try.zeroValue5,
  t9 := Try.underlying9,
  a9 := Try.isAgg9,
  z9 := Try.sizeOf9,
  v9 := Try.zeroValue9,
  t22 := Try.underlying22,
  a22 := Try.isAgg22,
  z22 := Try.sizeOf22,
  v22 := Try.zeroValue22,
  t25 := Try.underlying41,
  a25 := Try.isAgg41,
  z25 := Try.sizeOf41,
  v25 := Try.zeroValue41,
  t39 := Try.underlying55,
  a39 := Try.isAgg55,
  z39 := Try.sizeOf55,
  v39 := Try.zeroValue55,
  t45 := Try.underlying63,
  a45 := Try.isAgg63,
  z45 := Try.sizeOf63,
  v45 := Try.zeroValue63,
  t46 := Try.underlying64,
  a46 := Try.isAgg64,
  z46 := Try.sizeOf64,
  v46 := Try.zeroValue64,
  t50 := Try.underlying68,
  a50 := Try.isAgg68,
  z50 := Try.sizeOf68,
  v50 := Try.zeroValue68,
  t53 := Try.underlying71,
  a53 := Try.isAgg71,
  z53 := Try.sizeOf71,
  v53 := Try.zeroValue71,
  t55 := Try.underlying28,
  a55 := Try.isAgg28,
  z55 := Try.sizeOf28,
  v55 := Try.zeroValue28,
  t66 := Try.underlying74,
  a66 := Try.isAgg74,
  z66 := Try.sizeOf74,
  v66 := Try.zeroValue74,
  t70 := Try.underlying77,
  a70 := Try.isAgg77,
  z70 := Try.sizeOf77,
  v70 := Try.zeroValue77,
  t76 := Try.underlying79,
  a76 := Try.isAgg79,
  z76 := Try.sizeOf79,
  v76 := Try.zeroValue79,
  t77 := Try.underlying80,
  a77 := Try.isAgg80,
  z77 := Try.sizeOf80,
  v77 := Try.zeroValue80 }


/-- Spans in order. -/
def sortS (ss : List (Int × Int)) : List (Int × Int) := ss.mergeSort fun x y => !(ltOf ordS) y x

theorem sortS_length (ss : List (Int × Int)) : (sortS ss).length = ss.length := (List.mergeSort_perm ss _).length_eq

theorem encS_len (x : Int × Int) : (encS x).length = 2 := rfl
theorem encS_one (x : Int × Int) : ∀ v ∈ encS x, v.oneCell' = true := fun v hv => by
  simp [encS] at hv
  rcases hv with rfl | rfl <;> rfl

theorem get_toArray (zs : List (Int × Int)) (j : Nat) (hj : j < zs.length) : zs.toArray[j]! = (fAt zs j, uAt zs j) := by
  rw [getElem!_pos zs.toArray j (by simpa using hj)]
  simp [fAt, uAt, List.getElem?_eq_getElem hj]

theorem RowS.holds {w : World} {g o : Nat} {zs : List (Int × Int)} (h : RowS w g o zs) : HoldsK encS 2 w g o zs.toArray := by
  intro t ht
  rw [size_flatK] at ht
  have ht' : t < zs.length * 2 := by simpa using ht
  rw [get_flatK _ _ _ _ ht, get_toArray zs (t / 2) (by omega)]
  obtain ⟨⟨c0, c1⟩, f0, f1⟩ := h (t / 2) (by omega)
  have hm : t % 2 = 0 ∨ t % 2 = 1 := by omega
  rcases hm with hm | hm
  · rw [hm, show o + t = o + t / 2 * 2 by omega]
    exact ⟨c0, f0⟩
  · rw [hm, show o + t = o + t / 2 * 2 + 1 by omega]
    exact ⟨c1, f1⟩

theorem RowS.of_holds {w : World} {g o : Nat} {zs : List (Int × Int)} (h : HoldsK encS 2 w g o zs.toArray) : RowS w g o zs := fun j hj => by
  have h0 := h.cell (i := j) (c := 0) (by simpa using hj) (by omega)
  have h1 := h.cell (i := j) (c := 1) (by simpa using hj) (by omega)
  rw [get_toArray zs j hj] at h0 h1
  exact ⟨⟨h0.1, h1.1⟩, h0.2, h1.2⟩

theorem grown_sortK {w : World} {g o n : Nat} {os : Array Obj} (d : Array (Int × Int)) : w.grownBy (sortWorldK encS 2 w g o n d os) (some g) := by
  unfold sortWorldK putRowK
  refine ⟨rfl, rfl, rfl, by simp, fun k hk hne => ?_⟩
  rw [heap_grow_old _ _ (by simpa using hk)]
  have : g ≠ k := fun e => hne (by rw [e])
  simp [putRow, mapBlock, Sort.ahead, Array.getElem?_modify, this]

theorem sortFunc_any (g o c : Nat) (zs : List (Int × Int)) (w : World) (hlen : zs.length ≤ 140737488355328) (hg : g < w.heap.size) (hr : RowS w g o zs) :
    Calls Try.prog 19 #[.slice (some ⟨g, o, none⟩) zs.length c, .func (.func 20) #[] #[]] w fun e w' =>
      e = .returned (.tuple #[]) ∧ RowS w' g o (sortS zs) ∧ w.grownBy w' (some g) := by
  have hcon := AnyQ.slices_SortFunc_total Try.sortS 2 Try.isAgg30 Try.sizeOf30 encS encS_len encS_one ordS ordS_swo 20 #[] g o c zs.toArray w
    (enters_of Try.func20 (by kernel_rfl) rfl) (order_lays g o zs.toArray.size w) hr.holds hg (by simp; omega) ordS_total
  change Calls Try.prog 19 #[.slice (some ⟨g, o, none⟩) zs.length c, _] w _ at hcon
  refine hcon.mono ?_
  rintro e w' ⟨rfl, n, os, rfl⟩
  refine ⟨rfl, RowS.of_holds ?_, grown_sortK _⟩
  exact holdsK_sortWorldK encS 2 w g o n zs.toArray _ os hg hr.holds (by simp [List.length_mergeSort])

theorem sortNone_any (c : Nat) (p : Option Addr) (fv : Value) (w : World) :
    Calls Try.prog 19 #[.slice p 0 c, fv] w fun e w' => e = .returned (.tuple #[]) ∧ w' = w :=
  AnyF.slices_SortFunc_none Try.sortS p c fv w

end Go.Proofs.Ytjmlpmkpjmgfiaa
