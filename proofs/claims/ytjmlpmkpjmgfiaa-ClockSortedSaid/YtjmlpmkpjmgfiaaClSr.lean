/- clock.Sorted. -/
import Derived.Test.YtjmlpmkpjmgfiaaClSS
namespace Go.Proofs.Ytjmlpmkpjmgfiaa
open Go.RowKit Go.Shelf Go.Sort
set_option linter.unusedSimpArgs false
set_option linter.unusedVariables false

set_option maxHeartbeats 1000000 in
theorem deleteNone_any (c : Nat) (w : World) :
    Calls Try.prog 15 #[.slice none 0 c, .func (.func 17) #[] #[]] w fun e w' => e = .returned (.slice none 0 c) ∧ Below w.heap.size w w' := by
  have HI := Lib.hid (indexFunc_any none c [] w (by simp) (.inl rfl))
  go_enter Try.func15, Try.ntmps15
  go_wp2_with fail
  refine HI.out.mono ?_
  rintro e w1 ⟨⟨rfl, hA⟩ | ⟨k, hk, rfl, hA, hn⟩, hb1⟩
  · clear hA
    go_wp2
    go_ret
    exact ⟨rfl, hb1⟩
  · exact absurd hk (by simp)

/-- The spans in order, in new memory, and the way over them. -/
def SortedP (w : World) (ss : List (Int × Int)) (e : Ending) (w' : World) : Prop :=
  ∃ Ns A' C', e = .returned (.func (.func 21) #[] #[.pointer (some ⟨Ns, 0, none⟩)]) ∧ w'.cell? ⟨Ns, 0, none⟩ = some (.slice A' (sortS (ss.filter riS)).length C') ∧ (w.heap.size ≤ Ns ∧ Ns < w'.heap.size) ∧
    RdS w' w'.heap.size A' (sortS (ss.filter riS)) ∧ (∀ p, A' = some p → w.heap.size ≤ p.block ∧ p.block < w'.heap.size) ∧ Below w.heap.size w w'

set_option maxRecDepth 100000 in
set_option maxHeartbeats 2000000 in
theorem sorted_any (A : Option Addr) (C : Nat) (ss : List (Int × Int)) (w : World) (hlen : ss.length ≤ 1000000) (hr : RdS w w.heap.size A ss) :
    Calls Try.prog 6 #[.slice A ss.length C] w (SortedP w ss) := by
  have hmf : ∀ (fn : Fn) (first cap : Array Value) (w : World), (Instr.makeFunc fn first cap).run Try.prog w = .ok (.func fn first cap) w := fun _ _ _ _ => rfl
  have HCl := Lib.hid (sclone_any A C ss w hlen hr)
  clear hr
  go_enter Try.func6, Try.ntmps6
  go_wp2_with fail
  refine HCl.out.mono ?_
  rintro e w1 ⟨A', C', rfl, hC, (⟨rfl, rfl⟩ | ⟨g, rfl, hg1, hg2, hrow⟩), hb1⟩
  · have HB1 := Lib.hid hb1
    clear hb1
    go_wp2_with fail
    refine (deleteNone_any C' w1).mono ?_
    rintro e w2 ⟨rfl, hb2⟩
    have HB2 := Lib.hid (HB1.out.trans (hb2.mono HB1.out.size))
    clear hb2
    go_wp2_with fail
    refine (sortNone_any _ _ _ _).mono ?_
    rintro e w3 ⟨rfl, rfl⟩
    go_wp2
    go_ret
    refine ⟨w2.heap.size, none, C', rfl, by simp [sortS], ⟨HB2.out.size, by simp⟩, .inl (by simp [sortS]), fun p h => (by cases h), below_al HB2.out _⟩
  · have HB1 := Lib.hid hb1
    have hz1 := hb1.size
    have HD := Lib.hid (deleteFunc_any g 0 C' w.heap.size ss w1 (by omega) hC hg1 hg2 hrow)
    clear hb1 hrow
    go_wp2_with fail
    refine HD.out.mono ?_
    rintro e w2 ⟨rfl, hrow2, hb2⟩
    have hz2 := hb2.size
    obtain ⟨ms, hms⟩ : ∃ ms, ms = ss.filter riS := ⟨_, rfl⟩
    have hml : ms.length ≤ ss.length := by rw [hms]; exact List.length_filter_le _ _
    rw [← hms] at hrow2
    have HMS := Lib.hid hms
    rw [← hms]
    have HB2 := Lib.hid (HB1.out.trans hb2)
    have hrow3 : RowS (w2.alloc (.cells #[.slice (some ⟨g, 0, none⟩) ms.length C'] 22)) g 0 ms := hrow2.kept (by rw [Below.heap_alloc _ _ _ (by omega)])
    have HS := Lib.hid (sortFunc_any g 0 C' ms (w2.alloc (.cells #[.slice (some ⟨g, 0, none⟩) ms.length C'] 22)) (by omega) (by simp; omega) hrow3)
    have hc2 : (w2.alloc (.cells #[.slice (some ⟨g, 0, none⟩) ms.length C'] 22)).cell? ⟨w2.heap.size, 0, none⟩ = some (.slice (some ⟨g, 0, none⟩) ms.length C') := by simp
    have HC2 := Lib.hid hc2
    clear hb2 hrow2 hrow3 hms hc2
    go_wp2_with fail
    refine HS.out.mono ?_
    rintro e w3 ⟨rfl, hrow4, hg4⟩
    have HR4 := Lib.hid hrow4
    have HG4 := Lib.hid hg4
    clear hrow4 hg4
    go_wp2
    go_ret
    have hz4 := HG4.out.size
    rw [World.size_alloc] at hz4
    have hc4 := HG4.out.cell HC2.out (by simp; omega)
    unfold SortedP
    rw [← HMS.out]
    refine ⟨w2.heap.size, some ⟨g, 0, none⟩, C', rfl, by rw [sortS_length]; exact hc4, ⟨HB2.out.size, by omega⟩, HR4.out.rd (B := w3.heap.size) (by omega), fun p h => (by cases h; exact ⟨hg1, by show g < _; omega⟩), ?_⟩
    exact (below_al HB2.out _).grown HG4.out (by rw [World.size_alloc]; omega) (fun k e => by cases e; exact hg1)

end Go.Proofs.Ytjmlpmkpjmgfiaa
