/- Package name's NameItem. -/
import Derived.Test.YtjbdpkjkeelgfaaDoorNmI2
namespace Go.Proofs.YtjbdpkjkeelgfaaDoor
open Go Go.RowKit Go.Shelf
set_option linter.unusedSimpArgs false
set_option linter.unusedVariables false
set_option maxRecDepth 100000

theorem nitem_no (n m t q : Nat) (h : ¬ (0 < n ∧ t ≤ forever)) (w : World) :
    Calls Tryd.prog 21 #[.agg #[.int .u32 n, .int .u32 m, .int .u64 t, .int .u32 q]] w fun e w' => e = .returned (.tuple #[noneV, .int .i64 2]) ∧ Below w.heap.size w w' := by
  have HC := Lib.hid (fun w => cname_no (n : Int) m t q (by have e : forever = 4611686018427387903 := rfl; omega) w)
  clear h
  go_enter Tryd.func21, Tryd.ntmps21
  go_wp2_with fail
  refine (HC.out _).mono ?_
  rintro e w1 ⟨rfl, hb1⟩
  have hs1 := hb1.size
  simp at hs1
  have HB := Lib.hid (below_on (below_al (below_al (Below.refl w.heap.size w) (.cells #[.int .u32 n, .int .u32 m, .int .u64 t, .int .u32 q] 47)) (.cells #[.int .i64 0, .int .u64 0, .slice none 0 0, .string ⟨#[]⟩, .slice none 0 0] 33)) hb1)
  have g1 : ∀ i : Nat, w1.cell? ⟨w.heap.size + 1, i, none⟩ = (#[Value.int .i64 0, .int .u64 0, .slice none 0 0, .string ⟨#[]⟩, .slice none 0 0])[i]? := fun i => by
    refine (hb1.cell (p := ⟨w.heap.size + 1, i, none⟩) (by simp)).trans ?_
    rw [← World.size_alloc w (.cells #[.int .u32 n, .int .u32 m, .int .u64 t, .int .u32 q] 47), World.cell?_alloc_mark]
  have gf : ∀ i : Nat, w1.frozen? ⟨w.heap.size + 1, i, none⟩ = false := fun i => by
    refine (hb1.frozen (p := ⟨w.heap.size + 1, i, none⟩) (by simp)).trans ?_
    rw [← World.size_alloc w (.cells #[.int .u32 n, .int .u32 m, .int .u64 t, .int .u32 q] 47)]
    exact World.frozen?_alloc_new _ _ _ _
  clear hb1
  have d0 := g1 0
  have d1 := g1 1
  have d2 := g1 2
  have d3 := g1 3
  have d4 := g1 4
  simp at d0 d1 d2 d3 d4
  have f0 := gf 0
  have f1 := gf 1
  have f2 := gf 2
  have f3 := gf 3
  have f4 := gf 4
  clear g1 gf
  go_wp2
  obtain ⟨q0, q1, q2, q3, q4⟩ := setI_cells d0 d1 d2 d3 d4 (.int .i64 0) (.int .u64 0) (.slice none 0 0) (.string ⟨#[]⟩) (.slice none 0 0)
  have HB2 := Lib.hid (setI_on (g := w.heap.size + 1) HB.out (by omega) (.int .i64 0) (.int .u64 0) (.slice none 0 0) (.string ⟨#[]⟩) (.slice none 0 0))
  unfold setI at q0 q1 q2 q3 q4 HB2
  exact bodyPost_ret (v := .tuple #[noneV, .int .i64 2]) (by simp [noneV, results, Tryd.results21, go_sem, q0, q1, q2, q3, q4]) rfl ⟨rfl, HB2.out⟩

end Go.Proofs.YtjbdpkjkeelgfaaDoor
