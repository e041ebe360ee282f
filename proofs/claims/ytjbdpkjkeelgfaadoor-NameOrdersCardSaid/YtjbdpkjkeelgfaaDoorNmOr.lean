/- Package name's Order. -/
import Derived.Test.YtjbdpkjkeelgfaaDoorNmO
namespace Go.Proofs.YtjbdpkjkeelgfaaDoor
open Go Go.RowKit Go.Shelf Go.Sort
set_option linter.unusedSimpArgs false
set_option linter.unusedVariables false

set_option maxRecDepth 100000 in
set_option maxHeartbeats 4000000 in
theorem nmOrder_any (a0 a1 a2 a3 b0 b1 b2 b3 : Int) (ha : N32 a0 ∧ N32 a1 ∧ N32 a3) (hb : N32 b0 ∧ N32 b1 ∧ N32 b3) (w : World) :
    Calls Tryd.prog 33 #[.agg #[.int .u32 a0, .int .u32 a1, .int .u64 a2, .int .u32 a3], .agg #[.int .u32 b0, .int .u32 b1, .int .u64 b2, .int .u32 b3]] w fun e w' => e = .returned (.int .i64 (ordN (a0, a1, a2, a3) (b0, b1, b2, b3))) ∧ GrownQ w w' := by
  obtain ⟨W, hW⟩ : ∃ W, W = (w.alloc (.cells #[.int .u32 a0, .int .u32 a1, .int .u64 a2, .int .u32 a3] 47)).alloc (.cells #[.int .u32 b0, .int .u32 b1, .int .u64 b2, .int .u32 b3] 47) := ⟨_, rfl⟩
  have HG : Hid (GrownQ w W) := by rw [hW]; exact ((GrownQ.refl w).alloc _).alloc _
  have hs : W.heap.size = w.heap.size + 2 := by rw [hW]; simp
  have c0 : W.cell? ⟨w.heap.size, 0, none⟩ = some (.int .u32 a0) := by rw [hW]; simp
  have c1 : W.cell? ⟨w.heap.size, 1, none⟩ = some (.int .u32 a1) := by rw [hW]; simp
  have c2 : W.cell? ⟨w.heap.size, 2, none⟩ = some (.int .u64 a2) := by rw [hW]; simp
  have c3 : W.cell? ⟨w.heap.size, 3, none⟩ = some (.int .u32 a3) := by rw [hW]; simp
  have d0 : W.cell? ⟨w.heap.size + 1, 0, none⟩ = some (.int .u32 b0) := by rw [hW]; simp
  have d1 : W.cell? ⟨w.heap.size + 1, 1, none⟩ = some (.int .u32 b1) := by rw [hW]; simp
  have d2 : W.cell? ⟨w.heap.size + 1, 2, none⟩ = some (.int .u64 b2) := by rw [hW]; simp
  have d3 : W.cell? ⟨w.heap.size + 1, 3, none⟩ = some (.int .u32 b3) := by rw [hW]; simp
  have HO := Lib.hid (orderf_any a0 a1 a2 a3 b0 b1 b2 b3 ha hb)
  have HW := Lib.hid hW
  have HS := Lib.hid hs
  clear hW ha hb hs
  go_enter Tryd.func33, Tryd.ntmps33
  go_wp2_with fail
  rw [← HW.out]
  have e2 : w.heap.size + 1 + 1 = W.heap.size := HS.out.symm
  rw [e2]
  clear e2
  refine (HO.out W.heap.size _ (by simp) ?_).mono ?_
  · rintro w' rfl
    exact ⟨by simp, by simp, by simp, by simp⟩
  · rintro e w1 ⟨rfl, hg⟩
    have HG1 := Lib.hid (((HG.out.alloc _)).trans hg)
    clear hg c0 c1 c2 c3 d0 d1 d2 d3
    go_wp2
    go_ret
    exact ⟨rfl, HG1.out⟩

end Go.Proofs.YtjbdpkjkeelgfaaDoor
