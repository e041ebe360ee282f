/- Walks over items: ref Depth. -/
import Derived.Test.YtncemmhbbkpieaaDoorCbB
namespace Go.Proofs.YtncemmhbbkpieaaDoor
open Go.RowKit Go.Shelf

theorem max_cast (a b : Nat) : (if a < b then (b : Int) else (a : Int)) = ((max a b : Nat) : Int) := by
  split <;> omega

set_option maxRecDepth 100000 in
set_option maxHeartbeats 2000000 in
theorem depth_any : ∀ (x : It) (v : Value) (w : World), x.depth ≤ 1000000 → ItV w w.heap.size v x →
    Calls Tryd.prog 22 #[v] w fun e w' => e = .returned (.int .i64 x.depth) ∧ Below w.heap.size w w' := by
  refine It.ind fun k n b s l ih v w hd hv => ?_
  simp only [ItV] at hv
  obtain ⟨A, ⟨a, c, C, rfl, ⟨hc, hC⟩, hrb, hn, hk, hsb, hss, hsl⟩, hl⟩ := hv
  simp only [Sz] at hsb hss hsl
  simp only [It.depth] at hd
  have HL := Lib.hid hl
  have IH := Lib.hid ih
  clear hrb hl hn hsb hss ih hk
  go_enter Tryd.func22, Tryd.ntmps22
  go_wp2_with fail
  go_loopw [3, 4] (fun d i wr => ∃ j : Nat, j ≤ l.length ∧ i = .int .i64 j ∧ d = .int .i64 (It.depth.depthL (l.take j)) ∧
      Hid (Below (w.alloc (.cells #[.int .i64 k, .int .u64 n, .slice a b.length c, .string ⟨s.toArray⟩, .slice A l.length C] 28)).heap.size (w.alloc (.cells #[.int .i64 k, .int .u64 n, .slice a b.length c, .string ⟨s.toArray⟩, .slice A l.length C] 28)) wr))
    (fun _ i _ => l.length - (intOf i).toNat)
  case atStart => exact ⟨0, Nat.zero_le _, rfl, rfl, Below.refl _ _⟩
  case round =>
    obtain ⟨j, hj, rfl, rfl, HB⟩ := hrel
    have hcell : wr.cell? ⟨w.heap.size, 4, none⟩ = some (.slice A l.length C) := by
      rw [HB.out.cell (by simp)]
      simp
    have hb0 := depthL_take l j
    by_cases hlt : j < l.length
    · obtain ⟨g, o, rfl, hg, hlL⟩ : ∃ g o, A = some ⟨g, o, none⟩ ∧ g < w.heap.size ∧ ItL w w.heap.size g o l := by
        rcases HL.out with rfl | h
        · simp at hlt
        · exact h
      obtain ⟨v5, h5, hv5⟩ := ItL.at hlL (List.getElem?_eq_getElem hlt)
      have hB0 : Below w.heap.size w wr := ((Below.refl _ _).alloc (Nat.le_refl _) _).trans (HB.out.mono (by simp))
      have h5' := h5.below hB0 hg
      obtain ⟨v0, v1, v2, v3, v4, rfl, e0, e1, e2, e3, e4⟩ := h5'
      clear hlL h5
      have HV5 := Lib.hid hv5
      clear hv5
      have hst := depthL_step l j hlt
      have hdm := depthL_mem (List.getElem_mem hlt)
      have HST := Lib.hid hst
      clear hst
      go_wp2_with fail
      refine (IH.out l[j] (List.getElem_mem hlt) _ _ (by omega) (ItV.mono hB0.size _ (ItV.below hB0 _ HV5.out))).mono ?_
      rintro e w1 ⟨rfl, hb1⟩
      have HB1 : Hid (Below (w.alloc (.cells #[.int .i64 k, .int .u64 n, .slice a b.length c, .string ⟨s.toArray⟩, .slice (some ⟨g, o, none⟩) l.length C] 28)).heap.size (w.alloc (.cells #[.int .i64 k, .int .u64 n, .slice a b.length c, .string ⟨s.toArray⟩, .slice (some ⟨g, o, none⟩) l.length C] 28)) w1) := below_on HB.out hb1
      clear hb1 e0 e1 e2 e3 e4 hcell
      go_wp2_with fail
      go_roundw
      case rel => exact ⟨j + 1, by omega, by go_num, by rw [HST.out]; simp only [max_cast], HB1⟩
      case measure => simp [intOf]; omega
    · obtain rfl : j = l.length := by omega
      rw [List.take_length] at hb0 ⊢
      go_wp2_with fail
      go_ret
      exact ⟨by simp [It.depth], ((Below.refl _ _).alloc (Nat.le_refl _) _).trans (HB.out.mono (by simp))⟩

end Go.Proofs.YtncemmhbbkpieaaDoor
