/- PathWith, walked. -/
import Derived.Test.YtkbnglcpcehaiaaDoorZPtR
namespace Go.Proofs.YtkbnglcpcehaiaaDoor
open Go Go.RowKit Go.Shelf
set_option linter.unusedSimpArgs false
set_option linter.unusedVariables false
set_option maxRecDepth 100000

set_option maxHeartbeats 16000000 in
theorem pathWith_long (bk : Bool) (a : Option Addr) (c : Nat) (xs : List Cr) (x : Cr) (w : World) (hcap : xs.length ≤ c) (hr : RdX w w.heap.size a xs) (ht : TabW w) (hbig : xs.length ≤ 140737488351232) (h100 : 100 < xs.length) :
    Calls Tryd.prog 3 #[.agg #[.bool bk, .slice a xs.length c], .agg #[.int .u32 x.1.toNat, .bool x.2]] w fun e w' => e = .returned (.bool true) ∧ Below w.heap.size w w' := by
  obtain ⟨W, hW⟩ : ∃ W, W = (w.alloc (.cells #[.bool bk, .slice a xs.length c] 24)).alloc (.cells #[.int .u32 x.1.toNat, .bool x.2] 27) := ⟨_, rfl⟩
  have HB0 : Hid (Below w.heap.size w W) := by rw [hW]; exact below_al (below_al (Below.refl _ _) _) _
  have HS : Hid (∀ w', Below W.heap.size W w' → ((w'.cell? ⟨w.heap.size, 0, none⟩ = some (.bool bk) ∧ w'.cell? ⟨w.heap.size, 1, none⟩ = some (.slice a xs.length c)) ∧ (w'.cell? ⟨w.heap.size + 1, 0, none⟩ = some (.int .u32 x.1.toNat) ∧ w'.cell? ⟨w.heap.size + 1, 1, none⟩ = some (.bool x.2)))) := fun w' h => by
    rw [hW] at h
    have h1 := below_on (below_al (Below.refl _ (w.alloc (.cells #[.bool bk, .slice a xs.length c] 24))) (.cells #[.int .u32 x.1.toNat, .bool x.2] 27)) h
    have q1 := box_at h 0
    have q2 := box_at h 1
    rw [World.size_alloc] at q1 q2
    exact ⟨⟨box_at h1 0, box_at h1 1⟩, q1, q2⟩
  have HT : Hid (∀ w', Below W.heap.size W w' → TabW w') := fun w' h => (ht.on HB0.out).on h
  have HR : Hid (∀ w', Below W.heap.size W w' → RdX w' w'.heap.size a xs) := fun w' h => (hr.on HB0.out).on h
  have HRl : Hid (∀ w', Below W.heap.size W w' → RdX w' w.heap.size a xs) := fun w' h => hr.below (HB0.out.trans (h.mono HB0.out.size))
  have HW := Lib.hid hW
  clear hW ht hr
  obtain ⟨⟨x0, x1⟩, x2, x3⟩ := HS.out W (Below.refl _ _)
  clear x0 x1 x2 x3
  obtain ⟨⟨x0, x1⟩, x2, x3⟩ := HS.out W (Below.refl _ _)
  go_enter Tryd.func3, Tryd.ntmps3
  go_wp2_with fail
  rw [← HW.out]
  refine (ptWorks_any W (HT.out W (Below.refl _ _))).mono ?_
  rintro e w1 ⟨rfl, hb⟩
  have HB1 := Lib.hid hb
  clear hb
  go_wp2
  go_ret
  exact ⟨rfl, HB0.out.trans (HB1.out.mono HB0.out.size)⟩

end Go.Proofs.YtkbnglcpcehaiaaDoor
