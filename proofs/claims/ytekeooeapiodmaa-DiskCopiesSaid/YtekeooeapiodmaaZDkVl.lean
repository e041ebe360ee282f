/- Package disk: Len (of two like ones). -/
import Derived.Test.YtekeooeapiodmaaZDkK
import Derived.Test.YtekeooeapiodmaaZDkM
import Derived.Test.YtekeooeapiodmaaZDkU
namespace Go.Proofs.Ytekeooeapiodmaa
open Go Go.RowKit Go.Shelf
set_option linter.unusedSimpArgs false
set_option linter.unusedVariables false
set_option maxRecDepth 100000

attribute [local go_sem] Oper.semAt_some


theorem len1_any (S : Nat → Prop) (p b : Nat) (D : DkM) (w : World) (h : DkAt w S p D) (h1 : w.cell? ⟨b, 0, none⟩ = some (.pointer (some ⟨p, 0, none⟩))) :
    Calls Try.prog 32 #[.pointer (some ⟨b, 0, none⟩)] w fun e w' => e = .returned (.int .i64 D.n) ∧ w = w' := by
  obtain ⟨_, m1, m2, v, q1⟩ := h.row
  have c0 := q1.1 0 _ rfl
  clear h q1
  go_enter Try.func32, Try.ntmps32
  go_wp2_with fail
  go_ret
  exact ⟨rfl, rfl⟩
theorem ent_len1 : ∀ args w, (callFunc 32 args).run Try.prog w = .ok (.enter 32 args) w := enters_of Try.func32 (by kernel_rfl) rfl

set_option maxHeartbeats 4000000 in
theorem len_any (S : Nat → Prop) (p : Nat) (D : DkM) (hok : D.ok) (w : World) (h : DkAt w S p D) :
    Calls Try.prog 11 #[.pointer (some ⟨p, 0, none⟩)] w fun e w' => e = .returned (.int .i64 D.n) ∧ Below w.heap.size w w' := by
  have hmf : ∀ (fn : Fn) (first cap : Array Value) (w : World), (Instr.makeFunc fn first cap).run Try.prog w = .ok (.func fn first cap) w := fun _ _ _ _ => rfl
  obtain ⟨W, hW⟩ : ∃ W, W = w.alloc (.cells #[.pointer (some ⟨p, 0, none⟩)] 23) := ⟨_, rfl⟩
  have HB0 : Hid (Below w.heap.size w W) := by rw [hW]; exact below_al (Below.refl _ _) _
  have HZ : Hid (w.heap.size + 1 = W.heap.size) := by rw [Hid, hW]; simp
  have HX : Hid (∀ w', Below W.heap.size W w' → w'.cell? ⟨w.heap.size, 0, none⟩ = some (.pointer (some ⟨p, 0, none⟩))) := fun w' h => by rw [hW] at h; exact box_at h 0
  have HO := Lib.hid hok
  have HD0 : Hid (DkAt W S p D) := h.on HB0.out
  have x0 := HX.out W (Below.refl _ _)
  have HW := Lib.hid hW
  rw [hW] at x0
  clear h hok hW
  go_enter Try.func11, Try.ntmps11
  go_wp2_with fail
  rw [← HW.out, HZ.out]
  clear x0
  refine (there_at _ _ W HD0.out.n).mono ?_
  rintro e w1 ⟨rfl, hb1⟩
  rw [unE_there HO.out.n1]
  have HB1 := Lib.hid hb1
  have HD1 := Lib.hid (HD0.out.on hb1)
  have hx1 := HX.out w1 hb1
  clear hb1
  go_wp2_with fail
  refine told_yes2 _ _ _ w1 _ ent_len1 ((len1_any S p w.heap.size D w1 HD1.out hx1).mono ?_)
  rintro e w2 ⟨rfl, rfl⟩
  refine ⟨_, rfl, ?_⟩
  clear hx1
  go_wp2_with fail
  go_ret
  exact ⟨rfl, HB0.out.trans (HB1.out.mono HB0.out.size)⟩


end Go.Proofs.Ytekeooeapiodmaa

