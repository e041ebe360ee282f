/- Package disk: Crash, where the truths that came in may be none (XDkI's walk, word for word but for that). -/
import Derived.Test.YtekeooeapiodmaaZDkI
namespace Go.Proofs.Ytekeooeapiodmaa
open Go Go.RowKit Go.Shelf
set_option linter.unusedSimpArgs false
set_option linter.unusedVariables false
set_option maxRecDepth 100000

attribute [local go_sem] Oper.semAt_some

set_option maxHeartbeats 4000000 in
theorem crash2_any (S : Nat → Prop) (p : Nat) (D : DkM) (hok : D.ok) (A : Option Addr) (C : Nat) (l : List Bool) (hl : l.length ≤ 140737488355328) (w : World) (hr : RdT w w.heap.size A l) (hS : l ≠ [] → ∀ q, A = some q → ¬ S q.block) (hSw : ∀ b, S b → b < w.heap.size) (h : DkAt w S p D) :
    Calls Try.prog 23 #[.pointer (some ⟨p, 0, none⟩), .slice A l.length C] w fun e w' => e = .returned (.int .i64 0) ∧ DkAt w' S p (D.crashed l) ∧ ButS w.heap.size S w w' := by
  have hmf : ∀ (fn : Fn) (first cap : Array Value) (w : World), (Instr.makeFunc fn first cap).run Try.prog w = .ok (.func fn first cap) w := fun _ _ _ _ => rfl
  obtain ⟨W, hW⟩ : ∃ W, W = w.alloc (.cells #[.slice A l.length C] 38) := ⟨_, rfl⟩
  have HB0 : Hid (Below w.heap.size w W) := by rw [hW]; exact below_al (Below.refl _ _) _
  have HX : Hid (∀ w' : World, w'.heap[w.heap.size]? = W.heap[w.heap.size]? → w'.cell? ⟨w.heap.size, 0, none⟩ = some (.slice A l.length C)) := fun w' h => by
    rw [World.cell?_of_block (a := ⟨w.heap.size, 0, none⟩) h, hW]
    exact box_at (Below.refl _ _) 0
  have HSW : Hid (w.heap.size < W.heap.size) := by rw [Hid, hW]; simp
  have HZ : Hid (w.heap.size + 1 = W.heap.size) := by rw [Hid, hW]; simp
  have HH := Lib.hid h
  have HO := Lib.hid hok
  have HR := Lib.hid hr
  have HSn := Lib.hid hS
  have HSw := Lib.hid hSw
  have HL := Lib.hid hl
  have HD0 : Hid (DkAt W S p D) := h.on HB0.out
  have HW := Lib.hid hW
  clear h hok hr hS hSw hW hl
  go_enter Try.func23, Try.ntmps23
  go_wp2_with fail
  rw [← HW.out, HZ.out]
  refine (there_at _ _ W HD0.out.n).mono ?_
  rintro e w1 ⟨rfl, hb1⟩
  rw [unE_there HO.out.n1]
  have HB1 := Lib.hid hb1
  have HD1 := Lib.hid (HD0.out.on hb1)
  clear hb1
  go_wp2_with fail
  refine (settle_any S p D HO.out 54 #[] #[.pointer (some ⟨w.heap.size, 0, none⟩)] (keepAt l) (fun b => b = w.heap.size ∨ ∃ q, A = some q ∧ l ≠ [] ∧ b = q.block) w1 (enters_of Try.func54 (by kernel_rfl) rfl) (fun k hk w' hT hsz => ?call) (fun b hb => ?tb) HD1.out).mono ?_
  case call =>
    have h1 := hT _ (.inl rfl)
    have e1 := HB1.out.block w.heap.size HSW.out
    have h2 : RdT w' w'.heap.size A l := by
      rcases HR.out with h | ⟨g, o, e, hg, hc⟩
      · exact .inl h
      · by_cases hn : l = []
        · exact .inl hn
        · have hb := hT g (.inr ⟨_, e, hn, rfl⟩)
          have hb2 : w1.heap[g]? = w.heap[g]? := (HB1.out.block g (by have := HB0.out.size; omega)).trans (HB0.out.block g hg)
          refine .inr ⟨g, o, e, ?_, fun k q hq => (World.cell?_of_block (a := ⟨g, o + k, none⟩) (hb.trans hb2)).trans (hc k q hq)⟩
          have := HB0.out.size
          have := HB1.out.size
          omega
    refine (crash1_any w.heap.size A C l k (by have := HO.out.few; omega) HL.out w' (HX.out w' (h1.trans e1)) h2).mono fun e w'' h => ⟨h.1, by rw [← h.2]; exact Below.refl _ _⟩
  case tb =>
    have h0 := HSW.out
    have h1 := HB1.out.size
    rcases hb with rfl | ⟨q, hq, hn, rfl⟩
    · exact ⟨by omega, fun h => by have := HSw.out _ h; omega⟩
    · refine ⟨?_, HSn.out hn q hq⟩
      rcases HR.out with h | ⟨g, o, e, hg, hc⟩
      · exact absurd h hn
      · rw [hq] at e
        injection e with e
        rw [e]
        show g < _
        omega
  rintro e w2 ⟨rfl, hd2, hb2⟩
  have HB2 : Hid (ButS w.heap.size S w w2) := (ButS.of_below (HB0.out.trans (HB1.out.mono HB0.out.size))).trans (hb2.mono (Nat.le_trans HB0.out.size HB1.out.size) fun _ _ h => h)
  have HD2 := Lib.hid hd2
  obtain ⟨hs, m1, m2, v, hrow⟩ := hd2.row
  have hc := hrow.1 4 _ rfl
  have hf := hrow.2 4
  have HSp := Lib.hid hs
  clear hd2 hb2 hrow hs
  go_wp2_with fail
  go_ret
  exact ⟨rfl, HD2.out.setLeft (-1), HB2.out.set (.inl HSp.out) _ _⟩

end Go.Proofs.Ytekeooeapiodmaa

