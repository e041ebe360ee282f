/- The document's Shape (for path's texts; out of XNmN2). -/
import Derived.Test.YtkbnglcpcehaiaaDoorZJe
import Derived.BigQuiet
import Derived.Deep.QuietTactic
namespace Go.Proofs.YtkbnglcpcehaiaaDoor
open Go Go.RowKit Go.Shelf
set_option linter.unusedSimpArgs false
set_option linter.unusedVariables false
set_option maxRecDepth 100000

/-- A list of items of these kinds? -/
def shapeB (x : It) (ks : List Int) : Bool := decide (x.k = 4) && (decide (x.l.length = ks.length) && (x.l.map It.k == ks))

theorem shapeB_iff {x : It} {ks : List Int} : shapeB x ks = true ↔ (x.k = 4 ∧ x.l.map It.k = ks) := by
  simp only [shapeB, Bool.and_eq_true, decide_eq_true_eq, beq_iff_eq]
  constructor
  · rintro ⟨h1, _, h3⟩; exact ⟨h1, h3⟩
  · rintro ⟨h1, h3⟩
    exact ⟨h1, by rw [← h3]; simp, h3⟩

/-- A row of kinds. -/
def RdK (w : World) (g : Nat) (ks : List Int) : Prop := g < w.heap.size ∧ ∀ j, j < ks.length → w.cell? ⟨g, j, none⟩ = some (.int .i64 (ks[j]?.getD 0))

theorem RdK.on {w w' : World} {g : Nat} {ks : List Int} (h : RdK w g ks) (hb : Below w.heap.size w w') : RdK w' g ks :=
  ⟨Nat.lt_of_lt_of_le h.1 hb.size, fun j hj => (hb.cell (p := ⟨g, j, none⟩) h.1).trans (h.2 j hj)⟩

set_option maxHeartbeats 8000000 in
theorem shape_ref (x : It) (v : Value) (g n C0 : Nat) (ks : List Int) (hn : n = ks.length) (hk : ks.length ≤ 100) (w : World) (hv : ItV w w.heap.size v x) (hks : RdK w g ks) :
    Calls Tryd.prog 39 #[v, .slice (some ⟨g, 0, none⟩) n C0] w fun e w' => e = .returned (.bool (shapeB x ks)) ∧ Below w.heap.size w w' := by
  subst hn
  obtain ⟨a, c, A, C, rfl⟩ := hv.form
  obtain ⟨hl1, hl0⟩ := hv.list
  obtain ⟨W0, hW0⟩ : ∃ W, W = w.alloc (.cells #[.int .i64 x.k, .int .u64 x.n, .slice a x.b.length c, .string ⟨x.s.toArray⟩, .slice A x.l.length C] 45) := ⟨_, rfl⟩
  have HB : Hid (Below w.heap.size w W0) := by rw [hW0]; exact below_al (Below.refl _ _) _
  have hs0 : w.heap.size < W0.heap.size := by rw [hW0]; simp
  have HC : Hid (∀ w', Below W0.heap.size W0 w' → w'.cell? ⟨w.heap.size, 0, none⟩ = some (.int .i64 x.k) ∧ w'.cell? ⟨w.heap.size, 4, none⟩ = some (.slice A x.l.length C)) := fun w' h => by
    have hh := fun i => (h.cell (p := ⟨w.heap.size, i, none⟩) hs0).trans (by rw [hW0, World.cell?_alloc_mark] : W0.cell? ⟨w.heap.size, i, none⟩ = (#[.int .i64 x.k, .int .u64 x.n, .slice a x.b.length c, .string ⟨x.s.toArray⟩, .slice A x.l.length C])[i]?)
    exact ⟨hh 0, hh 4⟩
  have HL := Lib.hid hl0
  have HK : Hid (∀ w', Below w.heap.size w w' → RdK w' g ks) := fun w' h => hks.on h
  have HW := Lib.hid hW0
  clear hW0 hv hl0 hl1 hks
  obtain ⟨x0, x4⟩ := HC.out W0 (Below.refl _ _)
  by_cases h1 : x.k = 4
  · have H1 := Lib.hid h1
    rw [h1] at HW HC x0 ⊢
    clear h1
    by_cases h2 : x.l.length = ks.length
    · have H2 := Lib.hid h2
      have h2' : ((x.l.length : Int) == (ks.length : Int)) = true := by simp; omega
      have h2'' : (x.l.length : Int) = (ks.length : Int) := by omega
      clear h2
      go_enter Tryd.func39, Tryd.ntmps39
      go_wp2_with fail
      rw [← HW.out]
      clear x0 x4 h2' h2''
      go_loopw [5] (fun i wr => ∃ j : Nat, j ≤ ks.length ∧ i = .int .i64 j ∧ Hid (Below W0.heap.size W0 wr ∧ (x.l.take j).map It.k = ks.take j)) (fun i _ => ks.length - (intOf i).toNat)
      case atStart => exact ⟨0, Nat.zero_le _, rfl, Below.refl _ _, by simp⟩
      case round =>
        obtain ⟨j, hj, rfl, HI⟩ := hrel
        by_cases hlt : j < ks.length
        · have hltx : j < x.l.length := by have := H2.out; omega
          have hBw : Below w.heap.size w wr := HB.out.trans (HI.out.1.mono HB.out.size)
          have hki := (HK.out wr hBw).2 j hlt
          obtain ⟨_, y4⟩ := HC.out wr HI.out.1
          obtain ⟨gx, o, rfl, hg, hlL⟩ : ∃ g o, A = some ⟨g, o, none⟩ ∧ g < w.heap.size ∧ ItL w w.heap.size g o x.l := by
            rcases HL.out with h | h
            · rw [h] at hltx; simp at hltx
            · exact h
          obtain ⟨p1, p2, p3, p4, _, e0, _, _, _, _⟩ := hlL.get (List.getElem?_eq_getElem hltx) hBw hg
          obtain ⟨kx, hkx⟩ : ∃ kx, kx = (x.l[j]).k := ⟨_, rfl⟩
          obtain ⟨kk, hkk⟩ : ∃ kk, kk = ks[j]?.getD 0 := ⟨_, rfl⟩
          rw [← hkx] at e0
          rw [← hkk] at hki
          have hltI : (j : Int) < (x.l.length : Int) := by omega
          have HS : Hid ((x.l.take (j + 1)).map It.k = (x.l.take j).map It.k ++ [kx] ∧ ks.take (j + 1) = ks.take j ++ [kk]) := by
            refine ⟨?_, ?_⟩
            · rw [List.take_succ_eq_append_getElem hltx, List.map_append, hkx]; rfl
            · rw [List.take_succ_eq_append_getElem hlt, hkk, List.getElem?_eq_getElem hlt]; rfl
          have HBw := Lib.hid hBw
          have HIx : Hid (x.l[j]? = some x.l[j]) := List.getElem?_eq_getElem hltx
          have HKJ : Hid (kx = (x.l[j]).k ∧ kk = ks[j]?.getD 0) := ⟨hkx, hkk⟩
          clear hlL hBw hkx hkk
          go_wp2_with fail
          go_quiet (fail)
          by_cases heq : kx = kk
          · subst heq
            go_wp2_with fail
            go_roundw
            case rel => exact ⟨j + 1, by omega, by go_num, below_dr HI.out.1 _, by rw [HS.out.1, HS.out.2, HI.out.2]⟩
            case measure => simp [intOf]; omega
          · have hne : (kx == kk) = false := by simpa using heq
            have hne2 : (kx != kk) = true := by simpa using heq
            have HNE := Lib.hid heq
            clear heq
            go_wp2_with fail
            go_ret
            refine ⟨?_, HB.out.trans ((below_dr HI.out.1 _).mono HB.out.size)⟩
            have hno : shapeB x ks = false := by
              cases hs : shapeB x ks with
              | false => rfl
              | true =>
                have h3 := (shapeB_iff.1 hs).2
                exfalso
                apply HNE.out
                have h4 := HKJ.out
                rw [h4.1, h4.2, ← h3]
                simp [List.getElem?_eq_getElem hltx]
            rw [hno]
            rfl
        · obtain rfl : j = ks.length := by omega
          go_wp2_with fail
          go_ret
          refine ⟨?_, HB.out.trans (HI.out.1.mono HB.out.size)⟩
          have h3 := HI.out.2
          rw [List.take_length, List.take_of_length_le (by have := H2.out; omega)] at h3
          rw [shapeB_iff.2 ⟨H1.out, h3⟩]
          rfl
    · have h2' : ((x.l.length : Int) == (ks.length : Int)) = false := by simp; omega
      have h2n : ((x.l.length : Int) != (ks.length : Int)) = true := by simp; omega
      have HN : Hid (shapeB x ks = false) := by simp [Hid, shapeB, h2]
      clear h2
      go_enter Tryd.func39, Tryd.ntmps39
      go_wp2_with fail
      go_ret
      rw [HN.out]
      exact ⟨rfl, by rw [← HW.out]; exact HB.out⟩
  · have h1' : (x.k == 4) = false := by simpa using h1
    have h1n : (x.k != 4) = true := by simpa using h1
    have HN : Hid (shapeB x ks = false) := by simp [Hid, shapeB, h1]
    clear h1
    go_enter Tryd.func39, Tryd.ntmps39
    go_wp2_with fail
    go_ret
    rw [HN.out]
    exact ⟨rfl, by rw [← HW.out]; exact HB.out⟩

end Go.Proofs.YtkbnglcpcehaiaaDoor
