/- slices.Sorted of numbers that come in no known order. -/
import Derived.Test.YthfndphngeaihaaDoorRkX
import Derived.Test.YthfndphngeaihaaDoorRkN
namespace Go.Proofs.YthfndphngeaihaaDoor
open Go Go.RowKit Go.Shelf
open Go.ChangeMaps (setBlock)
set_option linter.unusedSimpArgs false
set_option linter.unusedVariables false
set_option linter.unusedSectionVars false
set_option maxRecDepth 100000

attribute [local go_sem] Oper.semAt_some

theorem flatU_at (ks : List Int) (j : Nat) (hj : j < ks.length) : (flatU ks)[j]? = some (.int .u32 (atU ks j)) := by
  unfold flatU atU
  rw [List.getElem?_map, List.getElem?_eq_getElem hj]
  rfl
theorem sr_of_own {w : World} {B g n cap : Nat} {e : TypeId} {ks : List Int} (h : w.ownsRow B e 1 (.slice (some ⟨g, 0, none⟩) n cap) n (flatU ks)) (hn : n = ks.length) : SR w g cap e ks ∧ B ≤ g ∧ n ≤ cap ∧ cap ≤ maxLen := by
  rcases h.2 with ⟨h', _⟩ | ⟨g', cap', cur, h', hB, hg, hnc, hm, hs, ht⟩
  · cases h'
  · injection h' with e1 e2 e3
    injection e1 with e1
    injection e1 with e1
    subst e1
    subst e3
    refine ⟨⟨cur, hg, by omega, by omega, fun j hj => ?_⟩, hB, hnc, hm⟩
    have h1 := flatU_at ks j hj
    rw [← ht, List.getElem?_take_of_lt (by omega), Array.getElem?_toList] at h1
    exact h1
theorem own_of_sr {w : World} {B g cap : Nat} {e : TypeId} {ks : List Int} (h : SR w g cap e ks) (hB : B ≤ g) (hm : cap ≤ maxLen) : w.ownsRow B e 1 (.slice (some ⟨g, 0, none⟩) ks.length cap) ks.length (flatU ks) := by
  obtain ⟨cur, h1, h2, h3, h4⟩ := h
  refine ⟨by simp [flatU], .inr ⟨g, cap, cur, rfl, hB, h1, h3, hm, by omega, ?_⟩⟩
  refine List.ext_getElem? fun j => ?_
  rcases Nat.lt_or_ge j ks.length with hj | hj
  · rw [List.getElem?_take_of_lt (by omega), Array.getElem?_toList, h4 j hj, flatU_at ks j hj]
  · rw [List.getElem?_eq_none (by simp; omega), List.getElem?_eq_none (by simp [flatU]; omega)]

/-- Rising. -/
def RiseU (ys : List Int) : Prop := ∀ p q, p < q → q < ys.length → atU ys p ≤ atU ys q

set_option maxHeartbeats 2000000 in
theorem sorted_small (gf : Nat) (lb : Array Value) (S : Nat → Prop) (l : List (Int × Value)) (w : World) (eg : ∀ args w, (callFunc gf args).run Tryd.prog w = .ok (.enter gf args) w)
    (hgo : ∀ X, Below w.heap.size w X → GoesR Tryd.prog gf lb stepK (fun t => t = []) S l X) (hS : ∀ b, S b → b < w.heap.size) (h0 : 0 < l.length) (hlen : l.length ≤ 12) :
    Calls Tryd.prog 38 #[.func (.func gf) #[] lb] w fun e w' => ∃ v, e = .returned v ∧ (∃ ys : List Int, w'.ownsRow w.heap.size 23 1 v ys.length (flatU ys) ∧ ys.Perm (l.map (·.1)) ∧ RiseU ys) ∧ Below w.heap.size w w' := by
  have HC := Lib.hid (ucollectR_any gf lb S l w eg hgo hS (by omega))
  have HL : Hid (0 < l.length ∧ l.length ≤ 12) := ⟨h0, hlen⟩
  clear hgo hS h0 hlen
  go_enter Tryd.func38, Tryd.ntmps38
  go_wp2_with fail
  refine HC.out.mono ?_
  rintro e w1 ⟨v, rfl, ⟨ks, h1, h2⟩, h3⟩
  have hkl : ks.length = l.length := by have := h2.length_eq; simpa using this
  have hl := HL.out
  obtain ⟨g, cap, rfl⟩ := own_ptr h1 (by omega)
  obtain ⟨hs, hB, hc, hm⟩ := sr_of_own h1 rfl
  have HSo := Lib.hid (sort_small g cap cap _ ks w1 hs (by omega))
  have HF : Hid (w.heap.size ≤ g ∧ cap ≤ maxLen ∧ ks.length = l.length) := ⟨hB, hm, hkl⟩
  have HPe := Lib.hid h2
  have HB1 := Lib.hid h3
  obtain ⟨n, hn⟩ : ∃ n, n = ks.length := ⟨_, rfl⟩
  rw [← hn] at HSo ⊢
  have HN := Lib.hid hn
  clear h1 h2 h3 hkl hl hs hB hc hm HC hn
  go_wp2_with fail
  refine HSo.out.mono ?_
  rintro x w3 ⟨rfl, ⟨ys, k1, k2, k3⟩, k4⟩
  have K1 := Lib.hid k1
  have K2 := Lib.hid k2
  have K3 : Hid (RiseU ys) := k3
  have K4 := Lib.hid k4
  clear k1 k2 k3 k4 HSo
  go_wp2_with fail
  go_ret
  have hyl : ys.length = n := K2.out.length_eq.trans HN.out.symm
  refine ⟨_, rfl, ⟨ys, ?_, K2.out.trans HPe.out, K3.out⟩, ?_⟩
  · have := own_of_sr (B := w.heap.size) K1.out HF.out.1 HF.out.2.1
    rw [hyl] at this ⊢
    exact this
  · have hb : ButS w.heap.size (fun b => b = g) w w3 := (ButS.of_below HB1.out).trans (K4.out.mono HB1.out.size fun _ _ h => h)
    exact hb.below (Nat.le_refl _) fun k h => by rw [h]; exact HF.out.1

end Go.Proofs.YthfndphngeaihaaDoor
