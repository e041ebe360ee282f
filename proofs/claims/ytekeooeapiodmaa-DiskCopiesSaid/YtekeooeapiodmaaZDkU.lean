/- Package disk: writes compared. -/
import Derived.Test.YtekeooeapiodmaaZDkS
namespace Go.Proofs.Ytekeooeapiodmaa
open Go Go.RowKit Go.Shelf
set_option linter.unusedSimpArgs false
set_option linter.unusedVariables false
set_option maxRecDepth 100000

attribute [local go_sem] Oper.semAt_some

theorem eq_of_wAt {l m : List (Int × List UInt8)} (hl : l.length = m.length) (h : ∀ i, i < l.length → wAt l i = wAt m i) : l = m := by
  apply List.ext_getElem hl
  intro i h1 h2
  have := h i h1
  simpa [wAt, List.getElem?_eq_getElem h1, List.getElem?_eq_getElem h2] using this

set_option maxHeartbeats 4000000 in
theorem equalW_any (A B : Option Addr) (C E : Nat) (l m : List (Int × List UInt8)) (hl : ∀ x ∈ l, x.2.length = 64) (hm : ∀ x ∈ m, x.2.length = 64) (hfl : l.length ≤ 1000000) (hfm : m.length ≤ 1000000) (w : World) (hA : RdW w w.heap.size A l) (hB : RdW w w.heap.size B m) :
    Calls Try.prog 47 #[.slice A l.length C, .slice B m.length E] w fun e w' => e = .returned (.bool (l == m)) ∧ Below w.heap.size w w' := by
  by_cases hn : l.length = m.length
  rotate_left
  · have h1 : ((l.length : Int) != (m.length : Int)) = true := by simp; omega
    have HE : Hid ((l == m) = false) := by
      rw [Hid, beq_eq_false_iff_ne]
      rintro rfl
      exact hn rfl
    clear hA hB
    go_enter Try.func47, Try.ntmps47
    go_wp2_with fail
    go_ret
    exact ⟨by rw [HE.out]; rfl, Below.refl _ _⟩
  have HA := Lib.hid hA
  have HB := Lib.hid hB
  have HL := Lib.hid hl
  have HM := Lib.hid hm
  have HF := Lib.hid hfl
  obtain ⟨n, hn0⟩ : ∃ n, n = l.length := ⟨_, rfl⟩
  have HN1 := Lib.hid hn0
  have HN2 : Hid (n = m.length) := by rw [Hid, hn0, hn]
  have HF : Hid (n ≤ 1000000) := by rw [Hid, hn0]; exact hfl
  rw [← hn, ← hn0]
  clear hA hB hl hm hfl hfm hn hn0
  go_enter Try.func47, Try.ntmps47
  go_upto_region 3 with fail
  go_wp2_with fail
  go_loopw [13] (fun i wr => ∃ j : Nat, j ≤ n ∧ i = .int .i64 j ∧ Hid (Below w.heap.size w wr ∧ ∀ k, k < j → wAt l k = wAt m k)) (fun i _ => n - (intOf i).toNat)
  case atStart => exact ⟨0, Nat.zero_le _, rfl, Below.refl _ _, fun k hk => by omega⟩
  case round =>
    obtain ⟨j, hj, rfl, hI⟩ := hrel
    by_cases hlt : j < n
    · have hxa : l[j]? = some (wAt l j) := by rw [wAt, List.getElem?_eq_getElem (by have := HN1.out; omega)]; rfl
      have hya : m[j]? = some (wAt m j) := by rw [wAt, List.getElem?_eq_getElem (by have := HN2.out; omega)]; rfl
      have hx64 : (wAt l j).2.length = 64 := HL.out _ (List.mem_of_getElem? hxa)
      have hy64 : (wAt m j).2.length = 64 := HM.out _ (List.mem_of_getElem? hya)
      obtain ⟨g, rfl, hg, hrg⟩ : ∃ g, A = some ⟨g, 0, none⟩ ∧ g < w.heap.size ∧ w.rangeAt g (j * 65) (wrL (wAt l j)) := by
        rcases HA.out with h | ⟨g, e, hg, hc⟩
        · rw [h] at hxa; simp at hxa
        · exact ⟨g, e, hg, hc j _ hxa⟩
      obtain ⟨h, rfl, hh, hrh⟩ : ∃ g, B = some ⟨g, 0, none⟩ ∧ g < w.heap.size ∧ w.rangeAt g (j * 65) (wrL (wAt m j)) := by
        rcases HB.out with h | ⟨g, e, hg, hc⟩
        · rw [h] at hya; simp at hya
        · exact ⟨g, e, hg, hc j _ hya⟩
      have hwe := wr_eq (wAt l j) (wAt m j) hx64 hy64
      unfold wrV at hwe
      have HS0 : Hid (wr.drew.rangeAt g (j * 65) (wrL (wAt l j)) ∧ wr.drew.rangeAt h (j * 65) (wrL (wAt m j))) := ⟨fun k v hv => (hI.out.1.cell (p := ⟨g, j * 65 + k, none⟩) hg).trans (hrg k v hv), fun k v hv => (hI.out.1.cell (p := ⟨h, j * 65 + k, none⟩) hh).trans (hrh k v hv)⟩
      have HLx : Hid ((wrL (wAt l j)).length = 65) := wrL_len hx64
      have HLy : Hid ((wrL (wAt m j)).length = 65) := wrL_len hy64
      obtain ⟨q, hq⟩ : ∃ q, q = (wAt l j == wAt m j) := ⟨_, rfl⟩
      rw [← hq] at hwe
      have HQ := Lib.hid hq
      generalize wrL (wAt l j) = Lx at hwe HS0 HLx
      generalize wrL (wAt m j) = Ly at hwe HS0 HLy
      have hfew := HF.out
      clear hxa hya hx64 hy64 hrg hrh hq
      go_upto_region 6 with fail
      refine wp_region_T (fun w' => (w'.rangeAt g (j * 65) Lx ∧ w'.rangeAt h (j * 65) Ly)) 9 (by kernel_rfl) ?_
      refine wpAnyT_take (i := 0) (v := ?_) rfl (by kernel_rfl) (by kernel_rfl) (by kernel_rfl) (by kernel_rfl) (fun _ _ _ h => h) (Or.inl ⟨by rfl, ?_⟩) HS0.out ?_
      rotate_left
      · intro w hSw
        (try dsimp only at hSw)
        go_simp
        all_goals with_reducible rfl
      simp only [Act.put, List.setIfInBounds_toArray, List.set_cons_zero, List.set_cons_succ]
      refine wpAnyT_take (i := 1) (v := ?_) rfl (by kernel_rfl) (by kernel_rfl) (by kernel_rfl) (by kernel_rfl) (fun _ _ _ h => h) (Or.inl ⟨by rfl, ?_⟩) HS0.out ?_
      rotate_left
      · intro w hSw
        (try dsimp only at hSw)
        go_simp
        all_goals with_reducible rfl
      simp only [Act.put, List.setIfInBounds_toArray, List.set_cons_zero, List.set_cons_succ]
      refine wpAnyT_take (i := 2) (v := ?_) rfl (by kernel_rfl) (by kernel_rfl) (by kernel_rfl) (by kernel_rfl) (fun _ _ _ h => h) (Or.inl ⟨by rfl, ?_⟩) HS0.out ?_
      rotate_left
      · intro w hSw
        (try dsimp only at hSw)
        go_simp
        all_goals with_reducible rfl
      simp only [Act.put, List.setIfInBounds_toArray, List.set_cons_zero, List.set_cons_succ]
      refine wpAnyT_take (i := 3) (v := .agg Lx.toArray) rfl (by kernel_rfl) (by kernel_rfl) (by kernel_rfl) (by kernel_rfl) (fun _ _ _ h => h) (yieldsIf_load_mid (by rfl) 88 (.tmp 18) rfl g (j * 65) (by rfl) Lx _ (fun _ hS => hS.1) Try.underlying88 rfl (by rw [HLx.out]; kernel_rfl)) HS0.out ?_
      simp only [Act.put, List.setIfInBounds_toArray, List.set_cons_zero, List.set_cons_succ]
      refine wpAnyT_take (i := 4) (v := ?_) rfl (by kernel_rfl) (by kernel_rfl) (by kernel_rfl) (by kernel_rfl) (fun _ _ _ h => h) (Or.inl ⟨by rfl, ?_⟩) HS0.out ?_
      rotate_left
      · intro w hSw
        (try dsimp only at hSw)
        go_simp
        all_goals with_reducible rfl
      simp only [Act.put, List.setIfInBounds_toArray, List.set_cons_zero, List.set_cons_succ]
      refine wpAnyT_take (i := 5) (v := ?_) rfl (by kernel_rfl) (by kernel_rfl) (by kernel_rfl) (by kernel_rfl) (fun _ _ _ h => h) (Or.inl ⟨by rfl, ?_⟩) HS0.out ?_
      rotate_left
      · intro w hSw
        (try dsimp only at hSw)
        go_simp
        all_goals with_reducible rfl
      simp only [Act.put, List.setIfInBounds_toArray, List.set_cons_zero, List.set_cons_succ]
      refine wpAnyT_take (i := 6) (v := ?_) rfl (by kernel_rfl) (by kernel_rfl) (by kernel_rfl) (by kernel_rfl) (fun _ _ _ h => h) (Or.inl ⟨by rfl, ?_⟩) HS0.out ?_
      rotate_left
      · intro w hSw
        (try dsimp only at hSw)
        go_simp
        all_goals with_reducible rfl
      simp only [Act.put, List.setIfInBounds_toArray, List.set_cons_zero, List.set_cons_succ]
      refine wpAnyT_take (i := 7) (v := .agg Ly.toArray) rfl (by kernel_rfl) (by kernel_rfl) (by kernel_rfl) (by kernel_rfl) (fun _ _ _ h => h) (yieldsIf_load_mid (by rfl) 88 (.tmp 22) rfl h (j * 65) (by rfl) Ly _ (fun _ hS => hS.2) Try.underlying88 rfl (by rw [HLy.out]; kernel_rfl)) HS0.out ?_
      simp only [Act.put, List.setIfInBounds_toArray, List.set_cons_zero, List.set_cons_succ]
      refine wpAnyT_take (i := 8) (v := ?_) rfl (by kernel_rfl) (by kernel_rfl) (by kernel_rfl) (by kernel_rfl) (fun _ _ _ h => h) (Or.inl ⟨by rfl, ?_⟩) HS0.out ?_
      rotate_left
      · intro w hSw
        (try dsimp only at hSw)
        go_simp
        all_goals with_reducible rfl
      simp only [Act.put, List.setIfInBounds_toArray, List.set_cons_zero, List.set_cons_succ]
      refine wpAnyT_done (by kernel_rfl) ?_ _
      cases q
      · go_wp2_with fail
        go_ret
        have he : (l == m) = false := by
          rw [beq_eq_false_iff_ne]
          rintro rfl
          have := HQ.out
          simp at this
        exact ⟨by rw [he]; rfl, hI.out.1.drew⟩
      · go_wp2_with fail
        go_roundw
        case rel => exact ⟨j + 1, by omega, by go_num, hI.out.1.drew, fun k hk => by
          rcases Nat.lt_or_ge k j with hk2 | hk2
          · exact hI.out.2 k hk2
          · obtain rfl : k = j := by omega
            have := HQ.out
            simpa using this.symm⟩
        case measure => simp [intOf]; omega
    · obtain rfl : j = n := by omega
      go_wp2_with fail
      go_ret
      have he : (l == m) = true := by
        rw [beq_iff_eq]
        exact eq_of_wAt (by have := HN1.out; have := HN2.out; omega) fun i hi => hI.out.2 i (by have := HN1.out; omega)
      exact ⟨by rw [he]; rfl, hI.out.1⟩

end Go.Proofs.Ytekeooeapiodmaa

