/- Package disk: Read, Lies. -/
import Derived.Test.YtekeooeapiodmaaZDkI
namespace Go.Proofs.Ytekeooeapiodmaa
open Go Go.RowKit Go.Shelf
set_option linter.unusedSimpArgs false
set_option linter.unusedVariables false
set_option maxRecDepth 100000

attribute [local go_sem] Oper.semAt_some

/-- A box of a sector. -/
theorem sec_store {w : World} {b : Nat} {us : List Value} (h : RowB w b us) (hu : us.length = 64) (s : List UInt8) (hs : s.length = 64) : (Instr.storeAt 86 (.pointer (some ⟨b, 0, none⟩)) (secV s)).run Try.prog w = .ok () (w.setCells b 0 (s.map encB)) := by
  have hl : (s.map encB).length = 64 := by rw [List.length_map, hs]
  have ht : w.there b 0 (s.map encB).toArray.size := by
    rw [List.size_toArray, hl, ← hu]
    exact h.there
  have h1 : (s.map encB).toArray.all (·.oneCell') = true := all_oneCell_toArray (encB_one s)
  exact run_storeAt_mid w b 0 86 (s.map encB).toArray ht (by rw [List.size_toArray, hl]; kernel_rfl) h1
theorem sec_cells {w : World} {b : Nat} {s : List UInt8} (hs : s.length = 64) (h : RowB w b (s.map encB)) : (loadVar 86 ⟨b, 0, none⟩).run Try.prog w = .ok (secV s) w :=
  run_loadVar_mid w b 0 _ (s.map encB) _ h.range Try.underlying86 rfl (by rw [List.length_map, hs]; kernel_rfl)
set_option maxHeartbeats 4000000 in
theorem shown_any (S : Nat → Prop) (p : Nat) (D : DkM) (hok : D.ok) (k : Int) (w : World) (h : DkAt w S p D) : Calls Try.prog 57 #[.pointer (some ⟨p, 0, none⟩), .int .i64 k] w fun e w' => e = .returned (secV (D.shown k)) ∧ Below w.heap.size w w' := by
  obtain ⟨m1, m2, v, f, g, q1, q2, q3, q4, q5, q6, s1, s2, s3, s4, n1, n2, n3, n4, n5, n6⟩ := h
  obtain ⟨A, C, rfl⟩ : ∃ A C, v = .slice A D.wt.length C := by
    rcases q6.2 with ⟨rfl, h⟩ | ⟨g', cap, cur, rfl, _⟩
    · exact ⟨none, 0, by rw [h]⟩
    · exact ⟨_, cap, rfl⟩
  obtain ⟨W, hW⟩ : ∃ W, W = w.alloc (.cells #[.int .u8 0, .int .u8 0, .int .u8 0, .int .u8 0, .int .u8 0, .int .u8 0, .int .u8 0, .int .u8 0, .int .u8 0, .int .u8 0, .int .u8 0, .int .u8 0, .int .u8 0, .int .u8 0, .int .u8 0, .int .u8 0, .int .u8 0, .int .u8 0, .int .u8 0, .int .u8 0, .int .u8 0, .int .u8 0, .int .u8 0, .int .u8 0, .int .u8 0, .int .u8 0, .int .u8 0, .int .u8 0, .int .u8 0, .int .u8 0, .int .u8 0, .int .u8 0, .int .u8 0, .int .u8 0, .int .u8 0, .int .u8 0, .int .u8 0, .int .u8 0, .int .u8 0, .int .u8 0, .int .u8 0, .int .u8 0, .int .u8 0, .int .u8 0, .int .u8 0, .int .u8 0, .int .u8 0, .int .u8 0, .int .u8 0, .int .u8 0, .int .u8 0, .int .u8 0, .int .u8 0, .int .u8 0, .int .u8 0, .int .u8 0, .int .u8 0, .int .u8 0, .int .u8 0, .int .u8 0, .int .u8 0, .int .u8 0, .int .u8 0, .int .u8 0] 86) := ⟨_, rfl⟩
  have hb0 : Below w.heap.size w W := by rw [hW]; exact below_al (Below.refl _ _) _
  have hr0 : RowB W w.heap.size ((List.replicate 64 (0 : UInt8)).map encB) := by rw [hW]; exact RowB.new w _ _
  have r1 := q1.on hb0 q1.lt
  have t4 := q4.kept (hb0.block m2 q4.lt)
  have t2 := q2.kept (hb0.block m1 q2.lt)
  have hrd := (rdW_own hok.wt q6 rfl).kept (w' := W) (fun a ha => hb0.block a.block (q6.lt a.block (by rw [ha]; rfl)).2) hb0.size
  have c1 := r1.1 1 _ rfl
  have c2 := r1.1 2 _ rfl
  have c3 := r1.1 3 _ rfl
  have hlk2 := t4.look2 Try.underlying70 Try.underlying3 (zero_int W) k
  rw [q5 k] at hlk2
  have hlk := t2.look Try.underlying69 Try.underlying3 (zero_sec W) k
  rw [q3 k] at hlk
  have HB0 := Lib.hid hb0
  have HR0 := Lib.hid hr0
  have HRd := Lib.hid hrd
  have HO := Lib.hid hok
  have HW := Lib.hid hW
  have hw1 : w.heap.size < W.heap.size := hr0.lt
  clear q1 q2 q3 q4 q5 q6 s1 s2 s3 s4 n1 n2 n3 n4 n5 n6 hrd hb0 hr0 t4 t2 r1 hok
  cases hl : lastI D.wt k with
  | none =>
    have HE : Hid (D.shown k = D.lie k) := by rw [Hid, DkM.shown, hl]
    rw [hl] at hlk2
    have hlk2 : (Instr.lookup 70 (.map (some m2)) (.int .i64 k) true).run Try.prog W = .ok (.tuple #[.int .i64 0, .bool false]) W := hlk2
    have hst := sec_store HR0.out (by simp) (D.lie k) (HO.out.lie k)
    obtain ⟨W1, hW1⟩ : ∃ W1, W1 = W.setCells w.heap.size 0 ((D.lie k).map encB) := ⟨_, rfl⟩
    have hr1 : RowB W1 w.heap.size ((D.lie k).map encB) := by rw [hW1]; exact HR0.out.setAll _ (by rw [List.length_map, HO.out.lie k]; simp)
    have HB1 : Hid (Below w.heap.size w W1) := by
      have h := (ButS.of_below (S := fun _ => False) HB0.out).setCells (b := w.heap.size) (.inr (Nat.le_refl _)) 0 ((D.lie k).map encB)
      rw [← hW1] at h
      exact h.below (Nat.le_refl _) fun _ h => h.elim
    have HL1 := Lib.hid (sec_cells (HO.out.lie k) hr1)
    rw [← hW1] at hst
    rw [hW] at c1 c2 c3
    clear hl hW1 hr1 hW
    go_enter Try.func57, Try.ntmps57
    go_upto_region 1 with fail
    rw [← HW.out]
    rw [← HW.out] at c1 c2 c3
    go_upto_region 4 with fail
    go_wp2_with (refine wpList_store rfl 86 (.tmp 4) (.tmp 30) rfl _ _ _ rfl rfl hst ?_)
    refine bodyPost_ret (results_cell rfl (by rfl) HL1.out) rfl ?_
    exact ⟨by rw [HE.out], HB1.out⟩
  | some i =>
    obtain ⟨s, hsi⟩ := lastI_lt hl
    have hs64 : s.length = 64 := HO.out.wt _ (List.mem_of_getElem? hsi)
    have HE : Hid (D.shown k = s) := by rw [Hid, DkM.shown, hl]; simp [hsi]
    rw [hl] at hlk2
    have hlk2 : (Instr.lookup 70 (.map (some m2)) (.int .i64 k) true).run Try.prog W = .ok (.tuple #[.int .i64 (i : Nat), .bool true]) W := hlk2
    have hst := sec_store HR0.out (by simp) (s) hs64
    obtain ⟨W1, hW1⟩ : ∃ W1, W1 = W.setCells w.heap.size 0 ((s).map encB) := ⟨_, rfl⟩
    have hr1 : RowB W1 w.heap.size ((s).map encB) := by rw [hW1]; exact HR0.out.setAll _ (by rw [List.length_map, hs64]; simp)
    have HB1 : Hid (Below w.heap.size w W1) := by
      have h := (ButS.of_below (S := fun _ => False) HB0.out).setCells (b := w.heap.size) (.inr (Nat.le_refl _)) 0 ((s).map encB)
      rw [← hW1] at h
      exact h.below (Nat.le_refl _) fun _ h => h.elim
    have HL1 := Lib.hid (sec_cells hs64 hr1)
    rw [← hW1] at hst
    rw [hW] at c1 c2 c3
    have hil : i < D.wt.length := (List.getElem?_eq_some_iff.1 hsi).1
    obtain ⟨gA, rfl, hgA, hrg⟩ : ∃ g, A = some ⟨g, 0, none⟩ ∧ g < W.heap.size ∧ W.rangeAt g (i * 65 + 1) (s.map encB) := by
      rcases HRd.out with h | ⟨g, e, hg, hc⟩
      · rw [h] at hil; simp at hil
      · refine ⟨g, e, hg, fun j v hv => ?_⟩
        have := hc i _ hsi (j + 1) v (by simpa [wrL] using hv)
        rw [Nat.add_assoc, Nat.add_comm 1 j]
        exact this
    have hld : (Instr.loadAt 86 (.pointer (some ⟨gA, i * 65 + 1, none⟩))).run Try.prog W = .ok (secV s) W := run_loadAt_mid W gA (i * 65 + 1) _ (s.map encB) _ hrg Try.underlying86 rfl (by rw [List.length_map, hs64]; kernel_rfl)
    have hfew := HO.out.few
    clear hl hW1 hr1 hW hrg hsi hs64
    go_enter Try.func57, Try.ntmps57
    go_upto_region 1 with fail
    rw [← HW.out]
    rw [← HW.out] at c1 c2 c3
    go_upto_region 3 with fail
    go_wp2_with (first | refine wpList_load rfl 86 (.tmp 23) rfl _ _ rfl hld ?_ | refine wpList_store rfl 86 (.tmp 4) (.tmp 24) rfl _ _ _ rfl rfl hst ?_)
    refine bodyPost_ret (results_cell rfl (by rfl) HL1.out) rfl ?_
    exact ⟨by rw [HE.out], HB1.out⟩

end Go.Proofs.Ytekeooeapiodmaa

