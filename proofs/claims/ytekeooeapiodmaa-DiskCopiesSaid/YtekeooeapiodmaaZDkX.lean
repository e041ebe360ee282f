/- Package disk: the document's fixed rows. -/
import Derived.Test.YtekeooeapiodmaaZDkW
import Derived.Lib.SmallJoins
namespace Go.Proofs.Ytekeooeapiodmaa
open Go Go.RowKit Go.Shelf
set_option linter.unusedSimpArgs false
set_option linter.unusedVariables false
set_option maxRecDepth 100000

attribute [local go_sem] Oper.semAt_some

variable {K : Nat → Prop} {wk w0 w : World} {p : Nat} {D : DkM} {R : List (Nat × List Value)}

theorem DStK.wrote64 (h : DStK K wk w0 w p D R) (k : Int) (hkk : -9223372036854775808 ≤ k ∧ k < 9223372036854775808) (a : Option Addr) (c : UInt8) (hfew : D.wt.length < 1000000) (hr : RdB w w.heap.size a (fullB c)) (h0 : D.wrE k 64 = 0) :
    Calls Try.prog 19 #[.pointer (some ⟨p, 0, none⟩), .int .i64 k, .slice a 64 64] w fun e w' => e = .returned (.int .i64 0) ∧ DStK K wk w0 w' p (D.wrote k (fullB c)) R := by
  have e := fullB_len c
  have h1 := h.wrote k hkk a 64 (fullB c) hfew (by rw [e]; exact Nat.le_refl _) hr (by rw [e]; exact h0) e
  rw [e] at h1
  exact h1
theorem DStK.not64 (h : DStK K wk w0 w p D R) (k : Int) (hkk : -9223372036854775808 ≤ k ∧ k < 9223372036854775808) (a : Option Addr) (c : UInt8) (hfew : D.wt.length < 1000000) (hr : RdB w w.heap.size a (fullB c)) (E : Int) (h0 : D.wrE k 64 = E) (hE : E ≠ 0) :
    Calls Try.prog 19 #[.pointer (some ⟨p, 0, none⟩), .int .i64 k, .slice a 64 64] w fun e w' => e = .returned (.int .i64 E) ∧ DStK K wk w0 w' p D R ∧ Below w.heap.size w w' := by
  have e := fullB_len c
  have h1 := h.wroteNot k hkk a 64 (fullB c) hfew (by rw [e]; exact Nat.le_refl _) hr E (by rw [e]; exact h0) hE
  rw [e] at h1
  exact h1
theorem DStK.fullAt (h : DStK K wk w0 w p D R) (c : UInt8) (n : Int) (hn : (c.toNat : Int) = n) :
    Calls Try.prog 20 #[.int .u8 n] w fun e w' => ∃ g, e = .returned (.slice (some ⟨g, 0, none⟩) 64 64) ∧ DStK K wk w0 w' p D R ∧ RdB w' w'.heap.size (some ⟨g, 0, none⟩) (fullB c) ∧ Below w.heap.size w w' := by
  rw [← hn]
  refine (full_any c w).mono ?_
  rintro e w' ⟨rfl, hr, hb⟩
  exact ⟨_, rfl, h.on hb, hr.rd, hb⟩
theorem text64 {w : World} {a : Option Addr} {s : List UInt8} (h : RdB w w.heap.size a s) (hs : s.length = 64) : (convert 57 9 (.slice a 64 64)).run Try.prog w = .ok (.string ⟨s.toArray⟩) w := by
  have h1 := h.text 57 9 5 s.length 64 rfl Try.underlying57 Try.underlying5 Try.underlying9
  rw [hs] at h1
  exact h1
theorem DStK.text (h : DStK K wk w0 w p D R) {g : Nat} {s : List UInt8} (hr : (g, s.map encB) ∈ R) (hs : s.length = 64) : (convert 57 9 (.slice (some ⟨g, 0, none⟩) 64 64)).run Try.prog w = .ok (.string ⟨s.toArray⟩) w := text64 (h.row64 hr hs) hs
theorem full_lit (c : UInt8) (n : Int) (hn : (c.toNat : Int) = n) (w : World) :
    Calls Try.prog 20 #[.int .u8 n] w fun e w' => ∃ g, e = .returned (.slice (some ⟨g, 0, none⟩) 64 64) ∧ RdB w' w'.heap.size (some ⟨g, 0, none⟩) (fullB c) ∧ Below w.heap.size w w' := by
  rw [← hn]
  refine (full_any c w).mono ?_
  rintro e w' ⟨rfl, hr, hb⟩
  exact ⟨_, rfl, hr.rd, hb⟩
theorem beq_own (b : ByteArray) : (b == b) = true := (MapKept.bytes_beq _ _).2 rfl

/-- The disks of the rows, one behind another. -/
def wD1 : DkM := (newM 4).wrote 1 (fullB 97)
def wD2 : DkM := wD1.synced
def wD3 : DkM := wD2.wrote 1 (fullB 98)
def wD4 : DkM := wD3.wrote 2 (fullB 99)
def wD5 : DkM := wD4.crashed [false, true]
def wD6 : DkM := wD5.armM 1
def wD7 : DkM := wD6.wrote 0 (fullB 100)
theorem w1_shown : wD1.shown 1 = fullB 97 := by kernel_rfl
theorem w1_lie : wD1.lie 1 = zeroS := by kernel_rfl
theorem w2_lie : wD2.lie 1 = fullB 97 := by kernel_rfl
theorem w5_one : wD5.shown 1 = fullB 97 := by kernel_rfl
theorem w5_two : wD5.shown 2 = fullB 99 := by kernel_rfl
theorem w0_wr : (newM 4).wrE 1 64 = 0 := by kernel_rfl
theorem w2_wr : wD2.wrE 1 64 = 0 := by kernel_rfl
theorem w3_wr : wD3.wrE 2 64 = 0 := by kernel_rfl
theorem w6_wr : wD6.wrE 0 64 = 0 := by kernel_rfl
theorem w7_four : wD7.wrE 4 64 = 4 := by kernel_rfl
theorem w7_abc : wD7.wrE 0 3 = 2 := by kernel_rfl
theorem w7_left : wD7.left = 0 := by kernel_rfl
theorem w1_left : wD1.left ≠ 0 := by rw [show wD1.left = -1 by kernel_rfl]; decide
theorem w_few : (newM 4).wt.length < 1000000 ∧ wD2.wt.length < 1000000 ∧ wD3.wt.length < 1000000 ∧ wD6.wt.length < 1000000 ∧ wD7.wt.length < 1000000 :=
  ⟨of_decide_eq_true (by kernel_rfl), of_decide_eq_true (by kernel_rfl), of_decide_eq_true (by kernel_rfl), of_decide_eq_true (by kernel_rfl), of_decide_eq_true (by kernel_rfl)⟩

set_option maxHeartbeats 16000000 in
theorem dkworks_any (w : World) : Calls Try.prog 9 #[] w fun e w' => e = .returned (.bool true) ∧ Below w.heap.size w w' := by
  have hmk := mk_64
  have kc0 := fun (w : World) (C : Array Value) (n c : Nat) => Joins.run_convert_bytes_const_at (P := Try.prog) w 57 5 C n c w.heap.size rfl Try.underlying57 Try.underlying5
  go_enter Try.func9, Try.ntmps9
  go_wp2_with fail
  refine (new_any 4 ⟨by decide, by decide⟩ w).mono ?_
  rintro e w1 ⟨hb, ⟨_, p, rfl, hd⟩ | ⟨hz, _⟩⟩
  rotate_left
  · exact absurd hz (by decide)
  have HS1 : Hid (DSt w w1 p (newM 4) []) := .start (k := 0) hd hb (newM_ok (by decide) (by decide))
  clear hb hd
  go_wp2_with fail
  refine (HS1.out.fullAt 97 97 rfl).mono ?_
  rintro e w2 ⟨f2, rfl, hs, hr, hb⟩
  have HS2 := Lib.hid hs
  have HF2 := Lib.hid hr
  clear hs hr hb
  go_wp2_with fail
  refine (HS2.out.wrote64 1 ⟨by decide, by decide⟩ _ 97 w_few.1 HF2.out w0_wr).mono ?_
  rintro e w3 ⟨rfl, hs⟩
  have HS3 := Lib.hid hs
  clear hs
  go_wp2_with fail
  refine (HS3.out.read (D := wD1) 1 (by kernel_rfl) _ w1_shown).mono ?_
  rintro e w4 ⟨g4, rfl, hs⟩
  have HS4 := Lib.hid hs
  clear hs
  go_wp2_with fail
  refine (HS4.out.lies (D := wD1) 1 (by kernel_rfl) _ w1_lie).mono ?_
  rintro e w5 ⟨g6, rfl, hs⟩
  have HS5 := Lib.hid hs
  clear hs
  go_wp2_with fail
  refine (HS5.out.sync (D := wD1) w1_left).mono ?_
  rintro e w6 ⟨rfl, hs⟩
  have HS6 := Lib.hid hs
  clear hs
  go_wp2_with fail
  refine (HS6.out.lies (D := wD2) 1 (by kernel_rfl) _ w2_lie).mono ?_
  rintro e w7 ⟨g9, rfl, hs⟩
  have HS7 := Lib.hid hs
  clear hs
  go_wp2_with fail
  refine (HS7.out.fullAt 98 98 rfl).mono ?_
  rintro e w8 ⟨f8, rfl, hs, hr, hb⟩
  have HS8 := Lib.hid hs
  have HF8 := Lib.hid hr
  clear hs hr hb
  go_wp2_with fail
  refine (HS8.out.wrote64 (D := wD2) 1 ⟨by decide, by decide⟩ _ 98 w_few.2.1 HF8.out w2_wr).mono ?_
  rintro e w9 ⟨rfl, hs⟩
  have HS9 := Lib.hid hs
  clear hs
  go_wp2_with fail
  refine (HS9.out.fullAt 99 99 rfl).mono ?_
  rintro e w10 ⟨f10, rfl, hs, hr, hb⟩
  have HS10 := Lib.hid hs
  have HF10 := Lib.hid hr
  clear hs hr hb
  go_wp2_with fail
  refine (HS10.out.wrote64 (D := wD3) 2 ⟨by decide, by decide⟩ _ 99 w_few.2.2.1 HF10.out w3_wr).mono ?_
  rintro e w11 ⟨rfl, hs⟩
  have HS11 := Lib.hid hs
  clear hs
  go_wp2_with fail
  obtain ⟨V, hV⟩ : ∃ V, V = w11.alloc (.cells #[.bool false, .bool true] 4) := ⟨_, rfl⟩
  rw [← hV]
  have hrow : RowB V w11.heap.size [.bool false, .bool true] := by rw [hV]; exact RowB.new w11 _ _
  have hVb : Below w11.heap.size w11 V := by rw [hV]; exact below_al (Below.refl _ _) _
  have HSV := Lib.hid (HS11.out.add hVb hrow (Nat.le_refl _) hrow.lt)
  have HT : Hid (RdT V V.heap.size (some ⟨w11.heap.size, 0, none⟩) [false, true]) := .inr ⟨_, 0, rfl, hrow.lt, fun k q hq => by
      rw [Nat.zero_add]
      exact hrow.1 k _ (show ([false, true].map Value.bool)[k]? = some (.bool q) by rw [List.getElem?_map, hq]; rfl)⟩
  clear hV hVb hrow
  refine (DStK.crash (D := wD4) HSV.out _ 2 [false, true] (by decide) HT.out (fun q hq => by injection hq with hq; subst hq; exact .inr ⟨_, List.mem_cons_self ..⟩)).mono ?_
  rintro e w12 ⟨rfl, hs⟩
  have HS12 := Lib.hid hs
  clear hs
  go_wp2_with fail
  refine (HS12.out.read (D := wD5) 1 (by kernel_rfl) _ w5_one).mono ?_
  rintro e w13 ⟨g14, rfl, hs⟩
  have HS13 := Lib.hid hs
  clear hs
  go_wp2_with fail
  refine (HS13.out.read (D := wD5) 2 (by kernel_rfl) _ w5_two).mono ?_
  rintro e w14 ⟨g16, rfl, hs⟩
  have HS14 := Lib.hid hs
  clear hs
  go_wp2_with fail
  refine (HS14.out.arm (D := wD5) 1 ⟨by decide, by decide⟩).mono ?_
  rintro e w15 ⟨rfl, hs⟩
  have HS15 := Lib.hid hs
  clear hs
  go_wp2_with fail
  refine (HS15.out.fullAt 100 100 rfl).mono ?_
  rintro e w16 ⟨f16, rfl, hs, hr, hb⟩
  have HS16 := Lib.hid hs
  have HF16 := Lib.hid hr
  clear hs hr hb
  go_wp2_with fail
  refine (HS16.out.wrote64 (D := wD6) 0 ⟨by decide, by decide⟩ _ 100 w_few.2.2.2.1 HF16.out w6_wr).mono ?_
  rintro e w17 ⟨rfl, hs⟩
  have HS17 := Lib.hid hs
  clear hs
  go_wp2_with fail
  refine (HS17.out.syncNot (D := wD7) w7_left).mono ?_
  rintro e w18 ⟨rfl, hs, hb⟩
  have HS18 := Lib.hid hs
  clear hs hb
  go_wp2_with fail
  refine (HS18.out.fullAt 100 100 rfl).mono ?_
  rintro e w19 ⟨f19, rfl, hs, hr, hb⟩
  have HS19 := Lib.hid hs
  have HF19 := Lib.hid hr
  clear hs hr hb
  go_wp2_with fail
  refine (HS19.out.not64 (D := wD7) 4 ⟨by decide, by decide⟩ _ 100 w_few.2.2.2.2 HF19.out 4 w7_four (by decide)).mono ?_
  rintro e w20 ⟨rfl, hs, hb⟩
  have HS20 := Lib.hid hs
  clear hs hb
  go_wp2_with fail
  obtain ⟨V2, hV2⟩ : ∃ V, V = w20.alloc (.cells #[.int .u8 97, .int .u8 98, .int .u8 99] 5 (3, 4)) := ⟨_, rfl⟩
  change Calls _ _ _ (w20.alloc (.cells #[.int .u8 97, .int .u8 98, .int .u8 99] 5 (3, 4))) _
  rw [← hV2]
  have hV2b : Below w20.heap.size w20 V2 := by rw [hV2]; exact below_al (Below.refl _ _) _
  have HA : Hid (RdB V2 V2.heap.size (some ⟨w20.heap.size, 0, none⟩) [97, 98, 99]) := .inr ⟨_, 0, rfl, by rw [hV2]; simp, fun j hj => by
      rw [Nat.zero_add, hV2, World.cell?_alloc_mark, ← Array.getElem?_toList]
      exact encB_at [97, 98, 99] j hj⟩
  have HSW := Lib.hid (HS20.out.on hV2b)
  clear hV2 hV2b
  refine (DStK.wroteNot (D := wD7) HSW.out 0 ⟨by decide, by decide⟩ _ 3 [97, 98, 99] w_few.2.2.2.2 (by decide) HA.out 2 w7_abc (by decide)).mono ?_
  rintro e w21 ⟨rfl, hs, hb⟩
  have HS21 := Lib.hid hs
  clear hs hb
  go_wp2_with fail
  have HTX : Hid (∀ w', Below w21.heap.size w21 w' → ((convert 57 9 (.slice (some ⟨g4, 0, none⟩) 64 64)).run Try.prog w' = .ok (.string ⟨(fullB 97).toArray⟩) w' ∧ (convert 57 9 (.slice (some ⟨g6, 0, none⟩) 64 64)).run Try.prog w' = .ok (.string ⟨(zeroS).toArray⟩) w' ∧ (convert 57 9 (.slice (some ⟨g9, 0, none⟩) 64 64)).run Try.prog w' = .ok (.string ⟨(fullB 97).toArray⟩) w' ∧ (convert 57 9 (.slice (some ⟨g14, 0, none⟩) 64 64)).run Try.prog w' = .ok (.string ⟨(fullB 97).toArray⟩) w' ∧ (convert 57 9 (.slice (some ⟨g16, 0, none⟩) 64 64)).run Try.prog w' = .ok (.string ⟨(fullB 99).toArray⟩) w')) := fun w' hb => by
    have h := HS21.out.on hb
    exact ⟨h.text (g := g4) (s := fullB 97) (by simp) (by simp [fullB, zeroS]), h.text (g := g6) (s := zeroS) (by simp) (by simp [fullB, zeroS]), h.text (g := g9) (s := fullB 97) (by simp) (by simp [fullB, zeroS]), h.text (g := g14) (s := fullB 97) (by simp) (by simp [fullB, zeroS]), h.text (g := g16) (s := fullB 99) (by simp) (by simp [fullB, zeroS])⟩
  have HBw := Lib.hid HS21.out.below
  have b97 := beq_own ⟨(fullB 97).toArray⟩
  have b99 := beq_own ⟨(fullB 99).toArray⟩
  have bz := beq_own ⟨zeroS.toArray⟩
  clear HSV HSW HA HT HS1 HS2 HS3 HS4 HS5 HS6 HS7 HS8 HS9 HS10 HS11 HS12 HS13 HS14 HS15 HS16 HS17 HS18 HS19 HS20 HS21 HF2 HF8 HF10 HF16 HF19
  have F : Below w21.heap.size w21 w21.drew := (Below.refl _ _).drew
  as_aux_lemma =>
    dsimp only [List.append]
    refine wp_region_held_drew (S := (fun w' => ((convert 57 9 (.slice (some ⟨g4, 0, none⟩) 64 64)).run Try.prog w' = .ok (.string ⟨(fullB 97).toArray⟩) w' ∧ (convert 57 9 (.slice (some ⟨g6, 0, none⟩) 64 64)).run Try.prog w' = .ok (.string ⟨(zeroS).toArray⟩) w' ∧ (convert 57 9 (.slice (some ⟨g9, 0, none⟩) 64 64)).run Try.prog w' = .ok (.string ⟨(fullB 97).toArray⟩) w' ∧ (convert 57 9 (.slice (some ⟨g14, 0, none⟩) 64 64)).run Try.prog w' = .ok (.string ⟨(fullB 97).toArray⟩) w' ∧ (convert 57 9 (.slice (some ⟨g16, 0, none⟩) 64 64)).run Try.prog w' = .ok (.string ⟨(fullB 99).toArray⟩) w'))) (by kernel_rfl) (HTX.out _ F) (fun hHeld => ?_)
    refine take_listed (i := 0) (v := ?_) rfl (by kernel_rfl) (by kernel_rfl) (by kernel_rfl) (fun _ _ _ h => h) (Or.inl ⟨by rfl, ?_⟩) (by assumption) ?_
    rotate_left
    · intro w hSw
      (try dsimp only at hSw)
      go_simp
      all_goals with_reducible rfl
    simp only [Act.put, List.setIfInBounds_toArray, List.set_cons_zero, List.set_cons_succ]
    refine take_listed (i := 2) (v := ?_) rfl (by kernel_rfl) (by kernel_rfl) (by kernel_rfl) (fun _ _ _ h => h) (Or.inl ⟨by rfl, ?_⟩) (by assumption) ?_
    rotate_left
    · intro w hSw
      (try dsimp only at hSw)
      go_simp
      all_goals with_reducible rfl
    simp only [Act.put, List.setIfInBounds_toArray, List.set_cons_zero, List.set_cons_succ]
    refine take_listed (i := 5) (v := ?_) rfl (by kernel_rfl) (by kernel_rfl) (by kernel_rfl) (fun _ _ _ h => h) (Or.inl ⟨by rfl, ?_⟩) (by assumption) ?_
    rotate_left
    · intro w hSw
      (try dsimp only at hSw)
      go_simp
      all_goals with_reducible rfl
    simp only [Act.put, List.setIfInBounds_toArray, List.set_cons_zero, List.set_cons_succ]
    refine take_listed (i := 8) (v := ?_) rfl (by kernel_rfl) (by kernel_rfl) (by kernel_rfl) (fun _ _ _ h => h) (Or.inl ⟨by rfl, ?_⟩) (by assumption) ?_
    rotate_left
    · intro w hSw
      (try dsimp only at hSw)
      go_simp
      all_goals with_reducible rfl
    simp only [Act.put, List.setIfInBounds_toArray, List.set_cons_zero, List.set_cons_succ]
    refine take_listed (i := 11) (v := ?_) rfl (by kernel_rfl) (by kernel_rfl) (by kernel_rfl) (fun _ _ _ h => h) (Or.inl ⟨by rfl, ?_⟩) (by assumption) ?_
    rotate_left
    · intro w hSw
      (try dsimp only at hSw)
      go_simp
      all_goals with_reducible rfl
    simp only [Act.put, List.setIfInBounds_toArray, List.set_cons_zero, List.set_cons_succ]
    refine take_listed (i := 14) (v := ?_) rfl (by kernel_rfl) (by kernel_rfl) (by kernel_rfl) (fun _ _ _ h => h) (Or.inl ⟨by rfl, ?_⟩) (by assumption) ?_
    rotate_left
    · intro w hSw
      (try dsimp only at hSw)
      go_simp
      all_goals with_reducible rfl
    simp only [Act.put, List.setIfInBounds_toArray, List.set_cons_zero, List.set_cons_succ]
    refine take_listed (i := 17) (v := ?_) rfl (by kernel_rfl) (by kernel_rfl) (by kernel_rfl) (fun _ _ _ h => h) (Or.inl ⟨by rfl, ?_⟩) (by assumption) ?_
    rotate_left
    · intro w hSw
      (try dsimp only at hSw)
      go_simp
      all_goals with_reducible rfl
    simp only [Act.put, List.setIfInBounds_toArray, List.set_cons_zero, List.set_cons_succ]
    as_aux_lemma =>
      refine take_listed (i := 20) (v := ?_) rfl (by kernel_rfl) (by kernel_rfl) (by kernel_rfl) (fun _ _ _ h => h) (Or.inl ⟨by rfl, ?_⟩) (by assumption) ?_
      rotate_left
      · intro w hSw
        (try dsimp only at hSw)
        go_simp
        all_goals with_reducible rfl
      simp only [Act.put, List.setIfInBounds_toArray, List.set_cons_zero, List.set_cons_succ]
      refine take_listed (i := 23) (v := ?_) rfl (by kernel_rfl) (by kernel_rfl) (by kernel_rfl) (fun _ _ _ h => h) (Or.inl ⟨by rfl, ?_⟩) (by assumption) ?_
      rotate_left
      · intro w hSw
        (try dsimp only at hSw)
        go_simp
        all_goals with_reducible rfl
      simp only [Act.put, List.setIfInBounds_toArray, List.set_cons_zero, List.set_cons_succ]
      refine take_listed (i := 26) (v := ?_) rfl (by kernel_rfl) (by kernel_rfl) (by kernel_rfl) (fun _ _ _ h => h) (Or.inl ⟨by rfl, ?_⟩) (by assumption) ?_
      rotate_left
      · intro w hSw
        (try dsimp only at hSw)
        go_simp
        all_goals with_reducible rfl
      simp only [Act.put, List.setIfInBounds_toArray, List.set_cons_zero, List.set_cons_succ]
      refine take_listed (i := 29) (v := ?_) rfl (by kernel_rfl) (by kernel_rfl) (by kernel_rfl) (fun _ _ _ h => h) (Or.inl ⟨by rfl, ?_⟩) (by assumption) ?_
      rotate_left
      · intro w hSw
        (try dsimp only at hSw)
        go_simp
        all_goals with_reducible rfl
      simp only [Act.put, List.setIfInBounds_toArray, List.set_cons_zero, List.set_cons_succ]
      refine take_listed (i := 32) (v := ?_) rfl (by kernel_rfl) (by kernel_rfl) (by kernel_rfl) (fun _ _ _ h => h) (Or.inl ⟨by rfl, ?_⟩) (by assumption) ?_
      rotate_left
      · intro w hSw
        (try dsimp only at hSw)
        go_simp
        all_goals with_reducible rfl
      simp only [Act.put, List.setIfInBounds_toArray, List.set_cons_zero, List.set_cons_succ]
      refine take_listed (i := 35) (v := ?_) rfl (by kernel_rfl) (by kernel_rfl) (by kernel_rfl) (fun _ _ _ h => h) (Or.inl ⟨by rfl, ?_⟩) (by assumption) ?_
      rotate_left
      · intro w hSw
        (try dsimp only at hSw)
        go_simp
        all_goals with_reducible rfl
      simp only [Act.put, List.setIfInBounds_toArray, List.set_cons_zero, List.set_cons_succ]
      refine wpAnyH_ready (rs := [1]) (by kernel_rfl) (by simp) ?_
      refine AllReadyH.cons rfl (fun K hK => ?_) AllReadyH.nil
      go_simp
      refine (dknum_any _ _).mono ?_
      rintro e9 w9 ⟨rfl, h9⟩
      rw [← h9]
      clear h9 w9
      refine hK.out _ _ (HTX.out _ F) (fun hHeld => ?_)
      clear hK K
      try simp only [Act.put, List.setIfInBounds_toArray, List.set_cons_zero, List.set_cons_succ]
      refine wpAnyH_ready (rs := [3]) (by kernel_rfl) (by simp) ?_
      refine AllReadyH.cons rfl (fun K hK => ?_) AllReadyH.nil
      go_simp
      refine (dknum_any _ _).mono ?_
      rintro e9 w9 ⟨rfl, h9⟩
      rw [← h9]
      clear h9 w9
      refine hK.out _ _ (HTX.out _ F) (fun hHeld => ?_)
      clear hK K
      try simp only [Act.put, List.setIfInBounds_toArray, List.set_cons_zero, List.set_cons_succ]
      refine take_listed (i := 4) (v := ?_) rfl (by kernel_rfl) (by kernel_rfl) (by kernel_rfl) (fun _ _ _ h => h) (Or.inl ⟨by rfl, ?_⟩) (by assumption) ?_
      rotate_left
      · intro w hSw
        (try dsimp only at hSw)
        go_simp
        all_goals with_reducible rfl
      simp only [Act.put, List.setIfInBounds_toArray, List.set_cons_zero, List.set_cons_succ]
      refine wpAnyH_ready (rs := [6]) (by kernel_rfl) (by simp) ?_
      refine AllReadyH.cons rfl (fun K hK => ?_) AllReadyH.nil
      go_simp
      refine (dknum_any _ _).mono ?_
      rintro e9 w9 ⟨rfl, h9⟩
      rw [← h9]
      clear h9 w9
      refine hK.out _ _ (HTX.out _ F) (fun hHeld => ?_)
      clear hK K
      try simp only [Act.put, List.setIfInBounds_toArray, List.set_cons_zero, List.set_cons_succ]
      refine take_listed (i := 7) (v := ?_) rfl (by kernel_rfl) (by kernel_rfl) (by kernel_rfl) (fun _ _ _ h => h) (Or.inl ⟨by rfl, ?_⟩) (by assumption) ?_
      rotate_left
      · intro w hSw
        (try dsimp only at hSw)
        go_simp
        all_goals with_reducible rfl
      simp only [Act.put, List.setIfInBounds_toArray, List.set_cons_zero, List.set_cons_succ]
      refine wpAnyH_ready (rs := [9]) (by kernel_rfl) (by simp) ?_
      refine AllReadyH.cons rfl (fun K hK => ?_) AllReadyH.nil
      go_simp
      refine (dknum_any _ _).mono ?_
      rintro e9 w9 ⟨rfl, h9⟩
      rw [← h9]
      clear h9 w9
      refine hK.out _ _ (HTX.out _ F) (fun hHeld => ?_)
      clear hK K
      try simp only [Act.put, List.setIfInBounds_toArray, List.set_cons_zero, List.set_cons_succ]
      refine take_listed (i := 10) (v := ?_) rfl (by kernel_rfl) (by kernel_rfl) (by kernel_rfl) (fun _ _ _ h => h) (Or.inl ⟨by rfl, ?_⟩) (by assumption) ?_
      rotate_left
      · intro w hSw
        (try dsimp only at hSw)
        go_simp
        all_goals with_reducible rfl
      simp only [Act.put, List.setIfInBounds_toArray, List.set_cons_zero, List.set_cons_succ]
      refine wpAnyH_ready (rs := [12]) (by kernel_rfl) (by simp) ?_
      refine AllReadyH.cons rfl (fun K hK => ?_) AllReadyH.nil
      go_simp
      refine (dknum_any _ _).mono ?_
      rintro e9 w9 ⟨rfl, h9⟩
      rw [← h9]
      clear h9 w9
      refine hK.out _ _ (HTX.out _ F) (fun hHeld => ?_)
      clear hK K
      try simp only [Act.put, List.setIfInBounds_toArray, List.set_cons_zero, List.set_cons_succ]
      refine take_listed (i := 13) (v := ?_) rfl (by kernel_rfl) (by kernel_rfl) (by kernel_rfl) (fun _ _ _ h => h) (Or.inl ⟨by rfl, ?_⟩) (by assumption) ?_
      rotate_left
      · intro w hSw
        (try dsimp only at hSw)
        go_simp
        all_goals with_reducible rfl
      simp only [Act.put, List.setIfInBounds_toArray, List.set_cons_zero, List.set_cons_succ]
      refine wpAnyH_ready (rs := [15]) (by kernel_rfl) (by simp) ?_
      refine AllReadyH.cons rfl (fun K hK => ?_) AllReadyH.nil
      go_simp
      refine (dknum_any _ _).mono ?_
      rintro e9 w9 ⟨rfl, h9⟩
      rw [← h9]
      clear h9 w9
      refine hK.out _ _ (HTX.out _ F) (fun hHeld => ?_)
      clear hK K
      try simp only [Act.put, List.setIfInBounds_toArray, List.set_cons_zero, List.set_cons_succ]
      refine take_listed (i := 16) (v := ?_) rfl (by kernel_rfl) (by kernel_rfl) (by kernel_rfl) (fun _ _ _ h => h) (Or.inl ⟨by rfl, ?_⟩) (by assumption) ?_
      rotate_left
      · intro w hSw
        (try dsimp only at hSw)
        go_simp
        all_goals with_reducible rfl
      simp only [Act.put, List.setIfInBounds_toArray, List.set_cons_zero, List.set_cons_succ]
      refine wpAnyH_ready (rs := [18]) (by kernel_rfl) (by simp) ?_
      refine AllReadyH.cons rfl (fun K hK => ?_) AllReadyH.nil
      go_simp
      refine (dknum_any _ _).mono ?_
      rintro e9 w9 ⟨rfl, h9⟩
      rw [← h9]
      clear h9 w9
      refine hK.out _ _ (HTX.out _ F) (fun hHeld => ?_)
      clear hK K
      try simp only [Act.put, List.setIfInBounds_toArray, List.set_cons_zero, List.set_cons_succ]
      refine take_listed (i := 19) (v := ?_) rfl (by kernel_rfl) (by kernel_rfl) (by kernel_rfl) (fun _ _ _ h => h) (Or.inl ⟨by rfl, ?_⟩) (by assumption) ?_
      rotate_left
      · intro w hSw
        (try dsimp only at hSw)
        go_simp
        all_goals with_reducible rfl
      simp only [Act.put, List.setIfInBounds_toArray, List.set_cons_zero, List.set_cons_succ]
      refine wpAnyH_ready (rs := [21]) (by kernel_rfl) (by simp) ?_
      refine AllReadyH.cons rfl (fun K hK => ?_) AllReadyH.nil
      go_simp
      refine (dknum_any _ _).mono ?_
      rintro e9 w9 ⟨rfl, h9⟩
      rw [← h9]
      clear h9 w9
      refine hK.out _ _ (HTX.out _ F) (fun hHeld => ?_)
      clear hK K
      try simp only [Act.put, List.setIfInBounds_toArray, List.set_cons_zero, List.set_cons_succ]
      refine take_listed (i := 22) (v := ?_) rfl (by kernel_rfl) (by kernel_rfl) (by kernel_rfl) (fun _ _ _ h => h) (Or.inl ⟨by rfl, ?_⟩) (by assumption) ?_
      rotate_left
      · intro w hSw
        (try dsimp only at hSw)
        go_simp
        all_goals with_reducible rfl
      simp only [Act.put, List.setIfInBounds_toArray, List.set_cons_zero, List.set_cons_succ]
      refine wpAnyH_ready (rs := [24]) (by kernel_rfl) (by simp) ?_
      refine AllReadyH.cons rfl (fun K hK => ?_) AllReadyH.nil
      go_simp
      refine (dknum_any _ _).mono ?_
      rintro e9 w9 ⟨rfl, h9⟩
      rw [← h9]
      clear h9 w9
      refine hK.out _ _ (HTX.out _ F) (fun hHeld => ?_)
      clear hK K
      try simp only [Act.put, List.setIfInBounds_toArray, List.set_cons_zero, List.set_cons_succ]
      refine take_listed (i := 25) (v := ?_) rfl (by kernel_rfl) (by kernel_rfl) (by kernel_rfl) (fun _ _ _ h => h) (Or.inl ⟨by rfl, ?_⟩) (by assumption) ?_
      rotate_left
      · intro w hSw
        (try dsimp only at hSw)
        go_simp
        all_goals with_reducible rfl
      simp only [Act.put, List.setIfInBounds_toArray, List.set_cons_zero, List.set_cons_succ]
      refine wpAnyH_ready (rs := [27]) (by kernel_rfl) (by simp) ?_
      refine AllReadyH.cons rfl (fun K hK => ?_) AllReadyH.nil
      go_simp
      refine (dknum_any _ _).mono ?_
      rintro e9 w9 ⟨rfl, h9⟩
      rw [← h9]
      clear h9 w9
      refine hK.out _ _ (HTX.out _ F) (fun hHeld => ?_)
      clear hK K
      try simp only [Act.put, List.setIfInBounds_toArray, List.set_cons_zero, List.set_cons_succ]
      refine take_listed (i := 28) (v := ?_) rfl (by kernel_rfl) (by kernel_rfl) (by kernel_rfl) (fun _ _ _ h => h) (Or.inl ⟨by rfl, ?_⟩) (by assumption) ?_
      rotate_left
      · intro w hSw
        (try dsimp only at hSw)
        go_simp
        all_goals with_reducible rfl
      simp only [Act.put, List.setIfInBounds_toArray, List.set_cons_zero, List.set_cons_succ]
      refine wpAnyH_ready (rs := [30]) (by kernel_rfl) (by simp) ?_
      refine AllReadyH.cons rfl (fun K hK => ?_) AllReadyH.nil
      go_simp
      refine (dknum_any _ _).mono ?_
      rintro e9 w9 ⟨rfl, h9⟩
      rw [← h9]
      clear h9 w9
      refine hK.out _ _ (HTX.out _ F) (fun hHeld => ?_)
      clear hK K
      try simp only [Act.put, List.setIfInBounds_toArray, List.set_cons_zero, List.set_cons_succ]
      refine take_listed (i := 31) (v := ?_) rfl (by kernel_rfl) (by kernel_rfl) (by kernel_rfl) (fun _ _ _ h => h) (Or.inl ⟨by rfl, ?_⟩) (by assumption) ?_
      rotate_left
      · intro w hSw
        (try dsimp only at hSw)
        go_simp
        all_goals with_reducible rfl
      simp only [Act.put, List.setIfInBounds_toArray, List.set_cons_zero, List.set_cons_succ]
      refine wpAnyH_ready (rs := [33]) (by kernel_rfl) (by simp) ?_
      refine AllReadyH.cons rfl (fun K hK => ?_) AllReadyH.nil
      go_simp
      refine (dknum_any _ _).mono ?_
      rintro e9 w9 ⟨rfl, h9⟩
      rw [← h9]
      clear h9 w9
      refine hK.out _ _ (HTX.out _ F) (fun hHeld => ?_)
      clear hK K
      try simp only [Act.put, List.setIfInBounds_toArray, List.set_cons_zero, List.set_cons_succ]
      refine take_listed (i := 34) (v := ?_) rfl (by kernel_rfl) (by kernel_rfl) (by kernel_rfl) (fun _ _ _ h => h) (Or.inl ⟨by rfl, ?_⟩) (by assumption) ?_
      rotate_left
      · intro w hSw
        (try dsimp only at hSw)
        go_simp
        all_goals with_reducible rfl
      simp only [Act.put, List.setIfInBounds_toArray, List.set_cons_zero, List.set_cons_succ]
      refine wpAnyH_ready (rs := [36]) (by kernel_rfl) (by simp) ?_
      refine AllReadyH.cons rfl (fun K hK => ?_) AllReadyH.nil
      go_simp
      refine (dknum_any _ _).mono ?_
      rintro e9 w9 ⟨rfl, h9⟩
      rw [← h9]
      clear h9 w9
      refine hK.out _ _ (HTX.out _ F) (fun hHeld => ?_)
      clear hK K
      try simp only [Act.put, List.setIfInBounds_toArray, List.set_cons_zero, List.set_cons_succ]
      refine take_listed (i := 37) (v := ?_) rfl (by kernel_rfl) (by kernel_rfl) (by kernel_rfl) (fun _ _ _ h => h) (Or.inl ⟨by rfl, ?_⟩) (by assumption) ?_
      rotate_left
      · intro w hSw
        (try dsimp only at hSw)
        go_simp
        all_goals with_reducible rfl
      simp only [Act.put, List.setIfInBounds_toArray, List.set_cons_zero, List.set_cons_succ]
      refine take_listed (i := 38) (v := ?_) rfl (by kernel_rfl) (by kernel_rfl) (by kernel_rfl) (fun _ _ _ h => h) (Or.inl ⟨by rfl, ?_⟩) (by assumption) ?_
      rotate_left
      · intro w hSw
        (try dsimp only at hSw)
        go_simp
        all_goals with_reducible rfl
      simp only [Act.put, List.setIfInBounds_toArray, List.set_cons_zero, List.set_cons_succ]
      refine take_listed (i := 39) (v := ?_) rfl (by kernel_rfl) (by kernel_rfl) (by kernel_rfl) (fun _ _ _ h => h) (Or.inl ⟨by rfl, ?_⟩) (by assumption) ?_
      rotate_left
      · intro w hSw
        (try dsimp only at hSw)
        go_simp
        all_goals with_reducible rfl
      simp only [Act.put, List.setIfInBounds_toArray, List.set_cons_zero, List.set_cons_succ]
      as_aux_lemma =>
        refine take_listed (i := 40) (v := ?_) rfl (by kernel_rfl) (by kernel_rfl) (by kernel_rfl) (fun _ _ _ h => h) (Or.inl ⟨by rfl, ?_⟩) (by assumption) ?_
        rotate_left
        · intro w hSw
          (try dsimp only at hSw)
          go_simp
          all_goals with_reducible rfl
        simp only [Act.put, List.setIfInBounds_toArray, List.set_cons_zero, List.set_cons_succ]
        refine take_listed (i := 41) (v := ?_) rfl (by kernel_rfl) (by kernel_rfl) (by kernel_rfl) (fun _ _ _ h => h) (Or.inl ⟨by rfl, ?_⟩) (by assumption) ?_
        rotate_left
        · intro w hSw
          (try dsimp only at hSw)
          go_simp
          all_goals with_reducible rfl
        simp only [Act.put, List.setIfInBounds_toArray, List.set_cons_zero, List.set_cons_succ]
        refine wpAnyH_ready (rs := [42]) (by kernel_rfl) (by simp) ?_
        refine AllReadyH.cons rfl (fun K hK => ?_) AllReadyH.nil
        go_simp
        refine (full_lit 97 97 rfl _).mono ?_
        rintro e x1 ⟨f1, rfl, hr, hb⟩
        have tF1 := text64 hr (fullB_len 97)
        replace F := below_on F hb
        clear hr hb
        refine hK.out _ _ (HTX.out _ F) (fun hHeld => ?_)
        clear hK K
        try simp only [Act.put, List.setIfInBounds_toArray, List.set_cons_zero, List.set_cons_succ]
        refine wpAnyH_ready (rs := [43]) (by kernel_rfl) (by simp) ?_
        refine AllReadyH.cons rfl (fun K hK => ?_) AllReadyH.nil
        go_simp
        refine hK.out _ _ (HTX.out _ F) (fun hHeld => ?_)
        clear hK K
        try simp only [Act.put, List.setIfInBounds_toArray, List.set_cons_zero, List.set_cons_succ]
        refine take_listed (i := 44) (v := ?_) rfl (by kernel_rfl) (by kernel_rfl) (by kernel_rfl) (fun _ _ _ h => h) (Or.inl ⟨by rfl, ?_⟩) (by assumption) ?_
        rotate_left
        · intro w hSw
          (try dsimp only at hSw)
          go_simp
          all_goals with_reducible rfl
        simp only [Act.put, List.setIfInBounds_toArray, List.set_cons_zero, List.set_cons_succ]
        refine take_listed (i := 45) (v := ?_) rfl (by kernel_rfl) (by kernel_rfl) (by kernel_rfl) (fun _ _ _ h => h) (Or.inl ⟨by rfl, ?_⟩) (by assumption) ?_
        rotate_left
        · intro w hSw
          (try dsimp only at hSw)
          go_simp
          all_goals with_reducible rfl
        simp only [Act.put, List.setIfInBounds_toArray, List.set_cons_zero, List.set_cons_succ]
        refine take_listed (i := 46) (v := ?_) rfl (by kernel_rfl) (by kernel_rfl) (by kernel_rfl) (fun _ _ _ h => h) (Or.inl ⟨by rfl, ?_⟩) (by assumption) ?_
        rotate_left
        · intro w hSw
          (try dsimp only at hSw)
          go_simp
          all_goals with_reducible rfl
        simp only [Act.put, List.setIfInBounds_toArray, List.set_cons_zero, List.set_cons_succ]
        refine take_listed (i := 47) (v := ?_) rfl (by kernel_rfl) (by kernel_rfl) (by kernel_rfl) (fun _ _ _ h => h) (Or.inl ⟨by rfl, ?_⟩) (by assumption) ?_
        rotate_left
        · intro w hSw
          (try dsimp only at hSw)
          go_simp
          all_goals with_reducible rfl
        simp only [Act.put, List.setIfInBounds_toArray, List.set_cons_zero, List.set_cons_succ]
        refine take_listed (i := 48) (v := ?_) rfl (by kernel_rfl) (by kernel_rfl) (by kernel_rfl) (fun _ _ _ h => h) (Or.inl ⟨by rfl, ?_⟩) (by assumption) ?_
        rotate_left
        · intro w hSw
          (try dsimp only at hSw)
          go_simp
          all_goals with_reducible rfl
        simp only [Act.put, List.setIfInBounds_toArray, List.set_cons_zero, List.set_cons_succ]
        refine wpAnyH_ready (rs := [49]) (by kernel_rfl) (by simp) ?_
        refine AllReadyH.cons rfl (fun K hK => ?_) AllReadyH.nil
        have tz := text64 (zero64 x1).rd (by simp)
        change _ = Result.ok (Value.string ⟨zeroS.toArray⟩) _ at tz
        replace F := below_al F (.cells (madeCells #[.int .u8 0] 64) 5)
        go_simp
        refine hK.out _ _ (HTX.out _ F) (fun hHeld => ?_)
        clear hK K
        try simp only [Act.put, List.setIfInBounds_toArray, List.set_cons_zero, List.set_cons_succ]
        refine wpAnyH_ready (rs := [50]) (by kernel_rfl) (by simp) ?_
        refine AllReadyH.cons rfl (fun K hK => ?_) AllReadyH.nil
        go_simp
        refine hK.out _ _ (HTX.out _ F) (fun hHeld => ?_)
        clear hK K
        try simp only [Act.put, List.setIfInBounds_toArray, List.set_cons_zero, List.set_cons_succ]
        refine take_listed (i := 51) (v := ?_) rfl (by kernel_rfl) (by kernel_rfl) (by kernel_rfl) (fun _ _ _ h => h) (Or.inl ⟨by rfl, ?_⟩) (by assumption) ?_
        rotate_left
        · intro w hSw
          (try dsimp only at hSw)
          go_simp
          all_goals with_reducible rfl
        simp only [Act.put, List.setIfInBounds_toArray, List.set_cons_zero, List.set_cons_succ]
        refine take_listed (i := 52) (v := ?_) rfl (by kernel_rfl) (by kernel_rfl) (by kernel_rfl) (fun _ _ _ h => h) (Or.inl ⟨by rfl, ?_⟩) (by assumption) ?_
        rotate_left
        · intro w hSw
          (try dsimp only at hSw)
          go_simp
          all_goals with_reducible rfl
        simp only [Act.put, List.setIfInBounds_toArray, List.set_cons_zero, List.set_cons_succ]
        refine take_listed (i := 53) (v := ?_) rfl (by kernel_rfl) (by kernel_rfl) (by kernel_rfl) (fun _ _ _ h => h) (Or.inl ⟨by rfl, ?_⟩) (by assumption) ?_
        rotate_left
        · intro w hSw
          (try dsimp only at hSw)
          go_simp
          all_goals with_reducible rfl
        simp only [Act.put, List.setIfInBounds_toArray, List.set_cons_zero, List.set_cons_succ]
        refine take_listed (i := 54) (v := ?_) rfl (by kernel_rfl) (by kernel_rfl) (by kernel_rfl) (fun _ _ _ h => h) (Or.inl ⟨by rfl, ?_⟩) (by assumption) ?_
        rotate_left
        · intro w hSw
          (try dsimp only at hSw)
          go_simp
          all_goals with_reducible rfl
        simp only [Act.put, List.setIfInBounds_toArray, List.set_cons_zero, List.set_cons_succ]
        refine take_listed (i := 55) (v := ?_) rfl (by kernel_rfl) (by kernel_rfl) (by kernel_rfl) (fun _ _ _ h => h) (Or.inl ⟨by rfl, ?_⟩) (by assumption) ?_
        rotate_left
        · intro w hSw
          (try dsimp only at hSw)
          go_simp
          all_goals with_reducible rfl
        simp only [Act.put, List.setIfInBounds_toArray, List.set_cons_zero, List.set_cons_succ]
        refine wpAnyH_ready (rs := [56]) (by kernel_rfl) (by simp) ?_
        refine AllReadyH.cons rfl (fun K hK => ?_) AllReadyH.nil
        go_simp
        refine (full_lit 97 97 rfl _).mono ?_
        rintro e x2 ⟨f2, rfl, hr, hb⟩
        have tF2 := text64 hr (fullB_len 97)
        replace F := below_on F hb
        clear hr hb
        refine hK.out _ _ (HTX.out _ F) (fun hHeld => ?_)
        clear hK K
        try simp only [Act.put, List.setIfInBounds_toArray, List.set_cons_zero, List.set_cons_succ]
        refine wpAnyH_ready (rs := [57]) (by kernel_rfl) (by simp) ?_
        refine AllReadyH.cons rfl (fun K hK => ?_) AllReadyH.nil
        go_simp
        refine hK.out _ _ (HTX.out _ F) (fun hHeld => ?_)
        clear hK K
        try simp only [Act.put, List.setIfInBounds_toArray, List.set_cons_zero, List.set_cons_succ]
        refine take_listed (i := 58) (v := ?_) rfl (by kernel_rfl) (by kernel_rfl) (by kernel_rfl) (fun _ _ _ h => h) (Or.inl ⟨by rfl, ?_⟩) (by assumption) ?_
        rotate_left
        · intro w hSw
          (try dsimp only at hSw)
          go_simp
          all_goals with_reducible rfl
        simp only [Act.put, List.setIfInBounds_toArray, List.set_cons_zero, List.set_cons_succ]
        refine take_listed (i := 59) (v := ?_) rfl (by kernel_rfl) (by kernel_rfl) (by kernel_rfl) (fun _ _ _ h => h) (Or.inl ⟨by rfl, ?_⟩) (by assumption) ?_
        rotate_left
        · intro w hSw
          (try dsimp only at hSw)
          go_simp
          all_goals with_reducible rfl
        simp only [Act.put, List.setIfInBounds_toArray, List.set_cons_zero, List.set_cons_succ]
        as_aux_lemma =>
          refine take_listed (i := 60) (v := ?_) rfl (by kernel_rfl) (by kernel_rfl) (by kernel_rfl) (fun _ _ _ h => h) (Or.inl ⟨by rfl, ?_⟩) (by assumption) ?_
          rotate_left
          · intro w hSw
            (try dsimp only at hSw)
            go_simp
            all_goals with_reducible rfl
          simp only [Act.put, List.setIfInBounds_toArray, List.set_cons_zero, List.set_cons_succ]
          refine take_listed (i := 61) (v := ?_) rfl (by kernel_rfl) (by kernel_rfl) (by kernel_rfl) (fun _ _ _ h => h) (Or.inl ⟨by rfl, ?_⟩) (by assumption) ?_
          rotate_left
          · intro w hSw
            (try dsimp only at hSw)
            go_simp
            all_goals with_reducible rfl
          simp only [Act.put, List.setIfInBounds_toArray, List.set_cons_zero, List.set_cons_succ]
          refine take_listed (i := 62) (v := ?_) rfl (by kernel_rfl) (by kernel_rfl) (by kernel_rfl) (fun _ _ _ h => h) (Or.inl ⟨by rfl, ?_⟩) (by assumption) ?_
          rotate_left
          · intro w hSw
            (try dsimp only at hSw)
            go_simp
            all_goals with_reducible rfl
          simp only [Act.put, List.setIfInBounds_toArray, List.set_cons_zero, List.set_cons_succ]
          refine wpAnyH_ready (rs := [63]) (by kernel_rfl) (by simp) ?_
          refine AllReadyH.cons rfl (fun K hK => ?_) AllReadyH.nil
          go_simp
          refine (full_lit 97 97 rfl _).mono ?_
          rintro e x3 ⟨f3, rfl, hr, hb⟩
          have tF3 := text64 hr (fullB_len 97)
          replace F := below_on F hb
          clear hr hb
          refine hK.out _ _ (HTX.out _ F) (fun hHeld => ?_)
          clear hK K
          try simp only [Act.put, List.setIfInBounds_toArray, List.set_cons_zero, List.set_cons_succ]
          refine wpAnyH_ready (rs := [64]) (by kernel_rfl) (by simp) ?_
          refine AllReadyH.cons rfl (fun K hK => ?_) AllReadyH.nil
          go_simp
          refine hK.out _ _ (HTX.out _ F) (fun hHeld => ?_)
          clear hK K
          try simp only [Act.put, List.setIfInBounds_toArray, List.set_cons_zero, List.set_cons_succ]
          refine take_listed (i := 65) (v := ?_) rfl (by kernel_rfl) (by kernel_rfl) (by kernel_rfl) (fun _ _ _ h => h) (Or.inl ⟨by rfl, ?_⟩) (by assumption) ?_
          rotate_left
          · intro w hSw
            (try dsimp only at hSw)
            go_simp
            all_goals with_reducible rfl
          simp only [Act.put, List.setIfInBounds_toArray, List.set_cons_zero, List.set_cons_succ]
          refine take_listed (i := 66) (v := ?_) rfl (by kernel_rfl) (by kernel_rfl) (by kernel_rfl) (fun _ _ _ h => h) (Or.inl ⟨by rfl, ?_⟩) (by assumption) ?_
          rotate_left
          · intro w hSw
            (try dsimp only at hSw)
            go_simp
            all_goals with_reducible rfl
          simp only [Act.put, List.setIfInBounds_toArray, List.set_cons_zero, List.set_cons_succ]
          refine take_listed (i := 67) (v := ?_) rfl (by kernel_rfl) (by kernel_rfl) (by kernel_rfl) (fun _ _ _ h => h) (Or.inl ⟨by rfl, ?_⟩) (by assumption) ?_
          rotate_left
          · intro w hSw
            (try dsimp only at hSw)
            go_simp
            all_goals with_reducible rfl
          simp only [Act.put, List.setIfInBounds_toArray, List.set_cons_zero, List.set_cons_succ]
          refine take_listed (i := 68) (v := ?_) rfl (by kernel_rfl) (by kernel_rfl) (by kernel_rfl) (fun _ _ _ h => h) (Or.inl ⟨by rfl, ?_⟩) (by assumption) ?_
          rotate_left
          · intro w hSw
            (try dsimp only at hSw)
            go_simp
            all_goals with_reducible rfl
          simp only [Act.put, List.setIfInBounds_toArray, List.set_cons_zero, List.set_cons_succ]
          refine take_listed (i := 69) (v := ?_) rfl (by kernel_rfl) (by kernel_rfl) (by kernel_rfl) (fun _ _ _ h => h) (Or.inl ⟨by rfl, ?_⟩) (by assumption) ?_
          rotate_left
          · intro w hSw
            (try dsimp only at hSw)
            go_simp
            all_goals with_reducible rfl
          simp only [Act.put, List.setIfInBounds_toArray, List.set_cons_zero, List.set_cons_succ]
          refine wpAnyH_ready (rs := [70]) (by kernel_rfl) (by simp) ?_
          refine AllReadyH.cons rfl (fun K hK => ?_) AllReadyH.nil
          go_simp
          refine (full_lit 99 99 rfl _).mono ?_
          rintro e x4 ⟨f4, rfl, hr, hb⟩
          have tF4 := text64 hr (fullB_len 99)
          replace F := below_on F hb
          clear hr hb
          refine hK.out _ _ (HTX.out _ F) (fun hHeld => ?_)
          clear hK K
          try simp only [Act.put, List.setIfInBounds_toArray, List.set_cons_zero, List.set_cons_succ]
          refine wpAnyH_ready (rs := [71]) (by kernel_rfl) (by simp) ?_
          refine AllReadyH.cons rfl (fun K hK => ?_) AllReadyH.nil
          go_simp
          refine hK.out _ _ (HTX.out _ F) (fun hHeld => ?_)
          clear hK K
          try simp only [Act.put, List.setIfInBounds_toArray, List.set_cons_zero, List.set_cons_succ]
          refine take_listed (i := 72) (v := ?_) rfl (by kernel_rfl) (by kernel_rfl) (by kernel_rfl) (fun _ _ _ h => h) (Or.inl ⟨by rfl, ?_⟩) (by assumption) ?_
          rotate_left
          · intro w hSw
            (try dsimp only at hSw)
            go_simp
            all_goals with_reducible rfl
          simp only [Act.put, List.setIfInBounds_toArray, List.set_cons_zero, List.set_cons_succ]
          refine take_listed (i := 73) (v := ?_) rfl (by kernel_rfl) (by kernel_rfl) (by kernel_rfl) (fun _ _ _ h => h) (Or.inl ⟨by rfl, ?_⟩) (by assumption) ?_
          rotate_left
          · intro w hSw
            (try dsimp only at hSw)
            go_simp
            all_goals with_reducible rfl
          simp only [Act.put, List.setIfInBounds_toArray, List.set_cons_zero, List.set_cons_succ]
          refine take_listed (i := 74) (v := ?_) rfl (by kernel_rfl) (by kernel_rfl) (by kernel_rfl) (fun _ _ _ h => h) (Or.inl ⟨by rfl, ?_⟩) (by assumption) ?_
          rotate_left
          · intro w hSw
            (try dsimp only at hSw)
            go_simp
            all_goals with_reducible rfl
          simp only [Act.put, List.setIfInBounds_toArray, List.set_cons_zero, List.set_cons_succ]
          refine take_listed (i := 75) (v := ?_) rfl (by kernel_rfl) (by kernel_rfl) (by kernel_rfl) (fun _ _ _ h => h) (Or.inl ⟨by rfl, ?_⟩) (by assumption) ?_
          rotate_left
          · intro w hSw
            (try dsimp only at hSw)
            go_simp
            all_goals with_reducible rfl
          simp only [Act.put, List.setIfInBounds_toArray, List.set_cons_zero, List.set_cons_succ]
          refine wpAnyH_ready (rs := [76]) (by kernel_rfl) (by simp) ?_
          refine AllReadyH.cons rfl (fun K hK => ?_) AllReadyH.nil
          go_simp
          refine (dknum_any _ _).mono ?_
          rintro e9 w9 ⟨rfl, h9⟩
          rw [← h9]
          clear h9 w9
          refine hK.out _ _ (HTX.out _ F) (fun hHeld => ?_)
          clear hK K
          try simp only [Act.put, List.setIfInBounds_toArray, List.set_cons_zero, List.set_cons_succ]
          refine take_listed (i := 77) (v := ?_) rfl (by kernel_rfl) (by kernel_rfl) (by kernel_rfl) (fun _ _ _ h => h) (Or.inl ⟨by rfl, ?_⟩) (by assumption) ?_
          rotate_left
          · intro w hSw
            (try dsimp only at hSw)
            go_simp
            all_goals with_reducible rfl
          simp only [Act.put, List.setIfInBounds_toArray, List.set_cons_zero, List.set_cons_succ]
          refine take_listed (i := 78) (v := ?_) rfl (by kernel_rfl) (by kernel_rfl) (by kernel_rfl) (fun _ _ _ h => h) (Or.inl ⟨by rfl, ?_⟩) (by assumption) ?_
          rotate_left
          · intro w hSw
            (try dsimp only at hSw)
            go_simp
            all_goals with_reducible rfl
          simp only [Act.put, List.setIfInBounds_toArray, List.set_cons_zero, List.set_cons_succ]
          refine take_listed (i := 79) (v := ?_) rfl (by kernel_rfl) (by kernel_rfl) (by kernel_rfl) (fun _ _ _ h => h) (Or.inl ⟨by rfl, ?_⟩) (by assumption) ?_
          rotate_left
          · intro w hSw
            (try dsimp only at hSw)
            go_simp
            all_goals with_reducible rfl
          simp only [Act.put, List.setIfInBounds_toArray, List.set_cons_zero, List.set_cons_succ]
          refine take_listed (i := 80) (v := ?_) rfl (by kernel_rfl) (by kernel_rfl) (by kernel_rfl) (fun _ _ _ h => h) (Or.inl ⟨by rfl, ?_⟩) (by assumption) ?_
          rotate_left
          · intro w hSw
            (try dsimp only at hSw)
            go_simp
            all_goals with_reducible rfl
          simp only [Act.put, List.setIfInBounds_toArray, List.set_cons_zero, List.set_cons_succ]
          refine wpAnyH_ready (rs := [81]) (by kernel_rfl) (by simp) ?_
          refine AllReadyH.cons rfl (fun K hK => ?_) AllReadyH.nil
          go_simp
          refine (dknum_any _ _).mono ?_
          rintro e9 w9 ⟨rfl, h9⟩
          rw [← h9]
          clear h9 w9
          refine hK.out _ _ (HTX.out _ F) (fun hHeld => ?_)
          clear hK K
          try simp only [Act.put, List.setIfInBounds_toArray, List.set_cons_zero, List.set_cons_succ]
          refine take_listed (i := 82) (v := ?_) rfl (by kernel_rfl) (by kernel_rfl) (by kernel_rfl) (fun _ _ _ h => h) (Or.inl ⟨by rfl, ?_⟩) (by assumption) ?_
          rotate_left
          · intro w hSw
            (try dsimp only at hSw)
            go_simp
            all_goals with_reducible rfl
          simp only [Act.put, List.setIfInBounds_toArray, List.set_cons_zero, List.set_cons_succ]
          refine take_listed (i := 83) (v := ?_) rfl (by kernel_rfl) (by kernel_rfl) (by kernel_rfl) (fun _ _ _ h => h) (Or.inl ⟨by rfl, ?_⟩) (by assumption) ?_
          rotate_left
          · intro w hSw
            (try dsimp only at hSw)
            go_simp
            all_goals with_reducible rfl
          simp only [Act.put, List.setIfInBounds_toArray, List.set_cons_zero, List.set_cons_succ]
          refine take_listed (i := 84) (v := ?_) rfl (by kernel_rfl) (by kernel_rfl) (by kernel_rfl) (fun _ _ _ h => h) (Or.inl ⟨by rfl, ?_⟩) (by assumption) ?_
          rotate_left
          · intro w hSw
            (try dsimp only at hSw)
            go_simp
            all_goals with_reducible rfl
          simp only [Act.put, List.setIfInBounds_toArray, List.set_cons_zero, List.set_cons_succ]
          refine take_listed (i := 85) (v := ?_) rfl (by kernel_rfl) (by kernel_rfl) (by kernel_rfl) (fun _ _ _ h => h) (Or.inl ⟨by rfl, ?_⟩) (by assumption) ?_
          rotate_left
          · intro w hSw
            (try dsimp only at hSw)
            go_simp
            all_goals with_reducible rfl
          simp only [Act.put, List.setIfInBounds_toArray, List.set_cons_zero, List.set_cons_succ]
          refine wpAnyH_ready (rs := [86]) (by kernel_rfl) (by simp) ?_
          refine AllReadyH.cons rfl (fun K hK => ?_) AllReadyH.nil
          go_simp
          refine (dknum_any _ _).mono ?_
          rintro e9 w9 ⟨rfl, h9⟩
          rw [← h9]
          clear h9 w9
          refine hK.out _ _ (HTX.out _ F) (fun hHeld => ?_)
          clear hK K
          try simp only [Act.put, List.setIfInBounds_toArray, List.set_cons_zero, List.set_cons_succ]
          refine take_listed (i := 87) (v := ?_) rfl (by kernel_rfl) (by kernel_rfl) (by kernel_rfl) (fun _ _ _ h => h) (Or.inl ⟨by rfl, ?_⟩) (by assumption) ?_
          rotate_left
          · intro w hSw
            (try dsimp only at hSw)
            go_simp
            all_goals with_reducible rfl
          simp only [Act.put, List.setIfInBounds_toArray, List.set_cons_zero, List.set_cons_succ]
          refine take_listed (i := 88) (v := ?_) rfl (by kernel_rfl) (by kernel_rfl) (by kernel_rfl) (fun _ _ _ h => h) (Or.inl ⟨by rfl, ?_⟩) (by assumption) ?_
          rotate_left
          · intro w hSw
            (try dsimp only at hSw)
            go_simp
            all_goals with_reducible rfl
          simp only [Act.put, List.setIfInBounds_toArray, List.set_cons_zero, List.set_cons_succ]
          refine take_listed (i := 89) (v := ?_) rfl (by kernel_rfl) (by kernel_rfl) (by kernel_rfl) (fun _ _ _ h => h) (Or.inl ⟨by rfl, ?_⟩) (by assumption) ?_
          rotate_left
          · intro w hSw
            (try dsimp only at hSw)
            go_simp
            all_goals with_reducible rfl
          simp only [Act.put, List.setIfInBounds_toArray, List.set_cons_zero, List.set_cons_succ]
          clear hHeld
          refine wpAnyH_done (by kernel_rfl) ?_ _
          have HF := Lib.hid F
          clear F
          go_wp2_with fail
          go_ret
          exact ⟨rfl, below_on HBw.out HF.out⟩

end Go.Proofs.Ytekeooeapiodmaa

