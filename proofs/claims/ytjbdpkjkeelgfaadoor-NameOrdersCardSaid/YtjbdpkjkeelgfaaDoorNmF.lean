/- Package name reads an endpoint's text: all of it. -/
import Derived.Test.YtjbdpkjkeelgfaaDoorNmE
namespace Go.Proofs.YtjbdpkjkeelgfaaDoor
open Go Go.RowKit Go.Shelf
set_option linter.unusedSimpArgs false
set_option linter.unusedVariables false

/-- What endpoint answers. -/
def EndP (w : World) (R : Nat) (s : List UInt8) (e : Ending) (w' : World) : Prop :=
  Bt R w w' ∧ match epN s with
    | some (n, m) => e = .returned (.agg #[.int .u32 n, .int .u32 m])
    | none => e = gives 130

theorem endP_no {w w' : World} {R : Nat} {s : List UInt8} (hb : Bt R w w') (h : epN s = none) : EndP w R s (gives 130) w' := ⟨hb, by rw [h]⟩
theorem endP_yes {w w' : World} {R n m : Nat} {s : List UInt8} (hb : Bt R w w') (h : epN s = some (n, m)) : EndP w R s (.returned (.agg #[.int .u32 n, .int .u32 m])) w' := ⟨hb, by rw [h]⟩

theorem ep_cut {s : List UInt8} (h : cutL 58 s = none) : epN s = none := by simp [epN, h]
theorem ep_dtn {s b : List UInt8} (h : cutL 58 s = some (wDtn, b)) : epN s = if b = wNone then some (0, 0) else none := by simp [epN, h]
theorem ep_else {s a b : List UInt8} (h : cutL 58 s = some (a, b)) (h1 : a ≠ wDtn) (h2 : a ≠ wIpn) : epN s = none := by simp [epN, h, h1, h2]
theorem ep_ipn {s b : List UInt8} (h : cutL 58 s = some (wIpn, b)) : epN s = match cutL 46 b with
      | none => none
      | some (x, y) => match numN x, numN y with
        | some n, some m => if sv n m = true then some (n, m) else none
        | _, _ => none := by
  have h1 : ¬ wIpn = wDtn := by decide
  simp only [epN, h, h1, if_false, if_true]
  cases cutL 46 b with
  | none => rfl
  | some p =>
    obtain ⟨x, y⟩ := p
    simp only []
    cases numN x with
    | none => rfl
    | some n =>
      cases numN y with
      | none => rfl
      | some m => simp [sv]

theorem cut_len {c : UInt8} {s a b : List UInt8} (h : cutL c s = some (a, b)) : a.length ≤ s.length ∧ b.length ≤ s.length := by
  obtain ⟨rfl, _⟩ := cutL_iff.1 h
  simp
  omega

theorem Bt.put {R : Nat} {w w' : World} (h : Bt R w w') {p : Addr} (hp : w.heap.size ≤ p.block) (v : Value) : Bt R w (w'.setCell p v) :=
  ⟨h.os, h.tape, h.output, by rw [World.size_setCell]; exact h.size, fun k hk hne => (Below.heap_setCell w' _ _ k (by omega)).trans (h.block k hk hne)⟩

theorem Bt.drew {R : Nat} {w w' : World} (h : Bt R w w') : Bt R w w'.drew := ⟨h.os, h.tape, h.output, h.size, h.block⟩

theorem put2 {w : World} {b : Nat} {a0 a1 : Value} (v0 v1 : Value) (h0 : w.cell? ⟨b, 0, none⟩ = some a0) (h1 : w.cell? ⟨b, 1, none⟩ = some a1) :
    ((w.setCell ⟨b, 0, none⟩ v0).setCell ⟨b, 1, none⟩ v1).cell? ⟨b, 0, none⟩ = some v0 ∧ ((w.setCell ⟨b, 0, none⟩ v0).setCell ⟨b, 1, none⟩ v1).cell? ⟨b, 1, none⟩ = some v1 :=
  ⟨(World.cell?_setCell_other _ _ _ _ (by simp)).trans (World.cell?_setCell_same _ _ _ h0), World.cell?_setCell_same _ _ _ ((World.cell?_setCell_other _ _ _ _ (by simp)).trans h1)⟩

/-- One operation alone may come up now. -/
theorem wpAny_one {P : Program} {md : Region.Mode} {ops : Array Oper} {Q : Exit → Act → World → Prop} {fuel : Nat} {listed : Array Bool} {a : Act} {w : World} {i : Nat} {o : Oper} (hr : Region.ready md ops listed = [i]) (ho : ops[i]? = some o)
    (h : ∀ K' : Act → World → Prop, (∀ a w, wpAny P md ops Q fuel (listed.setIfInBounds i true) a w → K' a w) → if Region.wanted o (yielded ops a.tmps) = true then Oper.wp P o a w K' Q else K' (a.put o.dst undef) w) : wpAny P md ops Q (fuel + 1) listed a w :=
  wpAny_ready hr (by simp) (AllReady.cons ho h AllReady.nil)

/-- A giving up, written out. -/
def givesW (c : Int) : Ending := .panicked [{ v := .iface 25 (.int .i64 c), recovered := false }]

set_option maxRecDepth 100000 in
set_option maxHeartbeats 4000000 in
theorem endpoint_any (R : Nat) (s : List UInt8) (hs : s.length ≤ 140737488355328) (w : World) (ht : TabN w) (hR : Up R) (h : TS w R s) :
    Calls Tryd.prog 41 #[.pointer (some ⟨R, 0, none⟩)] w (EndP w R s) := by
  obtain ⟨W, hW⟩ : ∃ W, W = w.alloc (.cells #[.int .u32 0, .int .u32 0] 24) := ⟨_, rfl⟩
  have HT := Lib.hid ht
  have hbW : Below w.heap.size w W := by rw [hW]; exact below_al (Below.refl _ _) _
  have HBW := Lib.hid hbW
  have HTS := Lib.hid (h.on hbW)
  have hRw := h.2.2
  have hsW : W.heap.size ≤ w.heap.size + 1 ∧ w.heap.size + 1 ≤ W.heap.size := by rw [hW]; simp
  have hc0 : W.cell? ⟨w.heap.size, 0, none⟩ = some (.int .u32 0) := by rw [hW]; simp
  have hc1 : W.cell? ⟨w.heap.size, 1, none⟩ = some (.int .u32 0) := by rw [hW]; simp
  have hf0 : W.frozen? ⟨w.heap.size, 0, none⟩ = false := by rw [hW]; simp
  have hf1 : W.frozen? ⟨w.heap.size, 1, none⟩ = false := by rw [hW]; simp
  have HC : Hid (∀ w', Bt R W w' → (w'.cell? ⟨w.heap.size, 0, none⟩ = some (.int .u32 0) ∧ w'.cell? ⟨w.heap.size, 1, none⟩ = some (.int .u32 0)) ∧ (w'.frozen? ⟨w.heap.size, 0, none⟩ = false ∧ w'.frozen? ⟨w.heap.size, 1, none⟩ = false)) := fun w' hb =>
    ⟨⟨(hb.cell (by omega) (by omega)).trans hc0, (hb.cell (by omega) (by omega)).trans hc1⟩, (hb.frozen (by omega) (by omega)).trans hf0, (hb.frozen (by omega) (by omega)).trans hf1⟩
  have HTW : Hid (∀ w', Bt R W w' → TabN w') := fun w' hb => (HT.out.on hbW).bt hb hR
  have HW := Lib.hid hW
  clear ht h hc0 hc1 hf0 hf1 hW hbW
  go_enter Tryd.func41, Tryd.ntmps41
  go_wp2_with fail
  rw [← HW.out]
  cases hc : cutL 58 s with
  | none =>
    refine (until_no (c := 58) (by decide) hs hc W HTS.out).mono ?_
    rintro e w1 ⟨rfl, hb⟩
    have HB := Lib.hid hb
    clear hb
    rw [gives_def]
    go_wp2_with fail
    exact ⟨rfl, endP_no ((Bt.of_below HBW.out).trans HB.out) (ep_cut hc)⟩
  | some p =>
    obtain ⟨a, b⟩ := p
    refine (until_yes (c := 58) (by decide) hs hc W HTS.out).mono ?_
    rintro e w1 ⟨rfl, hb, hts⟩
    have HB1 := Lib.hid hb
    have HTS1 := Lib.hid hts
    have hsz1 := hb.size
    obtain ⟨hla, hlb⟩ := cut_len hc
    have HCU := Lib.hid hc
    clear hb hts hc
    by_cases ha : a = wDtn
    · subst ha
      obtain ⟨x, hx⟩ : ∃ x, x = (b == wNone) := ⟨_, rfl⟩
      have HX := Lib.hid hx
      have hq : (b == [110, 111, 110, 101]) = x := hx.symm
      clear hx
      unfold wDtn
      go_wp2_with fail
      refine (rest_any R b w1 HTS1.out).mono ?_
      rintro e w2 ⟨rfl, hb, hts⟩
      have HB2 := Lib.hid (HB1.out.trans hb)
      clear hb hts
      obtain ⟨⟨c0, c1⟩, f0, f1⟩ := HC.out w2 HB2.out
      cases x
      · go_wp2_with fail
        refine (need_no _).mono ?_
        rintro e w3 ⟨rfl, rfl⟩
        rw [gives_def]
        go_wp2_with fail
        refine ⟨rfl, endP_no ((Bt.of_below HBW.out).trans HB2.out) ?_⟩
        have := HX.out
        simp at this
        rw [ep_dtn HCU.out, if_neg this]
      · go_wp2_with fail
        refine (need_yes _).mono ?_
        rintro e w3 ⟨rfl, rfl⟩
        go_wp2_with fail
        obtain ⟨e0, e1⟩ := put2 (.int .u32 0) (.int .u32 0) c0 c1
        have HBE := Lib.hid ((((Bt.of_below (R := R) HBW.out).trans HB2.out).put (p := ⟨w.heap.size, 0, none⟩) (Nat.le_refl _) (.int .u32 0)).put (p := ⟨w.heap.size, 1, none⟩) (Nat.le_refl _) (.int .u32 0))
        refine bodyPost_ret (v := .agg #[.int .u32 0, .int .u32 0]) (by simp [results, Tryd.results41, go_sem, e0, e1]) rfl (endP_yes (n := 0) (m := 0) HBE.out ?_)
        have := HX.out
        simp at this
        rw [ep_dtn HCU.out, if_pos this]
    · by_cases hi : a = wIpn
      · subst hi
        have HIP := Lib.hid (ep_ipn HCU.out)
        have hTS1 := HTS1.out
        have HU : Hid (∀ x y, cutL 46 b = some (x, y) → ∀ w, TS w R b → Calls Tryd.prog 71 #[.pointer (some ⟨R, 0, none⟩), .int .i32 46] w fun e w' => e = .returned (.string ⟨x.toArray⟩) ∧ Bt R w w' ∧ TS w' R y) := fun x y h w ht => until_yes (c := 46) (by decide) (by omega) h w ht
        have HUN : Hid (cutL 46 b = none → ∀ w, TS w R b → Calls Tryd.prog 71 #[.pointer (some ⟨R, 0, none⟩), .int .i32 46] w fun e w' => e = .panicked [{ v := .iface 25 (.int .i64 130), recovered := false }] ∧ Bt R w w') := fun h w ht => until_no (c := 46) (by decide) (by omega) h w ht
        clear hTS1 ha
        unfold wIpn
        go_wp2_with fail
        have F0 : Bt R w1 w1.drew := (Bt.refl R w1).drew
        have HTd := Lib.hid (show TS w1.drew R b from HTS1.out)
        have HTab : Hid (∀ w', Bt R w1 w' → TabN w') := fun w' h => HTW.out w' (HB1.out.trans h)
        cases hc2 : cutL 46 b with
        | none =>
          have HU1 := Lib.hid (HUN.out hc2)
          have HEND : Hid (∀ w2, Bt R w1 w2 → EndP w R s (.panicked [{ v := .iface 25 (.int .i64 130), recovered := false }]) w2) := fun w2 h2 => endP_no (((Bt.of_below HBW.out).trans HB1.out).trans h2) (by rw [HIP.out, hc2])
          clear hc2
          refine wp_region_any (by kernel_rfl) ?_
          change wpAny _ _ _ _ 12 _ _ (World.drew _)
          refine wpAny_take (i := 0) (v := ?_) rfl (by kernel_rfl) (by kernel_rfl) (by kernel_rfl) (fun _ _ _ h => h) (Or.inl ⟨by rfl, ?_⟩) ?_
          rotate_left
          · intro w
            go_simp
            all_goals with_reducible rfl
          simp only [Act.put, List.setIfInBounds_toArray, List.set_cons_zero, List.set_cons_succ]
          refine wpAny_take (i := 1) (v := ?_) rfl (by kernel_rfl) (by kernel_rfl) (by kernel_rfl) (fun _ _ _ h => h) (Or.inl ⟨by rfl, ?_⟩) ?_
          rotate_left
          · intro w
            go_simp
            all_goals with_reducible rfl
          simp only [Act.put, List.setIfInBounds_toArray, List.set_cons_zero, List.set_cons_succ]
          refine wpAny_take (i := 2) (v := ?_) rfl (by kernel_rfl) (by kernel_rfl) (by kernel_rfl) (fun _ _ _ h => h) (Or.inl ⟨by rfl, ?_⟩) ?_
          rotate_left
          · intro w
            go_simp
            all_goals with_reducible rfl
          simp only [Act.put, List.setIfInBounds_toArray, List.set_cons_zero, List.set_cons_succ]
          refine wpAny_take (i := 5) (v := ?_) rfl (by kernel_rfl) (by kernel_rfl) (by kernel_rfl) (fun _ _ _ h => h) (Or.inl ⟨by rfl, ?_⟩) ?_
          rotate_left
          · intro w
            go_simp
            all_goals with_reducible rfl
          simp only [Act.put, List.setIfInBounds_toArray, List.set_cons_zero, List.set_cons_succ]
          refine wpAny_take (i := 6) (v := ?_) rfl (by kernel_rfl) (by kernel_rfl) (by kernel_rfl) (fun _ _ _ h => h) (Or.inl ⟨by rfl, ?_⟩) ?_
          rotate_left
          · intro w
            go_simp
            all_goals with_reducible rfl
          simp only [Act.put, List.setIfInBounds_toArray, List.set_cons_zero, List.set_cons_succ]
          refine wpAny_take (i := 7) (v := ?_) rfl (by kernel_rfl) (by kernel_rfl) (by kernel_rfl) (fun _ _ _ h => h) (Or.inl ⟨by rfl, ?_⟩) ?_
          rotate_left
          · intro w
            go_simp
            all_goals with_reducible rfl
          simp only [Act.put, List.setIfInBounds_toArray, List.set_cons_zero, List.set_cons_succ]
          refine wpAny_one (i := 3) (by kernel_rfl) rfl (fun K hK => ?_)
          go_simp
          refine (HU1.out _ HTd.out).mono ?_
          rintro e w2 ⟨rfl, hb2⟩
          exact ⟨rfl, HEND.out w2 (F0.trans hb2)⟩
        | some p =>
          obtain ⟨x, y⟩ := p
          have HU1 := Lib.hid (HU.out x y hc2)
          obtain ⟨hlx, hly⟩ := cut_len hc2
          cases hnx : numN x with
          | none =>
            have HNx : Hid (∀ w, TabN w → Calls Tryd.prog 75 #[.string ⟨x.toArray⟩] w fun e w' => e = .panicked [{ v := .iface 25 (.int .i64 130), recovered := false }] ∧ Below w.heap.size w w') := fun w ht => number_no (by omega) hnx w ht
            have HEND : Hid (∀ w2, Bt R w1 w2 → EndP w R s (.panicked [{ v := .iface 25 (.int .i64 130), recovered := false }]) w2) := fun w2 h2 => endP_no (((Bt.of_below HBW.out).trans HB1.out).trans h2) (by rw [HIP.out, hc2]; simp only []; rw [hnx])
            clear hc2 hnx
            refine wp_region_any (by kernel_rfl) ?_
            change wpAny _ _ _ _ 12 _ _ (World.drew _)
            refine wpAny_take (i := 0) (v := ?_) rfl (by kernel_rfl) (by kernel_rfl) (by kernel_rfl) (fun _ _ _ h => h) (Or.inl ⟨by rfl, ?_⟩) ?_
            rotate_left
            · intro w
              go_simp
              all_goals with_reducible rfl
            simp only [Act.put, List.setIfInBounds_toArray, List.set_cons_zero, List.set_cons_succ]
            refine wpAny_take (i := 1) (v := ?_) rfl (by kernel_rfl) (by kernel_rfl) (by kernel_rfl) (fun _ _ _ h => h) (Or.inl ⟨by rfl, ?_⟩) ?_
            rotate_left
            · intro w
              go_simp
              all_goals with_reducible rfl
            simp only [Act.put, List.setIfInBounds_toArray, List.set_cons_zero, List.set_cons_succ]
            refine wpAny_take (i := 2) (v := ?_) rfl (by kernel_rfl) (by kernel_rfl) (by kernel_rfl) (fun _ _ _ h => h) (Or.inl ⟨by rfl, ?_⟩) ?_
            rotate_left
            · intro w
              go_simp
              all_goals with_reducible rfl
            simp only [Act.put, List.setIfInBounds_toArray, List.set_cons_zero, List.set_cons_succ]
            refine wpAny_take (i := 5) (v := ?_) rfl (by kernel_rfl) (by kernel_rfl) (by kernel_rfl) (fun _ _ _ h => h) (Or.inl ⟨by rfl, ?_⟩) ?_
            rotate_left
            · intro w
              go_simp
              all_goals with_reducible rfl
            simp only [Act.put, List.setIfInBounds_toArray, List.set_cons_zero, List.set_cons_succ]
            refine wpAny_take (i := 6) (v := ?_) rfl (by kernel_rfl) (by kernel_rfl) (by kernel_rfl) (fun _ _ _ h => h) (Or.inl ⟨by rfl, ?_⟩) ?_
            rotate_left
            · intro w
              go_simp
              all_goals with_reducible rfl
            simp only [Act.put, List.setIfInBounds_toArray, List.set_cons_zero, List.set_cons_succ]
            refine wpAny_take (i := 7) (v := ?_) rfl (by kernel_rfl) (by kernel_rfl) (by kernel_rfl) (fun _ _ _ h => h) (Or.inl ⟨by rfl, ?_⟩) ?_
            rotate_left
            · intro w
              go_simp
              all_goals with_reducible rfl
            simp only [Act.put, List.setIfInBounds_toArray, List.set_cons_zero, List.set_cons_succ]
            refine wpAny_one (i := 3) (by kernel_rfl) rfl (fun K hK => ?_)
            go_simp
            refine (HU1.out _ HTd.out).mono ?_
            rintro e w2 ⟨rfl, hb2, hts2⟩
            have F1 := F0.trans hb2
            have HT2 := Lib.hid hts2
            refine hK _ _ ?_
            clear hK K
            try simp only [Act.put, List.setIfInBounds_toArray, List.set_cons_zero, List.set_cons_succ]
            refine wpAny_one (i := 4) (by kernel_rfl) rfl (fun K hK => ?_)
            go_simp
            refine (HNx.out _ (HTab.out _ F1)).mono ?_
            rintro e w3 ⟨rfl, hb3⟩
            exact ⟨rfl, HEND.out w3 (F1.trans (Bt.of_below hb3))⟩
          | some n =>
            have HNx : Hid (∀ w, TabN w → Calls Tryd.prog 75 #[.string ⟨x.toArray⟩] w fun e w' => e = .returned (.int .u64 n) ∧ Below w.heap.size w w') := fun w ht => number_yes (by omega) hnx w ht
            cases hny : numN y with
            | none =>
              have HNy : Hid (∀ w, TabN w → Calls Tryd.prog 75 #[.string ⟨y.toArray⟩] w fun e w' => e = .panicked [{ v := .iface 25 (.int .i64 130), recovered := false }] ∧ Below w.heap.size w w') := fun w ht => number_no (by omega) hny w ht
              have HEND : Hid (∀ w2, Bt R w1 w2 → EndP w R s (.panicked [{ v := .iface 25 (.int .i64 130), recovered := false }]) w2) := fun w2 h2 => endP_no (((Bt.of_below HBW.out).trans HB1.out).trans h2) (by rw [HIP.out, hc2]; simp only []; rw [hnx, hny])
              clear hc2 hnx hny
              refine wp_region_any (by kernel_rfl) ?_
              change wpAny _ _ _ _ 12 _ _ (World.drew _)
              refine wpAny_take (i := 0) (v := ?_) rfl (by kernel_rfl) (by kernel_rfl) (by kernel_rfl) (fun _ _ _ h => h) (Or.inl ⟨by rfl, ?_⟩) ?_
              rotate_left
              · intro w
                go_simp
                all_goals with_reducible rfl
              simp only [Act.put, List.setIfInBounds_toArray, List.set_cons_zero, List.set_cons_succ]
              refine wpAny_take (i := 1) (v := ?_) rfl (by kernel_rfl) (by kernel_rfl) (by kernel_rfl) (fun _ _ _ h => h) (Or.inl ⟨by rfl, ?_⟩) ?_
              rotate_left
              · intro w
                go_simp
                all_goals with_reducible rfl
              simp only [Act.put, List.setIfInBounds_toArray, List.set_cons_zero, List.set_cons_succ]
              refine wpAny_take (i := 2) (v := ?_) rfl (by kernel_rfl) (by kernel_rfl) (by kernel_rfl) (fun _ _ _ h => h) (Or.inl ⟨by rfl, ?_⟩) ?_
              rotate_left
              · intro w
                go_simp
                all_goals with_reducible rfl
              simp only [Act.put, List.setIfInBounds_toArray, List.set_cons_zero, List.set_cons_succ]
              refine wpAny_take (i := 5) (v := ?_) rfl (by kernel_rfl) (by kernel_rfl) (by kernel_rfl) (fun _ _ _ h => h) (Or.inl ⟨by rfl, ?_⟩) ?_
              rotate_left
              · intro w
                go_simp
                all_goals with_reducible rfl
              simp only [Act.put, List.setIfInBounds_toArray, List.set_cons_zero, List.set_cons_succ]
              refine wpAny_take (i := 6) (v := ?_) rfl (by kernel_rfl) (by kernel_rfl) (by kernel_rfl) (fun _ _ _ h => h) (Or.inl ⟨by rfl, ?_⟩) ?_
              rotate_left
              · intro w
                go_simp
                all_goals with_reducible rfl
              simp only [Act.put, List.setIfInBounds_toArray, List.set_cons_zero, List.set_cons_succ]
              refine wpAny_take (i := 7) (v := ?_) rfl (by kernel_rfl) (by kernel_rfl) (by kernel_rfl) (fun _ _ _ h => h) (Or.inl ⟨by rfl, ?_⟩) ?_
              rotate_left
              · intro w
                go_simp
                all_goals with_reducible rfl
              simp only [Act.put, List.setIfInBounds_toArray, List.set_cons_zero, List.set_cons_succ]
              refine wpAny_one (i := 3) (by kernel_rfl) rfl (fun K hK => ?_)
              go_simp
              refine (HU1.out _ HTd.out).mono ?_
              rintro e w2 ⟨rfl, hb2, hts2⟩
              have F1 := F0.trans hb2
              have HT2 := Lib.hid hts2
              refine hK _ _ ?_
              clear hK K
              try simp only [Act.put, List.setIfInBounds_toArray, List.set_cons_zero, List.set_cons_succ]
              refine wpAny_one (i := 4) (by kernel_rfl) rfl (fun K hK => ?_)
              go_simp
              refine (HNx.out _ (HTab.out _ F1)).mono ?_
              rintro e w3 ⟨rfl, hb3⟩
              have F2 := F1.trans (Bt.of_below (R := R) hb3)
              have HT3 := Lib.hid (HT2.out.on hb3)
              refine hK _ _ ?_
              clear hK K
              try simp only [Act.put, List.setIfInBounds_toArray, List.set_cons_zero, List.set_cons_succ]
              refine wpAny_one (i := 8) (by kernel_rfl) rfl (fun K hK => ?_)
              go_simp
              refine (rest_any R y _ HT3.out).mono ?_
              rintro e w4 ⟨rfl, hb4, hts4⟩
              have F3 := F2.trans hb4
              refine hK _ _ ?_
              clear hK K
              try simp only [Act.put, List.setIfInBounds_toArray, List.set_cons_zero, List.set_cons_succ]
              refine wpAny_one (i := 9) (by kernel_rfl) rfl (fun K hK => ?_)
              go_simp
              refine (HNy.out _ (HTab.out _ F3)).mono ?_
              rintro e w5 ⟨rfl, hb5⟩
              exact ⟨rfl, HEND.out w5 (F3.trans (Bt.of_below hb5))⟩
            | some m =>
              have HNy : Hid (∀ w, TabN w → Calls Tryd.prog 75 #[.string ⟨y.toArray⟩] w fun e w' => e = .returned (.int .u64 m) ∧ Below w.heap.size w w') := fun w ht => number_yes (by omega) hny w ht
              cases hsv : sv n m with
              | false =>
                have HSV : Hid (∀ w, Calls Tryd.prog 74 #[.int .u64 n, .int .u64 m] w fun e w' => e = .panicked [{ v := .iface 25 (.int .i64 130), recovered := false }] ∧ Below w.heap.size w w') := fun w => served_no n m hsv w
                have HEND : Hid (∀ w2, Bt R w1 w2 → EndP w R s (.panicked [{ v := .iface 25 (.int .i64 130), recovered := false }]) w2) := fun w2 h2 => endP_no (((Bt.of_below HBW.out).trans HB1.out).trans h2) (by rw [HIP.out, hc2]; simp only []; rw [hnx, hny]; simp only []; rw [hsv]; rfl)
                clear hc2 hnx hny hsv
                refine wp_region_any (by kernel_rfl) ?_
                change wpAny _ _ _ _ 12 _ _ (World.drew _)
                refine wpAny_take (i := 0) (v := ?_) rfl (by kernel_rfl) (by kernel_rfl) (by kernel_rfl) (fun _ _ _ h => h) (Or.inl ⟨by rfl, ?_⟩) ?_
                rotate_left
                · intro w
                  go_simp
                  all_goals with_reducible rfl
                simp only [Act.put, List.setIfInBounds_toArray, List.set_cons_zero, List.set_cons_succ]
                refine wpAny_take (i := 1) (v := ?_) rfl (by kernel_rfl) (by kernel_rfl) (by kernel_rfl) (fun _ _ _ h => h) (Or.inl ⟨by rfl, ?_⟩) ?_
                rotate_left
                · intro w
                  go_simp
                  all_goals with_reducible rfl
                simp only [Act.put, List.setIfInBounds_toArray, List.set_cons_zero, List.set_cons_succ]
                refine wpAny_take (i := 2) (v := ?_) rfl (by kernel_rfl) (by kernel_rfl) (by kernel_rfl) (fun _ _ _ h => h) (Or.inl ⟨by rfl, ?_⟩) ?_
                rotate_left
                · intro w
                  go_simp
                  all_goals with_reducible rfl
                simp only [Act.put, List.setIfInBounds_toArray, List.set_cons_zero, List.set_cons_succ]
                refine wpAny_take (i := 5) (v := ?_) rfl (by kernel_rfl) (by kernel_rfl) (by kernel_rfl) (fun _ _ _ h => h) (Or.inl ⟨by rfl, ?_⟩) ?_
                rotate_left
                · intro w
                  go_simp
                  all_goals with_reducible rfl
                simp only [Act.put, List.setIfInBounds_toArray, List.set_cons_zero, List.set_cons_succ]
                refine wpAny_take (i := 6) (v := ?_) rfl (by kernel_rfl) (by kernel_rfl) (by kernel_rfl) (fun _ _ _ h => h) (Or.inl ⟨by rfl, ?_⟩) ?_
                rotate_left
                · intro w
                  go_simp
                  all_goals with_reducible rfl
                simp only [Act.put, List.setIfInBounds_toArray, List.set_cons_zero, List.set_cons_succ]
                refine wpAny_take (i := 7) (v := ?_) rfl (by kernel_rfl) (by kernel_rfl) (by kernel_rfl) (fun _ _ _ h => h) (Or.inl ⟨by rfl, ?_⟩) ?_
                rotate_left
                · intro w
                  go_simp
                  all_goals with_reducible rfl
                simp only [Act.put, List.setIfInBounds_toArray, List.set_cons_zero, List.set_cons_succ]
                refine wpAny_one (i := 3) (by kernel_rfl) rfl (fun K hK => ?_)
                go_simp
                refine (HU1.out _ HTd.out).mono ?_
                rintro e w2 ⟨rfl, hb2, hts2⟩
                have F1 := F0.trans hb2
                have HT2 := Lib.hid hts2
                refine hK _ _ ?_
                clear hK K
                try simp only [Act.put, List.setIfInBounds_toArray, List.set_cons_zero, List.set_cons_succ]
                refine wpAny_one (i := 4) (by kernel_rfl) rfl (fun K hK => ?_)
                go_simp
                refine (HNx.out _ (HTab.out _ F1)).mono ?_
                rintro e w3 ⟨rfl, hb3⟩
                have F2 := F1.trans (Bt.of_below (R := R) hb3)
                have HT3 := Lib.hid (HT2.out.on hb3)
                refine hK _ _ ?_
                clear hK K
                try simp only [Act.put, List.setIfInBounds_toArray, List.set_cons_zero, List.set_cons_succ]
                refine wpAny_one (i := 8) (by kernel_rfl) rfl (fun K hK => ?_)
                go_simp
                refine (rest_any R y _ HT3.out).mono ?_
                rintro e w4 ⟨rfl, hb4, hts4⟩
                have F3 := F2.trans hb4
                refine hK _ _ ?_
                clear hK K
                try simp only [Act.put, List.setIfInBounds_toArray, List.set_cons_zero, List.set_cons_succ]
                refine wpAny_one (i := 9) (by kernel_rfl) rfl (fun K hK => ?_)
                go_simp
                refine (HNy.out _ (HTab.out _ F3)).mono ?_
                rintro e w5 ⟨rfl, hb5⟩
                have F4 := F3.trans (Bt.of_below (R := R) hb5)
                refine hK _ _ ?_
                clear hK K
                try simp only [Act.put, List.setIfInBounds_toArray, List.set_cons_zero, List.set_cons_succ]
                refine wpAny_one (i := 10) (by kernel_rfl) rfl (fun K hK => ?_)
                go_simp
                refine (HSV.out _).mono ?_
                rintro e w6 ⟨rfl, hb6⟩
                exact ⟨rfl, HEND.out w6 (F4.trans (Bt.of_below hb6))⟩
              | true =>
                have HSV := Lib.hid (fun w => served_yes n m hsv w)
                have HFIN : Hid (epN s = some (n, m)) := by rw [Hid, HIP.out, hc2]; simp only []; rw [hnx, hny]; simp only []; rw [hsv]; rfl
                have HC1 : Hid (∀ w', Bt R w1 w' → (w'.cell? ⟨w.heap.size, 0, none⟩ = some (.int .u32 0) ∧ w'.cell? ⟨w.heap.size, 1, none⟩ = some (.int .u32 0)) ∧ (w'.frozen? ⟨w.heap.size, 0, none⟩ = false ∧ w'.frozen? ⟨w.heap.size, 1, none⟩ = false)) := fun w' h => HC.out w' (HB1.out.trans h)
                clear hc2 hnx hny hsv
                refine wp_region_any (by kernel_rfl) ?_
                change wpAny _ _ _ _ 12 _ _ (World.drew _)
                refine wpAny_take (i := 0) (v := ?_) rfl (by kernel_rfl) (by kernel_rfl) (by kernel_rfl) (fun _ _ _ h => h) (Or.inl ⟨by rfl, ?_⟩) ?_
                rotate_left
                · intro w
                  go_simp
                  all_goals with_reducible rfl
                simp only [Act.put, List.setIfInBounds_toArray, List.set_cons_zero, List.set_cons_succ]
                refine wpAny_take (i := 1) (v := ?_) rfl (by kernel_rfl) (by kernel_rfl) (by kernel_rfl) (fun _ _ _ h => h) (Or.inl ⟨by rfl, ?_⟩) ?_
                rotate_left
                · intro w
                  go_simp
                  all_goals with_reducible rfl
                simp only [Act.put, List.setIfInBounds_toArray, List.set_cons_zero, List.set_cons_succ]
                refine wpAny_take (i := 2) (v := ?_) rfl (by kernel_rfl) (by kernel_rfl) (by kernel_rfl) (fun _ _ _ h => h) (Or.inl ⟨by rfl, ?_⟩) ?_
                rotate_left
                · intro w
                  go_simp
                  all_goals with_reducible rfl
                simp only [Act.put, List.setIfInBounds_toArray, List.set_cons_zero, List.set_cons_succ]
                refine wpAny_take (i := 5) (v := ?_) rfl (by kernel_rfl) (by kernel_rfl) (by kernel_rfl) (fun _ _ _ h => h) (Or.inl ⟨by rfl, ?_⟩) ?_
                rotate_left
                · intro w
                  go_simp
                  all_goals with_reducible rfl
                simp only [Act.put, List.setIfInBounds_toArray, List.set_cons_zero, List.set_cons_succ]
                refine wpAny_take (i := 6) (v := ?_) rfl (by kernel_rfl) (by kernel_rfl) (by kernel_rfl) (fun _ _ _ h => h) (Or.inl ⟨by rfl, ?_⟩) ?_
                rotate_left
                · intro w
                  go_simp
                  all_goals with_reducible rfl
                simp only [Act.put, List.setIfInBounds_toArray, List.set_cons_zero, List.set_cons_succ]
                refine wpAny_take (i := 7) (v := ?_) rfl (by kernel_rfl) (by kernel_rfl) (by kernel_rfl) (fun _ _ _ h => h) (Or.inl ⟨by rfl, ?_⟩) ?_
                rotate_left
                · intro w
                  go_simp
                  all_goals with_reducible rfl
                simp only [Act.put, List.setIfInBounds_toArray, List.set_cons_zero, List.set_cons_succ]
                refine wpAny_one (i := 3) (by kernel_rfl) rfl (fun K hK => ?_)
                go_simp
                refine (HU1.out _ HTd.out).mono ?_
                rintro e w2 ⟨rfl, hb2, hts2⟩
                have F1 := F0.trans hb2
                have HT2 := Lib.hid hts2
                refine hK _ _ ?_
                clear hK K
                try simp only [Act.put, List.setIfInBounds_toArray, List.set_cons_zero, List.set_cons_succ]
                refine wpAny_one (i := 4) (by kernel_rfl) rfl (fun K hK => ?_)
                go_simp
                refine (HNx.out _ (HTab.out _ F1)).mono ?_
                rintro e w3 ⟨rfl, hb3⟩
                have F2 := F1.trans (Bt.of_below (R := R) hb3)
                have HT3 := Lib.hid (HT2.out.on hb3)
                refine hK _ _ ?_
                clear hK K
                try simp only [Act.put, List.setIfInBounds_toArray, List.set_cons_zero, List.set_cons_succ]
                refine wpAny_one (i := 8) (by kernel_rfl) rfl (fun K hK => ?_)
                go_simp
                refine (rest_any R y _ HT3.out).mono ?_
                rintro e w4 ⟨rfl, hb4, hts4⟩
                have F3 := F2.trans hb4
                refine hK _ _ ?_
                clear hK K
                try simp only [Act.put, List.setIfInBounds_toArray, List.set_cons_zero, List.set_cons_succ]
                refine wpAny_one (i := 9) (by kernel_rfl) rfl (fun K hK => ?_)
                go_simp
                refine (HNy.out _ (HTab.out _ F3)).mono ?_
                rintro e w5 ⟨rfl, hb5⟩
                have F4 := F3.trans (Bt.of_below (R := R) hb5)
                refine hK _ _ ?_
                clear hK K
                try simp only [Act.put, List.setIfInBounds_toArray, List.set_cons_zero, List.set_cons_succ]
                refine wpAny_one (i := 10) (by kernel_rfl) rfl (fun K hK => ?_)
                go_simp
                refine (HSV.out _).mono ?_
                rintro e w6 ⟨rfl, hb6⟩
                have F5 := F4.trans (Bt.of_below (R := R) hb6)
                have HF5 := Lib.hid F5
                obtain ⟨⟨c0, c1⟩, f0, f1⟩ := HC1.out _ F5
                refine hK _ _ ?_
                clear hK K
                try simp only [Act.put, List.setIfInBounds_toArray, List.set_cons_zero, List.set_cons_succ]
                refine wpAny_one (i := 11) (by kernel_rfl) rfl (fun K hK => ?_)
                go_simp
                refine hK _ _ ?_
                clear hK K
                refine wpAny_done (by kernel_rfl) ?_ _
                obtain ⟨e0, e1⟩ := put2 (.int .u32 (n : Int)) (.int .u32 (m : Int)) c0 c1
                have HBE := Lib.hid (((((Bt.of_below (R := R) HBW.out).trans HB1.out).trans HF5.out).put (p := ⟨w.heap.size, 0, none⟩) (Nat.le_refl _) (.int .u32 (n : Int))).put (p := ⟨w.heap.size, 1, none⟩) (Nat.le_refl _) (.int .u32 (m : Int)))
                go_wp2_with fail
                refine bodyPost_ret (v := .agg #[.int .u32 n, .int .u32 m]) (by simp [results, Tryd.results41, go_sem, e0, e1]) rfl (endP_yes HBE.out HFIN.out)
      · have hq1 : (a == [100, 116, 110]) = false := by simpa [wDtn] using ha
        have hq2 : (a == [105, 112, 110]) = false := by simpa [wIpn] using hi
        have HN := Lib.hid (ep_else HCU.out ha hi)
        clear ha hi
        go_wp2_with fail
        exact ⟨rfl, endP_no ((Bt.of_below HBW.out).trans HB1.out) HN.out⟩

end Go.Proofs.YtjbdpkjkeelgfaaDoor
