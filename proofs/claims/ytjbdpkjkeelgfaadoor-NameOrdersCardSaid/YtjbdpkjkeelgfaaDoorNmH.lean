/- Package name reads a name's text. -/
import Derived.Test.YtjbdpkjkeelgfaaDoorNmF
import Derived.Test.YtjbdpkjkeelgfaaDoorNmG
namespace Go.Proofs.YtjbdpkjkeelgfaaDoor
open Go Go.RowKit Go.Shelf
set_option linter.unusedSimpArgs false
set_option linter.unusedVariables false

/-- All lies as it lay but two blocks, and what is new. -/
structure Bt2 (R Q : Nat) (w w' : World) : Prop where
  os : w'.os = w.os
  tape : w'.tape = w.tape
  output : w'.output = w.output
  size : w.heap.size ≤ w'.heap.size
  block : ∀ k, k < w.heap.size → k ≠ R → k ≠ Q → w'.heap[k]? = w.heap[k]?

theorem Bt2.refl (R Q : Nat) (w : World) : Bt2 R Q w w := ⟨rfl, rfl, rfl, Nat.le_refl _, fun _ _ _ _ => rfl⟩
theorem Bt2.trans {R Q : Nat} {a b c : World} (h : Bt2 R Q a b) (k : Bt2 R Q b c) : Bt2 R Q a c :=
  ⟨k.os.trans h.os, k.tape.trans h.tape, k.output.trans h.output, Nat.le_trans h.size k.size, fun i hi h1 h2 => (k.block i (Nat.lt_of_lt_of_le hi h.size) h1 h2).trans (h.block i hi h1 h2)⟩
theorem Bt2.one {R Q : Nat} {a b : World} (h : Bt R a b) : Bt2 R Q a b := ⟨h.os, h.tape, h.output, h.size, fun k hk h1 _ => h.block k hk h1⟩
theorem Bt2.two {R Q : Nat} {a b : World} (h : Bt Q a b) : Bt2 R Q a b := ⟨h.os, h.tape, h.output, h.size, fun k hk _ h2 => h.block k hk h2⟩
theorem Bt2.of_below {R Q : Nat} {w w' : World} (h : Below w.heap.size w w') : Bt2 R Q w w' := ⟨h.os, h.tape, h.output, h.size, fun k hk _ _ => h.block k hk⟩
theorem Bt2.cell {R Q b o : Nat} {w w' : World} (h : Bt2 R Q w w') (hb : b < w.heap.size) (h1 : b ≠ R) (h2 : b ≠ Q) : w'.cell? ⟨b, o, none⟩ = w.cell? ⟨b, o, none⟩ :=
  World.cell?_of_block (w := w) (h.block b hb h1 h2)
theorem Bt2.frozen {R Q b o : Nat} {w w' : World} (h : Bt2 R Q w w') (hb : b < w.heap.size) (h1 : b ≠ R) (h2 : b ≠ Q) : w'.frozen? ⟨b, o, none⟩ = w.frozen? ⟨b, o, none⟩ :=
  World.frozen?_of_block (w := w) (h.block b hb h1 h2)
theorem Bt2.drew {R Q : Nat} {w w' : World} (h : Bt2 R Q w w') : Bt2 R Q w w'.drew := ⟨h.os, h.tape, h.output, h.size, h.block⟩
/-- Seen from ahead of the new block, one block alone. -/
theorem Bt2.bt {R Q : Nat} {a b c : World} (h : Bt R a b) (k : Bt2 R Q b c) (hQ : a.heap.size ≤ Q) : Bt R a c :=
  ⟨k.os.trans h.os, k.tape.trans h.tape, k.output.trans h.output, Nat.le_trans h.size k.size, fun i hi h1 => (k.block i (Nat.lt_of_lt_of_le hi h.size) h1 (by omega)).trans (h.block i hi h1)⟩

theorem TabN.bt2 {w w' : World} {R Q : Nat} (h : TabN w) (hb : Bt2 R Q w w') (hR : Up R) (hQ : Up Q) : TabN w' := by
  obtain ⟨h1, ⟨t2, p2, h2⟩, ⟨t3, p3, h3⟩⟩ := h
  obtain ⟨r0, r1, r2⟩ := hR
  obtain ⟨q0, q1, q2⟩ := hQ
  exact ⟨var_keep h1 gn0 (hb.block _ (var_lt h1 gn0) (Nat.ne_of_lt r0) (Nat.ne_of_lt q0)), ⟨t2, p2, var_keep h2 gn1 (hb.block _ (var_lt h2 gn1) (Nat.ne_of_lt r1) (Nat.ne_of_lt q1))⟩, ⟨t3, p3, var_keep h3 gn2 (hb.block _ (var_lt h3 gn2) (Nat.ne_of_lt r2) (Nat.ne_of_lt q2))⟩⟩

theorem TS.bt {w w' : World} {R Q : Nat} {s : List UInt8} (h : TS w R s) (hb : Bt Q w w') (hne : R ≠ Q) : TS w' R s :=
  ⟨(hb.cell h.2.2 hne).trans h.1, (hb.frozen h.2.2 hne).trans h.2.1, Nat.lt_of_lt_of_le h.2.2 hb.size⟩

theorem endpoint_yes {R n m : Nat} {s : List UInt8} (hs : s.length ≤ 140737488355328) (h : epN s = some (n, m)) (w : World) (ht : TabN w) (hR : Up R) (hts : TS w R s) :
    Calls Tryd.prog 41 #[.pointer (some ⟨R, 0, none⟩)] w fun e w' => e = .returned (.agg #[.int .u32 n, .int .u32 m]) ∧ Bt R w w' :=
  (endpoint_any R s hs w ht hR hts).mono fun e w' ⟨h1, h2⟩ => by rw [h] at h2; exact ⟨h2, h1⟩

theorem endpoint_no {R : Nat} {s : List UInt8} (hs : s.length ≤ 140737488355328) (h : epN s = none) (w : World) (ht : TabN w) (hR : Up R) (hts : TS w R s) :
    Calls Tryd.prog 41 #[.pointer (some ⟨R, 0, none⟩)] w fun e w' => e = .panicked [{ v := .iface 25 (.int .i64 130), recovered := false }] ∧ Bt R w w' :=
  (endpoint_any R s hs w ht hR hts).mono fun e w' ⟨h1, h2⟩ => by rw [h] at h2; exact ⟨h2, h1⟩

theorem named_all (n m t q : Nat) (w : World) : Calls Tryd.prog 80 #[.agg #[.int .u32 n, .int .u32 m], .int .u64 t, .int .u64 q] w (NamedP w n m t q) := by
  by_cases h : q ≤ 4294967295
  · exact named_any n m t q h w
  · exact (named_short n m t q h w).mono fun e w' ⟨h1, h2⟩ => by subst h1; exact namedP_no (by simp [nmB, h]) h2

theorem named_yes {n m t q : Nat} (h : nmB n t q = true) (w : World) : Calls Tryd.prog 80 #[.agg #[.int .u32 n, .int .u32 m], .int .u64 t, .int .u64 q] w fun e w' => e = .returned (.agg #[.int .u32 n, .int .u32 m, .int .u64 t, .int .u32 q]) ∧ Below w.heap.size w w' :=
  (named_all n m t q w).mono fun e w' ⟨h1, h2⟩ => by rw [h] at h1; exact ⟨h1, h2⟩

theorem named_no {n m t q : Nat} (h : nmB n t q = false) (w : World) : Calls Tryd.prog 80 #[.agg #[.int .u32 n, .int .u32 m], .int .u64 t, .int .u64 q] w fun e w' => e = .panicked [{ v := .iface 25 (.int .i64 130), recovered := false }] ∧ Below w.heap.size w w' :=
  (named_all n m t q w).mono fun e w' ⟨h1, h2⟩ => by rw [h] at h1; exact ⟨h1, h2⟩

/-- What name answers. -/
def NmP (w : World) (R : Nat) (s : List UInt8) (e : Ending) (w' : World) : Prop :=
  Bt R w w' ∧ match nmN s with
    | some (n, m, t, q) => e = .returned (.agg #[.int .u32 n, .int .u32 m, .int .u64 t, .int .u32 q])
    | none => e = gives 130

theorem nmP_no {w w' : World} {R : Nat} {s : List UInt8} (hb : Bt R w w') (h : nmN s = none) : NmP w R s (gives 130) w' := ⟨hb, by rw [h]⟩
theorem nmP_yes {w w' : World} {R n m t q : Nat} {s : List UInt8} (hb : Bt R w w') (h : nmN s = some (n, m, t, q)) : NmP w R s (.returned (.agg #[.int .u32 n, .int .u32 m, .int .u64 t, .int .u32 q])) w' := ⟨hb, by rw [h]⟩

theorem nm_cut {s : List UInt8} (h : cutL 32 s = none) : nmN s = none := by simp [nmN, h]
theorem nm_two {s a r : List UInt8} (h : cutL 32 s = some (a, r)) : nmN s = match epN a with
      | none => none
      | some (n, m) => match cutL 32 r with
        | none => none
        | some (b, c) => match numN b with
          | none => none
          | some t => match numN c with
            | none => none
            | some q => if nmB n t q = true then some (n, m, t, q) else none := by
  simp only [nmN, h]
  cases cutL 32 r with
  | none => cases epN a <;> rfl
  | some p =>
    obtain ⟨b, c⟩ := p
    simp only []
    cases epN a with
    | none => rfl
    | some p =>
      obtain ⟨n, m⟩ := p
      simp only []
      cases numN b with
      | none => rfl
      | some t =>
        cases numN c with
        | none => rfl
        | some q => simp [nmB]

set_option maxRecDepth 100000 in
set_option maxHeartbeats 8000000 in
theorem name_any (R : Nat) (s : List UInt8) (hs : s.length ≤ 140737488355328) (w : World) (ht : TabN w) (hR : Up R) (h : TS w R s) :
    Calls Tryd.prog 50 #[.pointer (some ⟨R, 0, none⟩)] w (NmP w R s) := by
  obtain ⟨W, hW⟩ : ∃ W, W = w.alloc (.cells #[.int .u32 0, .int .u32 0, .int .u64 0, .int .u32 0] 47) := ⟨_, rfl⟩
  have HT := Lib.hid ht
  have hbW : Below w.heap.size w W := by rw [hW]; exact below_al (Below.refl _ _) _
  have HBW := Lib.hid hbW
  have HTS := Lib.hid (h.on hbW)
  have hRw := h.2.2
  have hsW : W.heap.size ≤ w.heap.size + 1 ∧ w.heap.size + 1 ≤ W.heap.size := by rw [hW]; simp
  have c0 : W.cell? ⟨w.heap.size, 0, none⟩ = some (.int .u32 0) := by rw [hW]; simp
  have c1 : W.cell? ⟨w.heap.size, 1, none⟩ = some (.int .u32 0) := by rw [hW]; simp
  have c2 : W.cell? ⟨w.heap.size, 2, none⟩ = some (.int .u64 0) := by rw [hW]; simp
  have c3 : W.cell? ⟨w.heap.size, 3, none⟩ = some (.int .u32 0) := by rw [hW]; simp
  have cf : ∀ i, W.frozen? ⟨w.heap.size, i, none⟩ = false := fun i => by rw [hW]; simp
  have HTW : Hid (∀ w', Bt R W w' → TabN w') := fun w' hb => (HT.out.on hbW).bt hb hR
  have HW := Lib.hid hW
  have HC0 := Lib.hid c0
  have HC1 := Lib.hid c1
  have HC2 := Lib.hid c2
  have HC3 := Lib.hid c3
  have HCF := Lib.hid cf
  have HTu := Lib.hid ht
  clear ht h c0 c1 c2 c3 cf hW hbW
  go_enter Tryd.func50, Tryd.ntmps50
  go_wp2_with fail
  rw [← HW.out]
  cases hc : cutL 32 s with
  | none =>
    refine (until_no (c := 32) (by decide) hs hc W HTS.out).mono ?_
    rintro e w1 ⟨rfl, hb⟩
    have HB := Lib.hid hb
    clear hb
    rw [gives_def]
    go_wp2_with fail
    exact ⟨rfl, nmP_no ((Bt.of_below HBW.out).trans HB.out) (nm_cut hc)⟩
  | some p =>
    obtain ⟨a, r⟩ := p
    refine (until_yes (c := 32) (by decide) hs hc W HTS.out).mono ?_
    rintro e w1 ⟨rfl, hb, hts⟩
    have HB1 := Lib.hid hb
    have HTS1 := Lib.hid hts
    have hsz1 := hb.size
    obtain ⟨hla, hlr⟩ := cut_len hc
    have HNM := Lib.hid (nm_two hc)
    clear hb hts hc
    go_wp2_with fail
    obtain ⟨X, hX⟩ : ∃ X, X = w1.alloc (.cells #[.string ⟨a.toArray⟩] 110) := ⟨_, rfl⟩
    rw [← hX]
    have hbX : Below w1.heap.size w1 X := by rw [hX]; exact below_al (Below.refl _ _) _
    have hsX : X.heap.size ≤ w1.heap.size + 1 ∧ w1.heap.size + 1 ≤ X.heap.size := by rw [hX]; simp
    have hQ : Up w1.heap.size := HTu.out.up (by omega)
    have HTX : Hid (TabN X.drew) := (HTW.out w1 HB1.out).on (show Below w1.heap.size w1 X.drew from hbX.drew)
    have HTa : Hid (TS X.drew w1.heap.size a) := ⟨by rw [hX]; simp, by rw [hX]; simp, by rw [hX]; simp [World.drew]⟩
    have HTr : Hid (TS X.drew R r) := HTS1.out.on (show Below w1.heap.size w1 X.drew from hbX.drew)
    have hne : R ≠ w1.heap.size := Nat.ne_of_lt HTS1.out.2.2
    have HTab : Hid (∀ w', Bt2 R w1.heap.size X.drew w' → TabN w') := fun w' h => HTX.out.bt2 h hR hQ
    have hBX : Bt R w X.drew := ((Bt.of_below HBW.out).trans HB1.out).trans (Bt.of_below hbX.drew)
    have HFW : Hid (∀ w', Bt2 R w1.heap.size X.drew w' → Bt R w w') := fun w' h => h.bt hBX (by omega)
    have hDX : Bt R W X.drew := HB1.out.trans (Bt.of_below hbX.drew)
    have hszD : X.drew.heap.size = X.heap.size := rfl
    have HCW : Hid (∀ w', Bt2 R w1.heap.size X.drew w' → (w'.cell? ⟨w.heap.size, 0, none⟩ = some (.int .u32 0) ∧ w'.cell? ⟨w.heap.size, 1, none⟩ = some (.int .u32 0) ∧ w'.cell? ⟨w.heap.size, 2, none⟩ = some (.int .u64 0) ∧ w'.cell? ⟨w.heap.size, 3, none⟩ = some (.int .u32 0)) ∧ ∀ i, w'.frozen? ⟨w.heap.size, i, none⟩ = false) := fun w' h => by
      have hh : ∀ i, w'.cell? ⟨w.heap.size, i, none⟩ = W.cell? ⟨w.heap.size, i, none⟩ := fun i => (h.cell (by omega) (by omega) (by omega)).trans (hDX.cell (by omega) (by omega))
      have hf : ∀ i, w'.frozen? ⟨w.heap.size, i, none⟩ = W.frozen? ⟨w.heap.size, i, none⟩ := fun i => (h.frozen (by omega) (by omega) (by omega)).trans (hDX.frozen (by omega) (by omega))
      exact ⟨⟨(hh 0).trans HC0.out, (hh 1).trans HC1.out, (hh 2).trans HC2.out, (hh 3).trans HC3.out⟩, fun i => (hf i).trans (HCF.out i)⟩
    have F0 : Bt2 R w1.heap.size X.drew X.drew := Bt2.refl _ _ _
    have hQw : w.heap.size ≤ w1.heap.size := by omega
    generalize hQn : w1.heap.size = Q at *
    clear hQn hX hbX hBX hDX hszD hsX HB1 HTS1 HTS
    cases hep : epN a with
    | none =>
      have HEND : Hid (nmN s = none) := by rw [Hid, HNM.out]; rw [hep]
      refine wp_region_any (by kernel_rfl) ?_
      change wpAny _ _ _ _ 13 _ _ X.drew
      refine wpAny_take (i := 1) (v := ?_) rfl (by kernel_rfl) (by kernel_rfl) (by kernel_rfl) (fun _ _ _ h => h) (Or.inl ⟨by rfl, ?_⟩) ?_
      rotate_left
      · intro w
        go_simp
        all_goals with_reducible rfl
      simp only [Act.put, List.setIfInBounds_toArray, List.set_cons_zero, List.set_cons_succ]
      refine wpAny_take (i := 2) (v := ?_) rfl (by kernel_rfl) (by kernel_rfl) (by kernel_rfl) (fun _ _ _ h => h) (Or.inl ⟨by rfl, ?_⟩) ?_
      rotate_left
      · intro w
        go_simp
        all_goals with_reducible rfl
      simp only [Act.put, List.setIfInBounds_toArray, List.set_cons_zero, List.set_cons_succ]
      refine wpAny_take (i := 3) (v := ?_) rfl (by kernel_rfl) (by kernel_rfl) (by kernel_rfl) (fun _ _ _ h => h) (Or.inl ⟨by rfl, ?_⟩) ?_
      rotate_left
      · intro w
        go_simp
        all_goals with_reducible rfl
      simp only [Act.put, List.setIfInBounds_toArray, List.set_cons_zero, List.set_cons_succ]
      refine wpAny_take (i := 6) (v := ?_) rfl (by kernel_rfl) (by kernel_rfl) (by kernel_rfl) (fun _ _ _ h => h) (Or.inl ⟨by rfl, ?_⟩) ?_
      rotate_left
      · intro w
        go_simp
        all_goals with_reducible rfl
      simp only [Act.put, List.setIfInBounds_toArray, List.set_cons_zero, List.set_cons_succ]
      refine wpAny_take (i := 7) (v := ?_) rfl (by kernel_rfl) (by kernel_rfl) (by kernel_rfl) (fun _ _ _ h => h) (Or.inl ⟨by rfl, ?_⟩) ?_
      rotate_left
      · intro w
        go_simp
        all_goals with_reducible rfl
      simp only [Act.put, List.setIfInBounds_toArray, List.set_cons_zero, List.set_cons_succ]
      refine wpAny_take (i := 8) (v := ?_) rfl (by kernel_rfl) (by kernel_rfl) (by kernel_rfl) (fun _ _ _ h => h) (Or.inl ⟨by rfl, ?_⟩) ?_
      rotate_left
      · intro w
        go_simp
        all_goals with_reducible rfl
      simp only [Act.put, List.setIfInBounds_toArray, List.set_cons_zero, List.set_cons_succ]
      refine wpAny_one (i := 0) (by kernel_rfl) rfl (fun K hK => ?_)
      go_simp
      refine (endpoint_no (by omega) hep _ HTX.out hQ HTa.out).mono ?_
      rintro e w2 ⟨rfl, hb2⟩
      exact ⟨rfl, nmP_no (HFW.out w2 (F0.trans (Bt2.two (R := R) hb2))) HEND.out⟩
    | some p =>
      obtain ⟨n, m⟩ := p
      cases hc2 : cutL 32 r with
      | none =>
        have HEND : Hid (nmN s = none) := by rw [Hid, HNM.out]; simp only [hep, hc2]
        have HU : Hid (∀ w, TS w R r → Calls Tryd.prog 71 #[.pointer (some ⟨R, 0, none⟩), .int .i32 32] w fun e w' => e = .panicked [{ v := .iface 25 (.int .i64 130), recovered := false }] ∧ Bt R w w') := fun w ht => until_no (c := 32) (by decide) (by omega) hc2 w ht
        refine wp_region_any (by kernel_rfl) ?_
        change wpAny _ _ _ _ 13 _ _ X.drew
        refine wpAny_take (i := 1) (v := ?_) rfl (by kernel_rfl) (by kernel_rfl) (by kernel_rfl) (fun _ _ _ h => h) (Or.inl ⟨by rfl, ?_⟩) ?_
        rotate_left
        · intro w
          go_simp
          all_goals with_reducible rfl
        simp only [Act.put, List.setIfInBounds_toArray, List.set_cons_zero, List.set_cons_succ]
        refine wpAny_take (i := 2) (v := ?_) rfl (by kernel_rfl) (by kernel_rfl) (by kernel_rfl) (fun _ _ _ h => h) (Or.inl ⟨by rfl, ?_⟩) ?_
        rotate_left
        · intro w
          go_simp
          all_goals with_reducible rfl
        simp only [Act.put, List.setIfInBounds_toArray, List.set_cons_zero, List.set_cons_succ]
        refine wpAny_take (i := 3) (v := ?_) rfl (by kernel_rfl) (by kernel_rfl) (by kernel_rfl) (fun _ _ _ h => h) (Or.inl ⟨by rfl, ?_⟩) ?_
        rotate_left
        · intro w
          go_simp
          all_goals with_reducible rfl
        simp only [Act.put, List.setIfInBounds_toArray, List.set_cons_zero, List.set_cons_succ]
        refine wpAny_take (i := 6) (v := ?_) rfl (by kernel_rfl) (by kernel_rfl) (by kernel_rfl) (fun _ _ _ h => h) (Or.inl ⟨by rfl, ?_⟩) ?_
        rotate_left
        · intro w
          go_simp
          all_goals with_reducible rfl
        simp only [Act.put, List.setIfInBounds_toArray, List.set_cons_zero, List.set_cons_succ]
        refine wpAny_take (i := 7) (v := ?_) rfl (by kernel_rfl) (by kernel_rfl) (by kernel_rfl) (fun _ _ _ h => h) (Or.inl ⟨by rfl, ?_⟩) ?_
        rotate_left
        · intro w
          go_simp
          all_goals with_reducible rfl
        simp only [Act.put, List.setIfInBounds_toArray, List.set_cons_zero, List.set_cons_succ]
        refine wpAny_take (i := 8) (v := ?_) rfl (by kernel_rfl) (by kernel_rfl) (by kernel_rfl) (fun _ _ _ h => h) (Or.inl ⟨by rfl, ?_⟩) ?_
        rotate_left
        · intro w
          go_simp
          all_goals with_reducible rfl
        simp only [Act.put, List.setIfInBounds_toArray, List.set_cons_zero, List.set_cons_succ]
        refine wpAny_one (i := 0) (by kernel_rfl) rfl (fun K hK => ?_)
        go_simp
        refine (endpoint_yes (by omega) hep _ HTX.out hQ HTa.out).mono ?_
        rintro e w2 ⟨rfl, hb2⟩
        have F1 := F0.trans (Bt2.two (R := R) hb2)
        have HT2 := Lib.hid (HTr.out.bt hb2 hne)
        refine hK _ _ ?_
        clear hK K
        try simp only [Act.put, List.setIfInBounds_toArray, List.set_cons_zero, List.set_cons_succ]
        refine wpAny_one (i := 4) (by kernel_rfl) rfl (fun K hK => ?_)
        go_simp
        refine (HU.out w2 HT2.out).mono ?_
        rintro e w3 ⟨rfl, hb3⟩
        exact ⟨rfl, nmP_no (HFW.out w3 (F1.trans (Bt2.one (Q := Q) hb3))) HEND.out⟩
      | some p =>
        obtain ⟨b, c⟩ := p
        have HU : Hid (∀ w, TS w R r → Calls Tryd.prog 71 #[.pointer (some ⟨R, 0, none⟩), .int .i32 32] w fun e w' => e = .returned (.string ⟨b.toArray⟩) ∧ Bt R w w' ∧ TS w' R c) := fun w ht => until_yes (c := 32) (by decide) (by omega) hc2 w ht
        obtain ⟨hlb, hlc⟩ := cut_len hc2
        cases hb : numN b with
        | none =>
          have HEND : Hid (nmN s = none) := by rw [Hid, HNM.out]; simp only [hep, hc2, hb]
          have HNb : Hid (∀ w, TabN w → Calls Tryd.prog 75 #[.string ⟨b.toArray⟩] w fun e w' => e = .panicked [{ v := .iface 25 (.int .i64 130), recovered := false }] ∧ Below w.heap.size w w') := fun w ht => number_no (by omega) hb w ht
          refine wp_region_any (by kernel_rfl) ?_
          change wpAny _ _ _ _ 13 _ _ X.drew
          refine wpAny_take (i := 1) (v := ?_) rfl (by kernel_rfl) (by kernel_rfl) (by kernel_rfl) (fun _ _ _ h => h) (Or.inl ⟨by rfl, ?_⟩) ?_
          rotate_left
          · intro w
            go_simp
            all_goals with_reducible rfl
          simp only [Act.put, List.setIfInBounds_toArray, List.set_cons_zero, List.set_cons_succ]
          refine wpAny_take (i := 2) (v := ?_) rfl (by kernel_rfl) (by kernel_rfl) (by kernel_rfl) (fun _ _ _ h => h) (Or.inl ⟨by rfl, ?_⟩) ?_
          rotate_left
          · intro w
            go_simp
            all_goals with_reducible rfl
          simp only [Act.put, List.setIfInBounds_toArray, List.set_cons_zero, List.set_cons_succ]
          refine wpAny_take (i := 3) (v := ?_) rfl (by kernel_rfl) (by kernel_rfl) (by kernel_rfl) (fun _ _ _ h => h) (Or.inl ⟨by rfl, ?_⟩) ?_
          rotate_left
          · intro w
            go_simp
            all_goals with_reducible rfl
          simp only [Act.put, List.setIfInBounds_toArray, List.set_cons_zero, List.set_cons_succ]
          refine wpAny_take (i := 6) (v := ?_) rfl (by kernel_rfl) (by kernel_rfl) (by kernel_rfl) (fun _ _ _ h => h) (Or.inl ⟨by rfl, ?_⟩) ?_
          rotate_left
          · intro w
            go_simp
            all_goals with_reducible rfl
          simp only [Act.put, List.setIfInBounds_toArray, List.set_cons_zero, List.set_cons_succ]
          refine wpAny_take (i := 7) (v := ?_) rfl (by kernel_rfl) (by kernel_rfl) (by kernel_rfl) (fun _ _ _ h => h) (Or.inl ⟨by rfl, ?_⟩) ?_
          rotate_left
          · intro w
            go_simp
            all_goals with_reducible rfl
          simp only [Act.put, List.setIfInBounds_toArray, List.set_cons_zero, List.set_cons_succ]
          refine wpAny_take (i := 8) (v := ?_) rfl (by kernel_rfl) (by kernel_rfl) (by kernel_rfl) (fun _ _ _ h => h) (Or.inl ⟨by rfl, ?_⟩) ?_
          rotate_left
          · intro w
            go_simp
            all_goals with_reducible rfl
          simp only [Act.put, List.setIfInBounds_toArray, List.set_cons_zero, List.set_cons_succ]
          refine wpAny_one (i := 0) (by kernel_rfl) rfl (fun K hK => ?_)
          go_simp
          refine (endpoint_yes (by omega) hep _ HTX.out hQ HTa.out).mono ?_
          rintro e w2 ⟨rfl, hb2⟩
          have F1 := F0.trans (Bt2.two (R := R) hb2)
          have HT2 := Lib.hid (HTr.out.bt hb2 hne)
          refine hK _ _ ?_
          clear hK K
          try simp only [Act.put, List.setIfInBounds_toArray, List.set_cons_zero, List.set_cons_succ]
          refine wpAny_one (i := 4) (by kernel_rfl) rfl (fun K hK => ?_)
          go_simp
          refine (HU.out w2 HT2.out).mono ?_
          rintro e w3 ⟨rfl, hb3, hts3⟩
          have F2 := F1.trans (Bt2.one (Q := Q) hb3)
          have HT3 := Lib.hid hts3
          refine hK _ _ ?_
          clear hK K
          try simp only [Act.put, List.setIfInBounds_toArray, List.set_cons_zero, List.set_cons_succ]
          refine wpAny_one (i := 5) (by kernel_rfl) rfl (fun K hK => ?_)
          go_simp
          refine (HNb.out _ (HTab.out _ F2)).mono ?_
          rintro e w4 ⟨rfl, hb4⟩
          exact ⟨rfl, nmP_no (HFW.out w4 (F2.trans (Bt2.of_below (R := R) (Q := Q) hb4))) HEND.out⟩
        | some t =>
          cases hq : numN c with
          | none =>
            have HEND : Hid (nmN s = none) := by rw [Hid, HNM.out]; simp only [hep, hc2, hb, hq]
            have HNc : Hid (∀ w, TabN w → Calls Tryd.prog 75 #[.string ⟨c.toArray⟩] w fun e w' => e = .panicked [{ v := .iface 25 (.int .i64 130), recovered := false }] ∧ Below w.heap.size w w') := fun w ht => number_no (by omega) hq w ht
            refine wp_region_any (by kernel_rfl) ?_
            change wpAny _ _ _ _ 13 _ _ X.drew
            refine wpAny_take (i := 1) (v := ?_) rfl (by kernel_rfl) (by kernel_rfl) (by kernel_rfl) (fun _ _ _ h => h) (Or.inl ⟨by rfl, ?_⟩) ?_
            rotate_left
            · intro w
              go_simp
              all_goals with_reducible rfl
            simp only [Act.put, List.setIfInBounds_toArray, List.set_cons_zero, List.set_cons_succ]
            refine wpAny_take (i := 2) (v := ?_) rfl (by kernel_rfl) (by kernel_rfl) (by kernel_rfl) (fun _ _ _ h => h) (Or.inl ⟨by rfl, ?_⟩) ?_
            rotate_left
            · intro w
              go_simp
              all_goals with_reducible rfl
            simp only [Act.put, List.setIfInBounds_toArray, List.set_cons_zero, List.set_cons_succ]
            refine wpAny_take (i := 3) (v := ?_) rfl (by kernel_rfl) (by kernel_rfl) (by kernel_rfl) (fun _ _ _ h => h) (Or.inl ⟨by rfl, ?_⟩) ?_
            rotate_left
            · intro w
              go_simp
              all_goals with_reducible rfl
            simp only [Act.put, List.setIfInBounds_toArray, List.set_cons_zero, List.set_cons_succ]
            refine wpAny_take (i := 6) (v := ?_) rfl (by kernel_rfl) (by kernel_rfl) (by kernel_rfl) (fun _ _ _ h => h) (Or.inl ⟨by rfl, ?_⟩) ?_
            rotate_left
            · intro w
              go_simp
              all_goals with_reducible rfl
            simp only [Act.put, List.setIfInBounds_toArray, List.set_cons_zero, List.set_cons_succ]
            refine wpAny_take (i := 7) (v := ?_) rfl (by kernel_rfl) (by kernel_rfl) (by kernel_rfl) (fun _ _ _ h => h) (Or.inl ⟨by rfl, ?_⟩) ?_
            rotate_left
            · intro w
              go_simp
              all_goals with_reducible rfl
            simp only [Act.put, List.setIfInBounds_toArray, List.set_cons_zero, List.set_cons_succ]
            refine wpAny_take (i := 8) (v := ?_) rfl (by kernel_rfl) (by kernel_rfl) (by kernel_rfl) (fun _ _ _ h => h) (Or.inl ⟨by rfl, ?_⟩) ?_
            rotate_left
            · intro w
              go_simp
              all_goals with_reducible rfl
            simp only [Act.put, List.setIfInBounds_toArray, List.set_cons_zero, List.set_cons_succ]
            refine wpAny_one (i := 0) (by kernel_rfl) rfl (fun K hK => ?_)
            go_simp
            refine (endpoint_yes (by omega) hep _ HTX.out hQ HTa.out).mono ?_
            rintro e w2 ⟨rfl, hb2⟩
            have F1 := F0.trans (Bt2.two (R := R) hb2)
            have HT2 := Lib.hid (HTr.out.bt hb2 hne)
            refine hK _ _ ?_
            clear hK K
            try simp only [Act.put, List.setIfInBounds_toArray, List.set_cons_zero, List.set_cons_succ]
            refine wpAny_one (i := 4) (by kernel_rfl) rfl (fun K hK => ?_)
            go_simp
            refine (HU.out w2 HT2.out).mono ?_
            rintro e w3 ⟨rfl, hb3, hts3⟩
            have F2 := F1.trans (Bt2.one (Q := Q) hb3)
            have HT3 := Lib.hid hts3
            refine hK _ _ ?_
            clear hK K
            try simp only [Act.put, List.setIfInBounds_toArray, List.set_cons_zero, List.set_cons_succ]
            refine wpAny_one (i := 5) (by kernel_rfl) rfl (fun K hK => ?_)
            go_simp
            refine (number_yes (by omega) hb _ (HTab.out _ F2)).mono ?_
            rintro e w4 ⟨rfl, hb4⟩
            have F3 := F2.trans (Bt2.of_below (R := R) (Q := Q) hb4)
            have HT4 := Lib.hid (HT3.out.on hb4)
            refine hK _ _ ?_
            clear hK K
            try simp only [Act.put, List.setIfInBounds_toArray, List.set_cons_zero, List.set_cons_succ]
            refine wpAny_one (i := 9) (by kernel_rfl) rfl (fun K hK => ?_)
            go_simp
            refine (rest_any R c w4 HT4.out).mono ?_
            rintro e w5 ⟨rfl, hb5, hts5⟩
            have F4 := F3.trans (Bt2.one (Q := Q) hb5)
            refine hK _ _ ?_
            clear hK K
            try simp only [Act.put, List.setIfInBounds_toArray, List.set_cons_zero, List.set_cons_succ]
            refine wpAny_one (i := 10) (by kernel_rfl) rfl (fun K hK => ?_)
            go_simp
            refine (HNc.out _ (HTab.out _ F4)).mono ?_
            rintro e w6 ⟨rfl, hb6⟩
            exact ⟨rfl, nmP_no (HFW.out w6 (F4.trans (Bt2.of_below (R := R) (Q := Q) hb6))) HEND.out⟩
          | some q =>
            cases hk : nmB n t q with
            | false =>
              have HEND : Hid (nmN s = none) := by rw [Hid, HNM.out]; simp [hep, hc2, hb, hq, hk]
              refine wp_region_any (by kernel_rfl) ?_
              change wpAny _ _ _ _ 13 _ _ X.drew
              refine wpAny_take (i := 1) (v := ?_) rfl (by kernel_rfl) (by kernel_rfl) (by kernel_rfl) (fun _ _ _ h => h) (Or.inl ⟨by rfl, ?_⟩) ?_
              rotate_left
              · intro w
                go_simp
                all_goals with_reducible rfl
              simp only [Act.put, List.setIfInBounds_toArray, List.set_cons_zero, List.set_cons_succ]
              refine wpAny_take (i := 2) (v := ?_) rfl (by kernel_rfl) (by kernel_rfl) (by kernel_rfl) (fun _ _ _ h => h) (Or.inl ⟨by rfl, ?_⟩) ?_
              rotate_left
              · intro w
                go_simp
                all_goals with_reducible rfl
              simp only [Act.put, List.setIfInBounds_toArray, List.set_cons_zero, List.set_cons_succ]
              refine wpAny_take (i := 3) (v := ?_) rfl (by kernel_rfl) (by kernel_rfl) (by kernel_rfl) (fun _ _ _ h => h) (Or.inl ⟨by rfl, ?_⟩) ?_
              rotate_left
              · intro w
                go_simp
                all_goals with_reducible rfl
              simp only [Act.put, List.setIfInBounds_toArray, List.set_cons_zero, List.set_cons_succ]
              refine wpAny_take (i := 6) (v := ?_) rfl (by kernel_rfl) (by kernel_rfl) (by kernel_rfl) (fun _ _ _ h => h) (Or.inl ⟨by rfl, ?_⟩) ?_
              rotate_left
              · intro w
                go_simp
                all_goals with_reducible rfl
              simp only [Act.put, List.setIfInBounds_toArray, List.set_cons_zero, List.set_cons_succ]
              refine wpAny_take (i := 7) (v := ?_) rfl (by kernel_rfl) (by kernel_rfl) (by kernel_rfl) (fun _ _ _ h => h) (Or.inl ⟨by rfl, ?_⟩) ?_
              rotate_left
              · intro w
                go_simp
                all_goals with_reducible rfl
              simp only [Act.put, List.setIfInBounds_toArray, List.set_cons_zero, List.set_cons_succ]
              refine wpAny_take (i := 8) (v := ?_) rfl (by kernel_rfl) (by kernel_rfl) (by kernel_rfl) (fun _ _ _ h => h) (Or.inl ⟨by rfl, ?_⟩) ?_
              rotate_left
              · intro w
                go_simp
                all_goals with_reducible rfl
              simp only [Act.put, List.setIfInBounds_toArray, List.set_cons_zero, List.set_cons_succ]
              refine wpAny_one (i := 0) (by kernel_rfl) rfl (fun K hK => ?_)
              go_simp
              refine (endpoint_yes (by omega) hep _ HTX.out hQ HTa.out).mono ?_
              rintro e w2 ⟨rfl, hb2⟩
              have F1 := F0.trans (Bt2.two (R := R) hb2)
              have HT2 := Lib.hid (HTr.out.bt hb2 hne)
              refine hK _ _ ?_
              clear hK K
              try simp only [Act.put, List.setIfInBounds_toArray, List.set_cons_zero, List.set_cons_succ]
              refine wpAny_one (i := 4) (by kernel_rfl) rfl (fun K hK => ?_)
              go_simp
              refine (HU.out w2 HT2.out).mono ?_
              rintro e w3 ⟨rfl, hb3, hts3⟩
              have F2 := F1.trans (Bt2.one (Q := Q) hb3)
              have HT3 := Lib.hid hts3
              refine hK _ _ ?_
              clear hK K
              try simp only [Act.put, List.setIfInBounds_toArray, List.set_cons_zero, List.set_cons_succ]
              refine wpAny_one (i := 5) (by kernel_rfl) rfl (fun K hK => ?_)
              go_simp
              refine (number_yes (by omega) hb _ (HTab.out _ F2)).mono ?_
              rintro e w4 ⟨rfl, hb4⟩
              have F3 := F2.trans (Bt2.of_below (R := R) (Q := Q) hb4)
              have HT4 := Lib.hid (HT3.out.on hb4)
              refine hK _ _ ?_
              clear hK K
              try simp only [Act.put, List.setIfInBounds_toArray, List.set_cons_zero, List.set_cons_succ]
              refine wpAny_one (i := 9) (by kernel_rfl) rfl (fun K hK => ?_)
              go_simp
              refine (rest_any R c w4 HT4.out).mono ?_
              rintro e w5 ⟨rfl, hb5, hts5⟩
              have F4 := F3.trans (Bt2.one (Q := Q) hb5)
              refine hK _ _ ?_
              clear hK K
              try simp only [Act.put, List.setIfInBounds_toArray, List.set_cons_zero, List.set_cons_succ]
              refine wpAny_one (i := 10) (by kernel_rfl) rfl (fun K hK => ?_)
              go_simp
              refine (number_yes (by omega) hq _ (HTab.out _ F4)).mono ?_
              rintro e w6 ⟨rfl, hb6⟩
              have F5 := F4.trans (Bt2.of_below (R := R) (Q := Q) hb6)
              refine hK _ _ ?_
              clear hK K
              try simp only [Act.put, List.setIfInBounds_toArray, List.set_cons_zero, List.set_cons_succ]
              refine wpAny_one (i := 11) (by kernel_rfl) rfl (fun K hK => ?_)
              go_simp
              refine (named_no hk _).mono ?_
              rintro e w7 ⟨rfl, hb7⟩
              exact ⟨rfl, nmP_no (HFW.out w7 (F5.trans (Bt2.of_below (R := R) (Q := Q) hb7))) HEND.out⟩
            | true =>
              have HFIN : Hid (nmN s = some (n, m, t, q)) := by rw [Hid, HNM.out]; simp [hep, hc2, hb, hq, hk]
              refine wp_region_any (by kernel_rfl) ?_
              change wpAny _ _ _ _ 13 _ _ X.drew
              refine wpAny_take (i := 1) (v := ?_) rfl (by kernel_rfl) (by kernel_rfl) (by kernel_rfl) (fun _ _ _ h => h) (Or.inl ⟨by rfl, ?_⟩) ?_
              rotate_left
              · intro w
                go_simp
                all_goals with_reducible rfl
              simp only [Act.put, List.setIfInBounds_toArray, List.set_cons_zero, List.set_cons_succ]
              refine wpAny_take (i := 2) (v := ?_) rfl (by kernel_rfl) (by kernel_rfl) (by kernel_rfl) (fun _ _ _ h => h) (Or.inl ⟨by rfl, ?_⟩) ?_
              rotate_left
              · intro w
                go_simp
                all_goals with_reducible rfl
              simp only [Act.put, List.setIfInBounds_toArray, List.set_cons_zero, List.set_cons_succ]
              refine wpAny_take (i := 3) (v := ?_) rfl (by kernel_rfl) (by kernel_rfl) (by kernel_rfl) (fun _ _ _ h => h) (Or.inl ⟨by rfl, ?_⟩) ?_
              rotate_left
              · intro w
                go_simp
                all_goals with_reducible rfl
              simp only [Act.put, List.setIfInBounds_toArray, List.set_cons_zero, List.set_cons_succ]
              refine wpAny_take (i := 6) (v := ?_) rfl (by kernel_rfl) (by kernel_rfl) (by kernel_rfl) (fun _ _ _ h => h) (Or.inl ⟨by rfl, ?_⟩) ?_
              rotate_left
              · intro w
                go_simp
                all_goals with_reducible rfl
              simp only [Act.put, List.setIfInBounds_toArray, List.set_cons_zero, List.set_cons_succ]
              refine wpAny_take (i := 7) (v := ?_) rfl (by kernel_rfl) (by kernel_rfl) (by kernel_rfl) (fun _ _ _ h => h) (Or.inl ⟨by rfl, ?_⟩) ?_
              rotate_left
              · intro w
                go_simp
                all_goals with_reducible rfl
              simp only [Act.put, List.setIfInBounds_toArray, List.set_cons_zero, List.set_cons_succ]
              refine wpAny_take (i := 8) (v := ?_) rfl (by kernel_rfl) (by kernel_rfl) (by kernel_rfl) (fun _ _ _ h => h) (Or.inl ⟨by rfl, ?_⟩) ?_
              rotate_left
              · intro w
                go_simp
                all_goals with_reducible rfl
              simp only [Act.put, List.setIfInBounds_toArray, List.set_cons_zero, List.set_cons_succ]
              refine wpAny_one (i := 0) (by kernel_rfl) rfl (fun K hK => ?_)
              go_simp
              refine (endpoint_yes (by omega) hep _ HTX.out hQ HTa.out).mono ?_
              rintro e w2 ⟨rfl, hb2⟩
              have F1 := F0.trans (Bt2.two (R := R) hb2)
              have HT2 := Lib.hid (HTr.out.bt hb2 hne)
              refine hK _ _ ?_
              clear hK K
              try simp only [Act.put, List.setIfInBounds_toArray, List.set_cons_zero, List.set_cons_succ]
              refine wpAny_one (i := 4) (by kernel_rfl) rfl (fun K hK => ?_)
              go_simp
              refine (HU.out w2 HT2.out).mono ?_
              rintro e w3 ⟨rfl, hb3, hts3⟩
              have F2 := F1.trans (Bt2.one (Q := Q) hb3)
              have HT3 := Lib.hid hts3
              refine hK _ _ ?_
              clear hK K
              try simp only [Act.put, List.setIfInBounds_toArray, List.set_cons_zero, List.set_cons_succ]
              refine wpAny_one (i := 5) (by kernel_rfl) rfl (fun K hK => ?_)
              go_simp
              refine (number_yes (by omega) hb _ (HTab.out _ F2)).mono ?_
              rintro e w4 ⟨rfl, hb4⟩
              have F3 := F2.trans (Bt2.of_below (R := R) (Q := Q) hb4)
              have HT4 := Lib.hid (HT3.out.on hb4)
              refine hK _ _ ?_
              clear hK K
              try simp only [Act.put, List.setIfInBounds_toArray, List.set_cons_zero, List.set_cons_succ]
              refine wpAny_one (i := 9) (by kernel_rfl) rfl (fun K hK => ?_)
              go_simp
              refine (rest_any R c w4 HT4.out).mono ?_
              rintro e w5 ⟨rfl, hb5, hts5⟩
              have F4 := F3.trans (Bt2.one (Q := Q) hb5)
              refine hK _ _ ?_
              clear hK K
              try simp only [Act.put, List.setIfInBounds_toArray, List.set_cons_zero, List.set_cons_succ]
              refine wpAny_one (i := 10) (by kernel_rfl) rfl (fun K hK => ?_)
              go_simp
              refine (number_yes (by omega) hq _ (HTab.out _ F4)).mono ?_
              rintro e w6 ⟨rfl, hb6⟩
              have F5 := F4.trans (Bt2.of_below (R := R) (Q := Q) hb6)
              refine hK _ _ ?_
              clear hK K
              try simp only [Act.put, List.setIfInBounds_toArray, List.set_cons_zero, List.set_cons_succ]
              refine wpAny_one (i := 11) (by kernel_rfl) rfl (fun K hK => ?_)
              go_simp
              refine (named_yes hk _).mono ?_
              rintro e w7 ⟨rfl, hb7⟩
              have HF6 := Lib.hid (F5.trans (Bt2.of_below (R := R) (Q := Q) hb7))
              obtain ⟨⟨d0, d1, d2, d3⟩, df⟩ := HCW.out _ HF6.out
              have f0 := df 0
              have f1 := df 1
              have f2 := df 2
              have f3 := df 3
              clear df
              refine hK _ _ ?_
              clear hK K
              try simp only [Act.put, List.setIfInBounds_toArray, List.set_cons_zero, List.set_cons_succ]
              refine wpAny_one (i := 12) (by kernel_rfl) rfl (fun K hK => ?_)
              go_simp
              refine hK _ _ ?_
              clear hK K
              refine wpAny_done (by kernel_rfl) ?_ _
              obtain ⟨e0, e1, e2, e3⟩ := put4 (.int .u32 (n : Int)) (.int .u32 (m : Int)) (.int .u64 (t : Int)) (.int .u32 (q : Int)) d0 d1 d2 d3
              have HBE := Lib.hid (((((HFW.out _ HF6.out).put (p := ⟨w.heap.size, 0, none⟩) (Nat.le_refl _) (.int .u32 (n : Int))).put (p := ⟨w.heap.size, 1, none⟩) (Nat.le_refl _) (.int .u32 (m : Int))).put (p := ⟨w.heap.size, 2, none⟩) (Nat.le_refl _) (.int .u64 (t : Int))).put (p := ⟨w.heap.size, 3, none⟩) (Nat.le_refl _) (.int .u32 (q : Int)))
              go_wp2_with fail
              refine bodyPost_ret (v := .agg #[.int .u32 n, .int .u32 m, .int .u64 t, .int .u32 q]) (by simp [results, Tryd.results50, go_sem, e0, e1, e2, e3]) rfl (nmP_yes HBE.out HFIN.out)

end Go.Proofs.YtjbdpkjkeelgfaaDoor
