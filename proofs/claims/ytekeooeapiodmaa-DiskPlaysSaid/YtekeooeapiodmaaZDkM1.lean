/- DiskPlays, walked. -/
import Derived.Test.YtekeooeapiodmaaZDkL3
namespace Go.Proofs.Ytekeooeapiodmaa
open Go Go.RowKit Go.Shelf
set_option linter.unusedSimpArgs false
set_option linter.unusedVariables false
set_option maxRecDepth 100000

attribute [local go_sem] Oper.semAt_some

/-- The document's rows are none that begins with a slice. -/
theorem RfV.apart {w : World} {N : Nat → List Value → Prop} {v : Value} {D : DkM} (h : RfV w N v D) {b : Nat} {a : Option Addr} {n c : Nat} (hb : w.cell? ⟨b, 0, none⟩ = some (.slice a n c)) : RfV w (fun g l => N g l ∧ g ≠ b) v D := by
  obtain ⟨A1, C1, A2, C2, rfl, h1, h2⟩ := h
  have key : ∀ (A : Option Addr) (l : List Value), (∀ u, l[0]? = some u → ∀ a n c, u ≠ .slice a n c) → RdO w N A l → RdO w (fun g l => N g l ∧ g ≠ b) A l := by
    intro A l hl hA
    rcases hA with h | ⟨g, rfl, hg, hr, hn⟩
    · exact .inl h
    · cases l with
      | nil => exact .inl rfl
      | cons u r =>
        refine .inr ⟨g, rfl, hg, hr, hn, fun e => ?_⟩
        subst e
        have h0 := hr.1 0 u rfl
        rw [hb] at h0
        injection h0 with h0
        exact hl u rfl a n c h0.symm
  refine ⟨A1, C1, A2, C2, rfl, key _ _ (fun u hu a n c e => ?_) h1, key _ _ (fun u hu a n c e => ?_) h2⟩
  · subst e
    have hm := List.mem_of_getElem? hu
    simp only [lieL, List.mem_map] at hm
    obtain ⟨k, _, h⟩ := hm
    cases h
  · subst e
    cases hw : D.wt with
    | nil => rw [hw] at hu; simp [putsL] at hu
    | cons x r => rw [hw] at hu; simp [putsL] at hu
theorem DSt.put {w0 X : World} {p b : Nat} {D D' : DkM} {Q : List (Nat × List Value)} {v : Value} {a : Option Addr} {n c : Nat} {u1 u2 : Value} (h : DSt w0 X p D Q) (hm : (b, [.slice a n c, u1, u2]) ∈ Q) (hv : RfV X (inR Q) v D') (hw : w0.heap.size ≤ b) (c0 c1 c2 : Value) :
    DSt w0 (set3 X b c0 c1 c2) p D ((b, [c0, c1, c2]) :: Q.filter fun r => decide (r.1 ≠ b)) ∧ RfV (set3 X b c0 c1 c2) (inR ((b, [c0, c1, c2]) :: Q.filter fun r => decide (r.1 ≠ b))) v D' := by
  have hv2 := hv.apart ((h.row hm).1 0 _ rfl)
  have hne : ∀ r ∈ Q.filter (fun r => decide (r.1 ≠ b)), r.1 ≠ b := fun r hr => by
    have := (List.mem_filter.1 hr).2
    simpa using this
  have h1 : DSt w0 X p D ((b, [.slice a n c, u1, u2]) :: Q.filter fun r => decide (r.1 ≠ b)) := h.sub fun r hr => by
    rcases List.mem_cons.1 hr with rfl | hr
    · exact hm
    · exact (List.mem_filter.1 hr).1
  have h2 := h1.set3H hw hne c0 c1 c2
  have hv3 : RfV X (inR (Q.filter fun r => decide (r.1 ≠ b))) v D' := hv2.mono fun g l _ h => List.mem_filter.2 ⟨h.1, by simpa using h.2⟩
  exact ⟨h2, hv3.stay h2 fun r hr => List.mem_cons_of_mem _ hr⟩
/-- Both disks, the document's in a box. -/
def Both (w0 w : World) (p : Nat) (D : DkM) (b : Nat) : Prop :=
  ∃ A1 C1 A2 C2 Q, DSt w0 w p D Q ∧ (b, [.slice A1 D.n C1, .slice A2 D.wt.length C2, .int .i64 D.left]) ∈ Q ∧ RfV w (inR Q) (.agg #[.slice A1 D.n C1, .slice A2 D.wt.length C2, .int .i64 D.left]) D ∧ D.pl
theorem both_put {w0 X : World} {p b : Nat} {D : DkM} {Q : List (Nat × List Value)} {A1 A2 a : Option Addr} {C1 C2 n c : Nat} {u1 u2 : Value} (h : DSt w0 X p D Q) (hm : (b, [.slice a n c, u1, u2]) ∈ Q) (hv : RfV X (inR Q) (.agg #[.slice A1 D.n C1, .slice A2 D.wt.length C2, .int .i64 D.left]) D) (hw : w0.heap.size ≤ b) (hpl : D.pl) :
    Both w0 (set3 X b (.slice A1 D.n C1) (.slice A2 D.wt.length C2) (.int .i64 D.left)) p D b := by
  obtain ⟨h1, h2⟩ := h.put hm hv hw (.slice A1 D.n C1) (.slice A2 D.wt.length C2) (.int .i64 D.left)
  exact ⟨A1, C1, A2, C2, _, h1, List.mem_cons_self .., h2, hpl⟩
/-- The disk behind these calls. -/
def runM (l : List AcT) (D : DkM) : DkM := l.foldl (fun D x => nextM D x.what x.ka x.mo x.bt x.keep) D
theorem runM_push (l : List AcT) (x : AcT) (D : DkM) : runM (l ++ [x]) D = nextM (runM l D) x.what x.ka x.mo x.bt x.keep := by simp [runM]
theorem runM_few : ∀ (l : List AcT) (D : DkM), (runM l D).wt.length ≤ D.wt.length + l.length
  | [], D => Nat.le_refl _
  | x :: r, D => by
    have h1 := runM_few r (nextM D x.what x.ka x.mo x.bt x.keep)
    have h2 := next_few D x.what x.ka x.mo x.bt x.keep
    have e : runM (x :: r) D = runM r (nextM D x.what x.ka x.mo x.bt x.keep) := rfl
    rw [e, List.length_cons]
    omega
theorem takeA {l : List AcT} {i : Nat} {x : AcT} (hx : l[i]? = some x) : l.take (i + 1) = l.take i ++ [x] := by rw [List.take_add_one, hx]; rfl
theorem act_ok {w0 : World} {x : AcT} (hf : x.fine = true) (h : x.fit w0 w0.heap.size) : ActOk w0 x.what x.ka x.mo x.kA x.keep := by
  unfold AcT.fine at hf
  simp only [Bool.and_eq_true, decide_eq_true_eq, Bool.not_eq_true', Bool.and_eq_false_iff, beq_eq_false_iff_ne, decide_eq_false_iff_not] at hf
  exact ⟨h.1, h.2.1, h.2.2, hf.1, fun e => by rcases hf.2 with h | h; exact absurd e h; omega⟩
theorem few_at {l : List AcT} {m i : Nat} {x : AcT} (h : fewA l m = true) (hx : l[i]? = some x) : x.fine = true := by
  unfold fewA at h
  simp only [Bool.and_eq_true, List.all_eq_true] at h
  exact h.1 x (List.mem_of_getElem? hx)
theorem few_len {l : List AcT} {m : Nat} (h : fewA l m = true) : l.length ≤ m := by
  unfold fewA at h
  simp only [Bool.and_eq_true, decide_eq_true_eq] at h
  exact h.2
theorem newM_pl (n : Nat) : (newM n).pl := fun x hx => by cases hx

set_option maxHeartbeats 8000000 in
theorem plays_none (k : Int) (hk : -9223372036854775808 ≤ k ∧ k < 9223372036854775808) (h : k < 1 ∨ 4096 < k) (A : Option Addr) (n C : Nat) (w : World) :
    Calls Try.prog 3 #[.int .i64 k, .slice A n C] w fun e w' => e = .returned (.bool true) ∧ Below w.heap.size w w' := by
  have HB : Hid (bndS k = false) := by
    unfold Hid bndS
    simp only [Bool.and_eq_false_iff, decide_eq_false_iff_not]
    omega
  have HH := Lib.hid h
  have HK := Lib.hid hk
  clear h hk
  go_enter Try.func3, Try.ntmps3
  go_wp2_with fail
  refine (new_any k HK.out w).mono ?_
  rintro e w1 ⟨hb, ⟨hz, _⟩ | ⟨_, rfl⟩⟩
  · rw [HB.out] at hz; cases hz
  have HB1 := Lib.hid hb
  clear hb
  by_cases h1 : k < 4097
  · have h2 : ¬ (4097 : Int) < k := by omega
    have h3 : ¬ (4097 : Int) ≤ k := by omega
    go_wp2_with fail
    refine (rnewNot_any k HK.out HH.out w1).mono ?_
    rintro e w2 ⟨⟨A1, n1, C1, A2, n2, C2, z, rfl⟩, hb⟩
    have HB2 := Lib.hid (below_on HB1.out hb)
    clear hb
    go_wp2_with fail
    refine (dknum_any 2 _).mono ?_
    rintro e9 w9 ⟨rfl, h9⟩
    rw [← h9]
    clear h9 w9
    go_wp2_with fail
    refine (dkworks_any _).mono ?_
    rintro e w3 ⟨rfl, hb⟩
    have HB3 := Lib.hid (below_on (below_al HB2.out (.cells #[.slice A1 n1 C1, .slice A2 n2 C2, .int .i64 z] 30)) hb)
    clear hb
    go_wp2_with fail
    go_ret
    exact ⟨rfl, HB3.out⟩
  · have h2 : (4097 : Int) ≤ k := by omega
    go_wp2_with fail
    · refine (rnewNot_any 4097 ⟨by decide, by decide⟩ (.inr (by decide)) w1).mono ?_
      rintro e w2 ⟨⟨A1, n1, C1, A2, n2, C2, z, rfl⟩, hb⟩
      have HB2 := Lib.hid (below_on HB1.out hb)
      clear hb
      go_wp2_with fail
      refine (dknum_any 2 _).mono ?_
      rintro e9 w9 ⟨rfl, h9⟩
      rw [← h9]
      clear h9 w9
      go_wp2_with fail
      refine (dkworks_any _).mono ?_
      rintro e w3 ⟨rfl, hb⟩
      have HB3 := Lib.hid (below_on (below_al HB2.out (.cells #[.slice A1 n1 C1, .slice A2 n2 C2, .int .i64 z] 30)) hb)
      clear hb
      go_wp2_with fail
      go_ret
      exact ⟨rfl, HB3.out⟩
    · refine (rnewNot_any k HK.out HH.out w1).mono ?_
      rintro e w2 ⟨⟨A1, n1, C1, A2, n2, C2, z, rfl⟩, hb⟩
      have HB2 := Lib.hid (below_on HB1.out hb)
      clear hb
      go_wp2_with fail
      refine (dknum_any 2 _).mono ?_
      rintro e9 w9 ⟨rfl, h9⟩
      rw [← h9]
      clear h9 w9
      go_wp2_with fail
      refine (dkworks_any _).mono ?_
      rintro e w3 ⟨rfl, hb⟩
      have HB3 := Lib.hid (below_on (below_al HB2.out (.cells #[.slice A1 n1 C1, .slice A2 n2 C2, .int .i64 z] 30)) hb)
      clear hb
      go_wp2_with fail
      go_ret
      exact ⟨rfl, HB3.out⟩

set_option maxHeartbeats 16000000 in
theorem plays_many (n : Nat) (h1 : 1 ≤ n) (h2 : n ≤ 4096) (A : Option Addr) (C : Nat) (l : List AcT) (hlen : l.length ≤ 9223372036854775807) (w : World) (hr : RdAc w w.heap.size A l) (h30 : 30 < n) :
    Calls Try.prog 3 #[.int .i64 n, .slice A l.length C] w fun e w' => e = .returned (.bool true) ∧ Below w.heap.size w w' := by
  have HM : Hid (1 ≤ n ∧ n ≤ 4096) := ⟨h1, h2⟩
  have HBn : Hid (bndS (n : Nat) = true) := by
    unfold Hid bndS
    simp only [Bool.and_eq_true, decide_eq_true_eq]
    omega
  have HFw : Hid (∀ X, Below w.heap.size w X → Calls Try.prog 10 #[.slice A l.length C, .int .i64 (40 : Nat)] X fun e w' => e = .returned (.bool (fewA l 40)) ∧ X = w') := fun X hX => few_any A C l 40 (by decide) X hlen (by
    rcases hr.later hX with h | ⟨g, o, e, hg, hc⟩
    · exact .inl h
    · exact .inr ⟨g, o, e, Nat.lt_of_lt_of_le hg hX.size, fun i x hx => ⟨(hc i x hx).1, (hc i x hx).2.1, (hc i x hx).2.2.1, by
        rcases (hc i x hx).2.2.2 with h | ⟨g', o', e', hg', hc'⟩
        · exact .inl h
        · exact .inr ⟨g', o', e', Nat.lt_of_lt_of_le hg' hX.size, hc'⟩⟩⟩)
  have HRA := Lib.hid hr
  have h30I : (30 : Int) < (n : Int) := by omega
  clear h1 h2 h30 hr hlen
  go_enter Try.func3, Try.ntmps3
  go_wp2_with fail

  refine (new_any (n : Nat) ⟨by have := HM.out; omega, by have := HM.out; omega⟩ w).mono ?_
  rintro e w1 ⟨hb, ⟨_, p, rfl, hd⟩ | ⟨hz, _⟩⟩
  rotate_left
  · rw [HBn.out] at hz; cases hz
  rw [Int.toNat_natCast] at hd
  have HD1 : Hid (DSt w w1 p (newM n) []) := .start (k := 0) hd hb (newM_ok HM.out.1 HM.out.2)
  clear hb hd
  have hmin : ¬ (4097 : Int) < (n : Int) := by have := HM.out; omega
  have hmin2 : ¬ (4097 : Int) ≤ (n : Int) := by have := HM.out; omega
  go_wp2_with fail
  refine (rnew_any n HM.out.1 HM.out.2 w1).mono ?_
  rintro e w2 ⟨vr, rfl, hv, hb⟩
  obtain ⟨R0, hd2, hv2, hR0⟩ := DSt.ref (R := []) HD1.out (fun r hr => hr) hb (hv.mono fun g l _ h => .inr h)
  have HD2 : Hid (DSt w w2 p (newM n) (R0 ++ [])) := hd2
  obtain ⟨A1, C1, A2, C2, rfl, q1, q2⟩ := hv2
  have HV2 : Hid (RfV w2 (inR (R0 ++ [])) (.agg #[.slice A1 (newM n).n C1, .slice A2 (newM n).wt.length C2, .int .i64 (newM n).left]) (newM n)) := ⟨A1, C1, A2, C2, rfl, q1, q2⟩
  clear hv hb hd2 hR0 q1 q2 hmin hmin2
  obtain ⟨W3, hW3⟩ : ∃ W3, W3 = w2.alloc (.cells #[.slice A1 (newM n).n C1, .slice A2 (newM n).wt.length C2, .int .i64 (newM n).left] 30) := ⟨_, rfl⟩
  have HDq : Hid (DSt w W3 p (newM n) ((w2.heap.size, [.slice A1 (newM n).n C1, .slice A2 (newM n).wt.length C2, .int .i64 (newM n).left]) :: (R0 ++ []))) := by rw [hW3]; exact HD2.out.alloc1 _ _
  go_upto_region 5 with fail
  rw [← hW3]
  clear hW3
  go_wp2_with fail
  refine (HDq.out.len).mono ?_
  rintro e w4 ⟨rfl, hd4, _⟩
  have HD4 := Lib.hid hd4
  clear hd4
  go_wp2_with fail
  refine (dknum_any 0 _).mono ?_
  rintro e9 w9 ⟨rfl, h9⟩
  rw [← h9]
  clear h9 w9
  go_wp2_with fail
  refine (dkworks_any _).mono ?_
  rintro e w5 ⟨rfl, hb⟩
  have HB5 := Lib.hid (below_on HD4.out.below hb)
  clear hb
  go_wp2_with fail
  go_ret
  exact ⟨rfl, HB5.out⟩

set_option maxHeartbeats 16000000 in
theorem plays_few (n : Nat) (h1 : 1 ≤ n) (h2 : n ≤ 4096) (A : Option Addr) (C : Nat) (l : List AcT) (hlen : l.length ≤ 9223372036854775807) (w : World) (hr : RdAc w w.heap.size A l) (h30 : n ≤ 30) (hf : fewA l 40 = false) :
    Calls Try.prog 3 #[.int .i64 n, .slice A l.length C] w fun e w' => e = .returned (.bool true) ∧ Below w.heap.size w w' := by
  have HM : Hid (1 ≤ n ∧ n ≤ 4096) := ⟨h1, h2⟩
  have HBn : Hid (bndS (n : Nat) = true) := by
    unfold Hid bndS
    simp only [Bool.and_eq_true, decide_eq_true_eq]
    omega
  have HFw : Hid (∀ X, Below w.heap.size w X → Calls Try.prog 10 #[.slice A l.length C, .int .i64 (40 : Nat)] X fun e w' => e = .returned (.bool (fewA l 40)) ∧ X = w') := fun X hX => few_any A C l 40 (by decide) X hlen (by
    rcases hr.later hX with h | ⟨g, o, e, hg, hc⟩
    · exact .inl h
    · exact .inr ⟨g, o, e, Nat.lt_of_lt_of_le hg hX.size, fun i x hx => ⟨(hc i x hx).1, (hc i x hx).2.1, (hc i x hx).2.2.1, by
        rcases (hc i x hx).2.2.2 with h | ⟨g', o', e', hg', hc'⟩
        · exact .inl h
        · exact .inr ⟨g', o', e', Nat.lt_of_lt_of_le hg' hX.size, hc'⟩⟩⟩)
  have HRA := Lib.hid hr
  have h30I : ¬ (30 : Int) < (n : Int) := by omega
  rw [hf] at HFw
  clear h1 h2 h30 hr hlen hf
  go_enter Try.func3, Try.ntmps3
  go_wp2_with fail

  refine (new_any (n : Nat) ⟨by have := HM.out; omega, by have := HM.out; omega⟩ w).mono ?_
  rintro e w1 ⟨hb, ⟨_, p, rfl, hd⟩ | ⟨hz, _⟩⟩
  rotate_left
  · rw [HBn.out] at hz; cases hz
  rw [Int.toNat_natCast] at hd
  have HD1 : Hid (DSt w w1 p (newM n) []) := .start (k := 0) hd hb (newM_ok HM.out.1 HM.out.2)
  clear hb hd
  have hmin : ¬ (4097 : Int) < (n : Int) := by have := HM.out; omega
  have hmin2 : ¬ (4097 : Int) ≤ (n : Int) := by have := HM.out; omega
  go_wp2_with fail
  refine (rnew_any n HM.out.1 HM.out.2 w1).mono ?_
  rintro e w2 ⟨vr, rfl, hv, hb⟩
  obtain ⟨R0, hd2, hv2, hR0⟩ := DSt.ref (R := []) HD1.out (fun r hr => hr) hb (hv.mono fun g l _ h => .inr h)
  have HD2 : Hid (DSt w w2 p (newM n) (R0 ++ [])) := hd2
  obtain ⟨A1, C1, A2, C2, rfl, q1, q2⟩ := hv2
  have HV2 : Hid (RfV w2 (inR (R0 ++ [])) (.agg #[.slice A1 (newM n).n C1, .slice A2 (newM n).wt.length C2, .int .i64 (newM n).left]) (newM n)) := ⟨A1, C1, A2, C2, rfl, q1, q2⟩
  clear hv hb hd2 hR0 q1 q2 hmin hmin2
  obtain ⟨W3, hW3⟩ : ∃ W3, W3 = w2.alloc (.cells #[.slice A1 (newM n).n C1, .slice A2 (newM n).wt.length C2, .int .i64 (newM n).left] 30) := ⟨_, rfl⟩
  have HDq : Hid (DSt w W3 p (newM n) ((w2.heap.size, [.slice A1 (newM n).n C1, .slice A2 (newM n).wt.length C2, .int .i64 (newM n).left]) :: (R0 ++ []))) := by rw [hW3]; exact HD2.out.alloc1 _ _
  go_upto_region 5 with fail
  rw [← hW3]
  clear hW3
  go_wp2_with fail
  refine (HFw.out _ HDq.out.below).mono ?_
  rintro e w9 ⟨rfl, h9⟩
  rw [← h9]
  clear h9 w9
  go_wp2_with fail
  refine (HDq.out.len).mono ?_
  rintro e w4 ⟨rfl, hd4, _⟩
  have HD4 := Lib.hid hd4
  clear hd4
  go_wp2_with fail
  refine (dknum_any 0 _).mono ?_
  rintro e9 w9 ⟨rfl, h9⟩
  rw [← h9]
  clear h9 w9
  go_wp2_with fail
  refine (dkworks_any _).mono ?_
  rintro e w5 ⟨rfl, hb⟩
  have HB5 := Lib.hid (below_on HD4.out.below hb)
  clear hb
  go_wp2_with fail
  go_ret
  exact ⟨rfl, HB5.out⟩

end Go.Proofs.Ytekeooeapiodmaa

