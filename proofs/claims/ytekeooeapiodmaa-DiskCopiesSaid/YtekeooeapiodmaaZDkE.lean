/- Package disk: Write. -/
import Derived.Test.YtekeooeapiodmaaZDkD
import Derived.Laws.CopyRow
import Derived.Deep.WholeRow
import Derived.Great.BuildSlice
import Derived.Test.YtekeooeapiodmaaZHeldT
namespace Go.Proofs.Ytekeooeapiodmaa
open Go Go.RowKit Go.Shelf
set_option linter.unusedSimpArgs false
set_option linter.unusedVariables false
set_option maxRecDepth 100000

attribute [local go_sem] Oper.semAt_some

/-- The four questions of Write. -/
def wrAsks (p n : Nat) (left k : Int) (m b1 b2 b3 : Nat) : List Ask :=
  [⟨31, #[.pointer (some ⟨p, 0, none⟩)], #[], unE (!(n == 0)) 1⟩, ⟨65, #[], #[.pointer (some ⟨b1, 0, none⟩)], unE ((m : Int) == 64) 2⟩,
   ⟨66, #[], #[.pointer (some ⟨b2, 0, none⟩), .pointer (some ⟨b3, 0, none⟩)], unE (hasS n k) 4⟩, ⟨50, #[.pointer (some ⟨p, 0, none⟩)], #[], unE (left != 0) 190⟩]

/-- What Write answers. -/
def DkM.wrE (D : DkM) (k : Int) (m : Nat) : Int := if m ≠ 64 then 2 else if hasS D.n k = false then 4 else if D.left = 0 then 190 else 0

theorem wrAsks_first (p n : Nat) (left k : Int) (m b1 b2 b3 : Nat) (h1 : 1 ≤ n) : firstE (wrAsks p n left k m b1 b2 b3) = if m ≠ 64 then 2 else if hasS n k = false then 4 else if left = 0 then 190 else 0 := by
  have e0 := unE_there h1
  show (if unE (!(n == 0)) 1 = 0 then (if unE ((m : Int) == 64) 2 = 0 then (if unE (hasS n k) 4 = 0 then (if unE (left != 0) 190 = 0 then 0 else unE (left != 0) 190) else unE (hasS n k) 4) else unE ((m : Int) == 64) 2) else unE (!(n == 0)) 1) = _
  rw [e0, if_pos rfl]
  by_cases hm : m = 64
  · subst hm
    simp only [ne_eq, not_true, if_false]
    have e1 : unE (((64 : Nat) : Int) == 64) 2 = 0 := rfl
    rw [e1, if_pos rfl]
    cases hh : hasS n k
    · simp [unE]
    · simp only [unE, if_true, Bool.true_eq_false, if_false]
      by_cases hl : left = 0
      · subst hl; rfl
      · have : (left != 0) = true := by simpa using hl
        rw [this]
        simp [hl]
  · have e1 : unE ((m : Int) == 64) 2 = 2 := by
      have : ((m : Int) == 64) = false := by simp; omega
      rw [this]; rfl
    rw [e1]
    simp [hm]

theorem zwr_eq (k : Int) : Try.zeroCells88.toList.set 0 (.int .i64 k) = wrL (k, zeroS) := by
  have e : Try.zeroCells88.toList = .int .i64 0 :: (List.replicate 64 (0 : UInt8)).map encB := by kernel_rfl
  rw [e]
  rfl
theorem wrL_one (x : Int × List UInt8) : ∀ u ∈ wrL x, u.oneCell' = true := by
  intro u hu
  rcases List.mem_cons.1 hu with rfl | hu
  · rfl
  · exact encB_one _ u hu
theorem wr_store (k : Int) (w : World) : (storeCells ⟨w.heap.size, 0, none⟩ (Try.zeroCells88.toList.set 0 (.int .i64 k))).run Try.prog (w.alloc (.cells Try.zeroCells88 88)) = .ok () (w.alloc (.cells (wrL (k, zeroS)).toArray 88)) := by
  rw [zwr_eq]
  have hz : Try.zeroCells88.size = 65 := by kernel_rfl
  generalize Try.zeroCells88 = z at *
  have hl : (wrL (k, zeroS)).length = 65 := wrL_len (x := (k, zeroS)) (by rw [zeroS, List.length_replicate])
  have h := run_storeCells_at Try.prog w.heap.size 0 88 (wrL (k, zeroS)) 0 z (w.alloc (.cells z 88)) (MapKept.heap_alloc w _).1 (by rw [hz, hl]; decide) (wrL_one _)
  rw [World.setRow_alloc_new] at h
  have e : (z.toList.take (0 + 0) ++ wrL (k, zeroS) ++ z.toList.drop (0 + 0 + (wrL (k, zeroS)).length)) = wrL (k, zeroS) := by
    rw [hl, List.drop_eq_nil_of_le (by rw [Array.length_toList, hz]; decide), Nat.add_zero, List.take_zero, List.nil_append, List.append_nil]
  rw [e] at h
  exact h
theorem wr_copy (k : Int) (a : Option Addr) (c : Nat) (bs : List UInt8) (hl : bs.length = 64) (w : World) (hr : RdB w w.heap.size a bs) :
    (Builtin.copy_ #[57, 57] 3 #[.slice (some ⟨w.heap.size, 1, none⟩) 64 64, .slice a 64 c]).run Try.prog (w.alloc (.cells (wrL (k, zeroS)).toArray 88)) = .ok (.int .i64 64) (w.alloc (.cells (wrL (k, bs)).toArray 88)) := by
  obtain ⟨ad, rfl⟩ : ∃ ad, a = some ad := by
    rcases hr with h | ⟨b, o, e, _⟩
    · rw [h] at hl; simp at hl
    · exact ⟨_, e⟩
  have hw0 : (wrL (k, zeroS)).length = 65 := wrL_len (x := (k, zeroS)) (by rw [zeroS, List.length_replicate])
  have hsrc : ∀ j v, (bs.map encB)[j]? = some v → (w.alloc (.cells (wrL (k, zeroS)).toArray 88)).cell? (ad.add j) = some v := by
    intro j v hv
    rcases ((hr.below (below_al (Below.refl w.heap.size w) (.cells (wrL (k, zeroS)).toArray 88))).src) with h | ⟨ad', e, h⟩
    · rw [h] at hv; simp at hv
    · injection e with e
      subst e
      exact h j v hv
  have h := run_copy_row (P := Try.prog) (w.alloc (.cells (wrL (k, zeroS)).toArray 88)) 57 57 3 5 w.heap.size 1 64 64 ad 64 c (wrL (k, zeroS)).toArray 88 (bs.map encB) Try.underlying57 (by kernel_rfl) (MapKept.heap_alloc w _).1 (by rw [List.length_map, hl]; rfl) hsrc (by rw [List.length_map, hl, List.size_toArray, hw0]; decide) (encB_one bs)
  rw [World.setRow_alloc_new, List.length_map, hl] at h
  have e : ((wrL (k, zeroS)).toArray.toList.take 1 ++ bs.map encB ++ (wrL (k, zeroS)).toArray.toList.drop (1 + 64)) = wrL (k, bs) := by
    rw [List.drop_eq_nil_of_le (by rw [List.toList_toArray, hw0]; decide), List.append_nil]
    rfl
  rw [e] at h
  exact h

theorem info_wr : (Try.prog.info? 88).map (fun i => (i.zero, i.size, i.bytes)) = some (some (.agg (wrL (0, zeroS)).toArray), 65, 72) := by kernel_rfl

/-- A slice of one write. -/
theorem wr_slice (L : List Value) (hl : L.length = 65) (w : World) : (Instr.buildSlice 71 1 #[(0, .agg L.toArray)]).run Try.prog w = .ok (.slice (some ⟨w.heap.size, 0, none⟩) 1 1) (w.alloc (.cells L.toArray 88)) := by
  obtain ⟨i, hi, hz0, hsz0, hbt⟩ := info_parts info_wr
  have hz : (Value.agg (wrL (0, zeroS)).toArray).cells.size = 65 := by kernel_rfl
  have hsm : ¬ 1 * i.size > 2 ^ 24 := by rw [hsz0]; decide
  have hps : ¬ 1 * i.size = 0 := by rw [hsz0]; decide
  refine run_buildSlice w 71 88 1 #[(0, .agg L.toArray)] L.toArray i _ Try.underlying71 hi hz0 hsm hps ?_
  rw [hsz0]
  have h := Great.fill_whole (s := 65) (by decide) [.agg L.toArray] ((Array.range (1 * 65)).map ((Value.agg (wrL (0, zeroS)).toArray).cells[· % (Value.agg (wrL (0, zeroS)).toArray).cells.size]!)) (by
    intro v hv
    obtain rfl := List.mem_singleton.1 hv
    exact hl) (by simp)
  have e2 : ([Value.agg L.toArray].flatMap fun v => v.cells.toList).toArray = L.toArray := by
    simp [Value.cells]
  rw [e2] at h
  exact h

/-- What a write that is done leaves. -/
def DkM.wrote (D : DkM) (k : Int) (s : List UInt8) : DkM := DkM.didM { D with wt := D.wt ++ [(k, s)] }
/-- What Write answers. -/
def WroteP (S : Nat → Prop) (p : Nat) (D : DkM) (k : Int) (bs : List UInt8) (w : World) (e : Ending) (w' : World) : Prop :=
  e = .returned (.int .i64 (D.wrE k bs.length)) ∧ ((D.wrE k bs.length = 0 ∧ DkAt w' (fun b => S b ∨ newS w w' b) p (D.wrote k bs) ∧ ButS w.heap.size S w w') ∨ (D.wrE k bs.length ≠ 0 ∧ Below w.heap.size w w'))

set_option maxHeartbeats 4000000 in
theorem write_any (S : Nat → Prop) (p : Nat) (D : DkM) (hok : D.ok) (k : Int) (hk : -9223372036854775808 ≤ k ∧ k < 9223372036854775808) (a : Option Addr) (c : Nat) (bs : List UInt8) (hfew : D.wt.length < 1000000) (w : World) (hc : bs.length ≤ c) (hr : RdB w w.heap.size a bs) (h : DkAt w S p D) :
    Calls Try.prog 19 #[.pointer (some ⟨p, 0, none⟩), .int .i64 k, .slice a bs.length c] w (WroteP S p D k bs w) := by
  have hmf : ∀ (fn : Fn) (first cap : Array Value) (w : World), (Instr.makeFunc fn first cap).run Try.prog w = .ok (.func fn first cap) w := fun _ _ _ _ => rfl
  have HH := Lib.hid h
  have HR := Lib.hid hr
  have HO := Lib.hid hok
  obtain ⟨m, hm⟩ : ∃ m, m = bs.length := ⟨_, rfl⟩
  rw [← hm] at hc ⊢
  have HM := Lib.hid hm
  have HF := Lib.hid hfew
  clear h hr hok hm hfew
  go_enter Try.func19, Try.ntmps19
  go_wp2_with fail
  refine (dwhole_any a m c w).mono ?_
  rintro e w1 ⟨rfl, hw1⟩
  have HB1 : Hid (Below w.heap.size w w1) := by rw [hw1]; exact below_al (Below.refl _ _) _
  have HX1 : Hid (∀ w', Below w1.heap.size w1 w' → w'.cell? ⟨w.heap.size, 0, none⟩ = some (.slice a m c)) := fun w' h => by rw [hw1] at h; exact box_at h 0
  clear hw1
  go_wp2_with fail
  refine (dwithin_any _ k w1).mono ?_
  rintro e w2 ⟨rfl, hw2⟩
  have HB2 : Hid (Below w1.heap.size w1 w2) := by rw [hw2]; exact below_al (below_al (Below.refl _ _) _) _
  have HX2 : Hid (∀ w', Below w2.heap.size w2 w' → w'.cell? ⟨w1.heap.size, 0, none⟩ = some (.pointer (some ⟨p, 0, none⟩)) ∧ w'.cell? ⟨w1.heap.size + 1, 0, none⟩ = some (.int .i64 k)) := fun w' h => by
    rw [hw2] at h
    have h1 := box_at ((below_al (Below.refl _ _) _).trans (h.mono (by simp))) 0
    have h2 := box_at h 0
    rw [World.size_alloc] at h2
    exact ⟨h1, h2⟩
  clear hw2
  go_wp2_with fail
  have hA : AsksAt (w2.alloc (.cells ((wrAsks p D.n D.left k m w.heap.size w1.heap.size (w1.heap.size + 1)).map fun q => Value.func (.func q.g) q.fs q.lb).toArray 59)) (wrAsks p D.n D.left k m w.heap.size w1.heap.size (w1.heap.size + 1)) := by
    intro j q hq _
    have hbb : ∀ w', Below (w2.alloc (.cells ((wrAsks p D.n D.left k m w.heap.size w1.heap.size (w1.heap.size + 1)).map fun q => Value.func (.func q.g) q.fs q.lb).toArray 59)).heap.size (w2.alloc (.cells ((wrAsks p D.n D.left k m w.heap.size w1.heap.size (w1.heap.size + 1)).map fun q => Value.func (.func q.g) q.fs q.lb).toArray 59)) w' → Below w2.heap.size w2 w' := fun w' h => (below_al (Below.refl _ _) _).trans (h.mono (by simp))
    have hD : ∀ w', Below w2.heap.size w2 w' → DkAt w' S p D := fun w' h => HH.out.on (below_on (below_on HB1.out HB2.out) h)
    match j, hq with
    | 0, hq =>
      injection hq with hq
      subst hq
      exact ⟨ent_there, fun w' hb => (dthere_any _ D.n w' (hD w' (hbb w' hb)).n).mono fun e w'' h => ⟨h.1, by rw [← h.2]; exact Below.refl _ _⟩⟩
    | 1, hq =>
      injection hq with hq
      subst hq
      exact ⟨ent_whole, fun w' hb => (dwhole1_any w.heap.size m c a w' (HX1.out w' (below_on HB2.out (hbb w' hb)))).mono fun e w'' h => ⟨h.1, by rw [← h.2]; exact Below.refl _ _⟩⟩
    | 2, hq =>
      injection hq with hq
      subst hq
      refine ⟨ent_within, fun w' hb => ?_⟩
      obtain ⟨_, m1, m2, v, hrow⟩ := (hD w' (hbb w' hb)).row
      obtain ⟨y0, y1⟩ := HX2.out w' (hbb w' hb)
      exact (dwithin1_any p w1.heap.size (w1.heap.size + 1) D.n k w' (hrow.1 0 _ rfl) y0 y1)
    | 3, hq =>
      injection hq with hq
      subst hq
      refine ⟨ent_works, fun w' hb => ?_⟩
      obtain ⟨_, m1, m2, v, hrow⟩ := (hD w' (hbb w' hb)).row
      exact (dworks_any' p D.left w' (hrow.1 4 _ rfl)).mono fun e w'' h => ⟨h.1, by rw [← h.2]; exact Below.refl _ _⟩
    | j + 4, hq => simp [wrAsks] at hq
  refine (refusal_at (wrAsks p D.n D.left k m w.heap.size w1.heap.size (w1.heap.size + 1)) w2 (by simp [wrAsks]) (by simp [wrAsks]) hA).mono ?_
  clear hA
  rintro e w3 ⟨rfl, hb3⟩
  rw [wrAsks_first _ _ _ _ _ _ _ _ HO.out.n1]
  have HB3 : Hid (Below w.heap.size w w3) := below_on (below_on HB1.out HB2.out) hb3
  clear hb3
  have HE : Hid (D.wrE k bs.length = if m ≠ 64 then 2 else if hasS D.n k = false then 4 else if D.left = 0 then 190 else 0) := by rw [Hid, DkM.wrE, HM.out]
  generalize hE : (if m ≠ 64 then (2 : Int) else if hasS D.n k = false then 4 else if D.left = 0 then 190 else 0) = E at HE
  by_cases h0 : E = 0
  rotate_left
  · have h0b : (E != 0) = true := by simpa using h0
    have H0 := Lib.hid h0
    clear hE h0
    go_wp2_with fail
    go_ret
    exact ⟨by rw [HE.out]; rfl, .inr ⟨by rw [HE.out]; exact H0.out, HB3.out⟩⟩
  have h64 : m = 64 := by
    by_cases h : m = 64
    · exact h
    · rw [if_pos h] at hE; omega
  subst h0
  clear hE
  have HD3 := Lib.hid (HH.out.on HB3.out)
  have hst := wr_store k w3
  have hcp := wr_copy k a c bs (by rw [← HM.out]; exact h64) w3 ((HR.out.below HB3.out).mono HB3.out.size)
  obtain ⟨w4, hw4⟩ : ∃ w4, w4 = w3.alloc (.cells (wrL (k, zeroS)).toArray 88) := ⟨_, rfl⟩
  obtain ⟨w5, hw5⟩ : ∃ w5, w5 = w3.alloc (.cells (wrL (k, bs)).toArray 88) := ⟨_, rfl⟩
  rw [← hw4] at hst hcp
  rw [← hw5] at hcp
  have HB5 : Hid (Below w3.heap.size w3 w5) := by rw [hw5]; exact below_al (Below.refl _ _) _
  have HW5 : Hid (RowB w5 w3.heap.size (wrL (k, bs))) := by rw [hw5]; exact RowB.new w3 _ _
  clear hw4 hw5
  go_upto_region 6 with fail
  obtain ⟨m1, m2, v, f, g, q1, q2, q3, q4, q5, q6, s1, s2, s3, s4, n1, n2, n3, n4, n5, n6⟩ := HD3.out
  obtain ⟨A, C, rfl⟩ : ∃ A C, v = .slice A D.wt.length C := by
    rcases q6.2 with ⟨rfl, h⟩ | ⟨g', cap, cur, rfl, _⟩
    · exact ⟨none, 0, by rw [h]⟩
    · exact ⟨_, cap, rfl⟩
  obtain ⟨n, hn⟩ : ∃ n, n = D.wt.length := ⟨_, rfl⟩
  rw [← hn] at q1 q6 s4 n4 n5 n6
  have HN := Lib.hid hn
  have HNf : Hid (n < 1000000) := by rw [Hid, hn]; exact HF.out
  clear hn
  have HLt : Hid (p < w3.heap.size ∧ m1 < w3.heap.size ∧ m2 < w3.heap.size ∧ ∀ j, (Value.slice A n C).ownBlock = some j → j < w3.heap.size) := ⟨q1.lt, q2.lt, q4.lt, fun j hj => (q6.lt j hj).2⟩
  have HS5 : Hid (w3.heap.size < w5.heap.size) := HW5.out.lt
  have q1' := q1.kept (HB5.out.block p HLt.out.1)
  have q2' := q2.kept (HB5.out.block m1 HLt.out.2.1)
  have q4' := q4.kept (HB5.out.block m2 HLt.out.2.2.1)
  have q6' := ownsRow_kept q6 fun j hj => HB5.out.block j (HLt.out.2.2.2 j hj)
  clear q1 q2 q4 q6
  have HX6 : Hid (∀ w', Below w5.heap.size w5 w' → (w'.cell? ⟨p, 3, none⟩ = some (.map (some m2)) ∧ w'.cell? ⟨p, 2, none⟩ = some (.slice A n C))) := fun w' h => ⟨(h.cell (p := ⟨p, 3, none⟩) q1'.lt).trans (q1'.1 3 _ rfl), (h.cell (p := ⟨p, 2, none⟩) q1'.lt).trans (q1'.1 2 _ rfl)⟩
  have F : Below w5.heap.size w5 w5.drew := (Below.refl _ _).drew
  have q4d : IMap w5.drew m2 g := q4'
  obtain ⟨o6, hup, q7⟩ := q4d.update Try.underlying70 Try.underlying3 k (.int .i64 (n : Nat))
  have HQ1 := Lib.hid q1'
  have HQ2 := Lib.hid q2'
  have HQ3 := Lib.hid q3
  have HQ5 := Lib.hid q5
  have HQ6 := Lib.hid q6'
  have HQ7 := Lib.hid q7
  have HQs := Lib.hid (And.intro s1 (And.intro s2 (And.intro s3 s4)))
  have HQn := Lib.hid (And.intro n1 (And.intro n2 (And.intro n3 (And.intro n4 (And.intro n5 n6)))))
  clear q1' q2' q3 q4' q5 q6' q7 q4d s1 s2 s3 s4 n1 n2 n3 n4 n5 n6
  refine wp_region_T (fun w' => (w'.cell? ⟨p, 3, none⟩ = some (.map (some m2)) ∧ w'.cell? ⟨p, 2, none⟩ = some (.slice A n C))) 10 (by kernel_rfl) ?_
  refine wpAnyT_take (i := 0) (v := ?_) rfl (by kernel_rfl) (by kernel_rfl) (by kernel_rfl) (by kernel_rfl) (fun _ _ _ h => h) (Or.inl ⟨by rfl, ?_⟩) (HX6.out _ F) ?_
  rotate_left
  · intro w hSw
    (try dsimp only at hSw)
    go_simp
    all_goals with_reducible rfl
  simp only [Act.put, List.setIfInBounds_toArray, List.set_cons_zero, List.set_cons_succ]
  refine wpAnyT_take (i := 1) (v := ?_) rfl (by kernel_rfl) (by kernel_rfl) (by kernel_rfl) (by kernel_rfl) (fun _ _ _ h => h) (Or.inl ⟨by rfl, ?_⟩) (HX6.out _ F) ?_
  rotate_left
  · intro w hSw
    (try dsimp only at hSw)
    go_simp
    all_goals with_reducible rfl
  simp only [Act.put, List.setIfInBounds_toArray, List.set_cons_zero, List.set_cons_succ]
  refine wpAnyT_take (i := 2) (v := ?_) rfl (by kernel_rfl) (by kernel_rfl) (by kernel_rfl) (by kernel_rfl) (fun _ _ _ h => h) (Or.inl ⟨by rfl, ?_⟩) (HX6.out _ F) ?_
  rotate_left
  · intro w hSw
    (try dsimp only at hSw)
    go_simp
    all_goals with_reducible rfl
  simp only [Act.put, List.setIfInBounds_toArray, List.set_cons_zero, List.set_cons_succ]
  refine wpAnyT_take (i := 3) (v := ?_) rfl (by kernel_rfl) (by kernel_rfl) (by kernel_rfl) (by kernel_rfl) (fun _ _ _ h => h) (Or.inl ⟨by rfl, ?_⟩) (HX6.out _ F) ?_
  rotate_left
  · intro w hSw
    (try dsimp only at hSw)
    go_simp
    all_goals with_reducible rfl
  simp only [Act.put, List.setIfInBounds_toArray, List.set_cons_zero, List.set_cons_succ]
  refine wpAnyT_take (i := 4) (v := ?_) rfl (by kernel_rfl) (by kernel_rfl) (by kernel_rfl) (by kernel_rfl) (fun _ _ _ h => h) (Or.inl ⟨by rfl, ?_⟩) (HX6.out _ F) ?_
  rotate_left
  · intro w hSw
    (try dsimp only at hSw)
    go_simp
    all_goals with_reducible rfl
  simp only [Act.put, List.setIfInBounds_toArray, List.set_cons_zero, List.set_cons_succ]
  refine wpAnyT_take (i := 5) (v := ?_) rfl (by kernel_rfl) (by kernel_rfl) (by kernel_rfl) (by kernel_rfl) (fun _ _ _ h => h) (Or.inl ⟨by rfl, ?_⟩) (HX6.out _ F) ?_
  rotate_left
  · intro w hSw
    (try dsimp only at hSw)
    go_simp
    all_goals with_reducible rfl
  simp only [Act.put, List.setIfInBounds_toArray, List.set_cons_zero, List.set_cons_succ]
  refine wpAnyT_take (i := 6) (v := ?_) rfl (by kernel_rfl) (by kernel_rfl) (by kernel_rfl) (by kernel_rfl) (fun _ _ _ h => h) (Or.inl ⟨by rfl, ?_⟩) (HX6.out _ F) ?_
  rotate_left
  · intro w hSw
    (try dsimp only at hSw)
    go_simp
    all_goals with_reducible rfl
  simp only [Act.put, List.setIfInBounds_toArray, List.set_cons_zero, List.set_cons_succ]
  refine wpAnyT_take (i := 7) (v := ?_) rfl (by kernel_rfl) (by kernel_rfl) (by kernel_rfl) (by kernel_rfl) (fun _ _ _ h => h) (Or.inl ⟨by rfl, ?_⟩) (HX6.out _ F) ?_
  rotate_left
  · intro w hSw
    (try dsimp only at hSw)
    go_simp
    all_goals with_reducible rfl
  simp only [Act.put, List.setIfInBounds_toArray, List.set_cons_zero, List.set_cons_succ]
  refine wpAnyT_take (i := 8) (v := ?_) rfl (by kernel_rfl) (by kernel_rfl) (by kernel_rfl) (by kernel_rfl) (fun _ _ _ h => h) (Or.inl ⟨by rfl, ?_⟩) (HX6.out _ F) ?_
  rotate_left
  · intro w hSw
    (try dsimp only at hSw)
    go_simp
    all_goals with_reducible rfl
  simp only [Act.put, List.setIfInBounds_toArray, List.set_cons_zero, List.set_cons_succ]
  refine wpAnyT_take (i := 9) (v := ?_) rfl (by kernel_rfl) (by kernel_rfl) (by kernel_rfl) (by kernel_rfl) (fun _ _ _ h => h) (Or.inl ⟨by rfl, ?_⟩) (HX6.out _ F) ?_
  rotate_left
  · intro w hSw
    (try dsimp only at hSw)
    go_simp
    all_goals with_reducible rfl
  simp only [Act.put, List.setIfInBounds_toArray, List.set_cons_zero, List.set_cons_succ]
  refine wpAnyT_one (i := 10) (by kernel_rfl) rfl (fun K hK => ?_)
  go_simp
  refine hK.out _ _ (fun h => absurd h (by decide)) ?_
  clear hK K
  try simp only [Act.put, List.setIfInBounds_toArray, List.set_cons_zero, List.set_cons_succ]
  refine wpAnyT_done (by kernel_rfl) ?_ _
  obtain ⟨w6, hw6⟩ : ∃ w6, w6 = setB w5.drew m2 o6 := ⟨_, rfl⟩
  have HZ6 : Hid (∀ b, b ≠ m2 → w6.heap[b]? = w5.heap[b]?) := fun b hb => by rw [hw6]; exact setB_block _ _ _ _ hb
  have HE6 : Hid (w6.heap.size = w5.heap.size ∧ w6.os = w5.os ∧ w6.tape = w5.tape ∧ w6.output = w5.output) := by rw [hw6]; exact ⟨setB_size _ _ _, rfl, rfl, rfl⟩
  have HM6 : Hid (IMap w6 m2 (updI g k (.int .i64 (n : Nat)))) := by rw [hw6]; exact HQ7.out
  rw [← hw6]
  clear hw6 HQ7 hup F
  have HR6 : Hid (RowB w6 w3.heap.size (wrL (k, bs))) := HW5.out.kept (HZ6.out _ (by have := HLt.out.2.2.1; omega))
  have HP6 : Hid (RowB w6 p [.int .i64 D.n, .map (some m1), .slice A n C, .map (some m2), .int .i64 D.left]) := HQ1.out.kept (HZ6.out _ HQn.out.2.2.1)
  have HO6 : Hid (w6.ownsRow 0 88 65 (.slice A n C) n (flatW D.wt)) := ownsRow_kept HQ6.out fun j hj => HZ6.out j (by rintro rfl; exact HQn.out.2.2.2.2.2 hj)
  obtain ⟨L, hL⟩ : ∃ L, L = wrL (k, bs) := ⟨_, rfl⟩
  have hlen : (wrL (k, bs)).length = 65 := wrL_len (x := (k, bs)) (by rw [← HM.out]; exact h64)
  have HLn : Hid (L.length = 65) := by rw [Hid, hL]; exact hlen
  have HX7 : Hid (∀ w' : World, w'.heap[p]? = w6.heap[p]? → w'.heap[w3.heap.size]? = w6.heap[w3.heap.size]? → (w'.cell? ⟨p, 2, none⟩ = some (.slice A n C) ∧ w'.rangeAt w3.heap.size 0 L)) := fun w' h1 h2 => by
    refine ⟨(HP6.out.kept h1).1 2 _ rfl, ?_⟩
    rw [hL]
    exact (HR6.out.kept h2).range
  have HL := Lib.hid hL
  clear hL hlen hst hcp h64
  go_upto_region 7 with fail
  obtain ⟨w7, hw7⟩ : ∃ w7, w7 = w6.drew.alloc (.cells L.toArray 88) := ⟨_, rfl⟩
  have HB7 : Hid (Below w6.heap.size w6 w7) := by rw [hw7]; exact below_al ((Below.refl _ _).drew) _
  have hown : w7.ownsRow 0 88 65 (.slice A n C) n (flatW D.wt) := ownsRow_kept HO6.out fun j hj => HB7.out.block j (by have := HLt.out.2.2.2 j hj; have := HE6.out.1; have := HS5.out; omega)
  have hnews : ∀ j u, (wrL (k, bs))[j]? = some u → w7.cell? ((⟨w6.heap.size, 0, none⟩ : Addr).add j) = some u := fun j u hu => by
    rw [Addr.add_mid, Nat.zero_add, hw7]
    have h := (RowB.new w6.drew (wrL (k, bs)) 88).1 j u hu
    rw [← HL.out] at h
    exact h
  obtain ⟨i, hi, hz0, hsz0, hbt⟩ := info_parts info_wr
  obtain ⟨v8, w8, hap, ho8, hg8, _, hv8⟩ := run_append_own_at (P := Try.prog) w7 0 71 71 88 i _ 65 72 Try.underlying71 hi hz0 hsz0 hbt (by kernel_rfl) (by decide) (.slice A n C) n (flatW D.wt) hown ⟨w6.heap.size, 0, none⟩ 1 1 (wrL (k, bs)) (by rw [← HL.out, HLn.out]) hnews (wrL_one _) (by have := HNf.out; unfold maxLen; omega) (by have := HNf.out; omega) (Nat.zero_le _)
  have hbs := wr_slice L HLn.out w6.drew
  rw [← hw7] at hbs
  have HS7 : Hid ((w7.cell? ⟨p, 2, none⟩ = some (.slice A n C) ∧ w7.rangeAt w3.heap.size 0 L)) := HX7.out w7 (HB7.out.block p (by have := HLt.out.1; have := HE6.out.1; have := HS5.out; omega)) (HB7.out.block _ (by have := HE6.out.1; have := HS5.out; omega))
  have hs6 : w7.heap.size = w6.heap.size + 1 := by rw [hw7]; simp
  have HS8 : Hid (w8.heap[p]? = w6.heap[p]? ∧ w8.heap[w3.heap.size]? = w6.heap[w3.heap.size]?) := by
    refine ⟨(hg8.block p (by have := HLt.out.1; have := HE6.out.1; have := HS5.out; omega) (by have := HQn.out.2.2.2.1; exact fun h => this h.symm)).trans (HB7.out.block p (by have := HLt.out.1; have := HE6.out.1; have := HS5.out; omega)), (hg8.block _ (by have := HE6.out.1; have := HS5.out; omega) (fun h => by have := HLt.out.2.2.2 _ h.symm; omega)).trans (HB7.out.block _ (by have := HE6.out.1; have := HS5.out; omega))⟩
  obtain ⟨g8, cap8, hv8e⟩ : ∃ g8 cap8, v8 = .slice (some ⟨g8, 0, none⟩) (n + 1) cap8 := by
    rcases ho8.2 with ⟨_, h⟩ | ⟨g8, cap8, _, h, _⟩
    · omega
    · exact ⟨g8, cap8, h⟩
  have HVE := Lib.hid hv8e
  have HG8 := Lib.hid hg8
  have HO8 := Lib.hid ho8
  have HV8 := Lib.hid hv8
  have HW7 := Lib.hid hw7
  have HS67 := Lib.hid hs6
  have hp8 := (HP6.out.kept HS8.out.1).1 2 _ rfl
  have hpf := (HP6.out.kept HS8.out.1).2 2
  rw [hv8e] at hap
  clear hv8e hg8 ho8 hv8 hw7 hnews hi hz0 hsz0 hbt hown hs6
  refine wp_region_T (fun w' => (w'.cell? ⟨p, 2, none⟩ = some (.slice A n C) ∧ w'.rangeAt w3.heap.size 0 L)) 8 (by kernel_rfl) ?_
  refine wpAnyT_take (i := 0) (v := ?_) rfl (by kernel_rfl) (by kernel_rfl) (by kernel_rfl) (by kernel_rfl) (fun _ _ _ h => h) (Or.inl ⟨by rfl, ?_⟩) (HX7.out _ rfl rfl) ?_
  rotate_left
  · intro w hSw
    (try dsimp only at hSw)
    go_simp
    all_goals with_reducible rfl
  simp only [Act.put, List.setIfInBounds_toArray, List.set_cons_zero, List.set_cons_succ]
  refine wpAnyT_take (i := 1) (v := ?_) rfl (by kernel_rfl) (by kernel_rfl) (by kernel_rfl) (by kernel_rfl) (fun _ _ _ h => h) (Or.inl ⟨by rfl, ?_⟩) (HX7.out _ rfl rfl) ?_
  rotate_left
  · intro w hSw
    (try dsimp only at hSw)
    go_simp
    all_goals with_reducible rfl
  simp only [Act.put, List.setIfInBounds_toArray, List.set_cons_zero, List.set_cons_succ]
  refine wpAnyT_take (i := 2) (v := ?_) rfl (by kernel_rfl) (by kernel_rfl) (by kernel_rfl) (by kernel_rfl) (fun _ _ _ h => h) (Or.inl ⟨by rfl, ?_⟩) (HX7.out _ rfl rfl) ?_
  rotate_left
  · intro w hSw
    (try dsimp only at hSw)
    go_simp
    all_goals with_reducible rfl
  simp only [Act.put, List.setIfInBounds_toArray, List.set_cons_zero, List.set_cons_succ]
  refine wpAnyT_take (i := 3) (v := ?_) rfl (by kernel_rfl) (by kernel_rfl) (by kernel_rfl) (by kernel_rfl) (fun _ _ _ h => h) (Or.inl ⟨by rfl, ?_⟩) (HX7.out _ rfl rfl) ?_
  rotate_left
  · intro w hSw
    (try dsimp only at hSw)
    go_simp
    all_goals with_reducible rfl
  simp only [Act.put, List.setIfInBounds_toArray, List.set_cons_zero, List.set_cons_succ]
  refine wpAnyT_take (i := 4) (v := ?_) rfl (by kernel_rfl) (by kernel_rfl) (by kernel_rfl) (by kernel_rfl) (fun _ _ _ h => h) (Or.inl ⟨by rfl, ?_⟩) (HX7.out _ rfl rfl) ?_
  rotate_left
  · intro w hSw
    (try dsimp only at hSw)
    go_simp
    all_goals with_reducible rfl
  simp only [Act.put, List.setIfInBounds_toArray, List.set_cons_zero, List.set_cons_succ]
  refine wpAnyT_take (i := 5) (v := .agg L.toArray) rfl (by kernel_rfl) (by kernel_rfl) (by kernel_rfl) (by kernel_rfl) (fun _ _ _ h => h) (yieldsIf_load_mid (by rfl) 88 (.tmp 8) rfl w3.heap.size 0 (by rfl) L _ (fun _ hS => hS.2) Try.underlying88 rfl (by rw [HLn.out]; kernel_rfl)) (HX7.out _ rfl rfl) ?_
  simp only [Act.put, List.setIfInBounds_toArray, List.set_cons_zero, List.set_cons_succ]
  refine wpAnyT_one (i := 6) (by kernel_rfl) rfl (fun K hK => ?_)
  refine step_bs rfl 71 1 #[(0, .tmp 44)] rfl #[(0, .agg L.toArray)] (by simp only [List.map_toArray, List.map_cons, List.map_nil]; rfl) _ _ hbs ?_
  refine hK.out _ _ (fun _ => HS7.out) ?_
  clear hK K
  try simp only [Act.put, List.setIfInBounds_toArray, List.set_cons_zero, List.set_cons_succ]
  refine wpAnyT_one (i := 7) (by kernel_rfl) rfl (fun K hK => ?_)
  refine step_app rfl (.tmp 43) (.tmp 45) 71 71 rfl _ _ _ w8 (by rfl) (by rfl) hap ?_
  refine hK.out _ _ (fun _ => (HX7.out _ HS8.out.1 HS8.out.2)) ?_
  clear hK K
  try simp only [Act.put, List.setIfInBounds_toArray, List.set_cons_zero, List.set_cons_succ]
  refine wpAnyT_one (i := 8) (by kernel_rfl) rfl (fun K hK => ?_)
  go_simp
  refine hK.out _ _ (fun h => absurd h (by decide)) ?_
  clear hK K
  try simp only [Act.put, List.setIfInBounds_toArray, List.set_cons_zero, List.set_cons_succ]
  refine wpAnyT_one (i := 9) (by kernel_rfl) rfl (fun K hK => ?_)
  go_simp
  refine hK.out _ _ (fun h => absurd h (by decide)) ?_
  clear hK K
  try simp only [Act.put, List.setIfInBounds_toArray, List.set_cons_zero, List.set_cons_succ]
  refine wpAnyT_one (i := 10) (by kernel_rfl) rfl (fun K hK => ?_)
  go_simp
  refine hK.out _ _ (fun h => absurd h (by decide)) ?_
  clear hK K
  try simp only [Act.put, List.setIfInBounds_toArray, List.set_cons_zero, List.set_cons_succ]
  refine wpAnyT_done (by kernel_rfl) ?_ _
  rw [← HVE.out]
  obtain ⟨w9, hw9⟩ : ∃ w9, w9 = w8.setCell ⟨p, 2, none⟩ v8 := ⟨_, rfl⟩
  rw [← hw9]
  have hpr : p ≠ w3.heap.size := by have := HLt.out.1; omega
  have HD9 : Hid (DkAt w9 (fun b => S b ∨ newS w w9 b) p { D with wt := D.wt ++ [(k, bs)] }) := by
    have hb9 : ∀ b, b ≠ p → w9.heap[b]? = w8.heap[b]? := fun b hb => by rw [hw9]; exact Below.heap_setCell _ _ _ _ hb
    have hb8 : ∀ b, b < w3.heap.size → (Value.slice A n C).ownBlock ≠ some b → w8.heap[b]? = w6.heap[b]? := fun b hb hne => (HG8.out.block b (by have := HE6.out.1; have := HS5.out; have := HS67.out; omega) (fun h => hne h.symm)).trans (HB7.out.block b (by have := HE6.out.1; have := HS5.out; omega))
    have hs9 : w9.heap.size = w8.heap.size := by rw [hw9]; exact World.size_setCell ..
    have e8 : w8.heap.size ≥ w7.heap.size := HG8.out.size
    have e7 := HS67.out
    have e6 := HE6.out.1
    have e5 := HS5.out
    have e3 := HB3.out.size
    obtain ⟨l1, l2, l3, l4⟩ := HLt.out
    obtain ⟨s1, s2, s3, s4⟩ := HQs.out
    obtain ⟨n1, n2, n3, n4, n5, n6⟩ := HQn.out
    have hown : ∀ j, v8.ownBlock = some j → ((Value.slice A n C).ownBlock = some j ∨ j = w7.heap.size) := fun j hj => by
      rcases HV8.out with h | h
      · exact .inl (h ▸ hj)
      · rw [h] at hj
        injection hj with hj
        exact .inr hj.symm
    refine ⟨m1, m2, v8, f, updI g k (.int .i64 (n : Nat)), ?_, (HQ2.out.kept ?_), HQ3.out, HM6.out.kept ?_, fun j => ?_, ?_, .inl s1, .inl s2, .inl s3, fun j hj => ?_, n1, n2, n3, ?_, ?_, ?_⟩
    · rw [hw9]
      exact (HP6.out.kept HS8.out.1).set 2 v8
    · rw [hb9 m1 (Ne.symm n2), hb8 m1 l2 n5, HZ6.out m1 n1]
    · rw [hb9 m2 (Ne.symm n3), hb8 m2 l3 n6]
    · show updI g k (.int .i64 (n : Nat)) j = (lastI (D.wt ++ [(k, bs)]) j).map fun i => .int .i64 (i : Nat)
      rw [lastI_push, updI]
      by_cases hj : j = k
      · rw [if_pos hj, if_pos (by exact hj.symm), ← HN.out]; rfl
      · rw [if_neg hj, if_neg (by exact fun h => hj h.symm), HQ5.out j]
    · have h := ownsRow_kept (w' := w9) HO8.out fun j hj => hb9 j (by
        rintro rfl
        rcases hown _ hj with h | h
        · exact n4 h
        · omega)
      show w9.ownsRow 0 88 65 v8 (D.wt ++ [(k, bs)]).length (flatW (D.wt ++ [(k, bs)]))
      rw [List.length_append, flatW_append, ← HN.out]
      show w9.ownsRow 0 88 65 v8 (n + 1) (flatW D.wt ++ (wrL (k, bs) ++ []))
      rw [List.append_nil]
      exact h
    · rcases hown _ hj with h | h
      · exact .inl (s4 j h)
      · refine .inr ⟨by omega, ?_⟩
        have := (HO8.out.lt j hj).2
        omega
    · intro h
      rcases hown _ h with h | h
      · exact n4 h
      · omega
    · intro h
      rcases hown _ h with h | h
      · exact n5 h
      · omega
    · intro h
      rcases hown _ h with h | h
      · exact n6 h
      · omega
  have HB9 : Hid (ButS w.heap.size S w w9) := by
    obtain ⟨s1, s2, s3, s4⟩ := HQs.out
    have l4 := HLt.out.2.2.2
    have e3 := HB3.out.size
    have e8 : w8.heap.size ≥ w7.heap.size := HG8.out.size
    have e7 := HS67.out
    have e6 := HE6.out
    have e5 := HS5.out
    refine ⟨?_, ?_, ?_, ?_, fun b hb hn => ?_⟩
    · rw [hw9]; exact (HG8.out.os.trans HB7.out.os).trans (e6.2.1.trans (HB5.out.os.trans HB3.out.os))
    · rw [hw9]; exact (HG8.out.tape.trans HB7.out.tape).trans (e6.2.2.1.trans (HB5.out.tape.trans HB3.out.tape))
    · rw [hw9]; exact (HG8.out.output.trans HB7.out.output).trans (e6.2.2.2.trans (HB5.out.output.trans HB3.out.output))
    · rw [hw9, World.size_setCell]; omega
    · have hbp : b ≠ p := by rintro rfl; exact hn s1
      have hb2 : b ≠ m2 := by rintro rfl; exact hn s3
      rw [hw9, Below.heap_setCell _ _ _ _ hbp, HG8.out.block b (by omega) (fun h => hn (s4 b h.symm)), HB7.out.block b (by omega), HZ6.out b hb2, HB5.out.block b (by omega), HB3.out.block b hb]
  clear hw9 hpf hp8 hap
  go_wp2_with fail
  refine (did_any _ p { D with wt := D.wt ++ [(k, bs)] } HO.out.left w9 HD9.out).mono ?_
  rintro e w10 ⟨rfl, hd10, hb10, hz10⟩
  have HD10 : Hid (DkAt w10 (fun b => S b ∨ newS w w10 b) p (D.wrote k bs)) := hd10.kept (fun _ _ _ => rfl) fun b hb => hb.imp id fun h => ⟨h.1, by rw [hz10]; exact h.2⟩
  have HB10 : Hid (ButS w.heap.size S w w10) := HB9.out.trans (hb10.mono HB9.out.size fun b hb h => h.elim id fun h => absurd h.1 (by omega))
  clear hd10 hb10 hz10
  go_wp2_with fail
  go_ret
  exact ⟨by rw [HE.out]; rfl, .inl ⟨HE.out, HD10.out, HB10.out⟩⟩

end Go.Proofs.Ytekeooeapiodmaa

