/- Package disk: done, Arm, New. -/
import Derived.Test.YtekeooeapiodmaaZDkC
namespace Go.Proofs.Ytekeooeapiodmaa
open Go Go.RowKit Go.Shelf
set_option linter.unusedSimpArgs false
set_option linter.unusedVariables false
set_option maxRecDepth 100000

attribute [local go_sem] Oper.semAt_some

def DkM.didM (D : DkM) : DkM := { D with left := if 0 < D.left then D.left - 1 else D.left }
def DkM.armM (D : DkM) (n : Int) : DkM := { D with left := if n < -1 then -1 else n }

theorem DkAt.n {w : World} {S : Nat → Prop} {p : Nat} {D : DkM} (h : DkAt w S p D) : DkN w (.pointer (some ⟨p, 0, none⟩)) D.n := by
  obtain ⟨_, m1, m2, v, hr⟩ := h.row
  exact .inr ⟨p, rfl, hr.1 0 _ rfl, hr.lt⟩

theorem did_any (S : Nat → Prop) (p : Nat) (D : DkM) (hl : -1 ≤ D.left ∧ D.left < 9223372036854775808) (w : World) (h : DkAt w S p D) : Calls Try.prog 51 #[.pointer (some ⟨p, 0, none⟩)] w fun e w' => e = .returned (.tuple #[]) ∧ DkAt w' S p D.didM ∧ ButS w.heap.size S w w' ∧ w'.heap.size = w.heap.size := by
  obtain ⟨hs, m1, m2, v, hr⟩ := h.row
  have HH := Lib.hid h
  have HS := Lib.hid hs
  have hc := hr.1 4 _ rfl
  have hf := hr.2 4
  obtain ⟨x, hx⟩ : ∃ x, x = D.left := ⟨_, rfl⟩
  rw [← hx] at hc hl
  have HX := Lib.hid hx
  clear h hs hr hx
  by_cases h0 : 0 < x
  · go_enter Try.func51, Try.ntmps51
    go_wp2_with fail
    first | go_end0 | skip
    refine ⟨rfl, ?_, (ButS.refl _ _ _).set (.inl HS.out) _ _, World.size_setCell ..⟩
    have h1 := HH.out.setLeft (x - 1)
    have e : D.didM = { D with left := x - 1 } := by rw [DkM.didM, ← HX.out, if_pos h0]
    rw [e]
    exact h1
  · go_enter Try.func51, Try.ntmps51
    go_wp2_with fail
    first | go_end0 | skip
    have e : D.didM = D := by rw [DkM.didM, ← HX.out, if_neg (by omega), HX.out]
    rw [e]
    exact ⟨rfl, HH.out, ButS.refl _ _ _, rfl⟩

/-- Questions in a row that has just been made. -/
theorem refusal_at (l : List Ask) (w : World) (hlen : l.length ≤ 100) (h0 : 0 < l.length) (hask : AsksAt (w.alloc (.cells (l.map fun q => Value.func (.func q.g) q.fs q.lb).toArray 59)) l) :
    Calls Try.prog 26 #[.slice (some ⟨w.heap.size, 0, none⟩) l.length l.length] (w.alloc (.cells (l.map fun q => Value.func (.func q.g) q.fs q.lb).toArray 59)) fun e w' => e = .returned (.int .i64 (firstE l)) ∧ Below w.heap.size w w' := by
  refine (refusal_any w.heap.size l _ hlen (by simp) (fun j q hq => ?_) hask).mono fun e w' h => ⟨h.1, (below_al (Below.refl _ _) _).trans (h.2.mono (by simp))⟩
  rw [World.cell?_alloc_mark, ← Array.getElem?_toList, List.getElem?_map, hq]
  rfl

theorem ent_there : ∀ args w, (callFunc 31 args).run Try.prog w = .ok (.enter 31 args) w := enters_of Try.func31 (by kernel_rfl) rfl
theorem ent_works : ∀ args w, (callFunc 50 args).run Try.prog w = .ok (.enter 50 args) w := enters_of Try.func50 (by kernel_rfl) rfl
theorem ent_whole : ∀ args w, (callFunc 65 args).run Try.prog w = .ok (.enter 65 args) w := enters_of Try.func65 (by kernel_rfl) rfl
theorem ent_within : ∀ args w, (callFunc 66 args).run Try.prog w = .ok (.enter 66 args) w := enters_of Try.func66 (by kernel_rfl) rfl
theorem ent_bounded : ∀ args w, (callFunc 59 args).run Try.prog w = .ok (.enter 59 args) w := enters_of Try.func59 (by kernel_rfl) rfl

theorem firstE_one (q : Ask) : firstE [q] = q.e := by
  unfold firstE
  by_cases h : q.e = 0
  · rw [if_pos h]; exact h.symm
  · rw [if_neg h]

/-- The question whether there is a disk, alone. -/
def askThere (v : Value) (n : Nat) : Ask := ⟨31, #[v], #[], unE (!(n == 0)) 1⟩
theorem there_at (v : Value) (n : Nat) (w : World) (h : DkN w v n) :
    Calls Try.prog 26 #[.slice (some ⟨w.heap.size, 0, none⟩) 1 1] (w.alloc (.cells #[.func (.func 31) #[v] #[]] 59)) fun e w' => e = .returned (.int .i64 (unE (!(n == 0)) 1)) ∧ Below w.heap.size w w' := by
  have hf : firstE [askThere v n] = unE (!(n == 0)) 1 := firstE_one _
  rw [← hf]
  refine refusal_at [askThere v n] w (by simp) (by simp) fun j q hq _ => ?_
  cases j with
  | zero =>
    injection hq with hq
    subst hq
    exact ⟨ent_there, fun w' hb => (dthere_any v n w' (h.on ((below_al (Below.refl _ _) _).trans (hb.mono (by simp))))).mono fun e w'' h => ⟨h.1, by rw [← h.2]; exact Below.refl _ _⟩⟩
  | succ j => simp at hq

theorem unE_there {n : Nat} (h : 1 ≤ n) : unE (!(n == 0)) 1 = 0 := by
  have : (n == 0) = false := by simp; omega
  rw [this]
  rfl

set_option maxHeartbeats 2000000 in
theorem arm_any (n : Int) (hn : -9223372036854775808 ≤ n ∧ n < 9223372036854775808) (S : Nat → Prop) (p : Nat) (D : DkM) (h1 : 1 ≤ D.n) (w : World) (h : DkAt w S p D) : Calls Try.prog 22 #[.pointer (some ⟨p, 0, none⟩), .int .i64 n] w fun e w' => e = .returned (.int .i64 0) ∧ DkAt w' S p (D.armM n) ∧ ButS w.heap.size S w w' := by
  have hmf : ∀ (fn : Fn) (first cap : Array Value) (w : World), (Instr.makeFunc fn first cap).run Try.prog w = .ok (.func fn first cap) w := fun _ _ _ _ => rfl
  have HH := Lib.hid h
  have HN := Lib.hid h1
  clear h h1
  go_enter Try.func22, Try.ntmps22
  go_wp2_with fail
  refine (there_at _ _ w HH.out.n).mono ?_
  rintro e w1 ⟨rfl, hb1⟩
  rw [unE_there HN.out]
  have HB1 := Lib.hid hb1
  have HD1 := Lib.hid (HH.out.on hb1)
  obtain ⟨hs, m1, m2, v, hr⟩ := HD1.out.row
  have HS := Lib.hid hs
  have hf := hr.2 4
  have hc := hr.1 4 _ rfl
  clear hb1 hr hs
  by_cases h0 : n < -1
  · have HE : Hid (D.armM n = { D with left := -1 }) := by rw [Hid, DkM.armM, if_pos h0]
    go_wp2_with fail
    go_ret
    rw [HE.out]
    exact ⟨rfl, HD1.out.setLeft _, ((ButS.of_below HB1.out).trans (((ButS.refl _ _ _).set (.inl HS.out) _ _).mono HB1.out.size fun _ _ h => h))⟩
  · have HE : Hid (D.armM n = { D with left := n }) := by rw [Hid, DkM.armM, if_neg h0]
    go_wp2_with fail
    go_ret
    rw [HE.out]
    exact ⟨rfl, HD1.out.setLeft _, ((ButS.of_below HB1.out).trans (((ButS.refl _ _ _).set (.inl HS.out) _ _).mono HB1.out.size fun _ _ h => h))⟩

theorem below_heap_alloc (w : World) (o : Obj) {k : Nat} (h : k < w.heap.size) : (w.alloc o).heap[k]? = w.heap[k]? := (below_al (Below.refl w.heap.size w) o).block k h

/-- A new disk. -/
def newM (n : Nat) : DkM := ⟨n, fun _ => zeroS, [], -1⟩
theorem newM_ok {n : Nat} (h1 : 1 ≤ n) (h2 : n ≤ 4096) : (newM n).ok := ⟨h1, h2, fun _ => by simp [newM, zeroS], by simp [newM], by simp [newM], by simp [newM]⟩

set_option maxHeartbeats 2000000 in
theorem new1_any (b n : Nat) (w : World) (hc : w.cell? ⟨b, 0, none⟩ = some (.int .i64 n)) : Calls Try.prog 28 #[.pointer (some ⟨b, 0, none⟩)] w fun e w' => ∃ p, e = .returned (.pointer (some ⟨p, 0, none⟩)) ∧ DkAt w' (newS w w') p (newM n) ∧ Below w.heap.size w w' := by
  have hmm := @run_makeMap Try.prog
  go_enter Try.func28, Try.ntmps28
  go_wp2_with fail
  go_ret
  have b1 := below_al (Below.refl w.heap.size w) (.map #[] 0)
  have b2 := below_al b1 (.map #[] 0)
  have b3 := below_al b2 (.cells #[.int .i64 n, .map (some w.heap.size), .slice none 0 0, .map (some (w.heap.size + 1)), .int .i64 (-1)] 73)
  have hr := RowB.new ((w.alloc (.map #[] 0)).alloc (.map #[] 0)) [.int .i64 n, .map (some w.heap.size), .slice none 0 0, .map (some (w.heap.size + 1)), .int .i64 (-1)] 73
  have m1 := IMap.made w 0
  have m2 := IMap.made (w.alloc (.map #[] 0)) 0
  rw [World.size_alloc] at m2
  have e1 : ((w.alloc (.map #[] 0)).alloc (.map #[] 0)).heap.size = w.heap.size + 2 := by simp
  rw [e1] at hr
  refine ⟨w.heap.size + 2, by simp, ⟨w.heap.size, w.heap.size + 1, .slice none 0 0, _, _, hr, (m1.kept ?_), fun k => rfl, m2.kept ?_, fun k => rfl, World.ownsRow_nil _ _ _ _, ?_, ?_, ?_, ?_, by omega, by omega, by omega, ?_, ?_, ?_⟩, b3⟩
  · rw [below_heap_alloc _ _ (by simp; omega), below_heap_alloc _ _ (by simp)]
  · rw [below_heap_alloc _ _ (by simp)]
  · exact ⟨by omega, by simp only [World.size_alloc]; omega⟩
  · exact ⟨by omega, by simp only [World.size_alloc]; omega⟩
  · exact ⟨by omega, by simp only [World.size_alloc]; omega⟩
  · intro j hj; cases hj
  all_goals (intro h; cases h)

theorem ent_new1 : ∀ args w, (callFunc 28 args).run Try.prog w = .ok (.enter 28 args) w := enters_of Try.func28 (by kernel_rfl) rfl

theorem DkAt.new {w w1 w' : World} {p : Nat} {D : DkM} (h : DkAt w' (newS w1 w') p D) (hs : w.heap.size ≤ w1.heap.size) : DkAt w' (newS w w') p D := h.kept (fun _ _ _ => rfl) fun b hb => ⟨Nat.le_trans hs hb.1, hb.2⟩

set_option maxHeartbeats 2000000 in
theorem new_any (k : Int) (hk : -9223372036854775808 ≤ k ∧ k < 9223372036854775808) (w : World) : Calls Try.prog 6 #[.int .i64 k] w fun e w' => Below w.heap.size w w' ∧ ((bndS k = true ∧ ∃ p, e = .returned (.tuple #[.pointer (some ⟨p, 0, none⟩), .int .i64 0]) ∧ DkAt w' (newS w w') p (newM k.toNat)) ∨ (bndS k = false ∧ e = .returned (.tuple #[.pointer none, .int .i64 2]))) := by
  have hmf : ∀ (fn : Fn) (first cap : Array Value) (w : World), (Instr.makeFunc fn first cap).run Try.prog w = .ok (.func fn first cap) w := fun _ _ _ _ => rfl
  obtain ⟨W, hW⟩ : ∃ W, W = w.alloc (.cells #[.int .i64 k] 3) := ⟨_, rfl⟩
  have HB0 : Hid (Below w.heap.size w W) := by rw [hW]; exact below_al (Below.refl _ _) _
  have HX : Hid (∀ w', Below W.heap.size W w' → w'.cell? ⟨w.heap.size, 0, none⟩ = some (.int .i64 k)) := fun w' h => by rw [hW] at h; exact box_at h 0
  have x0 := HX.out W (Below.refl _ _)
  have HW := Lib.hid hW
  rw [hW] at x0
  have HK := Lib.hid hk
  clear hW hk
  go_enter Try.func6, Try.ntmps6
  go_wp2_with fail
  rw [← HW.out]
  clear x0
  refine (dbounded_any k W).mono ?_
  rintro e w1 ⟨rfl, hw1⟩
  have HB1 : Hid (Below W.heap.size W w1) := by rw [hw1]; exact below_al (Below.refl _ _) _
  have HS1 : Hid (W.heap.size < w1.heap.size) := by rw [Hid, hw1]; simp
  have HY : Hid (∀ w', Below w1.heap.size w1 w' → w'.cell? ⟨W.heap.size, 0, none⟩ = some (.int .i64 k)) := fun w' h => by rw [hw1] at h; exact box_at h 0
  clear hw1
  go_wp2_with fail
  obtain ⟨W2, hW2⟩ : ∃ W2, W2 = w1.alloc (.cells #[.func (.func 59) #[] #[.pointer (some ⟨W.heap.size, 0, none⟩)]] 59) := ⟨_, rfl⟩
  have hf : firstE [⟨59, #[], #[.pointer (some ⟨W.heap.size, 0, none⟩)], unE (bndS k) 2⟩] = unE (bndS k) 2 := firstE_one _
  have hR := refusal_at [⟨59, #[], #[.pointer (some ⟨W.heap.size, 0, none⟩)], unE (bndS k) 2⟩] w1 (by simp) (by simp) (fun j q hq _ => by
    cases j with
    | zero =>
      injection hq with hq
      subst hq
      exact ⟨ent_bounded, fun w' hb => (dbounded1_any W.heap.size k w' (HY.out w' ((below_al (Below.refl _ _) _).trans (hb.mono (by simp))))).mono fun e w'' h => ⟨h.1, by rw [← h.2]; exact Below.refl _ _⟩⟩
    | succ j => simp at hq)
  rw [hf] at hR
  refine hR.mono ?_
  rintro e w2 ⟨rfl, hb2⟩
  have HB2 := Lib.hid (below_on HB1.out hb2)
  clear hb2 hW2 W2 hR hf
  cases hq : bndS k
  · have HQ := Lib.hid hq
    clear hq
    go_wp2_with fail
    refine (told_no1 2 (by decide) _ w2).mono ?_
    rintro e w3 ⟨rfl, rfl⟩
    go_wp2_with fail
    go_ret2
    exact ⟨HB0.out.trans (HB2.out.mono HB0.out.size), .inr ⟨HQ.out, rfl⟩⟩
  · have HQ := Lib.hid hq
    clear hq
    go_wp2_with fail
    have hkk : ((k.toNat : Nat) : Int) = k := by
      have := HQ.out
      simp only [bndS, Bool.and_eq_true, decide_eq_true_eq] at this
      omega
    have hc := HX.out w2 HB2.out
    rw [← hkk] at hc
    refine told_yes1 _ _ _ w2 _ ent_new1 ((new1_any w.heap.size k.toNat w2 hc).mono ?_)
    rintro e w3 ⟨p, rfl, hd, hb3⟩
    have HB3 := Lib.hid (below_on HB2.out hb3)
    have HD := Lib.hid (hd.new (w := w) (Nat.le_trans HB0.out.size HB2.out.size))
    refine ⟨_, rfl, ?_⟩
    clear hd hb3 hc hkk
    go_wp2_with fail
    go_ret2
    exact ⟨HB0.out.trans (HB3.out.mono HB0.out.size), .inl ⟨HQ.out, p, rfl, HD.out⟩⟩

end Go.Proofs.Ytekeooeapiodmaa

