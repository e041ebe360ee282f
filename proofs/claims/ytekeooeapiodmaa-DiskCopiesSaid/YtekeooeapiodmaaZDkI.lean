/- Package disk: Sync, Crash, Read. -/
import Derived.Test.YtekeooeapiodmaaZDkH
namespace Go.Proofs.Ytekeooeapiodmaa
open Go Go.RowKit Go.Shelf
set_option linter.unusedSimpArgs false
set_option linter.unusedVariables false
set_option maxRecDepth 100000

attribute [local go_sem] Oper.semAt_some

theorem settled_ok {D : DkM} (h : D.ok) (bec : Nat → Bool) : (D.settled bec).ok := by
  refine ⟨h.n1, h.n2, fun k => ?_, by simp [DkM.settled], h.left, by simp [DkM.settled]⟩
  show (settleN D.wt bec D.lie D.wt.length k).length = 64
  have : ∀ j, j ≤ D.wt.length → ∀ k, (settleN D.wt bec D.lie j k).length = 64 := by
    intro j
    induction j with
    | zero => intro _ k; exact h.lie k
    | succ j ih =>
      intro hj k
      rw [settleN]
      split
      · unfold layM
        split
        · exact h.wt _ (by rw [wAt, List.getElem?_eq_getElem (by omega)]; exact List.getElem_mem (by omega))
        · exact ih (by omega) k
      · exact ih (by omega) k
  exact this _ (Nat.le_refl _) k
theorem did_ok {D : DkM} (h : D.ok) : D.didM.ok := by
  have h5 := h.left
  refine ⟨h.n1, h.n2, h.lie, h.wt, ?_, h.few⟩
  show -1 ≤ (if 0 < D.left then D.left - 1 else D.left) ∧ (if 0 < D.left then D.left - 1 else D.left) < 9223372036854775808
  split <;> omega
theorem arm_ok {D : DkM} (h : D.ok) (n : Int) (hn : n < 9223372036854775808) : (D.armM n).ok := by
  refine ⟨h.n1, h.n2, h.lie, h.wt, ?_, h.few⟩
  show -1 ≤ (if n < -1 then -1 else n) ∧ (if n < -1 then -1 else n) < 9223372036854775808
  split <;> omega
theorem wrote_ok {D : DkM} (h : D.ok) (k : Int) (s : List UInt8) (hs : s.length = 64) (hf : D.wt.length < 1000000) : (D.wrote k s).ok := by
  refine did_ok ⟨h.n1, h.n2, h.lie, fun x hx => ?_, h.left, ?_⟩
  · rcases List.mem_append.1 hx with hx | hx
    · exact h.wt x hx
    · obtain rfl := List.mem_singleton.1 hx
      exact hs
  · show (D.wt ++ [(k, s)]).length ≤ 1000000
    rw [List.length_append]
    simp only [List.length_cons, List.length_nil]
    omega

/-- Two questions: is there a disk, does it not fail? -/
theorem two_at (v : Value) (n p : Nat) (left : Int) (w : World) (hn : 1 ≤ n) (h : ∀ w', Below w.heap.size w w' → DkN w' (.pointer (some ⟨p, 0, none⟩)) n ∧ w'.cell? ⟨p, 4, none⟩ = some (.int .i64 left)) :
    Calls Try.prog 26 #[.slice (some ⟨w.heap.size, 0, none⟩) 2 2] (w.alloc (.cells #[.func (.func 31) #[.pointer (some ⟨p, 0, none⟩)] #[], .func (.func 50) #[.pointer (some ⟨p, 0, none⟩)] #[]] 59)) fun e w' => e = .returned (.int .i64 (unE (left != 0) 190)) ∧ Below w.heap.size w w' := by
  have e0 := unE_there hn
  have hf : firstE [⟨31, #[.pointer (some ⟨p, 0, none⟩)], #[], unE (!(n == 0)) 1⟩, ⟨50, #[.pointer (some ⟨p, 0, none⟩)], #[], unE (left != 0) 190⟩] = unE (left != 0) 190 := by
    rw [firstE, if_pos e0]
    exact firstE_one _
  have hb0 : ∀ w', Below (w.alloc (.cells #[.func (.func 31) #[.pointer (some ⟨p, 0, none⟩)] #[], .func (.func 50) #[.pointer (some ⟨p, 0, none⟩)] #[]] 59)).heap.size (w.alloc (.cells #[.func (.func 31) #[.pointer (some ⟨p, 0, none⟩)] #[], .func (.func 50) #[.pointer (some ⟨p, 0, none⟩)] #[]] 59)) w' → Below w.heap.size w w' := fun w' hb => (below_al (Below.refl _ _) _).trans (hb.mono (by simp))
  rw [← hf]
  refine refusal_at [⟨31, #[.pointer (some ⟨p, 0, none⟩)], #[], unE (!(n == 0)) 1⟩, ⟨50, #[.pointer (some ⟨p, 0, none⟩)], #[], unE (left != 0) 190⟩] w (by simp) (by simp) fun j q hq _ => ?_
  match j, hq with
  | 0, hq =>
    injection hq with hq
    subst hq
    exact ⟨ent_there, fun w' hb => (dthere_any _ n w' (h w' (hb0 w' hb)).1).mono fun e w'' h => ⟨h.1, by rw [← h.2]; exact Below.refl _ _⟩⟩
  | 1, hq =>
    injection hq with hq
    subst hq
    exact ⟨ent_works, fun w' hb => (dworks_any' p left w' (h w' (hb0 w' hb)).2).mono fun e w'' h => ⟨h.1, by rw [← h.2]; exact Below.refl _ _⟩⟩
  | j + 2, hq => simp at hq

def DkM.synced (D : DkM) : DkM := DkM.didM (D.settled fun _ => true)
/-- What Sync answers. -/
def SyncP (S : Nat → Prop) (p : Nat) (D : DkM) (w : World) (e : Ending) (w' : World) : Prop :=
  (D.left ≠ 0 ∧ e = .returned (.int .i64 0) ∧ DkAt w' S p D.synced ∧ ButS w.heap.size S w w') ∨ (D.left = 0 ∧ e = .returned (.int .i64 190) ∧ Below w.heap.size w w')

set_option maxHeartbeats 2000000 in
theorem sync_any (S : Nat → Prop) (p : Nat) (D : DkM) (hok : D.ok) (w : World) (h : DkAt w S p D) : Calls Try.prog 21 #[.pointer (some ⟨p, 0, none⟩)] w (SyncP S p D w) := by
  have hmf : ∀ (fn : Fn) (first cap : Array Value) (w : World), (Instr.makeFunc fn first cap).run Try.prog w = .ok (.func fn first cap) w := fun _ _ _ _ => rfl
  have HH := Lib.hid h
  have HO := Lib.hid hok
  have HT := Lib.hid (two_at (.pointer none) D.n p D.left w hok.n1 fun w' hb => ⟨(h.on hb).n, (h.on hb).row.2.elim fun m1 h => h.elim fun m2 h => h.elim fun v h => h.1 4 _ rfl⟩)
  clear h hok
  go_enter Try.func21, Try.ntmps21
  go_wp2_with fail
  refine HT.out.mono ?_
  rintro e w1 ⟨rfl, hb1⟩
  have HB1 := Lib.hid hb1
  have HD1 := Lib.hid (HH.out.on hb1)
  clear hb1
  by_cases h0 : D.left = 0
  · have H0 := Lib.hid h0
    have e1 : unE (D.left != 0) 190 = 190 := by rw [h0]; rfl
    rw [e1]
    clear h0 e1
    go_wp2_with fail
    go_ret
    exact .inr ⟨H0.out, rfl, HB1.out⟩
  · have H0 := Lib.hid h0
    have e1 : unE (D.left != 0) 190 = 0 := by
      have : (D.left != 0) = true := by simpa using h0
      rw [this]; rfl
    rw [e1]
    clear h0 e1
    go_wp2_with fail
    refine (settle_any S p D HO.out 53 #[] #[] (fun _ => true) (fun _ => False) w1 (enters_of Try.func53 (by kernel_rfl) rfl) (fun k _ w' _ _ => (sync1_any k w').mono fun e w'' h => ⟨h.1, by rw [← h.2]; exact Below.refl _ _⟩) (fun b hb => hb.elim) HD1.out).mono ?_
    rintro e w2 ⟨rfl, hd2, hb2⟩
    have HD2 := Lib.hid hd2
    have HB2 : Hid (ButS w.heap.size S w w2) := (ButS.of_below HB1.out).trans (hb2.mono HB1.out.size fun _ _ h => h)
    clear hd2 hb2
    go_wp2_with fail
    refine (did_any S p (D.settled fun _ => true) (settled_ok HO.out _).left w2 HD2.out).mono ?_
    rintro e w3 ⟨rfl, hd3, hb3, _⟩
    have HD3 := Lib.hid hd3
    have HB3 : Hid (ButS w.heap.size S w w3) := HB2.out.trans (hb3.mono HB2.out.size fun _ _ h => h)
    clear hd3 hb3
    go_wp2_with fail
    go_ret
    exact .inl ⟨H0.out, rfl, HD3.out, HB3.out⟩

/-- A disk behind a crash. -/
def DkM.crashed (D : DkM) (l : List Bool) : DkM := { D.settled (keepAt l) with left := -1 }
theorem crashed_ok {D : DkM} (h : D.ok) (l : List Bool) : (D.crashed l).ok := ⟨h.n1, h.n2, (settled_ok h (keepAt l)).lie, (settled_ok h (keepAt l)).wt, by simp [DkM.crashed], (settled_ok h (keepAt l)).few⟩

set_option maxHeartbeats 4000000 in
theorem crash_any (S : Nat → Prop) (p : Nat) (D : DkM) (hok : D.ok) (A : Option Addr) (C : Nat) (l : List Bool) (hl : l.length ≤ 140737488355328) (w : World) (hr : RdT w w.heap.size A l) (hS : ∀ q, A = some q → ¬ S q.block) (hSw : ∀ b, S b → b < w.heap.size) (h : DkAt w S p D) :
    Calls Try.prog 23 #[.pointer (some ⟨p, 0, none⟩), .slice A l.length C] w fun e w' => e = .returned (.int .i64 0) ∧ DkAt w' S p (D.crashed l) ∧ ButS w.heap.size S w w' := by
  have hmf : ∀ (fn : Fn) (first cap : Array Value) (w : World), (Instr.makeFunc fn first cap).run Try.prog w = .ok (.func fn first cap) w := fun _ _ _ _ => rfl
  obtain ⟨W, hW⟩ : ∃ W, W = w.alloc (.cells #[.slice A l.length C] 38) := ⟨_, rfl⟩
  have HB0 : Hid (Below w.heap.size w W) := by rw [hW]; exact below_al (Below.refl _ _) _
  have HX : Hid (∀ w' : World, w'.heap[w.heap.size]? = W.heap[w.heap.size]? → w'.cell? ⟨w.heap.size, 0, none⟩ = some (.slice A l.length C)) := fun w' h => by
    rw [World.cell?_of_block (a := ⟨w.heap.size, 0, none⟩) h, hW]
    exact box_at (Below.refl _ _) 0
  have HSW : Hid (w.heap.size < W.heap.size) := by rw [Hid, hW]; simp
  have HZ : Hid (w.heap.size + 1 = W.heap.size) := by rw [Hid, hW]; simp
  have HH := Lib.hid h
  have HO := Lib.hid hok
  have HR := Lib.hid hr
  have HSn := Lib.hid hS
  have HSw := Lib.hid hSw
  have HL := Lib.hid hl
  have HD0 : Hid (DkAt W S p D) := h.on HB0.out
  have HW := Lib.hid hW
  clear h hok hr hS hSw hW hl
  go_enter Try.func23, Try.ntmps23
  go_wp2_with fail
  rw [← HW.out, HZ.out]
  refine (there_at _ _ W HD0.out.n).mono ?_
  rintro e w1 ⟨rfl, hb1⟩
  rw [unE_there HO.out.n1]
  have HB1 := Lib.hid hb1
  have HD1 := Lib.hid (HD0.out.on hb1)
  clear hb1
  go_wp2_with fail
  refine (settle_any S p D HO.out 54 #[] #[.pointer (some ⟨w.heap.size, 0, none⟩)] (keepAt l) (fun b => b = w.heap.size ∨ ∃ q, A = some q ∧ l ≠ [] ∧ b = q.block) w1 (enters_of Try.func54 (by kernel_rfl) rfl) (fun k hk w' hT hsz => ?call) (fun b hb => ?tb) HD1.out).mono ?_
  case call =>
    have h1 := hT _ (.inl rfl)
    have e1 := HB1.out.block w.heap.size HSW.out
    have h2 : RdT w' w'.heap.size A l := by
      rcases HR.out with h | ⟨g, o, e, hg, hc⟩
      · exact .inl h
      · by_cases hn : l = []
        · exact .inl hn
        · have hb := hT g (.inr ⟨_, e, hn, rfl⟩)
          have hb2 : w1.heap[g]? = w.heap[g]? := (HB1.out.block g (by have := HB0.out.size; omega)).trans (HB0.out.block g hg)
          refine .inr ⟨g, o, e, ?_, fun k q hq => (World.cell?_of_block (a := ⟨g, o + k, none⟩) (hb.trans hb2)).trans (hc k q hq)⟩
          have := HB0.out.size
          have := HB1.out.size
          omega
    refine (crash1_any w.heap.size A C l k (by have := HO.out.few; omega) HL.out w' (HX.out w' (h1.trans e1)) h2).mono fun e w'' h => ⟨h.1, by rw [← h.2]; exact Below.refl _ _⟩
  case tb =>
    have h0 := HSW.out
    have h1 := HB1.out.size
    rcases hb with rfl | ⟨q, hq, hn, rfl⟩
    · exact ⟨by omega, fun h => by have := HSw.out _ h; omega⟩
    · refine ⟨?_, HSn.out q hq⟩
      rcases HR.out with h | ⟨g, o, e, hg, hc⟩
      · exact absurd h hn
      · rw [hq] at e
        injection e with e
        rw [e]
        show g < _
        omega
  rintro e w2 ⟨rfl, hd2, hb2⟩
  have HB2 : Hid (ButS w.heap.size S w w2) := (ButS.of_below (HB0.out.trans (HB1.out.mono HB0.out.size))).trans (hb2.mono (Nat.le_trans HB0.out.size HB1.out.size) fun _ _ h => h)
  have HD2 := Lib.hid hd2
  obtain ⟨hs, m1, m2, v, hrow⟩ := hd2.row
  have hc := hrow.1 4 _ rfl
  have hf := hrow.2 4
  have HSp := Lib.hid hs
  clear hd2 hb2 hrow hs
  go_wp2_with fail
  go_ret
  exact ⟨rfl, HD2.out.setLeft (-1), HB2.out.set (.inl HSp.out) _ _⟩

end Go.Proofs.Ytekeooeapiodmaa

