/- The document's answer for Open. -/
import Derived.Test.YtjcfhkodfanbiaaSumG
import Derived.Deep.QuietTactic
namespace Go.Proofs.Ytjcfhkodfanbiaa
open Go.RowKit Go.Shelf

theorem openN_iff {k : Nat} {ss : List UInt8} : (aheadN k ss ++ sumB k (aheadN k ss) = ss) ↔ (behindN k ss = sumB k (aheadN k ss)) := by
  have h : aheadN k ss ++ behindN k ss = ss := List.take_append_drop _ _
  constructor
  · intro e
    exact List.append_cancel_left (h.trans e.symm)
  · intro e
    rw [← e]
    exact h

/-- What is read while a sum is held against another one. -/
def TextAt (B : Nat) (a : Option Addr) (ss : List UInt8) (w' : World) : Prop := RdB w' B a ss ∧ B ≤ w'.heap.size

theorem TextAt.later {B : Nat} {a : Option Addr} {ss : List UInt8} {w1 w2 : World} (h : TextAt B a ss w1) (hb : Below w1.heap.size w1 w2) : TextAt B a ss w2 := ⟨h.1.below (hb.mono h.2), Nat.le_trans h.2 hb.size⟩

theorem TextAt.held {B : Nat} {a : Option Addr} {ss : List UInt8} {w1 : World} (h : TextAt B a ss w1) (c : Nat) :
    ((convert 23 9 (.slice a ss.length c)).run Try.prog w1 = .ok (.string ⟨ss.toArray⟩) w1) ∧ TextAt B a ss w1 :=
  ⟨h.1.text (P := Try.prog) 23 9 5 _ c rfl Try.underlying23 Try.underlying5 Try.underlying9, h⟩

set_option maxRecDepth 100000 in
set_option maxHeartbeats 1000000 in
theorem refOpen_no (x : Int) (hx : isK x = false) (a : Option Addr) (n c : Nat) (w : World) :
    Calls Try.prog 15 #[.int .i64 x, .slice a n c] w fun e w' => e = .returned (.tuple #[.slice none 0 0, .int .i64 2]) ∧ w = w' := by
  go_enter Try.func15, Try.ntmps15
  go_wp2_with (go_at_call 9; refine (refKind_any _ _).mono ?_; rintro e w' ⟨rfl, rfl⟩)
  go_ret2
  exact ⟨rfl, rfl⟩

set_option maxRecDepth 100000 in
set_option maxHeartbeats 1000000 in
theorem refOpen_short (k : Nat) (hk : k ≤ 2) (a : Option Addr) (n c : Nat) (ss : List UInt8) (hn : n = ss.length) (w : World) (hlen : ss.length ≤ 140737488351232) (hs : ss.length < wdN k) :
    Calls Try.prog 15 #[.int .i64 k, .slice a n c] w fun e w' => e = .returned (.tuple #[.slice none 0 0, .int .i64 110]) ∧ ∃ m, w' = w.drewN m := by
  subst hn
  have hkk := isK_of hk
  have HW := Lib.hid (wdN_le k)
  have hwr : IntKind.i64.wrap ((ss.length : Int) - (wdN k : Int)) = (ss.length : Int) - (wdN k : Int) := IntWalk.i64_in _ (by have := HW.out; omega)
  have hneg : (ss.length : Int) - (wdN k : Int) < 0 := by omega
  go_enter Try.func15, Try.ntmps15
  go_wp2_with fail
  refine (refKind_any _ _).mono ?_
  rintro e w1 ⟨rfl, rfl⟩
  go_wp2_with fail
  refine (refWidth_any k hk _).mono ?_
  rintro e w1 ⟨rfl, rfl⟩
  go_wp2
  go_quiet (fail)
  go_wp2
  go_ret2
  exact ⟨rfl, _, rfl⟩

set_option maxRecDepth 100000 in
set_option maxHeartbeats 1000000 in
theorem refOpen_long (k : Nat) (hk : k ≤ 2) (a : Option Addr) (n c : Nat) (ss : List UInt8) (hn : n = ss.length) (w : World) (hc : ss.length ≤ c) (hlen : ss.length ≤ 140737488351232) (hr : RdB w w.heap.size a ss) (hs : ¬ ss.length < wdN k) (p q : List UInt8) (hp : p = aheadN k ss) (hq : q = p ++ sumB k p) :
    Calls Try.prog 15 #[.int .i64 k, .slice a n c] w fun e w' =>
      ((¬ q = ss ∧ e = .returned (.tuple #[.slice none 0 0, .int .i64 110])) ∨ (q = ss ∧ ∃ A C, e = .returned (.tuple #[.slice A p.length C, .int .i64 0]) ∧ RdB w' w'.heap.size A p ∧ ∀ q, A = some q → w.heap.size ≤ q.block)) ∧ Below w.heap.size w w' := by
  subst hn
  have hkk := isK_of hk
  have HW := Lib.hid (wdN_le k)
  obtain ⟨m, hm⟩ : ∃ m, m = ss.length - wdN k := ⟨_, rfl⟩
  have hwr : IntKind.i64.wrap ((ss.length : Int) - (wdN k : Int)) = (m : Int) := by
    rw [IntWalk.i64_in _ (by have := HW.out; omega)]
    omega
  have hsub : (ss.length : Int) - (wdN k : Int) = (m : Int) := by omega
  have hpl : p.length = m := by
    rw [hp]
    simp [aheadN, hm]
  have hmc : m ≤ c := by omega
  have hml : m ≤ 140737488351232 := by omega
  have hsl := fun w : World => run_cut1h (P := Try.prog) 23 5 Try.underlying23 size_u8 a ss.length c m hmc w
  have hrp : RdB w w.heap.size a p := by
    have := hr.take m
    rw [hm] at this
    rw [hp]
    exact this
  have T0 : TextAt w.heap.size a ss w.drew := ⟨hr, Nat.le_refl _⟩
  have HJ : Hid (Calls Try.prog 16 #[.int .i64 k, .slice a m c] w.drew (NewP w.drew q)) := by
    rw [hq]
    exact refSeal_any k hk a m c p hpl.symm w.drew (by omega) hrp
  have HP := Lib.hid hrp
  have HL := Lib.hid hpl
  clear hr hrp hs hp hm hpl hq
  go_enter Try.func15, Try.ntmps15
  go_wp2_with fail
  refine (refKind_any _ _).mono ?_
  rintro e w1 ⟨rfl, rfl⟩
  go_wp2_with fail
  refine (refWidth_any k hk _).mono ?_
  rintro e w1 ⟨rfl, rfl⟩
  cases hne : (q == ss)
  · go_wp2
    go_region_held (fun w' => ((convert 23 9 (.slice a ss.length c)).run Try.prog w' = .ok (.string ⟨ss.toArray⟩) w') ∧ TextAt w.heap.size a ss w')
      (first | exact T0.held c | exact T1.held c)
      (first
        | (go_at_call 16; refine HJ.out.mono ?_; rintro e W1 ⟨Aj, cj, rfl, _, hrj, hbj⟩; have kj := hrj.text (P := Try.prog) 23 9 5 _ cj rfl Try.underlying23 Try.underlying5 Try.underlying9; have T1 := T0.later hbj; clear hrj))
    go_wp2
    go_ret2
    exact ⟨.inl ⟨by simpa using hne, rfl⟩, below_on (Below.refl _ _).drew hbj⟩
  · go_wp2
    go_region_held (fun w' => ((convert 23 9 (.slice a ss.length c)).run Try.prog w' = .ok (.string ⟨ss.toArray⟩) w') ∧ TextAt w.heap.size a ss w')
      (first | exact T0.held c | exact T1.held c)
      (first
        | (go_at_call 16; refine HJ.out.mono ?_; rintro e W1 ⟨Aj, cj, rfl, _, hrj, hbj⟩; have kj := hrj.text (P := Try.prog) 23 9 5 _ cj rfl Try.underlying23 Try.underlying5 Try.underlying9; have T1 := T0.later hbj; clear hrj))
    have hs1 := (((HP.out.below (below_on (Below.refl _ _).drew hbj)).mono (below_on (Below.refl _ _).drew hbj).size).src).alloc (.cells #[] 5)
    have ho := OwnV.lit W1 W1.heap.size 5 #[] (Nat.le_refl _) (by decide)
    have h01 := Lib.hid (encB_one p)
    have hpm : Hid ((p.map encB).length = m) := by simp [Hid, HL.out]
    have hL1 : Hid (([] : List Value).length + (p.map encB).length ≤ maxLen) := by simp [Hid, maxLen, HL.out]; omega
    have hL2 : Hid ((([] : List Value).length + (p.map encB).length) * 1 ≤ 140737488355328) := by simp [Hid, HL.out]; omega
    go_wp2_with (at_builtin; refine wpList_app _ rfl (.tmp 28) (.tmp 31) 23 rfl W1.heap.size 5 (.int .u8 0) 1 Try.underlying23 info_u8 rfl _ _ rfl ho _ _ _ _ rfl hpm.out hs1 h01.out hL1.out hL2.out (by simp) ?_; intro v1 w4 hpp; have b1 := ((Below.refl W1.heap.size W1).alloc (Nat.le_refl _) (.cells #[] 5)).trans (hpp.below ho (by simp)))
    go_ret2
    obtain ⟨A, C, rfl, hC, hrr, hfar⟩ := hpp.1.bytes
    have hfr : ∀ q, A = some q → w.heap.size ≤ q.block := fun q hq => Nat.le_trans (below_on (Below.refl _ _).drew hbj).size (hfar q hq).1
    exact ⟨Or.inr ⟨eq_of_beq hne, A, ⟨C, rfl⟩, hrr, hfr⟩, below_on (below_on (Below.refl _ _).drew hbj) b1⟩

theorem refOpen_any (k : Nat) (hk : k ≤ 2) (a : Option Addr) (n c : Nat) (ss : List UInt8) (hn : n = ss.length) (w : World) (hc : ss.length ≤ c) (hlen : ss.length ≤ 140737488351232) (hr : RdB w w.heap.size a ss) :
    Calls Try.prog 15 #[.int .i64 k, .slice a n c] w (OpenP w k ss) := by
  by_cases hs : ss.length < wdN k
  · refine (refOpen_short k hk a n c ss hn w hlen hs).mono ?_
    rintro e w' ⟨rfl, m, rfl⟩
    exact ⟨.inl ⟨if_pos hs, rfl⟩, below_dr (Below.refl _ _) m⟩
  · refine (refOpen_long k hk a n c ss hn w hc hlen hr hs _ _ rfl rfl).mono ?_
    rintro e w' ⟨⟨h, rfl⟩ | ⟨h, A, C, rfl, hra, hfar⟩, hb⟩
    · exact ⟨.inl ⟨by rw [openN, if_neg hs, if_neg (fun e => h (openN_iff.2 e))], rfl⟩, hb⟩
    · exact ⟨.inr ⟨_, by rw [openN, if_neg hs, if_pos (openN_iff.1 h)], A, C, rfl, hra, hfar⟩, hb⟩

end Go.Proofs.Ytjcfhkodfanbiaa
