/- The walk of OctetBytes: whatever bytes, however many. -/
import Derived.Test.YtokecladkepgfaaOctQ
import Derived.Test.YtokecladkepgfaaOctT
import Derived.Deep.RegionHeld
import Derived.Laws.Small
namespace Go.Proofs.Ytokecladkepgfaa
open Go.RowKit Go.Shelf

theorem each_q (a : Option Addr) (c most q : Nat) (bs : List UInt8) (w : World) (hm : 1 ≤ most) (hm2 : most ≤ 4000) (hlen : bs.length ≤ 3000) (hq : bs.take most = bs.take q) (hql : q ≤ bs.length) (hr : RdB w w.heap.size a bs) :
    Calls Try.prog 18 #[.slice a bs.length c, .int .i64 (most : Int)] w fun e w' =>
      ∃ A C, e = .returned (.tuple #[.slice A q C, .bool true]) ∧ q ≤ C ∧ RdB w' w'.heap.size A (bs.take q) ∧ Below w.heap.size w w' := by
  refine (eachL_any a c most bs w hm hm2 hlen hr).mono ?_
  rintro e w' ⟨A, C, rfl, hC, hrd, hb⟩
  have hl : (bs.take most).length = q := by rw [hq, List.length_take]; omega
  rw [hl] at hC ⊢
  rw [hq] at hrd
  exact ⟨A, C, rfl, hC, hrd, hb⟩

theorem rd_front {w : World} {B : Nat} {a : Option Addr} {bs : List UInt8} {x : UInt8} (h : RdB w B a (bs ++ [x])) : RdB w B a bs := by
  have := h.take bs.length
  rwa [List.take_left' rfl] at this

/-- What the last statement reads. -/
def FactsB (B g q : Nat) (a1 a2 A : Option Addr) (bs ah : List UInt8) (w : World) : Prop :=
  RdB w B (some ⟨g, 0, none⟩) (bs ++ [77]) ∧ RdB w B a1 bs ∧ RdB w B a2 ah ∧ RdB w B A (bs.take q) ∧ B ≤ w.heap.size

theorem FactsB.later {B g q : Nat} {a1 a2 A : Option Addr} {bs ah : List UInt8} {w w' : World} (h : FactsB B g q a1 a2 A bs ah w) (hb : Below w.heap.size w w') : FactsB B g q a1 a2 A bs ah w' := by
  obtain ⟨h1, h2, h3, h4, hB⟩ := h
  exact ⟨h1.below (hb.mono hB), h2.below (hb.mono hB), h3.below (hb.mono hB), h4.below (hb.mono hB), Nat.le_trans hB hb.size⟩

theorem FactsB.held {B g q C c1 : Nat} {a1 a2 A : Option Addr} {bs ah : List UInt8} {w : World} (h : FactsB B g q a1 a2 A bs ah w) (hq : q ≤ bs.length) :
    ((convert 23 9 (.slice A q C)).run Try.prog w = .ok (.string ⟨(bs.take q).toArray⟩) w ∧ (convert 23 9 (.slice a1 q c1)).run Try.prog w = .ok (.string ⟨(bs.take q).toArray⟩) w) ∧ FactsB B g q a1 a2 A bs ah w :=
  ⟨⟨h.2.2.2.1.text (P := Try.prog) 23 9 5 q C (by simp; omega) Try.underlying23 Try.underlying5 Try.underlying9,
    (h.2.1.take q).text (P := Try.prog) 23 9 5 q c1 (by simp; omega) Try.underlying23 Try.underlying5 Try.underlying9⟩, h⟩

set_option maxRecDepth 100000 in
set_option maxHeartbeats 4000000 in
theorem walk_bytes (a1 a2 : Option Addr) (c1 c2 : Nat) (many : Int) (bs ah : List UInt8) (w : World) (hc : bs.length ≤ c1) (h1 : RdB w w.heap.size a1 bs) (h2 : RdB w w.heap.size a2 ah) :
    Calls Try.prog 5 #[.slice a1 bs.length c1, .slice a2 ah.length c2, .int .i64 many] w fun e w' => e = .returned (.bool true) ∧ Below w.heap.size w w' := by
  have H1 := Lib.hid h1
  have H2 := Lib.hid h2
  clear h1 h2
  have hh : (3000 : Int) < (bs.length : Int) ∨ (¬ (3000 : Int) < (bs.length : Int) ∧ (3000 : Int) < (ah.length : Int)) ∨ (¬ (3000 : Int) < (bs.length : Int) ∧ ¬ (3000 : Int) < (ah.length : Int) ∧ many < 1) ∨
      (¬ (3000 : Int) < (bs.length : Int) ∧ ¬ (3000 : Int) < (ah.length : Int) ∧ ¬ many < 1 ∧ 4000 < many) ∨ (¬ (3000 : Int) < (bs.length : Int) ∧ ¬ (3000 : Int) < (ah.length : Int) ∧ ¬ many < 1 ∧ ¬ 4000 < many) := by omega
  rcases hh with g1 | ⟨g1, g2⟩ | ⟨g1, g2, g3⟩ | ⟨g1, g2, g3, g4⟩ | ⟨g1, g2, g3, g4⟩
  · go_enter Try.func5, Try.ntmps5
    go_wp2_with fail
    refine (works_any _).mono ?_
    rintro e w1 ⟨rfl, hb1⟩
    go_wp2
    go_ret
    exact ⟨rfl, hb1⟩
  · go_enter Try.func5, Try.ntmps5
    go_wp2_with fail
    refine (works_any _).mono ?_
    rintro e w1 ⟨rfl, hb1⟩
    go_wp2
    go_ret
    exact ⟨rfl, hb1⟩
  · go_enter Try.func5, Try.ntmps5
    go_wp2_with fail
    refine (works_any _).mono ?_
    rintro e w1 ⟨rfl, hb1⟩
    go_wp2
    go_ret
    exact ⟨rfl, hb1⟩
  · go_enter Try.func5, Try.ntmps5
    go_wp2_with fail
    refine (works_any _).mono ?_
    rintro e w1 ⟨rfl, hb1⟩
    go_wp2
    go_ret
    exact ⟨rfl, hb1⟩
  obtain ⟨most, rfl⟩ := Int.eq_ofNat_of_zero_le (a := many) (by omega)
  have hq : ∃ q, q = min most bs.length := ⟨_, rfl⟩
  obtain ⟨q, hq⟩ := hq
  have hql : q ≤ bs.length := by omega
  have hqt : bs.take most = bs.take q := by
    rcases Nat.le_total most bs.length with h | h
    · rw [hq, Nat.min_eq_left h]
    · rw [hq, Nat.min_eq_right h, List.take_length, List.take_of_length_le h]
  go_enter Try.func5, Try.ntmps5
  go_wp2_with fail
  refine (lent_any a1 c1 bs _ (by omega) H1.out).mono ?_
  rintro e w1 ⟨g, cap, rfl, hcap, _, hm, hb1⟩
  have HM := Lib.hid hm
  clear hm
  go_wp2_with fail
  refine (each_q _ cap most q bs w1 (by omega) (by omega) (by omega) hqt hql (rd_front HM.out)).mono ?_
  rintro e w2 ⟨A, C, rfl, hC, hrA, hb2⟩
  have B2 := below_on hb1 hb2
  have F0 : FactsB w2.heap.size g q a1 a2 A bs ah w2.drew := FactsB.later (w := w2) ⟨(HM.out.below hb2).mono hb2.size, (H1.out.below B2).mono B2.size, (H2.out.below B2).mono B2.size, hrA, Nat.le_refl _⟩ (Below.refl _ _).drew
  have hmn : (if bs.length < most then (bs.length : Int) else (most : Int)) = (q : Int) := by
    rw [hq]
    split <;> omega
  have hsl := fun w : World => run_cut1h (P := Try.prog) 23 5 Try.underlying23 size_u8 a1 bs.length c1 q (by omega) w
  have hq0 : (0 : Int) ≤ (q : Int) := by omega
  have hqc : (q : Int) ≤ (c1 : Int) := by omega
  have hbl : bs.length ≤ 3000 := by omega
  have hal : ah.length ≤ 3000 := by omega
  clear hrA hq hqt
  have HQ := Lib.hid hql
  have HC := Lib.hid hC
  have HK := Lib.hid hcap
  clear hC hcap hql
  go_wp2
  go_region_held (fun w' => ((convert 23 9 (.slice A q C)).run Try.prog w' = .ok (.string ⟨(bs.take q).toArray⟩) w' ∧ (convert 23 9 (.slice a1 q c1)).run Try.prog w' = .ok (.string ⟨(bs.take q).toArray⟩) w') ∧ FactsB w2.heap.size g q a1 a2 A bs ah w')
    (first | exact F0.held HQ.out | exact F1.held HQ.out | exact F2.held HQ.out | exact F3.held HQ.out)
    (first
      | (go_at_call 19; refine (begins_any (some ⟨g, 0, none⟩) a2 cap c2 bs ah _ ((rd_front F0.1).mono F0.2.2.2.2) (F0.2.2.1.mono F0.2.2.2.2) (by omega) (by omega)).mono ?_; rintro e W1 ⟨rfl, hbB⟩; have F1 := F0.later hbB)
      | (go_at_call 20; refine (refBegins_any a1 a2 c1 c2 bs ah _ (F1.2.1.mono F1.2.2.2.2) (F1.2.2.1.mono F1.2.2.2.2) hc).mono ?_; rintro e W2 ⟨rfl, nn, rfl⟩; have F2 := F1.later (below_dr (Below.refl _ _) nn))
      | (go_at_call 17; refine (kept_any g cap c1 w2.heap.size a1 bs _ (by omega) HK.out F2.1 F2.2.1).mono ?_; rintro e W3 ⟨rfl, rfl⟩)
      | (go_at_call 13; refine (works_any _).mono ?_; rintro e W4 ⟨rfl, hbw⟩; have F3 := F2.later hbw))
  go_wp2
  go_ret
  exact ⟨rfl, below_on (below_on (below_dr (below_on B2.drew hbB) nn) (Below.refl _ _)) hbw⟩

end Go.Proofs.Ytokecladkepgfaa
