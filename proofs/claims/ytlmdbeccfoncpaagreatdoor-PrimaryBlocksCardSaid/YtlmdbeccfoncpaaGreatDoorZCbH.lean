/- Which items may be; package cbor's right. -/
import Derived.Test.YtlmdbeccfoncpaaGreatDoorZCbE
namespace Go.Proofs.YtlmdbeccfoncpaaGreatDoor
open Go.RowKit Go.Shelf
set_option linter.unusedSimpArgs false

theorem drew_size (w : World) : w.drew.heap.size = w.heap.size := rfl

/-- May an item be, whatever the items in it are? -/
def rightN (k n : Int) (b s : List UInt8) (m : Nat) : Bool :=
  (if k = 1 then true else if k = 2 then true else if k = 3 then (runesL s).2 else if k = 4 then true else if k = 5 then decide (n ≤ 1) else decide (k = 6)) &&
    (decide (k = 1 ∨ k = 5 ∨ n = 0) && (decide (k = 2 ∨ b = []) && (decide (k = 3 ∨ s = []) && decide (k = 4 ∨ m = 0))))

set_option maxRecDepth 100000 in
set_option maxHeartbeats 4000000 in
theorem itemRight_any (k n : Int) (a : Option Addr) (b s : List UInt8) (c : Nat) (A : Option Addr) (m C : Nat) (w : World) (hs : s.length ≤ 140737488355328) (hn : U64 n) :
    Calls Tryz.prog 115 #[.agg #[.int .i64 k, .int .u64 n, .slice a b.length c, .string ⟨s.toArray⟩, .slice A m C]] w fun e w' => e = .returned (.bool (rightN k n b s m)) ∧ Below w.heap.size w w' := by
  go_enter Tryz.func115, Tryz.ntmps115
  go_wp2_with fail
  go_region
  have hu : 0 ≤ n := hn.1
  by_cases hk1 : k = 1
  · subst hk1
    go_wp2_with fail
    all_goals
      go_ret
      refine ⟨?_, (below_al (below_al (Below.refl _ _) _) _).drew⟩
      simp_all [rightN] <;> (first | omega | (rw [Bool.eq_iff_iff]; simp; done) | (rw [Bool.eq_iff_iff]; simp; omega) | (intros; omega))
  by_cases hk2 : k = 2
  · subst hk2
    go_wp2_with fail
    all_goals
      go_ret
      refine ⟨?_, (below_al (below_al (Below.refl _ _) _) _).drew⟩
      simp_all [rightN] <;> (first | omega | (rw [Bool.eq_iff_iff]; simp; done) | (rw [Bool.eq_iff_iff]; simp; omega) | (intros; omega))
  by_cases hk3 : k = 3
  · subst hk3
    go_wp2_with fail
    refine (runes_any ⟨s.toArray⟩ _ hs).mono ?_
    rintro e w1 ⟨rfl, hb1⟩
    change Below _ _ _ at hb1
    have hd : (⟨s.toArray⟩ : ByteArray).data.toList = s := rfl
    rw [hd]
    clear hd
    have hc1 : w1.cell? ⟨w.heap.size + 1, 1, none⟩ = some (.int .u64 n) := (hb1.cell (p := ⟨w.heap.size + 1, 1, none⟩) (by simp [drew_size])).trans (by simp)
    have hc2 : w1.cell? ⟨w.heap.size + 1, 2, none⟩ = some (.slice a b.length c) := (hb1.cell (p := ⟨w.heap.size + 1, 2, none⟩) (by simp [drew_size])).trans (by simp)
    have hc3 : w1.cell? ⟨w.heap.size + 1, 3, none⟩ = some (.string ⟨s.toArray⟩) := (hb1.cell (p := ⟨w.heap.size + 1, 3, none⟩) (by simp [drew_size])).trans (by simp)
    have hc4 : w1.cell? ⟨w.heap.size + 1, 4, none⟩ = some (.slice A m C) := (hb1.cell (p := ⟨w.heap.size + 1, 4, none⟩) (by simp [drew_size])).trans (by simp)
    have hf : w1.frozen? ⟨w.heap.size + 1, 3, none⟩ = false := (hb1.frozen (p := ⟨w.heap.size + 1, 3, none⟩) (by simp [drew_size])).trans (by simp)
    obtain ⟨q, hq⟩ : ∃ q, q = (runesL s).2 := ⟨_, rfl⟩
    rw [← hq]
    have HQ := Lib.hid hq
    clear hq
    cases q
    · go_wp2_with fail
      all_goals
        go_ret
        refine ⟨?_, ((below_al (below_al (Below.refl _ _) _) _).drew.trans (hb1.mono (by simp [drew_size]; omega))).setCell (by simp) _⟩
        simp [rightN, ← HQ.out]
    · go_wp2_with fail
      all_goals
        go_ret
        refine ⟨?_, ((below_al (below_al (Below.refl _ _) _) _).drew.trans (hb1.mono (by simp [drew_size]; omega))).setCell (by simp) _⟩
        have hq := HQ.out
        simp_all [rightN] <;> (first | omega | (rw [Bool.eq_iff_iff]; simp; done) | (rw [Bool.eq_iff_iff]; simp; omega) | (intros; omega))
  by_cases hk4 : k = 4
  · subst hk4
    go_wp2_with fail
    all_goals
      go_ret
      refine ⟨?_, (below_al (below_al (Below.refl _ _) _) _).drew⟩
      simp_all [rightN] <;> (first | omega | (rw [Bool.eq_iff_iff]; simp; done) | (rw [Bool.eq_iff_iff]; simp; omega) | (intros; omega))
  by_cases hk5 : k = 5
  · subst hk5
    go_wp2_with fail
    all_goals
      go_ret
      refine ⟨?_, (below_al (below_al (Below.refl _ _) _) _).drew⟩
      simp_all [rightN] <;> (first | omega | (rw [Bool.eq_iff_iff]; simp; done) | (rw [Bool.eq_iff_iff]; simp; omega) | (intros; omega))
  by_cases hk6 : k = 6
  · subst hk6
    go_wp2_with fail
    all_goals
      go_ret
      refine ⟨?_, (below_al (below_al (Below.refl _ _) _) _).drew⟩
      simp_all [rightN] <;> (first | omega | (rw [Bool.eq_iff_iff]; simp; done) | (rw [Bool.eq_iff_iff]; simp; omega) | (intros; omega))
  have e1 : ((k : Int) == 1) = false := by simpa using hk1
  have e2 : ((k : Int) == 2) = false := by simpa using hk2
  have e3 : ((k : Int) == 3) = false := by simpa using hk3
  have e4 : ((k : Int) == 4) = false := by simpa using hk4
  have e5 : ((k : Int) == 5) = false := by simpa using hk5
  have e6 : ((k : Int) == 6) = false := by simpa using hk6
  go_wp2_with fail
  all_goals
    go_ret
    refine ⟨?_, (below_al (below_al (Below.refl _ _) _) _).drew⟩
    simp_all [rightN] <;> (first | omega | (rw [Bool.eq_iff_iff]; simp; done) | (rw [Bool.eq_iff_iff]; simp; omega) | (intros; omega))

end Go.Proofs.YtlmdbeccfoncpaaGreatDoor
