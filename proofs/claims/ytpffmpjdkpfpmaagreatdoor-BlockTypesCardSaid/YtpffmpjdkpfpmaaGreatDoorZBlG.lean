/- The law's words of blocks: few, ahead, count. -/
import Derived.Test.YtpffmpjdkpfpmaaGreatDoorZBh
namespace Go.Proofs.YtpffmpjdkpfpmaaGreatDoor
open Go Go.RowKit Go.Shelf
set_option linter.unusedSimpArgs false
set_option linter.unusedVariables false
set_option maxRecDepth 100000

attribute [local go_sem] Oper.semAt_some

def fewB (l : List Bl) (m : Int) : Bool := l.all (fun b => decide (b.d.length ≤ 500)) && decide ((l.length : Int) ≤ m)

theorem few_no {l : List Bl} {m : Int} {k : Nat} (h : k < l.length) (hd : 500 < l[k].d.length) : fewB l m = false := by
  have h1 : l.all (fun b => decide (b.d.length ≤ 500)) = false := by
    rw [Bool.eq_false_iff]
    intro h2
    have h3 := of_decide_eq_true (List.all_eq_true.1 h2 l[k] (List.getElem_mem h))
    omega
  rw [fewB, h1, Bool.false_and]

theorem RdLs.cellAt {w : World} {A : Option Addr} {xs : List LB} (h : RdLs w w.heap.size A xs) {k : Nat} (hk : k < xs.length) :
    ∃ g o, A = some ⟨g, o, none⟩ ∧ g < w.heap.size ∧ CellB w g (o + k * 4) xs[k] := by
  rcases h.2 with h | ⟨g, o, e, hg, hc⟩
  · rw [h] at hk
    simp at hk
  · exact ⟨g, o, e, hg, hc k _ (List.getElem?_eq_getElem hk)⟩

set_option maxHeartbeats 4000000 in
theorem few8_any (xs : List LB) (A : Option Addr) (C : Nat) (m : Int) (w : World) (hl : RdLs w w.heap.size A xs) (hs : xs.length ≤ 140737488355328) :
    Calls Tryz.prog 25 #[.slice A xs.length C, .int .i64 m] w fun e w' => e = .returned (.bool (fewB (xs.map LB.b) m)) ∧ w = w' := by
  have HL := Lib.hid hl
  have hd9 : Hid (∀ x ∈ xs, x.b.d.length ≤ 140737488355328) := fun x hx => (hl.1 x hx).2.1
  clear hl
  go_enter Tryz.func25, Tryz.ntmps25
  go_wp2_with fail
  go_loopw [5] (fun i wr => ∃ k : Nat, k ≤ xs.length ∧ i = .int .i64 k ∧ Hid (∀ j (h : j < xs.length), j < k → xs[j].b.d.length ≤ 500) ∧ w = wr) (fun i _ => xs.length - (intOf i).toNat)
  case atStart => exact ⟨0, Nat.zero_le _, rfl, fun j h hj => absurd hj (Nat.not_lt_zero _), rfl⟩
  case round =>
    obtain ⟨k, hk, rfl, HI, rfl⟩ := hrel
    by_cases hlt : k < xs.length
    · obtain ⟨g, o, rfl, hg, e0, e1, e2, e3⟩ := HL.out.cellAt hlt
      have h47 := hd9.out xs[k] (List.getElem_mem hlt)
      by_cases h5 : 500 < xs[k].b.d.length
      · have HF : Hid (fewB (xs.map LB.b) m = false) := few_no (k := k) (by simpa using hlt) (by rw [List.getElem_map]; exact h5)
        have d5 : (500 : Int) < (xs[k].b.d.length : Int) := by omega
        go_wp2_with fail
        go_ret
        exact ⟨by rw [HF.out]; rfl, rfl⟩
      · have d5 : ¬ (500 : Int) < (xs[k].b.d.length : Int) := by omega
        have HN : Hid (∀ j (h : j < xs.length), j < k + 1 → xs[j].b.d.length ≤ 500) := fun j h hj => by
          rcases Nat.lt_succ_iff_lt_or_eq.1 hj with h2 | rfl
          · exact HI.out j h h2
          · omega
        go_wp2_with fail
        go_roundw
        case rel => exact ⟨k + 1, by omega, by go_num, HN.out, by trivial⟩
        case measure => simp [intOf]; omega
    · obtain rfl : k = xs.length := by omega
      have HF : Hid (fewB (xs.map LB.b) m = decide ((xs.length : Int) ≤ m)) := by
        have h1 : (xs.map LB.b).all (fun b => decide (b.d.length ≤ 500)) = true := by
          rw [List.all_eq_true]
          intro b hb
          obtain ⟨x, hx, rfl⟩ := List.mem_map.1 hb
          obtain ⟨j, hj, rfl⟩ := List.getElem_of_mem hx
          exact decide_eq_true (HI.out j hj hj)
        rw [Hid, fewB, h1, Bool.true_and, List.length_map]
      clear hlt
      go_wp2_with fail
      go_ret
      exact ⟨by rw [HF.out]; rfl, rfl⟩

set_option maxHeartbeats 4000000 in
theorem count8_any (xs : List LB) (A : Option Addr) (C : Nat) (t : Nat) (w : World) (hl : RdLs w w.heap.size A xs) (hs : xs.length ≤ 50000) :
    Calls Tryz.prog 30 #[.slice A xs.length C, .int .u64 t] w fun e w' => e = .returned (.int .i64 (cntT (xs.map LB.b) t : Nat)) ∧ w = w' := by
  have HL := Lib.hid hl
  clear hl
  go_enter Tryz.func30, Tryz.ntmps30
  go_wp2_with fail
  go_loopw [5, 6] (fun n i wr => ∃ k : Nat, k ≤ xs.length ∧ i = .int .i64 k ∧ n = .int .i64 (cntT ((xs.map LB.b).take k) t : Nat) ∧ w = wr) (fun _ i _ => xs.length - (intOf i).toNat)
  case atStart => exact ⟨0, Nat.zero_le _, rfl, by simp [cntT], rfl⟩
  case round =>
    obtain ⟨k, hk, rfl, rfl, rfl⟩ := hrel
    by_cases hlt : k < xs.length
    · obtain ⟨g, o, rfl, hg, e0, e1, e2, e3⟩ := HL.out.cellAt hlt
      have HST : Hid (cntT ((xs.map LB.b).take (k + 1)) t = cntT ((xs.map LB.b).take k) t + (if xs[k].b.t = t then 1 else 0)) := by
        have h := cntT_step (l := xs.map LB.b) (k := k) (by simpa using hlt) t
        rwa [List.getElem_map] at h
      have hcl : cntT ((xs.map LB.b).take k) t ≤ 50000 := Nat.le_trans (cntT_le _ _) (by rw [List.length_take, List.length_map]; omega)
      obtain ⟨c, hc⟩ : ∃ c, c = cntT ((xs.map LB.b).take k) t := ⟨_, rfl⟩
      rw [← hc] at hcl HST ⊢
      clear hc
      by_cases ht : xs[k].b.t = t
      · have d : ((xs[k].b.t : Int) == (t : Int)) = true := by simp; omega
        rw [if_pos ht] at HST
        clear ht
        go_wp2_with fail
        go_roundw
        case rel => exact ⟨k + 1, by omega, by go_num, by rw [HST.out]; go_num, by trivial⟩
        case measure => simp [intOf]; omega
      · have d : ((xs[k].b.t : Int) == (t : Int)) = false := by simp; omega
        rw [if_neg ht] at HST
        clear ht
        go_wp2_with fail
        go_roundw
        case rel => exact ⟨k + 1, by omega, by go_num, by rw [HST.out]; rfl, by trivial⟩
        case measure => simp [intOf]; omega
    · obtain rfl : k = xs.length := by omega
      have HC : Hid (cntT ((xs.map LB.b).take xs.length) t = cntT (xs.map LB.b) t) := by rw [Hid, List.take_of_length_le (by simp)]
      generalize cntT ((xs.map LB.b).take xs.length) t = c at *
      clear hlt
      go_wp2_with fail
      go_ret
      exact ⟨by rw [HC.out]; rfl, rfl⟩

set_option maxHeartbeats 4000000 in
theorem ahead_any (xs : List LB) (A : Option Addr) (C m : Nat) (w : World) (hl : RdLs w w.heap.size A xs) (hs : xs.length ≤ 50000) (hm : m < xs.length) :
    Calls Tryz.prog 29 #[.slice A xs.length C, .int .i64 m] w fun e w' => e = .returned (.bool (ahd (xs.map LB.b) m)) ∧ Below w.heap.size w w' := by
  have HL : Hid (∀ w', Below w.heap.size w w' → RdLs w' w'.heap.size A xs) := fun w' h => hl.on h
  have hA : Hid (ahd (xs.map LB.b) m = true ↔ ∃ i, ∃ hi : i < m, (xs[i]'(by omega)).b.t = xs[m].b.t) := by
    have h := ahd_iff (l := xs.map LB.b) (m := m) (by simpa using hm)
    rw [Hid]
    simpa using h
  clear hl
  go_enter Tryz.func29, Tryz.ntmps29
  go_wp2_with fail
  go_loopw [5] (fun i wr => ∃ k : Nat, k ≤ m ∧ i = .int .i64 k ∧ Hid (Below w.heap.size w wr ∧ ∀ j (h : j < xs.length), j < k → xs[j].b.t ≠ xs[m].b.t)) (fun i _ => m - (intOf i).toNat)
  case atStart => exact ⟨0, Nat.zero_le _, rfl, Below.refl _ _, fun j h hj => absurd hj (Nat.not_lt_zero _)⟩
  case round =>
    obtain ⟨k, hk, rfl, HI⟩ := hrel
    by_cases hlt : k < m
    · have hrd := HL.out wr HI.out.1
      obtain ⟨g, o, rfl, hg, e0, e1, e2, e3⟩ := hrd.cellAt (k := k) (by omega)
      obtain ⟨g', o', he, _, f0, f1, f2, f3⟩ := hrd.cellAt hm
      injection he with he
      injection he with he1 he2
      subst he1 he2
      have hkx : k < xs.length := by omega
      have HBw := Lib.hid HI.out.1
      have HIn := Lib.hid HI.out.2
      clear hrd e1 e2 e3 f1 f2 f3 HI
      by_cases ht : xs[k].b.t = xs[m].b.t
      · have HQ : Hid (ahd (xs.map LB.b) m = true) := hA.out.2 ⟨k, hlt, ht⟩
        have d : ((xs[k].b.t : Int) == (xs[m].b.t : Int)) = true := by simp; omega
        generalize (xs[k].b.t : Int) = a1 at *
        generalize (xs[m].b.t : Int) = a2 at *
        clear ht
        go_wp2_with fail
        go_region
        go_wp2_with fail
        go_ret
        exact ⟨by rw [HQ.out]; rfl, HBw.out.drew⟩
      · have HN : Hid (∀ j (h : j < xs.length), j < k + 1 → xs[j].b.t ≠ xs[m].b.t) := fun j h hj => by
          rcases Nat.lt_succ_iff_lt_or_eq.1 hj with h2 | rfl
          · exact HIn.out j h h2
          · exact ht
        have d : ((xs[k].b.t : Int) == (xs[m].b.t : Int)) = false := by simp; omega
        generalize (xs[k].b.t : Int) = a1 at *
        generalize (xs[m].b.t : Int) = a2 at *
        clear ht
        go_wp2_with fail
        go_region
        go_wp2_with fail
        go_roundw
        case rel => exact ⟨k + 1, by omega, by go_num, HBw.out.drew, HN.out⟩
        case measure => simp [intOf]; omega
    · obtain rfl : k = m := by omega
      have HQ : Hid (ahd (xs.map LB.b) k = false) := by
        rw [Hid, Bool.eq_false_iff]
        intro h
        obtain ⟨i, hi, e⟩ := hA.out.1 h
        exact HI.out.2 i (by omega) hi e
      go_wp2_with fail
      go_ret
      exact ⟨by rw [HQ.out]; rfl, HI.out.1⟩

end Go.Proofs.YtpffmpjdkpfpmaaGreatDoor

