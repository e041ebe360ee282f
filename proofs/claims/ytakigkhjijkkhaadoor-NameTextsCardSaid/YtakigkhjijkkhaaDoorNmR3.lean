/- The document's name of a text. -/
import Derived.Test.YtakigkhjijkkhaaDoorNmR2
namespace Go.Proofs.YtakigkhjijkkhaaDoor
open Go Go.RowKit Go.Shelf
set_option linter.unusedSimpArgs false
set_option linter.unusedVariables false

theorem nmR_flags (s : List UInt8) : nmR s = if ((cutD 32 s).2.2 && ((cutD 32 (cutD 32 s).2.1).2.2 && ((epR (cutD 32 s).1).isSome && ((tnum (cutD 32 (cutD 32 s).2.1).1 forever).isSome && ((tnum (cutD 32 (cutD 32 s).2.1).2.1 4294967295).isSome && decide (0 < ((epR (cutD 32 s).1).getD (0, 0)).1)))))) = true
    then some (((epR (cutD 32 s).1).getD (0, 0)).1, ((epR (cutD 32 s).1).getD (0, 0)).2, (tnum (cutD 32 (cutD 32 s).2.1).1 forever).getD 0, (tnum (cutD 32 (cutD 32 s).2.1).2.1 4294967295).getD 0) else none := by
  unfold nmR cutD
  cases hc : cutL 32 s with
  | none => simp
  | some p =>
    obtain ⟨a, r⟩ := p
    simp only []
    cases hc2 : cutL 32 r with
    | none => simp
    | some p =>
      obtain ⟨b, c⟩ := p
      simp only []
      cases he : epR a with
      | none => simp
      | some p =>
        obtain ⟨n, m⟩ := p
        rw [epR_eq] at he
        obtain ⟨_, h1, _, _⟩ := epN_iff.1 he
        cases tnum b forever with
        | none => simp
        | some t =>
          cases tnum c 4294967295 with
          | none => simp
          | some q =>
            simp
            by_cases h0 : n = 0
            · have : m = 0 := by omega
              simp [h0, this]
            · have : 0 < n := by omega
              simp [h0, this]

/-- What the document's ParseName answers. -/
def RdocN (s : List UInt8) : (Nat × Nat × Nat × Nat) × Int := if 100 < s.length then ((0, 0, 0, 0), 3) else match nmR s with
    | some p => (p, 0)
    | none => ((0, 0, 0, 0), 130)

theorem put4r {w : World} {b : Nat} (v0 v1 v2 v3 : Int) (h0 : w.cell? ⟨b, 0, none⟩ = some (.int .u32 0)) (h1 : w.cell? ⟨b, 1, none⟩ = some (.int .u32 0)) (h2 : w.cell? ⟨b, 2, none⟩ = some (.int .u64 0)) (h3 : w.cell? ⟨b, 3, none⟩ = some (.int .u32 0)) :
    let w' := (((w.setCell ⟨b, 0, none⟩ (.int .u32 v0)).setCell ⟨b, 1, none⟩ (.int .u32 v1)).setCell ⟨b, 2, none⟩ (.int .u64 v2)).setCell ⟨b, 3, none⟩ (.int .u32 v3)
    w'.cell? ⟨b, 0, none⟩ = some (.int .u32 v0) ∧ w'.cell? ⟨b, 1, none⟩ = some (.int .u32 v1) ∧ w'.cell? ⟨b, 2, none⟩ = some (.int .u64 v2) ∧ w'.cell? ⟨b, 3, none⟩ = some (.int .u32 v3) := put4 _ _ _ _ h0 h1 h2 h3

set_option maxRecDepth 100000 in
set_option maxHeartbeats 8000000 in
theorem refParseN_any (s : List UInt8) (hs : s.length ≤ 140737488355328) (w : World) :
    Calls Tryd.prog 29 #[.string ⟨s.toArray⟩] w fun e w' => e = .returned (.tuple #[.agg #[.int .u32 (RdocN s).1.1, .int .u32 (RdocN s).1.2.1, .int .u64 (RdocN s).1.2.2.1, .int .u32 (RdocN s).1.2.2.2], .int .i64 (RdocN s).2]) ∧ Below w.heap.size w w' := by
  have hsz : (⟨s.toArray⟩ : ByteArray).size = s.length := by simp [ByteArray.size]
  obtain ⟨W, hW⟩ : ∃ W, W = w.alloc (.cells #[.int .u32 0, .int .u32 0, .int .u64 0, .int .u32 0] 47) := ⟨_, rfl⟩
  have hbW : Below w.heap.size w W := by rw [hW]; exact below_al (Below.refl _ _) _
  have hsW : W.heap.size = w.heap.size + 1 := by rw [hW]; simp
  have HC : Hid (∀ w', Below W.heap.size W w' → (w'.cell? ⟨w.heap.size, 0, none⟩ = some (.int .u32 0) ∧ w'.cell? ⟨w.heap.size, 1, none⟩ = some (.int .u32 0) ∧ w'.cell? ⟨w.heap.size, 2, none⟩ = some (.int .u64 0) ∧ w'.cell? ⟨w.heap.size, 3, none⟩ = some (.int .u32 0)) ∧ ∀ i, w'.frozen? ⟨w.heap.size, i, none⟩ = false) := fun w' hb => by
    have hh : ∀ i, w'.cell? ⟨w.heap.size, i, none⟩ = W.cell? ⟨w.heap.size, i, none⟩ := fun i => hb.cell (p := ⟨w.heap.size, i, none⟩) (show w.heap.size < _ by omega)
    have hf : ∀ i, w'.frozen? ⟨w.heap.size, i, none⟩ = W.frozen? ⟨w.heap.size, i, none⟩ := fun i => hb.frozen (p := ⟨w.heap.size, i, none⟩) (show w.heap.size < _ by omega)
    exact ⟨⟨(hh 0).trans (by rw [hW]; simp), (hh 1).trans (by rw [hW]; simp), (hh 2).trans (by rw [hW]; simp), (hh 3).trans (by rw [hW]; simp)⟩, fun i => (hf i).trans (by rw [hW]; simp)⟩
  have HB := Lib.hid hbW
  have HW := Lib.hid hW
  have hzw : w.heap.size < W.heap.size := by omega
  clear hW hbW
  by_cases hl : 100 < s.length
  · have e : RdocN s = ((0, 0, 0, 0), 3) := if_pos hl
    rw [e]
    have hl' : (100 : Int) < (s.length : Int) := by omega
    obtain ⟨⟨c0, c1, c2, c3⟩, cf⟩ := HC.out W (Below.refl _ _)
    obtain ⟨e0, e1, e2, e3⟩ := put4r 0 0 0 0 c0 c1 c2 c3
    have q0 := c0
    have q1 := c1
    have q2 := c2
    have q3 := c3
    have f0 := cf 0
    have f1 := cf 1
    have f2 := cf 2
    have f3 := cf 3
    rw [HW.out] at c0 c1 c2 c3 f0 f1 f2 f3
    clear hl e cf
    go_enter Tryd.func29, Tryd.ntmps29
    go_wp2
    try rw [← HW.out]
    refine bodyPost_ret (v := .tuple #[.agg #[.int .u32 0, .int .u32 0, .int .u64 0, .int .u32 0], .int .i64 3]) (by simp [results, Tryd.results29, go_sem, q0, q1, q2, q3, e0, e1, e2, e3]) rfl ⟨rfl, ?_⟩
    first | exact HB.out | exact (((HB.out.setCell (p := ⟨w.heap.size, 0, none⟩) (Nat.le_refl _) _).setCell (p := ⟨w.heap.size, 1, none⟩) (Nat.le_refl _) _).setCell (p := ⟨w.heap.size, 2, none⟩) (Nat.le_refl _) _).setCell (p := ⟨w.heap.size, 3, none⟩) (Nat.le_refl _) _
  · have e : RdocN s = match nmR s with | some p => (p, 0) | none => ((0, 0, 0, 0), 130) := if_neg hl
    have hl' : ¬ (100 : Int) < (s.length : Int) := by omega
    clear hl
    have hfl := nmR_flags s
    have hcl : ∀ (c : UInt8) (l : List UInt8), (cutD c l).1.length ≤ l.length ∧ (cutD c l).2.1.length ≤ l.length := fun c l => by
      rw [cutD]
      cases hc : cutL c l with
      | none => simp
      | some p => exact cut_len hc
    have HCU : Hid (∀ l : List UInt8, l.length ≤ 140737488355328 → ∀ w, Calls Tryd.prog 55 #[.string ⟨l.toArray⟩, .int .u8 32] w fun e w' => e = .returned (.tuple #[.string ⟨(cutD 32 l).1.toArray⟩, .string ⟨(cutD 32 l).2.1.toArray⟩, .bool (cutD 32 l).2.2]) ∧ Below w.heap.size w w') := fun l hl w => by
      have h := cut_any 32 l hl w
      unfold CutP at h
      exact h
    have H1 := Lib.hid (HCU.out s hs)
    obtain ⟨A, hA⟩ : ∃ A, A = (cutD 32 s).1 := ⟨_, rfl⟩
    obtain ⟨R, hR⟩ : ∃ A, A = (cutD 32 s).2.1 := ⟨_, rfl⟩
    obtain ⟨F, hF⟩ : ∃ A, A = (cutD 32 s).2.2 := ⟨_, rfl⟩
    have hAl : A.length ≤ 140737488355328 := by have := (hcl 32 s).1; rw [hA]; omega
    have hRl : R.length ≤ 140737488355328 := by have := (hcl 32 s).2; rw [hR]; omega
    rw [← hA, ← hR, ← hF] at H1 hfl
    have H2 := Lib.hid (HCU.out R hRl)
    obtain ⟨B, hB⟩ : ∃ A, A = (cutD 32 R).1 := ⟨_, rfl⟩
    obtain ⟨C, hC⟩ : ∃ A, A = (cutD 32 R).2.1 := ⟨_, rfl⟩
    obtain ⟨G, hG⟩ : ∃ A, A = (cutD 32 R).2.2 := ⟨_, rfl⟩
    have hBl : B.length ≤ 140737488355328 := by have := (hcl 32 R).1; rw [hB]; omega
    have hCl : C.length ≤ 140737488355328 := by have := (hcl 32 R).2; rw [hC]; omega
    rw [← hB, ← hC, ← hG] at H2 hfl
    clear hA hR hF hB hC hG hcl HCU
    have HPA : Hid (∀ w, Calls Tryd.prog 54 #[.string ⟨A.toArray⟩] w fun e w' => e = .returned (.tuple #[.agg #[.int .u32 ((epR A).getD (0, 0)).1, .int .u32 ((epR A).getD (0, 0)).2], .bool (epR A).isSome]) ∧ Below w.heap.size w w') := fun w => (refParse_any A hAl w).mono fun e w' h => by
      obtain ⟨h1, h2⟩ := h
      cases hr : epR A with
      | none => rw [hr] at h2; exact ⟨h2, h1⟩
      | some p => obtain ⟨n, m⟩ := p; rw [hr] at h2; exact ⟨h2, h1⟩
    have HTB : Hid (∀ w, Calls Tryd.prog 56 #[.string ⟨B.toArray⟩, .int .u64 4611686018427387903] w fun e w' => e = .returned (.tuple #[.int .u64 ((tnum B forever).getD 0), .bool (tnum B forever).isSome]) ∧ w' = w) := fun w => by
      have h := toNumber_any B hBl forever (by decide) w
      unfold ToP at h
      exact h
    have HTC : Hid (∀ w, Calls Tryd.prog 56 #[.string ⟨C.toArray⟩, .int .u64 4294967295] w fun e w' => e = .returned (.tuple #[.int .u64 ((tnum C 4294967295).getD 0), .bool (tnum C 4294967295).isSome]) ∧ w' = w) := fun w => by
      have h := toNumber_any C hCl 4294967295 (by decide) w
      unfold ToP at h
      exact h
    have hqb : (tnum C 4294967295).getD 0 ≤ 4294967295 := by
      cases ht : tnum C 4294967295 with
      | none => simp
      | some n => exact ((tnum_iff (by decide)).1 ht).2
    have hnm : (epR A).isSome = false → ((epR A).getD (0, 0)).1 = 0 := fun h => by
      cases hr : epR A with
      | none => rfl
      | some p => rw [hr] at h; simp at h
    have hnm0 : ((epR A).getD (0, 0)).1 = 0 → ((epR A).getD (0, 0)).2 = 0 := fun h => by
      cases hr : epR A with
      | none => rfl
      | some p =>
        obtain ⟨n, m⟩ := p
        rw [hr] at h
        rw [epR_eq] at hr
        obtain ⟨_, h1, _, _⟩ := epN_iff.1 hr
        simp at h ⊢
        omega
    obtain ⟨n, hn⟩ : ∃ n, n = ((epR A).getD (0, 0)).1 := ⟨_, rfl⟩
    obtain ⟨m, hm⟩ : ∃ n, n = ((epR A).getD (0, 0)).2 := ⟨_, rfl⟩
    obtain ⟨fx, hfx⟩ : ∃ n, n = (epR A).isSome := ⟨_, rfl⟩
    obtain ⟨t, ht⟩ : ∃ n, n = (tnum B forever).getD 0 := ⟨_, rfl⟩
    obtain ⟨fy, hfy⟩ : ∃ n, n = (tnum B forever).isSome := ⟨_, rfl⟩
    obtain ⟨q, hq⟩ : ∃ n, n = (tnum C 4294967295).getD 0 := ⟨_, rfl⟩
    obtain ⟨fz, hfz⟩ : ∃ n, n = (tnum C 4294967295).isSome := ⟨_, rfl⟩
    rw [← hn, ← hm, ← hfx, ← ht, ← hfy, ← hq, ← hfz] at hfl
    rw [← hn, ← hm, ← hfx] at HPA
    rw [← ht, ← hfy] at HTB
    rw [← hq, ← hfz] at HTC
    rw [← hq] at hqb
    rw [← hn, ← hfx] at hnm
    rw [← hn, ← hm] at hnm0
    have hwq : IntKind.u32.wrap (q : Int) = (q : Int) := by rw [IntKind.wrap_u32]; omega
    clear hn hm hfx ht hfy hq hfz hAl hRl hBl hCl hqb
    have HNM := Lib.hid hnm0
    cases hok : (F && (G && (fx && (fy && (fz && decide (0 < n))))))
    case false =>
      have HN : Hid (RdocN s = ((0, 0, 0, 0), 130)) := by rw [Hid, e, hfl, hok]; rfl
      have hcase : (F = false ∨ (F = true ∧ G = false) ∨ (F = true ∧ G = true ∧ fx = false) ∨ (F = true ∧ G = true ∧ fx = true ∧ fy = false) ∨ (F = true ∧ G = true ∧ fx = true ∧ fy = true ∧ fz = false)) ∨ (F = true ∧ G = true ∧ fx = true ∧ fy = true ∧ fz = true ∧ n = 0) := by
        revert hok
        cases F <;> cases G <;> cases fx <;> cases fy <;> cases fz <;> simp
      rw [HN.out]
      clear hok e hfl hnm hnm0
      rcases hcase with (rfl | ⟨rfl, rfl⟩ | ⟨rfl, rfl, rfl⟩ | ⟨rfl, rfl, rfl, rfl⟩ | ⟨rfl, rfl, rfl, rfl, rfl⟩) | ⟨rfl, rfl, rfl, rfl, rfl, rfl⟩
      case inr =>
        obtain rfl : m = 0 := HNM.out rfl
        go_enter Tryd.func29, Tryd.ntmps29
        go_wp2_with fail
        rw [← HW.out]
        refine (H1.out _).mono ?_
        rintro e w1 ⟨rfl, hb1⟩
        have B1 := Lib.hid hb1
        clear hb1
        go_wp2_with fail
        refine (H2.out _).mono ?_
        rintro e w2 ⟨rfl, hb2⟩
        have B2 := Lib.hid (below_on B1.out hb2)
        clear hb2
        go_wp2_with fail
        refine (HPA.out _).mono ?_
        rintro e w3 ⟨rfl, hb3⟩
        have B3 := Lib.hid (below_on B2.out hb3)
        clear hb3
        have hz3 := B3.out.size
        have x0 : (w3.alloc (.cells #[.int .u32 0, .int .u32 0] 24)).cell? ⟨w3.heap.size, 0, none⟩ = some (.int .u32 0) := by simp
        go_wp2_with fail
        refine (HTB.out _).mono ?_
        rintro e w4 ⟨rfl, rfl⟩
        go_wp2_with fail
        refine (HTC.out _).mono ?_
        rintro e w5 ⟨rfl, rfl⟩
        go_wp2_with fail
        refine (nobody_yes _).mono ?_
        rintro e w6 ⟨rfl, hb6⟩
        have B6 := Lib.hid (below_on (below_al B3.out (.cells #[.int .u32 0, .int .u32 0] 24)) hb6)
        clear hb6
        obtain ⟨⟨c0, c1, c2, c3⟩, cf⟩ := HC.out w6 (B6.out)
        obtain ⟨e0, e1, e2, e3⟩ := put4r 0 0 0 0 c0 c1 c2 c3
        have f0 := cf 0
        have f1 := cf 1
        have f2 := cf 2
        have f3 := cf 3
        clear cf
        clear x0
        go_wp2
        refine bodyPost_ret (v := .tuple #[.agg #[.int .u32 0, .int .u32 0, .int .u64 0, .int .u32 0], .int .i64 130]) (by simp [results, Tryd.results29, go_sem, e0, e1, e2, e3]) rfl ⟨rfl, ?_⟩
        exact ((((below_on HB.out B6.out).setCell (p := ⟨w.heap.size, 0, none⟩) (Nat.le_refl _) _).setCell (p := ⟨w.heap.size, 1, none⟩) (Nat.le_refl _) _).setCell (p := ⟨w.heap.size, 2, none⟩) (Nat.le_refl _) _).setCell (p := ⟨w.heap.size, 3, none⟩) (Nat.le_refl _) _
      all_goals
        go_enter Tryd.func29, Tryd.ntmps29
        go_wp2_with fail
        rw [← HW.out]
        refine (H1.out _).mono ?_
        rintro e w1 ⟨rfl, hb1⟩
        have B1 := Lib.hid hb1
        clear hb1
        go_wp2_with fail
        refine (H2.out _).mono ?_
        rintro e w2 ⟨rfl, hb2⟩
        have B2 := Lib.hid (below_on B1.out hb2)
        clear hb2
        go_wp2_with fail
        refine (HPA.out _).mono ?_
        rintro e w3 ⟨rfl, hb3⟩
        have B3 := Lib.hid (below_on B2.out hb3)
        clear hb3
        have hz3 := B3.out.size
        go_wp2_with fail
        refine (HTB.out _).mono ?_
        rintro e w4 ⟨rfl, rfl⟩
        go_wp2_with fail
        refine (HTC.out _).mono ?_
        rintro e w5 ⟨rfl, rfl⟩
        obtain ⟨⟨c0, c1, c2, c3⟩, cf⟩ := HC.out (w3.alloc (.cells #[.int .u32 n, .int .u32 m] 24)) (below_al B3.out _)
        obtain ⟨e0, e1, e2, e3⟩ := put4r 0 0 0 0 c0 c1 c2 c3
        have f0 := cf 0
        have f1 := cf 1
        have f2 := cf 2
        have f3 := cf 3
        clear cf
        go_wp2
        refine bodyPost_ret (v := .tuple #[.agg #[.int .u32 0, .int .u32 0, .int .u64 0, .int .u32 0], .int .i64 130]) (by simp [results, Tryd.results29, go_sem, e0, e1, e2, e3]) rfl ⟨rfl, ?_⟩
        exact ((((below_on HB.out (below_al B3.out _)).setCell (p := ⟨w.heap.size, 0, none⟩) (Nat.le_refl _) _).setCell (p := ⟨w.heap.size, 1, none⟩) (Nat.le_refl _) _).setCell (p := ⟨w.heap.size, 2, none⟩) (Nat.le_refl _) _).setCell (p := ⟨w.heap.size, 3, none⟩) (Nat.le_refl _) _
    case true =>
      have hcase : F = true ∧ G = true ∧ fx = true ∧ fy = true ∧ fz = true ∧ 0 < n := by
        revert hok
        cases F <;> cases G <;> cases fx <;> cases fy <;> cases fz <;> simp
      have HN : Hid (RdocN s = ((n, m, t, q), 0)) := by rw [Hid, e, hfl, hok]; rfl
      rw [HN.out]
      clear hok e hfl hnm hnm0
      obtain ⟨rfl, rfl, rfl, rfl, rfl, hn0⟩ := hcase
      have HNB := Lib.hid (fun w => nobody_no (n : Int) m (by omega) w)
      go_enter Tryd.func29, Tryd.ntmps29
      go_wp2_with fail
      rw [← HW.out]
      refine (H1.out _).mono ?_
      rintro e w1 ⟨rfl, hb1⟩
      have B1 := Lib.hid hb1
      clear hb1
      go_wp2_with fail
      refine (H2.out _).mono ?_
      rintro e w2 ⟨rfl, hb2⟩
      have B2 := Lib.hid (below_on B1.out hb2)
      clear hb2
      go_wp2_with fail
      refine (HPA.out _).mono ?_
      rintro e w3 ⟨rfl, hb3⟩
      have B3 := Lib.hid (below_on B2.out hb3)
      clear hb3
      have hz3 := B3.out.size
      go_wp2_with fail
      refine (HTB.out _).mono ?_
      rintro e w4 ⟨rfl, rfl⟩
      go_wp2_with fail
      refine (HTC.out _).mono ?_
      rintro e w5 ⟨rfl, rfl⟩
      go_wp2_with fail
      refine (HNB.out _).mono ?_
      rintro e w6 ⟨rfl, hb6⟩
      have B6 := Lib.hid (below_on (below_al B3.out (.cells #[.int .u32 (n : Int), .int .u32 (m : Int)] 24)) hb6)
      have y0 : w6.cell? ⟨w3.heap.size, 0, none⟩ = some (.int .u32 n) := (hb6.cell (p := ⟨w3.heap.size, 0, none⟩) (by simp)).trans (by simp)
      have y1 : w6.cell? ⟨w3.heap.size, 1, none⟩ = some (.int .u32 m) := (hb6.cell (p := ⟨w3.heap.size, 1, none⟩) (by simp)).trans (by simp)
      clear hb6
      obtain ⟨⟨c0, c1, c2, c3⟩, cf⟩ := HC.out w6 (B6.out)
      obtain ⟨e0, e1, e2, e3⟩ := put4r n m t q c0 c1 c2 c3
      have f0 := cf 0
      have f1 := cf 1
      have f2 := cf 2
      have f3 := cf 3
      clear cf
      go_wp2
      refine bodyPost_ret (v := .tuple #[.agg #[.int .u32 n, .int .u32 m, .int .u64 t, .int .u32 q], .int .i64 0]) (by simp [results, Tryd.results29, go_sem, e0, e1, e2, e3]) rfl ⟨rfl, ?_⟩
      exact ((((below_on HB.out B6.out).setCell (p := ⟨w.heap.size, 0, none⟩) (Nat.le_refl _) _).setCell (p := ⟨w.heap.size, 1, none⟩) (Nat.le_refl _) _).setCell (p := ⟨w.heap.size, 2, none⟩) (Nat.le_refl _) _).setCell (p := ⟨w.heap.size, 3, none⟩) (Nat.le_refl _) _

end Go.Proofs.YtakigkhjijkkhaaDoor
