/- The document's endpoint and name of a text. -/
import Derived.Test.YtakigkhjijkkhaaDoorNmR1
import Derived.Test.YtakigkhjijkkhaaDoorNmF
import Derived.Test.YtakigkhjijkkhaaDoorNmG
namespace Go.Proofs.YtakigkhjijkkhaaDoor
open Go Go.RowKit Go.Shelf
set_option linter.unusedSimpArgs false
set_option linter.unusedVariables false

/-- What parse answers. -/
def RpP (s : List UInt8) (w : World) (e : Ending) (w' : World) : Prop :=
  Below w.heap.size w w' ∧ match epR s with
    | some (n, m) => e = .returned (.tuple #[.agg #[.int .u32 n, .int .u32 m], .bool true])
    | none => e = .returned (.tuple #[.agg #[.int .u32 0, .int .u32 0], .bool false])

theorem rpP_no {s : List UInt8} {w w' : World} (hb : Below w.heap.size w w') (h : epR s = none) : RpP s w (.returned (.tuple #[.agg #[.int .u32 0, .int .u32 0], .bool false])) w' := ⟨hb, by rw [h]⟩
theorem rpP_yes {s : List UInt8} {n m : Nat} {w w' : World} (hb : Below w.heap.size w w') (h : epR s = some (n, m)) : RpP s w (.returned (.tuple #[.agg #[.int .u32 n, .int .u32 m], .bool true])) w' := ⟨hb, by rw [h]⟩

theorem epR_ipn {s : List UInt8} (h1 : s ≠ wDtn ++ 58 :: wNone) (h2 : 4 ≤ s.length) (h3 : s.take 4 = wIpn ++ [58]) : epR s = if (cutD 46 (s.drop 4)).2.2 = true then (match tnum (cutD 46 (s.drop 4)).1 4294967295, tnum (cutD 46 (s.drop 4)).2.1 4294967295 with
      | some n, some m => if n = 0 then none else some (n, m)
      | _, _ => none) else none := by
  rw [epR, if_neg h1, if_neg (by simp only [not_or, ne_eq, Classical.not_not]; exact ⟨by omega, h3⟩)]
  unfold cutD
  cases cutL 46 (s.drop 4) with
  | none => rfl
  | some p => rfl

theorem put2r {w : World} {b : Nat} (v0 v1 : Int) (h0 : w.cell? ⟨b, 0, none⟩ = some (.int .u32 0)) (h1 : w.cell? ⟨b, 1, none⟩ = some (.int .u32 0)) :
    ((w.setCell ⟨b, 0, none⟩ (.int .u32 v0)).setCell ⟨b, 1, none⟩ (.int .u32 v1)).cell? ⟨b, 0, none⟩ = some (.int .u32 v0) ∧ ((w.setCell ⟨b, 0, none⟩ (.int .u32 v0)).setCell ⟨b, 1, none⟩ (.int .u32 v1)).cell? ⟨b, 1, none⟩ = some (.int .u32 v1) := put2 _ _ h0 h1

set_option maxRecDepth 100000 in
set_option maxHeartbeats 4000000 in
theorem refParse_any (s : List UInt8) (hs : s.length ≤ 140737488355328) (w : World) :
    Calls Tryd.prog 54 #[.string ⟨s.toArray⟩] w (RpP s w) := by
  have hsz : (⟨s.toArray⟩ : ByteArray).size = s.length := by simp [ByteArray.size]
  obtain ⟨W, hW⟩ : ∃ W, W = w.alloc (.cells #[.int .u32 0, .int .u32 0] 24) := ⟨_, rfl⟩
  have hbW : Below w.heap.size w W := by rw [hW]; exact below_al (Below.refl _ _) _
  have hsW : W.heap.size = w.heap.size + 1 := by rw [hW]; simp
  have HC : Hid (∀ w', Below W.heap.size W w' → (w'.cell? ⟨w.heap.size, 0, none⟩ = some (.int .u32 0) ∧ w'.cell? ⟨w.heap.size, 1, none⟩ = some (.int .u32 0)) ∧ (w'.frozen? ⟨w.heap.size, 0, none⟩ = false ∧ w'.frozen? ⟨w.heap.size, 1, none⟩ = false)) := fun w' hb => by
    have hh : ∀ i, w'.cell? ⟨w.heap.size, i, none⟩ = W.cell? ⟨w.heap.size, i, none⟩ := fun i => hb.cell (p := ⟨w.heap.size, i, none⟩) (show w.heap.size < _ by omega)
    have hf : ∀ i, w'.frozen? ⟨w.heap.size, i, none⟩ = W.frozen? ⟨w.heap.size, i, none⟩ := fun i => hb.frozen (p := ⟨w.heap.size, i, none⟩) (show w.heap.size < _ by omega)
    exact ⟨⟨(hh 0).trans (by rw [hW]; simp), (hh 1).trans (by rw [hW]; simp)⟩, (hf 0).trans (by rw [hW]; simp), (hf 1).trans (by rw [hW]; simp)⟩
  have HB := Lib.hid hbW
  have HW := Lib.hid hW
  have HSW := Lib.hid hsW
  have HFr := Lib.hid (run_from s hs)
  have HTo := Lib.hid (run_to s hs)
  clear hW hbW hsW
  by_cases h1 : s = wDtn ++ 58 :: wNone
  · have HN : Hid (epR s = some (0, 0)) := by rw [Hid, epR, if_pos h1]
    have hq : (s == [100, 116, 110, 58, 110, 111, 110, 101]) = true := by simpa [wDtn, wNone] using h1
    obtain ⟨⟨c0, c1⟩, f0, f1⟩ := HC.out W (Below.refl _ _)
    obtain ⟨e0, e1⟩ := put2r 0 0 c0 c1
    have q0 := c0
    have q1 := c1
    rw [HW.out] at c0 c1 f0 f1
    clear h1 hsz
    go_enter Tryd.func54, Tryd.ntmps54
    go_wp2
    try rw [← HW.out]
    refine bodyPost_ret (v := .tuple #[.agg #[.int .u32 0, .int .u32 0], .bool true]) (by simp [results, Tryd.results54, go_sem, q0, q1, e0, e1]) rfl (rpP_yes (n := 0) (m := 0) ?_ HN.out)
    first | exact (HB.out.setCell (p := ⟨w.heap.size, 0, none⟩) (Nat.le_refl _) _).setCell (p := ⟨w.heap.size, 1, none⟩) (Nat.le_refl _) _ | exact HB.out
  have hq : (s == [100, 116, 110, 58, 110, 111, 110, 101]) = false := by simpa [wDtn, wNone] using h1
  by_cases h2 : s.length < 4
  · have HN : Hid (epR s = none) := by rw [Hid, epR, if_neg h1, if_pos (.inl h2)]
    have h2' : (s.length : Int) < 4 := by omega
    obtain ⟨⟨c0, c1⟩, f0, f1⟩ := HC.out W (Below.refl _ _)
    obtain ⟨e0, e1⟩ := put2r 0 0 c0 c1
    have q0 := c0
    have q1 := c1
    rw [HW.out] at c0 c1 f0 f1
    clear h1 h2
    go_enter Tryd.func54, Tryd.ntmps54
    go_wp2
    try rw [← HW.out]
    refine bodyPost_ret (v := .tuple #[.agg #[.int .u32 0, .int .u32 0], .bool false]) (by simp [results, Tryd.results54, go_sem, q0, q1, e0, e1]) rfl (rpP_no ?_ HN.out)
    first | exact (HB.out.setCell (p := ⟨w.heap.size, 0, none⟩) (Nat.le_refl _) _).setCell (p := ⟨w.heap.size, 1, none⟩) (Nat.le_refl _) _ | exact HB.out
  have h2' : ¬ (s.length : Int) < 4 := by omega
  have k4 : ∀ w, (Instr.slice 9 (.string ⟨s.toArray⟩) none (some (.int .i64 4)) none).run Tryd.prog w = .ok (.string ⟨(s.take 4).toArray⟩) w := by simpa using HTo.out 4 (by omega)
  have d4 : ∀ w, (Instr.slice 9 (.string ⟨s.toArray⟩) (some (.int .i64 4)) none none).run Tryd.prog w = .ok (.string ⟨(s.drop 4).toArray⟩) w := by simpa using HFr.out 4 (by omega)
  obtain ⟨P4, hP4⟩ : ∃ P, P = s.take 4 := ⟨_, rfl⟩
  obtain ⟨D4, hD4⟩ : ∃ P, P = s.drop 4 := ⟨_, rfl⟩
  have hDl : D4.length ≤ 140737488355328 := by rw [hD4, List.length_drop]; omega
  rw [← hP4] at k4
  rw [← hD4] at d4
  by_cases h3 : P4 = wIpn ++ [58]
  case neg =>
    have HN : Hid (epR s = none) := by rw [Hid, epR, if_neg h1, if_pos (.inr (by rw [← hP4]; exact h3))]
    have hq3 : (P4 == [105, 112, 110, 58]) = false := by simpa [wIpn] using h3
    obtain ⟨⟨c0, c1⟩, f0, f1⟩ := HC.out W (Below.refl _ _)
    obtain ⟨e0, e1⟩ := put2r 0 0 c0 c1
    have q0 := c0
    have q1 := c1
    rw [HW.out] at c0 c1 f0 f1
    clear h1 h2 h3 hP4 hD4 d4
    go_enter Tryd.func54, Tryd.ntmps54
    go_wp2
    try rw [← HW.out]
    refine bodyPost_ret (v := .tuple #[.agg #[.int .u32 0, .int .u32 0], .bool false]) (by simp [results, Tryd.results54, go_sem, q0, q1, e0, e1]) rfl (rpP_no ?_ HN.out)
    first | exact (HB.out.setCell (p := ⟨w.heap.size, 0, none⟩) (Nat.le_refl _) _).setCell (p := ⟨w.heap.size, 1, none⟩) (Nat.le_refl _) _ | exact HB.out
  have hq3 : (P4 == [105, 112, 110, 58]) = true := by simpa [wIpn] using h3
  have HE := Lib.hid (epR_ipn h1 (by omega) (by rw [← hP4]; exact h3))
  rw [← hD4] at HE
  obtain ⟨A, hA⟩ : ∃ A, A = (cutD 46 D4).1 := ⟨_, rfl⟩
  obtain ⟨B, hB⟩ : ∃ A, A = (cutD 46 D4).2.1 := ⟨_, rfl⟩
  obtain ⟨F, hF⟩ : ∃ A, A = (cutD 46 D4).2.2 := ⟨_, rfl⟩
  have hcl : A.length ≤ D4.length ∧ B.length ≤ D4.length := by
    rw [hA, hB, cutD]
    cases hc : cutL 46 D4 with
    | none => simp
    | some p => exact cut_len hc
  have HCUT : Hid (∀ w, Calls Tryd.prog 55 #[.string ⟨D4.toArray⟩, .int .u8 46] w fun e w' => e = .returned (.tuple #[.string ⟨A.toArray⟩, .string ⟨B.toArray⟩, .bool F]) ∧ Below w.heap.size w w') := fun w => by
    have h := cut_any 46 D4 hDl w
    unfold CutP at h
    rw [← hA, ← hB, ← hF] at h
    exact h
  rw [← hA, ← hB, ← hF] at HE
  obtain ⟨x, hx⟩ : ∃ x, x = tnum A 4294967295 := ⟨_, rfl⟩
  obtain ⟨y, hy⟩ : ∃ x, x = tnum B 4294967295 := ⟨_, rfl⟩
  have HTA : Hid (∀ w, Calls Tryd.prog 56 #[.string ⟨A.toArray⟩, .int .u64 4294967295] w fun e w' => e = .returned (.tuple #[.int .u64 (x.getD 0), .bool x.isSome]) ∧ w' = w) := fun w => by
    have h := toNumber_any A (by omega) 4294967295 (by decide) w
    unfold ToP at h
    rw [← hx] at h
    exact h
  have HTB : Hid (∀ w, Calls Tryd.prog 56 #[.string ⟨B.toArray⟩, .int .u64 4294967295] w fun e w' => e = .returned (.tuple #[.int .u64 (y.getD 0), .bool y.isSome]) ∧ w' = w) := fun w => by
    have h := toNumber_any B (by omega) 4294967295 (by decide) w
    unfold ToP at h
    rw [← hy] at h
    exact h
  rw [← hx, ← hy] at HE
  have hxb : x.getD 0 ≤ 4294967295 := by
    rw [hx]
    cases ht : tnum A 4294967295 with
    | none => simp
    | some n => exact ((tnum_iff (by decide)).1 ht).2
  have hyb : y.getD 0 ≤ 4294967295 := by
    rw [hy]
    cases ht : tnum B 4294967295 with
    | none => simp
    | some n => exact ((tnum_iff (by decide)).1 ht).2
  clear h1 h2 h3 hP4 hD4 hA hB hF hx hy hcl hDl hsz
  obtain ⟨n, hn⟩ : ∃ n, n = x.getD 0 := ⟨_, rfl⟩
  obtain ⟨m, hm⟩ : ∃ n, n = y.getD 0 := ⟨_, rfl⟩
  obtain ⟨fx, hfx⟩ : ∃ n, n = x.isSome := ⟨_, rfl⟩
  obtain ⟨fy, hfy⟩ : ∃ n, n = y.isSome := ⟨_, rfl⟩
  rw [← hn] at HTA hxb
  rw [← hm] at HTB hyb
  rw [← hfx] at HTA
  rw [← hfy] at HTB
  have HRES : Hid (epR s = if (F && (fx && (fy && decide (0 < n)))) = true then some (n, m) else none) := by
    rw [Hid, HE.out, hn, hm, hfx, hfy]
    cases F <;> cases x <;> cases y <;> simp
    rename_i u v
    by_cases hu : u = 0
    · simp [hu]
    · simp [hu] <;> omega
  have hwn : IntKind.u32.wrap (n : Int) = (n : Int) := by rw [IntKind.wrap_u32]; omega
  have hwm : IntKind.u32.wrap (m : Int) = (m : Int) := by rw [IntKind.wrap_u32]; omega
  clear hn hm hfx hfy HE hxb hyb
  cases hok : (F && (fx && (fy && decide (0 < n))))
  case false =>
    have HN : Hid (epR s = none) := by rw [Hid, HRES.out, hok]; rfl
    have hcase : F = false ∨ (F = true ∧ fx = false) ∨ (F = true ∧ fx = true ∧ fy = false) ∨ (F = true ∧ fx = true ∧ fy = true ∧ n = 0) := by
      revert hok
      cases F <;> cases fx <;> cases fy <;> simp
    clear hok HRES
    rcases hcase with rfl | ⟨rfl, rfl⟩ | ⟨rfl, rfl, rfl⟩ | ⟨rfl, rfl, rfl, rfl⟩
    all_goals
      go_enter Tryd.func54, Tryd.ntmps54
      go_wp2_with fail
      rw [← HW.out]
      refine (HCUT.out _).mono ?_
      rintro e w1 ⟨rfl, hb1⟩
      have HB1 := Lib.hid (below_on HB.out hb1)
      obtain ⟨⟨c0, c1⟩, f0, f1⟩ := HC.out w1 hb1
      obtain ⟨e0, e1⟩ := put2r 0 0 c0 c1
      clear hb1
      go_wp2_with fail
      refine (HTA.out _).mono ?_
      rintro e w2 ⟨rfl, rfl⟩
      go_wp2_with fail
      refine (HTB.out _).mono ?_
      rintro e w2 ⟨rfl, rfl⟩
      go_wp2
      refine bodyPost_ret (v := .tuple #[.agg #[.int .u32 0, .int .u32 0], .bool false]) (by simp [results, Tryd.results54, go_sem, e0, e1]) rfl (rpP_no ?_ HN.out)
      exact (HB1.out.setCell (p := ⟨w.heap.size, 0, none⟩) (Nat.le_refl _) _).setCell (p := ⟨w.heap.size, 1, none⟩) (Nat.le_refl _) _
  case true =>
    have HN : Hid (epR s = some (n, m)) := by rw [Hid, HRES.out, hok]; rfl
    have hcase : F = true ∧ fx = true ∧ fy = true ∧ 0 < n := by
      revert hok
      cases F <;> cases fx <;> cases fy <;> simp
    clear hok HRES
    obtain ⟨rfl, rfl, rfl, hn0⟩ := hcase
    have hn1 : ((n : Int) == 0) = false := by simp; omega
    have hn2 : ¬ (n : Int) = 0 := by omega
    have hn3 : ¬ n = 0 := by omega
    go_enter Tryd.func54, Tryd.ntmps54
    go_wp2_with fail
    rw [← HW.out]
    refine (HCUT.out _).mono ?_
    rintro e w1 ⟨rfl, hb1⟩
    have HB1 := Lib.hid (below_on HB.out hb1)
    obtain ⟨⟨c0, c1⟩, f0, f1⟩ := HC.out w1 hb1
    obtain ⟨e0, e1⟩ := put2r n m c0 c1
    clear hb1
    go_wp2_with fail
    refine (HTA.out _).mono ?_
    rintro e w2 ⟨rfl, rfl⟩
    go_wp2_with fail
    refine (HTB.out _).mono ?_
    rintro e w2 ⟨rfl, rfl⟩
    go_wp2
    refine bodyPost_ret (v := .tuple #[.agg #[.int .u32 n, .int .u32 m], .bool true]) (by simp [results, Tryd.results54, go_sem, e0, e1]) rfl (rpP_yes ?_ HN.out)
    exact (HB1.out.setCell (p := ⟨w.heap.size, 0, none⟩) (Nat.le_refl _) _).setCell (p := ⟨w.heap.size, 1, none⟩) (Nat.le_refl _) _

theorem nobody_no (n m : Int) (h : 0 < n) (w : World) : Calls Tryd.prog 45 #[.agg #[.int .u32 n, .int .u32 m]] w fun e w' => e = .returned (.bool false) ∧ Below w.heap.size w w' := by
  have h3 : (n == 0) = false := by simp; omega
  have h4 : ¬ n = 0 := by omega
  go_enter Tryd.func45, Tryd.ntmps45
  go_wp2
  all_goals first | (go_ret; exact ⟨rfl, below_al (Below.refl _ _) _⟩) | (exfalso; omega)

theorem nobody_yes (w : World) : Calls Tryd.prog 45 #[.agg #[.int .u32 0, .int .u32 0]] w fun e w' => e = .returned (.bool true) ∧ Below w.heap.size w w' := by
  go_enter Tryd.func45, Tryd.ntmps45
  go_wp2
  go_ret
  exact ⟨rfl, below_al (Below.refl _ _) _⟩

/-- What the document's Parse answers. -/
def RdocE (s : List UInt8) : Nat × Nat × Int := if 100 < s.length then (0, 0, 3) else match epR s with
    | some (n, m) => (n, m, 0)
    | none => (0, 0, 130)

set_option maxRecDepth 100000 in
set_option maxHeartbeats 4000000 in
theorem refParseE_any (s : List UInt8) (hs : s.length ≤ 140737488355328) (w : World) :
    Calls Tryd.prog 28 #[.string ⟨s.toArray⟩] w fun e w' => e = .returned (.tuple #[.agg #[.int .u32 (RdocE s).1, .int .u32 (RdocE s).2.1], .int .i64 (RdocE s).2.2]) ∧ Below w.heap.size w w' := by
  have hsz : (⟨s.toArray⟩ : ByteArray).size = s.length := by simp [ByteArray.size]
  obtain ⟨W, hW⟩ : ∃ W, W = w.alloc (.cells #[.int .u32 0, .int .u32 0] 24) := ⟨_, rfl⟩
  have hbW : Below w.heap.size w W := by rw [hW]; exact below_al (Below.refl _ _) _
  have hsW : W.heap.size = w.heap.size + 1 := by rw [hW]; simp
  have HC : Hid (∀ w', Below W.heap.size W w' → (w'.cell? ⟨w.heap.size, 0, none⟩ = some (.int .u32 0) ∧ w'.cell? ⟨w.heap.size, 1, none⟩ = some (.int .u32 0)) ∧ (w'.frozen? ⟨w.heap.size, 0, none⟩ = false ∧ w'.frozen? ⟨w.heap.size, 1, none⟩ = false)) := fun w' hb => by
    have hh : ∀ i, w'.cell? ⟨w.heap.size, i, none⟩ = W.cell? ⟨w.heap.size, i, none⟩ := fun i => hb.cell (p := ⟨w.heap.size, i, none⟩) (show w.heap.size < _ by omega)
    have hf : ∀ i, w'.frozen? ⟨w.heap.size, i, none⟩ = W.frozen? ⟨w.heap.size, i, none⟩ := fun i => hb.frozen (p := ⟨w.heap.size, i, none⟩) (show w.heap.size < _ by omega)
    exact ⟨⟨(hh 0).trans (by rw [hW]; simp), (hh 1).trans (by rw [hW]; simp)⟩, (hf 0).trans (by rw [hW]; simp), (hf 1).trans (by rw [hW]; simp)⟩
  have HB := Lib.hid hbW
  have HW := Lib.hid hW
  have hzw : w.heap.size < W.heap.size := by omega
  clear hW hbW
  by_cases hl : 100 < s.length
  · have e : RdocE s = (0, 0, 3) := if_pos hl
    rw [e]
    have hl' : (100 : Int) < (s.length : Int) := by omega
    obtain ⟨⟨c0, c1⟩, f0, f1⟩ := HC.out W (Below.refl _ _)
    obtain ⟨e0, e1⟩ := put2r 0 0 c0 c1
    have q0 := c0
    have q1 := c1
    rw [HW.out] at c0 c1 f0 f1
    clear hl e
    go_enter Tryd.func28, Tryd.ntmps28
    go_wp2
    try rw [← HW.out]
    refine bodyPost_ret (v := .tuple #[.agg #[.int .u32 0, .int .u32 0], .int .i64 3]) (by simp [results, Tryd.results28, go_sem, q0, q1, e0, e1]) rfl ⟨rfl, ?_⟩
    first | exact (HB.out.setCell (p := ⟨w.heap.size, 0, none⟩) (Nat.le_refl _) _).setCell (p := ⟨w.heap.size, 1, none⟩) (Nat.le_refl _) _ | exact HB.out
  · have e : RdocE s = match epR s with | some (n, m) => (n, m, 0) | none => (0, 0, 130) := if_neg hl
    have hl' : ¬ (100 : Int) < (s.length : Int) := by omega
    have HP := Lib.hid (refParse_any s hs W)
    clear hl
    cases hr : epR s with
    | none =>
      rw [hr] at e
      rw [e]
      have HP2 : Hid (Calls Tryd.prog 54 #[.string ⟨s.toArray⟩] W fun e w' => e = .returned (.tuple #[.agg #[.int .u32 0, .int .u32 0], .bool false]) ∧ Below W.heap.size W w') := HP.out.mono fun e w' h => by
        have h2 := h.2
        rw [hr] at h2
        exact ⟨h2, h.1⟩
      clear hr e HP
      go_enter Tryd.func28, Tryd.ntmps28
      go_wp2_with fail
      rw [← HW.out]
      refine HP2.out.mono ?_
      rintro e w1 ⟨rfl, hb1⟩
      have hz1 := hb1.size
      have HB1 := Lib.hid (below_on HB.out hb1)
      obtain ⟨⟨c0, c1⟩, f0, f1⟩ := HC.out (w1.alloc (.cells #[.int .u32 0, .int .u32 0] 24)) (below_al hb1 _)
      obtain ⟨e0, e1⟩ := put2r 0 0 c0 c1
      clear hb1
      go_wp2
      refine bodyPost_ret (v := .tuple #[.agg #[.int .u32 0, .int .u32 0], .int .i64 130]) (by simp [results, Tryd.results28, go_sem, e0, e1]) rfl ⟨rfl, ?_⟩
      exact ((below_al HB1.out _).setCell (p := ⟨w.heap.size, 0, none⟩) (Nat.le_refl _) _).setCell (p := ⟨w.heap.size, 1, none⟩) (Nat.le_refl _) _
    | some p =>
      obtain ⟨n, m⟩ := p
      rw [hr] at e
      rw [e]
      have HP2 : Hid (Calls Tryd.prog 54 #[.string ⟨s.toArray⟩] W fun e w' => e = .returned (.tuple #[.agg #[.int .u32 n, .int .u32 m], .bool true]) ∧ Below W.heap.size W w') := HP.out.mono fun e w' h => by
        have h2 := h.2
        rw [hr] at h2
        exact ⟨h2, h.1⟩
      clear hr e HP
      go_enter Tryd.func28, Tryd.ntmps28
      go_wp2_with fail
      rw [← HW.out]
      refine HP2.out.mono ?_
      rintro e w1 ⟨rfl, hb1⟩
      have hz1 := hb1.size
      have HB1 := Lib.hid (below_on HB.out hb1)
      obtain ⟨⟨c0, c1⟩, f0, f1⟩ := HC.out (w1.alloc (.cells #[.int .u32 n, .int .u32 m] 24)) (below_al hb1 _)
      obtain ⟨e0, e1⟩ := put2r n m c0 c1
      clear hb1
      go_wp2
      refine bodyPost_ret (v := .tuple #[.agg #[.int .u32 n, .int .u32 m], .int .i64 0]) (by simp [results, Tryd.results28, go_sem, e0, e1]) rfl ⟨rfl, ?_⟩
      exact ((below_al HB1.out _).setCell (p := ⟨w.heap.size, 0, none⟩) (Nat.le_refl _) _).setCell (p := ⟨w.heap.size, 1, none⟩) (Nat.le_refl _) _

end Go.Proofs.YtakigkhjijkkhaaDoor
