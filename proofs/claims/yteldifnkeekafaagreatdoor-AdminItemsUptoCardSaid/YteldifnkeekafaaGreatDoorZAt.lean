/- Joined texts. -/
import Derived.Test.YteldifnkeekafaaGreatDoorZAr
set_option linter.unusedSimpArgs false
set_option linter.unusedVariables false
set_option maxRecDepth 100000
namespace Go.Proofs.YteldifnkeekafaaGreatDoor
open Go Go.RowKit Go.Shelf

theorem tkU_int (lo hi : Nat) (n : Int) (r : List It) : tkU lo hi (itU n :: r) = if (lo : Int) ≤ n ∧ n ≤ (hi : Int) then some (n.toNat, r) else none := by
 simp [tkU, itU, It.k, It.n]
theorem tkU_nat (lo hi n : Nat) (r : List It) : tkU lo hi (itU (n : Int) :: r) = if lo ≤ n ∧ n ≤ hi then some (n, r) else none := by
 rw [tkU_int]
 simp only [Int.ofNat_le, Int.toNat_natCast]
theorem tkT_nat (n : Nat) (r : List It) : tkT (itU (n : Int) :: r) = if n ≤ 4611686018427387903 then some (n, r) else none := by
 rw [tkT, tkU_nat]
 by_cases h : n ≤ 18446744073709551615
 ·rw [if_pos ⟨by omega, h⟩]
  by_cases h2 : n ≤ 4611686018427387903
  ·rw [if_pos h2]
   simp only
   rw [if_pos (by simp [isT]; omega)]
  ·rw [if_neg h2]
   simp only
   rw [if_neg (by simp [isT]; omega)]
 ·rw [if_neg (by omega), if_neg (by omega)]
theorem tkB_bo (q : Bool) (r : List It) : tkB (boI q :: r) = some (q, r) := by cases q <;> rfl
theorem tkN_it (x : NmT) (hx : x.ok) (r : List It) : tkN (x.it :: r) = if x.may = true then some ((x.n, x.m, x.t, x.q), r) else none := by
 by_cases h : x.may = true
 ·rw [if_pos h]
  have e : x.it = itN x.n x.m x.t x.q := by rw [NmT.it, if_pos h]
  have hm := NmT.may_iff.1 h
  rw [tkN, e, nmI_itN x.n x.m x.t x.q hm.1 hx.1.1 hx.1.2 hm.2 hx.2.2]
 ·rw [if_neg h]
  have e : x.it = .mk 0 0 [] [] [] := by rw [NmT.it, if_neg h]
  rw [tkN, e]
  rfl

theorem isSome_if (c : Prop) [Decidable c] {α : Type} (x : α) : (if c then some x else none).isSome = decide c := by
 by_cases h : c <;> simp [h]

theorem wrap_small (k : Nat) (h : k ≤ 5) : IntKind.u64.wrap (k : Int) = k := by
 rw [IntKind.wrap_u64]
 omega

theorem right_of (r : Rc) (k : Nat) (c : Bool) (hk : r.k = k) (h1 : 1 ≤ k) (h5 : k ≤ 5) (L : rdR (layR k r) = if c = true then some (bareR k r) else none)
  (hc : r = bareR k r → c = (decide (r.no ≤ 4294967295) && (decide (r.at0 ≤ 4611686018427387903) && (decide (r.un ≤ 4611686018427387903) && tailR r.k r)))) : (itemR r).isSome = rightR r := by
 have hkn : r.k.toNat = k := by omega
 rw [itemR, if_pos ⟨by omega, by omega⟩, hkn, isSome_if, rightR, decide_eq_true (by omega : 1 ≤ r.k), decide_eq_true (by omega : r.k ≤ 5), rightRc, hkn]
 simp only [Bool.true_and]
 cases hs : sameRc r (bareR k r) with
 | true =>
  have e := (sameRc_iff _ _).1 hs
  rw [L, ← hc e]
  cases c
  ·simp
  ·simp only [if_true, Bool.true_and]
   rw [← e]
   simp
 | false =>
  have e : r ≠ bareR k r := fun e => by rw [(sameRc_iff _ _).2 e] at hs; cases hs
  rw [L]
  cases c
  ·simp
  ·simp only [if_true, Bool.false_and]
   exact decide_eq_false fun h => e (by injection h with h; exact h.symm)

theorem right2 (r : Rc) (hk : r.k = 2) (hok : r.ok) : (itemR r).isSome = rightR r := by
 obtain ⟨k, n, m, t, q, wh, wy, at0, no, nd, rg, ys, fr, un, lv⟩ := r
 dsimp only at hk
 subst hk
 have hnd := hok.nd
 have hrg := hok.rg
 dsimp only at hnd hrg
 refine right_of _ 2 (decide (no ≤ 4294967295) && (decide (0 < nd) && decide (0 < rg))) rfl (by omega) (by omega) ?_ ?_
 ·have e : (layR 2 ⟨2, n, m, t, q, wh, wy, at0, no, nd, rg, ys, fr, un, lv⟩).l = [itU ((2 : Nat) : Int), itU no, itU nd, itU rg] := by
    show [itU (IntKind.u64.wrap ((2 : Nat) : Int)), itU no, itU nd, itU rg] = _
    rw [wrap_small 2 (by omega)]
  rw [rdR, e, tkU_nat, if_pos ⟨by omega, by omega⟩]
  simp only [Option.bind_some, rdKind]
  simp only [show ¬ (2 = 1) by omega, if_false, if_true, rdAsk]
  rw [tkU_nat]
  by_cases h1 : no ≤ 4294967295
  ·rw [if_pos ⟨by omega, h1⟩]
   simp only [Option.bind_some]
   rw [tkU_nat]
   by_cases h2 : 0 < nd
   ·rw [if_pos ⟨by omega, by omega⟩]
    simp only [Option.bind_some]
    rw [tkU_nat]
    by_cases h3 : 0 < rg
    ·rw [if_pos ⟨by omega, by omega⟩]
     simp [h1, h2, h3, Rc.withK, bareR]
    ·rw [if_neg (by omega)]
     simp [h3]
   ·rw [if_neg (by omega)]
    simp [h2]
  ·rw [if_neg (by omega)]
   simp [h1]
 ·intro e
  simp only [bareR, Rc.mk.injEq] at e
  simp at e
  obtain ⟨rfl, rfl, rfl, rfl, rfl, rfl, rfl, rfl, rfl, rfl, rfl⟩ := e
  simp [tailR]

theorem right3 (r : Rc) (hk : r.k = 3) (hok : r.ok) : (itemR r).isSome = rightR r := by
 obtain ⟨k, n, m, t, q, wh, wy, at0, no, nd, rg, ys, fr, un, lv⟩ := r
 dsimp only at hk
 subst hk
 have hnd := hok.nd
 have hrg := hok.rg
 have hlv := hok.lv
 dsimp only at hnd hrg hlv
 refine right_of _ 3 (decide (no ≤ 4294967295) && (decide (0 < nd) && (decide (0 < rg) && decide (un ≤ 4611686018427387903)))) rfl (by omega) (by omega) ?_ ?_
 ·have e : (layR 3 ⟨3, n, m, t, q, wh, wy, at0, no, nd, rg, ys, fr, un, lv⟩).l = [itU ((3 : Nat) : Int), itU no, itU nd, itU rg, boI ys, itU un] := by
    show [itU (IntKind.u64.wrap ((3 : Nat) : Int)), itU no, itU nd, itU rg, boI ys, itU un] = _
    rw [wrap_small 3 (by omega)]
  rw [rdR, e, tkU_nat, if_pos ⟨by omega, by omega⟩]
  simp only [Option.bind_some, rdKind]
  simp only [show ¬ (3 = 1) by omega, show ¬ (3 = 2) by omega, if_false, if_true, rdTell]
  rw [tkU_nat]
  by_cases h0 : no ≤ 4294967295
  ·rw [if_pos (by omega)]
   simp only [Option.bind_some]
   rw [tkU_nat]
   by_cases h1 : 0 < nd
   ·rw [if_pos (by omega)]
    simp only [Option.bind_some]
    rw [tkU_nat]
    by_cases h2 : 0 < rg
    ·rw [if_pos (by omega)]
     simp only [Option.bind_some]
     rw [tkB_bo]
     simp only [Option.bind_some]
     rw [tkT_nat]
     by_cases h4 : un ≤ 4611686018427387903
     ·rw [if_pos (by omega)]
      simp only [Option.bind_some]
      simp [h0, h1, h2, h4, Rc.withK, bareR]
     ·rw [if_neg (by omega)]
      simp [h4]
    ·rw [if_neg (by omega)]
     simp [h2]
   ·rw [if_neg (by omega)]
    simp [h1]
  ·rw [if_neg (by omega)]
   simp [h0]
 ·intro e
  simp only [bareR, Rc.mk.injEq] at e
  simp at e
  obtain ⟨rfl, rfl, rfl, rfl, rfl, rfl, rfl, rfl, rfl⟩ := e
  simp [tailR]
  rw [Bool.eq_iff_iff]
  simp only [Bool.and_eq_true, decide_eq_true_eq]
  omega

theorem right4 (r : Rc) (hk : r.k = 4) (hok : r.ok) : (itemR r).isSome = rightR r := by
 obtain ⟨k, n, m, t, q, wh, wy, at0, no, nd, rg, ys, fr, un, lv⟩ := r
 dsimp only at hk
 subst hk
 have hnd := hok.nd
 have hrg := hok.rg
 have hlv := hok.lv
 dsimp only at hnd hrg hlv
 refine right_of _ 4 (decide (0 < nd) && (decide (fr ≤ 4611686018427387903) && (decide (un ≤ 4611686018427387903) && (decide (lv ≤ 3) && decide (fr ≤ un))))) rfl (by omega) (by omega) ?_ ?_
 ·have e : (layR 4 ⟨4, n, m, t, q, wh, wy, at0, no, nd, rg, ys, fr, un, lv⟩).l = [itU ((4 : Nat) : Int), itU nd, itU fr, itU un, itU lv] := by
    show [itU (IntKind.u64.wrap ((4 : Nat) : Int)), itU nd, itU fr, itU un, itU lv] = _
    rw [wrap_small 4 (by omega)]
  rw [rdR, e, tkU_nat, if_pos ⟨by omega, by omega⟩]
  simp only [Option.bind_some, rdKind]
  simp only [show ¬ (4 = 1) by omega, show ¬ (4 = 2) by omega, show ¬ (4 = 3) by omega, if_false, if_true, rdFore]
  rw [tkU_nat]
  by_cases h0 : 0 < nd
  ·rw [if_pos (by omega)]
   simp only [Option.bind_some]
   rw [tkT_nat]
   by_cases h1 : fr ≤ 4611686018427387903
   ·rw [if_pos (by omega)]
    simp only [Option.bind_some]
    rw [tkT_nat]
    by_cases h2 : un ≤ 4611686018427387903
    ·rw [if_pos (by omega)]
     simp only [Option.bind_some]
     rw [tkU_nat]
     by_cases h3 : lv ≤ 3
     ·rw [if_pos (by omega)]
      simp only [Option.bind_some]
      have hr : rightT (fr : Int) (un : Int) = decide (fr ≤ un) := by simp [rightT]; omega
      rw [hr]
      by_cases h9 : fr ≤ un
      ·simp [h0, h1, h2, h3, h9, Rc.withK, bareR]
      ·simp [h9]
     ·rw [if_neg (by omega)]
      simp [h3]
    ·rw [if_neg (by omega)]
     simp [h2]
   ·rw [if_neg (by omega)]
    simp [h1]
  ·rw [if_neg (by omega)]
   simp [h0]
 ·intro e
  simp only [bareR, Rc.mk.injEq] at e
  simp at e
  obtain ⟨rfl, rfl, rfl, rfl, rfl, rfl, rfl, rfl, rfl, rfl⟩ := e
  simp [tailR]
  rw [Bool.eq_iff_iff]
  simp only [Bool.and_eq_true, decide_eq_true_eq]
  omega

theorem right5 (r : Rc) (hk : r.k = 5) (hok : r.ok) : (itemR r).isSome = rightR r := by
 obtain ⟨k, n, m, t, q, wh, wy, at0, no, nd, rg, ys, fr, un, lv⟩ := r
 dsimp only at hk
 subst hk
 have hnd := hok.nd
 have hrg := hok.rg
 have hlv := hok.lv
 dsimp only at hnd hrg hlv
 refine right_of _ 5 (decide (0 < nd) && (decide (0 < rg) && decide (no ≤ 4294967295))) rfl (by omega) (by omega) ?_ ?_
 ·have e : (layR 5 ⟨5, n, m, t, q, wh, wy, at0, no, nd, rg, ys, fr, un, lv⟩).l = [itU ((5 : Nat) : Int), itU nd, itU rg, itU no, boI ys] := by
    show [itU (IntKind.u64.wrap ((5 : Nat) : Int)), itU nd, itU rg, itU no, boI ys] = _
    rw [wrap_small 5 (by omega)]
  rw [rdR, e, tkU_nat, if_pos ⟨by omega, by omega⟩]
  simp only [Option.bind_some, rdKind]
  simp only [show ¬ (5 = 1) by omega, show ¬ (5 = 2) by omega, show ¬ (5 = 3) by omega, show ¬ (5 = 4) by omega, if_false, if_true, rdMember]
  rw [tkU_nat]
  by_cases h0 : 0 < nd
  ·rw [if_pos (by omega)]
   simp only [Option.bind_some]
   rw [tkU_nat]
   by_cases h1 : 0 < rg
   ·rw [if_pos (by omega)]
    simp only [Option.bind_some]
    rw [tkU_nat]
    by_cases h2 : no ≤ 4294967295
    ·rw [if_pos (by omega)]
     simp only [Option.bind_some]
     rw [tkB_bo]
     simp only [Option.bind_some]
     simp [h0, h1, h2, Rc.withK, bareR]
    ·rw [if_neg (by omega)]
     simp [h2]
   ·rw [if_neg (by omega)]
    simp [h1]
  ·rw [if_neg (by omega)]
   simp [h0]
 ·intro e
  simp only [bareR, Rc.mk.injEq] at e
  simp at e
  obtain ⟨rfl, rfl, rfl, rfl, rfl, rfl, rfl, rfl, rfl, rfl⟩ := e
  simp [tailR]
  rw [Bool.eq_iff_iff]
  simp only [Bool.and_eq_true, decide_eq_true_eq]
  omega

theorem right1 (r : Rc) (hk : r.k = 1) (hok : r.ok) : (itemR r).isSome = rightR r := by
 have hkn : r.k.toNat = 1 := by omega
 rw [itemR, if_pos ⟨by omega, by omega⟩, hkn, isSome_if, rightR, decide_eq_true (by omega : 1 ≤ r.k), decide_eq_true (by omega : r.k ≤ 5), rightRc, hkn]
 simp only [Bool.true_and]
 have hnm := hok.nm
 obtain ⟨k, n, m, t, q, wh, wy, at0, no, nd, rg, ys, fr, un, lv⟩ := r
 dsimp only at hk
 subst hk
 have e : (layR 1 ⟨1, n, m, t, q, wh, wy, at0, no, nd, rg, ys, fr, un, lv⟩).l = [itU ((1 : Nat) : Int), (⟨n, m, t, q⟩ : NmT).it, itU (IntKind.u64.wrap wh), itU (IntKind.u64.wrap wy), itU at0] := by
  show [itU (IntKind.u64.wrap ((1 : Nat) : Int)), (⟨n, m, t, q⟩ : NmT).it, itU (IntKind.u64.wrap wh), itU (IntKind.u64.wrap wy), itU at0] = _
  rw [wrap_small 1 (by omega)]
 rw [Bool.eq_iff_iff, decide_eq_true_eq]
 simp only [Bool.and_eq_true, sameRc_iff, tailR, if_true, decide_eq_true_eq, beq_iff_eq]
 change rdR _ = _ ↔ _ = _ ∧ no ≤ 4294967295 ∧ at0 ≤ 4611686018427387903 ∧ un ≤ 4611686018427387903 ∧ (⟨n, m, t, q⟩ : NmT).may = true ∧ _
 rw [rdR, e, tkU_nat, if_pos ⟨by omega, by omega⟩]
 simp only [Option.bind_some, rdKind, if_true, rdReport]
 rw [tkN_it ⟨n, m, t, q⟩ hnm]
 cases hm : (⟨n, m, t, q⟩ : NmT).may with
 | false => simp
 | true =>
  simp only [if_true, Option.bind_some, true_and]
  rw [tkU_int]
  have hw1 := IntKind.wrap_u64 wh
  have hw2 := IntKind.wrap_u64 wy
  generalize IntKind.u64.wrap wh = a at *
  generalize IntKind.u64.wrap wy = b at *
  by_cases h1 : ((1 : Nat) : Int) ≤ a ∧ a ≤ ((4 : Nat) : Int)
  ·rw [if_pos h1]
   simp only [Option.bind_some]
   rw [tkU_int]
   by_cases h2 : ((0 : Nat) : Int) ≤ b ∧ b ≤ ((5 : Nat) : Int)
   ·rw [if_pos h2]
    simp only [Option.bind_some]
    rw [tkT_nat]
    by_cases h3 : at0 ≤ 4611686018427387903
    ·rw [if_pos h3]
     simp only [Option.bind_some, bareR, Rc.mk.injEq, if_true]
     by_cases h4 : (decide (a.toNat = 4) == decide (b.toNat ≠ 0)) = true
     ·rw [if_pos h4]
      simp only [Option.bind_some, if_true, Option.some.injEq, Rc.withK, Rc.mk.injEq]
      simp only [beq_iff_eq] at h4
      have h4' : (a.toNat = 4) ↔ (b.toNat ≠ 0) := by rw [← decide_eq_decide]; exact h4
      constructor
      ·rintro ⟨_, _, _, _, _, ha, hb, _, hno, hnd, hrg, hys, hfr, hun, hlv⟩
       refine ⟨⟨trivial, trivial, trivial, trivial, trivial, trivial, trivial, trivial, hno.symm, hnd.symm, hrg.symm, hys.symm, hfr.symm, hun.symm, hlv.symm⟩, by omega, h3, by omega, by omega, by omega, by omega, by omega, ?_⟩
       rw [Bool.eq_iff_iff]
       simp only [beq_iff_eq, decide_eq_true_eq]
       omega
      ·rintro ⟨⟨_, _, _, _, _, _, _, _, hno, hnd, hrg, hys, hfr, hun, hlv⟩, _, _, _, g1, g2, g3, g4, _⟩
       exact ⟨by omega, trivial, trivial, trivial, trivial, by omega, by omega, trivial, hno.symm, hnd.symm, hrg.symm, hys.symm, hfr.symm, hun.symm, hlv.symm⟩
     ·rw [if_neg h4]
      simp only [Option.bind_none]
      constructor
      ·intro h
       cases h
      ·rintro ⟨_, _, _, _, g1, g2, g3, g4, g5⟩
       exfalso
       apply h4
       rw [Bool.eq_iff_iff] at g5
       simp only [beq_iff_eq, decide_eq_true_eq] at g5 ⊢
       rw [decide_eq_decide]
       omega
    ·rw [if_neg h3]
     simp [h3]
   ·rw [if_neg h2]
    simp only [Option.bind_none]
    constructor
    ·intro h
     cases h
    ·rintro ⟨_, _, _, _, g1, g2, g3, g4, g5⟩
     exact absurd ⟨by omega, by omega⟩ h2
  ·rw [if_neg h1]
   simp only [Option.bind_none]
   constructor
   ·intro h
    cases h
   ·rintro ⟨_, _, _, _, g1, g2, g3, g4, g5⟩
    exact absurd ⟨by omega, by omega⟩ h1

theorem itemR_right (r : Rc) (hok : r.ok) : (itemR r).isSome = rightR r := by
 by_cases h : 1 ≤ r.k ∧ r.k ≤ 5
 ·rcases (show r.k = 1 ∨ r.k = 2 ∨ r.k = 3 ∨ r.k = 4 ∨ r.k = 5 by omega) with h | h | h | h | h
  ·exact right1 r h hok
  ·exact right2 r h hok
  ·exact right3 r h hok
  ·exact right4 r h hok
  ·exact right5 r h hok
 ·rw [itemR, if_neg h, rightR]
  by_cases h1 : 1 ≤ r.k
  ·rw [decide_eq_true h1, decide_eq_false (by omega : ¬ r.k ≤ 5)]
   rfl
  ·rw [decide_eq_false h1]
   rfl

end Go.Proofs.YteldifnkeekafaaGreatDoor
