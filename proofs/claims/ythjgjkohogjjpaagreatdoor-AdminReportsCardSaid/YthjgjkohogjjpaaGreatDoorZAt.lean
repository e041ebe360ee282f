/- Joined texts. -/
import Derived.Test.YthjgjkohogjjpaaGreatDoorZAr
import Derived.Test.YthjgjkohogjjpaaGreatDoorZAs
import Derived.Test.YthjgjkohogjjpaaGreatDoorZAc
import Derived.Test.YthjgjkohogjjpaaGreatDoorZAdOp
set_option maxHeartbeats 16000000
set_option linter.unusedSimpArgs false
set_option linter.unusedVariables false
set_option maxRecDepth 100000
namespace Go.Proofs.YthjgjkohogjjpaaGreatDoor
open Go Go.RowKit Go.Shelf

theorem tkU_int (lo hi : Nat) (n : Int) (r : List It) : tkU lo hi (itU n :: r) = if (lo : Int) ≤ n ∧ n ≤ (hi : Int) then some (n.toNat, r) else none := by
 simp [tkU, itU, It.k, It.n]
theorem tkU_nat (lo hi n : Nat) (r : List It) : tkU lo hi (itU (n : Int) :: r) = if lo ≤ n ∧ n ≤ hi then some (n, r) else none := by
 rw [tkU_int]
 simp only [Int.ofNat_le, Int.toNat_natCast]
theorem tkT_nat (n : Nat) (r : List It) : tkT (itU (n : Int) :: r) = if n ≤ 4611686018427387903 then some (n, r) else none := by
 rw [tkT, tkU_nat]
 by_cases h : n ≤ 18446744073709551615
 ·rw [if_pos ⟨by omega, h⟩]
  by_cases h2 : n ≤ 4611686018427387903
  ·rw [if_pos h2]
   simp only
   rw [if_pos (by simp [isT]; omega)]
  ·rw [if_neg h2]
   simp only
   rw [if_neg (by simp [isT]; omega)]
 ·rw [if_neg (by omega), if_neg (by omega)]
theorem tkB_bo (q : Bool) (r : List It) : tkB (boI q :: r) = some (q, r) := by cases q <;> rfl
theorem tkN_it (x : NmT) (hx : x.ok) (r : List It) : tkN (x.it :: r) = if x.may = true then some ((x.n, x.m, x.t, x.q), r) else none := by
 by_cases h : x.may = true
 ·rw [if_pos h]
  have e : x.it = itN x.n x.m x.t x.q := by rw [NmT.it, if_pos h]
  have hm := NmT.may_iff.1 h
  rw [tkN, e, nmI_itN x.n x.m x.t x.q hm.1 hx.1.1 hx.1.2 hm.2 hx.2.2]
 ·rw [if_neg h]
  have e : x.it = .mk 0 0 [] [] [] := by rw [NmT.it, if_neg h]
  rw [tkN, e]
  rfl

theorem isSome_if (c : Prop) [Decidable c] {α : Type} (x : α) : (if c then some x else none).isSome = decide c := by
 by_cases h : c <;> simp [h]

theorem wrap_small (k : Nat) (h : k ≤ 5) : IntKind.u64.wrap (k : Int) = k := by
 rw [IntKind.wrap_u64]
 omega

theorem right_of (r : Rc) (k : Nat) (c : Bool) (hk : r.k = k) (h1 : 1 ≤ k) (h5 : k ≤ 5) (L : rdR (layR k r) = if c = true then some (bareR k r) else none)
  (hc : r = bareR k r → c = (decide (r.no ≤ 4294967295) && (decide (r.at0 ≤ 4611686018427387903) && (decide (r.un ≤ 4611686018427387903) && tailR r.k r)))) : (itemR r).isSome = rightR r := by
 have hkn : r.k.toNat = k := by omega
 rw [itemR, if_pos ⟨by omega, by omega⟩, hkn, isSome_if, rightR, decide_eq_true (by omega : 1 ≤ r.k), decide_eq_true (by omega : r.k ≤ 5), rightRc, hkn]
 simp only [Bool.true_and]
 cases hs : sameRc r (bareR k r) with
 | true =>
  have e := (sameRc_iff _ _).1 hs
  rw [L, ← hc e]
  cases c
  ·simp
  ·simp only [if_true, Bool.true_and]
   rw [← e]
   simp
 | false =>
  have e : r ≠ bareR k r := fun e => by rw [(sameRc_iff _ _).2 e] at hs; cases hs
  rw [L]
  cases c
  ·simp
  ·simp only [if_true, Bool.false_and]
   exact decide_eq_false fun h => e (by injection h with h; exact h.symm)

theorem right2 (r : Rc) (hk : r.k = 2) (hok : r.ok) : (itemR r).isSome = rightR r := by
 obtain ⟨k, n, m, t, q, wh, wy, at0, no, nd, rg, ys, fr, un, lv⟩ := r
 dsimp only at hk
 subst hk
 have hnd := hok.nd
 have hrg := hok.rg
 dsimp only at hnd hrg
 refine right_of _ 2 (decide (no ≤ 4294967295) && (decide (0 < nd) && decide (0 < rg))) rfl (by omega) (by omega) ?_ ?_
 ·have e : (layR 2 ⟨2, n, m, t, q, wh, wy, at0, no, nd, rg, ys, fr, un, lv⟩).l = [itU ((2 : Nat) : Int), itU no, itU nd, itU rg] := by
    show [itU (IntKind.u64.wrap ((2 : Nat) : Int)), itU no, itU nd, itU rg] = _
    rw [wrap_small 2 (by omega)]
  rw [rdR, e, tkU_nat, if_pos ⟨by omega, by omega⟩]
  simp only [Option.bind_some, rdKind]
  simp only [show ¬ (2 = 1) by omega, if_false, if_true, rdAsk]
  rw [tkU_nat]
  by_cases h1 : no ≤ 4294967295
  ·rw [if_pos ⟨by omega, h1⟩]
   simp only [Option.bind_some]
   rw [tkU_nat]
   by_cases h2 : 0 < nd
   ·rw [if_pos ⟨by omega, by omega⟩]
    simp only [Option.bind_some]
    rw [tkU_nat]
    by_cases h3 : 0 < rg
    ·rw [if_pos ⟨by omega, by omega⟩]
     simp [h1, h2, h3, Rc.withK, bareR]
    ·rw [if_neg (by omega)]
     simp [h3]
   ·rw [if_neg (by omega)]
    simp [h2]
  ·rw [if_neg (by omega)]
   simp [h1]
 ·intro e
  simp only [bareR, Rc.mk.injEq] at e
  simp at e
  obtain ⟨rfl, rfl, rfl, rfl, rfl, rfl, rfl, rfl, rfl, rfl, rfl⟩ := e
  simp [tailR]

theorem right3 (r : Rc) (hk : r.k = 3) (hok : r.ok) : (itemR r).isSome = rightR r := by
 obtain ⟨k, n, m, t, q, wh, wy, at0, no, nd, rg, ys, fr, un, lv⟩ := r
 dsimp only at hk
 subst hk
 have hnd := hok.nd
 have hrg := hok.rg
 have hlv := hok.lv
 dsimp only at hnd hrg hlv
 refine right_of _ 3 (decide (no ≤ 4294967295) && (decide (0 < nd) && (decide (0 < rg) && decide (un ≤ 4611686018427387903)))) rfl (by omega) (by omega) ?_ ?_
 ·have e : (layR 3 ⟨3, n, m, t, q, wh, wy, at0, no, nd, rg, ys, fr, un, lv⟩).l = [itU ((3 : Nat) : Int), itU no, itU nd, itU rg, boI ys, itU un] := by
    show [itU (IntKind.u64.wrap ((3 : Nat) : Int)), itU no, itU nd, itU rg, boI ys, itU un] = _
    rw [wrap_small 3 (by omega)]
  rw [rdR, e, tkU_nat, if_pos ⟨by omega, by omega⟩]
  simp only [Option.bind_some, rdKind]
  simp only [show ¬ (3 = 1) by omega, show ¬ (3 = 2) by omega, if_false, if_true, rdTell]
  rw [tkU_nat]
  by_cases h0 : no ≤ 4294967295
  ·rw [if_pos (by omega)]
   simp only [Option.bind_some]
   rw [tkU_nat]
   by_cases h1 : 0 < nd
   ·rw [if_pos (by omega)]
    simp only [Option.bind_some]
    rw [tkU_nat]
    by_cases h2 : 0 < rg
    ·rw [if_pos (by omega)]
     simp only [Option.bind_some]
     rw [tkB_bo]
     simp only [Option.bind_some]
     rw [tkT_nat]
     by_cases h4 : un ≤ 4611686018427387903
     ·rw [if_pos (by omega)]
      simp only [Option.bind_some]
      simp [h0, h1, h2, h4, Rc.withK, bareR]
     ·rw [if_neg (by omega)]
      simp [h4]
    ·rw [if_neg (by omega)]
     simp [h2]
   ·rw [if_neg (by omega)]
    simp [h1]
  ·rw [if_neg (by omega)]
   simp [h0]
 ·intro e
  simp only [bareR, Rc.mk.injEq] at e
  simp at e
  obtain ⟨rfl, rfl, rfl, rfl, rfl, rfl, rfl, rfl, rfl⟩ := e
  simp [tailR]
  rw [Bool.eq_iff_iff]
  simp only [Bool.and_eq_true, decide_eq_true_eq]
  omega

theorem right4 (r : Rc) (hk : r.k = 4) (hok : r.ok) : (itemR r).isSome = rightR r := by
 obtain ⟨k, n, m, t, q, wh, wy, at0, no, nd, rg, ys, fr, un, lv⟩ := r
 dsimp only at hk
 subst hk
 have hnd := hok.nd
 have hrg := hok.rg
 have hlv := hok.lv
 dsimp only at hnd hrg hlv
 refine right_of _ 4 (decide (0 < nd) && (decide (fr ≤ 4611686018427387903) && (decide (un ≤ 4611686018427387903) && (decide (lv ≤ 3) && decide (fr ≤ un))))) rfl (by omega) (by omega) ?_ ?_
 ·have e : (layR 4 ⟨4, n, m, t, q, wh, wy, at0, no, nd, rg, ys, fr, un, lv⟩).l = [itU ((4 : Nat) : Int), itU nd, itU fr, itU un, itU lv] := by
    show [itU (IntKind.u64.wrap ((4 : Nat) : Int)), itU nd, itU fr, itU un, itU lv] = _
    rw [wrap_small 4 (by omega)]
  rw [rdR, e, tkU_nat, if_pos ⟨by omega, by omega⟩]
  simp only [Option.bind_some, rdKind]
  simp only [show ¬ (4 = 1) by omega, show ¬ (4 = 2) by omega, show ¬ (4 = 3) by omega, if_false, if_true, rdFore]
  rw [tkU_nat]
  by_cases h0 : 0 < nd
  ·rw [if_pos (by omega)]
   simp only [Option.bind_some]
   rw [tkT_nat]
   by_cases h1 : fr ≤ 4611686018427387903
   ·rw [if_pos (by omega)]
    simp only [Option.bind_some]
    rw [tkT_nat]
    by_cases h2 : un ≤ 4611686018427387903
    ·rw [if_pos (by omega)]
     simp only [Option.bind_some]
     rw [tkU_nat]
     by_cases h3 : lv ≤ 3
     ·rw [if_pos (by omega)]
      simp only [Option.bind_some]
      have hr : rightT (fr : Int) (un : Int) = decide (fr ≤ un) := by simp [rightT]; omega
      rw [hr]
      by_cases h9 : fr ≤ un
      ·simp [h0, h1, h2, h3, h9, Rc.withK, bareR]
      ·simp [h9]
     ·rw [if_neg (by omega)]
      simp [h3]
    ·rw [if_neg (by omega)]
     simp [h2]
   ·rw [if_neg (by omega)]
    simp [h1]
  ·rw [if_neg (by omega)]
   simp [h0]
 ·intro e
  simp only [bareR, Rc.mk.injEq] at e
  simp at e
  obtain ⟨rfl, rfl, rfl, rfl, rfl, rfl, rfl, rfl, rfl, rfl⟩ := e
  simp [tailR]
  rw [Bool.eq_iff_iff]
  simp only [Bool.and_eq_true, decide_eq_true_eq]
  omega

theorem right5 (r : Rc) (hk : r.k = 5) (hok : r.ok) : (itemR r).isSome = rightR r := by
 obtain ⟨k, n, m, t, q, wh, wy, at0, no, nd, rg, ys, fr, un, lv⟩ := r
 dsimp only at hk
 subst hk
 have hnd := hok.nd
 have hrg := hok.rg
 have hlv := hok.lv
 dsimp only at hnd hrg hlv
 refine right_of _ 5 (decide (0 < nd) && (decide (0 < rg) && decide (no ≤ 4294967295))) rfl (by omega) (by omega) ?_ ?_
 ·have e : (layR 5 ⟨5, n, m, t, q, wh, wy, at0, no, nd, rg, ys, fr, un, lv⟩).l = [itU ((5 : Nat) : Int), itU nd, itU rg, itU no, boI ys] := by
    show [itU (IntKind.u64.wrap ((5 : Nat) : Int)), itU nd, itU rg, itU no, boI ys] = _
    rw [wrap_small 5 (by omega)]
  rw [rdR, e, tkU_nat, if_pos ⟨by omega, by omega⟩]
  simp only [Option.bind_some, rdKind]
  simp only [show ¬ (5 = 1) by omega, show ¬ (5 = 2) by omega, show ¬ (5 = 3) by omega, show ¬ (5 = 4) by omega, if_false, if_true, rdMember]
  rw [tkU_nat]
  by_cases h0 : 0 < nd
  ·rw [if_pos (by omega)]
   simp only [Option.bind_some]
   rw [tkU_nat]
   by_cases h1 : 0 < rg
   ·rw [if_pos (by omega)]
    simp only [Option.bind_some]
    rw [tkU_nat]
    by_cases h2 : no ≤ 4294967295
    ·rw [if_pos (by omega)]
     simp only [Option.bind_some]
     rw [tkB_bo]
     simp only [Option.bind_some]
     simp [h0, h1, h2, Rc.withK, bareR]
    ·rw [if_neg (by omega)]
     simp [h2]
   ·rw [if_neg (by omega)]
    simp [h1]
  ·rw [if_neg (by omega)]
   simp [h0]
 ·intro e
  simp only [bareR, Rc.mk.injEq] at e
  simp at e
  obtain ⟨rfl, rfl, rfl, rfl, rfl, rfl, rfl, rfl, rfl, rfl⟩ := e
  simp [tailR]
  rw [Bool.eq_iff_iff]
  simp only [Bool.and_eq_true, decide_eq_true_eq]
  omega

theorem right1 (r : Rc) (hk : r.k = 1) (hok : r.ok) : (itemR r).isSome = rightR r := by
 have hkn : r.k.toNat = 1 := by omega
 rw [itemR, if_pos ⟨by omega, by omega⟩, hkn, isSome_if, rightR, decide_eq_true (by omega : 1 ≤ r.k), decide_eq_true (by omega : r.k ≤ 5), rightRc, hkn]
 simp only [Bool.true_and]
 have hnm := hok.nm
 obtain ⟨k, n, m, t, q, wh, wy, at0, no, nd, rg, ys, fr, un, lv⟩ := r
 dsimp only at hk
 subst hk
 have e : (layR 1 ⟨1, n, m, t, q, wh, wy, at0, no, nd, rg, ys, fr, un, lv⟩).l = [itU ((1 : Nat) : Int), (⟨n, m, t, q⟩ : NmT).it, itU (IntKind.u64.wrap wh), itU (IntKind.u64.wrap wy), itU at0] := by
  show [itU (IntKind.u64.wrap ((1 : Nat) : Int)), (⟨n, m, t, q⟩ : NmT).it, itU (IntKind.u64.wrap wh), itU (IntKind.u64.wrap wy), itU at0] = _
  rw [wrap_small 1 (by omega)]
 rw [Bool.eq_iff_iff, decide_eq_true_eq]
 simp only [Bool.and_eq_true, sameRc_iff, tailR, if_true, decide_eq_true_eq, beq_iff_eq]
 change rdR _ = _ ↔ _ = _ ∧ no ≤ 4294967295 ∧ at0 ≤ 4611686018427387903 ∧ un ≤ 4611686018427387903 ∧ (⟨n, m, t, q⟩ : NmT).may = true ∧ _
 rw [rdR, e, tkU_nat, if_pos ⟨by omega, by omega⟩]
 simp only [Option.bind_some, rdKind, if_true, rdReport]
 rw [tkN_it ⟨n, m, t, q⟩ hnm]
 cases hm : (⟨n, m, t, q⟩ : NmT).may with
 | false => simp
 | true =>
  simp only [if_true, Option.bind_some, true_and]
  rw [tkU_int]
  have hw1 := IntKind.wrap_u64 wh
  have hw2 := IntKind.wrap_u64 wy
  generalize IntKind.u64.wrap wh = a at *
  generalize IntKind.u64.wrap wy = b at *
  by_cases h1 : ((1 : Nat) : Int) ≤ a ∧ a ≤ ((4 : Nat) : Int)
  ·rw [if_pos h1]
   simp only [Option.bind_some]
   rw [tkU_int]
   by_cases h2 : ((0 : Nat) : Int) ≤ b ∧ b ≤ ((5 : Nat) : Int)
   ·rw [if_pos h2]
    simp only [Option.bind_some]
    rw [tkT_nat]
    by_cases h3 : at0 ≤ 4611686018427387903
    ·rw [if_pos h3]
     simp only [Option.bind_some, bareR, Rc.mk.injEq, if_true]
     by_cases h4 : (decide (a.toNat = 4) == decide (b.toNat ≠ 0)) = true
     ·rw [if_pos h4]
      simp only [Option.bind_some, if_true, Option.some.injEq, Rc.withK, Rc.mk.injEq]
      simp only [beq_iff_eq] at h4
      have h4' : (a.toNat = 4) ↔ (b.toNat ≠ 0) := by rw [← decide_eq_decide]; exact h4
      constructor
      ·rintro ⟨_, _, _, _, _, ha, hb, _, hno, hnd, hrg, hys, hfr, hun, hlv⟩
       refine ⟨⟨trivial, trivial, trivial, trivial, trivial, trivial, trivial, trivial, hno.symm, hnd.symm, hrg.symm, hys.symm, hfr.symm, hun.symm, hlv.symm⟩, by omega, h3, by omega, by omega, by omega, by omega, by omega, ?_⟩
       rw [Bool.eq_iff_iff]
       simp only [beq_iff_eq, decide_eq_true_eq]
       omega
      ·rintro ⟨⟨_, _, _, _, _, _, _, _, hno, hnd, hrg, hys, hfr, hun, hlv⟩, _, _, _, g1, g2, g3, g4, _⟩
       exact ⟨by omega, trivial, trivial, trivial, trivial, by omega, by omega, trivial, hno.symm, hnd.symm, hrg.symm, hys.symm, hfr.symm, hun.symm, hlv.symm⟩
     ·rw [if_neg h4]
      simp only [Option.bind_none]
      constructor
      ·intro h
       cases h
      ·rintro ⟨_, _, _, _, g1, g2, g3, g4, g5⟩
       exfalso
       apply h4
       rw [Bool.eq_iff_iff] at g5
       simp only [beq_iff_eq, decide_eq_true_eq] at g5 ⊢
       rw [decide_eq_decide]
       omega
    ·rw [if_neg h3]
     simp [h3]
   ·rw [if_neg h2]
    simp only [Option.bind_none]
    constructor
    ·intro h
     cases h
    ·rintro ⟨_, _, _, _, g1, g2, g3, g4, g5⟩
     exact absurd ⟨by omega, by omega⟩ h2
  ·rw [if_neg h1]
   simp only [Option.bind_none]
   constructor
   ·intro h
    cases h
   ·rintro ⟨_, _, _, _, g1, g2, g3, g4, g5⟩
    exact absurd ⟨by omega, by omega⟩ h1

theorem itemR_right (r : Rc) (hok : r.ok) : (itemR r).isSome = rightR r := by
 by_cases h : 1 ≤ r.k ∧ r.k ≤ 5
 ·rcases (show r.k = 1 ∨ r.k = 2 ∨ r.k = 3 ∨ r.k = 4 ∨ r.k = 5 by omega) with h | h | h | h | h
  ·exact right1 r h hok
  ·exact right2 r h hok
  ·exact right3 r h hok
  ·exact right4 r h hok
  ·exact right5 r h hok
 ·rw [itemR, if_neg h, rightR]
  by_cases h1 : 1 ≤ r.k
  ·rw [decide_eq_true h1, decide_eq_false (by omega : ¬ r.k ≤ 5)]
   rfl
  ·rw [decide_eq_false h1]
   rfl

attribute [local go_sem] Oper.semAt_some

theorem chk_right (r : Rc) (hok : r.ok) : chkRc r = if rightR r = true then 0 else 2 := by rw [chkRc, itemR_right r hok]

theorem walk_areports (n m t q : Nat) (wh wy : Int) (at0 : Nat) (hok : (repR n m t q wh wy at0).ok) (w : World) (ht : TabW w) : Calls Tryz.prog 4 #[.agg #[.int .u32 n, .int .u32 m, .int .u64 t, .int .u32 q], .agg #[.int .i64 wh, .int .i64 wy], .int .u64 at0] w fun e w' => e = .returned (.bool true) ∧ Below w.heap.size w w' := by
 obtain ⟨W, hW⟩ : ∃ W, W = (w.alloc (.cells #[.int .u32 n, .int .u32 m, .int .u64 t, .int .u32 q] 28)).alloc (.cells #[.int .i64 wh, .int .i64 wy] 42) := ⟨_, rfl⟩
 have hb : Below w.heap.size w W := by rw [hW]; exact below_al (below_al bR _) _
 have HX : Hid (∀ w', Below W.heap.size W w' → (w'.cell? ⟨w.heap.size, 0, none⟩ = some (.int .u32 n) ∧ w'.cell? ⟨w.heap.size, 1, none⟩ = some (.int .u32 m) ∧ w'.cell? ⟨w.heap.size, 2, none⟩ = some (.int .u64 t) ∧ w'.cell? ⟨w.heap.size, 3, none⟩ = some (.int .u32 q)) ∧ w'.cell? ⟨w.heap.size + 1, 0, none⟩ = some (.int .i64 wh) ∧ w'.cell? ⟨w.heap.size + 1, 1, none⟩ = some (.int .i64 wy)) := fun w' h => by
  rw [hW] at h
  have h1 := below_on (below_al (Below.refl _ (w.alloc (.cells #[.int .u32 n, .int .u32 m, .int .u64 t, .int .u32 q] 28))) (.cells #[.int .i64 wh, .int .i64 wy] 42)) h
  refine ⟨⟨box_at h1 0, box_at h1 1, box_at h1 2, box_at h1 3⟩, ?_, ?_⟩
  ·have q2 := box_at h 0
   rw [World.size_alloc] at q2
   exact q2
  ·have q2 := box_at h 1
   rw [World.size_alloc] at q2
   exact q2
 have HT : Hid (∀ w', Below w.heap.size w w' → TabW w') := fun w' h => ht.on h
 have HRep := h_ (dReport_any n m t q wh wy at0 hok W (ht.on hb))
 have HC := h_ (chk_right (repR n m t q wh wy at0) hok)
 have HB0 := h_ hb
 have HW := h_ hW
 obtain ⟨⟨x0, x1, x2, x3⟩, y0, y1⟩ := HX.out W bR
 rw [HW.out] at x0 x1 x2 x3 y0 y1
 clear hW hb hok ht
 go_enter Tryz.func4, Tryz.ntmps4
 go_wp2_with fail
 rw [← HW.out]
 clear x0 x1 x2 x3 y0 y1
 refine HRep.out.mono ?_
 rintro e w1 ⟨hb1, hm⟩
 cases hg : rightR (repR n m t q wh wy at0) with
 | true =>
  have HG := h_ hg
  have h0 : chkRc (repR n m t q wh wy at0) = 0 := by rw [HC.out, hg]; rfl
  clear hg
  rcases hm with ⟨_, rfl⟩ | ⟨h2, _⟩
  rotate_left
  ·rw [h0] at h2
   cases h2
  clear h0
  dsimp only [repR]
  have HB1 := h_ (below_on HB0.out hb1)
  obtain ⟨w2, hw2⟩ : ∃ w2, w2 = w1.alloc (.cells #[.int .i64 1, .int .u32 n, .int .u32 m, .int .u64 t, .int .u32 q, .int .i64 wh, .int .i64 wy, .int .u64 at0, .int .u64 0, .int .u32 0, .int .u32 0, .bool false, .int .u64 0, .int .u64 0, .int .u8 0] 30) := ⟨_, rfl⟩
  have hb2 : Below w1.heap.size w1 w2 := by rw [hw2]; exact below_al bR _
  have HX2 := h_ (HX.out w2 (below_on hb1 hb2))
  have HB2 : Hid (Below w.heap.size w w2) := below_on HB1.out hb2
  have HA2 : Hid (∀ w', Below w2.heap.size w2 w' → w'.cell? ⟨w1.heap.size, 0, none⟩ = some (.int .i64 1) ∧ w'.cell? ⟨w1.heap.size, 1, none⟩ = some (.int .u32 n) ∧ w'.cell? ⟨w1.heap.size, 2, none⟩ = some (.int .u32 m) ∧ w'.cell? ⟨w1.heap.size, 3, none⟩ = some (.int .u64 t) ∧ w'.cell? ⟨w1.heap.size, 4, none⟩ = some (.int .u32 q) ∧ w'.cell? ⟨w1.heap.size, 5, none⟩ = some (.int .i64 wh) ∧ w'.cell? ⟨w1.heap.size, 6, none⟩ = some (.int .i64 wy) ∧ w'.cell? ⟨w1.heap.size, 7, none⟩ = some (.int .u64 at0) ∧ w'.cell? ⟨w1.heap.size, 8, none⟩ = some (.int .u64 0) ∧ w'.cell? ⟨w1.heap.size, 9, none⟩ = some (.int .u32 0) ∧ w'.cell? ⟨w1.heap.size, 10, none⟩ = some (.int .u32 0) ∧ w'.cell? ⟨w1.heap.size, 11, none⟩ = some (.bool false) ∧ w'.cell? ⟨w1.heap.size, 12, none⟩ = some (.int .u64 0) ∧ w'.cell? ⟨w1.heap.size, 13, none⟩ = some (.int .u64 0) ∧ w'.cell? ⟨w1.heap.size, 14, none⟩ = some (.int .u8 0)) := fun w' h => by
   rw [hw2] at h
   exact ⟨box_at h 0, box_at h 1, box_at h 2, box_at h 3, box_at h 4, box_at h 5, box_at h 6, box_at h 7, box_at h 8, box_at h 9, box_at h 10, box_at h 11, box_at h 12, box_at h 13, box_at h 14⟩
  obtain ⟨w3, hw3⟩ : ∃ w3, w3 = w2.alloc (.cells #[.int .i64 1, .int .u32 n, .int .u32 m, .int .u64 t, .int .u32 q, .int .i64 wh, .int .i64 wy, .int .u64 at0, .int .u64 0, .int .u32 0, .int .u32 0, .bool false, .int .u64 0, .int .u64 0, .int .u8 0] 30) := ⟨_, rfl⟩
  have hb3 : Below w2.heap.size w2 w3 := by rw [hw3]; exact below_al bR _
  have HB3 : Hid (Below w.heap.size w w3) := below_on HB2.out hb3
  have HA3 : Hid (∀ w', Below w3.heap.size w3 w' → w'.cell? ⟨w2.heap.size, 0, none⟩ = some (.int .i64 1) ∧ w'.cell? ⟨w2.heap.size, 1, none⟩ = some (.int .u32 n) ∧ w'.cell? ⟨w2.heap.size, 2, none⟩ = some (.int .u32 m) ∧ w'.cell? ⟨w2.heap.size, 3, none⟩ = some (.int .u64 t) ∧ w'.cell? ⟨w2.heap.size, 4, none⟩ = some (.int .u32 q) ∧ w'.cell? ⟨w2.heap.size, 5, none⟩ = some (.int .i64 wh) ∧ w'.cell? ⟨w2.heap.size, 6, none⟩ = some (.int .i64 wy) ∧ w'.cell? ⟨w2.heap.size, 7, none⟩ = some (.int .u64 at0) ∧ w'.cell? ⟨w2.heap.size, 8, none⟩ = some (.int .u64 0) ∧ w'.cell? ⟨w2.heap.size, 9, none⟩ = some (.int .u32 0) ∧ w'.cell? ⟨w2.heap.size, 10, none⟩ = some (.int .u32 0) ∧ w'.cell? ⟨w2.heap.size, 11, none⟩ = some (.bool false) ∧ w'.cell? ⟨w2.heap.size, 12, none⟩ = some (.int .u64 0) ∧ w'.cell? ⟨w2.heap.size, 13, none⟩ = some (.int .u64 0) ∧ w'.cell? ⟨w2.heap.size, 14, none⟩ = some (.int .u8 0)) := fun w' h => by
   rw [hw3] at h
   exact ⟨box_at h 0, box_at h 1, box_at h 2, box_at h 3, box_at h 4, box_at h 5, box_at h 6, box_at h 7, box_at h 8, box_at h 9, box_at h 10, box_at h 11, box_at h 12, box_at h 13, box_at h 14⟩
  have HL3 := h_ (below_on hb3 (Below.refl w3.heap.size w3))
  have hsz2 : w1.heap.size + 1 = w2.heap.size := by rw [hw2]; simp
  have HSZ := h_ hsz2
  have HRi := h_ (rRight10_any (repR n m t q wh wy at0) w3)
  have HW2 := h_ hw2
  have HW3 := h_ hw3
  clear hb1 hb2 hb3 hw2 hw3 hsz2
  go_upto_region 2 with fail
  rw [← HW2.out]
  obtain ⟨⟨x0, x1, x2, x3⟩, y0, y1⟩ := HX2.out
  go_upto_region 3 with fail
  rw [← HW3.out]
  clear x0 x1 x2 x3 y0 y1
  obtain ⟨c0, c1, c2, c3, c4, c5, c6, c7, c8, c9, c10, c11, c12, c13, c14⟩ := HA3.out w3 bR
  go_wp2_with fail
  clear c0 c1 c2 c3 c4 c5 c6 c7 c8 c9 c10 c11 c12 c13 c14
  refine HRi.out.mono ?_
  rintro e w4 ⟨rfl, hb4⟩
  rw [HG.out]
  have HB4 := h_ (below_on HB3.out hb4)
  obtain ⟨a0, a1, a2, a3, a4, a5, a6, a7, a8, a9, a10, a11, a12, a13, a14⟩ := HA2.out w4 (below_on HL3.out hb4)
  obtain ⟨c0, c1, c2, c3, c4, c5, c6, c7, c8, c9, c10, c11, c12, c13, c14⟩ := HA3.out w4 hb4
  clear hb4
  have heq : ∀ w : World, (Op.equalIn 10000 30 (.agg #[.int .i64 1, .int .u32 n, .int .u32 m, .int .u64 t, .int .u32 q, .int .i64 wh, .int .i64 wy, .int .u64 at0, .int .u64 0, .int .u32 0, .int .u32 0, .bool false, .int .u64 0, .int .u64 0, .int .u8 0]) (.agg #[.int .i64 1, .int .u32 n, .int .u32 m, .int .u64 t, .int .u32 q, .int .i64 wh, .int .i64 wy, .int .u64 at0, .int .u64 0, .int .u32 0, .int .u32 0, .bool false, .int .u64 0, .int .u64 0, .int .u8 0])).run Tryz.prog w = .ok true w := fun w => by
   have h := eqRc_run (repR n m t q wh wy at0) (repR n m t q wh wy at0) w
   rw [(sameRc_iff _ _).2 rfl] at h
   exact h
  go_wp2_with fail
  refine (dnum10_any 0 _).mono ?_
  rintro e9 w9 ⟨rfl, h9⟩
  rw [← h9]
  clear h9 w9 heq a0 a1 a2 a3 a4 a5 a6 a7 a8 a9 a10 a11 a12 a13 a14 c0 c1 c2 c3 c4 c5 c6 c7 c8 c9 c10 c11 c12 c13 c14
  go_wp2_with fail
  refine (dworks_any _ (HT.out _ HB4.out)).mono ?_
  rintro e9 w9 ⟨rfl, hb9⟩
  have HB9 := h_ (below_on HB4.out hb9)
  clear hb9
  go_wp2_with fail
  go_ret
  exact ⟨rfl, HB9.out⟩
 | false =>
  have HG := h_ hg
  have h0 : chkRc (repR n m t q wh wy at0) = 2 := by rw [HC.out, hg]; rfl
  clear hg
  rcases hm with ⟨h2, _⟩ | ⟨_, rfl⟩
  ·rw [h0] at h2
   cases h2
  clear h0
  have HB1 := h_ (below_on HB0.out hb1)
  obtain ⟨w2, hw2⟩ : ∃ w2, w2 = w1.alloc (.cells #[.int .i64 0, .int .u32 0, .int .u32 0, .int .u64 0, .int .u32 0, .int .i64 0, .int .i64 0, .int .u64 0, .int .u64 0, .int .u32 0, .int .u32 0, .bool false, .int .u64 0, .int .u64 0, .int .u8 0] 30) := ⟨_, rfl⟩
  have hb2 : Below w1.heap.size w1 w2 := by rw [hw2]; exact below_al bR _
  have HX2 := h_ (HX.out w2 (below_on hb1 hb2))
  have HB2 : Hid (Below w.heap.size w w2) := below_on HB1.out hb2
  have HA2 : Hid (∀ w', Below w2.heap.size w2 w' → w'.cell? ⟨w1.heap.size, 0, none⟩ = some (.int .i64 0) ∧ w'.cell? ⟨w1.heap.size, 1, none⟩ = some (.int .u32 0) ∧ w'.cell? ⟨w1.heap.size, 2, none⟩ = some (.int .u32 0) ∧ w'.cell? ⟨w1.heap.size, 3, none⟩ = some (.int .u64 0) ∧ w'.cell? ⟨w1.heap.size, 4, none⟩ = some (.int .u32 0) ∧ w'.cell? ⟨w1.heap.size, 5, none⟩ = some (.int .i64 0) ∧ w'.cell? ⟨w1.heap.size, 6, none⟩ = some (.int .i64 0) ∧ w'.cell? ⟨w1.heap.size, 7, none⟩ = some (.int .u64 0) ∧ w'.cell? ⟨w1.heap.size, 8, none⟩ = some (.int .u64 0) ∧ w'.cell? ⟨w1.heap.size, 9, none⟩ = some (.int .u32 0) ∧ w'.cell? ⟨w1.heap.size, 10, none⟩ = some (.int .u32 0) ∧ w'.cell? ⟨w1.heap.size, 11, none⟩ = some (.bool false) ∧ w'.cell? ⟨w1.heap.size, 12, none⟩ = some (.int .u64 0) ∧ w'.cell? ⟨w1.heap.size, 13, none⟩ = some (.int .u64 0) ∧ w'.cell? ⟨w1.heap.size, 14, none⟩ = some (.int .u8 0)) := fun w' h => by
   rw [hw2] at h
   exact ⟨box_at h 0, box_at h 1, box_at h 2, box_at h 3, box_at h 4, box_at h 5, box_at h 6, box_at h 7, box_at h 8, box_at h 9, box_at h 10, box_at h 11, box_at h 12, box_at h 13, box_at h 14⟩
  obtain ⟨w3, hw3⟩ : ∃ w3, w3 = w2.alloc (.cells #[.int .i64 1, .int .u32 n, .int .u32 m, .int .u64 t, .int .u32 q, .int .i64 wh, .int .i64 wy, .int .u64 at0, .int .u64 0, .int .u32 0, .int .u32 0, .bool false, .int .u64 0, .int .u64 0, .int .u8 0] 30) := ⟨_, rfl⟩
  have hb3 : Below w2.heap.size w2 w3 := by rw [hw3]; exact below_al bR _
  have HB3 : Hid (Below w.heap.size w w3) := below_on HB2.out hb3
  have HA3 : Hid (∀ w', Below w3.heap.size w3 w' → w'.cell? ⟨w2.heap.size, 0, none⟩ = some (.int .i64 1) ∧ w'.cell? ⟨w2.heap.size, 1, none⟩ = some (.int .u32 n) ∧ w'.cell? ⟨w2.heap.size, 2, none⟩ = some (.int .u32 m) ∧ w'.cell? ⟨w2.heap.size, 3, none⟩ = some (.int .u64 t) ∧ w'.cell? ⟨w2.heap.size, 4, none⟩ = some (.int .u32 q) ∧ w'.cell? ⟨w2.heap.size, 5, none⟩ = some (.int .i64 wh) ∧ w'.cell? ⟨w2.heap.size, 6, none⟩ = some (.int .i64 wy) ∧ w'.cell? ⟨w2.heap.size, 7, none⟩ = some (.int .u64 at0) ∧ w'.cell? ⟨w2.heap.size, 8, none⟩ = some (.int .u64 0) ∧ w'.cell? ⟨w2.heap.size, 9, none⟩ = some (.int .u32 0) ∧ w'.cell? ⟨w2.heap.size, 10, none⟩ = some (.int .u32 0) ∧ w'.cell? ⟨w2.heap.size, 11, none⟩ = some (.bool false) ∧ w'.cell? ⟨w2.heap.size, 12, none⟩ = some (.int .u64 0) ∧ w'.cell? ⟨w2.heap.size, 13, none⟩ = some (.int .u64 0) ∧ w'.cell? ⟨w2.heap.size, 14, none⟩ = some (.int .u8 0)) := fun w' h => by
   rw [hw3] at h
   exact ⟨box_at h 0, box_at h 1, box_at h 2, box_at h 3, box_at h 4, box_at h 5, box_at h 6, box_at h 7, box_at h 8, box_at h 9, box_at h 10, box_at h 11, box_at h 12, box_at h 13, box_at h 14⟩
  have HL3 := h_ (below_on hb3 (Below.refl w3.heap.size w3))
  have hsz2 : w1.heap.size + 1 = w2.heap.size := by rw [hw2]; simp
  have HSZ := h_ hsz2
  have HRi := h_ (rRight10_any (repR n m t q wh wy at0) w3)
  have HW2 := h_ hw2
  have HW3 := h_ hw3
  clear hb1 hb2 hb3 hw2 hw3 hsz2
  go_upto_region 2 with fail
  rw [← HW2.out]
  obtain ⟨⟨x0, x1, x2, x3⟩, y0, y1⟩ := HX2.out
  go_upto_region 3 with fail
  rw [← HW3.out]
  clear x0 x1 x2 x3 y0 y1
  obtain ⟨c0, c1, c2, c3, c4, c5, c6, c7, c8, c9, c10, c11, c12, c13, c14⟩ := HA3.out w3 bR
  go_wp2_with fail
  clear c0 c1 c2 c3 c4 c5 c6 c7 c8 c9 c10 c11 c12 c13 c14
  refine HRi.out.mono ?_
  rintro e w4 ⟨rfl, hb4⟩
  rw [HG.out]
  have HB4 := h_ (below_on HB3.out hb4)
  obtain ⟨a0, a1, a2, a3, a4, a5, a6, a7, a8, a9, a10, a11, a12, a13, a14⟩ := HA2.out w4 (below_on HL3.out hb4)
  clear hb4
  have heq : ∀ w : World, (Op.equalIn 10000 30 (.agg #[.int .i64 0, .int .u32 0, .int .u32 0, .int .u64 0, .int .u32 0, .int .i64 0, .int .i64 0, .int .u64 0, .int .u64 0, .int .u32 0, .int .u32 0, .bool false, .int .u64 0, .int .u64 0, .int .u8 0]) (.agg #[.int .i64 0, .int .u32 0, .int .u32 0, .int .u64 0, .int .u32 0, .int .i64 0, .int .i64 0, .int .u64 0, .int .u64 0, .int .u32 0, .int .u32 0, .bool false, .int .u64 0, .int .u64 0, .int .u8 0])).run Tryz.prog w = .ok true w := fun w => by
   have h := eqRc_run (⟨0, 0, 0, 0, 0, 0, 0, 0, 0, 0, 0, false, 0, 0, 0⟩ : Rc) (⟨0, 0, 0, 0, 0, 0, 0, 0, 0, 0, 0, false, 0, 0, 0⟩ : Rc) w
   rw [(sameRc_iff _ _).2 rfl] at h
   exact h
  go_wp2_with fail
  refine (dnum10_any 2 _).mono ?_
  rintro e9 w9 ⟨rfl, h9⟩
  rw [← h9]
  clear h9 w9 heq a0 a1 a2 a3 a4 a5 a6 a7 a8 a9 a10 a11 a12 a13 a14 
  go_wp2_with fail
  refine (dworks_any _ (HT.out _ HB4.out)).mono ?_
  rintro e9 w9 ⟨rfl, hb9⟩
  have HB9 := h_ (below_on HB4.out hb9)
  clear hb9
  go_wp2_with fail
  go_ret
  exact ⟨rfl, HB9.out⟩

end Go.Proofs.YthjgjkohogjjpaaGreatDoor

namespace Go.Proofs.YthjgjkohogjjpaaGreatDoor
open Go.ChangeShapes Go.WideShapes Go.ChangeAt Go.RowKit


theorem open_i2 {H : Type} {enc : TypeId × Value → H} {W : World} {base : Nat} {v : Value} {d : DataW H} {p : List MemPlace} (hv : Value.okWide Tryz.prog W .any base 42 v)
  (hd : DataW.Trod enc Tryz.prog W 0 (fun _ => true) true 42 v d p) : ∃ t0 t1 : Int, v = .agg #[.int .i64 t0, .int .i64 t1] := by
 have hu := Tryz.underlying42
 have hc2 : Tryz.prog.cellsOf 42 = 2 := by kernel_rfl
 have hc1 : Tryz.prog.cellsOf 3 = 1 := by kernel_rfl
 simp only [Value.okWide, hu] at hv
 obtain ⟨cs, rfl, hsz, _⟩ := hv
 rw [hc2] at hsz
 obtain ⟨cs⟩ := cs
 simp only [List.size_toArray] at hsz
 match cs, hsz with
 | [c0, c1], _ =>
  obtain ⟨fuel, hf⟩ := hd
  obtain ⟨xs, m, rfl, _, _, hl, hx⟩ := DataW.trod_array hu hf
  simp only [hc1, Value.cells] at hx
  have e0 := hx 0 (by omega)
  have e1 := hx 1 (by omega)
  rw [List.getElem?_eq_getElem (by omega)] at e0 e1
  obtain ⟨n0, h0, g0, k0⟩ := DataW.trod_int Tryz.underlying3 e0
  obtain ⟨n1, h1, g1, k1⟩ := DataW.trod_int Tryz.underlying3 e1
  simp at h0 h1
  subst h0 h1
  exact ⟨n0, n1, rfl⟩

theorem repR_ok {a : NmT} (h : a.ok) (wh wy : Int) {at0 : Nat} (h2 : at0 < 18446744073709551616) : (repR a.n a.m a.t a.q wh wy at0).ok :=
 ⟨h, h2, Nat.zero_lt_succ _, Nat.zero_le _, Nat.zero_le _, Nat.zero_lt_succ _, Nat.zero_lt_succ _, Nat.zero_le _⟩

end Go.Proofs.YthjgjkohogjjpaaGreatDoor
