/- Joined texts. -/
import Derived.Test.YtiahakbkagipkaaGreatDoorZBl
import Derived.Test.YtiahakbkagipkaaGreatDoorZCy
import Derived.Test.YtiahakbkagipkaaGreatDoorZNz
import Derived.Test.YtiahakbkagipkaaGreatDoorZPz
import Derived.Test.YtiahakbkagipkaaGreatDoorZBk
import Derived.Test.YtiahakbkagipkaaGreatDoorZKh
import Derived.Test.YtiahakbkagipkaaGreatDoorZCa
set_option maxHeartbeats 16000000
set_option linter.unusedSimpArgs false
set_option linter.unusedVariables false
set_option maxRecDepth 100000
namespace Go.Proofs.YtiahakbkagipkaaGreatDoor
open Go Go.RowKit Go.Shelf

attribute [local go_sem] Oper.semAt_some

def dataB (t : Nat) (d : List UInt8) : Bool := (tellE ex0 t d).isSome

theorem dataB_one (d : List UInt8) : dataB 1 d = true := rfl
theorem dataB_err {t : Nat} {d : List UInt8} {c : Nat} (h1 : t ≠ 1) (h : decodeN d = .error c) : dataB t d = false := by
 unfold dataB tellE
 rw [if_neg h1, datD_err h, datD_err h, datD_err h, datD_err h]
 repeat (split; rfl)
 rfl
theorem dataB_6 {d : List UInt8} {x : It} (h : decodeN d = .ok x) : dataB 6 d = (befI x).isSome := by
 unfold dataB tellE
 rw [if_neg (by decide), if_pos rfl, datD_ok h]
 cases befI x <;> rfl
theorem dataB_7 {d : List UInt8} {x : It} (h : decodeN d = .ok x) : dataB 7 d = (ageI x).isSome := by
 unfold dataB tellE
 rw [if_neg (by decide), if_neg (by decide), if_pos rfl, datD_ok h]
 cases ageI x <;> rfl
theorem dataB_10 {d : List UInt8} {x : It} (h : decodeN d = .ok x) : dataB 10 d = (hopI x).isSome := by
 unfold dataB tellE
 rw [if_neg (by decide), if_neg (by decide), if_neg (by decide), if_pos rfl, datD_ok h]
 cases hopI x <;> rfl
theorem dataB_200 {d : List UInt8} {x : It} (h : decodeN d = .ok x) : dataB 200 d = isP x := by
 unfold dataB tellE
 rw [if_neg (by decide), if_neg (by decide), if_neg (by decide), if_neg (by decide), if_pos rfl, datD_ok h]
 unfold patI
 cases isP x <;> rfl
theorem dataB_other {t : Nat} {d : List UInt8} (h1 : t ≠ 1) (h2 : t ≠ 6) (h3 : t ≠ 7) (h4 : t ≠ 10) (h5 : t ≠ 200) : dataB t d = false := by
 unfold dataB tellE
 rw [if_neg h1, if_neg h2, if_neg h3, if_neg h4, if_neg h5]
 rfl

theorem bef_bool {x : It} {n m : Nat} (h : epI x = some (n, m)) (hn : 0 < n ∨ m = 0) : (befI x).isSome = !decide (n = 0 ∧ m = 0) := by
 rw [befI, h]
 simp only [Option.bind_some]
 by_cases h0 : 0 < n
 ·rw [if_pos h0]
  simp
  omega
 ·rw [if_neg h0]
  simp
  omega
theorem bef_none {x : It} (h : epI x = none) : (befI x).isSome = false := by rw [befI, h]; rfl

theorem age_bool {x : It} (hx : 0 ≤ x.n) : (ageI x).isSome = (decide (x.k = 1) && decide (x.n ≤ 4611686018427387903)) := by
 unfold ageI nuP isT
 by_cases h : x.k = 1
 ·simp only [h, if_true, Option.bind_some]
  by_cases h2 : x.n ≤ 4611686018427387903
  ·rw [if_pos (decide_eq_true (by omega))]
   simp [h2]
  ·rw [if_neg (fun h3 => h2 (by have := of_decide_eq_true h3; omega))]
   simp [h2]
 ·simp [h]

theorem decodeN_ok2 {bs : List UInt8} {x : It} (h : decodeN bs = .ok x) : x.right = true ∧ x.l.length ≤ 100000 := by
 unfold decodeN at h
 split at h
 ·cases h
 ·rename_i y m hf
  split at h
  ·cases h
  ·injection h with h
   subst h
   have hb := firstN_back hf
   have hl := (firstN_len hf).1
   have he := hb.1
   have hc := list_few y
   refine ⟨?_, by omega⟩
   by_cases hr : y.right = true
   ·exact hr
   ·rw [It.err, if_neg hr] at he
    cases he

theorem right_k4 {x : It} (h : x.right = true) : x.k = 4 ∨ x.l = [] := by
 obtain ⟨k, n, b, s, l⟩ := x
 simp only [It.right, rightN, Bool.and_eq_true, decide_eq_true_eq] at h
 rcases h.1.2.2.2.2 with h | h
 ·exact .inl h
 ·exact .inr (List.eq_nil_of_length_eq_zero h)

theorem hop_bool {x : It} (hx : x.right = true) (h0 : ∀ y ∈ x.l, 0 ≤ y.n) : (hopI x).isSome = (shapeB x [1, 1] && (decide (((x.l[0]?).map It.n).getD 0 ≤ 255) && decide (((x.l[1]?).map It.n).getD 0 ≤ 255))) := by
 have hk := right_k4 hx
 unfold hopI shapeB
 clear hx
 generalize x.k = k at *
 generalize x.l = l at *
 match l, hk, h0 with
 | [], _, _ => simp
 | [y], _, _ => simp
 | [y0, y1], hk, h0 =>
  have hk4 : k = 4 := by
   rcases hk with h | h
   ·exact h
   ·cases h
  have n0 := h0 y0 (by simp)
  have n1 := h0 y1 (by simp)
  subst hk4
  unfold nuP
  by_cases a : y0.k = 1
  ·by_cases c : y1.k = 1
   ·by_cases q0 : y0.n ≤ 255
    ·by_cases q1 : y1.n ≤ 255
     ·have : y0.n.toNat ≤ 255 ∧ y1.n.toNat ≤ 255 := by omega
      simp [a, c, q0, q1, this]
     ·have : ¬ (y0.n.toNat ≤ 255 ∧ y1.n.toNat ≤ 255) := by omega
      simp [a, c, q0, q1]
    ·have : ¬ (y0.n.toNat ≤ 255 ∧ y1.n.toNat ≤ 255) := by omega
     simp [a, c, q0]
   ·simp [a, c]
  ·simp [a]
 | y0 :: y1 :: y2 :: r, _, _ => simp

theorem rdata_any (t : Nat) (a : Option Addr) (c : Nat) (bs : List UInt8) (w : World) (hcc : bs.length ≤ c) (hl : bs.length ≤ 100000) (hr : RdB w w.heap.size a bs) :
  Calls Tryz.prog 59 #[.int .u64 t, .slice a bs.length c] w fun e w' => e = .returned (.bool (dataB t bs)) ∧ Below w.heap.size w w' := by
 by_cases h1 : t = 1
 ·have d1 : ((t : Int) == 1) = true := by simp; omega
  have HQ : Hid (dataB t bs = true) := by rw [h1]; exact dataB_one bs
  clear h1
  go_enter Tryz.func59, Tryz.ntmps59
  go_wp2_with fail
  go_ret
  exact ⟨by rw [HQ.out]; rfl, Below.refl _ _⟩
 have d1 : ((t : Int) == 1) = false := by simp; omega
 have HD := h_ (rDecode_any a bs.length c bs w rfl hcc hl hr)
 clear hr hcc hl
 go_enter Tryz.func59, Tryz.ntmps59
 go_wp2_with fail
 refine HD.out.mono ?_
 rintro e w1 ⟨hb1, hm⟩
 have HB1 := h_ hb1
 cases hit : decodeN bs with
 | error q =>
  rw [hit] at hm
  have hm : e = .returned (.tuple #[itemV 0 0 [], .int .i64 q]) := hm
  subst hm
  have hq := decodeN_err hit
  have hq0 : ((q : Int) != 0) = true := by simp; omega
  have hq1 : ((q : Int) == 0) = false := by simp; omega
  have HQ := h_ (dataB_err h1 hit)
  clear hit hq hb1 h1
  unfold itemV
  go_wp2_with fail
  go_ret
  exact ⟨by rw [HQ.out]; rfl, below_al HB1.out _⟩
 | ok x =>
  rw [hit] at hm
  obtain ⟨v, rfl, hx⟩ := hm
  obtain ⟨a, c, A, C, rfl⟩ := hx.form
  obtain ⟨w2, hw2⟩ : ∃ w2, w2 = w1.alloc (.cells #[.int .i64 x.k, .int .u64 x.n, .slice a x.b.length c, .string ⟨x.s.toArray⟩, .slice A x.l.length C] 83) := ⟨_, rfl⟩
  have hb2 : Below w1.heap.size w1 w2 := by rw [hw2]; exact below_al bR _
  have HV : Hid (ItV w2 w2.heap.size (.agg #[.int .i64 x.k, .int .u64 x.n, .slice a x.b.length c, .string ⟨x.s.toArray⟩, .slice A x.l.length C]) x) := itS_on hx hb2
  have HB2 := h_ (below_on HB1.out hb2)
  have HR2 : Hid (RowB w2 w1.heap.size [.int .i64 x.k, .int .u64 x.n, .slice a x.b.length c, .string ⟨x.s.toArray⟩, .slice A x.l.length C]) := by rw [hw2]; exact RowB.new w1 _ _
  have HIt := h_ hit
  have HW2 := h_ hw2
  obtain ⟨x0, x1, x2, x3, x4⟩ : w2.cell? ⟨w1.heap.size, 0, none⟩ = some (.int .i64 x.k) ∧ w2.cell? ⟨w1.heap.size, 1, none⟩ = some (.int .u64 x.n) ∧ w2.cell? ⟨w1.heap.size, 2, none⟩ = some (.slice a x.b.length c) ∧ w2.cell? ⟨w1.heap.size, 3, none⟩ = some (.string ⟨x.s.toArray⟩) ∧ w2.cell? ⟨w1.heap.size, 4, none⟩ = some (.slice A x.l.length C) :=
   ⟨HR2.out.1 0 _ rfl, HR2.out.1 1 _ rfl, HR2.out.1 2 _ rfl, HR2.out.1 3 _ rfl, HR2.out.1 4 _ rfl⟩
  rw [hw2] at x0 x1 x2 x3 x4
  clear hit hx hb1 hb2 hw2
  by_cases h6 : t = 6
  ·have d6 : ((t : Int) == 6) = true := by simp; omega
   have HQ : Hid (dataB t bs = (befI x).isSome) := by rw [h6]; exact dataB_6 HIt.out
   clear h6 h1
   go_wp2_with fail
   rw [← HW2.out]
   clear x0 x1 x2 x3 x4
   refine (nmRefOf_any x _ w2 HV.out).mono ?_
   rintro e w3 ⟨hb3, n, m, b, rfl, hcase⟩
   have HB3 := h_ (below_on HB2.out hb3)
   cases b with
   | false =>
    have he : epI x = none := by
     rcases hcase with ⟨h, _⟩ | ⟨_, h, _⟩
     ·cases h
     ·exact h
    have HQ2 : Hid (dataB t bs = false) := HQ.out.trans (bef_none he)
    clear hcase he hb3
    go_wp2_with fail
    go_ret
    exact ⟨by rw [HQ2.out]; rfl, below_al HB3.out _⟩
   | true =>
    have he : epI x = some (n, m) := by
     rcases hcase with ⟨_, h⟩ | ⟨h, _⟩
     ·exact h
     ·cases h
    have HQ2 : Hid (dataB t bs = !decide (n = 0 ∧ m = 0)) := HQ.out.trans (bef_bool he (epI_some (HV.out.nn 2) he).2.1)
    generalize hq : decide (n = 0 ∧ m = 0) = q at *
    have HNb := h_ (refNobody_any n m)
    rw [hq] at HNb
    clear hcase he hb3 hq
    go_wp2_with fail
    refine (HNb.out _).mono ?_
    rintro e w4 ⟨rfl, hb4⟩
    have HB4 := h_ (below_on (below_al HB3.out _) hb4)
    clear hb4
    go_wp2_with fail
    go_ret
    exact ⟨by rw [HQ2.out]; rfl, HB4.out⟩
  have d6 : ((t : Int) == 6) = false := by simp; omega
  by_cases h7 : t = 7
  ·have d7 : ((t : Int) == 7) = true := by simp; omega
   have HQ : Hid (dataB t bs = (decide (x.k = 1) && decide (x.n ≤ 4611686018427387903))) := by rw [h7, dataB_7 HIt.out]; exact age_bool HV.out.parts.1.1
   clear h7 h6 h1
   by_cases hk : x.k = 1
   ·have dk : (x.k == 1) = true := by simp [hk]
    have HQ2 : Hid (dataB t bs = decide (x.n ≤ 4611686018427387903)) := by rw [Hid, HQ.out, decide_eq_true hk, Bool.true_and]
    clear hk
    go_wp2_with fail
    go_ret
    exact ⟨by rw [HQ2.out]; rfl, HW2.out ▸ HB2.out⟩
   ·have dk : (x.k == 1) = false := by simp [hk]
    have HQ2 : Hid (dataB t bs = false) := by rw [Hid, HQ.out, decide_eq_false hk, Bool.false_and]
    clear hk
    go_wp2_with fail
    go_ret
    exact ⟨by rw [HQ2.out]; rfl, HW2.out ▸ HB2.out⟩
  have d7 : ((t : Int) == 7) = false := by simp; omega
  by_cases h10 : t = 10
  ·have d10 : ((t : Int) == 10) = true := by simp; omega
   have HQ : Hid (dataB t bs = (shapeB x [1, 1] && (decide (((x.l[0]?).map It.n).getD 0 ≤ 255) && decide (((x.l[1]?).map It.n).getD 0 ≤ 255)))) := by
    rw [h10, dataB_10 HIt.out]
    exact hop_bool (decodeN_ok2 HIt.out).1 (fun y hy => (HV.out.nn 1).2 y hy)
   clear h10 h7 h6 h1
   obtain ⟨sh, hsh⟩ : ∃ q, q = shapeB x [1, 1] := ⟨_, rfl⟩
   rw [← hsh] at HQ
   have HSH := h_ hsh
   clear hsh
   go_upto_region 13 with fail
   rw [← HW2.out]
   clear x0 x1 x2 x3 x4
   have x0 := HR2.out.1 0 _ rfl
   have x1 := HR2.out.1 1 _ rfl
   have x2 := HR2.out.1 2 _ rfl
   have x3 := HR2.out.1 3 _ rfl
   have x4 := HR2.out.1 4 _ rfl
   go_wp2_with fail
   obtain ⟨W3, hW3⟩ : ∃ W', W' = w2.alloc (.cells #[.int .i64 1, .int .i64 1] 3) := ⟨_, rfl⟩
   have hb3 : Below w2.heap.size w2 W3 := by rw [hW3]; exact below_al bR _
   have HRK : Hid (RdK W3 w2.heap.size [1, 1]) := by rw [hW3]; exact rdK_two w2 _ 1 1 _ bR
   have HB3 := h_ (below_on HB2.out hb3)
   have HF3 := h_ hb3
   rw [← hW3]
   clear hW3 hb3 x0 x1 x2 x3 x4
   refine (shape_ref x _ w2.heap.size 2 2 [1, 1] rfl (by decide) W3 (HV.out.on HF3.out) HRK.out).mono ?_
   rintro e w4 ⟨rfl, hb⟩
   rw [← HSH.out]
   have HF4 : Hid (Below w2.heap.size w2 w4) := below_on HF3.out hb
   have HB4 := h_ (below_on HB3.out hb)
   clear hb
   cases sh
   ·have HQ2 : Hid (dataB t bs = false) := by rw [Hid, HQ.out]; rfl
    go_wp2_with fail
    go_ret
    exact ⟨by rw [HQ2.out]; rfl, HB4.out⟩
   obtain ⟨y0, y1, hxl⟩ : ∃ y0 y1, x.l = [y0, y1] := by
    have h := (shapeB_iff.1 HSH.out.symm).2
    have h2 : x.l.length = 2 := by have := congrArg List.length h; simpa using this
    match hl : x.l, h2 with
    | [y0, y1], _ => exact ⟨y0, y1, rfl⟩
   have HQ3 : Hid (dataB t bs = (decide (y0.n ≤ 255) && decide (y1.n ≤ 255))) := by
    rw [Hid, HQ.out, hxl]
    simp
   obtain ⟨g, o, a0, c0, A0, C0, a1, c1, A1, C1, rfl, hpair⟩ := HV.out.pair hxl
   obtain ⟨_, ⟨_, e1, _⟩, _, f1, _⟩ := hpair w4 HF4.out
   have hr := HR2.out.on HF4.out (by rw [HW2.out]; simp)
   have x4 := hr.1 4 _ rfl
   have hlen : x.l.length = 2 := by rw [hxl]; rfl
   rw [hlen] at x4
   clear hxl hpair hr hlen
   by_cases q0 : y0.n ≤ 255
   ·have HQ4 : Hid (dataB t bs = decide (y1.n ≤ 255)) := by rw [Hid, HQ3.out, decide_eq_true q0]; rfl
    go_wp2_with fail
    go_ret
    exact ⟨by rw [HQ4.out]; rfl, HB4.out⟩
   ·have HQ4 : Hid (dataB t bs = false) := by rw [Hid, HQ3.out, decide_eq_false q0]; rfl
    go_wp2_with fail
    go_ret
    exact ⟨by rw [HQ4.out]; rfl, HB4.out⟩
  have d10 : ((t : Int) == 10) = false := by simp; omega
  by_cases h200 : t = 200
  ·have d200 : ((t : Int) == 200) = true := by simp; omega
   have HQ : Hid (dataB t bs = isP x) := by rw [h200]; exact dataB_200 HIt.out
   clear h200 h10 h7 h6 h1
   go_wp2_with fail
   rw [← HW2.out]
   clear x0 x1 x2 x3 x4
   refine (refPOf_any x _ w2 HV.out (decodeN_ok2 HIt.out).2).mono ?_
   rintro e w3 ⟨hb3, ⟨b, zs, hz, hxz, A3, C3, rfl, _, _⟩ | ⟨hno, rfl⟩⟩
   ·have HB3 := h_ (below_on HB2.out hb3)
    have HQ2 : Hid (dataB t bs = true) := by rw [Hid, HQ.out, hxz]; exact (bisP_back b zs hz).1
    clear hz hxz hb3
    go_wp2_with fail
    go_ret
    exact ⟨by rw [HQ2.out]; rfl, below_al HB3.out _⟩
   ·have HB3 := h_ (below_on HB2.out hb3)
    have HQ2 : Hid (dataB t bs = false) := by rw [Hid, HQ.out, hno]
    clear hno hb3
    go_wp2_with fail
    go_ret
    exact ⟨by rw [HQ2.out]; rfl, below_al HB3.out _⟩
  have d200 : ((t : Int) == 200) = false := by simp; omega
  have HQ := h_ (dataB_other (d := bs) h1 h6 h7 h10 h200)
  clear h1 h6 h7 h10 h200
  go_wp2_with fail
  go_ret
  exact ⟨by rw [HQ.out]; rfl, HW2.out ▸ HB2.out⟩

attribute [local go_sem] Oper.semAt_some

theorem rightB_ref (b : Bl) : rightB b = (decide (1 ≤ b.n) && (decide (b.n ≤ 255) && ((decide (b.t = 1) == decide (b.n = 1)) && (isK b.s && dataB b.t b.d)))) := by
 have h1 : rightB b = (knB b.t && (numB b.t b.n && isK b.s) && dataB b.t b.d) := by
  unfold rightB lookE dataB
  cases h : (knB b.t && (numB b.t b.n && isK b.s)) <;> simp
 have h2 : knB b.t = false → dataB b.t b.d = false := fun h => by
  unfold knB at h
  have h := of_decide_eq_false h
  simp only [not_or] at h
  exact dataB_other h.1 h.2.1 h.2.2.1 h.2.2.2.1 h.2.2.2.2
 have h3 : numB b.t b.n = (decide (1 ≤ b.n) && (decide (b.n ≤ 255) && (decide (b.t = 1) == decide (b.n = 1)))) := by
  unfold numB
  by_cases ht : b.t = 1
  ·by_cases hn : b.n = 1
   ·simp [ht, hn]
   ·simp [ht, hn]
  ·by_cases hn : b.n = 1
   ·simp [ht, hn]
   ·by_cases h0 : 2 ≤ b.n
    ·have : 1 ≤ b.n := by omega
     simp [ht, hn, h0, this]
    ·have : ¬ 1 ≤ b.n := by omega
     simp [ht, hn, h0, this]
 rw [h1, h3]
 generalize decide (1 ≤ b.n) = a1
 generalize decide (b.n ≤ 255) = a2
 generalize (decide (b.t = 1) == decide (b.n = 1)) = a3
 generalize isK b.s = a4
 cases hk : knB b.t
 ·rw [h2 hk]
  cases a1 <;> cases a2 <;> cases a3 <;> cases a4 <;> rfl
 ·cases a1 <;> cases a2 <;> cases a3 <;> cases a4 <;> simp

theorem refBRight_any (b : Bl) (a : Option Addr) (c : Nat) (w : World) (hc : b.d.length ≤ c) (hl : b.d.length ≤ 100000) (hr : RdB w w.heap.size a b.d) :
  Calls Tryz.prog 25 #[.agg #[.int .u64 b.t, .int .u64 b.n, .int .i64 b.s, .slice a b.d.length c]] w fun e w' => e = .returned (.bool (rightB b)) ∧ Below w.heap.size w w' := by
 obtain ⟨W, hW⟩ : ∃ W, W = w.alloc (.cells #[.int .u64 b.t, .int .u64 b.n, .int .i64 b.s, .slice a b.d.length c] 26) := ⟨_, rfl⟩
 have HB0 : Hid (Below w.heap.size w W) := by rw [hW]; exact below_al bR _
 have HX : Hid (W.cell? ⟨w.heap.size, 0, none⟩ = some (.int .u64 b.t) ∧ W.cell? ⟨w.heap.size, 1, none⟩ = some (.int .u64 b.n) ∧ W.cell? ⟨w.heap.size, 2, none⟩ = some (.int .i64 b.s) ∧ W.cell? ⟨w.heap.size, 3, none⟩ = some (.slice a b.d.length c)) := by
  rw [hW]
  exact bbox bR
 have HRt : Hid (rightB b = (decide (1 ≤ b.n) && (decide (b.n ≤ 255) && ((decide (b.t = 1) == decide (b.n = 1)) && (isK b.s && dataB b.t b.d))))) := rightB_ref b
 have HKd := h_ (fun w => refKind_any b.s w)
 have HDt := h_ (rdata_any b.t a c b.d W hc hl (hr.below HB0.out |>.mono HB0.out.size))
 have HW := h_ hW
 clear hW hr hc hl
 obtain ⟨x0, x1, x2, x3⟩ := HX.out
 rw [HW.out] at x0 x1 x2 x3
 by_cases h1 : 1 ≤ b.n
 rotate_left
 ·have d1 : decide ((1 : Int) ≤ (b.n : Int)) = false := decide_eq_false (by omega)
  have HQ : Hid (rightB b = false) := by rw [Hid, HRt.out, decide_eq_false h1]; rfl
  clear h1
  go_enter Tryz.func25, Tryz.ntmps25
  go_wp2_with fail
  rw [← HW.out]
  go_ret
  exact ⟨by rw [HQ.out]; rfl, HB0.out⟩
 by_cases h2 : b.n ≤ 255
 rotate_left
 ·have d1 : decide ((1 : Int) ≤ (b.n : Int)) = true := decide_eq_true (by omega)
  have d2 : decide ((b.n : Int) ≤ 255) = false := decide_eq_false (by omega)
  have HQ : Hid (rightB b = false) := by rw [Hid, HRt.out, decide_eq_false h2, Bool.false_and, Bool.and_false]
  clear h1 h2
  go_enter Tryz.func25, Tryz.ntmps25
  go_wp2_with fail
  rw [← HW.out]
  go_ret
  exact ⟨by rw [HQ.out]; rfl, HB0.out⟩
 have HR2 : Hid (rightB b = ((decide (b.t = 1) == decide (b.n = 1)) && (isK b.s && dataB b.t b.d))) := by rw [Hid, HRt.out, decide_eq_true h1, decide_eq_true h2, Bool.true_and, Bool.true_and]
 have d1 : decide ((1 : Int) ≤ (b.n : Int)) = true := decide_eq_true (by omega)
 have d2 : decide ((b.n : Int) ≤ 255) = true := decide_eq_true (by omega)
 obtain ⟨p1, hp1⟩ : ∃ p, p = decide (b.t = 1) := ⟨_, rfl⟩
 obtain ⟨p2, hp2⟩ : ∃ p, p = decide (b.n = 1) := ⟨_, rfl⟩
 have d3 : ((b.t : Int) == 1) = p1 := by rw [hp1, Bool.eq_iff_iff]; simp; omega
 have d4 : ((b.n : Int) == 1) = p2 := by rw [hp2, Bool.eq_iff_iff]; simp; omega
 rw [← hp1, ← hp2] at HR2
 clear hp1 hp2 h1 h2 HRt
 by_cases hpp : p1 = p2
 rotate_left
 ·have d5 : (p1 == p2) = false := by simpa using hpp
  have HQ : Hid (rightB b = false) := by rw [Hid, HR2.out, d5]; rfl
  clear hpp
  go_enter Tryz.func25, Tryz.ntmps25
  go_wp2_with fail
  rw [← HW.out]
  go_ret
  exact ⟨by rw [HQ.out]; rfl, HB0.out⟩
 subst hpp
 have HR3 : Hid (rightB b = (isK b.s && dataB b.t b.d)) := by rw [Hid, HR2.out, beq_self_eq_true, Bool.true_and]
 clear HR2
 obtain ⟨q, hq⟩ : ∃ q, q = isK b.s := ⟨_, rfl⟩
 rw [← hq] at HKd HR3
 clear hq
 go_enter Tryz.func25, Tryz.ntmps25
 go_wp2_with fail
 rw [← HW.out]
 refine (HKd.out _).mono ?_
 rintro e w1 ⟨rfl, h9⟩
 rw [← h9]
 clear h9 w1
 cases q
 ·go_wp2_with fail
  go_ret
  exact ⟨by rw [HR3.out]; rfl, HB0.out⟩
 clear x0 x1 x2 x3
 obtain ⟨x0, x1, x2, x3⟩ := HX.out
 go_wp2_with fail
 refine HDt.out.mono ?_
 rintro e w1 ⟨rfl, hb1⟩
 have HB1 := h_ (below_on HB0.out hb1)
 clear hb1 x0 x1 x2 x3
 go_wp2_with fail
 go_ret
 exact ⟨by rw [HR3.out]; rfl, HB1.out⟩

attribute [local go_sem] Oper.semAt_some

theorem liConsB {w : World} {S : Nat → Prop} {x : It} {l : List It} {v0 v1 v2 v3 v4 : Value} {ys : List Value} (hx : ItS w S (.agg #[v0, v1, v2, v3, v4]) x) (h : LI w S ys l) : LI w S (v0 :: v1 :: v2 :: v3 :: v4 :: ys) (x :: l) :=
 LI.app (l := [x]) (m := l) h (LI.one hx)

theorem rowItemsB {w : World} {ys : List Value} {l : List It} {cs : Array Value} {t : TypeId} (hcs : cs.toList = ys) (hl : LI (w.alloc (.cells cs t)) (newB (bare (w.alloc (.cells cs t))) (w.alloc (.cells cs t))) ys l) (hn : l.length ≤ 1000) :
  ItV (w.alloc (.cells cs t)) (w.alloc (.cells cs t)).heap.size (listV (some ⟨w.heap.size, 0, none⟩) l.length l.length) (itLs l) ∧ SrcI (w.alloc (.cells cs t)) (some ⟨w.heap.size, 0, none⟩) l := by
 have hc : ∀ j u, ys[j]? = some u → (w.alloc (.cells cs t)).cell? ⟨w.heap.size, 0 + j, none⟩ = some u := fun j u hu => by
  rw [Nat.zero_add, World.cell?_alloc_mark, ← hu, ← hcs]
  simp
 have hg : w.heap.size < (w.alloc (.cells cs t)).heap.size := by simp
 refine ⟨ItS.itV (fun b q => q.2) _ (itS_list rfl (Nat.le_refl _) (by omega) ⟨Nat.zero_le _, hg⟩ (LI.itSL hl hc)), ys, hl, .inr ⟨_, 0, rfl, hg, hc⟩⟩

theorem itS_octets {w : World} {a : Option Addr} {c : Nat} {bs : List UInt8} (hc : bs.length ≤ c) (hs : bs.length ≤ 140737488355328) (hr : RdB w w.heap.size a bs) :
  ItS w (newB (bare w) w) (.agg #[.int .i64 2, .int .u64 0, .slice a bs.length c, .string ⟨#[]⟩, .slice none 0 0]) (.mk 2 0 bs [] []) := by
 simp only [ItS]
 refine ⟨none, ⟨a, c, 0, rfl, ⟨hc, Nat.le_refl _⟩, ?_, ⟨by decide, by decide⟩, ⟨by decide, by decide⟩, hs, Nat.zero_le _, Nat.zero_le _⟩, .inl trivial⟩
 rcases hr with h | ⟨b, o, e, hlt, hc⟩
 ·exact .inl h
 ·exact .inr ⟨b, o, e, ⟨Nat.zero_le _, hlt⟩, hc⟩

theorem ritemsB_any (b : Bl) (hb : b.ok) (hs : 0 ≤ b.s ∧ b.s ≤ 2) (a : Option Addr) (c : Nat) (w : World) (hc : b.d.length ≤ c) (hl : b.d.length ≤ 140737488355328) (hr : RdB w w.heap.size a b.d) :
  Calls Tryz.prog 30 #[.agg #[.int .u64 b.t, .int .u64 b.n, .int .i64 b.s, .slice a b.d.length c]] w fun e w' => ∃ g, e = .returned (.slice (some ⟨g, 0, none⟩) 4 4) ∧ ItV w' w'.heap.size (listV (some ⟨g, 0, none⟩) 4 4) (itLs (itsB b)) ∧ SrcI w' (some ⟨g, 0, none⟩) (itsB b) ∧ Below w.heap.size w w' := by
 obtain ⟨W, hW⟩ : ∃ W, W = w.alloc (.cells #[.int .u64 b.t, .int .u64 b.n, .int .i64 b.s, .slice a b.d.length c] 26) := ⟨_, rfl⟩
 have HB0 : Hid (Below w.heap.size w W) := by rw [hW]; exact below_al bR _
 have HX : Hid (∀ w', Below W.heap.size W w' → w'.cell? ⟨w.heap.size, 0, none⟩ = some (.int .u64 b.t) ∧ w'.cell? ⟨w.heap.size, 1, none⟩ = some (.int .u64 b.n) ∧ w'.cell? ⟨w.heap.size, 2, none⟩ = some (.int .i64 b.s) ∧ w'.cell? ⟨w.heap.size, 3, none⟩ = some (.slice a b.d.length c)) := fun w' h => by
  rw [hW] at h
  exact bbox h
 have HRd : Hid (∀ w', Below w.heap.size w w' → RdB w' w'.heap.size a b.d) := fun w' h => (hr.below h).mono h.size
 have HW := h_ hW
 have ht1 := hb.t
 have hn1 := hb.n
 have hcs : IntKind.u64.wrap b.s = b.s := by rw [IntKind.wrap_u64]; omega
 clear hW hr
 go_enter Tryz.func30, Tryz.ntmps30
 go_wp2_with fail
 rw [← HW.out]
 have F : Below W.heap.size W W.drew := bR.drew
 refine wp_region_held_drew (S := fun w' => w'.cell? ⟨w.heap.size, 0, none⟩ = some (.int .u64 b.t) ∧ w'.cell? ⟨w.heap.size, 1, none⟩ = some (.int .u64 b.n) ∧ w'.cell? ⟨w.heap.size, 2, none⟩ = some (.int .i64 b.s) ∧ w'.cell? ⟨w.heap.size, 3, none⟩ = some (.slice a b.d.length c)) (by kernel_rfl) (HX.out _ F) (fun hHeld => ?_)
 refine takeL 0 (v := ?_) ?_ ‹_› ?_
 rotate_left
 ·intro w hSw; (try dsimp only at hSw); go_simp; all_goals with_reducible rfl
 simp only [Act.put, zA, zB, zC]
 refine takeL 1 (v := ?_) ?_ ‹_› ?_
 rotate_left
 ·intro w hSw; (try dsimp only at hSw); go_simp; all_goals with_reducible rfl
 simp only [Act.put, zA, zB, zC]
 refine takeL 3 (v := ?_) ?_ ‹_› ?_
 rotate_left
 ·intro w hSw; (try dsimp only at hSw); go_simp; all_goals with_reducible rfl
 simp only [Act.put, zA, zB, zC]
 refine takeL 4 (v := ?_) ?_ ‹_› ?_
 rotate_left
 ·intro w hSw; (try dsimp only at hSw); go_simp; all_goals with_reducible rfl
 simp only [Act.put, zA, zB, zC]
 refine takeL 6 (v := ?_) ?_ ‹_› ?_
 rotate_left
 ·intro w hSw; (try dsimp only at hSw); go_simp; all_goals with_reducible rfl
 simp only [Act.put, zA, zB, zC]
 refine takeL 7 (v := ?_) ?_ ‹_› ?_
 rotate_left
 ·intro w hSw; (try dsimp only at hSw); go_simp; all_goals with_reducible rfl
 simp only [Act.put, zA, zB, zC]
 refine takeL 8 (v := ?_) ?_ ‹_› ?_
 rotate_left
 ·intro w hSw; (try dsimp only at hSw); go_simp; all_goals with_reducible rfl
 simp only [Act.put, zA, zB, zC]
 refine takeL 10 (v := ?_) ?_ ‹_› ?_
 rotate_left
 ·intro w hSw; (try dsimp only at hSw); go_simp; all_goals with_reducible rfl
 simp only [Act.put, zA, zB, zC]
 refine takeL 11 (v := ?_) ?_ ‹_› ?_
 rotate_left
 ·intro w hSw; (try dsimp only at hSw); go_simp; all_goals with_reducible rfl
 simp only [Act.put, zA, zB, zC]
 refine wpAnyH_ready (rs := [2]) (by kernel_rfl) (by simp) (.cons rfl (fun K hK => ?_) .nil)
 go_simp
 refine (refUint_any _ _).mono ?_
 rintro e w0 ⟨rfl, hb⟩
 replace F := below_on F hb
 clear hb
 refine hK.out _ _ (HX.out _ F) (fun hHeld => ?_)
 clear hK K
 try simp only [Act.put, zA, zB, zC]
 refine wpAnyH_ready (rs := [5]) (by kernel_rfl) (by simp) (.cons rfl (fun K hK => ?_) .nil)
 go_simp
 refine (refUint_any _ _).mono ?_
 rintro e w1 ⟨rfl, hb⟩
 replace F := below_on F hb
 clear hb
 refine hK.out _ _ (HX.out _ F) (fun hHeld => ?_)
 clear hK K
 try simp only [Act.put, zA, zB, zC]
 refine wpAnyH_ready (rs := [9]) (by kernel_rfl) (by simp) (.cons rfl (fun K hK => ?_) .nil)
 go_simp
 refine (refUint_any _ _).mono ?_
 rintro e w2 ⟨rfl, hb⟩
 replace F := below_on F hb
 clear hb
 refine hK.out _ _ (HX.out _ F) (fun hHeld => ?_)
 clear hK K
 try simp only [Act.put, zA, zB, zC]
 refine wpAnyH_ready (rs := [12]) (by kernel_rfl) (by simp) (.cons rfl (fun K hK => ?_) .nil)
 go_simp
 refine (refOctets_any _ _ _ _).mono ?_
 rintro e w3 ⟨rfl, hb⟩
 replace F := below_on F hb
 clear hb
 refine hK.out _ _ (HX.out _ F) (fun hHeld => ?_)
 clear hK K
 try simp only [Act.put, zA, zB, zC]
 refine wpAnyH_ready (rs := [13]) (by kernel_rfl) (by simp) (.cons rfl (fun K hK => ?_) .nil)
 go_simp
 have hbA := below_al (Below.refl w3.heap.size w3) (.cells #[.int .i64 1, .int .u64 b.t, .slice none 0 0, .string ⟨#[]⟩, .slice none 0 0, .int .i64 1, .int .u64 b.n, .slice none 0 0, .string ⟨#[]⟩, .slice none 0 0, .int .i64 1, .int .u64 b.s, .slice none 0 0, .string ⟨#[]⟩, .slice none 0 0, .int .i64 2, .int .u64 0, .slice a b.d.length c, .string ⟨#[]⟩, .slice none 0 0] 83)
 replace F := below_on F hbA
 clear hbA
 refine hK.out _ _ (HX.out _ F) (fun hHeld => ?_)
 clear hK K
 try simp only [Act.put, zA, zB, zC]
 refine takeL 14 (v := ?_) ?_ ‹_› ?_
 rotate_left
 ·intro w hSw; (try dsimp only at hSw); go_simp; all_goals with_reducible rfl
 simp only [Act.put, zA, zB, zC]
 clear hHeld
 refine wpAnyH_done (by kernel_rfl) ?_ _
 have HF := h_ (HB0.out.trans (F.mono HB0.out.size))
 have hli : LI (w3.alloc (.cells #[.int .i64 1, .int .u64 b.t, .slice none 0 0, .string ⟨#[]⟩, .slice none 0 0, .int .i64 1, .int .u64 b.n, .slice none 0 0, .string ⟨#[]⟩, .slice none 0 0, .int .i64 1, .int .u64 b.s, .slice none 0 0, .string ⟨#[]⟩, .slice none 0 0, .int .i64 2, .int .u64 0, .slice a b.d.length c, .string ⟨#[]⟩, .slice none 0 0] 83)) (newB (bare (w3.alloc (.cells #[.int .i64 1, .int .u64 b.t, .slice none 0 0, .string ⟨#[]⟩, .slice none 0 0, .int .i64 1, .int .u64 b.n, .slice none 0 0, .string ⟨#[]⟩, .slice none 0 0, .int .i64 1, .int .u64 b.s, .slice none 0 0, .string ⟨#[]⟩, .slice none 0 0, .int .i64 2, .int .u64 0, .slice a b.d.length c, .string ⟨#[]⟩, .slice none 0 0] 83))) (w3.alloc (.cells #[.int .i64 1, .int .u64 b.t, .slice none 0 0, .string ⟨#[]⟩, .slice none 0 0, .int .i64 1, .int .u64 b.n, .slice none 0 0, .string ⟨#[]⟩, .slice none 0 0, .int .i64 1, .int .u64 b.s, .slice none 0 0, .string ⟨#[]⟩, .slice none 0 0, .int .i64 2, .int .u64 0, .slice a b.d.length c, .string ⟨#[]⟩, .slice none 0 0] 83))) [.int .i64 1, .int .u64 b.t, .slice none 0 0, .string ⟨#[]⟩, .slice none 0 0, .int .i64 1, .int .u64 b.n, .slice none 0 0, .string ⟨#[]⟩, .slice none 0 0, .int .i64 1, .int .u64 b.s, .slice none 0 0, .string ⟨#[]⟩, .slice none 0 0, .int .i64 2, .int .u64 0, .slice a b.d.length c, .string ⟨#[]⟩, .slice none 0 0] (itsB b) := by
  refine liConsB (itS_uint _ _ b.t ⟨by omega, by omega⟩) (liConsB (itS_uint _ _ b.n ⟨by omega, by omega⟩) (liConsB (itS_uint _ _ b.s ⟨by omega, by omega⟩) (LI.one (itS_octets hc hl (HRd.out _ HF.out)))))
 have HRow := h_ (rowItemsB (w := w3) (t := 83) (cs := #[.int .i64 1, .int .u64 b.t, .slice none 0 0, .string ⟨#[]⟩, .slice none 0 0, .int .i64 1, .int .u64 b.n, .slice none 0 0, .string ⟨#[]⟩, .slice none 0 0, .int .i64 1, .int .u64 b.s, .slice none 0 0, .string ⟨#[]⟩, .slice none 0 0, .int .i64 2, .int .u64 0, .slice a b.d.length c, .string ⟨#[]⟩, .slice none 0 0]) (l := itsB b) rfl hli (show (itsB b).length ≤ 1000 from (show 4 ≤ 1000 by decide)))
 clear hli F
 go_wp2_with fail
 go_ret
 exact ⟨_, rfl, HRow.out.1, HRow.out.2, HF.out⟩

theorem rEncodeB_any (b : Bl) (hb : b.ok) (hs : 0 ≤ b.s ∧ b.s ≤ 2) (a : Option Addr) (c : Nat) (w : World) (hc : b.d.length ≤ c) (hl : b.d.length ≤ 100000) (hr : RdB w w.heap.size a b.d) :
  Calls Tryz.prog 12 #[.agg #[.int .u64 b.t, .int .u64 b.n, .int .i64 b.s, .slice a b.d.length c]] w (JoinP w (encK b b.s.toNat)) := by
 obtain ⟨k, hk, hks⟩ : ∃ k : Nat, k ≤ 2 ∧ b.s = (k : Int) := ⟨b.s.toNat, by omega, by omega⟩
 have e1 : b.s.toNat = k := by omega
 have hz : sealN k (itsB b) = encK b k := by
  rw [encK_it]
  unfold sealN
  by_cases h : wdN k = 0
  ·rw [if_pos h, itB2, if_pos h, List.append_nil]
  ·rw [if_neg h, itB2, if_neg h, zeroK, itB2, if_neg h]
 have hIt := fun w' (h : Below w.heap.size w w') => ritemsB_any b hb hs a c w' hc (by omega) ((hr.below h).mono h.size)
 have h5 : (bytesL (itsB b)).length ≤ 100100 := by
  have e : bytesL (itsB b) = headB 0 (b.t : Int) ++ (headB 0 (b.n : Int) ++ (headB 0 b.s ++ (headB 2 (b.d.length : Int) ++ b.d))) := by simp [itsB, itU, bytesL, It.bytes, ownB1, ownB2]
  have q0 := (head_length 0 (b.t : Int)).2
  have q1 := (head_length 0 (b.n : Int)).2
  have q2 := (head_length 0 b.s).2
  have q3 := (head_length 2 (b.d.length : Int)).2
  rw [e]
  simp only [List.length_append]
  omega
 have hsub : (itLs (itsB b)).bytes.length ≤ 1000000 := by
  have e : (itLs (itsB b)).bytes = headB 4 ((itsB b).length : Int) ++ bytesL (itsB b) := by simp [itLs, It.bytes, ownB4]
  have h4 := (head_length 4 ((itsB b).length : Int)).2
  rw [e, List.length_append]
  omega
 have hHd : ∀ bs, bs.length = wdN k → (itLs (itsB b ++ [.mk 2 0 bs [] []])).bytes.length ≤ 1000000 := fun bs hb => by
  have e : (itLs (itsB b ++ [.mk 2 0 bs [] []])).bytes = headB 4 ((itsB b ++ [It.mk 2 0 bs [] []]).length : Int) ++ (bytesL (itsB b) ++ (headB 2 (bs.length : Int) ++ bs)) := by simp [itsB, itU, itLs, It.bytes, ownB4, bytesL, ownB1, ownB2]
  have h4 := (head_length 4 ((itsB b ++ [It.mk 2 0 bs [] []]).length : Int)).2
  have h2 := (head_length 2 (bs.length : Int)).2
  have h3 : wdN k ≤ 4 := by
   have : k = 0 ∨ k = 1 ∨ k = 2 := by omega
   rcases this with h | h | h <;> rw [h] <;> decide
  have l1 : ∀ (a b c d : List UInt8), (a ++ (b ++ (c ++ d))).length = a.length + (b.length + (c.length + d.length)) := fun a b c d => by simp
  rw [e, l1]
  omega
 have hrr : (itLs (itsB b)).right = true := by
  have h := itB2_right b 0 []
  rw [itB2, if_pos rfl, List.append_nil] at h
  exact h
 have hrb : ∀ bs, (itLs (itsB b ++ [.mk 2 0 bs [] []])).right = true := fun bs => by
  have h := itB2_right b 1 bs
  rw [itB2, if_neg (by decide)] at h
  exact h
 rw [e1, ← hz]
 obtain ⟨W, hW⟩ : ∃ W, W = w.alloc (.cells #[.int .u64 b.t, .int .u64 b.n, .int .i64 b.s, .slice a b.d.length c] 26) := ⟨_, rfl⟩
 have HB0 : Hid (Below w.heap.size w W) := by rw [hW]; exact below_al bR _
 have HX : Hid (∀ w', Below W.heap.size W w' → w'.cell? ⟨w.heap.size, 0, none⟩ = some (.int .u64 b.t) ∧ w'.cell? ⟨w.heap.size, 1, none⟩ = some (.int .u64 b.n) ∧ w'.cell? ⟨w.heap.size, 2, none⟩ = some (.int .i64 b.s) ∧ w'.cell? ⟨w.heap.size, 3, none⟩ = some (.slice a b.d.length c)) := fun w' h => by
  rw [hW] at h
  exact bbox h
 have HW := h_ hW
 have HI := h_ hIt
 have HSe := h_ (fun (A : Option Addr) (w : World) (hit : ItV w w.heap.size (listV A 4 4) (itLs (itsB b))) (hs : SrcI w A (itsB b)) (hn : A = none → itsB b = []) => refSealed_any k hk A 4 (itsB b) w (show (itsB b).length ≤ 1000 from (show 4 ≤ 1000 by decide)) hit hs hn hrr hrb hsub hHd)
 have HKs := h_ hks
 clear hW hIt h5 hsub hHd hrr hrb hz e1 hks hr
 go_enter Tryz.func12, Tryz.ntmps12
 go_wp2_with fail
 rw [← HW.out]
 have F : Below W.heap.size W W.drew := bR.drew
 refine wp_region_held_drew (S := fun w' => w'.cell? ⟨w.heap.size, 0, none⟩ = some (.int .u64 b.t) ∧ w'.cell? ⟨w.heap.size, 1, none⟩ = some (.int .u64 b.n) ∧ w'.cell? ⟨w.heap.size, 2, none⟩ = some (.int .i64 b.s) ∧ w'.cell? ⟨w.heap.size, 3, none⟩ = some (.slice a b.d.length c)) (by kernel_rfl) (HX.out _ F) (fun hHeld => ?_)
 refine takeL 0 (v := ?_) ?_ ‹_› ?_
 rotate_left
 ·intro w hSw; (try dsimp only at hSw); go_simp; all_goals with_reducible rfl
 simp only [Act.put, zA, zB, zC]
 refine takeL 2 (v := ?_) ?_ ‹_› ?_
 rotate_left
 ·intro w hSw; (try dsimp only at hSw); go_simp; all_goals with_reducible rfl
 simp only [Act.put, zA, zB, zC]
 refine takeL 3 (v := ?_) ?_ ‹_› ?_
 rotate_left
 ·intro w hSw; (try dsimp only at hSw); go_simp; all_goals with_reducible rfl
 simp only [Act.put, zA, zB, zC]
 refine wpAnyH_ready (rs := [1]) (by kernel_rfl) (by simp) (.cons rfl (fun K hK => ?_) .nil)
 go_simp
 refine (HI.out _ (HB0.out.trans (F.mono HB0.out.size))).mono ?_
 rintro e w1 ⟨g, rfl, hit, hsr, hb⟩
 replace F := below_on F hb
 have HIt := h_ hit
 have HSr := h_ hsr
 clear hit hsr hb
 refine hK.out _ _ (HX.out _ F) (fun hHeld => ?_)
 clear hK K
 try simp only [Act.put, zA, zB, zC]
 refine wpAnyH_ready (rs := [4]) (by kernel_rfl) (by simp) (.cons rfl (fun K hK => ?_) .nil)
 go_simp
 rw [HKs.out]
 refine (HSe.out (some ⟨g, 0, none⟩) w1 HIt.out HSr.out (fun h => by cases h)).mono ?_
 rintro e w2 ⟨u, rfl, hown, hb⟩
 have HOw : Hid (OwnV w2 w.heap.size 5 u ((sealN k (itsB b)).map encB)) := ⟨hown.1, hown.2.imp id fun ⟨g, cap, cur, e, h0, r⟩ => ⟨g, cap, cur, e, Nat.le_trans (HB0.out.trans (F.mono HB0.out.size)).size h0, r⟩⟩
 replace F := below_on F hb
 clear hown hb
 refine hK.out _ _ (HX.out _ F) (fun hHeld => ?_)
 clear hK K
 try simp only [Act.put, zA, zB, zC]
 refine takeL 5 (v := ?_) ?_ ‹_› ?_
 rotate_left
 ·intro w hSw; (try dsimp only at hSw); go_simp; all_goals with_reducible rfl
 simp only [Act.put, zA, zB, zC]
 clear hHeld
 refine wpAnyH_done (by kernel_rfl) ?_ _
 have HF := h_ (HB0.out.trans (F.mono HB0.out.size))
 clear F
 go_wp2_with fail
 go_ret
 exact ⟨u, rfl, HOw.out, HF.out⟩

attribute [local go_sem] Oper.semAt_some

theorem zeroK_err3 {b : Bl} {k : Nat} (h : 65536 < (zeroK b k).bytes.length) : (zeroK b k).err = 3 := by
 have h1 : (zeroK b k).right = true := itB2_right _ _ _
 have h2 : (zeroK b k).depth ≤ 8 := itB2_depth8 _ _ _
 rw [It.err, if_pos h1, if_neg (by omega), if_pos h]

theorem errB_no {b : Bl} (h : rightB b = false) : errB b = 2 := by rw [errB, h]; rfl
theorem errB_yes {b : Bl} (h : rightB b = true) : errB b = if 65536 < (encK b b.s.toNat).length then 3 else 0 := by
 rw [errB, if_pos h, encK_len]
 split
 ·rename_i h1
  exact zeroK_err3 h1
 ·rename_i h1
  exact zeroK_err.2 (by omega)

theorem refBCheck_any (b : Bl) (hb : b.ok) (a : Option Addr) (c : Nat) (w : World) (hc : b.d.length ≤ c) (hl : b.d.length ≤ 70000) (hr : RdB w w.heap.size a b.d) :
  Calls Tryz.prog 9 #[.agg #[.int .u64 b.t, .int .u64 b.n, .int .i64 b.s, .slice a b.d.length c]] w fun e w' => e = .returned (.int .i64 (errB b)) ∧ Below w.heap.size w w' := by
 obtain ⟨W, hW⟩ : ∃ W, W = w.alloc (.cells #[.int .u64 b.t, .int .u64 b.n, .int .i64 b.s, .slice a b.d.length c] 26) := ⟨_, rfl⟩
 have HB0 : Hid (Below w.heap.size w W) := by rw [hW]; exact below_al bR _
 have HX : Hid (∀ w', Below W.heap.size W w' → w'.cell? ⟨w.heap.size, 0, none⟩ = some (.int .u64 b.t) ∧ w'.cell? ⟨w.heap.size, 1, none⟩ = some (.int .u64 b.n) ∧ w'.cell? ⟨w.heap.size, 2, none⟩ = some (.int .i64 b.s) ∧ w'.cell? ⟨w.heap.size, 3, none⟩ = some (.slice a b.d.length c)) := fun w' h => by
  rw [hW] at h
  exact bbox h
 have HRi := h_ (refBRight_any b a c W hc (by omega) ((hr.below HB0.out).mono HB0.out.size))
 have HEn : Hid (∀ w', Below W.heap.size W w' → rightB b = true → Calls Tryz.prog 12 #[.agg #[.int .u64 b.t, .int .u64 b.n, .int .i64 b.s, .slice a b.d.length c]] w' (JoinP w' (encK b b.s.toNat))) := fun w' h hrt => by
  obtain ⟨k, hk, hks⟩ := rightB_k hrt
  exact rEncodeB_any b hb (by omega) a c w' hc (by omega) (((hr.below HB0.out).mono HB0.out.size |>.below h).mono h.size)
 have HNo := h_ (fun h => errB_no (b := b) h)
 have HYes := h_ (fun h => errB_yes (b := b) h)
 have HW := h_ hW
 have d7 : ¬ (70000 : Int) < (b.d.length : Int) := by omega
 clear hW hr hc hl
 obtain ⟨x0, x1, x2, x3⟩ := HX.out W bR
 rw [HW.out] at x0 x1 x2 x3
 go_enter Tryz.func9, Tryz.ntmps9
 go_wp2_with fail
 clear x0 x1 x2 x3
 rw [← HW.out]
 refine HRi.out.mono ?_
 rintro e w1 ⟨rfl, hb1⟩
 have HB1 := h_ (below_on HB0.out hb1)
 have HK1 := h_ hb1
 clear hb1
 cases hq : rightB b
 ·have HQ := h_ (HNo.out hq)
  clear hq
  go_wp2_with fail
  go_ret
  exact ⟨by rw [HQ.out]; rfl, HB1.out⟩
 have HQ := h_ (HYes.out hq)
 have HE := h_ (HEn.out w1 HK1.out hq)
 clear hq
 obtain ⟨x0, x1, x2, x3⟩ := HX.out w1 HK1.out
 go_wp2_with fail
 refine HE.out.mono ?_
 rintro e w2 ⟨u, rfl, hown, hb2⟩
 obtain ⟨A, Cu, rfl, _, _, _⟩ := hown.bytes
 have HB2 := h_ (below_on HB1.out hb2)
 clear hown hb2 x0 x1 x2 x3
 generalize (encK b b.s.toNat).length = L at *
 by_cases h6 : 65536 < L
 ·have d6 : (65536 : Int) < (L : Int) := by omega
  have HQ2 : Hid (errB b = 3) := by rw [Hid, HQ.out, if_pos h6]
  clear h6
  go_wp2_with fail
  go_ret
  exact ⟨by rw [HQ2.out]; rfl, HB2.out⟩
 ·have d6 : ¬ (65536 : Int) < (L : Int) := by omega
  have HQ2 : Hid (errB b = 0) := by rw [Hid, HQ.out, if_neg h6]
  clear h6
  go_wp2_with fail
  go_ret
  exact ⟨by rw [HQ2.out]; rfl, HB2.out⟩

end Go.Proofs.YtiahakbkagipkaaGreatDoor
