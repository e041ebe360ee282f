/- Joined texts. -/
import Derived.Test.YtiahakbkagipkaaGreatDoorZBl
import Derived.Test.YtiahakbkagipkaaGreatDoorZCy
import Derived.Test.YtiahakbkagipkaaGreatDoorZNz
import Derived.Test.YtiahakbkagipkaaGreatDoorZPz
import Derived.Test.YtiahakbkagipkaaGreatDoorZBk
import Derived.Test.YtiahakbkagipkaaGreatDoorZKh
set_option maxHeartbeats 16000000
set_option linter.unusedSimpArgs false
set_option linter.unusedVariables false
set_option maxRecDepth 100000
namespace Go.Proofs.YtiahakbkagipkaaGreatDoor
open Go Go.RowKit Go.Shelf

attribute [local go_sem] Oper.semAt_some

def dataB (t : Nat) (d : List UInt8) : Bool := (tellE ex0 t d).isSome

theorem dataB_one (d : List UInt8) : dataB 1 d = true := rfl
theorem dataB_err {t : Nat} {d : List UInt8} {c : Nat} (h1 : t ≠ 1) (h : decodeN d = .error c) : dataB t d = false := by
 unfold dataB tellE
 rw [if_neg h1, datD_err h, datD_err h, datD_err h, datD_err h]
 repeat (split; rfl)
 rfl
theorem dataB_6 {d : List UInt8} {x : It} (h : decodeN d = .ok x) : dataB 6 d = (befI x).isSome := by
 unfold dataB tellE
 rw [if_neg (by decide), if_pos rfl, datD_ok h]
 cases befI x <;> rfl
theorem dataB_7 {d : List UInt8} {x : It} (h : decodeN d = .ok x) : dataB 7 d = (ageI x).isSome := by
 unfold dataB tellE
 rw [if_neg (by decide), if_neg (by decide), if_pos rfl, datD_ok h]
 cases ageI x <;> rfl
theorem dataB_10 {d : List UInt8} {x : It} (h : decodeN d = .ok x) : dataB 10 d = (hopI x).isSome := by
 unfold dataB tellE
 rw [if_neg (by decide), if_neg (by decide), if_neg (by decide), if_pos rfl, datD_ok h]
 cases hopI x <;> rfl
theorem dataB_200 {d : List UInt8} {x : It} (h : decodeN d = .ok x) : dataB 200 d = isP x := by
 unfold dataB tellE
 rw [if_neg (by decide), if_neg (by decide), if_neg (by decide), if_neg (by decide), if_pos rfl, datD_ok h]
 unfold patI
 cases isP x <;> rfl
theorem dataB_other {t : Nat} {d : List UInt8} (h1 : t ≠ 1) (h2 : t ≠ 6) (h3 : t ≠ 7) (h4 : t ≠ 10) (h5 : t ≠ 200) : dataB t d = false := by
 unfold dataB tellE
 rw [if_neg h1, if_neg h2, if_neg h3, if_neg h4, if_neg h5]
 rfl

theorem bef_bool {x : It} {n m : Nat} (h : epI x = some (n, m)) (hn : 0 < n ∨ m = 0) : (befI x).isSome = !decide (n = 0 ∧ m = 0) := by
 rw [befI, h]
 simp only [Option.bind_some]
 by_cases h0 : 0 < n
 ·rw [if_pos h0]
  simp
  omega
 ·rw [if_neg h0]
  simp
  omega
theorem bef_none {x : It} (h : epI x = none) : (befI x).isSome = false := by rw [befI, h]; rfl

theorem age_bool {x : It} (hx : 0 ≤ x.n) : (ageI x).isSome = (decide (x.k = 1) && decide (x.n ≤ 4611686018427387903)) := by
 unfold ageI nuP isT
 by_cases h : x.k = 1
 ·simp only [h, if_true, Option.bind_some]
  by_cases h2 : x.n ≤ 4611686018427387903
  ·rw [if_pos (decide_eq_true (by omega))]
   simp [h2]
  ·rw [if_neg (fun h3 => h2 (by have := of_decide_eq_true h3; omega))]
   simp [h2]
 ·simp [h]

theorem decodeN_ok2 {bs : List UInt8} {x : It} (h : decodeN bs = .ok x) : x.right = true ∧ x.l.length ≤ 100000 := by
 unfold decodeN at h
 split at h
 ·cases h
 ·rename_i y m hf
  split at h
  ·cases h
  ·injection h with h
   subst h
   have hb := firstN_back hf
   have hl := (firstN_len hf).1
   have he := hb.1
   have hc := list_few y
   refine ⟨?_, by omega⟩
   by_cases hr : y.right = true
   ·exact hr
   ·rw [It.err, if_neg hr] at he
    cases he

theorem right_k4 {x : It} (h : x.right = true) : x.k = 4 ∨ x.l = [] := by
 obtain ⟨k, n, b, s, l⟩ := x
 simp only [It.right, rightN, Bool.and_eq_true, decide_eq_true_eq] at h
 rcases h.1.2.2.2.2 with h | h
 ·exact .inl h
 ·exact .inr (List.eq_nil_of_length_eq_zero h)

theorem hop_bool {x : It} (hx : x.right = true) (h0 : ∀ y ∈ x.l, 0 ≤ y.n) : (hopI x).isSome = (shapeB x [1, 1] && (decide (((x.l[0]?).map It.n).getD 0 ≤ 255) && decide (((x.l[1]?).map It.n).getD 0 ≤ 255))) := by
 have hk := right_k4 hx
 unfold hopI shapeB
 clear hx
 generalize x.k = k at *
 generalize x.l = l at *
 match l, hk, h0 with
 | [], _, _ => simp
 | [y], _, _ => simp
 | [y0, y1], hk, h0 =>
  have hk4 : k = 4 := by
   rcases hk with h | h
   ·exact h
   ·cases h
  have n0 := h0 y0 (by simp)
  have n1 := h0 y1 (by simp)
  subst hk4
  unfold nuP
  by_cases a : y0.k = 1
  ·by_cases c : y1.k = 1
   ·by_cases q0 : y0.n ≤ 255
    ·by_cases q1 : y1.n ≤ 255
     ·have : y0.n.toNat ≤ 255 ∧ y1.n.toNat ≤ 255 := by omega
      simp [a, c, q0, q1, this]
     ·have : ¬ (y0.n.toNat ≤ 255 ∧ y1.n.toNat ≤ 255) := by omega
      simp [a, c, q0, q1]
    ·have : ¬ (y0.n.toNat ≤ 255 ∧ y1.n.toNat ≤ 255) := by omega
     simp [a, c, q0]
   ·simp [a, c]
  ·simp [a]
 | y0 :: y1 :: y2 :: r, _, _ => simp

theorem rdata_any (t : Nat) (a : Option Addr) (c : Nat) (bs : List UInt8) (w : World) (hcc : bs.length ≤ c) (hl : bs.length ≤ 100000) (hr : RdB w w.heap.size a bs) :
  Calls Tryz.prog 59 #[.int .u64 t, .slice a bs.length c] w fun e w' => e = .returned (.bool (dataB t bs)) ∧ Below w.heap.size w w' := by
 by_cases h1 : t = 1
 ·have d1 : ((t : Int) == 1) = true := by simp; omega
  have HQ : Hid (dataB t bs = true) := by rw [h1]; exact dataB_one bs
  clear h1
  go_enter Tryz.func59, Tryz.ntmps59
  go_wp2_with fail
  go_ret
  exact ⟨by rw [HQ.out]; rfl, Below.refl _ _⟩
 have d1 : ((t : Int) == 1) = false := by simp; omega
 have HD := h_ (rDecode_any a bs.length c bs w rfl hcc hl hr)
 clear hr hcc hl
 go_enter Tryz.func59, Tryz.ntmps59
 go_wp2_with fail
 refine HD.out.mono ?_
 rintro e w1 ⟨hb1, hm⟩
 have HB1 := h_ hb1
 cases hit : decodeN bs with
 | error q =>
  rw [hit] at hm
  have hm : e = .returned (.tuple #[itemV 0 0 [], .int .i64 q]) := hm
  subst hm
  have hq := decodeN_err hit
  have hq0 : ((q : Int) != 0) = true := by simp; omega
  have hq1 : ((q : Int) == 0) = false := by simp; omega
  have HQ := h_ (dataB_err h1 hit)
  clear hit hq hb1 h1
  unfold itemV
  go_wp2_with fail
  go_ret
  exact ⟨by rw [HQ.out]; rfl, below_al HB1.out _⟩
 | ok x =>
  rw [hit] at hm
  obtain ⟨v, rfl, hx⟩ := hm
  obtain ⟨a, c, A, C, rfl⟩ := hx.form
  obtain ⟨w2, hw2⟩ : ∃ w2, w2 = w1.alloc (.cells #[.int .i64 x.k, .int .u64 x.n, .slice a x.b.length c, .string ⟨x.s.toArray⟩, .slice A x.l.length C] 83) := ⟨_, rfl⟩
  have hb2 : Below w1.heap.size w1 w2 := by rw [hw2]; exact below_al bR _
  have HV : Hid (ItV w2 w2.heap.size (.agg #[.int .i64 x.k, .int .u64 x.n, .slice a x.b.length c, .string ⟨x.s.toArray⟩, .slice A x.l.length C]) x) := itS_on hx hb2
  have HB2 := h_ (below_on HB1.out hb2)
  have HR2 : Hid (RowB w2 w1.heap.size [.int .i64 x.k, .int .u64 x.n, .slice a x.b.length c, .string ⟨x.s.toArray⟩, .slice A x.l.length C]) := by rw [hw2]; exact RowB.new w1 _ _
  have HIt := h_ hit
  have HW2 := h_ hw2
  obtain ⟨x0, x1, x2, x3, x4⟩ : w2.cell? ⟨w1.heap.size, 0, none⟩ = some (.int .i64 x.k) ∧ w2.cell? ⟨w1.heap.size, 1, none⟩ = some (.int .u64 x.n) ∧ w2.cell? ⟨w1.heap.size, 2, none⟩ = some (.slice a x.b.length c) ∧ w2.cell? ⟨w1.heap.size, 3, none⟩ = some (.string ⟨x.s.toArray⟩) ∧ w2.cell? ⟨w1.heap.size, 4, none⟩ = some (.slice A x.l.length C) :=
   ⟨HR2.out.1 0 _ rfl, HR2.out.1 1 _ rfl, HR2.out.1 2 _ rfl, HR2.out.1 3 _ rfl, HR2.out.1 4 _ rfl⟩
  rw [hw2] at x0 x1 x2 x3 x4
  clear hit hx hb1 hb2 hw2
  by_cases h6 : t = 6
  ·have d6 : ((t : Int) == 6) = true := by simp; omega
   have HQ : Hid (dataB t bs = (befI x).isSome) := by rw [h6]; exact dataB_6 HIt.out
   clear h6 h1
   go_wp2_with fail
   rw [← HW2.out]
   clear x0 x1 x2 x3 x4
   refine (nmRefOf_any x _ w2 HV.out).mono ?_
   rintro e w3 ⟨hb3, n, m, b, rfl, hcase⟩
   have HB3 := h_ (below_on HB2.out hb3)
   cases b with
   | false =>
    have he : epI x = none := by
     rcases hcase with ⟨h, _⟩ | ⟨_, h, _⟩
     ·cases h
     ·exact h
    have HQ2 : Hid (dataB t bs = false) := HQ.out.trans (bef_none he)
    clear hcase he hb3
    go_wp2_with fail
    go_ret
    exact ⟨by rw [HQ2.out]; rfl, below_al HB3.out _⟩
   | true =>
    have he : epI x = some (n, m) := by
     rcases hcase with ⟨_, h⟩ | ⟨h, _⟩
     ·exact h
     ·cases h
    have HQ2 : Hid (dataB t bs = !decide (n = 0 ∧ m = 0)) := HQ.out.trans (bef_bool he (epI_some (HV.out.nn 2) he).2.1)
    generalize hq : decide (n = 0 ∧ m = 0) = q at *
    have HNb := h_ (refNobody_any n m)
    rw [hq] at HNb
    clear hcase he hb3 hq
    go_wp2_with fail
    refine (HNb.out _).mono ?_
    rintro e w4 ⟨rfl, hb4⟩
    have HB4 := h_ (below_on (below_al HB3.out _) hb4)
    clear hb4
    go_wp2_with fail
    go_ret
    exact ⟨by rw [HQ2.out]; rfl, HB4.out⟩
  have d6 : ((t : Int) == 6) = false := by simp; omega
  by_cases h7 : t = 7
  ·have d7 : ((t : Int) == 7) = true := by simp; omega
   have HQ : Hid (dataB t bs = (decide (x.k = 1) && decide (x.n ≤ 4611686018427387903))) := by rw [h7, dataB_7 HIt.out]; exact age_bool HV.out.parts.1.1
   clear h7 h6 h1
   by_cases hk : x.k = 1
   ·have dk : (x.k == 1) = true := by simp [hk]
    have HQ2 : Hid (dataB t bs = decide (x.n ≤ 4611686018427387903)) := by rw [Hid, HQ.out, decide_eq_true hk, Bool.true_and]
    clear hk
    go_wp2_with fail
    go_ret
    exact ⟨by rw [HQ2.out]; rfl, HW2.out ▸ HB2.out⟩
   ·have dk : (x.k == 1) = false := by simp [hk]
    have HQ2 : Hid (dataB t bs = false) := by rw [Hid, HQ.out, decide_eq_false hk, Bool.false_and]
    clear hk
    go_wp2_with fail
    go_ret
    exact ⟨by rw [HQ2.out]; rfl, HW2.out ▸ HB2.out⟩
  have d7 : ((t : Int) == 7) = false := by simp; omega
  by_cases h10 : t = 10
  ·have d10 : ((t : Int) == 10) = true := by simp; omega
   have HQ : Hid (dataB t bs = (shapeB x [1, 1] && (decide (((x.l[0]?).map It.n).getD 0 ≤ 255) && decide (((x.l[1]?).map It.n).getD 0 ≤ 255)))) := by
    rw [h10, dataB_10 HIt.out]
    exact hop_bool (decodeN_ok2 HIt.out).1 (fun y hy => (HV.out.nn 1).2 y hy)
   clear h10 h7 h6 h1
   obtain ⟨sh, hsh⟩ : ∃ q, q = shapeB x [1, 1] := ⟨_, rfl⟩
   rw [← hsh] at HQ
   have HSH := h_ hsh
   clear hsh
   go_upto_region 13 with fail
   rw [← HW2.out]
   clear x0 x1 x2 x3 x4
   have x0 := HR2.out.1 0 _ rfl
   have x1 := HR2.out.1 1 _ rfl
   have x2 := HR2.out.1 2 _ rfl
   have x3 := HR2.out.1 3 _ rfl
   have x4 := HR2.out.1 4 _ rfl
   go_wp2_with fail
   obtain ⟨W3, hW3⟩ : ∃ W', W' = w2.alloc (.cells #[.int .i64 1, .int .i64 1] 3) := ⟨_, rfl⟩
   have hb3 : Below w2.heap.size w2 W3 := by rw [hW3]; exact below_al bR _
   have HRK : Hid (RdK W3 w2.heap.size [1, 1]) := by rw [hW3]; exact rdK_two w2 _ 1 1 _ bR
   have HB3 := h_ (below_on HB2.out hb3)
   have HF3 := h_ hb3
   rw [← hW3]
   clear hW3 hb3 x0 x1 x2 x3 x4
   refine (shape_ref x _ w2.heap.size 2 2 [1, 1] rfl (by decide) W3 (HV.out.on HF3.out) HRK.out).mono ?_
   rintro e w4 ⟨rfl, hb⟩
   rw [← HSH.out]
   have HF4 : Hid (Below w2.heap.size w2 w4) := below_on HF3.out hb
   have HB4 := h_ (below_on HB3.out hb)
   clear hb
   cases sh
   ·have HQ2 : Hid (dataB t bs = false) := by rw [Hid, HQ.out]; rfl
    go_wp2_with fail
    go_ret
    exact ⟨by rw [HQ2.out]; rfl, HB4.out⟩
   obtain ⟨y0, y1, hxl⟩ : ∃ y0 y1, x.l = [y0, y1] := by
    have h := (shapeB_iff.1 HSH.out.symm).2
    have h2 : x.l.length = 2 := by have := congrArg List.length h; simpa using this
    match hl : x.l, h2 with
    | [y0, y1], _ => exact ⟨y0, y1, rfl⟩
   have HQ3 : Hid (dataB t bs = (decide (y0.n ≤ 255) && decide (y1.n ≤ 255))) := by
    rw [Hid, HQ.out, hxl]
    simp
   obtain ⟨g, o, a0, c0, A0, C0, a1, c1, A1, C1, rfl, hpair⟩ := HV.out.pair hxl
   obtain ⟨_, ⟨_, e1, _⟩, _, f1, _⟩ := hpair w4 HF4.out
   have hr := HR2.out.on HF4.out (by rw [HW2.out]; simp)
   have x4 := hr.1 4 _ rfl
   have hlen : x.l.length = 2 := by rw [hxl]; rfl
   rw [hlen] at x4
   clear hxl hpair hr hlen
   by_cases q0 : y0.n ≤ 255
   ·have HQ4 : Hid (dataB t bs = decide (y1.n ≤ 255)) := by rw [Hid, HQ3.out, decide_eq_true q0]; rfl
    go_wp2_with fail
    go_ret
    exact ⟨by rw [HQ4.out]; rfl, HB4.out⟩
   ·have HQ4 : Hid (dataB t bs = false) := by rw [Hid, HQ3.out, decide_eq_false q0]; rfl
    go_wp2_with fail
    go_ret
    exact ⟨by rw [HQ4.out]; rfl, HB4.out⟩
  have d10 : ((t : Int) == 10) = false := by simp; omega
  by_cases h200 : t = 200
  ·have d200 : ((t : Int) == 200) = true := by simp; omega
   have HQ : Hid (dataB t bs = isP x) := by rw [h200]; exact dataB_200 HIt.out
   clear h200 h10 h7 h6 h1
   go_wp2_with fail
   rw [← HW2.out]
   clear x0 x1 x2 x3 x4
   refine (refPOf_any x _ w2 HV.out (decodeN_ok2 HIt.out).2).mono ?_
   rintro e w3 ⟨hb3, ⟨b, zs, hz, hxz, A3, C3, rfl, _, _⟩ | ⟨hno, rfl⟩⟩
   ·have HB3 := h_ (below_on HB2.out hb3)
    have HQ2 : Hid (dataB t bs = true) := by rw [Hid, HQ.out, hxz]; exact (bisP_back b zs hz).1
    clear hz hxz hb3
    go_wp2_with fail
    go_ret
    exact ⟨by rw [HQ2.out]; rfl, below_al HB3.out _⟩
   ·have HB3 := h_ (below_on HB2.out hb3)
    have HQ2 : Hid (dataB t bs = false) := by rw [Hid, HQ.out, hno]
    clear hno hb3
    go_wp2_with fail
    go_ret
    exact ⟨by rw [HQ2.out]; rfl, below_al HB3.out _⟩
  have d200 : ((t : Int) == 200) = false := by simp; omega
  have HQ := h_ (dataB_other (d := bs) h1 h6 h7 h10 h200)
  clear h1 h6 h7 h10 h200
  go_wp2_with fail
  go_ret
  exact ⟨by rw [HQ.out]; rfl, HW2.out ▸ HB2.out⟩

attribute [local go_sem] Oper.semAt_some

theorem rightB_ref (b : Bl) : rightB b = (decide (1 ≤ b.n) && (decide (b.n ≤ 255) && ((decide (b.t = 1) == decide (b.n = 1)) && (isK b.s && dataB b.t b.d)))) := by
 have h1 : rightB b = (knB b.t && (numB b.t b.n && isK b.s) && dataB b.t b.d) := by
  unfold rightB lookE dataB
  cases h : (knB b.t && (numB b.t b.n && isK b.s)) <;> simp
 have h2 : knB b.t = false → dataB b.t b.d = false := fun h => by
  unfold knB at h
  have h := of_decide_eq_false h
  simp only [not_or] at h
  exact dataB_other h.1 h.2.1 h.2.2.1 h.2.2.2.1 h.2.2.2.2
 have h3 : numB b.t b.n = (decide (1 ≤ b.n) && (decide (b.n ≤ 255) && (decide (b.t = 1) == decide (b.n = 1)))) := by
  unfold numB
  by_cases ht : b.t = 1
  ·by_cases hn : b.n = 1
   ·simp [ht, hn]
   ·simp [ht, hn]
  ·by_cases hn : b.n = 1
   ·simp [ht, hn]
   ·by_cases h0 : 2 ≤ b.n
    ·have : 1 ≤ b.n := by omega
     simp [ht, hn, h0, this]
    ·have : ¬ 1 ≤ b.n := by omega
     simp [ht, hn, h0, this]
 rw [h1, h3]
 generalize decide (1 ≤ b.n) = a1
 generalize decide (b.n ≤ 255) = a2
 generalize (decide (b.t = 1) == decide (b.n = 1)) = a3
 generalize isK b.s = a4
 cases hk : knB b.t
 ·rw [h2 hk]
  cases a1 <;> cases a2 <;> cases a3 <;> cases a4 <;> rfl
 ·cases a1 <;> cases a2 <;> cases a3 <;> cases a4 <;> simp

theorem refBRight_any (b : Bl) (a : Option Addr) (c : Nat) (w : World) (hc : b.d.length ≤ c) (hl : b.d.length ≤ 100000) (hr : RdB w w.heap.size a b.d) :
  Calls Tryz.prog 25 #[.agg #[.int .u64 b.t, .int .u64 b.n, .int .i64 b.s, .slice a b.d.length c]] w fun e w' => e = .returned (.bool (rightB b)) ∧ Below w.heap.size w w' := by
 obtain ⟨W, hW⟩ : ∃ W, W = w.alloc (.cells #[.int .u64 b.t, .int .u64 b.n, .int .i64 b.s, .slice a b.d.length c] 26) := ⟨_, rfl⟩
 have HB0 : Hid (Below w.heap.size w W) := by rw [hW]; exact below_al bR _
 have HX : Hid (W.cell? ⟨w.heap.size, 0, none⟩ = some (.int .u64 b.t) ∧ W.cell? ⟨w.heap.size, 1, none⟩ = some (.int .u64 b.n) ∧ W.cell? ⟨w.heap.size, 2, none⟩ = some (.int .i64 b.s) ∧ W.cell? ⟨w.heap.size, 3, none⟩ = some (.slice a b.d.length c)) := by
  rw [hW]
  exact bbox bR
 have HRt : Hid (rightB b = (decide (1 ≤ b.n) && (decide (b.n ≤ 255) && ((decide (b.t = 1) == decide (b.n = 1)) && (isK b.s && dataB b.t b.d))))) := rightB_ref b
 have HKd := h_ (fun w => refKind_any b.s w)
 have HDt := h_ (rdata_any b.t a c b.d W hc hl (hr.below HB0.out |>.mono HB0.out.size))
 have HW := h_ hW
 clear hW hr hc hl
 obtain ⟨x0, x1, x2, x3⟩ := HX.out
 rw [HW.out] at x0 x1 x2 x3
 by_cases h1 : 1 ≤ b.n
 rotate_left
 ·have d1 : decide ((1 : Int) ≤ (b.n : Int)) = false := decide_eq_false (by omega)
  have HQ : Hid (rightB b = false) := by rw [Hid, HRt.out, decide_eq_false h1]; rfl
  clear h1
  go_enter Tryz.func25, Tryz.ntmps25
  go_wp2_with fail
  rw [← HW.out]
  go_ret
  exact ⟨by rw [HQ.out]; rfl, HB0.out⟩
 by_cases h2 : b.n ≤ 255
 rotate_left
 ·have d1 : decide ((1 : Int) ≤ (b.n : Int)) = true := decide_eq_true (by omega)
  have d2 : decide ((b.n : Int) ≤ 255) = false := decide_eq_false (by omega)
  have HQ : Hid (rightB b = false) := by rw [Hid, HRt.out, decide_eq_false h2, Bool.false_and, Bool.and_false]
  clear h1 h2
  go_enter Tryz.func25, Tryz.ntmps25
  go_wp2_with fail
  rw [← HW.out]
  go_ret
  exact ⟨by rw [HQ.out]; rfl, HB0.out⟩
 have HR2 : Hid (rightB b = ((decide (b.t = 1) == decide (b.n = 1)) && (isK b.s && dataB b.t b.d))) := by rw [Hid, HRt.out, decide_eq_true h1, decide_eq_true h2, Bool.true_and, Bool.true_and]
 have d1 : decide ((1 : Int) ≤ (b.n : Int)) = true := decide_eq_true (by omega)
 have d2 : decide ((b.n : Int) ≤ 255) = true := decide_eq_true (by omega)
 obtain ⟨p1, hp1⟩ : ∃ p, p = decide (b.t = 1) := ⟨_, rfl⟩
 obtain ⟨p2, hp2⟩ : ∃ p, p = decide (b.n = 1) := ⟨_, rfl⟩
 have d3 : ((b.t : Int) == 1) = p1 := by rw [hp1, Bool.eq_iff_iff]; simp; omega
 have d4 : ((b.n : Int) == 1) = p2 := by rw [hp2, Bool.eq_iff_iff]; simp; omega
 rw [← hp1, ← hp2] at HR2
 clear hp1 hp2 h1 h2 HRt
 by_cases hpp : p1 = p2
 rotate_left
 ·have d5 : (p1 == p2) = false := by simpa using hpp
  have HQ : Hid (rightB b = false) := by rw [Hid, HR2.out, d5]; rfl
  clear hpp
  go_enter Tryz.func25, Tryz.ntmps25
  go_wp2_with fail
  rw [← HW.out]
  go_ret
  exact ⟨by rw [HQ.out]; rfl, HB0.out⟩
 subst hpp
 have HR3 : Hid (rightB b = (isK b.s && dataB b.t b.d)) := by rw [Hid, HR2.out, beq_self_eq_true, Bool.true_and]
 clear HR2
 obtain ⟨q, hq⟩ : ∃ q, q = isK b.s := ⟨_, rfl⟩
 rw [← hq] at HKd HR3
 clear hq
 go_enter Tryz.func25, Tryz.ntmps25
 go_wp2_with fail
 rw [← HW.out]
 refine (HKd.out _).mono ?_
 rintro e w1 ⟨rfl, h9⟩
 rw [← h9]
 clear h9 w1
 cases q
 ·go_wp2_with fail
  go_ret
  exact ⟨by rw [HR3.out]; rfl, HB0.out⟩
 clear x0 x1 x2 x3
 obtain ⟨x0, x1, x2, x3⟩ := HX.out
 go_wp2_with fail
 refine HDt.out.mono ?_
 rintro e w1 ⟨rfl, hb1⟩
 have HB1 := h_ (below_on HB0.out hb1)
 clear hb1 x0 x1 x2 x3
 go_wp2_with fail
 go_ret
 exact ⟨by rw [HR3.out]; rfl, HB1.out⟩

end Go.Proofs.YtiahakbkagipkaaGreatDoor
