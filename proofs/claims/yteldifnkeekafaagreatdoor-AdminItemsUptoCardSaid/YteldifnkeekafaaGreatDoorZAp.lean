/- Joined texts. -/
import Derived.Test.YteldifnkeekafaaGreatDoorZAq
set_option linter.unusedSimpArgs false
set_option linter.unusedVariables false
namespace Go.Proofs.YteldifnkeekafaaGreatDoor
open Go Go.RowKit Go.Shelf

theorem nAt_lt {w : World} {B : Nat} {v : Value} {x : It} (hv : ItV w B v x) (i : Nat) : nAt x i < 18446744073709551616 := by
 unfold nAt
 cases h : x.l[i]? with
 | none => simp
 | some y =>
  obtain ⟨u, hu⟩ := hv.kids (List.mem_of_getElem? h)
  obtain ⟨a, c, A, C, rfl⟩ := hu.form
  have h1 : U64 y.n := hu.dparts.1
  have h2 := h1.1
  have h3 := h1.2
  simp only [Option.map_some, Option.getD_some]
  omega

theorem nmC_le {w : World} {B : Nat} {v : Value} {x : It} (hv : ItV w B v x) : (nmC x).1.1 ≤ 4294967295 ∧ (nmC x).1.2.1 ≤ 4294967295 ∧ (nmC x).1.2.2.1 < 18446744073709551616 ∧ (nmC x).1.2.2.2 ≤ 4294967295 := by
 unfold nmC
 cases h : x.l[1]? with
 | none => simp
 | some y =>
  obtain ⟨u, hu⟩ := hv.kids (List.mem_of_getElem? h)
  cases he : nmI y with
  | none => simp [he]
  | some p =>
   obtain ⟨n, m, t, q⟩ := p
   obtain ⟨_, h2, h3, h4, h5, h6⟩ := nmI_some (hu.nn 3) he
   have ef : forever = 4611686018427387903 := rfl
   simp only [Option.bind_some, he]
   omega

theorem nm_ok {n m t q : Nat} (h1 : n ≤ 4294967295) (h2 : m ≤ 4294967295) (h3 : t < 18446744073709551616) (h4 : q ≤ 4294967295) : NmT.ok ⟨n, m, t, q⟩ := ⟨⟨h1, h2⟩, h3, h4⟩
theorem md_le (n : Nat) : n % 4294967296 ≤ 4294967295 := by omega
theorem md_le8 (n : Nat) : n % 256 ≤ 255 := by omega
theorem candR_ok {w : World} {B : Nat} {v : Value} {x : It} (hv : ItV w B v x) (j : Nat) : (candR j x).ok := by
 have hn := nAt_lt hv
 obtain ⟨m1, m2, m3, m4⟩ := nmC_le hv
 have z1 : (0 : Nat) < 18446744073709551616 := by decide
 have z2 : (0 : Nat) ≤ 4294967295 := by decide
 have z3 : (0 : Nat) ≤ 255 := by decide
 have n0 : NmT.ok ⟨0, 0, 0, 0⟩ := nm_ok z2 z2 z1 z2
 unfold candR
 split
 ·exact ⟨nm_ok m1 m2 m3 m4, hn 4, z1, z2, z2, z1, z1, z3⟩
 split
 ·exact ⟨n0, z1, hn 1, md_le _, md_le _, z1, z1, z3⟩
 split
 ·exact ⟨n0, z1, hn 1, md_le _, md_le _, z1, hn 5, z3⟩
 split
 ·exact ⟨n0, z1, z1, md_le _, z2, hn 2, hn 3, md_le8 _⟩
 ·exact ⟨n0, z1, hn 3, md_le _, md_le _, z1, z1, z3⟩

theorem refOf10_any (x : It) (v : Value) (w : World) (hv : ItV w w.heap.size v x) : Calls Tryz.prog 15 #[v] w (OfP w x) := by
 obtain ⟨a, c, A, C, rfl⟩ := hv.form
 by_cases hk : x.k = 4
 ·obtain hl | ⟨y, l, hl⟩ : x.l = [] ∨ ∃ y l, x.l = y :: l := by
    cases x.l with
    | nil => exact .inl rfl
    | cons y l => exact .inr ⟨y, l, rfl⟩
  ·exact of_f2 x a A c C hk hl w hv
  by_cases hy : y.k = 1
  ·by_cases h1 : y.n < 1
   ·exact of_f4 x a A c C y l hk hl hy h1 w hv
   by_cases h5 : 5 < y.n
   ·exact of_f5 x a A c C y l hk hl hy h5 w hv
   obtain ⟨j, hn, hj⟩ : ∃ j : Nat, y.n = (j : Int) + 1 ∧ j < 5 := ⟨(y.n - 1).toNat, by omega, by omega⟩
   exact of_main x a A c C y l j hk hl hy hn hj (candR_ok hv j) w hv
  ·exact of_f3 x a A c C y l hk hl hy w hv
 ·exact of_f1 x a A c C hk w hv

theorem candR_k (j : Nat) (x : It) (hj : j < 5) : (candR j x).k = (j : Int) + 1 := by
 rcases (show j = 0 ∨ j = 1 ∨ j = 2 ∨ j = 3 ∨ j = 4 by omega) with rfl | rfl | rfl | rfl | rfl <;> rfl
theorem ofR_rd {w : World} {B : Nat} {v : Value} {x : It} {q : Rc} (hv : ItV w B v x) (h : ofR x = some q) : rdR x = some q ∧ x = layR q.k.toNat q ∧ rightR q = true := by
 unfold ofR at h
 split at h
 ·rename_i hk
  split at h
  ·rename_i hg
   injection h with h
   have hj : kdI x - 1 < 5 := by omega
   have hok := candR_ok hv (kdI x - 1)
   have hkk := candR_k (kdI x - 1) x hj
   unfold goodR at hg
   simp only [Bool.and_eq_true] at hg
   rw [h] at hg hok hkk
   have e := (It.same_iff _ _).1 hg.2.2.2
   have ek : q.k.toNat = kdI x - 1 + 1 := by omega
   rw [← ek] at e
   have hi := right_item hok hg.2.2.1
   have h2 := (itemR_err hi).2
   rw [← e] at h2
   exact ⟨h2, e, hg.2.2.1⟩
  ·cases h
 ·cases h

theorem rit_u {y : It} (hr : y.right = true) (hk : y.k = 1) : y = itU y.n := by
 obtain ⟨k, n, b, s, l⟩ := y
 have hk' : k = 1 := hk
 subst hk'
 simp only [It.right, rightN, Bool.and_eq_true, decide_eq_true_eq] at hr
 have h1 : b = [] := by rcases hr.1.2.2.1 with h | h; exact absurd h (by decide); exact h
 have h2 : s = [] := by rcases hr.1.2.2.2.1 with h | h; exact absurd h (by decide); exact h
 have h3 : l.length = 0 := by rcases hr.1.2.2.2.2 with h | h; exact absurd h (by decide); exact h
 have h4 := List.eq_nil_of_length_eq_zero h3
 rw [h1, h2, h4]
 rfl
theorem rit_b {y : It} (hr : y.right = true) (hk : y.k = 5) (h0 : 0 ≤ y.n) : y = boI (y.n == 1) := by
 obtain ⟨k, n, b, s, l⟩ := y
 have hk' : k = 5 := hk
 subst hk'
 simp only [It.right, rightN, Bool.and_eq_true, decide_eq_true_eq] at hr
 have hn : n ≤ 1 := by simpa using hr.1.1
 have h1 : b = [] := by rcases hr.1.2.2.1 with h | h; exact absurd h (by decide); exact h
 have h2 : s = [] := by rcases hr.1.2.2.2.1 with h | h; exact absurd h (by decide); exact h
 have h3 : l.length = 0 := by rcases hr.1.2.2.2.2 with h | h; exact absurd h (by decide); exact h
 have h4 := List.eq_nil_of_length_eq_zero h3
 have h0' : 0 ≤ n := h0
 rw [h1, h2, h4]
 rcases (show n = 0 ∨ n = 1 by omega) with rfl | rfl <;> rfl
theorem rit_l {x : It} (hr : x.right = true) (hl : x.l ≠ []) : x = itLs x.l := by
 obtain ⟨k, n, b, s, l⟩ := x
 have hl' : l ≠ [] := hl
 simp only [It.right, rightN, Bool.and_eq_true, decide_eq_true_eq] at hr
 have hk : k = 4 := by
  rcases hr.1.2.2.2.2 with h | h
  ·exact h
  ·exact absurd (List.eq_nil_of_length_eq_zero h) hl'
 subst hk
 have h0 : n = 0 := by rcases hr.1.2.1 with h | h | h; exact absurd h (by decide); exact absurd h (by decide); exact h
 have h1 : b = [] := by rcases hr.1.2.2.1 with h | h; exact absurd h (by decide); exact h
 have h2 : s = [] := by rcases hr.1.2.2.2.1 with h | h; exact absurd h (by decide); exact h
 rw [h0, h1, h2]
 rfl

theorem of_lay {w : World} {B : Nat} {v : Value} {x : It} {q : Rc} {j : Nat} (hv : ItV w B v x) (hj : j < 5) (hk : q.k = (j : Int) + 1) (hx : x = layR (j + 1) q) (hr : rdR x = some q) (hc : candR j x = q) (hs : shapeB x (ksK j) = true) (hf : fineR j x = true) (hd : kdI x = j + 1) : ofR x = some q := by
 have hok := candR_ok hv j
 rw [hc] at hok
 have ek : q.k.toNat = j + 1 := by omega
 have e : layR q.k.toNat q = x := by rw [ek, ← hx]
 have hi : itemR q = some x := by rw [itemR, if_pos (by omega), e, if_pos hr]
 have hR : rightR q = true := by rw [← itemR_right q hok, hi]; rfl
 have h4 := (shapeB_iff.1 hs).1
 have hg : goodR j x = true := by
  rw [goodR, hs, hf, hc, hR, ← hx, same_self]
  rfl
 rw [ofR, if_pos ⟨h4, by omega, by omega⟩, hd]
 show (if goodR j x = true then some (candR j x) else none) = some q
 rw [if_pos hg, hc]
theorem rd_parts {x : It} {q : Rc} (h : rdR x = some q) : ∃ (y : It) (l : List It) (j : Nat) (c : Rc), x.l = y :: l ∧ y.k = 1 ∧ y.n = (j : Int) + 1 ∧ j < 5 ∧ rdKind (j + 1) l = some (c, []) ∧ q = c.withK ((j : Int) + 1) := by
 unfold rdR at h
 cases h1 : tkU 1 5 x.l with
 | none => rw [h1] at h; cases h
 | some p =>
  obtain ⟨k, l⟩ := p
  rw [h1] at h
  simp only [Option.bind_some] at h
  obtain ⟨y, hl, hk, ha, hb, hn⟩ := tkU_some h1
  cases h2 : rdKind k l with
  | none => rw [h2] at h; cases h
  | some c =>
   obtain ⟨c, r⟩ := c
   rw [h2] at h
   simp only [Option.bind_some] at h
   by_cases hr : r = []
   ·rw [if_pos hr] at h
    injection h with h
    subst hr
    refine ⟨y, l, k - 1, c, hl, hk, by omega, by omega, ?_, ?_⟩
    ·rw [show k - 1 + 1 = k by omega]; exact h2
    ·rw [← h]
     congr 1
     omega
   ·rw [if_neg hr] at h
    cases h

theorem rit_kids {x : It} (hr : x.right = true) : rightL x.l = true := by
 obtain ⟨k, n, b, s, l⟩ := x
 simp only [It.right, Bool.and_eq_true] at hr
 exact hr.2
theorem tkU_r {lo hi : Nat} {l r : List It} {n : Nat} (hl : rightL l = true) (h : tkU lo hi l = some (n, r)) : l = itU (n : Int) :: r ∧ lo ≤ n ∧ n ≤ hi ∧ rightL r = true := by
 obtain ⟨y, rfl, hk, h1, h2, h3⟩ := tkU_some h
 simp only [rightL, Bool.and_eq_true] at hl
 have e := rit_u hl.1 hk
 have en : y.n = (n : Int) := by omega
 rw [en] at e
 exact ⟨by rw [← e], by omega, by omega, hl.2⟩
set_option maxRecDepth 100000 in
theorem rd_ask {w : World} {B : Nat} {v : Value} {x : It} {q c : Rc} {y : It} {l : List It} (hv : ItV w B v x) (hx : x.right = true) (hl : x.l = y :: l) (hy : y.k = 1) (hn : y.n = ((1 : Nat) : Int) + 1) (h : rdAsk l = some (c, [])) (hq : q = c.withK (((1 : Nat) : Int) + 1)) (hr : rdR x = some q) : ofR x = some q := by
 have hL := rit_kids hx
 have e := rit_l hx (by rw [hl]; simp)
 rw [hl] at hL
 simp only [rightL, Bool.and_eq_true] at hL
 have ey := rit_u hL.1 hy
 rw [hn] at ey
 simp only [rdAsk, Option.bind_eq_some_iff] at h
 obtain ⟨⟨a0, r0⟩, t0, ⟨a1, r1⟩, t1, ⟨a2, r2⟩, t2, h⟩ := h
 obtain ⟨rfl, l0, u0, R0⟩ := tkU_r hL.2 t0
 obtain ⟨rfl, l1, u1, R1⟩ := tkU_r R0 t1
 obtain ⟨rfl, l2, u2, R2⟩ := tkU_r R1 t2
 injection h with h
 injection h with h h'
 subst h'
 subst h
 rw [hl, ey] at e
 subst hq
 have m1 : a1 % 4294967296 = a1 := Nat.mod_eq_of_lt (by omega)
 have m2 : a2 % 4294967296 = a2 := Nat.mod_eq_of_lt (by omega)
 have hc : candR 1 x = Rc.withK ⟨0, 0, 0, 0, 0, 0, 0, 0, a0, a1, a2, false, 0, 0, 0⟩ (((1 : Nat) : Int) + 1) := by
  rw [e]
  show (⟨2, 0, 0, 0, 0, 0, 0, 0, ((a0 : Int).toNat), ((a1 : Int).toNat) % 4294967296, ((a2 : Int).toNat) % 4294967296, false, 0, 0, 0⟩ : Rc) = _
  rw [Int.toNat_natCast, Int.toNat_natCast, Int.toNat_natCast, m1, m2]
  rfl
 exact of_lay (j := 1) hv (by decide) rfl (by rw [e]; rfl) hr hc (by rw [e]; rfl) rfl (by rw [e]; rfl)

theorem tkT_r {l r : List It} {n : Nat} (hl : rightL l = true) (h : tkT l = some (n, r)) : l = itU (n : Int) :: r ∧ n ≤ 4611686018427387903 ∧ rightL r = true := by
 cases h1 : tkU 0 18446744073709551615 l with
 | none => rw [tkT_none h1] at h; cases h
 | some p =>
  obtain ⟨m, r'⟩ := p
  rw [tkT_some h1] at h
  by_cases ht : isT (m : Int) = true
  ·rw [if_pos ht] at h
   injection h with h
   injection h with h h'
   subst h
   subst h'
   obtain ⟨a, _, _, b⟩ := tkU_r hl h1
   simp only [isT, decide_eq_true_eq] at ht
   exact ⟨a, by omega, b⟩
  ·rw [if_neg ht] at h
   cases h
theorem tkB_r {l r : List It} {b : Bool} (hl : rightL l = true) (h0 : ∀ z ∈ l, 0 ≤ z.n) (h : tkB l = some (b, r)) : l = boI b :: r ∧ rightL r = true := by
 match l with
 | [] => cases h
 | y :: r' =>
  rw [tkB] at h
  split at h
  ·rename_i hk
   injection h with h
   injection h with h1 h2
   subst h2
   simp only [rightL, Bool.and_eq_true] at hl
   have e := rit_b hl.1 hk (h0 y (by simp))
   rw [h1] at e
   exact ⟨by rw [← e], hl.2⟩
  ·cases h
theorem boN_eq (b : Bool) : ((boN b).toNat == 1) = b := by cases b <;> rfl
set_option maxRecDepth 100000 in
theorem rd_tell {w : World} {B : Nat} {v : Value} {x : It} {q c : Rc} {y : It} {l : List It} (hv : ItV w B v x) (hx : x.right = true) (hl : x.l = y :: l) (hy : y.k = 1) (hn : y.n = ((2 : Nat) : Int) + 1) (h : rdTell l = some (c, [])) (hq : q = c.withK (((2 : Nat) : Int) + 1)) (hr : rdR x = some q) : ofR x = some q := by
 have hL := rit_kids hx
 have e := rit_l hx (by rw [hl]; simp)
 have hN : ∀ z ∈ l, 0 ≤ z.n := fun z hz => ((hv.nn 1).2 z (by rw [hl]; exact List.mem_cons_of_mem _ hz))
 rw [hl] at hL
 simp only [rightL, Bool.and_eq_true] at hL
 have ey := rit_u hL.1 hy
 rw [hn] at ey
 simp only [rdTell, Option.bind_eq_some_iff] at h
 obtain ⟨⟨a0, r0⟩, t0, ⟨a1, r1⟩, t1, ⟨a2, r2⟩, t2, ⟨a3, r3⟩, t3, ⟨a4, r4⟩, t4, h⟩ := h
 obtain ⟨rfl, l0, u0, R0⟩ := tkU_r hL.2 t0
 obtain ⟨rfl, l1, u1, R1⟩ := tkU_r R0 t1
 obtain ⟨rfl, l2, u2, R2⟩ := tkU_r R1 t2
 obtain ⟨rfl, R3⟩ := tkB_r R2 (fun z hz => hN z (by simp [hz])) t3
 obtain ⟨rfl, u4, R4⟩ := tkT_r R3 t4
 injection h with h
 injection h with h h'
 subst h'
 subst h
 rw [hl, ey] at e
 subst hq
 have m1 : a1 % 4294967296 = a1 := Nat.mod_eq_of_lt (by omega)
 have m2 : a2 % 4294967296 = a2 := Nat.mod_eq_of_lt (by omega)
 have hc : candR 2 x = Rc.withK ⟨0, 0, 0, 0, 0, 0, 0, 0, a0, a1, a2, a3, 0, a4, 0⟩ (((2 : Nat) : Int) + 1) := by
  rw [e]
  show (⟨3, 0, 0, 0, 0, 0, 0, 0, ((a0 : Int).toNat), ((a1 : Int).toNat) % 4294967296, ((a2 : Int).toNat) % 4294967296, ((boN a3).toNat == 1), 0, ((a4 : Int).toNat), 0⟩ : Rc) = _
  rw [Int.toNat_natCast, Int.toNat_natCast, Int.toNat_natCast, Int.toNat_natCast, m1, m2, boN_eq]
  rfl
 exact of_lay (j := 2) hv (by decide) rfl (by rw [e]; rfl) hr hc (by rw [e]; rfl) rfl (by rw [e]; rfl)

set_option maxRecDepth 100000 in
theorem rd_member {w : World} {B : Nat} {v : Value} {x : It} {q c : Rc} {y : It} {l : List It} (hv : ItV w B v x) (hx : x.right = true) (hl : x.l = y :: l) (hy : y.k = 1) (hn : y.n = ((4 : Nat) : Int) + 1) (h : rdMember l = some (c, [])) (hq : q = c.withK (((4 : Nat) : Int) + 1)) (hr : rdR x = some q) : ofR x = some q := by
 have hL := rit_kids hx
 have e := rit_l hx (by rw [hl]; simp)
 have hN : ∀ z ∈ l, 0 ≤ z.n := fun z hz => ((hv.nn 1).2 z (by rw [hl]; exact List.mem_cons_of_mem _ hz))
 rw [hl] at hL
 simp only [rightL, Bool.and_eq_true] at hL
 have ey := rit_u hL.1 hy
 rw [hn] at ey
 simp only [rdMember, Option.bind_eq_some_iff] at h
 obtain ⟨⟨a0, r0⟩, t0, ⟨a1, r1⟩, t1, ⟨a2, r2⟩, t2, ⟨a3, r3⟩, t3, h⟩ := h
 obtain ⟨rfl, l0, u0, R0⟩ := tkU_r hL.2 t0
 obtain ⟨rfl, l1, u1, R1⟩ := tkU_r R0 t1
 obtain ⟨rfl, l2, u2, R2⟩ := tkU_r R1 t2
 obtain ⟨rfl, R3⟩ := tkB_r R2 (fun z hz => hN z (by simp [hz])) t3
 injection h with h
 injection h with h h'
 subst h'
 subst h
 rw [hl, ey] at e
 subst hq
 have m0 : a0 % 4294967296 = a0 := Nat.mod_eq_of_lt (by omega)
 have m1 : a1 % 4294967296 = a1 := Nat.mod_eq_of_lt (by omega)
 have hc : candR 4 x = Rc.withK ⟨0, 0, 0, 0, 0, 0, 0, 0, a2, a0, a1, a3, 0, 0, 0⟩ (((4 : Nat) : Int) + 1) := by
  rw [e]
  show (⟨5, 0, 0, 0, 0, 0, 0, 0, ((a2 : Int).toNat), ((a0 : Int).toNat) % 4294967296, ((a1 : Int).toNat) % 4294967296, ((boN a3).toNat == 1), 0, 0, 0⟩ : Rc) = _
  rw [Int.toNat_natCast, Int.toNat_natCast, Int.toNat_natCast, m0, m1, boN_eq]
  rfl
 exact of_lay (j := 4) hv (by decide) rfl (by rw [e]; rfl) hr hc (by rw [e]; rfl) rfl (by rw [e]; rfl)

set_option maxRecDepth 100000 in
theorem rd_fore {w : World} {B : Nat} {v : Value} {x : It} {q c : Rc} {y : It} {l : List It} (hv : ItV w B v x) (hx : x.right = true) (hl : x.l = y :: l) (hy : y.k = 1) (hn : y.n = ((3 : Nat) : Int) + 1) (h : rdFore l = some (c, [])) (hq : q = c.withK (((3 : Nat) : Int) + 1)) (hr : rdR x = some q) : ofR x = some q := by
 have hL := rit_kids hx
 have e := rit_l hx (by rw [hl]; simp)
 have hN : ∀ z ∈ l, 0 ≤ z.n := fun z hz => ((hv.nn 1).2 z (by rw [hl]; exact List.mem_cons_of_mem _ hz))
 rw [hl] at hL
 simp only [rightL, Bool.and_eq_true] at hL
 have ey := rit_u hL.1 hy
 rw [hn] at ey
 simp only [rdFore, Option.bind_eq_some_iff] at h
 obtain ⟨⟨a0, r0⟩, t0, ⟨a1, r1⟩, t1, ⟨a2, r2⟩, t2, ⟨a3, r3⟩, t3, h⟩ := h
 obtain ⟨rfl, l0, u0, R0⟩ := tkU_r hL.2 t0
 obtain ⟨rfl, u1, R1⟩ := tkT_r R0 t1
 obtain ⟨rfl, u2, R2⟩ := tkT_r R1 t2
 obtain ⟨rfl, l3, u3, R3⟩ := tkU_r R2 t3
 split at h
 case isFalse => cases h
 injection h with h
 injection h with h h'
 subst h'
 subst h
 rw [hl, ey] at e
 subst hq
 have m0 : a0 % 4294967296 = a0 := Nat.mod_eq_of_lt (by omega)
 have m3 : a3 % 256 = a3 := Nat.mod_eq_of_lt (by omega)
 have hc : candR 3 x = Rc.withK ⟨0, 0, 0, 0, 0, 0, 0, 0, 0, a0, 0, false, a1, a2, a3⟩ (((3 : Nat) : Int) + 1) := by
  rw [e]
  show (⟨4, 0, 0, 0, 0, 0, 0, 0, 0, ((a0 : Int).toNat) % 4294967296, 0, false, ((a1 : Int).toNat), ((a2 : Int).toNat), ((a3 : Int).toNat) % 256⟩ : Rc) = _
  rw [Int.toNat_natCast, Int.toNat_natCast, Int.toNat_natCast, Int.toNat_natCast, m0, m3]
  rfl
 exact of_lay (j := 3) hv (by decide) rfl (by rw [e]; rfl) hr hc (by rw [e]; rfl) rfl (by rw [e]; rfl)

theorem tkN_r {l r : List It} {p : Nat × Nat × Nat × Nat} (hl : rightL l = true) (h : tkN l = some (p, r)) : ∃ z, l = z :: r ∧ nmI z = some p ∧ rightL r = true := by
 match l with
 | [] => cases h
 | z :: r' =>
  simp only [rightL, Bool.and_eq_true] at hl
  cases hz : nmI z with
  | none => rw [tkN, hz] at h; cases h
  | some p' =>
   rw [tkN, hz] at h
   injection h with h
   injection h with h h'
   subst h
   subst h'
   exact ⟨z, rfl, hz, hl.2⟩
set_option maxRecDepth 100000 in
theorem rd_report {w : World} {B : Nat} {v : Value} {x : It} {q c : Rc} {y : It} {l : List It} (hv : ItV w B v x) (hx : x.right = true) (hl : x.l = y :: l) (hy : y.k = 1) (hn : y.n = ((0 : Nat) : Int) + 1) (h : rdReport l = some (c, [])) (hq : q = c.withK (((0 : Nat) : Int) + 1)) (hr : rdR x = some q) : ofR x = some q := by
 have hL := rit_kids hx
 have e := rit_l hx (by rw [hl]; simp)
 have hN : ∀ z ∈ l, z.nn 3 := fun z hz => by
  obtain ⟨u, hu⟩ := hv.kids (y := z) (by rw [hl]; exact List.mem_cons_of_mem _ hz)
  exact hu.nn 3
 rw [hl] at hL
 simp only [rightL, Bool.and_eq_true] at hL
 have ey := rit_u hL.1 hy
 rw [hn] at ey
 simp only [rdReport, Option.bind_eq_some_iff] at h
 obtain ⟨⟨⟨b0, b1, b2, b3⟩, r0⟩, t0, ⟨a1, r1⟩, t1, ⟨a2, r2⟩, t2, ⟨a3, r3⟩, t3, h⟩ := h
 obtain ⟨z, rfl, hz, R0⟩ := tkN_r hL.2 t0
 obtain ⟨ez, g0, _, _, g3, _⟩ := nmI_some (hN z (by simp)) hz
 obtain ⟨rfl, l1, u1, R1⟩ := tkU_r R0 t1
 obtain ⟨rfl, l2, u2, R2⟩ := tkU_r R1 t2
 obtain ⟨rfl, u3, R3⟩ := tkT_r R2 t3
 split at h
 case isFalse => cases h
 injection h with h
 injection h with h h'
 subst h'
 subst h
 subst ez
 rw [hl, ey] at e
 subst hq
 have hnm : nmC x = ((b0, b1, b2, b3), true) := by
  rw [nmC, e]
  show (match nmI (itN b0 b1 b2 b3) with | some p => (p, true) | none => ((0, 0, 0, 0), false)) = _
  rw [hz]
 have n2 : nAt x 2 = a1 := by
  rw [e]
  show ((a1 : Int).toNat) = a1
  exact Int.toNat_natCast _
 have n3 : nAt x 3 = a2 := by
  rw [e]
  show ((a2 : Int).toNat) = a2
  exact Int.toNat_natCast _
 have n4 : nAt x 4 = a3 := by
  rw [e]
  show ((a3 : Int).toNat) = a3
  exact Int.toNat_natCast _
 have hm : NmT.it ⟨b0, b1, b2, b3⟩ = itN b0 b1 b2 b3 := by
  have h0 : NmT.may ⟨b0, b1, b2, b3⟩ = true := by rw [NmT.may, decide_eq_true g0, decide_eq_true g3]; rfl
  rw [NmT.it, if_pos h0]
 have w1 : IntKind.u64.wrap (a1 : Int) = (a1 : Int) := by rw [IntKind.wrap_u64]; omega
 have w2 : IntKind.u64.wrap (a2 : Int) = (a2 : Int) := by rw [IntKind.wrap_u64]; omega
 have k1 : min a1 9 = a1 := by omega
 have k2 : min a2 9 = a2 := by omega
 have hc : candR 0 x = Rc.withK ⟨0, b0, b1, b2, b3, a1, a2, a3, 0, 0, 0, false, 0, 0, 0⟩ (((0 : Nat) : Int) + 1) := by
  show (⟨1, (nmC x).1.1, (nmC x).1.2.1, (nmC x).1.2.2.1, (nmC x).1.2.2.2, ((min (nAt x 2) 9 : Nat) : Int), ((min (nAt x 3) 9 : Nat) : Int), nAt x 4, 0, 0, 0, false, 0, 0, 0⟩ : Rc) = _
  rw [hnm, n2, n3, n4, k1, k2]
  rfl
 refine of_lay (j := 0) hv (by decide) rfl ?_ hr hc (by rw [e]; rfl) (by rw [fineR, if_pos rfl, hnm]) (by rw [e]; rfl)
 rw [e]
 show itLs [itU (((0 : Nat) : Int) + 1), itN b0 b1 b2 b3, itU a1, itU a2, itU a3] = itLs [itU (IntKind.u64.wrap (((0 : Nat) : Int) + 1)), NmT.it ⟨b0, b1, b2, b3⟩, itU (IntKind.u64.wrap (a1 : Int)), itU (IntKind.u64.wrap (a2 : Int)), itU a3]
 rw [w1, w2, hm]
 rfl

theorem rd_of {w : World} {B : Nat} {v : Value} {x : It} (hv : ItV w B v x) (hx : x.right = true) : rdR x = ofR x := by
 cases h : rdR x with
 | some q =>
  obtain ⟨y, l, j, c, hl, hy, hn, hj, hk, hq⟩ := rd_parts h
  rcases (show j = 0 ∨ j = 1 ∨ j = 2 ∨ j = 3 ∨ j = 4 by omega) with rfl | rfl | rfl | rfl | rfl
  ·exact (rd_report hv hx hl hy hn hk hq h).symm
  ·exact (rd_ask hv hx hl hy hn hk hq h).symm
  ·exact (rd_tell hv hx hl hy hn hk hq h).symm
  ·exact (rd_fore hv hx hl hy hn hk hq h).symm
  ·exact (rd_member hv hx hl hy hn hk hq h).symm
 | none =>
  cases h2 : ofR x with
  | none => rfl
  | some q =>
   have := (ofR_rd hv h2).1
   rw [h] at this
   cases this

end Go.Proofs.YteldifnkeekafaaGreatDoor
