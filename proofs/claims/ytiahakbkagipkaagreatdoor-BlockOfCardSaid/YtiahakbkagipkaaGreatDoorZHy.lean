/- Joined texts. -/
import Derived.Test.YtiahakbkagipkaaGreatDoorZHz
import Derived.Test.YtiahakbkagipkaaGreatDoorZBg
set_option maxHeartbeats 16000000
set_option linter.unusedSimpArgs false
set_option linter.unusedVariables false
set_option maxRecDepth 100000
namespace Go.Proofs.YtiahakbkagipkaaGreatDoor
open Go Go.RowKit Go.Shelf

theorem leaf_nn {k n : Int} {b s : List UInt8} (h : 0 ≤ n) : ∀ d, It.nn d (.mk k n b s [])
 | 0 => h
 | d + 1 => ⟨h, fun y hy => by cases hy⟩

theorem listN_nn {g : List UInt8 → Except Nat (It × List UInt8)} (hg : ∀ bs x r, g bs = .ok (x, r) → ∀ d, x.nn d) : ∀ (c : Nat) (bs : List UInt8) (l : List It) (r : List UInt8), listN g c bs = .ok (l, r) → ∀ d, ∀ y ∈ l, It.nn d y
 | 0, bs, l, r, h => by
  simp only [listN, Except.ok.injEq, Prod.mk.injEq] at h
  obtain ⟨rfl, rfl⟩ := h
  intro d y hy
  cases hy
 | c + 1, bs, l, r, h => by
  rw [listN] at h
  split at h
  ·cases h
  ·rename_i x r1 hx
   split at h
   ·cases h
   ·rename_i l2 r2 hl
    simp only [Except.ok.injEq, Prod.mk.injEq] at h
    obtain ⟨rfl, rfl⟩ := h
    intro d y hy
    rcases List.mem_cons.1 hy with rfl | hy
    ·exact hg _ _ _ hx d
    ·exact listN_nn hg c _ _ _ hl d y hy

theorem itemN_nn : ∀ (k : Nat) (bs : List UInt8) (x : It) (r : List UInt8), itemN k bs = .ok (x, r) → ∀ d, x.nn d
 | 0, _, _, _, h => by cases h
 | k + 1, bs, x, r, h => by
  rw [itemN] at h
  split at h
  ·cases h
  ·rename_i m n r0 hh
   have hu := (headN_u64 hh).1
   split at h
   ·simp only [Except.ok.injEq, Prod.mk.injEq] at h
    obtain ⟨rfl, rfl⟩ := h
    exact leaf_nn hu.1
   split at h
   ·split at h
    ·simp only [Except.ok.injEq, Prod.mk.injEq] at h
     obtain ⟨rfl, rfl⟩ := h
     exact leaf_nn (Int.le_refl 0)
    ·cases h
   split at h
   ·rw [textN] at h
    split at h
    ·split at h
     ·simp only [Except.ok.injEq, Prod.mk.injEq] at h
      obtain ⟨rfl, rfl⟩ := h
      exact leaf_nn (Int.le_refl 0)
     ·cases h
    ·cases h
   split at h
   ·split at h
    ·cases h
    ·rename_i l r' hl
     simp only [Except.ok.injEq, Prod.mk.injEq] at h
     obtain ⟨rfl, rfl⟩ := h
     have h1 := listN_nn (itemN_nn k) _ _ _ _ hl
     intro d
     cases d with
     | zero => exact Int.le_refl 0
     | succ d => exact ⟨Int.le_refl 0, fun y hy => h1 d y hy⟩
   split at h
   ·rw [bareN] at h
    split at h
    ·rename_i hn
     simp only [Except.ok.injEq, Prod.mk.injEq] at h
     obtain ⟨rfl, rfl⟩ := h
     exact leaf_nn (by omega)
    ·split at h
     ·simp only [Except.ok.injEq, Prod.mk.injEq] at h
      obtain ⟨rfl, rfl⟩ := h
      exact leaf_nn (Int.le_refl 0)
     ·cases h
   ·cases h

theorem decodeN_form {bs : List UInt8} {x : It} (h : decodeN bs = .ok x) : (∀ d, x.nn d) ∧ x.right = true ∧ bs = dataO x := by
 have hr := (decodeN_ok2 h).1
 unfold decodeN at h
 split at h
 ·cases h
 ·rename_i y m hf
  split at h
  ·cases h
  ·rename_i hm
   injection h with h
   subst h
   obtain ⟨h1, h2, h3, h4⟩ := firstN_back hf
   refine ⟨?_, hr, ?_⟩
   ·unfold firstN at hf
    split at hf
    ·cases hf
    ·split at hf
     ·cases hf
     ·rename_i z r hi
      simp only [Except.ok.injEq, Prod.mk.injEq] at hf
      obtain ⟨rfl, _⟩ := hf
      exact itemN_nn 8 _ _ _ hi
   ·rw [dataO, if_pos h1, h3, List.take_of_length_le (by omega)]

theorem nu_form {x : It} {n : Nat} (hr : x.right = true) (h0 : 0 ≤ x.n) (h : nuP x = some n) : x = itU n := by
 obtain ⟨k, m, b, s, l⟩ := x
 unfold nuP at h
 split at h
 ·rename_i hk
  injection h with h
  simp only [It.k] at hk
  subst hk
  simp only [It.n] at h h0
  simp only [It.right, rightN, Bool.and_eq_true, decide_eq_true_eq] at hr
  have hb : b = [] := by
   rcases hr.1.2.2.1 with h | h
   ·cases h
   ·exact h
  have hs : s = [] := by
   rcases hr.1.2.2.2.1 with h | h
   ·cases h
   ·exact h
  have hl : l = [] := by
   rcases hr.1.2.2.2.2 with h | h
   ·cases h
   ·exact List.eq_nil_of_length_eq_zero h
  subst hb hs hl
  rw [itU, show m = (n : Int) by omega]
 ·cases h

theorem datD_get {α : Type} {f : It → Option α} {d : List UInt8} {y : α} (h : datD f d = some y) : ∃ x, decodeN d = .ok x ∧ f x = some y := by
 unfold datD at h
 split at h
 ·rename_i x hx
  exact ⟨x, hx, h⟩
 ·cases h

theorem ageD_form {d : List UInt8} {g : Nat} (h : datD ageI d = some g) : isT g = true ∧ d = dataO (itU g) := by
 obtain ⟨x, hx, hf⟩ := datD_get h
 obtain ⟨h1, h2, h3⟩ := decodeN_form hx
 unfold ageI at hf
 cases hn : nuP x with
 | none => rw [hn] at hf; cases hf
 | some n =>
  rw [hn, Option.bind_some] at hf
  split at hf
  ·rename_i ht
   injection hf with hf
   subst hf
   exact ⟨ht, by rw [h3, nu_form h2 (It.nn_n (h1 0)) hn]⟩
  ·cases hf

theorem rightL_at : ∀ {l : List It} {y : It}, rightL l = true → y ∈ l → y.right = true
 | x :: l, y, h, hy => by
  simp only [rightL, Bool.and_eq_true] at h
  rcases List.mem_cons.1 hy with rfl | hy
  ·exact h.1
  ·exact rightL_at h.2 hy

theorem right_l4 {x : It} (h : x.right = true) (hl : x.l ≠ []) (h0 : x.n = 0 ∨ x.n = 0) : x = itLs x.l ∧ ∀ y ∈ x.l, y.right = true := by
 have hk := right_k4 h
 obtain ⟨k, m, b, s, l⟩ := x
 simp only [It.k, It.l, It.n] at hk hl h0
 have hk : k = 4 := by
  rcases hk with h | h
  ·exact h
  ·exact absurd h hl
 subst hk
 simp only [It.right, rightN, Bool.and_eq_true, decide_eq_true_eq] at h
 have hb : b = [] := by
  rcases h.1.2.2.1 with h | h
  ·cases h
  ·exact h
 have hs : s = [] := by
  rcases h.1.2.2.2.1 with h | h
  ·cases h
  ·exact h
 have hm : m = 0 := by rcases h0 with h | h <;> exact h
 subst hb hs hm
 exact ⟨rfl, fun y hy => rightL_at h.2 hy⟩

theorem right_n4 {x : It} (h : x.right = true) (hl : x.l ≠ []) : x.n = 0 := by
 have hk := right_k4 h
 obtain ⟨k, m, b, s, l⟩ := x
 simp only [It.k, It.l, It.n] at hk hl ⊢
 have hk : k = 4 := by
  rcases hk with h | h
  ·exact h
  ·exact absurd h hl
 subst hk
 simp only [It.right, rightN, Bool.and_eq_true, decide_eq_true_eq] at h
 rcases h.1.2.1 with h | h | h
 ·cases h
 ·cases h
 ·exact h

theorem hopD_form {d : List UInt8} {p q : Nat} (h : datD hopI d = some (p, q)) : d = dataO (itLs [itU p, itU q]) := by
 obtain ⟨x, hx, hf⟩ := datD_get h
 obtain ⟨h1, h2, h3⟩ := decodeN_form hx
 unfold hopI at hf
 split at hf
 ·rename_i y0 y1 hl
  have hne : x.l ≠ [] := by rw [hl]; simp
  obtain ⟨e, hr⟩ := right_l4 h2 hne (.inl (right_n4 h2 hne))
  have n0 : It.nn 0 y0 := (h1 1).2 y0 (by rw [hl]; simp)
  have n1 : It.nn 0 y1 := (h1 1).2 y1 (by rw [hl]; simp)
  have r0 := hr y0 (by rw [hl]; simp)
  have r1 := hr y1 (by rw [hl]; simp)
  cases a0 : nuP y0 with
  | none => rw [a0] at hf; cases hf
  | some n =>
   rw [a0, Option.bind_some] at hf
   cases a1 : nuP y1 with
   | none => rw [a1] at hf; cases hf
   | some m =>
    rw [a1, Option.bind_some] at hf
    split at hf
    ·injection hf with hf
     injection hf with e1 e2
     subst e1 e2
     rw [h3, e, hl, nu_form r0 n0 a0, nu_form r1 n1 a1]
    ·cases hf
 ·cases hf

theorem endD_form {d : List UInt8} {n m : Nat} (h : datD befI d = some (n, m)) : 0 < n ∧ d = dataO (itE n m) := by
 obtain ⟨x, hx, hf⟩ := datD_get h
 obtain ⟨h1, h2, h3⟩ := decodeN_form hx
 unfold befI at hf
 cases he : epI x with
 | none => rw [he] at hf; cases hf
 | some p =>
  obtain ⟨n', m'⟩ := p
  rw [he, Option.bind_some] at hf
  split at hf
  ·rename_i h0
   injection hf with hf
   injection hf with e1 e2
   subst e1 e2
   exact ⟨h0, by rw [h3, (epI_some (h1 2) he).1]⟩
  ·cases hf

theorem patD_form {d : List UInt8} {b : Bool} {xs : List Cr} (h : datD patI d = some (b, xs)) : rightX xs = true ∧ d = dataO (itP b xs) := by
 obtain ⟨x, hx, hf⟩ := datD_get h
 obtain ⟨_, _, h3⟩ := decodeN_form hx
 unfold patI at hf
 split at hf
 ·rename_i hp
  injection hf with hf
  obtain ⟨b', zs, hz, rfl⟩ := isP_form hp
  rw [(isP_back b' zs hz).2] at hf
  injection hf with e1 e2
  subst e1 e2
  exact ⟨hz, h3⟩
 ·cases hf

def tyO (p : Nat) : Nat := if p = 0 then 6 else if p = 1 then 7 else if p = 2 then 10 else 200
def condO (n j : Nat) (b : Bl) : Prop := rightB b = true ∧ b.n = j + 2 ∧ b.t = tyO (j + 4 - n)

theorem look_right (x : Ex) (b : Bl) : (lookE x b).isSome = rightB b := by
 unfold rightB lookE
 split
 ·unfold tellE
  split
  ·rfl
  split
  ·rw [Option.isSome_map, Option.isSome_map]
  split
  ·rw [Option.isSome_map, Option.isSome_map]
  split
  ·rw [Option.isSome_map, Option.isSome_map]
  split
  ·rw [Option.isSome_map, Option.isSome_map]
  ·rfl
 ·rfl

theorem gath_right : ∀ {l : List Bl} {x y : Ex}, gathE x l = some y → ∀ b ∈ l, rightB b = true
 | b :: r, x, y, h, c, hc => by
  simp only [gathE] at h
  cases hb : lookE x b with
  | none => rw [hb] at h; cases h
  | some z =>
   rw [hb, Option.bind_some] at h
   rcases List.mem_cons.1 hc with rfl | hc
   ·rw [← look_right x, hb]
    rfl
   ·exact gath_right h c hc

theorem kinB_eq {x y : Bl} (h : kinB x y = true) : x.t = y.t ∧ x.n = y.n ∧ x.d = y.d := by
 have h := (sameB_iff _ _).1 h
 rw [h]
 exact ⟨rfl, rfl, rfl⟩

theorem ofE_parts {l : List Bl} {x : Ex} (h : ofE l = .ok x) : gathE ex0 l = some x ∧ rightEx x = true ∧ sameK l (listB x 0) = true := by
 unfold ofE at h
 split at h
 ·rename_i y hg
  injection h with h
  subst h
  unfold gatheredE at hg
  split at hg
  ·cases hg
  ·rename_i z hz
   split at hg
   ·cases hg
   ·rename_i m hm
    split at hg
    ·rename_i hs
     injection hg with hg
     subst hg
     have hr : rightEx z = true := by
      cases hr : rightEx z with
      | true => rfl
      | false => rw [blocksE_no 0 hr] at hm; cases hm
     rw [blocksE_yes 0 hr] at hm
     injection hm with hm
     subst hm
     exact ⟨hz, hr, hs⟩
    ·cases hg
 ·cases h

theorem ofE_some {l : List Bl} {x : Ex} (h : ofE l = .ok x) : (l.length = 3 ∨ l.length = 4) ∧ ∀ (j : Nat) (b : Bl), l[j]? = some b → condO l.length j b := by
 obtain ⟨hg, hr, hs⟩ := ofE_parts h
 have hR := gath_right hg
 have hk := (sameK_iff _ _).1 hs
 unfold listB at hk
 split at hk
 ·have hl : l.length = 3 := hk.1
  refine ⟨.inl hl, fun j b hb => ?_⟩
  have hj := (List.getElem?_eq_some_iff.1 hb).1
  have hrb := hR b (List.mem_of_getElem? hb)
  rw [hl] at hj ⊢
  match j, hj with
  | 0, _ =>
   obtain ⟨h1, h2, _⟩ := kinB_eq (hk.2 0 b _ hb rfl)
   exact ⟨hrb, h2, h1⟩
  | 1, _ =>
   obtain ⟨h1, h2, _⟩ := kinB_eq (hk.2 1 b _ hb rfl)
   exact ⟨hrb, h2, h1⟩
  | 2, _ =>
   obtain ⟨h1, h2, _⟩ := kinB_eq (hk.2 2 b _ hb rfl)
   exact ⟨hrb, h2, h1⟩
  | j + 3, h => omega
 ·have hl : l.length = 4 := hk.1
  refine ⟨.inr hl, fun j b hb => ?_⟩
  have hj := (List.getElem?_eq_some_iff.1 hb).1
  have hrb := hR b (List.mem_of_getElem? hb)
  rw [hl] at hj ⊢
  match j, hj with
  | 0, _ =>
   obtain ⟨h1, h2, _⟩ := kinB_eq (hk.2 0 b _ hb rfl)
   exact ⟨hrb, h2, h1⟩
  | 1, _ =>
   obtain ⟨h1, h2, _⟩ := kinB_eq (hk.2 1 b _ hb rfl)
   exact ⟨hrb, h2, h1⟩
  | 2, _ =>
   obtain ⟨h1, h2, _⟩ := kinB_eq (hk.2 2 b _ hb rfl)
   exact ⟨hrb, h2, h1⟩
  | 3, _ =>
   obtain ⟨h1, h2, _⟩ := kinB_eq (hk.2 3 b _ hb rfl)
   exact ⟨hrb, h2, h1⟩
  | j + 4, h => omega

theorem ofE_cases (l : List Bl) : (∃ x, ofE l = .ok x) ∨ ofE l = .error 161 := by
 unfold ofE
 split
 ·exact .inl ⟨_, rfl⟩
 ·exact .inr rfl
theorem of_len {l : List Bl} (h : ¬ (l.length = 3 ∨ l.length = 4)) : ofE l = .error 161 := by
 rcases ofE_cases l with ⟨x, hx⟩ | h1
 ·exact absurd (ofE_some hx).1 h
 ·exact h1
theorem of_not {l : List Bl} {j : Nat} {b : Bl} (hb : l[j]? = some b) (h : ¬ condO l.length j b) : ofE l = .error 161 := by
 rcases ofE_cases l with ⟨x, hx⟩ | h1
 ·exact absurd ((ofE_some hx).2 j b hb) h
 ·exact h1

theorem look_6 {x y : Ex} {b : Bl} (ht : b.t = 6) (h : lookE x b = some y) : ∃ n m, datD befI b.d = some (n, m) ∧ y = ⟨n, m, x.g, x.l, x.c, x.b, x.xs⟩ := by
 unfold lookE at h
 split at h
 ·unfold tellE at h
  rw [ht, if_neg (by decide), if_pos rfl] at h
  obtain ⟨p, hp, rfl⟩ := Option.map_eq_some_iff.1 h
  exact ⟨p.1, p.2, hp, rfl⟩
 ·cases h
theorem look_7 {x y : Ex} {b : Bl} (ht : b.t = 7) (h : lookE x b = some y) : ∃ g, datD ageI b.d = some g ∧ y = ⟨x.n, x.m, g, x.l, x.c, x.b, x.xs⟩ := by
 unfold lookE at h
 split at h
 ·unfold tellE at h
  rw [ht, if_neg (by decide), if_neg (by decide), if_pos rfl] at h
  obtain ⟨p, hp, rfl⟩ := Option.map_eq_some_iff.1 h
  exact ⟨p, hp, rfl⟩
 ·cases h
theorem look_10 {x y : Ex} {b : Bl} (ht : b.t = 10) (h : lookE x b = some y) : ∃ n m, datD hopI b.d = some (n, m) ∧ y = ⟨x.n, x.m, x.g, n, m, x.b, x.xs⟩ := by
 unfold lookE at h
 split at h
 ·unfold tellE at h
  rw [ht, if_neg (by decide), if_neg (by decide), if_neg (by decide), if_pos rfl] at h
  obtain ⟨p, hp, rfl⟩ := Option.map_eq_some_iff.1 h
  exact ⟨p.1, p.2, hp, rfl⟩
 ·cases h
theorem look_200 {x y : Ex} {b : Bl} (ht : b.t = 200) (h : lookE x b = some y) : ∃ k xs, datD patI b.d = some (k, xs) ∧ y = ⟨x.n, x.m, x.g, x.l, x.c, k, xs⟩ := by
 unfold lookE at h
 split at h
 ·unfold tellE at h
  rw [ht, if_neg (by decide), if_neg (by decide), if_neg (by decide), if_neg (by decide), if_pos rfl] at h
  obtain ⟨p, hp, rfl⟩ := Option.map_eq_some_iff.1 h
  exact ⟨p.1, p.2, hp, rfl⟩
 ·cases h

theorem kinB_of {t n : Nat} {s s' : Int} {d d' : List UInt8} {b : Bl} (ht : b.t = t) (hn : b.n = n) (hd : b.d = d) : kinB b ⟨t, n, s', d⟩ = true := by
 obtain ⟨t', n', s2, d2⟩ := b
 simp only at ht hn hd
 subst ht hn hd
 exact kinB_self _ _ _ _ _

theorem tail_form {b7 b10 b200 : Bl} {y x : Ex} {n : Nat} (h7 : b7.t = 7) (h10 : b10.t = 10) (h200 : b200.t = 200) (n7 : b7.n = n) (n10 : b10.n = n + 1) (n200 : b200.n = n + 2) (h : gathE y [b7, b10, b200] = some x) :
  isT x.g = true ∧ rightX x.xs = true ∧ x.n = y.n ∧ x.m = y.m ∧ sameK [b7, b10, b200] (tailB x 0 n) = true := by
 simp only [gathE] at h
 cases e1 : lookE y b7 with
 | none => rw [e1] at h; cases h
 | some y1 =>
  rw [e1, Option.bind_some] at h
  cases e2 : lookE y1 b10 with
  | none => rw [e2] at h; cases h
  | some y2 =>
   rw [e2, Option.bind_some] at h
   cases e3 : lookE y2 b200 with
   | none => rw [e3] at h; cases h
   | some y3 =>
    rw [e3, Option.bind_some] at h
    injection h with h
    subst h
    obtain ⟨g, hg, rfl⟩ := look_7 h7 e1
    obtain ⟨p, q, hp, rfl⟩ := look_10 h10 e2
    obtain ⟨k, xs, hk, rfl⟩ := look_200 h200 e3
    obtain ⟨a1, a2⟩ := ageD_form hg
    have a3 := hopD_form hp
    obtain ⟨a4, a5⟩ := patD_form hk
    refine ⟨a1, a4, rfl, rfl, ?_⟩
    simp only [tailB, sameK, Bool.and_eq_true]
    exact ⟨kinB_of (s := 0) (d' := []) h7 n7 a2, kinB_of (s := 0) (d' := []) h10 n10 a3, kinB_of (s := 0) (d' := []) h200 n200 a5, trivial⟩

theorem of_all {l : List Bl} {x : Ex} (hl : l.length = 3 ∨ l.length = 4) (hc : ∀ (j : Nat) (b : Bl), l[j]? = some b → condO l.length j b) (hg : gathE ex0 l = some x) : ofE l = .ok x := by
 have key : rightEx x = true ∧ sameK l (listB x 0) = true := by
  rcases hl with hl | hl
  ·match l, hl with
   | [b0, b1, b2], hl =>
    obtain ⟨_, n0, t0⟩ := hc 0 b0 rfl
    obtain ⟨_, n1, t1⟩ := hc 1 b1 rfl
    obtain ⟨_, n2, t2⟩ := hc 2 b2 rfl
    obtain ⟨h1, h2, h3, h4, h5⟩ := tail_form (n := 2) t0 t1 t2 n0 n1 n2 hg
    have hn : noEnd x.n x.m = true := by rw [h3, h4]; rfl
    exact ⟨by rw [rightEx, h1, h2, hn]; rfl, by rw [listB, if_pos hn]; exact h5⟩
  ·match l, hl with
   | [b, b0, b1, b2], hl =>
    obtain ⟨_, m0, s0⟩ := hc 0 b rfl
    obtain ⟨_, n0, t0⟩ := hc 1 b0 rfl
    obtain ⟨_, n1, t1⟩ := hc 2 b1 rfl
    obtain ⟨_, n2, t2⟩ := hc 3 b2 rfl
    rw [gathE] at hg
    cases e : lookE ex0 b with
    | none => rw [e] at hg; cases hg
    | some y =>
     rw [e, Option.bind_some] at hg
     obtain ⟨h1, h2, h3, h4, h5⟩ := tail_form (n := 3) t0 t1 t2 n0 n1 n2 hg
     obtain ⟨n, m, hd, rfl⟩ := look_6 s0 e
     obtain ⟨a1, a2⟩ := endD_form hd
     have hn : noEnd x.n x.m = false := by
      rw [h3]
      show (decide (n = 0) && _) = false
      rw [decide_eq_false (by omega), Bool.false_and]
     have h0 : decide (0 < x.n) = true := by rw [h3]; exact decide_eq_true a1
     refine ⟨by rw [rightEx, h1, h2, hn, h0]; rfl, ?_⟩
     rw [listB, if_neg (by rw [hn]; decide)]
     simp only [sameK, Bool.and_eq_true]
     exact ⟨kinB_of (s := 0) (d' := []) s0 m0 (by rw [a2, h3, h4]), h5⟩
 rw [ofE, gathered_ok hg (blocksE_yes 0 key.1), if_pos key.2]

attribute [local go_sem] Oper.semAt_some

def fewB (l : List Bl) (m : Int) : Bool := l.all (fun b => decide (b.d.length ≤ 500)) && decide ((l.length : Int) ≤ m)

theorem few_no {l : List Bl} {m : Int} {k : Nat} (h : k < l.length) (hd : 500 < l[k].d.length) : fewB l m = false := by
 have h1 : l.all (fun b => decide (b.d.length ≤ 500)) = false := by
  rw [Bool.eq_false_iff]
  intro h2
  have h3 := of_decide_eq_true (List.all_eq_true.1 h2 l[k] (List.getElem_mem h))
  omega
 rw [fewB, h1, Bool.false_and]

theorem RdLs.cellAt {w : World} {A : Option Addr} {xs : List LB} (h : RdLs w w.heap.size A xs) {k : Nat} (hk : k < xs.length) :
  ∃ g o, A = some ⟨g, o, none⟩ ∧ g < w.heap.size ∧ CellB w g (o + k * 4) xs[k] := by
 rcases h.2 with h | ⟨g, o, e, hg, hc⟩
 ·rw [h] at hk
  simp at hk
 ·exact ⟨g, o, e, hg, hc k _ (List.getElem?_eq_getElem hk)⟩

theorem few8_any (xs : List LB) (A : Option Addr) (C : Nat) (m : Int) (w : World) (hl : RdLs w w.heap.size A xs) (hs : xs.length ≤ 140737488355328) :
  Calls Tryz.prog 20 #[.slice A xs.length C, .int .i64 m] w fun e w' => e = .returned (.bool (fewB (xs.map LB.b) m)) ∧ w = w' := by
 have HL := h_ hl
 have hd9 : Hid (∀ x ∈ xs, x.b.d.length ≤ 140737488355328) := fun x hx => (hl.1 x hx).2.1
 clear hl
 go_enter Tryz.func20, Tryz.ntmps20
 go_wp2_with fail
 go_loopw [5] (fun i wr => ∃ k : Nat, k ≤ xs.length ∧ i = .int .i64 k ∧ Hid (∀ j (h : j < xs.length), j < k → xs[j].b.d.length ≤ 500) ∧ w = wr) (fun i _ => xs.length - (intOf i).toNat)
 case atStart => exact ⟨0, Nat.zero_le _, rfl, fun j h hj => absurd hj (Nat.not_lt_zero _), rfl⟩
 case round =>
  obtain ⟨k, hk, rfl, HI, rfl⟩ := hrel
  by_cases hlt : k < xs.length
  ·obtain ⟨g, o, rfl, hg, e0, e1, e2, e3⟩ := HL.out.cellAt hlt
   have h47 := hd9.out xs[k] (List.getElem_mem hlt)
   by_cases h5 : 500 < xs[k].b.d.length
   ·have HF : Hid (fewB (xs.map LB.b) m = false) := few_no (k := k) (by simpa using hlt) (by rw [List.getElem_map]; exact h5)
    have d5 : (500 : Int) < (xs[k].b.d.length : Int) := by omega
    go_wp2_with fail
    go_ret
    exact ⟨by rw [HF.out]; rfl, rfl⟩
   ·have d5 : ¬ (500 : Int) < (xs[k].b.d.length : Int) := by omega
    have HN : Hid (∀ j (h : j < xs.length), j < k + 1 → xs[j].b.d.length ≤ 500) := fun j h hj => by
     rcases Nat.lt_succ_iff_lt_or_eq.1 hj with h2 | rfl
     ·exact HI.out j h h2
     ·omega
    go_wp2_with fail
    go_roundw
    case rel => exact ⟨k + 1, by omega, by go_num, HN.out, by trivial⟩
    case measure => simp [intOf]; omega
  ·obtain rfl : k = xs.length := by omega
   have HF : Hid (fewB (xs.map LB.b) m = decide ((xs.length : Int) ≤ m)) := by
    have h1 : (xs.map LB.b).all (fun b => decide (b.d.length ≤ 500)) = true := by
     rw [List.all_eq_true]
     intro b hb
     obtain ⟨x, hx, rfl⟩ := List.mem_map.1 hb
     obtain ⟨j, hj, rfl⟩ := List.getElem_of_mem hx
     exact decide_eq_true (HI.out j hj hj)
    rw [Hid, fewB, h1, Bool.true_and, List.length_map]
   clear hlt
   go_wp2_with fail
   go_ret
   exact ⟨by rw [HF.out]; rfl, rfl⟩

theorem few_len {l : List Bl} {m : Int} (h : fewB l m = true) : (l.length : Int) ≤ m ∧ ∀ b ∈ l, b.d.length ≤ 500 := by
 unfold fewB at h
 simp only [Bool.and_eq_true, decide_eq_true_eq, List.all_eq_true] at h
 exact ⟨h.2, h.1⟩

attribute [local go_sem] Oper.semAt_some

def PathN (B : Nat) (w : World) (A : Option Addr) (zs : List Cr) : Prop := RdX w w.heap.size A zs ∧ (zs = [] ∨ ∃ g, A = some ⟨g, 0, none⟩ ∧ B ≤ g)
theorem PathN.on {B : Nat} {w w' : World} {A : Option Addr} {zs : List Cr} (h : PathN B w A zs) (hb : Below w.heap.size w w') : PathN B w' A zs := ⟨h.1.on hb, h.2⟩
theorem PathN.set {B b i : Nat} {w : World} {A : Option Addr} {zs : List Cr} (h : PathN B w A zs) (hb : b < B) (u : Value) : PathN B (w.setCell ⟨b, i, none⟩ u) A zs := by
 refine ⟨?_, h.2⟩
 rcases h.2 with h2 | ⟨g, rfl, hg⟩
 ·exact .inl h2
 ·rcases h.1 with h1 | ⟨b', o, e, hlt, hc⟩
  ·exact .inl h1
  ·cases e
   exact .inr ⟨g, 0, rfl, by rw [World.size_setCell]; exact hlt, fun j hj => (hc j hj).kept (Below.heap_setCell _ _ _ _ (by show g ≠ b; omega))⟩

def StO (w : World) (l : List Bl) (k : Nat) (x : Ex) (A : Option Addr) (C : Nat) (wr : World) : Prop :=
 (Below w.heap.size w wr ∧ w.heap.size + 2 ≤ wr.heap.size) ∧ (RowB wr w.heap.size [.int .u32 0, .int .u32 0, .int .u64 0, .int .u8 0, .int .u8 0, .bool false, .slice none 0 0] ∧ RowB wr (w.heap.size + 1) [.int .u32 x.n, .int .u32 x.m, .int .u64 x.g, .int .u8 x.l, .int .u8 x.c, .bool x.b, .slice A x.xs.length C]) ∧ (x.xs.length ≤ C ∧ PathN (w.heap.size + 2) wr A x.xs) ∧ gathE ex0 (l.take k) = some x ∧ ∀ (j : Nat) (b : Bl), j < k → l[j]? = some b → condO l.length j b

def ROfB (w : World) (l : List Bl) (e : Ending) (w' : World) : Prop := Below w.heap.size w w' ∧ ((∃ x A C, ofE l = .ok x ∧ e = .returned (.tuple #[.agg #[.int .u32 x.n, .int .u32 x.m, .int .u64 x.g, .int .u8 x.l, .int .u8 x.c, .bool x.b, .slice A x.xs.length C], .bool true]) ∧ x.xs.length ≤ C ∧ RdX w' w'.heap.size A x.xs) ∨ (ofE l = .error 161 ∧ e = .returned (.tuple #[.agg #[.int .u32 0, .int .u32 0, .int .u64 0, .int .u8 0, .int .u8 0, .bool false, .slice none 0 0], .bool false])))

theorem StO.step {w : World} {l : List Bl} {k : Nat} {x y : Ex} {b : Bl} {A A' : Option Addr} {C C' : Nat} {wr w' : World} (h : StO w l k x A C wr) (hb : l[k]? = some b) (hc : condO l.length k b) (hy : lookE x b = some y) (h1 : Below w.heap.size w w') (h2 : w.heap.size + 2 ≤ w'.heap.size)
  (hr0 : RowB w' w.heap.size [.int .u32 0, .int .u32 0, .int .u64 0, .int .u8 0, .int .u8 0, .bool false, .slice none 0 0]) (hr1 : RowB w' (w.heap.size + 1) [.int .u32 y.n, .int .u32 y.m, .int .u64 y.g, .int .u8 y.l, .int .u8 y.c, .bool y.b, .slice A' y.xs.length C']) (hp : y.xs.length ≤ C' ∧ PathN (w.heap.size + 2) w' A' y.xs) : StO w l (k + 1) y A' C' w' := by
 obtain ⟨_, _, _, h4, h5⟩ := h
 refine ⟨⟨h1, h2⟩, ⟨hr0, hr1⟩, hp, gathE_step h4 hb hy, fun j b' hj hb' => ?_⟩
 by_cases e : j = k
 ·subst e
  rw [hb] at hb'
  injection hb' with hb'
  subst hb'
  exact hc
 ·exact h5 j b' (by omega) hb'

theorem look_dec {x y : Ex} {b : Bl} (ht : b.t ≠ 1) (h : lookE x b = some y) : ∃ it, decodeN b.d = .ok it := by
 cases hd : decodeN b.d with
 | ok it => exact ⟨it, rfl⟩
 | error c =>
  exfalso
  have h1 : rightB b = true := by rw [← look_right x, h]; rfl
  rw [rightB_ref, dataB_err ht hd] at h1
  simp at h1
theorem befI_ep {it : It} {n m : Nat} (h : befI it = some (n, m)) : epI it = some (n, m) := by
 unfold befI at h
 cases he : epI it with
 | none => rw [he] at h; cases h
 | some p =>
  rw [he, Option.bind_some] at h
  split at h
  ·exact h
  ·cases h
theorem nuP_n {it : It} {n : Nat} (h0 : 0 ≤ it.n) (h : nuP it = some n) : it.n = (n : Int) := by
 unfold nuP at h
 split at h
 ·injection h with h
  omega
 ·cases h
theorem ageI_n {it : It} {g : Nat} (h0 : It.nn 0 it) (h : ageI it = some g) : it.n = (g : Int) := by
 unfold ageI at h
 cases hn : nuP it with
 | none => rw [hn] at h; cases h
 | some n =>
  rw [hn, Option.bind_some] at h
  split at h
  ·injection h with h
   subst h
   exact nuP_n h0 hn
  ·cases h
theorem hopI_pair {it : It} {p q : Nat} (h0 : It.nn 1 it) (h : hopI it = some (p, q)) : ∃ y0 y1, it.l = [y0, y1] ∧ y0.n = (p : Int) ∧ y1.n = (q : Int) ∧ p ≤ 255 ∧ q ≤ 255 := by
 unfold hopI at h
 split at h
 ·rename_i y0 y1 hl
  cases a0 : nuP y0 with
  | none => rw [a0] at h; cases h
  | some n =>
   rw [a0, Option.bind_some] at h
   cases a1 : nuP y1 with
   | none => rw [a1] at h; cases h
   | some m =>
    rw [a1, Option.bind_some] at h
    split at h
    ·rename_i hnm
     injection h with h
     injection h with e1 e2
     subst e1 e2
     exact ⟨y0, y1, hl, nuP_n (h0.2 y0 (by rw [hl]; simp)) a0, nuP_n (h0.2 y1 (by rw [hl]; simp)) a1, hnm.1, hnm.2⟩
    ·cases h
 ·cases h

theorem refBOf_any (xs : List LB) (A : Option Addr) (C : Nat) (w : World) (hl : RdLs w w.heap.size A xs) (hC : xs.length ≤ C) (hs : xs.length ≤ 8) (hd : ∀ x ∈ xs, x.b.d.length ≤ 500) :
  Calls Tryz.prog 21 #[.slice A xs.length C] w (ROfB w (xs.map LB.b)) := by
 obtain ⟨W, hW⟩ : ∃ W, W = (w.alloc (.cells #[.int .u32 0, .int .u32 0, .int .u64 0, .int .u8 0, .int .u8 0, .bool false, .slice none 0 0] 46)).alloc (.cells #[.int .u32 0, .int .u32 0, .int .u64 0, .int .u8 0, .int .u8 0, .bool false, .slice none 0 0] 46) := ⟨_, rfl⟩
 have hB0 : Below w.heap.size w W := by rw [hW]; exact below_al (below_al bR _) _
 have hsW : W.heap.size ≤ w.heap.size + 2 ∧ w.heap.size + 2 ≤ W.heap.size := by rw [hW]; simp
 have hR0 : RowB W w.heap.size [.int .u32 0, .int .u32 0, .int .u64 0, .int .u8 0, .int .u8 0, .bool false, .slice none 0 0] := by
  rw [hW]
  exact (RowB.new w _ _).on (below_al bR _) (by simp)
 have hR1 : RowB W (w.heap.size + 1) [.int .u32 0, .int .u32 0, .int .u64 0, .int .u8 0, .int .u8 0, .bool false, .slice none 0 0] := by
  rw [hW]
  have h := RowB.new (w.alloc (.cells #[.int .u32 0, .int .u32 0, .int .u64 0, .int .u8 0, .int .u8 0, .bool false, .slice none 0 0] 46)) [.int .u32 0, .int .u32 0, .int .u64 0, .int .u8 0, .int .u8 0, .bool false, .slice none 0 0] 46
  rw [World.size_alloc] at h
  exact h
 have HSt : Hid (StO w (xs.map LB.b) 0 ex0 none 0 W) := ⟨⟨hB0, hsW.2⟩, ⟨hR0, hR1⟩, ⟨Nat.le_refl _, .inl rfl, .inl rfl⟩, rfl, fun j b hj _ => absurd hj (Nat.not_lt_zero _)⟩
 have HW := h_ hW
 have HL := h_ hl
 have HD := h_ hd
 have HB0 := h_ hB0
 have HR0 := h_ hR0
 have hlm : (xs.map LB.b).length = xs.length := List.length_map ..
 clear hW hl hd hB0 hR0 hR1 hsW
 have r0 := HR0.out.1 0 _ rfl
 have r1 := HR0.out.1 1 _ rfl
 have r2 := HR0.out.1 2 _ rfl
 have r3 := HR0.out.1 3 _ rfl
 have r4 := HR0.out.1 4 _ rfl
 have r5 := HR0.out.1 5 _ rfl
 have r6 := HR0.out.1 6 _ rfl
 have fr0 := HR0.out.2 0
 have fr1 := HR0.out.2 1
 have fr2 := HR0.out.2 2
 have fr3 := HR0.out.2 3
 have fr4 := HR0.out.2 4
 have fr5 := HR0.out.2 5
 have fr6 := HR0.out.2 6
 rw [HW.out] at r0 r1 r2 r3 r4 r5 r6 fr0 fr1 fr2 fr3 fr4 fr5 fr6
 by_cases h3 : xs.length = 3 ∨ xs.length = 4
 rotate_left
 ·have HE : Hid (ofE (xs.map LB.b) = .error 161) := of_len (by rw [hlm]; exact h3)
  by_cases hq : xs.length < 3
  ·have d1 : (xs.length : Int) < 3 := by omega
   clear h3 hlm hq
   go_enter Tryz.func21, Tryz.ntmps21
   go_upto_region 3 with fail
   rw [← HW.out]
   clear r0 r1 r2 r3 r4 r5 r6 fr0 fr1 fr2 fr3 fr4 fr5 fr6
   have r0 := HR0.out.1 0 _ rfl
   have r1 := HR0.out.1 1 _ rfl
   have r2 := HR0.out.1 2 _ rfl
   have r3 := HR0.out.1 3 _ rfl
   have r4 := HR0.out.1 4 _ rfl
   have r5 := HR0.out.1 5 _ rfl
   have r6 := HR0.out.1 6 _ rfl
   have fr0 := HR0.out.2 0
   have fr1 := HR0.out.2 1
   have fr2 := HR0.out.2 2
   have fr3 := HR0.out.2 3
   have fr4 := HR0.out.2 4
   have fr5 := HR0.out.2 5
   have fr6 := HR0.out.2 6
   go_wp2_with fail
   change bodyPost _ _ _ _ _ (put7 W w.heap.size (.int .u32 0) (.int .u32 0) (.int .u64 0) (.int .u8 0) (.int .u8 0) (.bool false) (.slice none 0 0))
   have hrow := put7_row HR0.out (.int .u32 0) (.int .u32 0) (.int .u64 0) (.int .u8 0) (.int .u8 0) (.bool false) (.slice none 0 0)
   have hbk : Below w.heap.size w (put7 W w.heap.size (.int .u32 0) (.int .u32 0) (.int .u64 0) (.int .u8 0) (.int .u8 0) (.bool false) (.slice none 0 0)) := put7_on HB0.out (Nat.le_refl _) (.int .u32 0) (.int .u32 0) (.int .u64 0) (.int .u8 0) (.int .u8 0) (.bool false) (.slice none 0 0)
   generalize put7 W w.heap.size (.int .u32 0) (.int .u32 0) (.int .u64 0) (.int .u8 0) (.int .u8 0) (.bool false) (.slice none 0 0) = w30 at *
   have k0 := hrow.1 0 _ rfl
   have k1 := hrow.1 1 _ rfl
   have k2 := hrow.1 2 _ rfl
   have k3 := hrow.1 3 _ rfl
   have k4 := hrow.1 4 _ rfl
   have k5 := hrow.1 5 _ rfl
   have k6 := hrow.1 6 _ rfl
   exact bodyPost_ret (v := .tuple #[.agg #[.int .u32 0, .int .u32 0, .int .u64 0, .int .u8 0, .int .u8 0, .bool false, .slice none 0 0], .bool false]) (by simp [results, Tryz.results21, go_sem, k0, k1, k2, k3, k4, k5, k6]) rfl ⟨hbk, .inr ⟨HE.out, rfl⟩⟩
  ·have d1 : ¬ (xs.length : Int) < 3 := by omega
   have d2 : (4 : Int) < (xs.length : Int) := by omega
   clear h3 hlm hq
   go_enter Tryz.func21, Tryz.ntmps21
   go_upto_region 3 with fail
   rw [← HW.out]
   clear r0 r1 r2 r3 r4 r5 r6 fr0 fr1 fr2 fr3 fr4 fr5 fr6
   have r0 := HR0.out.1 0 _ rfl
   have r1 := HR0.out.1 1 _ rfl
   have r2 := HR0.out.1 2 _ rfl
   have r3 := HR0.out.1 3 _ rfl
   have r4 := HR0.out.1 4 _ rfl
   have r5 := HR0.out.1 5 _ rfl
   have r6 := HR0.out.1 6 _ rfl
   have fr0 := HR0.out.2 0
   have fr1 := HR0.out.2 1
   have fr2 := HR0.out.2 2
   have fr3 := HR0.out.2 3
   have fr4 := HR0.out.2 4
   have fr5 := HR0.out.2 5
   have fr6 := HR0.out.2 6
   go_wp2_with fail
   change bodyPost _ _ _ _ _ (put7 W w.heap.size (.int .u32 0) (.int .u32 0) (.int .u64 0) (.int .u8 0) (.int .u8 0) (.bool false) (.slice none 0 0))
   have hrow := put7_row HR0.out (.int .u32 0) (.int .u32 0) (.int .u64 0) (.int .u8 0) (.int .u8 0) (.bool false) (.slice none 0 0)
   have hbk : Below w.heap.size w (put7 W w.heap.size (.int .u32 0) (.int .u32 0) (.int .u64 0) (.int .u8 0) (.int .u8 0) (.bool false) (.slice none 0 0)) := put7_on HB0.out (Nat.le_refl _) (.int .u32 0) (.int .u32 0) (.int .u64 0) (.int .u8 0) (.int .u8 0) (.bool false) (.slice none 0 0)
   generalize put7 W w.heap.size (.int .u32 0) (.int .u32 0) (.int .u64 0) (.int .u8 0) (.int .u8 0) (.bool false) (.slice none 0 0) = w30 at *
   have k0 := hrow.1 0 _ rfl
   have k1 := hrow.1 1 _ rfl
   have k2 := hrow.1 2 _ rfl
   have k3 := hrow.1 3 _ rfl
   have k4 := hrow.1 4 _ rfl
   have k5 := hrow.1 5 _ rfl
   have k6 := hrow.1 6 _ rfl
   exact bodyPost_ret (v := .tuple #[.agg #[.int .u32 0, .int .u32 0, .int .u64 0, .int .u8 0, .int .u8 0, .bool false, .slice none 0 0], .bool false]) (by simp [results, Tryz.results21, go_sem, k0, k1, k2, k3, k4, k5, k6]) rfl ⟨hbk, .inr ⟨HE.out, rfl⟩⟩
 have d1 : ¬ (xs.length : Int) < 3 := by omega
 have d2 : ¬ (4 : Int) < (xs.length : Int) := by omega
 have HN := h_ h3
 clear h3
 go_enter Tryz.func21, Tryz.ntmps21
 go_wp2_with fail
 rw [← HW.out]
 clear r0 r1 r2 r3 r4 r5 r6 fr0 fr1 fr2 fr3 fr4 fr5 fr6 HW HB0 HR0 d1 d2
 go_loopw [5] (fun i wr => ∃ (k : Nat) (x : Ex) (A1 : Option Addr) (C1 : Nat), i = .int .i64 k ∧ k ≤ xs.length ∧ Hid (StO w (xs.map LB.b) k x A1 C1 wr)) (fun i _ => xs.length - (intOf i).toNat)
 case atStart => exact ⟨0, ex0, none, 0, rfl, Nat.zero_le _, HSt⟩
 case round =>
  obtain ⟨k, x, A1, C1, rfl, hk, HS⟩ := hrel
  by_cases hlt : k < xs.length
  rotate_left
  ·obtain rfl : k = xs.length := by omega
   have HE : Hid (ofE (xs.map LB.b) = .ok x) := by
    obtain ⟨_, _, _, h4, h5⟩ := HS.out
    rw [← hlm, List.take_length] at h4
    exact of_all (by rw [hlm]; exact HN.out) (fun j b hb => h5 j b (by have := (List.getElem?_eq_some_iff.1 hb).1; omega) hb) h4
   obtain ⟨⟨h1, h2⟩, ⟨hr0, hr1⟩, ⟨h5, h6⟩, _⟩ := HS.out
   have HR0 := h_ hr0
   have HP := h_ h6
   have HB := h_ h1
   have HC1 := h_ h5
   have r0 := hr0.1 0 _ rfl
   have r1 := hr0.1 1 _ rfl
   have r2 := hr0.1 2 _ rfl
   have r3 := hr0.1 3 _ rfl
   have r4 := hr0.1 4 _ rfl
   have r5 := hr0.1 5 _ rfl
   have r6 := hr0.1 6 _ rfl
   have fr0 := hr0.2 0
   have fr1 := hr0.2 1
   have fr2 := hr0.2 2
   have fr3 := hr0.2 3
   have fr4 := hr0.2 4
   have fr5 := hr0.2 5
   have fr6 := hr0.2 6
   have y0 := hr1.1 0 _ rfl
   have y1 := hr1.1 1 _ rfl
   have y2 := hr1.1 2 _ rfl
   have y3 := hr1.1 3 _ rfl
   have y4 := hr1.1 4 _ rfl
   have y5 := hr1.1 5 _ rfl
   have y6 := hr1.1 6 _ rfl
   clear h1 h2 hr0 hr1 h5 h6 hlm
   go_wp2_with fail
   change bodyPost _ _ _ _ _ (put7 wr w.heap.size (.int .u32 x.n) (.int .u32 x.m) (.int .u64 x.g) (.int .u8 x.l) (.int .u8 x.c) (.bool x.b) (.slice A1 x.xs.length C1))
   have hrow := put7_row HR0.out (.int .u32 x.n) (.int .u32 x.m) (.int .u64 x.g) (.int .u8 x.l) (.int .u8 x.c) (.bool x.b) (.slice A1 x.xs.length C1)
   have hbk : Below w.heap.size w (put7 wr w.heap.size (.int .u32 x.n) (.int .u32 x.m) (.int .u64 x.g) (.int .u8 x.l) (.int .u8 x.c) (.bool x.b) (.slice A1 x.xs.length C1)) := put7_on HB.out (Nat.le_refl _) (.int .u32 x.n) (.int .u32 x.m) (.int .u64 x.g) (.int .u8 x.l) (.int .u8 x.c) (.bool x.b) (.slice A1 x.xs.length C1)
   have hpn : PathN (w.heap.size + 2) (put7 wr w.heap.size (.int .u32 x.n) (.int .u32 x.m) (.int .u64 x.g) (.int .u8 x.l) (.int .u8 x.c) (.bool x.b) (.slice A1 x.xs.length C1)) A1 x.xs := ((((((HP.out.set (by omega) _).set (by omega) _).set (by omega) _).set (by omega) _).set (by omega) _).set (by omega) _).set (by omega) _
   generalize put7 wr w.heap.size (.int .u32 x.n) (.int .u32 x.m) (.int .u64 x.g) (.int .u8 x.l) (.int .u8 x.c) (.bool x.b) (.slice A1 x.xs.length C1) = w30 at *
   have k0 := hrow.1 0 _ rfl
   have k1 := hrow.1 1 _ rfl
   have k2 := hrow.1 2 _ rfl
   have k3 := hrow.1 3 _ rfl
   have k4 := hrow.1 4 _ rfl
   have k5 := hrow.1 5 _ rfl
   have k6 := hrow.1 6 _ rfl
   exact bodyPost_ret (v := .tuple #[.agg #[.int .u32 x.n, .int .u32 x.m, .int .u64 x.g, .int .u8 x.l, .int .u8 x.c, .bool x.b, .slice A1 x.xs.length C1], .bool true]) (by simp [results, Tryz.results21, go_sem, k0, k1, k2, k3, k4, k5, k6]) rfl ⟨hbk, .inl ⟨x, A1, C1, HE.out, rfl, HC1.out, hpn.1⟩⟩
  ·obtain ⟨y, hy⟩ : ∃ y, y = xs[k] := ⟨_, rfl⟩
   obtain ⟨b, hb⟩ : ∃ b, b = y.b := ⟨_, rfl⟩
   obtain ⟨ba, hba⟩ : ∃ ba, ba = y.a := ⟨_, rfl⟩
   obtain ⟨bc, hbc⟩ : ∃ bc, bc = y.c := ⟨_, rfl⟩
   have hyx : y ∈ xs := by rw [hy]; exact List.getElem_mem _
   have hlb : (xs.map LB.b)[k]? = some b := by rw [List.getElem?_map, List.getElem?_eq_getElem hlt, hb, hy]; rfl
   obtain ⟨⟨h1, h2⟩, _⟩ := HS.out
   have HBw : Hid (Below w.heap.size w wr) := h1
   obtain ⟨g, o, rfl, hg, hcy⟩ := (HL.out).cellAt hlt
   rw [← hy] at hcy
   have hcy : w.cell? ⟨g, o + k * 4, none⟩ = some (.int .u64 b.t) ∧ w.cell? ⟨g, o + k * 4 + 1, none⟩ = some (.int .u64 b.n) ∧ w.cell? ⟨g, o + k * 4 + 2, none⟩ = some (.int .i64 b.s) ∧ w.cell? ⟨g, o + k * 4 + 3, none⟩ = some (.slice ba b.d.length bc) := by
    rw [hb, hba, hbc]
    exact hcy
   have HCy : Hid (∀ w', Below w.heap.size w w' → w'.cell? ⟨g, o + k * 4, none⟩ = some (.int .u64 b.t) ∧ w'.cell? ⟨g, o + k * 4 + 1, none⟩ = some (.int .u64 b.n) ∧ w'.cell? ⟨g, o + k * 4 + 2, none⟩ = some (.int .i64 b.s) ∧ w'.cell? ⟨g, o + k * 4 + 3, none⟩ = some (.slice ba b.d.length bc)) := fun w' h =>
    ⟨(h.cell (p := ⟨g, _, none⟩) hg).trans hcy.1, (h.cell (p := ⟨g, _, none⟩) hg).trans hcy.2.1, (h.cell (p := ⟨g, _, none⟩) hg).trans hcy.2.2.1, (h.cell (p := ⟨g, _, none⟩) hg).trans hcy.2.2.2⟩
   have HRb : Hid (b.d.length ≤ bc ∧ b.d.length ≤ 500 ∧ RdB w w.heap.size ba b.d) := by
    have h := HL.out.1 y hyx
    have h5 := HD.out y hyx
    rw [hb, hba, hbc]
    exact ⟨h.1, h5, h.2.2⟩
   have HLb := h_ hlb
   have HBe : Hid (∀ w', Below wr.heap.size wr w' → Below w.heap.size w w') := fun w' h => below_on HBw.out h
   have hlti : (k : Int) < (xs.length : Int) := by omega
   have hp : k + 4 - xs.length < 4 := by omega
   obtain ⟨p, hpe⟩ : ∃ p, p = k + 4 - xs.length := ⟨_, rfl⟩
   rw [← hpe] at hp
   have HP := h_ hpe
   have hw1 : IntKind.i64.wrap ((k : Int) + 4) = (k : Int) + 4 := by simp [IntKind.wrap, IntKind.bits, IntKind.signed]; omega
   have hw2 : IntKind.i64.wrap ((k : Int) + 4 - (xs.length : Int)) = (p : Int) := by have := HN.out; simp [IntKind.wrap, IntKind.bits, IntKind.signed]; omega
   have hw3 : IntKind.i64.wrap ((k : Int) + 2) = (k : Int) + 2 := by simp [IntKind.wrap, IntKind.bits, IntKind.signed]; omega
   have hw4 : IntKind.u64.wrap ((k : Int) + 2) = (k : Int) + 2 := by simp [IntKind.wrap, IntKind.bits, IntKind.signed]; omega
   have hp4 : (p : Int) < 4 := by omega
   have hp0 : (p : Int).toNat = p := by omega
   clear hy hb hba hbc hyx hlb hcy hpe h1 h2
   have F0 : Below wr.heap.size wr wr.drew := bR.drew
   go_upto_region 7 with fail
   by_cases hR : rightB b = true
   rotate_left
   ·have hR : rightB b = false := by simpa using hR
    have HE : Hid (ofE (xs.map LB.b) = .error 161) := of_not HLb.out (fun h => by rw [h.1] at hR; cases hR)
    refine wp_region_held_drew (S := fun w' => (w'.cell? ⟨g, o + k * 4, none⟩ = some (.int .u64 b.t) ∧ w'.cell? ⟨g, o + k * 4 + 1, none⟩ = some (.int .u64 b.n) ∧ w'.cell? ⟨g, o + k * 4 + 2, none⟩ = some (.int .i64 b.s) ∧ w'.cell? ⟨g, o + k * 4 + 3, none⟩ = some (.slice ba b.d.length bc))) (by kernel_rfl) (HCy.out _ (HBe.out _ F0)) (fun hHeld => ?_)
    refine takeL 0 (v := ?_) ?_ ‹_› ?_
    rotate_left
    ·intro w hSw; (try dsimp only at hSw); go_simp; all_goals with_reducible rfl
    simp only [Act.put, zA, zB, zC]
    refine takeL 1 (v := ?_) ?_ ‹_› ?_
    rotate_left
    ·intro w hSw; (try dsimp only at hSw); go_simp; all_goals with_reducible rfl
    simp only [Act.put, zA, zB, zC]
    refine takeL 2 (v := ?_) ?_ ‹_› ?_
    rotate_left
    ·intro w hSw; (try dsimp only at hSw); go_simp; all_goals with_reducible rfl
    simp only [Act.put, zA, zB, zC]
    refine takeL 3 (v := ?_) ?_ ‹_› ?_
    rotate_left
    ·intro w hSw; (try dsimp only at hSw); go_simp; all_goals with_reducible rfl
    simp only [Act.put, zA, zB, zC]
    refine wpAnyH_ready (rs := [4]) (by kernel_rfl) (by simp) (.cons rfl (fun K hK => ?_) .nil)
    go_simp
    refine (refBRight_any b ba bc _ HRb.out.1 (by have := HRb.out.2.1; omega) ((HRb.out.2.2.below (HBe.out _ F0)).mono (HBe.out _ F0).size)).mono ?_
    rintro e v1 ⟨rfl, hb⟩
    rw [hR]
    have F1 : Below wr.heap.size wr v1 := below_on F0 hb
    clear hb
    refine hK.out _ _ (HCy.out _ (HBe.out _ F1)) (fun hHeld => ?_)
    clear hK K
    try simp only [Act.put, zA, zB, zC]
    refine takeL 5 (v := ?_) ?_ ‹_› ?_
    rotate_left
    ·intro w hSw; (try dsimp only at hSw); go_simp; all_goals with_reducible rfl
    simp only [Act.put, zA, zB, zC]
    refine takeL 6 (v := ?_) ?_ ‹_› ?_
    rotate_left
    ·intro w hSw; (try dsimp only at hSw); go_simp; all_goals with_reducible rfl
    simp only [Act.put, zA, zB, zC]
    refine take_listed (i := 7) (v := undef) rfl (by kernel_rfl) (by kernel_rfl) (by kernel_rfl) (fun _ _ _ h => h) (Or.inr ⟨by rfl, rfl⟩) (by assumption) ?_
    simp only [Act.put, zA, zB, zC]
    refine take_listed (i := 8) (v := undef) rfl (by kernel_rfl) (by kernel_rfl) (by kernel_rfl) (fun _ _ _ h => h) (Or.inr ⟨by rfl, rfl⟩) (by assumption) ?_
    simp only [Act.put, zA, zB, zC]
    refine take_listed (i := 9) (v := undef) rfl (by kernel_rfl) (by kernel_rfl) (by kernel_rfl) (fun _ _ _ h => h) (Or.inr ⟨by rfl, rfl⟩) (by assumption) ?_
    simp only [Act.put, zA, zB, zC]
    refine take_listed (i := 10) (v := undef) rfl (by kernel_rfl) (by kernel_rfl) (by kernel_rfl) (fun _ _ _ h => h) (Or.inr ⟨by rfl, rfl⟩) (by assumption) ?_
    simp only [Act.put, zA, zB, zC]
    refine take_listed (i := 11) (v := undef) rfl (by kernel_rfl) (by kernel_rfl) (by kernel_rfl) (fun _ _ _ h => h) (Or.inr ⟨by rfl, rfl⟩) (by assumption) ?_
    simp only [Act.put, zA, zB, zC]
    refine take_listed (i := 12) (v := undef) rfl (by kernel_rfl) (by kernel_rfl) (by kernel_rfl) (fun _ _ _ h => h) (Or.inr ⟨by rfl, rfl⟩) (by assumption) ?_
    simp only [Act.put, zA, zB, zC]
    refine take_listed (i := 13) (v := undef) rfl (by kernel_rfl) (by kernel_rfl) (by kernel_rfl) (fun _ _ _ h => h) (Or.inr ⟨by rfl, rfl⟩) (by assumption) ?_
    simp only [Act.put, zA, zB, zC]
    refine take_listed (i := 14) (v := undef) rfl (by kernel_rfl) (by kernel_rfl) (by kernel_rfl) (fun _ _ _ h => h) (Or.inr ⟨by rfl, rfl⟩) (by assumption) ?_
    simp only [Act.put, zA, zB, zC]
    refine take_listed (i := 15) (v := undef) rfl (by kernel_rfl) (by kernel_rfl) (by kernel_rfl) (fun _ _ _ h => h) (Or.inr ⟨by rfl, rfl⟩) (by assumption) ?_
    simp only [Act.put, zA, zB, zC]
    refine takeL 16 (v := ?_) ?_ ‹_› ?_
    rotate_left
    ·intro w hSw; (try dsimp only at hSw); go_simp; all_goals with_reducible rfl
    simp only [Act.put, zA, zB, zC]
    refine takeL 17 (v := ?_) ?_ ‹_› ?_
    rotate_left
    ·intro w hSw; (try dsimp only at hSw); go_simp; all_goals with_reducible rfl
    simp only [Act.put, zA, zB, zC]
    refine take_listed (i := 18) (v := undef) rfl (by kernel_rfl) (by kernel_rfl) (by kernel_rfl) (fun _ _ _ h => h) (Or.inr ⟨by rfl, rfl⟩) (by assumption) ?_
    simp only [Act.put, zA, zB, zC]
    refine take_listed (i := 19) (v := undef) rfl (by kernel_rfl) (by kernel_rfl) (by kernel_rfl) (fun _ _ _ h => h) (Or.inr ⟨by rfl, rfl⟩) (by assumption) ?_
    simp only [Act.put, zA, zB, zC]
    refine take_listed (i := 20) (v := undef) rfl (by kernel_rfl) (by kernel_rfl) (by kernel_rfl) (fun _ _ _ h => h) (Or.inr ⟨by rfl, rfl⟩) (by assumption) ?_
    simp only [Act.put, zA, zB, zC]
    refine take_listed (i := 21) (v := undef) rfl (by kernel_rfl) (by kernel_rfl) (by kernel_rfl) (fun _ _ _ h => h) (Or.inr ⟨by rfl, rfl⟩) (by assumption) ?_
    simp only [Act.put, zA, zB, zC]
    refine take_listed (i := 22) (v := undef) rfl (by kernel_rfl) (by kernel_rfl) (by kernel_rfl) (fun _ _ _ h => h) (Or.inr ⟨by rfl, rfl⟩) (by assumption) ?_
    simp only [Act.put, zA, zB, zC]
    refine take_listed (i := 23) (v := undef) rfl (by kernel_rfl) (by kernel_rfl) (by kernel_rfl) (fun _ _ _ h => h) (Or.inr ⟨by rfl, rfl⟩) (by assumption) ?_
    simp only [Act.put, zA, zB, zC]
    refine take_listed (i := 24) (v := undef) rfl (by kernel_rfl) (by kernel_rfl) (by kernel_rfl) (fun _ _ _ h => h) (Or.inr ⟨by rfl, rfl⟩) (by assumption) ?_
    simp only [Act.put, zA, zB, zC]
    refine take_listed (i := 25) (v := undef) rfl (by kernel_rfl) (by kernel_rfl) (by kernel_rfl) (fun _ _ _ h => h) (Or.inr ⟨by rfl, rfl⟩) (by assumption) ?_
    simp only [Act.put, zA, zB, zC]
    refine take_listed (i := 26) (v := undef) rfl (by kernel_rfl) (by kernel_rfl) (by kernel_rfl) (fun _ _ _ h => h) (Or.inr ⟨by rfl, rfl⟩) (by assumption) ?_
    simp only [Act.put, zA, zB, zC]
    refine take_listed (i := 27) (v := undef) rfl (by kernel_rfl) (by kernel_rfl) (by kernel_rfl) (fun _ _ _ h => h) (Or.inr ⟨by rfl, rfl⟩) (by assumption) ?_
    simp only [Act.put, zA, zB, zC]
    refine take_listed (i := 28) (v := undef) rfl (by kernel_rfl) (by kernel_rfl) (by kernel_rfl) (fun _ _ _ h => h) (Or.inr ⟨by rfl, rfl⟩) (by assumption) ?_
    simp only [Act.put, zA, zB, zC]
    refine take_listed (i := 29) (v := undef) rfl (by kernel_rfl) (by kernel_rfl) (by kernel_rfl) (fun _ _ _ h => h) (Or.inr ⟨by rfl, rfl⟩) (by assumption) ?_
    simp only [Act.put, zA, zB, zC]
    refine take_listed (i := 30) (v := undef) rfl (by kernel_rfl) (by kernel_rfl) (by kernel_rfl) (fun _ _ _ h => h) (Or.inr ⟨by rfl, rfl⟩) (by assumption) ?_
    simp only [Act.put, zA, zB, zC]
    refine take_listed (i := 31) (v := undef) rfl (by kernel_rfl) (by kernel_rfl) (by kernel_rfl) (fun _ _ _ h => h) (Or.inr ⟨by rfl, rfl⟩) (by assumption) ?_
    simp only [Act.put, zA, zB, zC]
    refine takeL 32 (v := ?_) ?_ ‹_› ?_
    rotate_left
    ·intro w hSw; (try dsimp only at hSw); go_simp; all_goals with_reducible rfl
    simp only [Act.put, zA, zB, zC]
    clear hHeld
    refine wpAnyH_done (by kernel_rfl) ?_ _
    obtain ⟨⟨h1, h2⟩, ⟨hr0, _⟩, _⟩ := HS.out
    have HBn : Hid (Below w.heap.size w v1) := HBe.out _ F1
    have HRn := h_ (hr0.on F1 (by omega))
    have r0 := HRn.out.1 0 _ rfl
    have r1 := HRn.out.1 1 _ rfl
    have r2 := HRn.out.1 2 _ rfl
    have r3 := HRn.out.1 3 _ rfl
    have r4 := HRn.out.1 4 _ rfl
    have r5 := HRn.out.1 5 _ rfl
    have r6 := HRn.out.1 6 _ rfl
    have fr0 := HRn.out.2 0
    have fr1 := HRn.out.2 1
    have fr2 := HRn.out.2 2
    have fr3 := HRn.out.2 3
    have fr4 := HRn.out.2 4
    have fr5 := HRn.out.2 5
    have fr6 := HRn.out.2 6
    clear h1 h2 hr0
    go_wp2_with fail
    change bodyPost _ _ _ _ _ (put7 v1 w.heap.size (.int .u32 0) (.int .u32 0) (.int .u64 0) (.int .u8 0) (.int .u8 0) (.bool false) (.slice none 0 0))
    have hrow := put7_row HRn.out (.int .u32 0) (.int .u32 0) (.int .u64 0) (.int .u8 0) (.int .u8 0) (.bool false) (.slice none 0 0)
    have hbk : Below w.heap.size w (put7 v1 w.heap.size (.int .u32 0) (.int .u32 0) (.int .u64 0) (.int .u8 0) (.int .u8 0) (.bool false) (.slice none 0 0)) := put7_on HBn.out (Nat.le_refl _) (.int .u32 0) (.int .u32 0) (.int .u64 0) (.int .u8 0) (.int .u8 0) (.bool false) (.slice none 0 0)
    generalize put7 v1 w.heap.size (.int .u32 0) (.int .u32 0) (.int .u64 0) (.int .u8 0) (.int .u8 0) (.bool false) (.slice none 0 0) = w30 at *
    have k0 := hrow.1 0 _ rfl
    have k1 := hrow.1 1 _ rfl
    have k2 := hrow.1 2 _ rfl
    have k3 := hrow.1 3 _ rfl
    have k4 := hrow.1 4 _ rfl
    have k5 := hrow.1 5 _ rfl
    have k6 := hrow.1 6 _ rfl
    exact bodyPost_ret (v := .tuple #[.agg #[.int .u32 0, .int .u32 0, .int .u64 0, .int .u8 0, .int .u8 0, .bool false, .slice none 0 0], .bool false]) (by simp [results, Tryz.results21, go_sem, k0, k1, k2, k3, k4, k5, k6]) rfl ⟨hbk, .inr ⟨HE.out, rfl⟩⟩
   by_cases hn : b.n = k + 2
   rotate_left
   ·have HE : Hid (ofE (xs.map LB.b) = .error 161) := of_not HLb.out (fun h => hn h.2.1)
    have hn1 : ((b.n : Int) != (k : Int) + 2) = true := by simp only [bne_iff_ne, ne_eq]; omega
    clear hn
    refine wp_region_held_drew (S := fun w' => (w'.cell? ⟨g, o + k * 4, none⟩ = some (.int .u64 b.t) ∧ w'.cell? ⟨g, o + k * 4 + 1, none⟩ = some (.int .u64 b.n) ∧ w'.cell? ⟨g, o + k * 4 + 2, none⟩ = some (.int .i64 b.s) ∧ w'.cell? ⟨g, o + k * 4 + 3, none⟩ = some (.slice ba b.d.length bc))) (by kernel_rfl) (HCy.out _ (HBe.out _ F0)) (fun hHeld => ?_)
    refine takeL 0 (v := ?_) ?_ ‹_› ?_
    rotate_left
    ·intro w hSw; (try dsimp only at hSw); go_simp; all_goals with_reducible rfl
    simp only [Act.put, zA, zB, zC]
    refine takeL 1 (v := ?_) ?_ ‹_› ?_
    rotate_left
    ·intro w hSw; (try dsimp only at hSw); go_simp; all_goals with_reducible rfl
    simp only [Act.put, zA, zB, zC]
    refine takeL 2 (v := ?_) ?_ ‹_› ?_
    rotate_left
    ·intro w hSw; (try dsimp only at hSw); go_simp; all_goals with_reducible rfl
    simp only [Act.put, zA, zB, zC]
    refine takeL 3 (v := ?_) ?_ ‹_› ?_
    rotate_left
    ·intro w hSw; (try dsimp only at hSw); go_simp; all_goals with_reducible rfl
    simp only [Act.put, zA, zB, zC]
    refine wpAnyH_ready (rs := [4]) (by kernel_rfl) (by simp) (.cons rfl (fun K hK => ?_) .nil)
    go_simp
    refine (refBRight_any b ba bc _ HRb.out.1 (by have := HRb.out.2.1; omega) ((HRb.out.2.2.below (HBe.out _ F0)).mono (HBe.out _ F0).size)).mono ?_
    rintro e v1 ⟨rfl, hb⟩
    rw [hR]
    have F1 : Below wr.heap.size wr v1 := below_on F0 hb
    clear hb
    refine hK.out _ _ (HCy.out _ (HBe.out _ F1)) (fun hHeld => ?_)
    clear hK K
    try simp only [Act.put, zA, zB, zC]
    refine takeL 5 (v := ?_) ?_ ‹_› ?_
    rotate_left
    ·intro w hSw; (try dsimp only at hSw); go_simp; all_goals with_reducible rfl
    simp only [Act.put, zA, zB, zC]
    refine takeL 6 (v := ?_) ?_ ‹_› ?_
    rotate_left
    ·intro w hSw; (try dsimp only at hSw); go_simp; all_goals with_reducible rfl
    simp only [Act.put, zA, zB, zC]
    refine takeL 7 (v := ?_) ?_ ‹_› ?_
    rotate_left
    ·intro w hSw; (try dsimp only at hSw); go_simp; all_goals with_reducible rfl
    simp only [Act.put, zA, zB, zC]
    refine takeL 8 (v := ?_) ?_ ‹_› ?_
    rotate_left
    ·intro w hSw; (try dsimp only at hSw); go_simp; all_goals with_reducible rfl
    simp only [Act.put, zA, zB, zC]
    refine takeL 9 (v := ?_) ?_ ‹_› ?_
    rotate_left
    ·intro w hSw; (try dsimp only at hSw); go_simp; all_goals with_reducible rfl
    simp only [Act.put, zA, zB, zC]
    refine takeL 10 (v := ?_) ?_ ‹_› ?_
    rotate_left
    ·intro w hSw; (try dsimp only at hSw); go_simp; all_goals with_reducible rfl
    simp only [Act.put, zA, zB, zC]
    refine takeL 11 (v := ?_) ?_ ‹_› ?_
    rotate_left
    ·intro w hSw; (try dsimp only at hSw); go_simp; all_goals with_reducible rfl
    simp only [Act.put, zA, zB, zC]
    refine takeL 12 (v := ?_) ?_ ‹_› ?_
    rotate_left
    ·intro w hSw; (try dsimp only at hSw); go_simp; all_goals with_reducible rfl
    simp only [Act.put, zA, zB, zC]
    refine takeL 13 (v := ?_) ?_ ‹_› ?_
    rotate_left
    ·intro w hSw; (try dsimp only at hSw); go_simp; all_goals with_reducible rfl
    simp only [Act.put, zA, zB, zC]
    refine takeL 14 (v := ?_) ?_ ‹_› ?_
    rotate_left
    ·intro w hSw; (try dsimp only at hSw); go_simp; all_goals with_reducible rfl
    simp only [Act.put, zA, zB, zC]
    refine takeL 15 (v := ?_) ?_ ‹_› ?_
    rotate_left
    ·intro w hSw; (try dsimp only at hSw); go_simp; all_goals with_reducible rfl
    simp only [Act.put, zA, zB, zC]
    refine takeL 16 (v := ?_) ?_ ‹_› ?_
    rotate_left
    ·intro w hSw; (try dsimp only at hSw); go_simp; all_goals with_reducible rfl
    simp only [Act.put, zA, zB, zC]
    refine takeL 17 (v := ?_) ?_ ‹_› ?_
    rotate_left
    ·intro w hSw; (try dsimp only at hSw); go_simp; all_goals with_reducible rfl
    simp only [Act.put, zA, zB, zC]
    refine take_listed (i := 18) (v := undef) rfl (by kernel_rfl) (by kernel_rfl) (by kernel_rfl) (fun _ _ _ h => h) (Or.inr ⟨by rfl, rfl⟩) (by assumption) ?_
    simp only [Act.put, zA, zB, zC]
    refine take_listed (i := 19) (v := undef) rfl (by kernel_rfl) (by kernel_rfl) (by kernel_rfl) (fun _ _ _ h => h) (Or.inr ⟨by rfl, rfl⟩) (by assumption) ?_
    simp only [Act.put, zA, zB, zC]
    refine take_listed (i := 20) (v := undef) rfl (by kernel_rfl) (by kernel_rfl) (by kernel_rfl) (fun _ _ _ h => h) (Or.inr ⟨by rfl, rfl⟩) (by assumption) ?_
    simp only [Act.put, zA, zB, zC]
    refine take_listed (i := 21) (v := undef) rfl (by kernel_rfl) (by kernel_rfl) (by kernel_rfl) (fun _ _ _ h => h) (Or.inr ⟨by rfl, rfl⟩) (by assumption) ?_
    simp only [Act.put, zA, zB, zC]
    refine take_listed (i := 22) (v := undef) rfl (by kernel_rfl) (by kernel_rfl) (by kernel_rfl) (fun _ _ _ h => h) (Or.inr ⟨by rfl, rfl⟩) (by assumption) ?_
    simp only [Act.put, zA, zB, zC]
    refine take_listed (i := 23) (v := undef) rfl (by kernel_rfl) (by kernel_rfl) (by kernel_rfl) (fun _ _ _ h => h) (Or.inr ⟨by rfl, rfl⟩) (by assumption) ?_
    simp only [Act.put, zA, zB, zC]
    refine take_listed (i := 24) (v := undef) rfl (by kernel_rfl) (by kernel_rfl) (by kernel_rfl) (fun _ _ _ h => h) (Or.inr ⟨by rfl, rfl⟩) (by assumption) ?_
    simp only [Act.put, zA, zB, zC]
    refine take_listed (i := 25) (v := undef) rfl (by kernel_rfl) (by kernel_rfl) (by kernel_rfl) (fun _ _ _ h => h) (Or.inr ⟨by rfl, rfl⟩) (by assumption) ?_
    simp only [Act.put, zA, zB, zC]
    refine take_listed (i := 26) (v := undef) rfl (by kernel_rfl) (by kernel_rfl) (by kernel_rfl) (fun _ _ _ h => h) (Or.inr ⟨by rfl, rfl⟩) (by assumption) ?_
    simp only [Act.put, zA, zB, zC]
    refine take_listed (i := 27) (v := undef) rfl (by kernel_rfl) (by kernel_rfl) (by kernel_rfl) (fun _ _ _ h => h) (Or.inr ⟨by rfl, rfl⟩) (by assumption) ?_
    simp only [Act.put, zA, zB, zC]
    refine take_listed (i := 28) (v := undef) rfl (by kernel_rfl) (by kernel_rfl) (by kernel_rfl) (fun _ _ _ h => h) (Or.inr ⟨by rfl, rfl⟩) (by assumption) ?_
    simp only [Act.put, zA, zB, zC]
    refine take_listed (i := 29) (v := undef) rfl (by kernel_rfl) (by kernel_rfl) (by kernel_rfl) (fun _ _ _ h => h) (Or.inr ⟨by rfl, rfl⟩) (by assumption) ?_
    simp only [Act.put, zA, zB, zC]
    refine take_listed (i := 30) (v := undef) rfl (by kernel_rfl) (by kernel_rfl) (by kernel_rfl) (fun _ _ _ h => h) (Or.inr ⟨by rfl, rfl⟩) (by assumption) ?_
    simp only [Act.put, zA, zB, zC]
    refine take_listed (i := 31) (v := undef) rfl (by kernel_rfl) (by kernel_rfl) (by kernel_rfl) (fun _ _ _ h => h) (Or.inr ⟨by rfl, rfl⟩) (by assumption) ?_
    simp only [Act.put, zA, zB, zC]
    refine takeL 32 (v := ?_) ?_ ‹_› ?_
    rotate_left
    ·intro w hSw; (try dsimp only at hSw); go_simp; all_goals with_reducible rfl
    simp only [Act.put, zA, zB, zC]
    clear hHeld
    refine wpAnyH_done (by kernel_rfl) ?_ _
    obtain ⟨⟨h1, h2⟩, ⟨hr0, _⟩, _⟩ := HS.out
    have HBn : Hid (Below w.heap.size w v1) := HBe.out _ F1
    have HRn := h_ (hr0.on F1 (by omega))
    have r0 := HRn.out.1 0 _ rfl
    have r1 := HRn.out.1 1 _ rfl
    have r2 := HRn.out.1 2 _ rfl
    have r3 := HRn.out.1 3 _ rfl
    have r4 := HRn.out.1 4 _ rfl
    have r5 := HRn.out.1 5 _ rfl
    have r6 := HRn.out.1 6 _ rfl
    have fr0 := HRn.out.2 0
    have fr1 := HRn.out.2 1
    have fr2 := HRn.out.2 2
    have fr3 := HRn.out.2 3
    have fr4 := HRn.out.2 4
    have fr5 := HRn.out.2 5
    have fr6 := HRn.out.2 6
    clear h1 h2 hr0
    go_wp2_with fail
    change bodyPost _ _ _ _ _ (put7 v1 w.heap.size (.int .u32 0) (.int .u32 0) (.int .u64 0) (.int .u8 0) (.int .u8 0) (.bool false) (.slice none 0 0))
    have hrow := put7_row HRn.out (.int .u32 0) (.int .u32 0) (.int .u64 0) (.int .u8 0) (.int .u8 0) (.bool false) (.slice none 0 0)
    have hbk : Below w.heap.size w (put7 v1 w.heap.size (.int .u32 0) (.int .u32 0) (.int .u64 0) (.int .u8 0) (.int .u8 0) (.bool false) (.slice none 0 0)) := put7_on HBn.out (Nat.le_refl _) (.int .u32 0) (.int .u32 0) (.int .u64 0) (.int .u8 0) (.int .u8 0) (.bool false) (.slice none 0 0)
    generalize put7 v1 w.heap.size (.int .u32 0) (.int .u32 0) (.int .u64 0) (.int .u8 0) (.int .u8 0) (.bool false) (.slice none 0 0) = w30 at *
    have k0 := hrow.1 0 _ rfl
    have k1 := hrow.1 1 _ rfl
    have k2 := hrow.1 2 _ rfl
    have k3 := hrow.1 3 _ rfl
    have k4 := hrow.1 4 _ rfl
    have k5 := hrow.1 5 _ rfl
    have k6 := hrow.1 6 _ rfl
    exact bodyPost_ret (v := .tuple #[.agg #[.int .u32 0, .int .u32 0, .int .u64 0, .int .u8 0, .int .u8 0, .bool false, .slice none 0 0], .bool false]) (by simp [results, Tryz.results21, go_sem, k0, k1, k2, k3, k4, k5, k6]) rfl ⟨hbk, .inr ⟨HE.out, rfl⟩⟩
   have hn1 : ((b.n : Int) != (k : Int) + 2) = false := by simp only [bne_eq_false_iff_eq]; omega
   have HNn := h_ hn
   clear hn
   obtain ⟨q, hq⟩ : ∃ q, ((b.t : Int) != (tyO p : Int)) = q := ⟨_, rfl⟩
   have HBs : Hid (∀ (v v' : World), Below wr.heap.size wr v → Below (v.alloc (.cells #[.int .u64 6, .int .u64 7, .int .u64 10, .int .u64 200] 22)).heap.size (v.alloc (.cells #[.int .u64 6, .int .u64 7, .int .u64 10, .int .u64 200] 22)) v' → (v'.cell? ⟨g, o + k * 4, none⟩ = some (.int .u64 b.t) ∧ v'.cell? ⟨g, o + k * 4 + 1, none⟩ = some (.int .u64 b.n) ∧ v'.cell? ⟨g, o + k * 4 + 2, none⟩ = some (.int .i64 b.s) ∧ v'.cell? ⟨g, o + k * 4 + 3, none⟩ = some (.slice ba b.d.length bc)) ∧ v'.cell? ⟨v.heap.size, p, none⟩ = some (.int .u64 (tyO p))) := fun v v' hv h => by
    refine ⟨?_, ?_⟩
    ·exact HCy.out _ (HBe.out _ (below_on hv (below_on (below_al bR _) h)))
    ·have h9 := box_at h p
     rw [h9]
     match p, hp with
     | 0, _ => rfl
     | 1, _ => rfl
     | 2, _ => rfl
     | 3, _ => rfl
   refine wp_region_held_drew (S := fun w' => (w'.cell? ⟨g, o + k * 4, none⟩ = some (.int .u64 b.t) ∧ w'.cell? ⟨g, o + k * 4 + 1, none⟩ = some (.int .u64 b.n) ∧ w'.cell? ⟨g, o + k * 4 + 2, none⟩ = some (.int .i64 b.s) ∧ w'.cell? ⟨g, o + k * 4 + 3, none⟩ = some (.slice ba b.d.length bc))) (by kernel_rfl) (HCy.out _ (HBe.out _ F0)) (fun hHeld => ?_)
   refine takeL 0 (v := ?_) ?_ ‹_› ?_
   rotate_left
   ·intro w hSw; (try dsimp only at hSw); go_simp; all_goals with_reducible rfl
   simp only [Act.put, zA, zB, zC]
   refine takeL 1 (v := ?_) ?_ ‹_› ?_
   rotate_left
   ·intro w hSw; (try dsimp only at hSw); go_simp; all_goals with_reducible rfl
   simp only [Act.put, zA, zB, zC]
   refine takeL 2 (v := ?_) ?_ ‹_› ?_
   rotate_left
   ·intro w hSw; (try dsimp only at hSw); go_simp; all_goals with_reducible rfl
   simp only [Act.put, zA, zB, zC]
   refine takeL 3 (v := ?_) ?_ ‹_› ?_
   rotate_left
   ·intro w hSw; (try dsimp only at hSw); go_simp; all_goals with_reducible rfl
   simp only [Act.put, zA, zB, zC]
   refine wpAnyH_ready (rs := [4]) (by kernel_rfl) (by simp) (.cons rfl (fun K hK => ?_) .nil)
   go_simp
   refine (refBRight_any b ba bc _ HRb.out.1 (by have := HRb.out.2.1; omega) ((HRb.out.2.2.below (HBe.out _ F0)).mono (HBe.out _ F0).size)).mono ?_
   rintro e v1 ⟨rfl, hb⟩
   rw [hR]
   have F1 : Below wr.heap.size wr v1 := below_on F0 hb
   clear hb
   refine hK.out _ _ (HCy.out _ (HBe.out _ F1)) (fun hHeld => ?_)
   clear hK K
   try simp only [Act.put, zA, zB, zC]
   refine takeL 5 (v := ?_) ?_ ‹_› ?_
   rotate_left
   ·intro w hSw; (try dsimp only at hSw); go_simp; all_goals with_reducible rfl
   simp only [Act.put, zA, zB, zC]
   refine takeL 6 (v := ?_) ?_ ‹_› ?_
   rotate_left
   ·intro w hSw; (try dsimp only at hSw); go_simp; all_goals with_reducible rfl
   simp only [Act.put, zA, zB, zC]
   refine takeL 7 (v := ?_) ?_ ‹_› ?_
   rotate_left
   ·intro w hSw; (try dsimp only at hSw); go_simp; all_goals with_reducible rfl
   simp only [Act.put, zA, zB, zC]
   refine takeL 8 (v := ?_) ?_ ‹_› ?_
   rotate_left
   ·intro w hSw; (try dsimp only at hSw); go_simp; all_goals with_reducible rfl
   simp only [Act.put, zA, zB, zC]
   refine takeL 9 (v := ?_) ?_ ‹_› ?_
   rotate_left
   ·intro w hSw; (try dsimp only at hSw); go_simp; all_goals with_reducible rfl
   simp only [Act.put, zA, zB, zC]
   refine takeL 10 (v := ?_) ?_ ‹_› ?_
   rotate_left
   ·intro w hSw; (try dsimp only at hSw); go_simp; all_goals with_reducible rfl
   simp only [Act.put, zA, zB, zC]
   refine takeL 11 (v := ?_) ?_ ‹_› ?_
   rotate_left
   ·intro w hSw; (try dsimp only at hSw); go_simp; all_goals with_reducible rfl
   simp only [Act.put, zA, zB, zC]
   refine takeL 12 (v := ?_) ?_ ‹_› ?_
   rotate_left
   ·intro w hSw; (try dsimp only at hSw); go_simp; all_goals with_reducible rfl
   simp only [Act.put, zA, zB, zC]
   refine takeL 13 (v := ?_) ?_ ‹_› ?_
   rotate_left
   ·intro w hSw; (try dsimp only at hSw); go_simp; all_goals with_reducible rfl
   simp only [Act.put, zA, zB, zC]
   refine takeL 14 (v := ?_) ?_ ‹_› ?_
   rotate_left
   ·intro w hSw; (try dsimp only at hSw); go_simp; all_goals with_reducible rfl
   simp only [Act.put, zA, zB, zC]
   refine takeL 15 (v := ?_) ?_ ‹_› ?_
   rotate_left
   ·intro w hSw; (try dsimp only at hSw); go_simp; all_goals with_reducible rfl
   simp only [Act.put, zA, zB, zC]
   refine takeL 16 (v := ?_) ?_ ‹_› ?_
   rotate_left
   ·intro w hSw; (try dsimp only at hSw); go_simp; all_goals with_reducible rfl
   simp only [Act.put, zA, zB, zC]
   refine takeL 17 (v := ?_) ?_ ‹_› ?_
   rotate_left
   ·intro w hSw; (try dsimp only at hSw); go_simp; all_goals with_reducible rfl
   simp only [Act.put, zA, zB, zC]
   refine takeL 18 (v := ?_) ?_ ‹_› ?_
   rotate_left
   ·intro w hSw; (try dsimp only at hSw); go_simp; all_goals with_reducible rfl
   simp only [Act.put, zA, zB, zC]
   refine takeL 19 (v := ?_) ?_ ‹_› ?_
   rotate_left
   ·intro w hSw; (try dsimp only at hSw); go_simp; all_goals with_reducible rfl
   simp only [Act.put, zA, zB, zC]
   refine takeL 20 (v := ?_) ?_ ‹_› ?_
   rotate_left
   ·intro w hSw; (try dsimp only at hSw); go_simp; all_goals with_reducible rfl
   simp only [Act.put, zA, zB, zC]
   refine takeL 21 (v := ?_) ?_ ‹_› ?_
   rotate_left
   ·intro w hSw; (try dsimp only at hSw); go_simp; all_goals with_reducible rfl
   simp only [Act.put, zA, zB, zC]
   refine takeL 22 (v := ?_) ?_ ‹_› ?_
   rotate_left
   ·intro w hSw; (try dsimp only at hSw); go_simp; all_goals with_reducible rfl
   simp only [Act.put, zA, zB, zC]
   refine takeL 24 (v := ?_) ?_ ‹_› ?_
   rotate_left
   ·intro w hSw; (try dsimp only at hSw); go_simp; all_goals with_reducible rfl
   simp only [Act.put, zA, zB, zC]
   refine takeL 25 (v := ?_) ?_ ‹_› ?_
   rotate_left
   ·intro w hSw; (try dsimp only at hSw); go_simp; all_goals with_reducible rfl
   simp only [Act.put, zA, zB, zC]
   refine takeL 26 (v := ?_) ?_ ‹_› ?_
   rotate_left
   ·intro w hSw; (try dsimp only at hSw); go_simp; all_goals with_reducible rfl
   simp only [Act.put, zA, zB, zC]
   refine takeL 27 (v := ?_) ?_ ‹_› ?_
   rotate_left
   ·intro w hSw; (try dsimp only at hSw); go_simp; all_goals with_reducible rfl
   simp only [Act.put, zA, zB, zC]
   refine takeL 28 (v := ?_) ?_ ‹_› ?_
   rotate_left
   ·intro w hSw; (try dsimp only at hSw); go_simp; all_goals with_reducible rfl
   simp only [Act.put, zA, zB, zC]
   refine wpAnyH_ready (rs := [23]) (by kernel_rfl) (by simp) (.cons rfl (fun K hK => ?_) .nil)
   go_simp
   obtain ⟨v2, hv2⟩ : ∃ V, V = v1.alloc (.cells #[.int .u64 6, .int .u64 7, .int .u64 10, .int .u64 200] 22) := ⟨_, rfl⟩
   have HB2 : Hid ((v2.cell? ⟨g, o + k * 4, none⟩ = some (.int .u64 b.t) ∧ v2.cell? ⟨g, o + k * 4 + 1, none⟩ = some (.int .u64 b.n) ∧ v2.cell? ⟨g, o + k * 4 + 2, none⟩ = some (.int .i64 b.s) ∧ v2.cell? ⟨g, o + k * 4 + 3, none⟩ = some (.slice ba b.d.length bc)) ∧ v2.cell? ⟨v1.heap.size, p, none⟩ = some (.int .u64 (tyO p))) := by rw [hv2]; exact HBs.out v1 _ F1 bR
   have F2 : Below wr.heap.size wr v2 := by rw [hv2]; exact below_al F1 _
   rw [← hv2]
   clear hv2
   refine hK.out _ _ HB2.out.1 (fun hHeld => ?_)
   clear hK K
   try simp only [Act.put, zA, zB, zC]
   refine takeL 29 (v := ?_) ?_ ‹_› ?_
   rotate_left
   ·intro w hSw; (try dsimp only at hSw); go_simp; all_goals with_reducible rfl
   simp only [Act.put, zA, zB, zC]
   refine wpAnyH_ready (rs := [30]) (by kernel_rfl) (by simp) (.cons rfl (fun K hK => ?_) .nil)
   have h9 := HB2.out.2
   go_simp
   clear h9
   refine hK.out _ _ HB2.out.1 (fun hHeld => ?_)
   clear hK K
   try simp only [Act.put, zA, zB, zC]
   refine takeL 31 (v := ?_) ?_ ‹_› ?_
   rotate_left
   ·intro w hSw; (try dsimp only at hSw); go_simp; all_goals with_reducible rfl
   simp only [Act.put, zA, zB, zC]
   refine takeL 32 (v := ?_) ?_ ‹_› ?_
   rotate_left
   ·intro w hSw; (try dsimp only at hSw); go_simp; all_goals with_reducible rfl
   simp only [Act.put, zA, zB, zC]
   clear hHeld
   refine wpAnyH_done (by kernel_rfl) ?_ _
   clear F0 hw1 hw2 hw3 hw4 hp4 hp0 hn1
   have hco : q = false → condO (xs.map LB.b).length k b := fun h => ⟨hR, HNn.out, by
    rw [h] at hq
    have h1 : (b.t : Int) = (tyO p : Int) := by simpa using hq
    rw [hlm, ← HP.out]
    omega⟩
   cases q
   rotate_left
   ·have HE : Hid (ofE (xs.map LB.b) = .error 161) := of_not HLb.out (fun h => by
      have h1 := h.2.2
      rw [hlm, ← HP.out] at h1
      rw [h1] at hq
      simp at hq)
    clear hco hq
    obtain ⟨⟨h1, h2⟩, ⟨hr0, _⟩, _⟩ := HS.out
    have HBn : Hid (Below w.heap.size w v2) := HBe.out _ F2
    have HRn := h_ (hr0.on F2 (by omega))
    have r0 := HRn.out.1 0 _ rfl
    have r1 := HRn.out.1 1 _ rfl
    have r2 := HRn.out.1 2 _ rfl
    have r3 := HRn.out.1 3 _ rfl
    have r4 := HRn.out.1 4 _ rfl
    have r5 := HRn.out.1 5 _ rfl
    have r6 := HRn.out.1 6 _ rfl
    have fr0 := HRn.out.2 0
    have fr1 := HRn.out.2 1
    have fr2 := HRn.out.2 2
    have fr3 := HRn.out.2 3
    have fr4 := HRn.out.2 4
    have fr5 := HRn.out.2 5
    have fr6 := HRn.out.2 6
    clear h1 h2 hr0
    go_wp2_with fail
    change bodyPost _ _ _ _ _ (put7 v2 w.heap.size (.int .u32 0) (.int .u32 0) (.int .u64 0) (.int .u8 0) (.int .u8 0) (.bool false) (.slice none 0 0))
    have hrow := put7_row HRn.out (.int .u32 0) (.int .u32 0) (.int .u64 0) (.int .u8 0) (.int .u8 0) (.bool false) (.slice none 0 0)
    have hbk : Below w.heap.size w (put7 v2 w.heap.size (.int .u32 0) (.int .u32 0) (.int .u64 0) (.int .u8 0) (.int .u8 0) (.bool false) (.slice none 0 0)) := put7_on HBn.out (Nat.le_refl _) (.int .u32 0) (.int .u32 0) (.int .u64 0) (.int .u8 0) (.int .u8 0) (.bool false) (.slice none 0 0)
    generalize put7 v2 w.heap.size (.int .u32 0) (.int .u32 0) (.int .u64 0) (.int .u8 0) (.int .u8 0) (.bool false) (.slice none 0 0) = w30 at *
    have k0 := hrow.1 0 _ rfl
    have k1 := hrow.1 1 _ rfl
    have k2 := hrow.1 2 _ rfl
    have k3 := hrow.1 3 _ rfl
    have k4 := hrow.1 4 _ rfl
    have k5 := hrow.1 5 _ rfl
    have k6 := hrow.1 6 _ rfl
    exact bodyPost_ret (v := .tuple #[.agg #[.int .u32 0, .int .u32 0, .int .u64 0, .int .u8 0, .int .u8 0, .bool false, .slice none 0 0], .bool false]) (by simp [results, Tryz.results21, go_sem, k0, k1, k2, k3, k4, k5, k6]) rfl ⟨hbk, .inr ⟨HE.out, rfl⟩⟩
   have hco := hco rfl
   have hqt : b.t = tyO p := by
    have h1 : (b.t : Int) = (tyO p : Int) := by simpa using hq
    omega
   have HCo := h_ hco
   obtain ⟨y, hly⟩ : ∃ y, lookE x b = some y := Option.isSome_iff_exists.1 (by rw [look_right]; exact hR)
   have hb1 : b.t ≠ 1 := by
    rw [hqt]
    rcases (show p = 0 ∨ p = 1 ∨ p = 2 ∨ p = 3 by omega) with rfl | rfl | rfl | rfl <;> decide
   obtain ⟨it, hit⟩ := look_dec hb1 hly
   have HIt := h_ hit
   have hC2 := HCy.out v2 (HBe.out _ F2)
   have HD := h_ (rDecode_any ba b.d.length bc b.d v2 rfl HRb.out.1 (by have := HRb.out.2.1; omega) ((HRb.out.2.2.below (HBe.out _ F2)).mono (HBe.out _ F2).size))
   obtain ⟨c0, c1, c2, c3⟩ := hC2
   clear hco hq hR hb1
   go_wp2_with fail
   refine HD.out.mono ?_
   rintro e w3 ⟨hb3, hm⟩
   rw [hit] at hm
   obtain ⟨v, rfl, hvx⟩ := hm
   obtain ⟨a, c, A2, C2, rfl⟩ := hvx.form
   obtain ⟨w4, hw4⟩ : ∃ V, V = w3.alloc (.cells #[.int .i64 it.k, .int .u64 it.n, .slice a it.b.length c, .string ⟨it.s.toArray⟩, .slice A2 it.l.length C2] 83) := ⟨_, rfl⟩
   have hb4 : Below w3.heap.size w3 w4 := by rw [hw4]; exact below_al bR _
   have HV : Hid (ItV w4 w4.heap.size (.agg #[.int .i64 it.k, .int .u64 it.n, .slice a it.b.length c, .string ⟨it.s.toArray⟩, .slice A2 it.l.length C2]) it) := itS_on hvx hb4
   have HR4 : Hid (RowB w4 w3.heap.size [.int .i64 it.k, .int .u64 it.n, .slice a it.b.length c, .string ⟨it.s.toArray⟩, .slice A2 it.l.length C2]) := by rw [hw4]; exact RowB.new w3 _ _
   have F4 : Below wr.heap.size wr w4 := below_on F2 (below_on hb3 hb4)
   have HB4 : Hid (Below w.heap.size w w4) := HBe.out _ F4
   obtain ⟨⟨h1, h2⟩, ⟨hr0, hr1⟩, ⟨h5, h6⟩, _⟩ := HS.out
   have HZ4 := h_ (hr0.on F4 (by omega))
   have HX4 := h_ (hr1.on F4 (by omega))
   have HP4 := h_ (h6.on F4)
   have HC4 := h_ h5
   have HS4 : Hid (w.heap.size + 2 ≤ w4.heap.size) := Nat.le_trans h2 F4.size
   obtain ⟨c0, c1, c2, c3⟩ := HCy.out w4 (HBe.out _ F4)
   obtain ⟨x0, x1, x2, x3, x4⟩ : w4.cell? ⟨w3.heap.size, 0, none⟩ = some (.int .i64 it.k) ∧ w4.cell? ⟨w3.heap.size, 1, none⟩ = some (.int .u64 it.n) ∧ w4.cell? ⟨w3.heap.size, 2, none⟩ = some (.slice a it.b.length c) ∧ w4.cell? ⟨w3.heap.size, 3, none⟩ = some (.string ⟨it.s.toArray⟩) ∧ w4.cell? ⟨w3.heap.size, 4, none⟩ = some (.slice A2 it.l.length C2) :=
    ⟨HR4.out.1 0 _ rfl, HR4.out.1 1 _ rfl, HR4.out.1 2 _ rfl, HR4.out.1 3 _ rfl, HR4.out.1 4 _ rfl⟩
   have HW4 := h_ hw4
   rw [hw4] at x0 x1 x2 x3 x4 c0 c1 c2 c3
   clear h1 h2 hr0 hr1 h5 h6 hb3 hb4 hw4 F4 F2 F1 hvx
   rcases (show p = 0 ∨ p = 1 ∨ p = 2 ∨ p = 3 by omega) with rfl | rfl | rfl | rfl
   ·have ht : b.t = 6 := hqt
    have d6 : ((b.t : Int) == 6) = true := by simp only [beq_iff_eq]; omega
    obtain ⟨n, m, hbe, rfl⟩ := look_6 ht hly
    have hep : epI it = some (n, m) := befI_ep (by rw [← datD_ok (f := befI) hit]; exact hbe)
    have HLk := h_ hly
    clear hbe hly hit ht hqt
    go_wp2_with fail
    rw [← HW4.out]
    clear x0 x1 x2 x3 x4 c0 c1 c2 c3 d6
    refine (nmRefOf_any it _ w4 HV.out).mono ?_
    rintro e w5 ⟨hb5, n', m', bb, rfl, hcase⟩
    obtain ⟨rfl, rfl, rfl⟩ : n' = n ∧ m' = m ∧ bb = true := by
     rcases hcase with ⟨h1, h2⟩ | ⟨_, h2, _⟩
     ·rw [hep] at h2
      injection h2 with h2
      injection h2 with h3 h4
      exact ⟨h3.symm, h4.symm, h1⟩
     ·rw [hep] at h2
      cases h2
    have HX5 := h_ (HX4.out.on hb5 (by have := HS4.out; omega))
    have HZ5 := h_ (HZ4.out.on hb5 (by have := HS4.out; omega))
    have HP5 := h_ (HP4.out.on hb5)
    have HB5 : Hid (Below w.heap.size w w5) := below_on HB4.out hb5
    have HS5 : Hid (w.heap.size + 2 ≤ w5.heap.size) := Nat.le_trans HS4.out hb5.size
    clear hb5 hcase hep
    have y0 := HX5.out.1 0 _ rfl
    have fy0 := HX5.out.2 0
    have y1 := HX5.out.1 1 _ rfl
    have fy1 := HX5.out.2 1
    have HNx : Hid (StO w (xs.map LB.b) (k + 1) ⟨n', m', x.g, x.l, x.c, x.b, x.xs⟩ A1 C1 ((w5.setCell ⟨w.heap.size + 1, 0, none⟩ (.int .u32 n')).setCell ⟨w.heap.size + 1, 1, none⟩ (.int .u32 m'))) := HS.out.step HLb.out HCo.out HLk.out ((HB5.out.setCell (p := ⟨w.heap.size + 1, 0, none⟩) (Nat.le_succ _) (.int .u32 n')).setCell (p := ⟨w.heap.size + 1, 1, none⟩) (Nat.le_succ _) (.int .u32 m')) (by simp only [World.size_setCell]; exact HS5.out) ((HZ5.out.other (by omega) (.int .u32 n')).other (by omega) (.int .u32 m')) ((HX5.out.set 0 (.int .u32 n')).set 1 (.int .u32 m')) ⟨HC4.out, ((HP5.out.set (by omega) (.int .u32 n')).set (by omega) (.int .u32 m'))⟩
    go_wp2_with fail
    go_roundw
    case rel => exact ⟨k + 1, _, _, _, by go_num, by omega, HNx.out⟩
    case measure => simp [intOf]; omega
   ·have ht : b.t = 7 := hqt
    have d6 : ((b.t : Int) == 6) = false := by simp only [beq_eq_false_iff_ne, ne_eq]; omega
    have d7 : ((b.t : Int) == 7) = true := by simp only [beq_iff_eq]; omega
    obtain ⟨ag, hbe, rfl⟩ := look_7 ht hly
    have HAg : Hid (it.n = (ag : Int)) := ageI_n (HV.out.nn 0) (by rw [← datD_ok (f := ageI) hit]; exact hbe)
    have HLk := h_ hly
    clear hbe hly hit ht hqt
    go_upto_region 15 with fail
    rw [← HW4.out]
    clear x0 x1 x2 x3 x4 c0 c1 c2 c3
    have x1 := HR4.out.1 1 _ rfl
    rw [HAg.out] at x1
    have y2 := HX4.out.1 2 _ rfl
    have fy2 := HX4.out.2 2
    have HNx : Hid (StO w (xs.map LB.b) (k + 1) ⟨x.n, x.m, ag, x.l, x.c, x.b, x.xs⟩ A1 C1 (w4.setCell ⟨w.heap.size + 1, 2, none⟩ (.int .u64 ag))) := HS.out.step HLb.out HCo.out HLk.out (HB4.out.setCell (p := ⟨w.heap.size + 1, 2, none⟩) (Nat.le_succ _) (.int .u64 ag)) (by simp only [World.size_setCell]; exact HS4.out) (HZ4.out.other (by omega) (.int .u64 ag)) (HX4.out.set 2 (.int .u64 ag)) ⟨HC4.out, (HP4.out.set (by omega) (.int .u64 ag))⟩
    go_wp2_with fail
    go_roundw
    case rel => exact ⟨k + 1, _, _, _, by go_num, by omega, HNx.out⟩
    case measure => simp [intOf]; omega
   ·have ht : b.t = 10 := hqt
    have d6 : ((b.t : Int) == 6) = false := by simp only [beq_eq_false_iff_ne, ne_eq]; omega
    have d7 : ((b.t : Int) == 7) = false := by simp only [beq_eq_false_iff_ne, ne_eq]; omega
    have d10 : ((b.t : Int) == 10) = true := by simp only [beq_iff_eq]; omega
    obtain ⟨pn, pm, hbe, rfl⟩ := look_10 ht hly
    obtain ⟨z0, z1, hxl, hz0, hz1, hpn, hpm⟩ := hopI_pair (HV.out.nn 1) (by rw [← datD_ok (f := hopI) hit]; exact hbe)
    have hV := HV.out
    obtain ⟨g2, o2, a0, b0, A0, C0, a9, b9, A9, C9, rfl, hpair⟩ := HV.out.pair hxl
    have HPr : Hid (w4.cell? ⟨g2, o2 + 1, none⟩ = some (.int .u64 pn) ∧ w4.cell? ⟨g2, o2 + 5 + 1, none⟩ = some (.int .u64 pm)) := by
     obtain ⟨_, ⟨_, e1, _⟩, _, f1, _⟩ := hpair w4 bR
     rw [hz0] at e1
     rw [hz1] at f1
     exact ⟨e1, f1⟩
    have HLk := h_ hly
    have HLen : Hid (it.l.length = 2) := by rw [Hid, hxl]; rfl
    have hwp : IntKind.u8.wrap (pn : Int) = (pn : Int) := by simp [IntKind.wrap, IntKind.bits, IntKind.signed]; omega
    have hwm : IntKind.u8.wrap (pm : Int) = (pm : Int) := by simp [IntKind.wrap, IntKind.bits, IntKind.signed]; omega
    clear hbe hly hit ht hqt hxl hpair hz0 hz1 hV hpn hpm
    go_upto_region 17 with fail
    rw [← HW4.out]
    clear x0 x1 x2 x3 x4 c0 c1 c2 c3
    have x4 := HR4.out.1 4 _ rfl
    rw [HLen.out] at x4
    obtain ⟨z1, z2⟩ := HPr.out
    have y3 := HX4.out.1 3 _ rfl
    have fy3 := HX4.out.2 3
    have y4 := HX4.out.1 4 _ rfl
    have fy4 := HX4.out.2 4
    go_region
    have HNx : Hid (StO w (xs.map LB.b) (k + 1) ⟨x.n, x.m, x.g, pn, pm, x.b, x.xs⟩ A1 C1 ((w4.drew.setCell ⟨w.heap.size + 1, 3, none⟩ (.int .u8 pn)).setCell ⟨w.heap.size + 1, 4, none⟩ (.int .u8 pm))) := HS.out.step HLb.out HCo.out HLk.out ((HB4.out.drew.setCell (p := ⟨w.heap.size + 1, 3, none⟩) (Nat.le_succ _) (.int .u8 pn)).setCell (p := ⟨w.heap.size + 1, 4, none⟩) (Nat.le_succ _) (.int .u8 pm)) (by simp only [World.size_setCell]; have := HS4.out; simp; omega) (((HZ4.out.on bR.drew (by have := HS4.out; omega)).other (by omega) (.int .u8 pn)).other (by omega) (.int .u8 pm)) (((HX4.out.on bR.drew (by have := HS4.out; omega)).set 3 (.int .u8 pn)).set 4 (.int .u8 pm)) ⟨HC4.out, (((HP4.out.on bR.drew).set (by omega) (.int .u8 pn)).set (by omega) (.int .u8 pm))⟩
    go_wp2_with fail
    go_roundw
    case rel => exact ⟨k + 1, _, _, _, by go_num, by omega, HNx.out⟩
    case measure => simp [intOf]; omega
   ·have ht : b.t = 200 := hqt
    have d6 : ((b.t : Int) == 6) = false := by simp only [beq_eq_false_iff_ne, ne_eq]; omega
    have d7 : ((b.t : Int) == 7) = false := by simp only [beq_eq_false_iff_ne, ne_eq]; omega
    have d10 : ((b.t : Int) == 10) = false := by simp only [beq_eq_false_iff_ne, ne_eq]; omega
    obtain ⟨kk, zs, hbe, rfl⟩ := look_200 ht hly
    have hpa : patI it = some (kk, zs) := by rw [← datD_ok (f := patI) hit]; exact hbe
    have HLk := h_ hly
    have HDk := h_ (decodeN_ok2 hit).2
    clear hbe hly hit ht hqt
    go_wp2_with fail
    rw [← HW4.out]
    clear x0 x1 x2 x3 x4 c0 c1 c2 c3 d6 d7 d10
    refine (refPOf_any it _ w4 HV.out HDk.out).mono ?_
    rintro e w5 ⟨hb5, ⟨b', zs', hz, hxz, A3, C3, rfl, hC3, hrd, hnw⟩ | ⟨hno, rfl⟩⟩
    rotate_left
    ·unfold patI at hpa
     rw [hno] at hpa
     cases hpa
    obtain ⟨rfl, rfl⟩ : b' = kk ∧ zs' = zs := by
     unfold patI at hpa
     rw [hxz, (isP_back b' zs' hz).1, if_pos rfl, (isP_back b' zs' hz).2] at hpa
     injection hpa with hpa
     injection hpa with h1 h2
     exact ⟨h1, h2⟩
    have HPn : Hid (PathN (w.heap.size + 2) w5 A3 zs') := ⟨hrd, hnw.imp id fun ⟨g, e, h⟩ => ⟨g, e, Nat.le_trans HS4.out h⟩⟩
    have HX5 := h_ (HX4.out.on hb5 (by have := HS4.out; omega))
    have HZ5 := h_ (HZ4.out.on hb5 (by have := HS4.out; omega))
    have HB5 : Hid (Below w.heap.size w w5) := below_on HB4.out hb5
    have HS5 : Hid (w.heap.size + 2 ≤ w5.heap.size) := Nat.le_trans HS4.out hb5.size
    have HC5 := h_ hC3
    clear hb5 hpa hz hxz hrd hnw hC3
    have y5 := HX5.out.1 5 _ rfl
    have fy5 := HX5.out.2 5
    have y6 := HX5.out.1 6 _ rfl
    have fy6 := HX5.out.2 6
    have HNx : Hid (StO w (xs.map LB.b) (k + 1) ⟨x.n, x.m, x.g, x.l, x.c, b', zs'⟩ A3 C3 ((w5.setCell ⟨w.heap.size + 1, 5, none⟩ (.bool b')).setCell ⟨w.heap.size + 1, 6, none⟩ (.slice A3 zs'.length C3))) := HS.out.step HLb.out HCo.out HLk.out ((HB5.out.setCell (p := ⟨w.heap.size + 1, 5, none⟩) (Nat.le_succ _) (.bool b')).setCell (p := ⟨w.heap.size + 1, 6, none⟩) (Nat.le_succ _) (.slice A3 zs'.length C3)) (by simp only [World.size_setCell]; exact HS5.out) ((HZ5.out.other (by omega) (.bool b')).other (by omega) (.slice A3 zs'.length C3)) ((HX5.out.set 5 (.bool b')).set 6 (.slice A3 zs'.length C3)) ⟨HC5.out, ((HPn.out.set (by omega) (.bool b')).set (by omega) (.slice A3 zs'.length C3))⟩
    go_wp2_with fail
    go_roundw
    case rel => exact ⟨k + 1, _, _, _, by go_num, by omega, HNx.out⟩
    case measure => simp [intOf]; omega

end Go.Proofs.YtiahakbkagipkaaGreatDoor
