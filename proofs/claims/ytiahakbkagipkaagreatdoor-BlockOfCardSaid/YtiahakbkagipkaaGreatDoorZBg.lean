/- Joined texts. -/
import Derived.Test.YtiahakbkagipkaaGreatDoorZBf
import Derived.Laws.OwnMore
import Derived.BigQuiet
set_option maxHeartbeats 16000000
set_option linter.unusedSimpArgs false
set_option linter.unusedVariables false
set_option maxRecDepth 100000
namespace Go.Proofs.YtiahakbkagipkaaGreatDoor
open Go Go.RowKit Go.Shelf

attribute [local go_sem] Oper.semAt_some

def CellB (w : World) (g o : Nat) (x : LB) : Prop := w.cell? ⟨g, o, none⟩ = some (.int .u64 x.b.t) ∧ w.cell? ⟨g, o + 1, none⟩ = some (.int .u64 x.b.n) ∧ w.cell? ⟨g, o + 2, none⟩ = some (.int .i64 x.b.s) ∧ w.cell? ⟨g, o + 3, none⟩ = some (.slice x.a x.b.d.length x.c)
theorem CellB.kept {w w' : World} {g o : Nat} {x : LB} (h : CellB w g o x) (hb : w'.heap[g]? = w.heap[g]?) : CellB w' g o x :=
 ⟨(World.cell?_of_block (a := ⟨g, o, none⟩) hb).trans h.1, (World.cell?_of_block (a := ⟨g, o + 1, none⟩) hb).trans h.2.1, (World.cell?_of_block (a := ⟨g, o + 2, none⟩) hb).trans h.2.2.1, (World.cell?_of_block (a := ⟨g, o + 3, none⟩) hb).trans h.2.2.2⟩

def RdLB (w : World) (B : Nat) (x : LB) : Prop := x.b.d.length ≤ x.c ∧ x.b.d.length ≤ 140737488355328 ∧ RdB w B x.a x.b.d

def RdLs (w : World) (B : Nat) (A : Option Addr) (xs : List LB) : Prop := (∀ x ∈ xs, RdLB w B x) ∧ (xs = [] ∨ ∃ g o, A = some ⟨g, o, none⟩ ∧ g < B ∧ ∀ j x, xs[j]? = some x → CellB w g (o + j * 4) x)

theorem RdLs.below {w w' : World} {B B' : Nat} {A : Option Addr} {xs : List LB} (h : RdLs w B A xs) (hb : Below B w w') (hB : B ≤ B') : RdLs w' B' A xs := by
 refine ⟨fun x hx => ⟨(h.1 x hx).1, (h.1 x hx).2.1, ((h.1 x hx).2.2.below hb).mono hB⟩, h.2.imp id ?_⟩
 rintro ⟨g, o, rfl, hg, hc⟩
 exact ⟨g, o, rfl, Nat.lt_of_lt_of_le hg hB, fun j x hx => (hc j x hx).kept (hb.block g hg)⟩
theorem RdLs.on {w w' : World} {A : Option Addr} {xs : List LB} (h : RdLs w w.heap.size A xs) (hb : Below w.heap.size w w') : RdLs w' w'.heap.size A xs := h.below hb hb.size
theorem flatB_at : ∀ (xs : List LB) (k : Nat) (x : LB), xs[k]? = some x → (flatB xs)[k * 4]? = some (.int .u64 x.b.t) ∧ (flatB xs)[k * 4 + 1]? = some (.int .u64 x.b.n) ∧ (flatB xs)[k * 4 + 2]? = some (.int .i64 x.b.s) ∧ (flatB xs)[k * 4 + 3]? = some (.slice x.a x.b.d.length x.c)
 | [], k, x, h => by simp at h
 | y :: r, 0, x, h => by
  simp at h
  subst h
  exact ⟨rfl, rfl, rfl, rfl⟩
 | y :: r, k + 1, x, h => by
  have := flatB_at r k x (by simpa using h)
  rw [show (k + 1) * 4 = k * 4 + 1 + 1 + 1 + 1 by omega]
  simpa [flatB, LB.vs] using this

theorem LsB.rd {w0 w : World} {v : Value} {l : List Bl} (h : LsB w0 w v l) : ∃ A C xs, v = .slice A xs.length C ∧ xs.length ≤ C ∧ xs.map LB.b = l ∧ RdLs w w.heap.size A xs := by
 obtain ⟨xs, hl, ho, hx⟩ := h
 have h1 : ∀ x ∈ xs, RdLB w w.heap.size x := fun x q => ⟨(hx x q).1, (hx x q).2.1, (hx x q).2.2.rdB fun j hj => hj.1.2⟩
 have ho2 := ho
 rcases ho.2 with ⟨rfl, hn⟩ | ⟨g, cap, cur, rfl, hb, hg, hn, _⟩
 ·refine ⟨none, 0, xs, by rw [hn], by omega, hl, h1, .inl (List.eq_nil_of_length_eq_zero hn)⟩
 ·refine ⟨some ⟨g, 0, none⟩, cap, xs, rfl, hn, hl, h1, .inr ⟨g, 0, rfl, (Array.getElem?_eq_some_iff.1 hg).1, fun j x hx => ?_⟩⟩
  have hj : j < xs.length := (List.getElem?_eq_some_iff.1 hx).1
  obtain ⟨f0, f1, f2, f3⟩ := flatB_at xs j x hx
  rw [Nat.zero_add]
  exact ⟨(ho2.cellAt (j * 4) (by omega)).trans f0, (ho2.cellAt (j * 4 + 1) (by omega)).trans f1, (ho2.cellAt (j * 4 + 2) (by omega)).trans f2, (ho2.cellAt (j * 4 + 3) (by omega)).trans f3⟩

def kinB (x y : Bl) : Bool := sameB x ⟨y.t, y.n, x.s, y.d⟩
def sameK : List Bl → List Bl → Bool
 | [], [] => true
 | x :: l, y :: m => kinB x y && sameK l m
 | _, _ => false
theorem sameK_iff : ∀ l m : List Bl, sameK l m = true ↔ l.length = m.length ∧ ∀ (i : Nat) (x y : Bl), l[i]? = some x → m[i]? = some y → kinB x y = true
 | [], [] => by simp [sameK]
 | [], y :: m => by simp [sameK]
 | x :: l, [] => by simp [sameK]
 | x :: l, y :: m => by
  have ih := sameK_iff l m
  simp only [sameK, Bool.and_eq_true, ih, List.length_cons]
  constructor
  ·rintro ⟨h, hl, hk⟩
   refine ⟨by omega, fun i a b ha hb => ?_⟩
   cases i with
   | zero =>
    simp at ha hb
    rw [← ha, ← hb]
    exact h
   | succ i => exact hk i a b (by simpa using ha) (by simpa using hb)
  ·rintro ⟨hl, hk⟩
   exact ⟨hk 0 x y rfl rfl, by omega, fun i a b ha hb => hk (i + 1) a b (by simpa using ha) (by simpa using hb)⟩

theorem equalFuncB_any (xs ys : List LB) (A A' : Option Addr) (C C' : Nat) (w : World) (hl : RdLs w w.heap.size A xs) (hm : RdLs w w.heap.size A' ys) (hC : xs.length ≤ C) (hC' : ys.length ≤ C') (hsl : xs.length ≤ 140737488355328) (hsm : ys.length ≤ 140737488355328) :
  Calls Tryz.prog 87 #[.slice A xs.length C, .slice A' ys.length C', .func (.func 88) #[] #[]] w fun e w' => e = .returned (.bool (sameK (xs.map LB.b) (ys.map LB.b))) ∧ Below w.heap.size w w' := by
 have HL := h_ hl
 have HM := h_ hm
 have HK := h_ (sameK_iff (xs.map LB.b) (ys.map LB.b))
 clear hl hm
 generalize sameK (xs.map LB.b) (ys.map LB.b) = r at *
 by_cases q5 : ¬ xs.length = ys.length
 ·have q5' : ((xs.length : Int) == (ys.length : Int)) = false := by simp; omega
  have HR : Hid (r = false) := by
   rw [Hid, Bool.eq_false_iff]
   intro h
   have := (HK.out.1 h).1
   simp at this
   exact q5 this
  go_enter Tryz.func87, Tryz.ntmps87
  go_wp2_with fail
  go_ret
  exact ⟨by rw [HR.out]; rfl, Below.refl _ _⟩
 have q5 := Decidable.not_not.1 q5
 have HLen := h_ q5
 rw [← q5] at hC' hsm ⊢
 clear q5
 go_enter Tryz.func87, Tryz.ntmps87
 go_wp2_with fail
 go_loopw [17] (fun i wr => ∃ j : Nat, j ≤ xs.length ∧ i = .int .i64 j ∧ Hid (Below w.heap.size w wr ∧ ∀ (i : Nat) (x y : LB), i < j → xs[i]? = some x → ys[i]? = some y → kinB x.b y.b = true)) (fun i _ => xs.length - (intOf i).toNat)
 case atStart => exact ⟨0, Nat.zero_le _, rfl, Below.refl _ _, fun i x y h => absurd h (Nat.not_lt_zero _)⟩
 case round =>
  obtain ⟨j, hj, rfl, HI⟩ := hrel
  by_cases hlt : j < xs.length
  ·have hlt' : j < ys.length := by rw [← HLen.out]; exact hlt
   obtain ⟨x, hx⟩ : ∃ x, xs[j]? = some x := ⟨_, List.getElem?_eq_getElem hlt⟩
   obtain ⟨y, hy⟩ : ∃ y, ys[j]? = some y := ⟨_, List.getElem?_eq_getElem hlt'⟩
   have hBw := HI.out.1
   have hl2 := HL.out.on hBw
   have hm2 := HM.out.on hBw
   obtain ⟨g, o, rfl, hgr, hc1⟩ : ∃ g o, A = some ⟨g, o, none⟩ ∧ g < wr.heap.size ∧ CellB wr g (o + j * 4) x := by
    rcases hl2.2 with rfl | ⟨g, o, e, hg, h⟩
    ·simp at hlt
    ·exact ⟨g, o, e, hg, h j x hx⟩
   obtain ⟨g', o', rfl, hgr', hc2⟩ : ∃ g o, A' = some ⟨g, o, none⟩ ∧ g < wr.heap.size ∧ CellB wr g (o + j * 4) y := by
    rcases hm2.2 with rfl | ⟨g, o, e, hg, h⟩
    ·simp at hlt'
    ·exact ⟨g, o, e, hg, h j y hy⟩
   obtain ⟨e0, e1, e2, e3⟩ := hc1
   obtain ⟨f0', f1', f2', f3'⟩ := hc2
   have HX := h_ (hl2.1 x (List.mem_of_getElem? hx))
   have HY := h_ (hm2.1 y (List.mem_of_getElem? hy))
   have HXY : Hid (xs[j]? = some x ∧ ys[j]? = some y) := ⟨hx, hy⟩
   have HBw := h_ hBw
   clear hx hy hl2 hm2 hBw
   go_wp2_with fail
   have hB2 : Below wr.heap.size wr ((wr.alloc (.cells #[.int .u64 x.b.t, .int .u64 x.b.n, .int .i64 x.b.s, .slice x.a x.b.d.length x.c] 26)).alloc (.cells #[.int .u64 y.b.t, .int .u64 y.b.n, .int .i64 y.b.s, .slice y.a y.b.d.length y.c] 26)) := below_al (below_al bR _) _
   refine (gath1_any x.b y.b x.a y.a x.c y.c _ ((HX.out.2.2.below hB2).mono hB2.size) ((HY.out.2.2.below hB2).mono hB2.size)).mono ?_
   rintro e w1 ⟨rfl, hb1⟩
   have HB1 := h_ (below_on (below_on HBw.out hB2) hb1)
   clear hb1 hB2 e0 e1 e2 e3 f0' f1' f2' f3'
   obtain ⟨t, ht⟩ : ∃ t, t = kinB x.b y.b := ⟨_, rfl⟩
   have ht2 : sameB x.b ⟨y.b.t, y.b.n, x.b.s, y.b.d⟩ = t := ht.symm
   rw [ht2]
   have HTt := h_ ht
   clear ht ht2
   cases t
   ·have HR : Hid (r = false) := by
      rw [Hid, Bool.eq_false_iff]
      intro h
      have := (HK.out.1 h).2 j x.b y.b (by rw [List.getElem?_map, HXY.out.1]; rfl) (by rw [List.getElem?_map, HXY.out.2]; rfl)
      rw [← HTt.out] at this
      cases this
    go_wp2_with fail
    go_ret
    exact ⟨by rw [HR.out]; rfl, HB1.out⟩
   ·have HST : Hid (∀ (i : Nat) (x y : LB), i < j + 1 → xs[i]? = some x → ys[i]? = some y → kinB x.b y.b = true) := fun i a b hi ha hb => by
      rcases Nat.lt_succ_iff_lt_or_eq.1 hi with h | rfl
      ·exact HI.out.2 i a b h ha hb
      ·have h1 := HXY.out.1.symm.trans ha
       have h2 := HXY.out.2.symm.trans hb
       injection h1 with h1
       injection h2 with h2
       rw [← h1, ← h2]
       exact HTt.out.symm
    go_wp2_with fail
    go_roundw
    case rel => exact ⟨j + 1, by omega, by go_num, HB1.out, HST.out⟩
    case measure => simp [intOf]; omega
  ·obtain rfl : j = xs.length := by omega
   have HR : Hid (r = true) := by
    rw [Hid, HK.out]
    refine ⟨by simp [HLen.out], fun i a b ha hb => ?_⟩
    rw [List.getElem?_map] at ha hb
    obtain ⟨x, hx, rfl⟩ := Option.map_eq_some_iff.1 ha
    obtain ⟨y, hy, rfl⟩ := Option.map_eq_some_iff.1 hb
    exact HI.out.2 i x y (List.getElem?_eq_some_iff.1 hx).1 hx hy
   go_wp2_with fail
   go_ret
   exact ⟨by rw [HR.out]; rfl, HI.out.1⟩

attribute [local go_sem] Oper.semAt_some

theorem bepI_ok {x : It} {n m : Nat} (h : epI x = some (n, m)) : n ≤ 4294967295 ∧ m ≤ 4294967295 := by
 have hz : ∀ z0 z1, epZ z0 z1 = some (n, m) → n ≤ 4294967295 ∧ m ≤ 4294967295 := by
  intro z0 z1 hz
  unfold epZ at hz
  split at hz
  ·split at hz
   ·rename_i hs
    injection hz with hz
    injection hz with h1 h2
    subst h1 h2
    simp [sv] at hs
    exact ⟨hs.2.1, hs.2.2⟩
   ·cases hz
  ·cases hz
 have hy : ∀ y1, epY y1 = some (n, m) → n ≤ 4294967295 ∧ m ≤ 4294967295 := by
  intro y1 hy
  unfold epY at hy
  split at hy
  ·split at hy
   ·exact hz _ _ hy
   ·cases hy
  ·cases hy
 unfold epI at h
 split at h
 ·split at h
  ·split at h
   ·split at h
    ·injection h with h
     injection h with h1 h2
     subst h1 h2
     exact ⟨by decide, by decide⟩
    ·cases h
   ·exact hy _ h
   ·cases h
  ·cases h
 ·cases h

theorem datD_some {α : Type} {f : It → Option α} {bs : List UInt8} {y : α} (h : datD f bs = some y) : ∃ x, f x = some y := by
 unfold datD at h
 split at h
 ·exact ⟨_, h⟩
 ·cases h
theorem befI_le {x : It} {p : Nat × Nat} (h : befI x = some p) : p.1 ≤ 4294967295 ∧ p.2 ≤ 4294967295 := by
 unfold befI at h
 cases he : epI x with
 | none => rw [he] at h; cases h
 | some q =>
  rw [he] at h
  simp only [Option.bind_some] at h
  split at h
  ·injection h with h
   subst h
   exact bepI_ok he
  ·cases h
theorem ageI_le {x : It} {p : Nat} (h : ageI x = some p) : p < 18446744073709551616 := by
 unfold ageI at h
 cases he : nuP x with
 | none => rw [he] at h; cases h
 | some q =>
  rw [he] at h
  simp only [Option.bind_some] at h
  split at h
  ·rename_i hq
   injection h with h
   subst h
   simp [isT] at hq
   omega
  ·cases h
theorem hopI_le {x : It} {p : Nat × Nat} (h : hopI x = some p) : p.1 ≤ 255 ∧ p.2 ≤ 255 := by
 unfold hopI at h
 split at h
 ·rename_i y0 y1 hl
  cases h0 : nuP y0 with
  | none => rw [h0] at h; cases h
  | some n =>
   cases h1 : nuP y1 with
   | none => rw [h0, h1] at h; cases h
   | some m =>
    rw [h0, h1] at h
    simp only [Option.bind_some] at h
    split at h
    ·rename_i hq
     injection h with h
     subst h
     exact hq
    ·cases h
 ·cases h
theorem patI_le {x : It} {p : Bool × List Cr} (h : patI x = some p) : p.2.length ≤ 800000 := by
 unfold patI at h
 split at h
 ·rename_i hq
  injection h with h
  subst h
  simp [isP, rightX] at hq
  omega
 ·cases h

theorem lookE_fit {x y : Ex} {b : Bl} (h : lookE x b = some y) (hx : x.fit) : y.fit := by
 unfold lookE at h
 split at h
 ·unfold tellE at h
  split at h
  ·injection h with h
   subst h
   exact hx
  ·split at h
   ·obtain ⟨p, hp, rfl⟩ := Option.map_eq_some_iff.1 h
    obtain ⟨z, hz⟩ := datD_some hp
    have := befI_le hz
    exact ⟨this.1, this.2, hx.g, hx.l, hx.c, hx.xs⟩
   ·split at h
    ·obtain ⟨p, hp, rfl⟩ := Option.map_eq_some_iff.1 h
     obtain ⟨z, hz⟩ := datD_some hp
     exact ⟨hx.n, hx.m, ageI_le hz, hx.l, hx.c, hx.xs⟩
    ·split at h
     ·obtain ⟨p, hp, rfl⟩ := Option.map_eq_some_iff.1 h
      obtain ⟨z, hz⟩ := datD_some hp
      have := hopI_le hz
      exact ⟨hx.n, hx.m, hx.g, this.1, this.2, hx.xs⟩
     ·split at h
      ·obtain ⟨p, hp, rfl⟩ := Option.map_eq_some_iff.1 h
       obtain ⟨z, hz⟩ := datD_some hp
       exact ⟨hx.n, hx.m, hx.g, hx.l, hx.c, patI_le hz⟩
      ·cases h
 ·cases h

def gathE : Ex → List Bl → Option Ex
 | x, [] => some x
 | x, b :: r => (lookE x b).bind fun y => gathE y r
theorem gathE_app : ∀ (l m : List Bl) (x : Ex), gathE x (l ++ m) = (gathE x l).bind fun y => gathE y m
 | [], m, x => rfl
 | b :: r, m, x => by
  simp only [List.cons_append, gathE]
  cases lookE x b with
  | none => rfl
  | some y => exact gathE_app r m y
theorem gathE_step {l : List Bl} {j : Nat} {x y : Ex} {b : Bl} (h : gathE ex0 (l.take j) = some x) (hb : l[j]? = some b) (hy : lookE x b = some y) : gathE ex0 (l.take (j + 1)) = some y := by
 have hj : j < l.length := (List.getElem?_eq_some_iff.1 hb).1
 have hjb : l[j] = b := (List.getElem?_eq_some_iff.1 hb).2
 rw [← List.take_append_getElem hj, gathE_app, h, hjb]
 simp [gathE, hy]
theorem gathE_none {l : List Bl} {j : Nat} {x : Ex} {b : Bl} (h : gathE ex0 (l.take j) = some x) (hb : l[j]? = some b) (hy : lookE x b = none) : gathE ex0 l = none := by
 have hj : j < l.length := (List.getElem?_eq_some_iff.1 hb).1
 have hjb : l[j] = b := (List.getElem?_eq_some_iff.1 hb).2
 rw [← List.take_append_drop j l, gathE_app, h, List.drop_eq_getElem_cons hj, hjb]
 simp [gathE, hy]

theorem addE_len {t : Nat} {r : Except Int It} {k : Int} {l m : List Bl} (h : addE t r k l = .ok m) : m.length = l.length + 1 := by
 cases r with
 | error c => cases h
 | ok y =>
  injection h with h
  rw [← h]
  simp
theorem blocksE_len {x : Ex} {k : Int} {m : List Bl} (h : blocksE x k = .ok m) : m.length ≤ 4 := by
 unfold blocksE at h
 split at h
 ·cases h
 ·rename_i l0 h0
  have hl0 : l0.length ≤ 1 := by
   split at h0
   ·injection h0 with h0
    subst h0
    simp
   ·have := addE_len h0
    simp at this
    omega
  split at h
  ·cases h
  ·rename_i l1 h1
   split at h
   ·cases h
   ·rename_i l2 h2
    have a1 := addE_len h1
    have a2 := addE_len h2
    have a3 := addE_len h
    omega

def gatheredE (l : List Bl) : Except Int Ex := match gathE ex0 l with
 | none => .error 160
 | some x => match blocksE x 0 with
  | .error c => .error c
  | .ok m => if sameK l m = true then .ok x else .error 160

theorem gathered_no {l : List Bl} (h : gathE ex0 l = none) : gatheredE l = .error 160 := by rw [gatheredE, h]
theorem gathered_err {l : List Bl} {x : Ex} {c : Int} (h : gathE ex0 l = some x) (h1 : blocksE x 0 = .error c) : gatheredE l = .error c := by rw [gatheredE, h]; simp only [h1]
theorem gathered_ok {l m : List Bl} {x : Ex} (h : gathE ex0 l = some x) (h1 : blocksE x 0 = .ok m) : gatheredE l = if sameK l m = true then .ok x else .error 160 := by rw [gatheredE, h]; simp only [h1]

theorem gathered_any (xs : List LB) (A : Option Addr) (C : Nat) (w : World) (hl : RdLs w w.heap.size A xs) (hC : xs.length ≤ C) (hs47 : xs.length ≤ 140737488355328) (ht : TabW w) :
  Calls Tryz.prog 45 #[.slice A xs.length C] w (RdEx w (gatheredE (xs.map LB.b))) := by
 obtain ⟨W1, hW1⟩ : ∃ W, W = w.alloc (.cells #[.int .u32 0, .int .u32 0, .int .u64 0, .int .u8 0, .int .u8 0, .bool false, .slice none 0 0] 46) := ⟨_, rfl⟩
 have s1 : W1.heap.size = w.heap.size + 1 := by rw [hW1]; simp
 obtain ⟨W, hW⟩ : ∃ W, W = W1.alloc (.cells #[.int .u32 0, .int .u32 0, .int .u64 0, .int .u8 0, .int .u8 0, .bool false, .slice none 0 0] 46) := ⟨_, rfl⟩
 have s2 : W.heap.size = w.heap.size + 2 := by rw [hW]; simp [s1]
 have hb1 : Below w.heap.size w W1 := by rw [hW1]; exact below_al bR _
 have hb2 : Below W1.heap.size W1 W := by rw [hW]; exact below_al bR _
 have HB0 : Hid (Below w.heap.size w W) := below_on hb1 hb2
 have HR0 : Hid (RowB W w.heap.size [.int .u32 0, .int .u32 0, .int .u64 0, .int .u8 0, .int .u8 0, .bool false, .slice none 0 0]) := by
  have h := RowB.new w [.int .u32 0, .int .u32 0, .int .u64 0, .int .u8 0, .int .u8 0, .bool false, .slice none 0 0] 46
  rw [← hW1] at h
  exact h.on hb2 (by omega)
 have hex : ExAt W (w.heap.size + 1) ex0 := by
  refine ⟨by omega, none, 0, ?_, Nat.le_refl _, .inl rfl⟩
  have h := RowB.new W1 [.int .u32 0, .int .u32 0, .int .u64 0, .int .u8 0, .int .u8 0, .bool false, .slice none 0 0] 46
  rw [s1] at h
  rw [hW]
  exact h
 have HS1 : Hid (W1.heap.size = w.heap.size + 1) := s1
 have HS2 : Hid (W.heap.size = w.heap.size + 2) := s2
 have HEx := h_ hex
 have HT : Hid (∀ w', Below w.heap.size w w' → TabW w') := fun w' h => ht.on h
 have HLs : Hid (∀ w', Below w.heap.size w w' → RdLs w' w'.heap.size A xs) := fun w' h => hl.on h
 have HW : Hid (W = (w.alloc (.cells #[.int .u32 0, .int .u32 0, .int .u64 0, .int .u8 0, .int .u8 0, .bool false, .slice none 0 0] 46)).alloc (.cells #[.int .u32 0, .int .u32 0, .int .u64 0, .int .u8 0, .int .u8 0, .bool false, .slice none 0 0] 46)) := by rw [← hW1]; exact hW
 clear hW1 hW s1 s2 hb1 hb2 hex hl ht
 go_enter Tryz.func45, Tryz.ntmps45
 go_wp2_with fail
 rw [← HW.out]
 refine (btypes_any (w.heap.size + 1) W).mono ?_
 rintro e w3 ⟨rfl, hw3⟩
 have F3 : Below W.heap.size W w3 := by rw [hw3]; exact below_al (below_al bR _) _
 have hs3 : w3.heap.size = W.heap.size + 2 := by rw [hw3]; simp
 have hBx : w3.cell? ⟨W.heap.size, 0, none⟩ = some (.pointer (some ⟨w.heap.size + 1, 0, none⟩)) := by
  rw [hw3, World.cell?_alloc_lt _ _ _ (by simp), World.cell?_alloc_mark]
  rfl
 have hMm : w3.heap[W.heap.size + 1]? = some (.map (bMap W.heap.size) 5) := by
  rw [hw3]
  have h := map_at (W.alloc (.cells #[.pointer (some ⟨w.heap.size + 1, 0, none⟩)] 144)) (bMap W.heap.size) 5
  rw [World.size_alloc] at h
  exact h
 have HB3 : Hid (∀ w', But (w.heap.size + 1) w3 w' → Below w.heap.size w w') := fun w' h => (HB0.out.trans (F3.mono HB0.out.size)).trans (h.below (Nat.le_succ _) (Nat.le_trans HB0.out.size F3.size))
 have HM3 : Hid (∀ w', But (w.heap.size + 1) w3 w' → w'.cell? ⟨W.heap.size, 0, none⟩ = some (.pointer (some ⟨w.heap.size + 1, 0, none⟩)) ∧ w'.heap[W.heap.size + 1]? = some (.map (bMap W.heap.size) 5)) := fun w' h => by
  have hz := HS2.out
  exact ⟨(h.cell (by omega) (by omega)).trans hBx, (h.block _ (by omega) (by omega)).trans hMm⟩
 have HR3 : Hid (∀ w', But (w.heap.size + 1) w3 w' → RowB w' w.heap.size [.int .u32 0, .int .u32 0, .int .u64 0, .int .u8 0, .int .u8 0, .bool false, .slice none 0 0]) := fun w' h => by
  have hz := HS2.out
  have h3 := HR0.out.on F3 (by omega)
  exact ⟨fun i v q => (h.cell (by omega) (by omega)).trans (h3.1 i v q), fun i => (h.frozen (by omega) (by omega)).trans (h3.2 i)⟩
 have HE3 : Hid (ExAt w3 (w.heap.size + 1) ex0) := HEx.out.on F3
 have HMne : Hid (W.heap.size ≠ w.heap.size + 1) := by have := HS2.out; rw [Hid]; omega
 clear hw3 F3 hs3 hBx hMm
 go_wp2_with fail
 go_loopw [10] (fun i wr => ∃ j : Nat, j ≤ xs.length ∧ i = .int .i64 j ∧ Hid (But (w.heap.size + 1) w3 wr ∧ ∃ x, gathE ex0 ((xs.map LB.b).take j) = some x ∧ ExAt wr (w.heap.size + 1) x ∧ x.fit)) (fun i _ => xs.length - (intOf i).toNat)
 case atStart => exact ⟨0, Nat.zero_le _, rfl, But.refl _ _, ex0, rfl, HE3.out, by decide, by decide, by decide, by decide, by decide, by decide⟩
 case round =>
  obtain ⟨j, hj, rfl, HI⟩ := hrel
  obtain ⟨hbt, x, hgx, hex, hfit⟩ := HI.out
  have HBt := h_ hbt
  have HGx := h_ hgx
  have HExx := h_ hex
  have HFit := h_ hfit
  clear hbt hgx hex hfit HI
  by_cases hlt : j < xs.length
  ·obtain ⟨z, hz⟩ : ∃ z, xs[j]? = some z := ⟨_, List.getElem?_eq_getElem hlt⟩
   have hl2 := HLs.out wr (HB3.out wr HBt.out)
   obtain ⟨g, o, rfl, hgr, hc1⟩ : ∃ g o, A = some ⟨g, o, none⟩ ∧ g < wr.heap.size ∧ CellB wr g (o + j * 4) z := by
    rcases hl2.2 with rfl | ⟨g, o, e, hg, h⟩
    ·simp at hlt
    ·exact ⟨g, o, e, hg, h j z hz⟩
   obtain ⟨e0, e1, e2, e3⟩ := hc1
   have HZ := h_ (hl2.1 z (List.mem_of_getElem? hz))
   have HZb : Hid ((xs.map LB.b)[j]? = some z.b) := by rw [Hid, List.getElem?_map, hz]; rfl
   clear hz hl2
   go_wp2_with fail
   have hB2 : Below wr.heap.size wr (wr.alloc (.cells #[.int .u64 z.b.t, .int .u64 z.b.n, .int .i64 z.b.s, .slice z.a z.b.d.length z.c] 26)) := below_al bR _
   have hm := HM3.out _ (HBt.out.trans (But.of_below hB2))
   refine (look_any z.b z.a z.c (W.heap.size + 1) W.heap.size (w.heap.size + 1) x _ ((HZ.out.2.2.below hB2).mono hB2.size) HZ.out.1 HZ.out.2.1 (HT.out _ (HB3.out _ (HBt.out.trans (But.of_below hB2)))) (HExx.out.on hB2) hm.1 HMne.out hm.2).mono ?_
   clear hm
   rintro e w4 ⟨hbut, ⟨y, hy, rfl, hey⟩ | ⟨rfl, hn⟩⟩
   rotate_left
   ·rw [gives_def]
    have HBl := h_ (HB3.out _ ((HBt.out.trans (But.of_below hB2)).trans hbut))
    have HGn := h_ (gathered_no (gathE_none HGx.out HZb.out hn))
    clear hB2 hbut hn e0 e1 e2 e3
    go_wp2_with fail
    exact ⟨by first | trivial | rfl, HBl.out, by rw [HGn.out]; rfl⟩
   have HB4 := h_ ((HBt.out.trans (But.of_below hB2)).trans hbut)
   have HGy := h_ (gathE_step HGx.out HZb.out hy)
   have HEy := h_ hey
   have HFy := h_ (lookE_fit hy HFit.out)
   clear hB2 hbut hy hey e0 e1 e2 e3
   go_wp2_with fail
   go_roundw
   case rel => exact ⟨j + 1, by omega, by go_num, HB4.out, y, HGy.out, HEy.out, HFy.out⟩
   case measure => simp [intOf]; omega
  ·obtain rfl : j = xs.length := by omega
   have hgy : gathE ex0 (xs.map LB.b) = some x := by
    have h := HGx.out
    rwa [List.take_of_length_le (by simp)] at h
   have HGy := h_ hgy
   clear hgy
   obtain ⟨_, A1, C1, hrow, hC1, hpa⟩ := HExx.out
   have HRow := h_ hrow
   have HPa := h_ hpa
   have HC1 := h_ hC1
   clear hrow hpa hC1 hj hlt
   have r0 := HRow.out.1 0 _ rfl
   have r1 := HRow.out.1 1 _ rfl
   have r2 := HRow.out.1 2 _ rfl
   have r3 := HRow.out.1 3 _ rfl
   have r4 := HRow.out.1 4 _ rfl
   have r5 := HRow.out.1 5 _ rfl
   have r6 := HRow.out.1 6 _ rfl
   go_wp2_with fail
   clear r0 r1 r2 r3 r4 r5 r6
   refine (blocks_any x A1 C1 0 HFit.out wr ((PathAt.newer (w := w) HPa.out (Nat.le_succ _)).rd) HC1.out (HT.out wr (HB3.out wr HBt.out))).mono ?_
   rintro e w4 ⟨hb4, hm⟩
   have HB4 : Hid (But (w.heap.size + 1) w3 w4) := HBt.out.trans (But.of_below hb4)
   cases hbk : blocksE x 0 with
   | error c =>
    rw [hbk] at hm
    have hm : e = gives c := hm
    subst hm
    rw [gives_def]
    have HD := h_ (gathered_err HGy.out hbk)
    have HBl := h_ (HB3.out w4 HB4.out)
    clear hb4 hbk
    go_wp2_with fail
    exact ⟨by first | trivial | rfl, HBl.out, by rw [HD.out]; rfl⟩
   | ok m =>
    rw [hbk] at hm
    obtain ⟨v, rfl, hls⟩ := hm
    obtain ⟨A2, C2, ys, rfl, hC2, hmy, hrd⟩ := hls.rd
    have HD := h_ (gathered_ok HGy.out hbk)
    have hy4 : ys.length ≤ 4 := by rw [← List.length_map (f := LB.b), hmy]; exact blocksE_len hbk
    have hE4 : ExAt w4 (w.heap.size + 1) x := HExx.out.on hb4
    have HEq := h_ (equalFuncB_any xs ys A A2 C C2 w4 (HLs.out w4 (HB3.out w4 HB4.out)) hrd hC hC2 hs47 (by omega))
    have HMy := h_ hmy
    have HE4 := h_ hE4
    clear hb4 hbk hls hrd hmy hy4 hE4 hC2
    go_wp2_with fail
    refine HEq.out.mono ?_
    rintro e w5 ⟨rfl, hb5⟩
    rw [HMy.out]
    obtain ⟨q, hq⟩ : ∃ q, q = sameK (xs.map LB.b) m := ⟨_, rfl⟩
    rw [← hq]
    have HQ := h_ hq
    have HB5 := h_ (HB4.out.trans (But.of_below hb5))
    have HE5 := h_ (HE4.out.on hb5)
    clear hb5 hq
    go_wp2_with fail
    refine (bneed_any q w5).mono ?_
    rintro e w6 ⟨rfl, ⟨rfl, rfl⟩ | ⟨rfl, rfl⟩⟩
    rotate_left
    ·have HDn : Hid (gatheredE (xs.map LB.b) = .error 160) := by rw [Hid, HD.out, ← HQ.out]; rfl
     have HBl := h_ (HB3.out _ HB5.out)
     rw [gives_def]
     go_wp2_with fail
     exact ⟨by first | trivial | rfl, HBl.out, by rw [HDn.out]; rfl⟩
    have HDy : Hid (gatheredE (xs.map LB.b) = .ok x) := by rw [Hid, HD.out, ← HQ.out]; rfl
    obtain ⟨_, A1, C1, hrow, hC1, hpa⟩ := HE5.out
    have HRow := h_ hrow
    have HPa := h_ hpa
    have HC1 := h_ hC1
    have HRR := h_ (HR3.out _ HB5.out)
    have HBl := h_ (HB3.out _ HB5.out)
    clear hrow hpa hC1
    have r0 := HRow.out.1 0 _ rfl
    have r1 := HRow.out.1 1 _ rfl
    have r2 := HRow.out.1 2 _ rfl
    have r3 := HRow.out.1 3 _ rfl
    have r4 := HRow.out.1 4 _ rfl
    have r5 := HRow.out.1 5 _ rfl
    have r6 := HRow.out.1 6 _ rfl
    have z0 := HRR.out.1 0 _ rfl
    have fz0 := HRR.out.2 0
    have z1 := HRR.out.1 1 _ rfl
    have fz1 := HRR.out.2 1
    have z2 := HRR.out.1 2 _ rfl
    have fz2 := HRR.out.2 2
    have z3 := HRR.out.1 3 _ rfl
    have fz3 := HRR.out.2 3
    have z4 := HRR.out.1 4 _ rfl
    have fz4 := HRR.out.2 4
    have z5 := HRR.out.1 5 _ rfl
    have fz5 := HRR.out.2 5
    have z6 := HRR.out.1 6 _ rfl
    have fz6 := HRR.out.2 6
    go_wp2_with fail
    change bodyPost _ _ _ _ _ (put7 w5 w.heap.size (.int .u32 x.n) (.int .u32 x.m) (.int .u64 x.g) (.int .u8 x.l) (.int .u8 x.c) (.bool x.b) (.slice A1 x.xs.length C1))
    have hrow2 := put7_row HRR.out (.int .u32 x.n) (.int .u32 x.m) (.int .u64 x.g) (.int .u8 x.l) (.int .u8 x.c) (.bool x.b) (.slice A1 x.xs.length C1)
    have hbk : Below w.heap.size w (put7 w5 w.heap.size (.int .u32 x.n) (.int .u32 x.m) (.int .u64 x.g) (.int .u8 x.l) (.int .u8 x.c) (.bool x.b) (.slice A1 x.xs.length C1)) := put7_on HBl.out (Nat.le_refl _) (.int .u32 x.n) (.int .u32 x.m) (.int .u64 x.g) (.int .u8 x.l) (.int .u8 x.c) (.bool x.b) (.slice A1 x.xs.length C1)
    have hnx : NewX w (put7 w5 w.heap.size (.int .u32 x.n) (.int .u32 x.m) (.int .u64 x.g) (.int .u8 x.l) (.int .u8 x.c) (.bool x.b) (.slice A1 x.xs.length C1)) A1 x.xs := (put7_new (HPa.out.newer (w := W1) (by have := HS1.out; omega)) (by have := HS1.out; omega) (.int .u32 x.n) (.int .u32 x.m) (.int .u64 x.g) (.int .u8 x.l) (.int .u8 x.c) (.bool x.b) (.slice A1 x.xs.length C1)).low (by have := HS1.out; omega)
    generalize put7 w5 w.heap.size (.int .u32 x.n) (.int .u32 x.m) (.int .u64 x.g) (.int .u8 x.l) (.int .u8 x.c) (.bool x.b) (.slice A1 x.xs.length C1) = w30 at *
    have k0 := hrow2.1 0 _ rfl
    have k1 := hrow2.1 1 _ rfl
    have k2 := hrow2.1 2 _ rfl
    have k3 := hrow2.1 3 _ rfl
    have k4 := hrow2.1 4 _ rfl
    have k5 := hrow2.1 5 _ rfl
    have k6 := hrow2.1 6 _ rfl
    refine bodyPost_ret (v := .agg #[.int .u32 x.n, .int .u32 x.m, .int .u64 x.g, .int .u8 x.l, .int .u8 x.c, .bool x.b, .slice A1 x.xs.length C1]) (by simp [results, Tryz.results45, go_sem, k0, k1, k2, k3, k4, k5, k6]) rfl ⟨hbk, ?_⟩
    rw [HDy.out]
    exact ⟨A1, C1, rfl, HC1.out, hnx⟩

attribute [local go_sem] Oper.semAt_some

theorem of1B_any (P : Nat) (xs : List LB) (A : Option Addr) (C : Nat) (w : World) (hP : w.cell? ⟨P, 0, none⟩ = some (.slice A xs.length C)) (hl : RdLs w w.heap.size A xs) (hC : xs.length ≤ C) (hs47 : xs.length ≤ 140737488355328) (ht : TabW w) :
  Calls Tryz.prog 44 #[.pointer (some ⟨P, 0, none⟩)] w (RdEx w (gatheredE (xs.map LB.b))) := by
 obtain ⟨W, hW⟩ : ∃ W, W = w.alloc (.cells #[.int .u32 0, .int .u32 0, .int .u64 0, .int .u8 0, .int .u8 0, .bool false, .slice none 0 0] 46) := ⟨_, rfl⟩
 have hPb := World.block_lt_of_cell? w _ hP
 have HB0 : Hid (Below w.heap.size w W) := by rw [hW]; exact below_al bR _
 have hsW : w.heap.size + 1 ≤ W.heap.size := by rw [hW]; simp
 have HR0 : Hid (RowB W w.heap.size [.int .u32 0, .int .u32 0, .int .u64 0, .int .u8 0, .int .u8 0, .bool false, .slice none 0 0]) := by rw [hW]; exact RowB.new w [.int .u32 0, .int .u32 0, .int .u64 0, .int .u8 0, .int .u8 0, .bool false, .slice none 0 0] 46
 have hP1 : W.cell? ⟨P, 0, none⟩ = some (.slice A xs.length C) := (HB0.out.cell (p := ⟨P, 0, none⟩) hPb).trans hP
 have HSW := h_ hsW
 have HK := h_ (gathered_any xs A C W (hl.on HB0.out) hC hs47 (ht.on HB0.out))
 rw [hW] at hP1
 have HW := h_ hW
 clear hW hsW hl ht hC hs47 hP hPb
 go_enter Tryz.func44, Tryz.ntmps44
 go_wp2_with fail
 clear hP1
 rw [← HW.out]
 refine HK.out.mono ?_
 rintro e w1 ⟨hb1, hm⟩
 have HB1 := h_ (HB0.out.trans (hb1.mono HB0.out.size))
 have HR1 := h_ (HR0.out.on hb1 (by have := HSW.out; omega))
 clear hb1
 obtain ⟨r, hr⟩ : ∃ r, r = gatheredE (xs.map LB.b) := ⟨_, rfl⟩
 rw [← hr] at hm
 have HRr := h_ hr
 clear hr
 cases r with
 | error q =>
  have hm : e = gives q := hm
  subst hm
  rw [gives_def]
  go_wp2_with fail
  exact ⟨by first | trivial | rfl, HB1.out, by rw [← HRr.out]; rfl⟩
 | ok x =>
  obtain ⟨A1, C1, rfl, hC1, hnx⟩ := hm
  have r0 := HR1.out.1 0 _ rfl
  have fr0 := HR1.out.2 0
  have r1 := HR1.out.1 1 _ rfl
  have fr1 := HR1.out.2 1
  have r2 := HR1.out.1 2 _ rfl
  have fr2 := HR1.out.2 2
  have r3 := HR1.out.1 3 _ rfl
  have fr3 := HR1.out.2 3
  have r4 := HR1.out.1 4 _ rfl
  have fr4 := HR1.out.2 4
  have r5 := HR1.out.1 5 _ rfl
  have fr5 := HR1.out.2 5
  have r6 := HR1.out.1 6 _ rfl
  have fr6 := HR1.out.2 6
  go_wp2_with fail
  change bodyPost _ _ _ _ _ (put7 w1 w.heap.size (.int .u32 x.n) (.int .u32 x.m) (.int .u64 x.g) (.int .u8 x.l) (.int .u8 x.c) (.bool x.b) (.slice A1 x.xs.length C1))
  have hrow2 := put7_row HR1.out (.int .u32 x.n) (.int .u32 x.m) (.int .u64 x.g) (.int .u8 x.l) (.int .u8 x.c) (.bool x.b) (.slice A1 x.xs.length C1)
  have hbk : Below w.heap.size w (put7 w1 w.heap.size (.int .u32 x.n) (.int .u32 x.m) (.int .u64 x.g) (.int .u8 x.l) (.int .u8 x.c) (.bool x.b) (.slice A1 x.xs.length C1)) := put7_on HB1.out (Nat.le_refl _) (.int .u32 x.n) (.int .u32 x.m) (.int .u64 x.g) (.int .u8 x.l) (.int .u8 x.c) (.bool x.b) (.slice A1 x.xs.length C1)
  have hnx2 : NewX w (put7 w1 w.heap.size (.int .u32 x.n) (.int .u32 x.m) (.int .u64 x.g) (.int .u8 x.l) (.int .u8 x.c) (.bool x.b) (.slice A1 x.xs.length C1)) A1 x.xs := (put7_new hnx (by have := HSW.out; omega) (.int .u32 x.n) (.int .u32 x.m) (.int .u64 x.g) (.int .u8 x.l) (.int .u8 x.c) (.bool x.b) (.slice A1 x.xs.length C1)).low HB0.out.size
  generalize put7 w1 w.heap.size (.int .u32 x.n) (.int .u32 x.m) (.int .u64 x.g) (.int .u8 x.l) (.int .u8 x.c) (.bool x.b) (.slice A1 x.xs.length C1) = w30 at *
  have k0 := hrow2.1 0 _ rfl
  have k1 := hrow2.1 1 _ rfl
  have k2 := hrow2.1 2 _ rfl
  have k3 := hrow2.1 3 _ rfl
  have k4 := hrow2.1 4 _ rfl
  have k5 := hrow2.1 5 _ rfl
  have k6 := hrow2.1 6 _ rfl
  exact bodyPost_ret (v := .agg #[.int .u32 x.n, .int .u32 x.m, .int .u64 x.g, .int .u8 x.l, .int .u8 x.c, .bool x.b, .slice A1 x.xs.length C1]) (by simp [results, Tryz.results44, go_sem, k0, k1, k2, k3, k4, k5, k6]) rfl ⟨hbk, by rw [← HRr.out]; exact ⟨A1, C1, rfl, hC1, hnx2⟩⟩

theorem addE_err {t : Nat} {r : Except Int It} {k c : Int} {l : List Bl} (h : addE t r k l = .error c) : r = .error c := by
 cases r with
 | error c' =>
  injection h with h
  rw [h]
 | ok y => cases h
theorem endR_err {n m : Nat} {c : Int} (h : endR n m = .error c) : c = 2 := by
 unfold endR at h
 split at h
 ·injection h with h
  exact h.symm
 ·cases h
theorem ageR_err {g : Nat} {c : Int} (h : ageR g = .error c) : c = 2 := by
 unfold ageR at h
 split at h
 ·cases h
 ·injection h with h
  exact h.symm
theorem pathR_err {bk : Bool} {xs : List Cr} {c : Int} (h : pathR bk xs = .error c) : c = 2 := by
 unfold pathR at h
 split at h
 ·cases h
 ·injection h with h
  exact h.symm
theorem blocksE_err {x : Ex} {k c : Int} (h : blocksE x k = .error c) : c = 2 := by
 unfold blocksE at h
 split at h
 ·rename_i c' h0
  injection h with h
  subst h
  split at h0
  ·cases h0
  ·exact endR_err (addE_err h0)
 ·split at h
  ·rename_i c' h1
   injection h with h
   subst h
   exact ageR_err (addE_err h1)
  ·split at h
   ·rename_i c' h2
    cases addE_err h2
   ·exact pathR_err (addE_err h)
theorem gathered_c {l : List Bl} {c : Int} (h : gatheredE l = .error c) : c = 160 ∨ c = 2 := by
 unfold gatheredE at h
 split at h
 ·injection h with h
  exact .inl h.symm
 ·split at h
  ·rename_i c' h1
   injection h with h
   subst h
   exact .inr (blocksE_err h1)
  ·split at h
   ·cases h
   ·injection h with h
    exact .inl h.symm

def ofE (l : List Bl) : Except Int Ex := match gatheredE l with
 | .ok x => .ok x
 | .error _ => .error 161

theorem newX_alloc {w w' : World} {A : Option Addr} {zs : List Cr} (h : NewX w w' A zs) (o : Obj) : NewX w (w'.alloc o) A zs := by
 have hb := below_al (Below.refl w'.heap.size w') o
 rcases h with h | ⟨g, rfl, h1, h2, h3⟩
 ·exact .inl h
 ·exact .inr ⟨g, rfl, h1, Nat.lt_of_lt_of_le h2 hb.size, h3.kept (hb.block g h2)⟩

theorem blkOf_any (xs : List LB) (A : Option Addr) (C : Nat) (w : World) (hl : RdLs w w.heap.size A xs) (hC : xs.length ≤ C) (hs47 : xs.length ≤ 140737488355328) (ht : TabW w) :
  Calls Tryz.prog 18 #[.slice A xs.length C] w (TrEx w (ofE (xs.map LB.b))) := by
 have hmf : ∀ (fn : Fn) (first cap : Array Value) (w : World), (Instr.makeFunc fn first cap).run Tryz.prog w = .ok (.func fn first cap) w := fun _ _ _ _ => rfl
 obtain ⟨W1, hW1⟩ : ∃ W, W = w.alloc (.cells #[.slice A xs.length C] 47) := ⟨_, rfl⟩
 have s1 : W1.heap.size = w.heap.size + 1 := by rw [hW1]; simp
 have hb1 : Below w.heap.size w W1 := by rw [hW1]; exact below_al bR _
 obtain ⟨W, hW⟩ : ∃ W, W = W1.alloc (.cells #[.int .u32 0, .int .u32 0, .int .u64 0, .int .u8 0, .int .u8 0, .bool false, .slice none 0 0] 46) := ⟨_, rfl⟩
 have hb2 : Below W1.heap.size W1 W := by rw [hW]; exact below_al bR _
 have hbW : Below w.heap.size w W := below_on hb1 hb2
 have hsW : W.heap.size = w.heap.size + 2 := by rw [hW]; simp [s1]
 have hc0 : W1.cell? ⟨w.heap.size, 0, none⟩ = some (.slice A xs.length C) := by rw [hW1]; simp
 have HB := h_ hbW
 have HT := h_ (triedX_any 44 #[] #[.pointer (some ⟨w.heap.size, 0, none⟩)] (gatheredE (xs.map LB.b)) W (enters_of Tryz.func44 (by kernel_rfl) rfl) (fun w' hb => by
  have h := of1B_any w.heap.size xs A C w' (((hb.cell (p := ⟨w.heap.size, 0, none⟩) (show w.heap.size < _ by omega)).trans (hb2.cell (p := ⟨w.heap.size, 0, none⟩) (show w.heap.size < _ by omega))).trans hc0) (hl.on (below_on hbW hb)) hC hs47 (ht.on (below_on hbW hb))
  simpa using h))
 have HR : Hid (RowB W (w.heap.size + 1) [.int .u32 0, .int .u32 0, .int .u64 0, .int .u8 0, .int .u8 0, .bool false, .slice none 0 0]) := by rw [hW, ← s1]; exact RowB.new W1 [.int .u32 0, .int .u32 0, .int .u64 0, .int .u8 0, .int .u8 0, .bool false, .slice none 0 0] 46
 have HSW : Hid (w.heap.size + 2 ≤ W.heap.size) := Nat.le_of_eq hsW.symm
 have HW : Hid (W = (w.alloc (.cells #[.slice A xs.length C] 47)).alloc (.cells #[.int .u32 0, .int .u32 0, .int .u64 0, .int .u8 0, .int .u8 0, .bool false, .slice none 0 0] 46)) := by rw [← hW1]; exact hW
 have HOf : Hid (ofE (xs.map LB.b) = match gatheredE (xs.map LB.b) with
  | .ok x => .ok x
  | .error _ => .error 161) := rfl
 clear hW1 hW hb1 hb2 hbW s1 hsW hc0 hl ht hC hs47
 go_enter Tryz.func18, Tryz.ntmps18
 go_wp2_with fail
 rw [← HW.out]
 refine HT.out.mono ?_
 rintro e w1 ⟨hb1, hm⟩
 have HBB := h_ (below_on HB.out hb1)
 have HR1 := h_ (HR.out.on hb1 (by have := HSW.out; omega))
 have HS1 : Hid (w.heap.size + 2 ≤ w1.heap.size) := Nat.le_trans HSW.out hb1.size
 clear hb1
 obtain ⟨r, hr⟩ : ∃ r, r = gatheredE (xs.map LB.b) := ⟨_, rfl⟩
 rw [← hr] at hm
 have hof := HOf.out
 have HCc : Hid (∀ c, r = .error c → c = 160 ∨ c = 2) := fun c h => gathered_c (hr.symm.trans h)
 rw [← hr] at hof
 have HOf2 := h_ hof
 clear hr hof
 cases r with
 | error q =>
  have hm : e = .returned (.tuple #[.agg #[.int .u32 0, .int .u32 0, .int .u64 0, .int .u8 0, .int .u8 0, .bool false, .slice none 0 0], .int .i64 q]) := hm
  subst hm
  have hb2 : Below w1.heap.size w1 (w1.alloc (.cells #[.int .u32 0, .int .u32 0, .int .u64 0, .int .u8 0, .int .u8 0, .bool false, .slice none 0 0] 46)) := below_al bR _
  have HB2 := h_ (below_on HBB.out hb2)
  have HR2 := h_ (HR1.out.on hb2 (by have := HS1.out; omega))
  have hq0 : ((q : Int) == 0) = false := by
   have := HCc.out q rfl
   simp
   omega
  have hlt : w.heap.size + 1 < w1.heap.size := by have := HS1.out; omega
  clear hb2
  have r0 := HR1.out.1 0 _ rfl
  have fr0 := HR1.out.2 0
  have r1 := HR1.out.1 1 _ rfl
  have fr1 := HR1.out.2 1
  have r2 := HR1.out.1 2 _ rfl
  have fr2 := HR1.out.2 2
  have r3 := HR1.out.1 3 _ rfl
  have fr3 := HR1.out.2 3
  have r4 := HR1.out.1 4 _ rfl
  have fr4 := HR1.out.2 4
  have r5 := HR1.out.1 5 _ rfl
  have fr5 := HR1.out.2 5
  have r6 := HR1.out.1 6 _ rfl
  have fr6 := HR1.out.2 6
  go_wp2_with fail
  change bodyPost _ _ _ _ _ ((put7 w1 (w.heap.size + 1) (.int .u32 0) (.int .u32 0) (.int .u64 0) (.int .u8 0) (.int .u8 0) (.bool false) (.slice none 0 0)).alloc (.cells #[.int .u32 0, .int .u32 0, .int .u64 0, .int .u8 0, .int .u8 0, .bool false, .slice none 0 0] 46))
  have hs7 := put7_size w1 (w.heap.size + 1) (.int .u32 0) (.int .u32 0) (.int .u64 0) (.int .u8 0) (.int .u8 0) (.bool false) (.slice none 0 0)
  have hba := below_al (Below.refl (put7 w1 (w.heap.size + 1) (.int .u32 0) (.int .u32 0) (.int .u64 0) (.int .u8 0) (.int .u8 0) (.bool false) (.slice none 0 0)).heap.size _) (.cells #[.int .u32 0, .int .u32 0, .int .u64 0, .int .u8 0, .int .u8 0, .bool false, .slice none 0 0] 46)
  have hrow2 := (put7_row HR1.out (.int .u32 0) (.int .u32 0) (.int .u64 0) (.int .u8 0) (.int .u8 0) (.bool false) (.slice none 0 0)).on hba (by omega)
  have hbk : Below w.heap.size w ((put7 w1 (w.heap.size + 1) (.int .u32 0) (.int .u32 0) (.int .u64 0) (.int .u8 0) (.int .u8 0) (.bool false) (.slice none 0 0)).alloc (.cells #[.int .u32 0, .int .u32 0, .int .u64 0, .int .u8 0, .int .u8 0, .bool false, .slice none 0 0] 46)) := below_al (put7_on HBB.out (Nat.le_succ _) (.int .u32 0) (.int .u32 0) (.int .u64 0) (.int .u8 0) (.int .u8 0) (.bool false) (.slice none 0 0)) _
  generalize (put7 w1 (w.heap.size + 1) (.int .u32 0) (.int .u32 0) (.int .u64 0) (.int .u8 0) (.int .u8 0) (.bool false) (.slice none 0 0)).alloc (.cells #[.int .u32 0, .int .u32 0, .int .u64 0, .int .u8 0, .int .u8 0, .bool false, .slice none 0 0] 46) = w30 at *
  have k0 := hrow2.1 0 _ rfl
  have k1 := hrow2.1 1 _ rfl
  have k2 := hrow2.1 2 _ rfl
  have k3 := hrow2.1 3 _ rfl
  have k4 := hrow2.1 4 _ rfl
  have k5 := hrow2.1 5 _ rfl
  have k6 := hrow2.1 6 _ rfl
  exact bodyPost_ret (v := .tuple #[.agg #[.int .u32 0, .int .u32 0, .int .u64 0, .int .u8 0, .int .u8 0, .bool false, .slice none 0 0], .int .i64 161]) (by simp [results, Tryz.results18, go_sem, k0, k1, k2, k3, k4, k5, k6]) rfl ⟨hbk, by rw [HOf2.out]⟩
 | ok x =>
  obtain ⟨A1, C1, rfl, hC1, hnx⟩ := hm
  have hb2 : Below w1.heap.size w1 (w1.alloc (.cells #[.int .u32 x.n, .int .u32 x.m, .int .u64 x.g, .int .u8 x.l, .int .u8 x.c, .bool x.b, .slice A1 x.xs.length C1] 46)) := below_al bR _
  have HB2 := h_ (below_on HBB.out hb2)
  have HR2 := h_ (HR1.out.on hb2 (by have := HS1.out; omega))
  have HN := h_ hnx
  have HC1 := h_ hC1
  have hlt : w.heap.size + 1 < w1.heap.size := by have := HS1.out; omega
  clear hb2 hnx hC1
  have r0 := HR1.out.1 0 _ rfl
  have fr0 := HR1.out.2 0
  have r1 := HR1.out.1 1 _ rfl
  have fr1 := HR1.out.2 1
  have r2 := HR1.out.1 2 _ rfl
  have fr2 := HR1.out.2 2
  have r3 := HR1.out.1 3 _ rfl
  have fr3 := HR1.out.2 3
  have r4 := HR1.out.1 4 _ rfl
  have fr4 := HR1.out.2 4
  have r5 := HR1.out.1 5 _ rfl
  have fr5 := HR1.out.2 5
  have r6 := HR1.out.1 6 _ rfl
  have fr6 := HR1.out.2 6
  go_wp2_with fail
  change bodyPost _ _ _ _ _ ((put7 w1 (w.heap.size + 1) (.int .u32 x.n) (.int .u32 x.m) (.int .u64 x.g) (.int .u8 x.l) (.int .u8 x.c) (.bool x.b) (.slice A1 x.xs.length C1)).alloc (.cells #[.int .u32 x.n, .int .u32 x.m, .int .u64 x.g, .int .u8 x.l, .int .u8 x.c, .bool x.b, .slice A1 x.xs.length C1] 46))
  have hs7 := put7_size w1 (w.heap.size + 1) (.int .u32 x.n) (.int .u32 x.m) (.int .u64 x.g) (.int .u8 x.l) (.int .u8 x.c) (.bool x.b) (.slice A1 x.xs.length C1)
  have hba := below_al (Below.refl (put7 w1 (w.heap.size + 1) (.int .u32 x.n) (.int .u32 x.m) (.int .u64 x.g) (.int .u8 x.l) (.int .u8 x.c) (.bool x.b) (.slice A1 x.xs.length C1)).heap.size _) (.cells #[.int .u32 x.n, .int .u32 x.m, .int .u64 x.g, .int .u8 x.l, .int .u8 x.c, .bool x.b, .slice A1 x.xs.length C1] 46)
  have hrow2 := (put7_row HR1.out (.int .u32 x.n) (.int .u32 x.m) (.int .u64 x.g) (.int .u8 x.l) (.int .u8 x.c) (.bool x.b) (.slice A1 x.xs.length C1)).on hba (by omega)
  have hbk : Below w.heap.size w ((put7 w1 (w.heap.size + 1) (.int .u32 x.n) (.int .u32 x.m) (.int .u64 x.g) (.int .u8 x.l) (.int .u8 x.c) (.bool x.b) (.slice A1 x.xs.length C1)).alloc (.cells #[.int .u32 x.n, .int .u32 x.m, .int .u64 x.g, .int .u8 x.l, .int .u8 x.c, .bool x.b, .slice A1 x.xs.length C1] 46)) := below_al (put7_on HBB.out (Nat.le_succ _) (.int .u32 x.n) (.int .u32 x.m) (.int .u64 x.g) (.int .u8 x.l) (.int .u8 x.c) (.bool x.b) (.slice A1 x.xs.length C1)) _
  have hnx2 : NewX w ((put7 w1 (w.heap.size + 1) (.int .u32 x.n) (.int .u32 x.m) (.int .u64 x.g) (.int .u8 x.l) (.int .u8 x.c) (.bool x.b) (.slice A1 x.xs.length C1)).alloc (.cells #[.int .u32 x.n, .int .u32 x.m, .int .u64 x.g, .int .u8 x.l, .int .u8 x.c, .bool x.b, .slice A1 x.xs.length C1] 46)) A1 x.xs := by
   exact (newX_alloc (put7_new HN.out (by have := HSW.out; omega) (.int .u32 x.n) (.int .u32 x.m) (.int .u64 x.g) (.int .u8 x.l) (.int .u8 x.c) (.bool x.b) (.slice A1 x.xs.length C1)) _).low HB.out.size
  generalize (put7 w1 (w.heap.size + 1) (.int .u32 x.n) (.int .u32 x.m) (.int .u64 x.g) (.int .u8 x.l) (.int .u8 x.c) (.bool x.b) (.slice A1 x.xs.length C1)).alloc (.cells #[.int .u32 x.n, .int .u32 x.m, .int .u64 x.g, .int .u8 x.l, .int .u8 x.c, .bool x.b, .slice A1 x.xs.length C1] 46) = w30 at *
  have k0 := hrow2.1 0 _ rfl
  have k1 := hrow2.1 1 _ rfl
  have k2 := hrow2.1 2 _ rfl
  have k3 := hrow2.1 3 _ rfl
  have k4 := hrow2.1 4 _ rfl
  have k5 := hrow2.1 5 _ rfl
  have k6 := hrow2.1 6 _ rfl
  exact bodyPost_ret (v := .tuple #[.agg #[.int .u32 x.n, .int .u32 x.m, .int .u64 x.g, .int .u8 x.l, .int .u8 x.c, .bool x.b, .slice A1 x.xs.length C1], .int .i64 0]) (by simp [results, Tryz.results18, go_sem, k0, k1, k2, k3, k4, k5, k6]) rfl ⟨hbk, by rw [HOf2.out]; exact ⟨A1, C1, rfl, HC1.out, hnx2⟩⟩

attribute [local go_sem] Oper.semAt_some

theorem eqE_run (a b c d : Int) (w : World) : (Op.equalIn 10000 41 (.agg #[.int .u32 a, .int .u32 b]) (.agg #[.int .u32 c, .int .u32 d])).run Tryz.prog w = .ok (a == c && b == d) w := by
 go_simp
 by_cases h0 : a = c <;> by_cases h1 : b = d <;> simp [h0, h1]

def sameEx (x y : Ex) : Bool := ((x.n : Int) == y.n && (x.m : Int) == y.m) && (((x.g : Int) == y.g) && (((x.l : Int) == y.l) && (((x.c : Int) == y.c) && (x.b == y.b && decide (x.xs = y.xs)))))
theorem sameEx_iff (x y : Ex) : sameEx x y = true ↔ x = y := by
 obtain ⟨n, m, g, l, c, b, xs⟩ := x
 obtain ⟨n', m', g', l', c', b', xs'⟩ := y
 simp [sameEx, Int.ofNat_inj, and_assoc]

end Go.Proofs.YtiahakbkagipkaaGreatDoor
