/- Joined texts. -/
import Derived.Test.YtiahakbkagipkaaGreatDoorZBg
import Derived.Test.YtiahakbkagipkaaGreatDoorZBl
import Derived.Test.YtiahakbkagipkaaGreatDoorZHz
import Derived.Test.YtiahakbkagipkaaGreatDoorZPz
set_option maxHeartbeats 16000000
set_option linter.unusedSimpArgs false
set_option linter.unusedVariables false
set_option maxRecDepth 100000
namespace Go.Proofs.YtiahakbkagipkaaGreatDoor
open Go Go.RowKit Go.Shelf

attribute [local go_sem] Oper.semAt_some

theorem flatB_put_n : ∀ (xs : List LB) (j : Nat) (x : LB) (n : Nat), xs[j]? = some x → (flatB xs).set (j * 4 + 1) (.int .u64 n) = flatB (xs.set j ⟨⟨x.b.t, n, x.b.s, x.b.d⟩, x.a, x.c⟩)
 | [], j, x, n, h => by simp at h
 | y :: r, 0, x, n, h => by
  simp at h
  subst h
  rfl
 | y :: r, j + 1, x, n, h => by
  have := flatB_put_n r j x n (by simpa using h)
  rw [show (j + 1) * 4 + 1 = j * 4 + 1 + 1 + 1 + 1 + 1 by omega]
  simp [flatB, LB.vs, this]
theorem flatB_put_s : ∀ (xs : List LB) (j : Nat) (x : LB) (s : Int), xs[j]? = some x → (flatB xs).set (j * 4 + 2) (.int .i64 s) = flatB (xs.set j ⟨⟨x.b.t, x.b.n, s, x.b.d⟩, x.a, x.c⟩)
 | [], j, x, n, h => by simp at h
 | y :: r, 0, x, n, h => by
  simp at h
  subst h
  rfl
 | y :: r, j + 1, x, n, h => by
  have := flatB_put_s r j x n (by simpa using h)
  rw [show (j + 1) * 4 + 2 = j * 4 + 2 + 1 + 1 + 1 + 1 by omega]
  simp [flatB, LB.vs, this]

theorem lsB_app {w0 w : World} {v : Value} {l : List Bl} (ys : List LB) (cs : Array Value) (hcs : cs.toList = flatB ys) (h : LsB w0 w v l) (h0 : w0.heap.size ≤ w.heap.size) (hx : ∀ y ∈ ys, y.ok w0 w v) (hlen : l.length ≤ 100000) (hy : ys.length ≤ 1000) :
  ∃ v' w2, (Builtin.append_ #[47, 47] 47 #[v, .slice (some ⟨w.heap.size, 0, none⟩) ys.length ys.length]).run Tryz.prog (w.alloc (.cells cs 26)) = .ok v' w2 ∧
   LsB w0 w2 v' (l ++ ys.map LB.b) ∧ Below w0.heap.size w w2 ∧ w.heap.size ≤ w2.heap.size := by
 obtain ⟨xs, rfl, ho, hxs⟩ := h
 rw [List.length_map] at hlen
 obtain ⟨i, hi, hz0, hsz0, hb⟩ := info_parts info_block
 have hsz : (w.alloc (.cells cs 26)).heap.size = w.heap.size + 1 := by simp
 obtain ⟨v', w', hrun, h2, h3, _, h5⟩ := run_append_own_at (P := Tryz.prog) (w.alloc (.cells cs 26)) w0.heap.size 47 47 26 i _ 4 48 Tryz.underlying47 hi hz0 hsz0 hb rfl (by decide) v xs.length (flatB xs) (ho.alloc _) ⟨w.heap.size, 0, none⟩ ys.length ys.length (flatB ys) (flatB_length ys) (by
   intro j u hu
   rw [mk_addr_add, Nat.zero_add, World.cell?_alloc_mark, ← hu, ← hcs]
   simp) (by
   intro u hu
   clear hcs hx hy
   induction ys with
   | nil => simp [flatB] at hu
   | cons y r ih =>
    rw [flatB] at hu
    rcases List.mem_append.1 hu with hu | hu
    ·simp [LB.vs] at hu
     rcases hu with rfl | rfl | rfl | rfl <;> rfl
    ·exact ih hu) (by unfold maxLen; omega) (by omega) (by rw [hsz]; omega)
 refine ⟨v', w', hrun, ⟨xs ++ ys, by simp, ?_, ?_⟩, ?_, ?_⟩
 ·rw [List.length_append, flatB_app]
  exact h2
 ·have hok : ∀ y : LB, y.ok w0 w v → y.ok w0 w' v' := fun y hy => ⟨hy.1, hy.2.1, RdBS.more (RdBS.keep hy.2.2 fun j hj => (h3.block j (by rw [hsz]; have := hj.1.2; omega) (fun e => hj.2 e.symm)).trans (Below.heap_alloc _ _ _ hj.1.2)) fun j hj => ⟨⟨hj.1.1, by have := h3.size; rw [hsz] at this; have := hj.1.2; omega⟩, fun e => by
      rcases h5 with h5 | h5
      ·exact hj.2 (h5.symm.trans e)
      ·rw [h5, hsz] at e
       injection e with e
       have := hj.1.2
       omega⟩⟩
  intro y hy
  rcases List.mem_append.1 hy with h | h
  ·exact hok y (hxs y h)
  ·exact hok y (hx y h)
 ·refine ((Below.refl w0.heap.size w).alloc h0 _).grown h3 (by rw [hsz]; omega) (fun r e => (ho.lt r e).1)
 ·have := h3.size
  rw [hsz] at this
  omega

structure RowW (w0 w : World) (g : Nat) (xs : List LB) : Prop where
 bel : Below w0.heap.size w0 w
 lo : w0.heap.size ≤ g
 hi : g < w.heap.size
 row : RowB w g (flatB xs)
 dat : ∀ x ∈ xs, x.b.d.length ≤ x.c ∧ x.b.d.length ≤ 140737488355328 ∧ RdBS w (fun b => b < w.heap.size ∧ b ≠ g) x.a x.b.d

theorem LsB.rowW {w0 w : World} {v : Value} {l : List Bl} (h : LsB w0 w v l) (hl : 0 < l.length) (hb : Below w0.heap.size w0 w) : ∃ g C xs, v = .slice (some ⟨g, 0, none⟩) xs.length C ∧ xs.length ≤ C ∧ xs.map LB.b = l ∧ RowW w0 w g xs := by
 obtain ⟨xs, rfl, ho, hx⟩ := h
 rw [List.length_map] at hl
 rcases ho.2 with ⟨rfl, hn⟩ | ⟨g, cap, cur, rfl, hbg, hg, hn, _, hcs, htk⟩
 ·omega
 ·refine ⟨g, cap, xs, rfl, hn, rfl, ⟨hb, hbg, (Array.getElem?_eq_some_iff.1 hg).1, ⟨fun i u hi => ?_, fun i => by simp [World.frozen?, hg]⟩, fun x q => ⟨(hx x q).1, (hx x q).2.1, (hx x q).2.2.more fun j hj => ⟨hj.1.2, fun e => hj.2 (by rw [e]; rfl)⟩⟩⟩⟩
  have h := ho.cells (g := g) rfl i u hi
  rw [mk_addr_add, Nat.zero_add] at h
  exact h

theorem RowW.setc {w0 w : World} {g i : Nat} {xs ys : List LB} {u : Value} (h : RowW w0 w g xs) (hf : (flatB xs).set i u = flatB ys) (hy : ∀ y ∈ ys, ∃ x ∈ xs, x.b.d = y.b.d ∧ x.a = y.a ∧ x.c = y.c) : RowW w0 (w.setCell ⟨g, i, none⟩ u) g ys := by
 refine ⟨h.bel.setCell h.lo _, h.lo, by rw [World.size_setCell]; exact h.hi, by rw [← hf]; exact h.row.set i u, fun y q => ?_⟩
 obtain ⟨x, hx, e1, e2, e3⟩ := hy y q
 rw [← e1, ← e2, ← e3]
 obtain ⟨h1, h2, h3⟩ := h.dat x hx
 exact ⟨h1, h2, RdBS.more (RdBS.keep h3 fun j hj => Below.heap_setCell _ _ _ _ (fun e => hj.2 (by exact e))) fun j hj => by rw [World.size_setCell]; exact hj⟩

theorem mem_set_parts {xs : List LB} {j : Nat} {x z : LB} (hx : xs[j]? = some x) (hd : x.b.d = z.b.d) (ha : x.a = z.a) (hc : x.c = z.c) : ∀ y ∈ xs.set j z, ∃ x ∈ xs, x.b.d = y.b.d ∧ x.a = y.a ∧ x.c = y.c := by
 intro y hy
 rcases List.mem_or_eq_of_mem_set hy with h | rfl
 ·exact ⟨y, h, rfl, rfl, rfl⟩
 ·exact ⟨x, List.mem_of_getElem? hx, hd, ha, hc⟩

theorem RowW.put_n {w0 w : World} {g j : Nat} {xs : List LB} {x : LB} (h : RowW w0 w g xs) (hx : xs[j]? = some x) (n : Nat) : RowW w0 (w.setCell ⟨g, j * 4 + 1, none⟩ (.int .u64 n)) g (xs.set j ⟨⟨x.b.t, n, x.b.s, x.b.d⟩, x.a, x.c⟩) :=
 h.setc (flatB_put_n xs j x n hx) (mem_set_parts hx rfl rfl rfl)
theorem RowW.put_s {w0 w : World} {g j : Nat} {xs : List LB} {x : LB} (h : RowW w0 w g xs) (hx : xs[j]? = some x) (s : Int) : RowW w0 (w.setCell ⟨g, j * 4 + 2, none⟩ (.int .i64 s)) g (xs.set j ⟨⟨x.b.t, x.b.n, s, x.b.d⟩, x.a, x.c⟩) :=
 h.setc (flatB_put_s xs j x s hx) (mem_set_parts hx rfl rfl rfl)

theorem RowW.cell {w0 w : World} {g j : Nat} {xs : List LB} {x : LB} (h : RowW w0 w g xs) (hx : xs[j]? = some x) : CellB w g (j * 4) x := by
 obtain ⟨f0, f1, f2, f3⟩ := flatB_at xs j x hx
 exact ⟨h.row.1 _ _ f0, h.row.1 _ _ f1, h.row.1 _ _ f2, h.row.1 _ _ f3⟩

theorem RowW.rd {w0 w : World} {g : Nat} {xs : List LB} (h : RowW w0 w g xs) : RdLs w w.heap.size (some ⟨g, 0, none⟩) xs :=
 ⟨fun x hx => ⟨(h.dat x hx).1, (h.dat x hx).2.1, (h.dat x hx).2.2.rdB fun b hb => hb.1⟩, .inr ⟨g, 0, rfl, h.hi, fun j x hx => by rw [Nat.zero_add]; exact h.cell hx⟩⟩

def numbd (k : Int) (i : Nat) (l m : List Bl) : Prop := m.length = l.length ∧ ∀ (j : Nat) (b : Bl), l[j]? = some b → m[j]? = some (if j < i then ⟨b.t, j + 2, k, b.d⟩ else b)

theorem numbd_zero (k : Int) (l : List Bl) : numbd k 0 l l := ⟨rfl, fun j b h => by rw [if_neg (Nat.not_lt_zero _)]; exact h⟩
theorem numbd_step {k : Int} {i : Nat} {l : List Bl} {xs : List LB} {x : LB} (h : numbd k i l (xs.map LB.b)) (hx : xs[i]? = some x) (z : LB) (hz : z.b = ⟨x.b.t, i + 2, k, x.b.d⟩) : numbd k (i + 1) l ((xs.set i z).map LB.b) := by
 refine ⟨by simpa using h.1, fun j b hb => ?_⟩
 have h1 := h.2 j b hb
 rw [List.getElem?_map, List.getElem?_set]
 by_cases e : i = j
 ·subst e
  have hi : i < xs.length := (List.getElem?_eq_some_iff.1 hx).1
  rw [List.getElem?_map, hx, if_neg (Nat.lt_irrefl _)] at h1
  injection h1 with h1
  rw [if_pos rfl, if_pos hi, if_pos (Nat.lt_succ_self _)]
  simp only [Option.map_some]
  rw [hz]
  show some (⟨(LB.b x).t, i + 2, k, (LB.b x).d⟩ : Bl) = _
  rw [h1]
 ·rw [if_neg e, ← List.getElem?_map, h1]
  by_cases hj : j < i
  ·rw [if_pos hj, if_pos (by omega)]
  ·rw [if_neg hj, if_neg (by omega)]
theorem numbd_all {k : Int} {l m n : List Bl} (h : numbd k l.length l m) (hn : n.length = l.length) (hm : ∀ (j : Nat) (b : Bl), l[j]? = some b → n[j]? = some ⟨b.t, j + 2, k, b.d⟩) : m = n := by
 refine List.ext_getElem? fun j => ?_
 by_cases hj : j < l.length
 ·have hb := List.getElem?_eq_getElem hj
  rw [h.2 j _ hb, if_pos hj, hm j _ hb]
 ·rw [List.getElem?_eq_none (by have := h.1; omega), List.getElem?_eq_none (by omega)]

def tailU (x : Ex) : List Bl := [⟨7, 0, 0, dataO (itU x.g)⟩, ⟨10, 0, 0, dataO (itLs [itU x.l, itU x.c])⟩, ⟨200, 0, 0, dataO (itP x.b x.xs)⟩]
theorem listB_no {x : Ex} {k : Int} {m : List Bl} (h0 : noEnd x.n x.m = true) (h : numbd k (tailU x).length (tailU x) m) : m = listB x k := by
 refine numbd_all h (by rw [listB, if_pos h0]; rfl) fun j b hb => ?_
 rw [listB, if_pos h0]
 have hj := (List.getElem?_eq_some_iff.1 hb).1
 have hj : j < 3 := hj
 match j, hj with
 | 0, _ =>
  injection hb with hb
  subst hb
  rfl
 | 1, _ =>
  injection hb with hb
  subst hb
  rfl
 | 2, _ =>
  injection hb with hb
  subst hb
  rfl
theorem listB_yes {x : Ex} {k : Int} {m : List Bl} (h0 : noEnd x.n x.m = false) (h : numbd k ((⟨6, 0, 0, dataO (itE x.n x.m)⟩ : Bl) :: tailU x).length (⟨6, 0, 0, dataO (itE x.n x.m)⟩ :: tailU x) m) : m = listB x k := by
 have h0' : ¬ noEnd x.n x.m = true := by rw [h0]; decide
 refine numbd_all h (by rw [listB, if_neg h0']; rfl) fun j b hb => ?_
 rw [listB, if_neg h0']
 have hj := (List.getElem?_eq_some_iff.1 hb).1
 have hj : j < 4 := hj
 match j, hj with
 | 0, _ =>
  injection hb with hb
  subst hb
  rfl
 | 1, _ =>
  injection hb with hb
  subst hb
  rfl
 | 2, _ =>
  injection hb with hb
  subst hb
  rfl
 | 3, _ =>
  injection hb with hb
  subst hb
  rfl

theorem join_dat {w w' : World} {bs : List UInt8} {e : Ending} (h : JoinP w bs e w') : ∃ a c, e = .returned (.slice a bs.length c) ∧ bs.length ≤ c ∧ RdBS w' (newB w w') a bs ∧ Below w.heap.size w w' := by
 obtain ⟨v, rfl, ho, hb⟩ := h
 obtain ⟨a, c, rfl, hc, hr, hA⟩ := ho.bytes
 exact ⟨a, c, rfl, hc, RdBS.own hr (fun p hp => hA p hp) (Nat.le_refl _), hb⟩

attribute [local go_sem] Oper.semAt_some

def DatN (w : World) (lo : Nat) (a : Option Addr) (bs : List UInt8) : Prop := RdBS w (fun j => lo ≤ j ∧ j < w.heap.size) a bs
theorem DatN.on {w w' : World} {lo : Nat} {a : Option Addr} {bs : List UInt8} (h : DatN w lo a bs) (hb : Below w.heap.size w w') : DatN w' lo a bs :=
 RdBS.more (RdBS.keep h fun j hj => hb.block j hj.2) fun j hj => ⟨hj.1, Nat.lt_of_lt_of_le hj.2 hb.size⟩
theorem DatN.of {w w' : World} {lo : Nat} {a : Option Addr} {bs : List UInt8} (h : RdBS w' (newB w w') a bs) (hlo : lo ≤ w.heap.size) : DatN w' lo a bs :=
 RdBS.more h fun j hj => ⟨Nat.le_trans hlo hj.1, hj.2⟩
theorem DatN.okB {w0 w : World} {lo : Nat} {v : Value} {a : Option Addr} {c : Nat} {bs : List UInt8} (h : DatN w lo a bs) (h0 : w0.heap.size ≤ lo) (hv : ∀ j, v.ownBlock = some j → j < lo) (hc : bs.length ≤ c) (hl : bs.length ≤ 65536) (t n : Nat) (s : Int) : LB.ok w0 w v ⟨⟨t, n, s, bs⟩, a, c⟩ :=
 ⟨hc, Nat.le_trans hl (by decide), RdBS.more h fun j hj => ⟨⟨Nat.le_trans h0 hj.1, hj.2⟩, fun e => by have := hv j e; have := hj.1; omega⟩⟩

theorem berr_right {x : It} (h : x.err = 0) : x.right = true := by
 by_cases hr : x.right = true
 ·exact hr
 ·rw [It.err, if_neg hr] at h
  cases h
theorem dat_of (x : It) (he : x.err = 0) (v : Value) (w : World) (hv : ItV w w.heap.size v x) : Calls Tryz.prog 38 #[v] w fun e w' => ∃ a c, e = .returned (.slice a (dataO x).length c) ∧ (dataO x).length ≤ c ∧ (dataO x).length ≤ 65536 ∧ RdBS w' (newB w w') a (dataO x) ∧ Below w.heap.size w w' := by
 have hl := berr_len he
 have hd : x.bytes = dataO x := by rw [dataO, if_pos he]
 refine (refBytes_any x v w (berr_right he) (by omega) hv).mono ?_
 intro e w' h
 obtain ⟨a, c, h1, h2, h3, h4⟩ := join_dat h
 rw [hd] at h1 h2 h3 hl
 exact ⟨a, c, h1, h2, hl, h3, h4⟩

theorem two_items (l c : Nat) (w : World) (hl : l ≤ 255) (hc : c ≤ 255) :
  ItV (w.alloc (.cells #[.int .i64 1, .int .u64 l, .slice none 0 0, .string ⟨#[]⟩, .slice none 0 0, .int .i64 1, .int .u64 c, .slice none 0 0, .string ⟨#[]⟩, .slice none 0 0] 83)) (w.alloc (.cells #[.int .i64 1, .int .u64 l, .slice none 0 0, .string ⟨#[]⟩, .slice none 0 0, .int .i64 1, .int .u64 c, .slice none 0 0, .string ⟨#[]⟩, .slice none 0 0] 83)).heap.size (.agg #[.int .i64 4, .int .u64 0, .slice none 0 0, .string ⟨#[]⟩, .slice (some ⟨w.heap.size, 0, none⟩) 2 2]) (itLs [itU l, itU c]) :=
 (rowItemsB (w := w) (t := 83) (cs := #[.int .i64 1, .int .u64 l, .slice none 0 0, .string ⟨#[]⟩, .slice none 0 0, .int .i64 1, .int .u64 c, .slice none 0 0, .string ⟨#[]⟩, .slice none 0 0]) (l := [itU l, itU c]) rfl (liConsB (itS_uint _ _ l ⟨by omega, by omega⟩) (LI.one (itS_uint _ _ c ⟨by omega, by omega⟩))) (show 2 ≤ 1000 from by decide)).1

def NumI (W : World) (g C : Nat) (k : Int) (l : List Bl) (i : Nat) (wr : World) : Prop := ∃ xs : List LB, xs.length = l.length ∧ RowW W wr g xs ∧ numbd k i l (xs.map LB.b)

def ExtB (w : World) (l : List Bl) (e : Ending) (w' : World) : Prop := Below w.heap.size w w' ∧ ∃ A C ys, e = .returned (.slice A ys.length C) ∧ ys.length ≤ C ∧ ys.map LB.b = l ∧ RdLs w' w'.heap.size A ys

theorem refExtras_any (x : Ex) (A : Option Addr) (C : Nat) (k : Int) (hx : x.fit) (hrt : rightEx x = true) (w : World) (hr : RdX w w.heap.size A x.xs) (hC : x.xs.length ≤ C) :
  Calls Tryz.prog 17 #[.agg #[.int .u32 x.n, .int .u32 x.m, .int .u64 x.g, .int .u8 x.l, .int .u8 x.c, .bool x.b, .slice A x.xs.length C], .int .i64 k] w (ExtB w (listB x k)) := by
 obtain ⟨W, hW⟩ : ∃ W, W = w.alloc (.cells #[.int .u32 x.n, .int .u32 x.m, .int .u64 x.g, .int .u8 x.l, .int .u8 x.c, .bool x.b, .slice A x.xs.length C] 46) := ⟨_, rfl⟩
 have HB0 : Hid (Below w.heap.size w W) := by rw [hW]; exact below_al bR _
 have HX : Hid (∀ w', Below W.heap.size W w' → w'.cell? ⟨w.heap.size, 0, none⟩ = some (.int .u32 x.n) ∧ w'.cell? ⟨w.heap.size, 1, none⟩ = some (.int .u32 x.m) ∧ w'.cell? ⟨w.heap.size, 2, none⟩ = some (.int .u64 x.g) ∧ w'.cell? ⟨w.heap.size, 3, none⟩ = some (.int .u8 x.l) ∧ w'.cell? ⟨w.heap.size, 4, none⟩ = some (.int .u8 x.c) ∧ w'.cell? ⟨w.heap.size, 5, none⟩ = some (.bool x.b) ∧ w'.cell? ⟨w.heap.size, 6, none⟩ = some (.slice A x.xs.length C)) := fun w' h => by
  rw [hW] at h
  exact ⟨box_at h 0, box_at h 1, box_at h 2, box_at h 3, box_at h 4, box_at h 5, box_at h 6⟩
 have HRX : Hid (∀ w', Below W.heap.size W w' → RdX w' w'.heap.size A x.xs) := fun w' h => (hr.on HB0.out).on h
 have hsW : w.heap.size < W.heap.size := by rw [hW]; simp
 have HSW := h_ hsW
 have HW := h_ hW
 have HRt := h_ hrt
 have HF := h_ hx
 have HE : Hid (noEnd x.n x.m = decide (x.n = 0 ∧ x.m = 0)) := by
  rw [Hid, Bool.eq_iff_iff]
  simp [noEnd]
 have HLi : Hid (rightX x.xs = true ∧ isT x.g = true ∧ (noEnd x.n x.m = true ∨ 0 < x.n)) := by
  simp only [rightEx, Bool.and_eq_true, Bool.or_eq_true, decide_eq_true_eq] at hrt
  exact ⟨hrt.2.1, hrt.1, hrt.2.2⟩
 have HX64 : Hid (x.xs.length ≤ 64) := by
  have h := HLi.out.1
  simp only [rightX, Bool.and_eq_true, decide_eq_true_eq] at h
  exact h.1
 have hwl : IntKind.u64.wrap (x.l : Int) = (x.l : Int) := by rw [IntKind.wrap_u64]; have := hx.l; omega
 have hwc : IntKind.u64.wrap (x.c : Int) = (x.c : Int) := by rw [IntKind.wrap_u64]; have := hx.c; omega
 obtain ⟨x0, x1, x2, x3, x4, x5, x6⟩ := HX.out W bR
 rw [HW.out] at x0 x1 x2 x3 x4 x5 x6
 clear hW hr hC hrt hx hsW
 go_enter Tryz.func17, Tryz.ntmps17
 go_wp2_with fail
 rw [← HW.out]
 clear x0 x1 x2 x3 x4 x5 x6
 refine (refNobody_any x.n x.m W).mono ?_
 rintro e w1 ⟨rfl, hb1⟩
 rw [← HE.out]
 have HB1 := h_ hb1
 clear hb1
 obtain ⟨q, hq⟩ : ∃ q, q = noEnd x.n x.m := ⟨_, rfl⟩
 rw [← hq]
 have HQ := h_ hq
 clear hq
 cases q
 ·have F1 : Below W.heap.size W w1 := HB1.out
  obtain ⟨x0, x1, x2, x3, x4, x5, x6⟩ := HX.out w1 F1
  have hn0 : 0 < x.n := by
   rcases HLi.out.2.2 with h | h
   ·rw [← HQ.out] at h
    cases h
   ·exact h
  go_wp2_with fail
  clear x0 x1 x2 x3 x4 x5 x6
  refine (refItem_any x.n x.m (.inl hn0) HF.out.n HF.out.m w1).mono ?_
  rintro e w2 ⟨⟨pv, rfl, hit⟩, hb⟩
  have F2 : Below W.heap.size W w2 := below_on F1 hb
  have G2 : w1.heap.size ≤ w2.heap.size := hb.size
  clear hb
  go_wp2_with fail
  refine (dat_of (itE x.n x.m) (bitE_err x.n x.m) _ _ hit.new_itV).mono ?_
  rintro e w3 ⟨a0, c0, rfl, hc0, hl0, hd0, hb⟩
  have D0 : DatN w3 W.heap.size a0 _ := DatN.of hd0 F2.size
  have F3 : Below W.heap.size W w3 := below_on F2 hb
  clear hb hd0 hit
  obtain ⟨v1, w4, hrun, hls, hb4, hs4⟩ := lsB_app (w0 := W) (w := w3) (v := .slice none 0 0) (l := []) [⟨⟨6, 0, 0, dataO (itE x.n x.m)⟩, a0, c0⟩] #[.int .u64 6, .int .u64 0, .int .i64 0, .slice a0 (dataO (itE x.n x.m)).length c0] rfl (LsB.nil W w3) F3.size (by
   intro y hy
   simp only [List.mem_cons, List.not_mem_nil, or_false] at hy
   subst hy
   exact D0.okB (Nat.le_refl _) (fun j h => by cases h) hc0 hl0 _ _ _) (by decide) (show 1 ≤ 1000 from by decide)
  have F0 : Below W.heap.size W w4 := F3.trans hb4
  obtain ⟨A1, C1, e1, _⟩ := hls.slice
  subst e1
  have HRun := h_ hrun
  clear hrun hb4 hs4 D0 F2 F3 G2 hc0 hl0
  go_wp2_with (at_builtin; refine wpList_run (by rfl) _ _ _ _ (by rfl) _ _ _ _ (by rfl) (by rfl) HRun.out ?_)
  clear HRun
  obtain ⟨x0, x1, x2, x3, x4, x5, x6⟩ := HX.out w4 F0
  go_upto_region 4 with fail
  have hlo : ∀ j, Value.ownBlock (.slice A1 1 C1) = some j → j < w4.heap.size := fun j h => (hls.own j h).2
  have F : Below W.heap.size W w4.drew := F0.drew
  have G0 : Below w4.heap.size w4 w4.drew := bR.drew
  have hlw : W.heap.size ≤ w4.heap.size := F0.size
  refine wp_region_held_drew (S := fun w' => w'.cell? ⟨w.heap.size, 0, none⟩ = some (.int .u32 x.n) ∧ w'.cell? ⟨w.heap.size, 1, none⟩ = some (.int .u32 x.m) ∧ w'.cell? ⟨w.heap.size, 2, none⟩ = some (.int .u64 x.g) ∧ w'.cell? ⟨w.heap.size, 3, none⟩ = some (.int .u8 x.l) ∧ w'.cell? ⟨w.heap.size, 4, none⟩ = some (.int .u8 x.c) ∧ w'.cell? ⟨w.heap.size, 5, none⟩ = some (.bool x.b) ∧ w'.cell? ⟨w.heap.size, 6, none⟩ = some (.slice A x.xs.length C)) (by kernel_rfl) (HX.out _ F) (fun hHeld => ?_)
  refine takeL 0 (v := ?_) ?_ ‹_› ?_
  rotate_left
  ·intro w hSw; (try dsimp only at hSw); go_simp; all_goals with_reducible rfl
  simp only [Act.put, zA, zB, zC]
  refine takeL 1 (v := ?_) ?_ ‹_› ?_
  rotate_left
  ·intro w hSw; (try dsimp only at hSw); go_simp; all_goals with_reducible rfl
  simp only [Act.put, zA, zB, zC]
  refine takeL 2 (v := ?_) ?_ ‹_› ?_
  rotate_left
  ·intro w hSw; (try dsimp only at hSw); go_simp; all_goals with_reducible rfl
  simp only [Act.put, zA, zB, zC]
  refine takeL 6 (v := ?_) ?_ ‹_› ?_
  rotate_left
  ·intro w hSw; (try dsimp only at hSw); go_simp; all_goals with_reducible rfl
  simp only [Act.put, zA, zB, zC]
  refine takeL 7 (v := ?_) ?_ ‹_› ?_
  rotate_left
  ·intro w hSw; (try dsimp only at hSw); go_simp; all_goals with_reducible rfl
  simp only [Act.put, zA, zB, zC]
  refine takeL 8 (v := ?_) ?_ ‹_› ?_
  rotate_left
  ·intro w hSw; (try dsimp only at hSw); go_simp; all_goals with_reducible rfl
  simp only [Act.put, zA, zB, zC]
  refine takeL 10 (v := ?_) ?_ ‹_› ?_
  rotate_left
  ·intro w hSw; (try dsimp only at hSw); go_simp; all_goals with_reducible rfl
  simp only [Act.put, zA, zB, zC]
  refine takeL 11 (v := ?_) ?_ ‹_› ?_
  rotate_left
  ·intro w hSw; (try dsimp only at hSw); go_simp; all_goals with_reducible rfl
  simp only [Act.put, zA, zB, zC]
  refine takeL 12 (v := ?_) ?_ ‹_› ?_
  rotate_left
  ·intro w hSw; (try dsimp only at hSw); go_simp; all_goals with_reducible rfl
  simp only [Act.put, zA, zB, zC]
  refine takeL 18 (v := ?_) ?_ ‹_› ?_
  rotate_left
  ·intro w hSw; (try dsimp only at hSw); go_simp; all_goals with_reducible rfl
  simp only [Act.put, zA, zB, zC]
  refine takeL 19 (v := ?_) ?_ ‹_› ?_
  rotate_left
  ·intro w hSw; (try dsimp only at hSw); go_simp; all_goals with_reducible rfl
  simp only [Act.put, zA, zB, zC]
  refine wpAnyH_ready (rs := [3]) (by kernel_rfl) (by simp) (.cons rfl (fun K hK => ?_) .nil)
  go_simp
  refine (refUint_any _ _).mono ?_
  rintro e wu0 ⟨rfl, hb⟩
  replace F := below_on F hb
  replace G0 := below_on G0 hb
  clear hb
  refine hK.out _ _ (HX.out _ F) (fun hHeld => ?_)
  clear hK K
  try simp only [Act.put, zA, zB, zC]
  refine wpAnyH_ready (rs := [4]) (by kernel_rfl) (by simp) (.cons rfl (fun K hK => ?_) .nil)
  go_simp
  refine (dat_of (itU x.g) (bitU_err x.g) _ _ (ItS.itV (S := fun _ => False) (fun _ h => h.elim) _ (itS_uint _ _ x.g ⟨by omega, by have := HF.out.g; omega⟩))).mono ?_
  rintro e wz ⟨a1, c1, rfl, hc1, hl1, hd1, hb⟩
  have D1 := DatN.of hd1 G0.size
  replace F := below_on F hb
  replace G0 := below_on G0 hb
  clear hb
  clear hd1
  refine hK.out _ _ (HX.out _ F) (fun hHeld => ?_)
  clear hK K
  try simp only [Act.put, zA, zB, zC]
  refine takeL 5 (v := ?_) ?_ ‹_› ?_
  rotate_left
  ·intro w hSw; (try dsimp only at hSw); go_simp; all_goals with_reducible rfl
  simp only [Act.put, zA, zB, zC]
  refine wpAnyH_ready (rs := [9]) (by kernel_rfl) (by simp) (.cons rfl (fun K hK => ?_) .nil)
  go_simp
  refine (refUint_any _ _).mono ?_
  rintro e wu1 ⟨rfl, hb⟩
  replace F := below_on F hb
  replace G0 := below_on G0 hb
  replace D1 := D1.on hb
  clear hb
  refine hK.out _ _ (HX.out _ F) (fun hHeld => ?_)
  clear hK K
  try simp only [Act.put, zA, zB, zC]
  refine wpAnyH_ready (rs := [13]) (by kernel_rfl) (by simp) (.cons rfl (fun K hK => ?_) .nil)
  go_simp
  refine (refUint_any _ _).mono ?_
  rintro e wu2 ⟨rfl, hb⟩
  replace F := below_on F hb
  replace G0 := below_on G0 hb
  replace D1 := D1.on hb
  clear hb
  refine hK.out _ _ (HX.out _ F) (fun hHeld => ?_)
  clear hK K
  try simp only [Act.put, zA, zB, zC]
  refine wpAnyH_ready (rs := [14]) (by kernel_rfl) (by simp) (.cons rfl (fun K hK => ?_) .nil)
  go_simp
  have hit := two_items x.l x.c wu2 HF.out.l HF.out.c
  obtain ⟨wv, hwv⟩ : ∃ V, V = wu2.alloc (.cells #[.int .i64 1, .int .u64 x.l, .slice none 0 0, .string ⟨#[]⟩, .slice none 0 0, .int .i64 1, .int .u64 x.c, .slice none 0 0, .string ⟨#[]⟩, .slice none 0 0] 83) := ⟨_, rfl⟩
  have hb : Below wu2.heap.size wu2 wv := by rw [hwv]; exact below_al bR _
  rw [← hwv] at hit ⊢
  clear hwv
  replace F := below_on F hb
  replace G0 := below_on G0 hb
  replace D1 := D1.on hb
  clear hb
  refine hK.out _ _ (HX.out _ F) (fun hHeld => ?_)
  clear hK K
  try simp only [Act.put, zA, zB, zC]
  refine wpAnyH_ready (rs := [15]) (by kernel_rfl) (by simp) (.cons rfl (fun K hK => ?_) .nil)
  go_simp
  refine (refList_any _ _ _ _).mono ?_
  rintro e wl ⟨rfl, hb⟩
  replace hit := hit.on hb
  replace F := below_on F hb
  replace G0 := below_on G0 hb
  replace D1 := D1.on hb
  clear hb
  refine hK.out _ _ (HX.out _ F) (fun hHeld => ?_)
  clear hK K
  try simp only [Act.put, zA, zB, zC]
  refine wpAnyH_ready (rs := [16]) (by kernel_rfl) (by simp) (.cons rfl (fun K hK => ?_) .nil)
  go_simp
  refine (dat_of (itLs [itU x.l, itU x.c]) (bitH_err x.l x.c) _ _ hit).mono ?_
  rintro e wz ⟨a2, c2, rfl, hc2, hl2, hd2, hb⟩
  have D2 := DatN.of hd2 G0.size
  replace F := below_on F hb
  replace G0 := below_on G0 hb
  replace D1 := D1.on hb
  clear hb
  clear hd2
  refine hK.out _ _ (HX.out _ F) (fun hHeld => ?_)
  clear hK K
  try simp only [Act.put, zA, zB, zC]
  refine takeL 17 (v := ?_) ?_ ‹_› ?_
  rotate_left
  ·intro w hSw; (try dsimp only at hSw); go_simp; all_goals with_reducible rfl
  simp only [Act.put, zA, zB, zC]
  refine wpAnyH_ready (rs := [20]) (by kernel_rfl) (by simp) (.cons rfl (fun K hK => ?_) .nil)
  go_simp
  refine (refPItem_any x.b A C x.xs _ (by have := HX64.out; omega) (HRX.out _ F)).mono ?_
  rintro e wp ⟨hb, pv, rfl, hpt⟩
  replace F := below_on F hb
  replace G0 := below_on G0 hb
  replace D1 := D1.on hb
  replace D2 := D2.on hb
  clear hb
  refine hK.out _ _ (HX.out _ F) (fun hHeld => ?_)
  clear hK K
  try simp only [Act.put, zA, zB, zC]
  refine wpAnyH_ready (rs := [21]) (by kernel_rfl) (by simp) (.cons rfl (fun K hK => ?_) .nil)
  go_simp
  refine (dat_of (itP x.b x.xs) (bitP_err HX64.out) _ _ hpt.new_itV).mono ?_
  rintro e wz ⟨a3, c3, rfl, hc3, hl3, hd3, hb⟩
  have D3 := DatN.of hd3 G0.size
  replace F := below_on F hb
  replace G0 := below_on G0 hb
  replace D1 := D1.on hb
  replace D2 := D2.on hb
  clear hb
  clear hd3
  refine hK.out _ _ (HX.out _ F) (fun hHeld => ?_)
  clear hK K
  try simp only [Act.put, zA, zB, zC]
  refine takeL 22 (v := ?_) ?_ ‹_› ?_
  rotate_left
  ·intro w hSw; (try dsimp only at hSw); go_simp; all_goals with_reducible rfl
  simp only [Act.put, zA, zB, zC]
  refine wpAnyH_ready (rs := [23]) (by kernel_rfl) (by simp) (.cons rfl (fun K hK => ?_) .nil)
  go_simp
  have F9 : Below W.heap.size W (wz.alloc (.cells #[.int .u64 7, .int .u64 0, .int .i64 0, .slice a1 (dataO (itU x.g)).length c1, .int .u64 10, .int .u64 0, .int .i64 0, .slice a2 (dataO (itLs [itU x.l, itU x.c])).length c2, .int .u64 200, .int .u64 0, .int .i64 0, .slice a3 (dataO (itP x.b x.xs)).length c3] 26)) := below_al F _
  refine hK.out _ _ (HX.out _ F9) (fun hHeld => ?_)
  clear hK K
  try simp only [Act.put, zA, zB, zC]
  refine wpAnyH_ready (rs := [24]) (by kernel_rfl) (by simp) (.cons rfl (fun K hK => ?_) .nil)
  obtain ⟨v9, w9, hrun, hls, hb, hs9⟩ := lsB_app (w0 := W) (w := wz) (v := (.slice A1 1 C1)) (l := [⟨6, 0, 0, dataO (itE x.n x.m)⟩]) [⟨⟨7, 0, 0, dataO (itU x.g)⟩, a1, c1⟩, ⟨⟨10, 0, 0, dataO (itLs [itU x.l, itU x.c])⟩, a2, c2⟩, ⟨⟨200, 0, 0, dataO (itP x.b x.xs)⟩, a3, c3⟩] #[.int .u64 7, .int .u64 0, .int .i64 0, .slice a1 (dataO (itU x.g)).length c1, .int .u64 10, .int .u64 0, .int .i64 0, .slice a2 (dataO (itLs [itU x.l, itU x.c])).length c2, .int .u64 200, .int .u64 0, .int .i64 0, .slice a3 (dataO (itP x.b x.xs)).length c3] rfl (hls.on G0.size fun j _ hj => G0.block j hj) F.size (by
   intro y hy
   simp only [List.mem_cons, List.not_mem_nil, or_false] at hy
   rcases hy with rfl | rfl | rfl
   ·exact D1.okB hlw hlo hc1 hl1 _ _ _
   ·exact D2.okB hlw hlo hc2 hl2 _ _ _
   ·exact D3.okB hlw hlo hc3 hl3 _ _ _) (by simp) (show 3 ≤ 1000 from by decide)
  have FE : Below W.heap.size W w9 := F.trans hb
  obtain ⟨g, Cg, xs, rfl, hCg, hmx, hrw⟩ := hls.rowW (by simp) FE
  refine step_runX (by rfl) _ _ _ _ (by rfl) _ _ _ _ (by rfl) (by rfl) hrun ?_
  refine hK.out _ _ (HX.out _ FE) (fun hHeld => ?_)
  clear hK K
  try simp only [Act.put, zA, zB, zC]
  refine takeL 25 (v := ?_) ?_ ‹_› ?_
  rotate_left
  ·intro w hSw; (try dsimp only at hSw); go_simp; all_goals with_reducible rfl
  simp only [Act.put, zA, zB, zC]
  clear hHeld
  refine wpAnyH_done (by kernel_rfl) ?_ _
  obtain ⟨l9, hl9⟩ : ∃ l, l = ([⟨6, 0, 0, dataO (itE x.n x.m)⟩] ++ tailU x) := ⟨_, rfl⟩
  have hm9 : xs.map LB.b = l9 := by rw [hl9]; exact hmx
  have hln : xs.length = l9.length := by rw [← hm9, List.length_map]
  have hl4 : xs.length ≤ 4 := by rw [hln, hl9]; simp [tailU]
  have HL9 := h_ hl9
  have HLn := h_ hln
  have HNI : Hid (NumI W g Cg k l9 0 w9) := ⟨xs, hln, hrw, by rw [hm9]; exact numbd_zero k l9⟩
  have HCg := h_ hCg
  clear hCg hmx hrw hm9 hl9 hls hrun hb hs9 D1 D2 D3 FE F9 G0 F hlo hlw hc1 hc2 hc3 hl1 hl2 hl3 hpt hit hwl hwc hln
  obtain ⟨N, hN⟩ : ∃ N, N = xs.length := ⟨_, rfl⟩
  rw [← hN] at hl4 HLn HCg ⊢
  clear hN xs
  go_wp2_with fail
  go_loopw [6] (fun i wr => ∃ j : Nat, i = .int .i64 j ∧ j ≤ N ∧ Hid (NumI W g Cg k l9 j wr)) (fun i _ => N - (intOf i).toNat)
  case atStart => exact ⟨0, rfl, Nat.zero_le _, HNI⟩
  case round =>
   obtain ⟨j, rfl, hj, HI⟩ := hrel
   by_cases hlt : j < N
   ·have hlti : (j : Int) < (N : Int) := by omega
    obtain ⟨xs, hxl, hrw, hnb⟩ := HI.out
    obtain ⟨y, hy⟩ : ∃ y, xs[j]? = some y := ⟨_, List.getElem?_eq_getElem (by have := HLn.out; omega)⟩
    obtain ⟨y0, y1, y2, y3⟩ := hrw.cell hy
    have f1 := hrw.row.2 (j * 4 + 1)
    have f2 := hrw.row.2 (j * 4 + 2)
    have hw3 : IntKind.i64.wrap ((j : Int) + 2) = (j : Int) + 2 := by simp [IntKind.wrap, IntKind.bits, IntKind.signed]; omega
    have hw4 : IntKind.u64.wrap ((j : Int) + 2) = (j : Int) + 2 := by simp [IntKind.wrap, IntKind.bits, IntKind.signed]; omega
    have h1 := hrw.put_n hy (j + 2)
    have h2 := h1.put_s (j := j) (x := ⟨⟨y.b.t, j + 2, y.b.s, y.b.d⟩, y.a, y.c⟩) (by rw [List.getElem?_set]; have := (List.getElem?_eq_some_iff.1 hy).1; simp [this]) k
    rw [List.set_set] at h2
    have h3 := numbd_step hnb hy ⟨⟨y.b.t, j + 2, k, y.b.d⟩, y.a, y.c⟩ rfl
    have HN2 : Hid (NumI W g Cg k l9 (j + 1) ((wr.setCell ⟨g, j * 4 + 1, none⟩ (.int .u64 ((j + 2 : Nat) : Int))).setCell ⟨g, j * 4 + 2, none⟩ (.int .i64 k))) := ⟨_, by rw [List.length_set]; exact hxl, h2, h3⟩
    have e2 : ((j + 2 : Nat) : Int) = (j : Int) + 2 := by omega
    rw [e2] at HN2
    obtain ⟨_, _, q2, _⟩ := h1.cell (j := j) (x := ⟨⟨y.b.t, j + 2, y.b.s, y.b.d⟩, y.a, y.c⟩) (by rw [List.getElem?_set]; have := (List.getElem?_eq_some_iff.1 hy).1; simp [this])
    have g2 := h1.row.2 (j * 4 + 2)
    rw [e2] at q2 g2
    obtain ⟨w8, hw8⟩ : ∃ V, V = wr.setCell ⟨g, j * 4 + 1, none⟩ (.int .u64 ((j : Int) + 2)) := ⟨_, rfl⟩
    rw [← hw8] at q2 g2 HN2
    have HW8 := h_ hw8
    clear hxl hrw hnb hy h1 h2 h3 y0 y2 y3 e2 f2 hw8
    go_upto_region 9 with fail
    rw [← HW8.out]
    clear y1 f1
    go_wp2_with fail
    go_roundw
    case rel => exact ⟨j + 1, by go_num, by omega, by simpa using HN2⟩
    case measure => simp [intOf]; omega
   ·obtain rfl : j = N := by omega
    have hlti : ¬ (j : Int) < (j : Int) := by omega
    obtain ⟨xs, hxl, hrw, hnb⟩ := HI.out
    have hfin : xs.map LB.b = listB x k := listB_yes HQ.out.symm (by rw [HLn.out, HL9.out] at hnb; exact hnb)
    have HFin : Hid (ExtB w (listB x k) (.returned (.slice (some ⟨g, 0, none⟩) j Cg)) wr) := ⟨below_on HB0.out hrw.bel, _, Cg, xs, by rw [hxl, HLn.out], by rw [hxl, ← HLn.out]; exact HCg.out, hfin, hrw.rd⟩
    clear hxl hrw hnb hfin
    go_wp2_with fail
    go_ret
    exact HFin.out
 ·have F0 : Below W.heap.size W w1 := HB1.out
  obtain ⟨x0, x1, x2, x3, x4, x5, x6⟩ := HX.out w1 F0
  go_upto_region 4 with fail
  have hlo : ∀ j, Value.ownBlock (.slice none 0 0) = some j → j < w1.heap.size := fun j h => ((LsB.nil W w1).own j h).2
  have F : Below W.heap.size W w1.drew := F0.drew
  have G0 : Below w1.heap.size w1 w1.drew := bR.drew
  have hlw : W.heap.size ≤ w1.heap.size := F0.size
  refine wp_region_held_drew (S := fun w' => w'.cell? ⟨w.heap.size, 0, none⟩ = some (.int .u32 x.n) ∧ w'.cell? ⟨w.heap.size, 1, none⟩ = some (.int .u32 x.m) ∧ w'.cell? ⟨w.heap.size, 2, none⟩ = some (.int .u64 x.g) ∧ w'.cell? ⟨w.heap.size, 3, none⟩ = some (.int .u8 x.l) ∧ w'.cell? ⟨w.heap.size, 4, none⟩ = some (.int .u8 x.c) ∧ w'.cell? ⟨w.heap.size, 5, none⟩ = some (.bool x.b) ∧ w'.cell? ⟨w.heap.size, 6, none⟩ = some (.slice A x.xs.length C)) (by kernel_rfl) (HX.out _ F) (fun hHeld => ?_)
  refine takeL 0 (v := ?_) ?_ ‹_› ?_
  rotate_left
  ·intro w hSw; (try dsimp only at hSw); go_simp; all_goals with_reducible rfl
  simp only [Act.put, zA, zB, zC]
  refine takeL 1 (v := ?_) ?_ ‹_› ?_
  rotate_left
  ·intro w hSw; (try dsimp only at hSw); go_simp; all_goals with_reducible rfl
  simp only [Act.put, zA, zB, zC]
  refine takeL 2 (v := ?_) ?_ ‹_› ?_
  rotate_left
  ·intro w hSw; (try dsimp only at hSw); go_simp; all_goals with_reducible rfl
  simp only [Act.put, zA, zB, zC]
  refine takeL 6 (v := ?_) ?_ ‹_› ?_
  rotate_left
  ·intro w hSw; (try dsimp only at hSw); go_simp; all_goals with_reducible rfl
  simp only [Act.put, zA, zB, zC]
  refine takeL 7 (v := ?_) ?_ ‹_› ?_
  rotate_left
  ·intro w hSw; (try dsimp only at hSw); go_simp; all_goals with_reducible rfl
  simp only [Act.put, zA, zB, zC]
  refine takeL 8 (v := ?_) ?_ ‹_› ?_
  rotate_left
  ·intro w hSw; (try dsimp only at hSw); go_simp; all_goals with_reducible rfl
  simp only [Act.put, zA, zB, zC]
  refine takeL 10 (v := ?_) ?_ ‹_› ?_
  rotate_left
  ·intro w hSw; (try dsimp only at hSw); go_simp; all_goals with_reducible rfl
  simp only [Act.put, zA, zB, zC]
  refine takeL 11 (v := ?_) ?_ ‹_› ?_
  rotate_left
  ·intro w hSw; (try dsimp only at hSw); go_simp; all_goals with_reducible rfl
  simp only [Act.put, zA, zB, zC]
  refine takeL 12 (v := ?_) ?_ ‹_› ?_
  rotate_left
  ·intro w hSw; (try dsimp only at hSw); go_simp; all_goals with_reducible rfl
  simp only [Act.put, zA, zB, zC]
  refine takeL 18 (v := ?_) ?_ ‹_› ?_
  rotate_left
  ·intro w hSw; (try dsimp only at hSw); go_simp; all_goals with_reducible rfl
  simp only [Act.put, zA, zB, zC]
  refine takeL 19 (v := ?_) ?_ ‹_› ?_
  rotate_left
  ·intro w hSw; (try dsimp only at hSw); go_simp; all_goals with_reducible rfl
  simp only [Act.put, zA, zB, zC]
  refine wpAnyH_ready (rs := [3]) (by kernel_rfl) (by simp) (.cons rfl (fun K hK => ?_) .nil)
  go_simp
  refine (refUint_any _ _).mono ?_
  rintro e wu0 ⟨rfl, hb⟩
  replace F := below_on F hb
  replace G0 := below_on G0 hb
  clear hb
  refine hK.out _ _ (HX.out _ F) (fun hHeld => ?_)
  clear hK K
  try simp only [Act.put, zA, zB, zC]
  refine wpAnyH_ready (rs := [4]) (by kernel_rfl) (by simp) (.cons rfl (fun K hK => ?_) .nil)
  go_simp
  refine (dat_of (itU x.g) (bitU_err x.g) _ _ (ItS.itV (S := fun _ => False) (fun _ h => h.elim) _ (itS_uint _ _ x.g ⟨by omega, by have := HF.out.g; omega⟩))).mono ?_
  rintro e wz ⟨a1, c1, rfl, hc1, hl1, hd1, hb⟩
  have D1 := DatN.of hd1 G0.size
  replace F := below_on F hb
  replace G0 := below_on G0 hb
  clear hb
  clear hd1
  refine hK.out _ _ (HX.out _ F) (fun hHeld => ?_)
  clear hK K
  try simp only [Act.put, zA, zB, zC]
  refine takeL 5 (v := ?_) ?_ ‹_› ?_
  rotate_left
  ·intro w hSw; (try dsimp only at hSw); go_simp; all_goals with_reducible rfl
  simp only [Act.put, zA, zB, zC]
  refine wpAnyH_ready (rs := [9]) (by kernel_rfl) (by simp) (.cons rfl (fun K hK => ?_) .nil)
  go_simp
  refine (refUint_any _ _).mono ?_
  rintro e wu1 ⟨rfl, hb⟩
  replace F := below_on F hb
  replace G0 := below_on G0 hb
  replace D1 := D1.on hb
  clear hb
  refine hK.out _ _ (HX.out _ F) (fun hHeld => ?_)
  clear hK K
  try simp only [Act.put, zA, zB, zC]
  refine wpAnyH_ready (rs := [13]) (by kernel_rfl) (by simp) (.cons rfl (fun K hK => ?_) .nil)
  go_simp
  refine (refUint_any _ _).mono ?_
  rintro e wu2 ⟨rfl, hb⟩
  replace F := below_on F hb
  replace G0 := below_on G0 hb
  replace D1 := D1.on hb
  clear hb
  refine hK.out _ _ (HX.out _ F) (fun hHeld => ?_)
  clear hK K
  try simp only [Act.put, zA, zB, zC]
  refine wpAnyH_ready (rs := [14]) (by kernel_rfl) (by simp) (.cons rfl (fun K hK => ?_) .nil)
  go_simp
  have hit := two_items x.l x.c wu2 HF.out.l HF.out.c
  obtain ⟨wv, hwv⟩ : ∃ V, V = wu2.alloc (.cells #[.int .i64 1, .int .u64 x.l, .slice none 0 0, .string ⟨#[]⟩, .slice none 0 0, .int .i64 1, .int .u64 x.c, .slice none 0 0, .string ⟨#[]⟩, .slice none 0 0] 83) := ⟨_, rfl⟩
  have hb : Below wu2.heap.size wu2 wv := by rw [hwv]; exact below_al bR _
  rw [← hwv] at hit ⊢
  clear hwv
  replace F := below_on F hb
  replace G0 := below_on G0 hb
  replace D1 := D1.on hb
  clear hb
  refine hK.out _ _ (HX.out _ F) (fun hHeld => ?_)
  clear hK K
  try simp only [Act.put, zA, zB, zC]
  refine wpAnyH_ready (rs := [15]) (by kernel_rfl) (by simp) (.cons rfl (fun K hK => ?_) .nil)
  go_simp
  refine (refList_any _ _ _ _).mono ?_
  rintro e wl ⟨rfl, hb⟩
  replace hit := hit.on hb
  replace F := below_on F hb
  replace G0 := below_on G0 hb
  replace D1 := D1.on hb
  clear hb
  refine hK.out _ _ (HX.out _ F) (fun hHeld => ?_)
  clear hK K
  try simp only [Act.put, zA, zB, zC]
  refine wpAnyH_ready (rs := [16]) (by kernel_rfl) (by simp) (.cons rfl (fun K hK => ?_) .nil)
  go_simp
  refine (dat_of (itLs [itU x.l, itU x.c]) (bitH_err x.l x.c) _ _ hit).mono ?_
  rintro e wz ⟨a2, c2, rfl, hc2, hl2, hd2, hb⟩
  have D2 := DatN.of hd2 G0.size
  replace F := below_on F hb
  replace G0 := below_on G0 hb
  replace D1 := D1.on hb
  clear hb
  clear hd2
  refine hK.out _ _ (HX.out _ F) (fun hHeld => ?_)
  clear hK K
  try simp only [Act.put, zA, zB, zC]
  refine takeL 17 (v := ?_) ?_ ‹_› ?_
  rotate_left
  ·intro w hSw; (try dsimp only at hSw); go_simp; all_goals with_reducible rfl
  simp only [Act.put, zA, zB, zC]
  refine wpAnyH_ready (rs := [20]) (by kernel_rfl) (by simp) (.cons rfl (fun K hK => ?_) .nil)
  go_simp
  refine (refPItem_any x.b A C x.xs _ (by have := HX64.out; omega) (HRX.out _ F)).mono ?_
  rintro e wp ⟨hb, pv, rfl, hpt⟩
  replace F := below_on F hb
  replace G0 := below_on G0 hb
  replace D1 := D1.on hb
  replace D2 := D2.on hb
  clear hb
  refine hK.out _ _ (HX.out _ F) (fun hHeld => ?_)
  clear hK K
  try simp only [Act.put, zA, zB, zC]
  refine wpAnyH_ready (rs := [21]) (by kernel_rfl) (by simp) (.cons rfl (fun K hK => ?_) .nil)
  go_simp
  refine (dat_of (itP x.b x.xs) (bitP_err HX64.out) _ _ hpt.new_itV).mono ?_
  rintro e wz ⟨a3, c3, rfl, hc3, hl3, hd3, hb⟩
  have D3 := DatN.of hd3 G0.size
  replace F := below_on F hb
  replace G0 := below_on G0 hb
  replace D1 := D1.on hb
  replace D2 := D2.on hb
  clear hb
  clear hd3
  refine hK.out _ _ (HX.out _ F) (fun hHeld => ?_)
  clear hK K
  try simp only [Act.put, zA, zB, zC]
  refine takeL 22 (v := ?_) ?_ ‹_› ?_
  rotate_left
  ·intro w hSw; (try dsimp only at hSw); go_simp; all_goals with_reducible rfl
  simp only [Act.put, zA, zB, zC]
  refine wpAnyH_ready (rs := [23]) (by kernel_rfl) (by simp) (.cons rfl (fun K hK => ?_) .nil)
  go_simp
  have F9 : Below W.heap.size W (wz.alloc (.cells #[.int .u64 7, .int .u64 0, .int .i64 0, .slice a1 (dataO (itU x.g)).length c1, .int .u64 10, .int .u64 0, .int .i64 0, .slice a2 (dataO (itLs [itU x.l, itU x.c])).length c2, .int .u64 200, .int .u64 0, .int .i64 0, .slice a3 (dataO (itP x.b x.xs)).length c3] 26)) := below_al F _
  refine hK.out _ _ (HX.out _ F9) (fun hHeld => ?_)
  clear hK K
  try simp only [Act.put, zA, zB, zC]
  refine wpAnyH_ready (rs := [24]) (by kernel_rfl) (by simp) (.cons rfl (fun K hK => ?_) .nil)
  obtain ⟨v9, w9, hrun, hls, hb, hs9⟩ := lsB_app (w0 := W) (w := wz) (v := (.slice none 0 0)) (l := ([] : List Bl)) [⟨⟨7, 0, 0, dataO (itU x.g)⟩, a1, c1⟩, ⟨⟨10, 0, 0, dataO (itLs [itU x.l, itU x.c])⟩, a2, c2⟩, ⟨⟨200, 0, 0, dataO (itP x.b x.xs)⟩, a3, c3⟩] #[.int .u64 7, .int .u64 0, .int .i64 0, .slice a1 (dataO (itU x.g)).length c1, .int .u64 10, .int .u64 0, .int .i64 0, .slice a2 (dataO (itLs [itU x.l, itU x.c])).length c2, .int .u64 200, .int .u64 0, .int .i64 0, .slice a3 (dataO (itP x.b x.xs)).length c3] rfl ((LsB.nil W w1).on G0.size fun j _ hj => G0.block j hj) F.size (by
   intro y hy
   simp only [List.mem_cons, List.not_mem_nil, or_false] at hy
   rcases hy with rfl | rfl | rfl
   ·exact D1.okB hlw hlo hc1 hl1 _ _ _
   ·exact D2.okB hlw hlo hc2 hl2 _ _ _
   ·exact D3.okB hlw hlo hc3 hl3 _ _ _) (by simp) (show 3 ≤ 1000 from by decide)
  have FE : Below W.heap.size W w9 := F.trans hb
  obtain ⟨g, Cg, xs, rfl, hCg, hmx, hrw⟩ := hls.rowW (by simp) FE
  refine step_runX (by rfl) _ _ _ _ (by rfl) _ _ _ _ (by rfl) (by rfl) hrun ?_
  refine hK.out _ _ (HX.out _ FE) (fun hHeld => ?_)
  clear hK K
  try simp only [Act.put, zA, zB, zC]
  refine takeL 25 (v := ?_) ?_ ‹_› ?_
  rotate_left
  ·intro w hSw; (try dsimp only at hSw); go_simp; all_goals with_reducible rfl
  simp only [Act.put, zA, zB, zC]
  clear hHeld
  refine wpAnyH_done (by kernel_rfl) ?_ _
  obtain ⟨l9, hl9⟩ : ∃ l, l = (([] : List Bl) ++ tailU x) := ⟨_, rfl⟩
  have hm9 : xs.map LB.b = l9 := by rw [hl9]; exact hmx
  have hln : xs.length = l9.length := by rw [← hm9, List.length_map]
  have hl4 : xs.length ≤ 4 := by rw [hln, hl9]; simp [tailU]
  have HL9 := h_ hl9
  have HLn := h_ hln
  have HNI : Hid (NumI W g Cg k l9 0 w9) := ⟨xs, hln, hrw, by rw [hm9]; exact numbd_zero k l9⟩
  have HCg := h_ hCg
  clear hCg hmx hrw hm9 hl9 hls hrun hb hs9 D1 D2 D3 FE F9 G0 F hlo hlw hc1 hc2 hc3 hl1 hl2 hl3 hpt hit hwl hwc hln
  obtain ⟨N, hN⟩ : ∃ N, N = xs.length := ⟨_, rfl⟩
  rw [← hN] at hl4 HLn HCg ⊢
  clear hN xs
  go_wp2_with fail
  go_loopw [6] (fun i wr => ∃ j : Nat, i = .int .i64 j ∧ j ≤ N ∧ Hid (NumI W g Cg k l9 j wr)) (fun i _ => N - (intOf i).toNat)
  case atStart => exact ⟨0, rfl, Nat.zero_le _, HNI⟩
  case round =>
   obtain ⟨j, rfl, hj, HI⟩ := hrel
   by_cases hlt : j < N
   ·have hlti : (j : Int) < (N : Int) := by omega
    obtain ⟨xs, hxl, hrw, hnb⟩ := HI.out
    obtain ⟨y, hy⟩ : ∃ y, xs[j]? = some y := ⟨_, List.getElem?_eq_getElem (by have := HLn.out; omega)⟩
    obtain ⟨y0, y1, y2, y3⟩ := hrw.cell hy
    have f1 := hrw.row.2 (j * 4 + 1)
    have f2 := hrw.row.2 (j * 4 + 2)
    have hw3 : IntKind.i64.wrap ((j : Int) + 2) = (j : Int) + 2 := by simp [IntKind.wrap, IntKind.bits, IntKind.signed]; omega
    have hw4 : IntKind.u64.wrap ((j : Int) + 2) = (j : Int) + 2 := by simp [IntKind.wrap, IntKind.bits, IntKind.signed]; omega
    have h1 := hrw.put_n hy (j + 2)
    have h2 := h1.put_s (j := j) (x := ⟨⟨y.b.t, j + 2, y.b.s, y.b.d⟩, y.a, y.c⟩) (by rw [List.getElem?_set]; have := (List.getElem?_eq_some_iff.1 hy).1; simp [this]) k
    rw [List.set_set] at h2
    have h3 := numbd_step hnb hy ⟨⟨y.b.t, j + 2, k, y.b.d⟩, y.a, y.c⟩ rfl
    have HN2 : Hid (NumI W g Cg k l9 (j + 1) ((wr.setCell ⟨g, j * 4 + 1, none⟩ (.int .u64 ((j + 2 : Nat) : Int))).setCell ⟨g, j * 4 + 2, none⟩ (.int .i64 k))) := ⟨_, by rw [List.length_set]; exact hxl, h2, h3⟩
    have e2 : ((j + 2 : Nat) : Int) = (j : Int) + 2 := by omega
    rw [e2] at HN2
    obtain ⟨_, _, q2, _⟩ := h1.cell (j := j) (x := ⟨⟨y.b.t, j + 2, y.b.s, y.b.d⟩, y.a, y.c⟩) (by rw [List.getElem?_set]; have := (List.getElem?_eq_some_iff.1 hy).1; simp [this])
    have g2 := h1.row.2 (j * 4 + 2)
    rw [e2] at q2 g2
    obtain ⟨w8, hw8⟩ : ∃ V, V = wr.setCell ⟨g, j * 4 + 1, none⟩ (.int .u64 ((j : Int) + 2)) := ⟨_, rfl⟩
    rw [← hw8] at q2 g2 HN2
    have HW8 := h_ hw8
    clear hxl hrw hnb hy h1 h2 h3 y0 y2 y3 e2 f2 hw8
    go_upto_region 9 with fail
    rw [← HW8.out]
    clear y1 f1
    go_wp2_with fail
    go_roundw
    case rel => exact ⟨j + 1, by go_num, by omega, by simpa using HN2⟩
    case measure => simp [intOf]; omega
   ·obtain rfl : j = N := by omega
    have hlti : ¬ (j : Int) < (j : Int) := by omega
    obtain ⟨xs, hxl, hrw, hnb⟩ := HI.out
    have hfin : xs.map LB.b = listB x k := listB_no HQ.out.symm (by rw [HLn.out, HL9.out] at hnb; exact hnb)
    have HFin : Hid (ExtB w (listB x k) (.returned (.slice (some ⟨g, 0, none⟩) j Cg)) wr) := ⟨below_on HB0.out hrw.bel, _, Cg, xs, by rw [hxl, HLn.out], by rw [hxl, ← HLn.out]; exact HCg.out, hfin, hrw.rd⟩
    clear hxl hrw hnb hfin
    go_wp2_with fail
    go_ret
    exact HFin.out

end Go.Proofs.YtiahakbkagipkaaGreatDoor
