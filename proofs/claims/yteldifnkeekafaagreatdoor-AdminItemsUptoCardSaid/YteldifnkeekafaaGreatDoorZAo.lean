/- Joined texts. -/
import Derived.Test.YteldifnkeekafaaGreatDoorZAx
import Derived.Test.YteldifnkeekafaaGreatDoorZNmN4
import Derived.Test.YteldifnkeekafaaGreatDoorZFr
set_option maxHeartbeats 8000000
set_option linter.unusedSimpArgs false
set_option linter.unusedVariables false
set_option maxRecDepth 100000
namespace Go.Proofs.YteldifnkeekafaaGreatDoor
open Go Go.RowKit Go.Shelf

attribute [local go_sem] Oper.semAt_some

def nAt (x : It) (i : Nat) : Nat := ((x.l[i]?).map (fun y => y.n.toNat)).getD 0
def ksK (j : Nat) : List Int := if j = 0 then [1, 4, 1, 1, 1] else if j = 1 then [1, 1, 1, 1] else if j = 2 then [1, 1, 1, 1, 5, 1] else if j = 3 then [1, 1, 1, 1, 1] else [1, 1, 1, 1, 5]
def nmC (x : It) : (Nat × Nat × Nat × Nat) × Bool := match (x.l[1]?).bind nmI with
 | some p => (p, true)
 | none => ((0, 0, 0, 0), false)
def candR (j : Nat) (x : It) : Rc := if j = 0 then ⟨1, (nmC x).1.1, (nmC x).1.2.1, (nmC x).1.2.2.1, (nmC x).1.2.2.2, ((min (nAt x 2) 9 : Nat) : Int), ((min (nAt x 3) 9 : Nat) : Int), (nAt x 4), 0, 0, 0, false, 0, 0, 0⟩ else if j = 1 then ⟨2, 0, 0, 0, 0, 0, 0, 0, (nAt x 1), ((nAt x 2) % 4294967296), ((nAt x 3) % 4294967296), false, 0, 0, 0⟩ else if j = 2 then ⟨3, 0, 0, 0, 0, 0, 0, 0, (nAt x 1), ((nAt x 2) % 4294967296), ((nAt x 3) % 4294967296), ((nAt x 4) == 1), 0, (nAt x 5), 0⟩ else if j = 3 then ⟨4, 0, 0, 0, 0, 0, 0, 0, 0, ((nAt x 1) % 4294967296), 0, false, (nAt x 2), (nAt x 3), ((nAt x 4) % 256)⟩ else ⟨5, 0, 0, 0, 0, 0, 0, 0, (nAt x 3), ((nAt x 1) % 4294967296), ((nAt x 2) % 4294967296), ((nAt x 4) == 1), 0, 0, 0⟩
def fineR (j : Nat) (x : It) : Bool := if j = 0 then (nmC x).2 else true
def kdI (x : It) : Nat := match x.l with
 | y :: _ => if y.k = 1 then y.n.toNat else 0
 | [] => 0
def goodR (j : Nat) (x : It) : Bool := shapeB x (ksK j) && (fineR j x && (rightR (candR j x) && x.same (layR (j + 1) (candR j x))))
def ofR (x : It) : Option Rc := if x.k = 4 ∧ 1 ≤ kdI x ∧ kdI x ≤ 5 then (if goodR (kdI x - 1) x = true then some (candR (kdI x - 1) x) else none) else none
def rc0 : Rc := ⟨0, 0, 0, 0, 0, 0, 0, 0, 0, 0, 0, false, 0, 0, 0⟩
def OfP (w : World) (x : It) (e : Ending) (w' : World) : Prop := Below w.heap.size w w' ∧ ((∃ q, ofR x = some q ∧ e = .returned (.tuple #[.agg #[.int .i64 q.k, .int .u32 q.n, .int .u32 q.m, .int .u64 q.t, .int .u32 q.q, .int .i64 q.wh, .int .i64 q.wy, .int .u64 q.at0, .int .u64 q.no, .int .u32 q.nd, .int .u32 q.rg, .bool q.ys, .int .u64 q.fr, .int .u64 q.un, .int .u8 q.lv], .bool true])) ∨ (ofR x = none ∧ e = .returned (.tuple #[.agg #[.int .i64 0, .int .u32 0, .int .u32 0, .int .u64 0, .int .u32 0, .int .i64 0, .int .i64 0, .int .u64 0, .int .u64 0, .int .u32 0, .int .u32 0, .bool false, .int .u64 0, .int .u64 0, .int .u8 0], .bool false])))

theorem of_f1 (x : It) (a A : Option Addr) (c C : Nat) (hk : x.k ≠ 4) (w : World) (hv : ItV w w.heap.size (.agg #[.int .i64 x.k, .int .u64 x.n, .slice a x.b.length c, .string ⟨x.s.toArray⟩, .slice A x.l.length C]) x) : Calls Tryz.prog 15 #[.agg #[.int .i64 x.k, .int .u64 x.n, .slice a x.b.length c, .string ⟨x.s.toArray⟩, .slice A x.l.length C]] w (OfP w x) := by
 obtain ⟨W, hW⟩ : ∃ W, W = (w.alloc (.cells #[.int .i64 x.k, .int .u64 x.n, .slice a x.b.length c, .string ⟨x.s.toArray⟩, .slice A x.l.length C] 45)).alloc (.cells #[.int .i64 0, .int .u32 0, .int .u32 0, .int .u64 0, .int .u32 0, .int .i64 0, .int .i64 0, .int .u64 0, .int .u64 0, .int .u32 0, .int .u32 0, .bool false, .int .u64 0, .int .u64 0, .int .u8 0] 32) := ⟨_, rfl⟩
 have hb : Below w.heap.size w W := by rw [hW]; exact below_al (below_al bR _) _
 have HRz : Hid (RowB W (w.heap.size + 1) [.int .i64 0, .int .u32 0, .int .u32 0, .int .u64 0, .int .u32 0, .int .i64 0, .int .i64 0, .int .u64 0, .int .u64 0, .int .u32 0, .int .u32 0, .bool false, .int .u64 0, .int .u64 0, .int .u8 0]) := by
  rw [hW]
  have h := RowB.new (w.alloc (.cells #[.int .i64 x.k, .int .u64 x.n, .slice a x.b.length c, .string ⟨x.s.toArray⟩, .slice A x.l.length C] 45)) [.int .i64 0, .int .u32 0, .int .u32 0, .int .u64 0, .int .u32 0, .int .i64 0, .int .i64 0, .int .u64 0, .int .u64 0, .int .u32 0, .int .u32 0, .bool false, .int .u64 0, .int .u64 0, .int .u8 0] 32
  rw [World.size_alloc] at h
  exact h
 have hx : W.cell? ⟨w.heap.size, 0, none⟩ = some (.int .i64 x.k) ∧ W.cell? ⟨w.heap.size, 1, none⟩ = some (.int .u64 x.n) ∧ W.cell? ⟨w.heap.size, 2, none⟩ = some (.slice a x.b.length c) ∧ W.cell? ⟨w.heap.size, 3, none⟩ = some (.string ⟨x.s.toArray⟩) ∧ W.cell? ⟨w.heap.size, 4, none⟩ = some (.slice A x.l.length C) := by
  rw [hW]
  have h1 := below_al (Below.refl _ (w.alloc (.cells #[.int .i64 x.k, .int .u64 x.n, .slice a x.b.length c, .string ⟨x.s.toArray⟩, .slice A x.l.length C] 45))) (.cells #[.int .i64 0, .int .u32 0, .int .u32 0, .int .u64 0, .int .u32 0, .int .i64 0, .int .i64 0, .int .u64 0, .int .u64 0, .int .u32 0, .int .u32 0, .bool false, .int .u64 0, .int .u64 0, .int .u8 0] 32)
  exact ⟨box_at h1 0, box_at h1 1, box_at h1 2, box_at h1 3, box_at h1 4⟩
 have HB0 := h_ hb
 have HW := h_ hW
 obtain ⟨x0, x1, x2, x3, x4⟩ := hx
 have d1 : (x.k != 4) = true := by simpa using hk
 have HN : Hid (ofR x = none) := by rw [Hid, ofR, if_neg (fun h => hk h.1)]
 clear hk
 rw [HW.out] at x0 x1 x2 x3 x4
 clear hW hb hv
 go_enter Tryz.func15, Tryz.ntmps15
 go_upto_region 2 with fail
 rw [← HW.out]
 obtain ⟨r0, r1, r2, r3, r4, r5, r6, r7, r8, r9, r10, r11, r12, r13, r14⟩ := r15 HRz.out
 obtain ⟨f0, f1, f2, f3, f4, f5, f6, f7, f8, f9, f10, f11, f12, f13, f14⟩ := f15 HRz.out
 go_wp2_with fail
 change bodyPost _ _ _ _ _ (putL W (w.heap.size + 1) 0 [.int .i64 0, .int .u32 0, .int .u32 0, .int .u64 0, .int .u32 0, .int .i64 0, .int .i64 0, .int .u64 0, .int .u64 0, .int .u32 0, .int .u32 0, .bool false, .int .u64 0, .int .u64 0, .int .u8 0])
 have hrow : RowB (putL W (w.heap.size + 1) 0 [.int .i64 0, .int .u32 0, .int .u32 0, .int .u64 0, .int .u32 0, .int .i64 0, .int .i64 0, .int .u64 0, .int .u64 0, .int .u32 0, .int .u32 0, .bool false, .int .u64 0, .int .u64 0, .int .u8 0]) (w.heap.size + 1) [.int .i64 0, .int .u32 0, .int .u32 0, .int .u64 0, .int .u32 0, .int .i64 0, .int .i64 0, .int .u64 0, .int .u64 0, .int .u32 0, .int .u32 0, .bool false, .int .u64 0, .int .u64 0, .int .u8 0] := putL_row _ _ 0 _ HRz.out
 have hbk : Below w.heap.size w (putL W (w.heap.size + 1) 0 [.int .i64 0, .int .u32 0, .int .u32 0, .int .u64 0, .int .u32 0, .int .i64 0, .int .i64 0, .int .u64 0, .int .u64 0, .int .u32 0, .int .u32 0, .bool false, .int .u64 0, .int .u64 0, .int .u8 0]) := putL_bel (Nat.le_succ _) _ 0 _ HB0.out
 generalize putL W (w.heap.size + 1) 0 [.int .i64 0, .int .u32 0, .int .u32 0, .int .u64 0, .int .u32 0, .int .i64 0, .int .i64 0, .int .u64 0, .int .u64 0, .int .u32 0, .int .u32 0, .bool false, .int .u64 0, .int .u64 0, .int .u8 0] = w30 at *
 obtain ⟨k0, k1, k2, k3, k4, k5, k6, k7, k8, k9, k10, k11, k12, k13, k14⟩ := r15 hrow
 exact bodyPost_ret (v := .tuple #[.agg #[.int .i64 0, .int .u32 0, .int .u32 0, .int .u64 0, .int .u32 0, .int .i64 0, .int .i64 0, .int .u64 0, .int .u64 0, .int .u32 0, .int .u32 0, .bool false, .int .u64 0, .int .u64 0, .int .u8 0], .bool false]) (by simp [results, Tryz.results15, go_sem, k0, k1, k2, k3, k4, k5, k6, k7, k8, k9, k10, k11, k12, k13, k14]) rfl ⟨hbk, .inr ⟨HN.out, rfl⟩⟩

theorem of_f2 (x : It) (a A : Option Addr) (c C : Nat) (hk : x.k = 4) (hl : x.l = []) (w : World) (hv : ItV w w.heap.size (.agg #[.int .i64 x.k, .int .u64 x.n, .slice a x.b.length c, .string ⟨x.s.toArray⟩, .slice A x.l.length C]) x) : Calls Tryz.prog 15 #[.agg #[.int .i64 x.k, .int .u64 x.n, .slice a x.b.length c, .string ⟨x.s.toArray⟩, .slice A x.l.length C]] w (OfP w x) := by
 obtain ⟨W, hW⟩ : ∃ W, W = (w.alloc (.cells #[.int .i64 x.k, .int .u64 x.n, .slice a x.b.length c, .string ⟨x.s.toArray⟩, .slice A x.l.length C] 45)).alloc (.cells #[.int .i64 0, .int .u32 0, .int .u32 0, .int .u64 0, .int .u32 0, .int .i64 0, .int .i64 0, .int .u64 0, .int .u64 0, .int .u32 0, .int .u32 0, .bool false, .int .u64 0, .int .u64 0, .int .u8 0] 32) := ⟨_, rfl⟩
 have hb : Below w.heap.size w W := by rw [hW]; exact below_al (below_al bR _) _
 have HRz : Hid (RowB W (w.heap.size + 1) [.int .i64 0, .int .u32 0, .int .u32 0, .int .u64 0, .int .u32 0, .int .i64 0, .int .i64 0, .int .u64 0, .int .u64 0, .int .u32 0, .int .u32 0, .bool false, .int .u64 0, .int .u64 0, .int .u8 0]) := by
  rw [hW]
  have h := RowB.new (w.alloc (.cells #[.int .i64 x.k, .int .u64 x.n, .slice a x.b.length c, .string ⟨x.s.toArray⟩, .slice A x.l.length C] 45)) [.int .i64 0, .int .u32 0, .int .u32 0, .int .u64 0, .int .u32 0, .int .i64 0, .int .i64 0, .int .u64 0, .int .u64 0, .int .u32 0, .int .u32 0, .bool false, .int .u64 0, .int .u64 0, .int .u8 0] 32
  rw [World.size_alloc] at h
  exact h
 have hx : W.cell? ⟨w.heap.size, 0, none⟩ = some (.int .i64 x.k) ∧ W.cell? ⟨w.heap.size, 1, none⟩ = some (.int .u64 x.n) ∧ W.cell? ⟨w.heap.size, 2, none⟩ = some (.slice a x.b.length c) ∧ W.cell? ⟨w.heap.size, 3, none⟩ = some (.string ⟨x.s.toArray⟩) ∧ W.cell? ⟨w.heap.size, 4, none⟩ = some (.slice A x.l.length C) := by
  rw [hW]
  have h1 := below_al (Below.refl _ (w.alloc (.cells #[.int .i64 x.k, .int .u64 x.n, .slice a x.b.length c, .string ⟨x.s.toArray⟩, .slice A x.l.length C] 45))) (.cells #[.int .i64 0, .int .u32 0, .int .u32 0, .int .u64 0, .int .u32 0, .int .i64 0, .int .i64 0, .int .u64 0, .int .u64 0, .int .u32 0, .int .u32 0, .bool false, .int .u64 0, .int .u64 0, .int .u8 0] 32)
  exact ⟨box_at h1 0, box_at h1 1, box_at h1 2, box_at h1 3, box_at h1 4⟩
 have HB0 := h_ hb
 have HW := h_ hW
 obtain ⟨x0, x1, x2, x3, x4⟩ := hx
 have d1 : (x.k != 4) = false := by simpa using hk
 have d2 : ((x.l.length : Int) == 0) = true := by rw [hl]; rfl
 have HN : Hid (ofR x = none) := by rw [Hid, ofR, if_neg (fun h => by have h1 := h.2.1; rw [kdI, hl] at h1; exact absurd h1 (by decide))]
 clear hk hl
 rw [HW.out] at x0 x1 x2 x3 x4
 clear hW hb hv
 go_enter Tryz.func15, Tryz.ntmps15
 go_upto_region 2 with fail
 rw [← HW.out]
 obtain ⟨r0, r1, r2, r3, r4, r5, r6, r7, r8, r9, r10, r11, r12, r13, r14⟩ := r15 HRz.out
 obtain ⟨f0, f1, f2, f3, f4, f5, f6, f7, f8, f9, f10, f11, f12, f13, f14⟩ := f15 HRz.out
 go_wp2_with fail
 change bodyPost _ _ _ _ _ (putL W (w.heap.size + 1) 0 [.int .i64 0, .int .u32 0, .int .u32 0, .int .u64 0, .int .u32 0, .int .i64 0, .int .i64 0, .int .u64 0, .int .u64 0, .int .u32 0, .int .u32 0, .bool false, .int .u64 0, .int .u64 0, .int .u8 0])
 have hrow : RowB (putL W (w.heap.size + 1) 0 [.int .i64 0, .int .u32 0, .int .u32 0, .int .u64 0, .int .u32 0, .int .i64 0, .int .i64 0, .int .u64 0, .int .u64 0, .int .u32 0, .int .u32 0, .bool false, .int .u64 0, .int .u64 0, .int .u8 0]) (w.heap.size + 1) [.int .i64 0, .int .u32 0, .int .u32 0, .int .u64 0, .int .u32 0, .int .i64 0, .int .i64 0, .int .u64 0, .int .u64 0, .int .u32 0, .int .u32 0, .bool false, .int .u64 0, .int .u64 0, .int .u8 0] := putL_row _ _ 0 _ HRz.out
 have hbk : Below w.heap.size w (putL W (w.heap.size + 1) 0 [.int .i64 0, .int .u32 0, .int .u32 0, .int .u64 0, .int .u32 0, .int .i64 0, .int .i64 0, .int .u64 0, .int .u64 0, .int .u32 0, .int .u32 0, .bool false, .int .u64 0, .int .u64 0, .int .u8 0]) := putL_bel (Nat.le_succ _) _ 0 _ HB0.out
 generalize putL W (w.heap.size + 1) 0 [.int .i64 0, .int .u32 0, .int .u32 0, .int .u64 0, .int .u32 0, .int .i64 0, .int .i64 0, .int .u64 0, .int .u64 0, .int .u32 0, .int .u32 0, .bool false, .int .u64 0, .int .u64 0, .int .u8 0] = w30 at *
 obtain ⟨k0, k1, k2, k3, k4, k5, k6, k7, k8, k9, k10, k11, k12, k13, k14⟩ := r15 hrow
 exact bodyPost_ret (v := .tuple #[.agg #[.int .i64 0, .int .u32 0, .int .u32 0, .int .u64 0, .int .u32 0, .int .i64 0, .int .i64 0, .int .u64 0, .int .u64 0, .int .u32 0, .int .u32 0, .bool false, .int .u64 0, .int .u64 0, .int .u8 0], .bool false]) (by simp [results, Tryz.results15, go_sem, k0, k1, k2, k3, k4, k5, k6, k7, k8, k9, k10, k11, k12, k13, k14]) rfl ⟨hbk, .inr ⟨HN.out, rfl⟩⟩

theorem of_f3 (x : It) (a A : Option Addr) (c C : Nat) (y : It) (l : List It) (hk : x.k = 4) (hl : x.l = y :: l) (hy : y.k ≠ 1) (w : World) (hv : ItV w w.heap.size (.agg #[.int .i64 x.k, .int .u64 x.n, .slice a x.b.length c, .string ⟨x.s.toArray⟩, .slice A x.l.length C]) x) : Calls Tryz.prog 15 #[.agg #[.int .i64 x.k, .int .u64 x.n, .slice a x.b.length c, .string ⟨x.s.toArray⟩, .slice A x.l.length C]] w (OfP w x) := by
 obtain ⟨W, hW⟩ : ∃ W, W = (w.alloc (.cells #[.int .i64 x.k, .int .u64 x.n, .slice a x.b.length c, .string ⟨x.s.toArray⟩, .slice A x.l.length C] 45)).alloc (.cells #[.int .i64 0, .int .u32 0, .int .u32 0, .int .u64 0, .int .u32 0, .int .i64 0, .int .i64 0, .int .u64 0, .int .u64 0, .int .u32 0, .int .u32 0, .bool false, .int .u64 0, .int .u64 0, .int .u8 0] 32) := ⟨_, rfl⟩
 have hb : Below w.heap.size w W := by rw [hW]; exact below_al (below_al bR _) _
 have HRz : Hid (RowB W (w.heap.size + 1) [.int .i64 0, .int .u32 0, .int .u32 0, .int .u64 0, .int .u32 0, .int .i64 0, .int .i64 0, .int .u64 0, .int .u64 0, .int .u32 0, .int .u32 0, .bool false, .int .u64 0, .int .u64 0, .int .u8 0]) := by
  rw [hW]
  have h := RowB.new (w.alloc (.cells #[.int .i64 x.k, .int .u64 x.n, .slice a x.b.length c, .string ⟨x.s.toArray⟩, .slice A x.l.length C] 45)) [.int .i64 0, .int .u32 0, .int .u32 0, .int .u64 0, .int .u32 0, .int .i64 0, .int .i64 0, .int .u64 0, .int .u64 0, .int .u32 0, .int .u32 0, .bool false, .int .u64 0, .int .u64 0, .int .u8 0] 32
  rw [World.size_alloc] at h
  exact h
 have hx : W.cell? ⟨w.heap.size, 0, none⟩ = some (.int .i64 x.k) ∧ W.cell? ⟨w.heap.size, 1, none⟩ = some (.int .u64 x.n) ∧ W.cell? ⟨w.heap.size, 2, none⟩ = some (.slice a x.b.length c) ∧ W.cell? ⟨w.heap.size, 3, none⟩ = some (.string ⟨x.s.toArray⟩) ∧ W.cell? ⟨w.heap.size, 4, none⟩ = some (.slice A x.l.length C) := by
  rw [hW]
  have h1 := below_al (Below.refl _ (w.alloc (.cells #[.int .i64 x.k, .int .u64 x.n, .slice a x.b.length c, .string ⟨x.s.toArray⟩, .slice A x.l.length C] 45))) (.cells #[.int .i64 0, .int .u32 0, .int .u32 0, .int .u64 0, .int .u32 0, .int .i64 0, .int .i64 0, .int .u64 0, .int .u64 0, .int .u32 0, .int .u32 0, .bool false, .int .u64 0, .int .u64 0, .int .u8 0] 32)
  exact ⟨box_at h1 0, box_at h1 1, box_at h1 2, box_at h1 3, box_at h1 4⟩
 have HB0 := h_ hb
 have HW := h_ hW
 obtain ⟨x0, x1, x2, x3, x4⟩ := hx
 have d1 : (x.k != 4) = false := by simpa using hk
 have d2 : ((x.l.length : Int) == 0) = false := by rw [hl]; simp; omega
 have d9 : 0 < x.l.length := by rw [hl]; simp
 obtain ⟨hC, hlist⟩ := hv.dlist
 obtain ⟨g, o, rfl, hg, hL⟩ := hlist.resolve_left (by rw [hl]; simp)
 obtain ⟨_, _, _, _, hp⟩ := hL.pcells hg (i := 0) (y := y) (by rw [hl]; rfl)
 obtain ⟨c0, c1, _, _, _⟩ := (hp W hb).2
 simp only [Nat.zero_mul, Nat.add_zero] at c0 c1
 have d3 : (y.k != 1) = true := by simpa using hy
 have HN : Hid (ofR x = none) := by rw [Hid, ofR, if_neg (fun h => by have h1 := h.2.1; rw [kdI, hl] at h1; simp only [if_neg hy] at h1; exact absurd h1 (by decide))]
 clear hk hl hy hp hL hg hC hlist
 rw [HW.out] at x0 x1 x2 x3 x4 c0 c1
 clear hW hb hv
 go_enter Tryz.func15, Tryz.ntmps15
 go_upto_region 2 with fail
 rw [← HW.out]
 obtain ⟨r0, r1, r2, r3, r4, r5, r6, r7, r8, r9, r10, r11, r12, r13, r14⟩ := r15 HRz.out
 obtain ⟨f0, f1, f2, f3, f4, f5, f6, f7, f8, f9, f10, f11, f12, f13, f14⟩ := f15 HRz.out
 go_wp2_with fail
 change bodyPost _ _ _ _ _ (putL W (w.heap.size + 1) 0 [.int .i64 0, .int .u32 0, .int .u32 0, .int .u64 0, .int .u32 0, .int .i64 0, .int .i64 0, .int .u64 0, .int .u64 0, .int .u32 0, .int .u32 0, .bool false, .int .u64 0, .int .u64 0, .int .u8 0])
 have hrow : RowB (putL W (w.heap.size + 1) 0 [.int .i64 0, .int .u32 0, .int .u32 0, .int .u64 0, .int .u32 0, .int .i64 0, .int .i64 0, .int .u64 0, .int .u64 0, .int .u32 0, .int .u32 0, .bool false, .int .u64 0, .int .u64 0, .int .u8 0]) (w.heap.size + 1) [.int .i64 0, .int .u32 0, .int .u32 0, .int .u64 0, .int .u32 0, .int .i64 0, .int .i64 0, .int .u64 0, .int .u64 0, .int .u32 0, .int .u32 0, .bool false, .int .u64 0, .int .u64 0, .int .u8 0] := putL_row _ _ 0 _ HRz.out
 have hbk : Below w.heap.size w (putL W (w.heap.size + 1) 0 [.int .i64 0, .int .u32 0, .int .u32 0, .int .u64 0, .int .u32 0, .int .i64 0, .int .i64 0, .int .u64 0, .int .u64 0, .int .u32 0, .int .u32 0, .bool false, .int .u64 0, .int .u64 0, .int .u8 0]) := putL_bel (Nat.le_succ _) _ 0 _ HB0.out
 generalize putL W (w.heap.size + 1) 0 [.int .i64 0, .int .u32 0, .int .u32 0, .int .u64 0, .int .u32 0, .int .i64 0, .int .i64 0, .int .u64 0, .int .u64 0, .int .u32 0, .int .u32 0, .bool false, .int .u64 0, .int .u64 0, .int .u8 0] = w30 at *
 obtain ⟨k0, k1, k2, k3, k4, k5, k6, k7, k8, k9, k10, k11, k12, k13, k14⟩ := r15 hrow
 exact bodyPost_ret (v := .tuple #[.agg #[.int .i64 0, .int .u32 0, .int .u32 0, .int .u64 0, .int .u32 0, .int .i64 0, .int .i64 0, .int .u64 0, .int .u64 0, .int .u32 0, .int .u32 0, .bool false, .int .u64 0, .int .u64 0, .int .u8 0], .bool false]) (by simp [results, Tryz.results15, go_sem, k0, k1, k2, k3, k4, k5, k6, k7, k8, k9, k10, k11, k12, k13, k14]) rfl ⟨hbk, .inr ⟨HN.out, rfl⟩⟩

theorem of_f4 (x : It) (a A : Option Addr) (c C : Nat) (y : It) (l : List It) (hk : x.k = 4) (hl : x.l = y :: l) (hy : y.k = 1) (hn : y.n < 1) (w : World) (hv : ItV w w.heap.size (.agg #[.int .i64 x.k, .int .u64 x.n, .slice a x.b.length c, .string ⟨x.s.toArray⟩, .slice A x.l.length C]) x) : Calls Tryz.prog 15 #[.agg #[.int .i64 x.k, .int .u64 x.n, .slice a x.b.length c, .string ⟨x.s.toArray⟩, .slice A x.l.length C]] w (OfP w x) := by
 obtain ⟨W, hW⟩ : ∃ W, W = (w.alloc (.cells #[.int .i64 x.k, .int .u64 x.n, .slice a x.b.length c, .string ⟨x.s.toArray⟩, .slice A x.l.length C] 45)).alloc (.cells #[.int .i64 0, .int .u32 0, .int .u32 0, .int .u64 0, .int .u32 0, .int .i64 0, .int .i64 0, .int .u64 0, .int .u64 0, .int .u32 0, .int .u32 0, .bool false, .int .u64 0, .int .u64 0, .int .u8 0] 32) := ⟨_, rfl⟩
 have hb : Below w.heap.size w W := by rw [hW]; exact below_al (below_al bR _) _
 have HRz : Hid (RowB W (w.heap.size + 1) [.int .i64 0, .int .u32 0, .int .u32 0, .int .u64 0, .int .u32 0, .int .i64 0, .int .i64 0, .int .u64 0, .int .u64 0, .int .u32 0, .int .u32 0, .bool false, .int .u64 0, .int .u64 0, .int .u8 0]) := by
  rw [hW]
  have h := RowB.new (w.alloc (.cells #[.int .i64 x.k, .int .u64 x.n, .slice a x.b.length c, .string ⟨x.s.toArray⟩, .slice A x.l.length C] 45)) [.int .i64 0, .int .u32 0, .int .u32 0, .int .u64 0, .int .u32 0, .int .i64 0, .int .i64 0, .int .u64 0, .int .u64 0, .int .u32 0, .int .u32 0, .bool false, .int .u64 0, .int .u64 0, .int .u8 0] 32
  rw [World.size_alloc] at h
  exact h
 have hx : W.cell? ⟨w.heap.size, 0, none⟩ = some (.int .i64 x.k) ∧ W.cell? ⟨w.heap.size, 1, none⟩ = some (.int .u64 x.n) ∧ W.cell? ⟨w.heap.size, 2, none⟩ = some (.slice a x.b.length c) ∧ W.cell? ⟨w.heap.size, 3, none⟩ = some (.string ⟨x.s.toArray⟩) ∧ W.cell? ⟨w.heap.size, 4, none⟩ = some (.slice A x.l.length C) := by
  rw [hW]
  have h1 := below_al (Below.refl _ (w.alloc (.cells #[.int .i64 x.k, .int .u64 x.n, .slice a x.b.length c, .string ⟨x.s.toArray⟩, .slice A x.l.length C] 45))) (.cells #[.int .i64 0, .int .u32 0, .int .u32 0, .int .u64 0, .int .u32 0, .int .i64 0, .int .i64 0, .int .u64 0, .int .u64 0, .int .u32 0, .int .u32 0, .bool false, .int .u64 0, .int .u64 0, .int .u8 0] 32)
  exact ⟨box_at h1 0, box_at h1 1, box_at h1 2, box_at h1 3, box_at h1 4⟩
 have HB0 := h_ hb
 have HW := h_ hW
 obtain ⟨x0, x1, x2, x3, x4⟩ := hx
 have d1 : (x.k != 4) = false := by simpa using hk
 have d2 : ((x.l.length : Int) == 0) = false := by rw [hl]; simp; omega
 have d9 : 0 < x.l.length := by rw [hl]; simp
 obtain ⟨hC, hlist⟩ := hv.dlist
 obtain ⟨g, o, rfl, hg, hL⟩ := hlist.resolve_left (by rw [hl]; simp)
 obtain ⟨_, _, _, _, hp⟩ := hL.pcells hg (i := 0) (y := y) (by rw [hl]; rfl)
 obtain ⟨c0, c1, _, _, _⟩ := (hp W hb).2
 simp only [Nat.zero_mul, Nat.add_zero] at c0 c1
 have d3 : (y.k != 1) = false := by simpa using hy
 have d4 : decide (y.n < 1) = true := decide_eq_true hn
 have HN : Hid (ofR x = none) := by rw [Hid, ofR, if_neg (fun h => by have h1 := h.2.1; rw [kdI, hl] at h1; simp only [if_pos hy] at h1; omega)]
 clear hk hl hy hp hL hg hC hlist hn
 rw [HW.out] at x0 x1 x2 x3 x4 c0 c1
 clear hW hb hv
 go_enter Tryz.func15, Tryz.ntmps15
 go_upto_region 2 with fail
 rw [← HW.out]
 obtain ⟨r0, r1, r2, r3, r4, r5, r6, r7, r8, r9, r10, r11, r12, r13, r14⟩ := r15 HRz.out
 obtain ⟨f0, f1, f2, f3, f4, f5, f6, f7, f8, f9, f10, f11, f12, f13, f14⟩ := f15 HRz.out
 go_wp2_with fail
 change bodyPost _ _ _ _ _ (putL W (w.heap.size + 1) 0 [.int .i64 0, .int .u32 0, .int .u32 0, .int .u64 0, .int .u32 0, .int .i64 0, .int .i64 0, .int .u64 0, .int .u64 0, .int .u32 0, .int .u32 0, .bool false, .int .u64 0, .int .u64 0, .int .u8 0])
 have hrow : RowB (putL W (w.heap.size + 1) 0 [.int .i64 0, .int .u32 0, .int .u32 0, .int .u64 0, .int .u32 0, .int .i64 0, .int .i64 0, .int .u64 0, .int .u64 0, .int .u32 0, .int .u32 0, .bool false, .int .u64 0, .int .u64 0, .int .u8 0]) (w.heap.size + 1) [.int .i64 0, .int .u32 0, .int .u32 0, .int .u64 0, .int .u32 0, .int .i64 0, .int .i64 0, .int .u64 0, .int .u64 0, .int .u32 0, .int .u32 0, .bool false, .int .u64 0, .int .u64 0, .int .u8 0] := putL_row _ _ 0 _ HRz.out
 have hbk : Below w.heap.size w (putL W (w.heap.size + 1) 0 [.int .i64 0, .int .u32 0, .int .u32 0, .int .u64 0, .int .u32 0, .int .i64 0, .int .i64 0, .int .u64 0, .int .u64 0, .int .u32 0, .int .u32 0, .bool false, .int .u64 0, .int .u64 0, .int .u8 0]) := putL_bel (Nat.le_succ _) _ 0 _ HB0.out
 generalize putL W (w.heap.size + 1) 0 [.int .i64 0, .int .u32 0, .int .u32 0, .int .u64 0, .int .u32 0, .int .i64 0, .int .i64 0, .int .u64 0, .int .u64 0, .int .u32 0, .int .u32 0, .bool false, .int .u64 0, .int .u64 0, .int .u8 0] = w30 at *
 obtain ⟨k0, k1, k2, k3, k4, k5, k6, k7, k8, k9, k10, k11, k12, k13, k14⟩ := r15 hrow
 exact bodyPost_ret (v := .tuple #[.agg #[.int .i64 0, .int .u32 0, .int .u32 0, .int .u64 0, .int .u32 0, .int .i64 0, .int .i64 0, .int .u64 0, .int .u64 0, .int .u32 0, .int .u32 0, .bool false, .int .u64 0, .int .u64 0, .int .u8 0], .bool false]) (by simp [results, Tryz.results15, go_sem, k0, k1, k2, k3, k4, k5, k6, k7, k8, k9, k10, k11, k12, k13, k14]) rfl ⟨hbk, .inr ⟨HN.out, rfl⟩⟩

theorem of_f5 (x : It) (a A : Option Addr) (c C : Nat) (y : It) (l : List It) (hk : x.k = 4) (hl : x.l = y :: l) (hy : y.k = 1) (hn : 5 < y.n) (w : World) (hv : ItV w w.heap.size (.agg #[.int .i64 x.k, .int .u64 x.n, .slice a x.b.length c, .string ⟨x.s.toArray⟩, .slice A x.l.length C]) x) : Calls Tryz.prog 15 #[.agg #[.int .i64 x.k, .int .u64 x.n, .slice a x.b.length c, .string ⟨x.s.toArray⟩, .slice A x.l.length C]] w (OfP w x) := by
 obtain ⟨W, hW⟩ : ∃ W, W = (w.alloc (.cells #[.int .i64 x.k, .int .u64 x.n, .slice a x.b.length c, .string ⟨x.s.toArray⟩, .slice A x.l.length C] 45)).alloc (.cells #[.int .i64 0, .int .u32 0, .int .u32 0, .int .u64 0, .int .u32 0, .int .i64 0, .int .i64 0, .int .u64 0, .int .u64 0, .int .u32 0, .int .u32 0, .bool false, .int .u64 0, .int .u64 0, .int .u8 0] 32) := ⟨_, rfl⟩
 have hb : Below w.heap.size w W := by rw [hW]; exact below_al (below_al bR _) _
 have HRz : Hid (RowB W (w.heap.size + 1) [.int .i64 0, .int .u32 0, .int .u32 0, .int .u64 0, .int .u32 0, .int .i64 0, .int .i64 0, .int .u64 0, .int .u64 0, .int .u32 0, .int .u32 0, .bool false, .int .u64 0, .int .u64 0, .int .u8 0]) := by
  rw [hW]
  have h := RowB.new (w.alloc (.cells #[.int .i64 x.k, .int .u64 x.n, .slice a x.b.length c, .string ⟨x.s.toArray⟩, .slice A x.l.length C] 45)) [.int .i64 0, .int .u32 0, .int .u32 0, .int .u64 0, .int .u32 0, .int .i64 0, .int .i64 0, .int .u64 0, .int .u64 0, .int .u32 0, .int .u32 0, .bool false, .int .u64 0, .int .u64 0, .int .u8 0] 32
  rw [World.size_alloc] at h
  exact h
 have hx : W.cell? ⟨w.heap.size, 0, none⟩ = some (.int .i64 x.k) ∧ W.cell? ⟨w.heap.size, 1, none⟩ = some (.int .u64 x.n) ∧ W.cell? ⟨w.heap.size, 2, none⟩ = some (.slice a x.b.length c) ∧ W.cell? ⟨w.heap.size, 3, none⟩ = some (.string ⟨x.s.toArray⟩) ∧ W.cell? ⟨w.heap.size, 4, none⟩ = some (.slice A x.l.length C) := by
  rw [hW]
  have h1 := below_al (Below.refl _ (w.alloc (.cells #[.int .i64 x.k, .int .u64 x.n, .slice a x.b.length c, .string ⟨x.s.toArray⟩, .slice A x.l.length C] 45))) (.cells #[.int .i64 0, .int .u32 0, .int .u32 0, .int .u64 0, .int .u32 0, .int .i64 0, .int .i64 0, .int .u64 0, .int .u64 0, .int .u32 0, .int .u32 0, .bool false, .int .u64 0, .int .u64 0, .int .u8 0] 32)
  exact ⟨box_at h1 0, box_at h1 1, box_at h1 2, box_at h1 3, box_at h1 4⟩
 have HB0 := h_ hb
 have HW := h_ hW
 obtain ⟨x0, x1, x2, x3, x4⟩ := hx
 have d1 : (x.k != 4) = false := by simpa using hk
 have d2 : ((x.l.length : Int) == 0) = false := by rw [hl]; simp; omega
 have d9 : 0 < x.l.length := by rw [hl]; simp
 obtain ⟨hC, hlist⟩ := hv.dlist
 obtain ⟨g, o, rfl, hg, hL⟩ := hlist.resolve_left (by rw [hl]; simp)
 obtain ⟨_, _, _, _, hp⟩ := hL.pcells hg (i := 0) (y := y) (by rw [hl]; rfl)
 obtain ⟨c0, c1, _, _, _⟩ := (hp W hb).2
 simp only [Nat.zero_mul, Nat.add_zero] at c0 c1
 have d3 : (y.k != 1) = false := by simpa using hy
 have d4 : decide (y.n < 1) = false := decide_eq_false (by omega)
 have d5 : decide (5 < y.n) = true := decide_eq_true hn
 have HN : Hid (ofR x = none) := by rw [Hid, ofR, if_neg (fun h => by have h1 := h.2.2; rw [kdI, hl] at h1; simp only [if_pos hy] at h1; omega)]
 clear hk hl hy hp hL hg hC hlist hn
 rw [HW.out] at x0 x1 x2 x3 x4 c0 c1
 clear hW hb hv
 go_enter Tryz.func15, Tryz.ntmps15
 go_upto_region 2 with fail
 rw [← HW.out]
 obtain ⟨r0, r1, r2, r3, r4, r5, r6, r7, r8, r9, r10, r11, r12, r13, r14⟩ := r15 HRz.out
 obtain ⟨f0, f1, f2, f3, f4, f5, f6, f7, f8, f9, f10, f11, f12, f13, f14⟩ := f15 HRz.out
 go_wp2_with fail
 change bodyPost _ _ _ _ _ (putL W (w.heap.size + 1) 0 [.int .i64 0, .int .u32 0, .int .u32 0, .int .u64 0, .int .u32 0, .int .i64 0, .int .i64 0, .int .u64 0, .int .u64 0, .int .u32 0, .int .u32 0, .bool false, .int .u64 0, .int .u64 0, .int .u8 0])
 have hrow : RowB (putL W (w.heap.size + 1) 0 [.int .i64 0, .int .u32 0, .int .u32 0, .int .u64 0, .int .u32 0, .int .i64 0, .int .i64 0, .int .u64 0, .int .u64 0, .int .u32 0, .int .u32 0, .bool false, .int .u64 0, .int .u64 0, .int .u8 0]) (w.heap.size + 1) [.int .i64 0, .int .u32 0, .int .u32 0, .int .u64 0, .int .u32 0, .int .i64 0, .int .i64 0, .int .u64 0, .int .u64 0, .int .u32 0, .int .u32 0, .bool false, .int .u64 0, .int .u64 0, .int .u8 0] := putL_row _ _ 0 _ HRz.out
 have hbk : Below w.heap.size w (putL W (w.heap.size + 1) 0 [.int .i64 0, .int .u32 0, .int .u32 0, .int .u64 0, .int .u32 0, .int .i64 0, .int .i64 0, .int .u64 0, .int .u64 0, .int .u32 0, .int .u32 0, .bool false, .int .u64 0, .int .u64 0, .int .u8 0]) := putL_bel (Nat.le_succ _) _ 0 _ HB0.out
 generalize putL W (w.heap.size + 1) 0 [.int .i64 0, .int .u32 0, .int .u32 0, .int .u64 0, .int .u32 0, .int .i64 0, .int .i64 0, .int .u64 0, .int .u64 0, .int .u32 0, .int .u32 0, .bool false, .int .u64 0, .int .u64 0, .int .u8 0] = w30 at *
 obtain ⟨k0, k1, k2, k3, k4, k5, k6, k7, k8, k9, k10, k11, k12, k13, k14⟩ := r15 hrow
 exact bodyPost_ret (v := .tuple #[.agg #[.int .i64 0, .int .u32 0, .int .u32 0, .int .u64 0, .int .u32 0, .int .i64 0, .int .i64 0, .int .u64 0, .int .u64 0, .int .u32 0, .int .u32 0, .bool false, .int .u64 0, .int .u64 0, .int .u8 0], .bool false]) (by simp [results, Tryz.results15, go_sem, k0, k1, k2, k3, k4, k5, k6, k7, k8, k9, k10, k11, k12, k13, k14]) rfl ⟨hbk, .inr ⟨HN.out, rfl⟩⟩

end Go.Proofs.YteldifnkeekafaaGreatDoor
