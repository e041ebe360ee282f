/- Joined texts. -/
import Derived.Test.YtiahakbkagipkaaGreatDoorZBc
import Derived.Test.YtiahakbkagipkaaGreatDoorZKq
import Derived.Test.YtiahakbkagipkaaGreatDoorZJf
set_option maxHeartbeats 16000000
set_option linter.unusedSimpArgs false
set_option linter.unusedVariables false
set_option maxRecDepth 100000
namespace Go.Proofs.YtiahakbkagipkaaGreatDoor
open Go Go.RowKit Go.Shelf

attribute [local go_sem] Oper.semAt_some

def bhK (s : Int) : List It → Bool
 | [] => decide (s = 0)
 | [z] => decide (s ≠ 0) && decide (z.k = 2)
 | _ => false
def byP (x : It) : Option (List UInt8) := if x.k = 2 then some x.b else none
def rdK (b : Bl) (r : List It) : Option Bl := if rightB b = true ∧ bhK b.s r = true then some b else none
def rdY (y0 y1 y2 y3 : It) (r : List It) : Option Bl := (nuP y0).bind fun t => (nuP y1).bind fun n => (byP y3).bind fun d => (nuP y2).bind fun k => rdK ⟨t, n, IntKind.i64.wrap (k : Int), d⟩ r
def rdBk (x : It) : Option Bl := match x.l with
 | y0 :: y1 :: y2 :: y3 :: r => rdY y0 y1 y2 y3 r
 | _ => none

theorem rdBk_few {x : It} (h : ¬ 4 ≤ x.l.length) : rdBk x = none := by
 unfold rdBk
 split
 ·rename_i hl
  rw [hl] at h
  simp at h
 ·rfl
theorem rdBk_four {x y0 y1 y2 y3 : It} {r : List It} (hl : x.l = y0 :: y1 :: y2 :: y3 :: r) : rdBk x = rdY y0 y1 y2 y3 r := by rw [rdBk, hl]
theorem four_of {l : List It} (h : 4 ≤ l.length) : ∃ y0 y1 y2 y3 r, l = y0 :: y1 :: y2 :: y3 :: r := by
 match l, h with
 | y0 :: y1 :: y2 :: y3 :: r, _ => exact ⟨y0, y1, y2, y3, r, rfl⟩
theorem bhK_more {s : Int} {r : List It} (h : r ≠ []) (hk : s = 0) : bhK s r = false := by
 subst hk
 match r with
 | [] => exact absurd rfl h
 | [z] => rfl
 | _ :: _ :: _ => rfl
theorem bhK_two {s : Int} {r : List It} (h : r.length ≠ 1) (hk : s ≠ 0) : bhK s r = false := by
 match r with
 | [] => simp [bhK, hk]
 | [z] => simp at h
 | _ :: _ :: _ => rfl
theorem bhK_one {s : Int} {z : It} (hk : s ≠ 0) : bhK s [z] = decide (z.k = 2) := by simp [bhK, hk]

theorem wrap_back {k : Nat} (h : k < 18446744073709551616) : IntKind.u64.wrap (IntKind.i64.wrap (k : Int)) = (k : Int) := by
 rw [IntKind.wrap_u64]
 simp [IntKind.wrap, IntKind.bits, IntKind.signed]
 omega

theorem ItV.rdB {w : World} {B : Nat} {x : It} {a A : Option Addr} {c C : Nat} (h : ItV w B (.agg #[.int .i64 x.k, .int .u64 x.n, .slice a x.b.length c, .string ⟨x.s.toArray⟩, .slice A x.l.length C]) x) : x.b.length ≤ c ∧ RdB w B a x.b ∧ x.b.length ≤ 140737488355328 := by
 obtain ⟨k, n, b, s, l⟩ := x
 simp only [ItV] at h
 obtain ⟨A1, ⟨a1, c1, C1, e, ⟨hc, _⟩, hr, _, _, hz, _⟩, _⟩ := h
 simp only [It.k, It.n, It.b, It.s, It.l] at e ⊢
 injection e with e
 have e' := congrArg Array.toList e
 simp only [List.cons.injEq, Value.slice.injEq, and_true, true_and] at e'
 obtain ⟨⟨rfl, rfl⟩, _⟩ := e'
 exact ⟨hc, hr, hz⟩

theorem ItSL.at {w : World} {S : Nat → Prop} {g : Nat} : ∀ {l : List It} {o i : Nat} {x : It}, ItSL w S g o l → l[i]? = some x → ∃ v, At5 w g (o + i * 5) v ∧ ItS w S v x
 | [], _, i, _, _, hi => by simp at hi
 | y :: ys, o, 0, x, h, hi => by
  simp only [ItSL] at h
  simp at hi
  subst hi
  simpa using h.1
 | y :: ys, o, i + 1, x, h, hi => by
  simp only [ItSL] at h
  have := ItSL.at h.2 (i := i) (x := x) (by simpa using hi)
  rw [show o + (i + 1) * 5 = o + 5 + i * 5 by omega]
  exact this
theorem ItS.rdBS {w : World} {S : Nat → Prop} {x : It} {a A : Option Addr} {c C : Nat} (h : ItS w S (.agg #[.int .i64 x.k, .int .u64 x.n, .slice a x.b.length c, .string ⟨x.s.toArray⟩, .slice A x.l.length C]) x) : RdBS w S a x.b := by
 obtain ⟨k, n, b, s, l⟩ := x
 simp only [ItS] at h
 obtain ⟨A1, ⟨a1, c1, C1, e, ⟨hc, _⟩, hr, _, _, hz, _⟩, _⟩ := h
 simp only [It.k, It.n, It.b, It.s, It.l] at e ⊢
 injection e with e
 have e' := congrArg Array.toList e
 simp only [List.cons.injEq, Value.slice.injEq, and_true, true_and] at e'
 obtain ⟨⟨rfl, rfl⟩, _⟩ := e'
 exact hr
theorem ItS.listS {w : World} {S : Nat → Prop} {x : It} {a A : Option Addr} {c C : Nat} (h : ItS w S (.agg #[.int .i64 x.k, .int .u64 x.n, .slice a x.b.length c, .string ⟨x.s.toArray⟩, .slice A x.l.length C]) x) : x.l = [] ∨ ∃ g o, A = some ⟨g, o, none⟩ ∧ S g ∧ ItSL w S g o x.l := by
 obtain ⟨k, n, b, s, l⟩ := x
 simp only [ItS] at h
 obtain ⟨A1, ⟨a1, c1, C1, e, _⟩, h2⟩ := h
 simp only [It.k, It.n, It.b, It.s, It.l] at e ⊢
 injection e with e
 have e' := congrArg Array.toList e
 simp only [List.cons.injEq, Value.slice.injEq, and_true, true_and] at e'
 obtain ⟨_, rfl, rfl⟩ := e'
 exact h2
theorem ItSL.bytesAt {w : World} {S : Nat → Prop} {g o i c : Nat} {l : List It} {y : It} {a : Option Addr} (hL : ItSL w S g o l) (hi : l[i]? = some y) (hc : w.cell? ⟨g, o + i * 5 + 2, none⟩ = some (.slice a y.b.length c)) : RdBS w S a y.b := by
 obtain ⟨v, h5, hv⟩ := ItSL.at hL hi
 obtain ⟨a1, c1, A1, C1, rfl⟩ := hv.form
 obtain ⟨u0, u1, u2, u3, u4, e, h0, h1, h2, h3, h4⟩ := h5
 injection e with e
 have e' := congrArg Array.toList e
 simp only [List.cons.injEq, and_true] at e'
 obtain ⟨_, _, rfl, _, _⟩ := e'
 rw [h2] at hc
 injection hc with hc
 injection hc with q1 q2 q3
 subst q1
 exact hv.rdBS

def bput4 (w : World) (g : Nat) (v0 v1 v2 v3 : Value) : World := (((w.setCell ⟨g, 0, none⟩ v0).setCell ⟨g, 1, none⟩ v1).setCell ⟨g, 2, none⟩ v2).setCell ⟨g, 3, none⟩ v3
theorem bput4_row {w : World} {g : Nat} {u0 u1 u2 u3 : Value} (h : RowB w g [u0, u1, u2, u3]) (v0 v1 v2 v3 : Value) : RowB (bput4 w g v0 v1 v2 v3) g [v0, v1, v2, v3] := (((h.set 0 v0).set 1 v1).set 2 v2).set 3 v3
theorem bput4_on {B g : Nat} {w0 w : World} (h : Below B w0 w) (hB : B ≤ g) (v0 v1 v2 v3 : Value) : Below B w0 (bput4 w g v0 v1 v2 v3) := by
 unfold bput4
 exact (((h.setCell (p := ⟨g, 0, none⟩) hB _).setCell (p := ⟨g, 1, none⟩) hB _).setCell (p := ⟨g, 2, none⟩) hB _).setCell (p := ⟨g, 3, none⟩) hB _
theorem bput4_block {w : World} {g b : Nat} (h : b ≠ g) (v0 v1 v2 v3 : Value) : (bput4 w g v0 v1 v2 v3).heap[b]? = w.heap[b]? := by
 unfold bput4
 rw [Below.heap_setCell _ _ _ _ h, Below.heap_setCell _ _ _ _ h, Below.heap_setCell _ _ _ _ h, Below.heap_setCell _ _ _ _ h]
theorem bput4_size (w : World) (g : Nat) (v0 v1 v2 v3 : Value) : (bput4 w g v0 v1 v2 v3).heap.size = w.heap.size := by simp [bput4]

def RdBkR (w : World) (S : Nat → Prop) (x : It) (e : Ending) (w' : World) : Prop := Below w.heap.size w w' ∧ ((∃ (b : Bl) (a : Option Addr) (c : Nat), e = .returned (.agg #[.int .u64 b.t, .int .u64 b.n, .int .i64 b.s, .slice a b.d.length c]) ∧ b.ok ∧ rightB b = true ∧ rdBk x = some b ∧ b.d.length ≤ c ∧ b.d.length ≤ 140737488355328 ∧ RdBS w S a b.d) ∨ (e = gives 160 ∧ rdBk x = none))

theorem bread_any (x : It) (v : Value) (S : Nat → Prop) (w : World) (hS : ∀ b, S b → b < w.heap.size) (hlen : x.l.length ≤ 1000000) (hv0 : ItS w S v x) (ht : TabW w) : Calls Tryz.prog 62 #[v] w (RdBkR w S x) := by
 have hv := ItS.itV hS x hv0
 obtain ⟨a, c, A, C, rfl⟩ := hv.form
 obtain ⟨hL, hC⟩ := hv.list
 have HLS := h_ hv0.listS
 obtain ⟨n, hn⟩ : ∃ n, n = x.l.length := ⟨_, rfl⟩
 rw [← hn] at hC hlen ⊢
 obtain ⟨W, hW⟩ : ∃ W, W = ((w.alloc (.cells #[.int .i64 x.k, .int .u64 x.n, .slice a x.b.length c, .string ⟨x.s.toArray⟩, .slice A n C] 83)).alloc (.cells #[.int .u64 0, .int .u64 0, .int .i64 0, .slice none 0 0] 65)).alloc (.cells #[.int .u64 0, .int .u64 0, .int .i64 0, .slice none 0 0] 65) := ⟨_, rfl⟩
 have HB : Hid (Below w.heap.size w W) := by rw [hW]; exact below_al (below_al (below_al bR _) _) _
 have hsW : w.heap.size + 3 ≤ W.heap.size := by rw [hW]; simp
 have hP : RowB W (w.heap.size + 1 + 1) [.int .u64 0, .int .u64 0, .int .i64 0, .slice none 0 0] := by
  have h := RowB.new ((w.alloc (.cells #[.int .i64 x.k, .int .u64 x.n, .slice a x.b.length c, .string ⟨x.s.toArray⟩, .slice A n C] 83)).alloc (.cells #[.int .u64 0, .int .u64 0, .int .i64 0, .slice none 0 0] 65)) [.int .u64 0, .int .u64 0, .int .i64 0, .slice none 0 0] 65
  rw [hW]
  simpa only [World.size_alloc] using h
 have hR : RowB W (w.heap.size + 1) [.int .u64 0, .int .u64 0, .int .i64 0, .slice none 0 0] := by
  have h := (RowB.new (w.alloc (.cells #[.int .i64 x.k, .int .u64 x.n, .slice a x.b.length c, .string ⟨x.s.toArray⟩, .slice A n C] 83)) [.int .u64 0, .int .u64 0, .int .i64 0, .slice none 0 0] 65).on (below_al bR (.cells #[.int .u64 0, .int .u64 0, .int .i64 0, .slice none 0 0] 65)) (by simp)
  rw [hW]
  simpa only [World.size_alloc] using h
 have HP := h_ hP
 have HR := h_ hR
 have HW := h_ hW
 have HSW := h_ hsW
 have HL := h_ hL
 have HN := h_ hn
 have HT : Hid (∀ w', Below w.heap.size w w' → TabW w') := fun w' h => ht.on h
 clear hW hP hR hv hv0 hS hsW hL hn ht
 by_cases h4 : 4 ≤ n
 rotate_left
 ·have k8 : decide ((4 : Int) ≤ (n : Int)) = false := decide_eq_false (by omega)
  have HX : Hid (rdBk x = none) := rdBk_few (by rw [← HN.out]; exact h4)
  clear h4
  go_enter Tryz.func62, Tryz.ntmps62
  go_wp2_with fail
  rw [← HW.out]
  try go_wp2_with fail
  refine (bneed_any false _).mono ?_
  rintro e w1 ⟨rfl, ⟨_, h⟩ | ⟨rfl, _⟩⟩
  ·cases h
  rw [gives_def]
  go_wp2_with fail
  exact ⟨rfl, HB.out, .inr ⟨rfl, HX.out⟩⟩
 obtain ⟨y0, y1, y2, y3, r, hl⟩ := four_of (by rw [← HN.out]; exact h4 : 4 ≤ x.l.length)
 have HZ : Hid (rdBk x = rdY y0 y1 y2 y3 r) := rdBk_four hl
 have HLen : Hid (n = 4 + r.length) := by rw [Hid, HN.out, hl]; simp; omega
 have hL := HL.out
 rw [hl] at hL
 obtain ⟨g, o, rfl, hg, hI⟩ : ∃ g o, A = some ⟨g, o, none⟩ ∧ g < w.heap.size ∧ ItL w w.heap.size g o (y0 :: y1 :: y2 :: y3 :: r) := by
  rcases hL with h | h
  ·cases h
  ·exact h
 obtain ⟨a0, c0, A0, C0, k0⟩ := hI.pcells hg (i := 0) (y := y0) rfl
 simp only [Nat.zero_mul, Nat.add_zero] at k0
 have HI0 : Hid (∀ w', Below w.heap.size w w' → ItV w' w.heap.size (.agg #[.int .i64 y0.k, .int .u64 y0.n, .slice a0 y0.b.length c0, .string ⟨y0.s.toArray⟩, .slice A0 y0.l.length C0]) y0 ∧ (w'.cell? ⟨g, o, none⟩ = some (.int .i64 y0.k) ∧ w'.cell? ⟨g, o + 1, none⟩ = some (.int .u64 y0.n) ∧ w'.cell? ⟨g, o + 2, none⟩ = some (.slice a0 y0.b.length c0) ∧ w'.cell? ⟨g, o + 3, none⟩ = some (.string ⟨y0.s.toArray⟩) ∧ w'.cell? ⟨g, o + 4, none⟩ = some (.slice A0 y0.l.length C0))) := k0
 clear k0
 obtain ⟨a1, c1, A1, C1, k1⟩ := hI.pcells hg (i := 1) (y := y1) rfl
 simp only [Nat.one_mul] at k1
 have HI1 : Hid (∀ w', Below w.heap.size w w' → ItV w' w.heap.size (.agg #[.int .i64 y1.k, .int .u64 y1.n, .slice a1 y1.b.length c1, .string ⟨y1.s.toArray⟩, .slice A1 y1.l.length C1]) y1 ∧ (w'.cell? ⟨g, o + 5, none⟩ = some (.int .i64 y1.k) ∧ w'.cell? ⟨g, o + 5 + 1, none⟩ = some (.int .u64 y1.n) ∧ w'.cell? ⟨g, o + 5 + 2, none⟩ = some (.slice a1 y1.b.length c1) ∧ w'.cell? ⟨g, o + 5 + 3, none⟩ = some (.string ⟨y1.s.toArray⟩) ∧ w'.cell? ⟨g, o + 5 + 4, none⟩ = some (.slice A1 y1.l.length C1))) := k1
 clear k1
 obtain ⟨a2, c2, A2, C2, k2⟩ := hI.pcells hg (i := 2) (y := y2) rfl
 simp only [Nat.reduceMul] at k2
 have HI2 : Hid (∀ w', Below w.heap.size w w' → ItV w' w.heap.size (.agg #[.int .i64 y2.k, .int .u64 y2.n, .slice a2 y2.b.length c2, .string ⟨y2.s.toArray⟩, .slice A2 y2.l.length C2]) y2 ∧ (w'.cell? ⟨g, o + 10, none⟩ = some (.int .i64 y2.k) ∧ w'.cell? ⟨g, o + 10 + 1, none⟩ = some (.int .u64 y2.n) ∧ w'.cell? ⟨g, o + 10 + 2, none⟩ = some (.slice a2 y2.b.length c2) ∧ w'.cell? ⟨g, o + 10 + 3, none⟩ = some (.string ⟨y2.s.toArray⟩) ∧ w'.cell? ⟨g, o + 10 + 4, none⟩ = some (.slice A2 y2.l.length C2))) := k2
 clear k2
 obtain ⟨a3, c3, A3, C3, k3⟩ := hI.pcells hg (i := 3) (y := y3) rfl
 simp only [Nat.reduceMul] at k3
 have HI3 : Hid (∀ w', Below w.heap.size w w' → ItV w' w.heap.size (.agg #[.int .i64 y3.k, .int .u64 y3.n, .slice a3 y3.b.length c3, .string ⟨y3.s.toArray⟩, .slice A3 y3.l.length C3]) y3 ∧ (w'.cell? ⟨g, o + 15, none⟩ = some (.int .i64 y3.k) ∧ w'.cell? ⟨g, o + 15 + 1, none⟩ = some (.int .u64 y3.n) ∧ w'.cell? ⟨g, o + 15 + 2, none⟩ = some (.slice a3 y3.b.length c3) ∧ w'.cell? ⟨g, o + 15 + 3, none⟩ = some (.string ⟨y3.s.toArray⟩) ∧ w'.cell? ⟨g, o + 15 + 4, none⟩ = some (.slice A3 y3.l.length C3))) := k3
 clear k3
 have HRest : Hid (∀ z r', r = z :: r' → ∃ a0 c0 A0 C0, ∀ w', Below w.heap.size w w' → ItV w' w.heap.size (.agg #[.int .i64 z.k, .int .u64 z.n, .slice a0 z.b.length c0, .string ⟨z.s.toArray⟩, .slice A0 z.l.length C0]) z ∧ (w'.cell? ⟨g, o + 20, none⟩ = some (.int .i64 z.k) ∧ w'.cell? ⟨g, o + 20 + 1, none⟩ = some (.int .u64 z.n) ∧ w'.cell? ⟨g, o + 20 + 2, none⟩ = some (.slice a0 z.b.length c0) ∧ w'.cell? ⟨g, o + 20 + 3, none⟩ = some (.string ⟨z.s.toArray⟩) ∧ w'.cell? ⟨g, o + 20 + 4, none⟩ = some (.slice A0 z.l.length C0))) := fun z r' hz => by
  obtain ⟨a0, c0, A0, C0, k⟩ := hI.pcells hg (i := 4) (y := z) (by rw [hz]; rfl)
  simp only [Nat.reduceMul] at k
  exact ⟨a0, c0, A0, C0, k⟩
 have k8 : decide ((4 : Int) ≤ (n : Int)) = true := decide_eq_true (by omega)
 have j0 : (0 : Int) < (n : Int) := by omega
 have i0 : 0 < n := by omega
 have j1 : (1 : Int) < (n : Int) := by omega
 have i1 : 1 < n := by omega
 have j2 : (2 : Int) < (n : Int) := by omega
 have i2 : 2 < n := by omega
 have j3 : (3 : Int) < (n : Int) := by omega
 have i3 : 3 < n := by omega
 have HRdB := h_ ((HI3.out w bR).1.rdB)
 have HRS : Hid (RdBS w S a3 y3.b) := by
  have h := HLS.out
  rw [hl] at h
  rcases h with h | ⟨g', o', e, _, hs⟩
  ·cases h
  ·simp only [Option.some.injEq, Addr.mk.injEq, and_true] at e
   obtain ⟨rfl, rfl⟩ := e
   exact hs.bytesAt (i := 3) rfl (HI3.out w bR).2.2.2.1
 clear hl hL hI h4
 have HC : Hid (∀ w', Below w.heap.size w w' → (w'.cell? ⟨g, o, none⟩ = some (.int .i64 y0.k) ∧ w'.cell? ⟨g, o + 1, none⟩ = some (.int .u64 y0.n) ∧ w'.cell? ⟨g, o + 2, none⟩ = some (.slice a0 y0.b.length c0) ∧ w'.cell? ⟨g, o + 3, none⟩ = some (.string ⟨y0.s.toArray⟩) ∧ w'.cell? ⟨g, o + 4, none⟩ = some (.slice A0 y0.l.length C0)) ∧ (w'.cell? ⟨g, o + 5, none⟩ = some (.int .i64 y1.k) ∧ w'.cell? ⟨g, o + 5 + 1, none⟩ = some (.int .u64 y1.n) ∧ w'.cell? ⟨g, o + 5 + 2, none⟩ = some (.slice a1 y1.b.length c1) ∧ w'.cell? ⟨g, o + 5 + 3, none⟩ = some (.string ⟨y1.s.toArray⟩) ∧ w'.cell? ⟨g, o + 5 + 4, none⟩ = some (.slice A1 y1.l.length C1)) ∧ (w'.cell? ⟨g, o + 15, none⟩ = some (.int .i64 y3.k) ∧ w'.cell? ⟨g, o + 15 + 1, none⟩ = some (.int .u64 y3.n) ∧ w'.cell? ⟨g, o + 15 + 2, none⟩ = some (.slice a3 y3.b.length c3) ∧ w'.cell? ⟨g, o + 15 + 3, none⟩ = some (.string ⟨y3.s.toArray⟩) ∧ w'.cell? ⟨g, o + 15 + 4, none⟩ = some (.slice A3 y3.l.length C3))) := fun w' h => ⟨(HI0.out w' h).2, (HI1.out w' h).2, (HI3.out w' h).2⟩
 go_enter Tryz.func62, Tryz.ntmps62
 go_wp2_with fail
 rw [← HW.out]
 refine (bneed_any true _).mono ?_
 rintro e w1 ⟨rfl, ⟨rfl, _⟩ | ⟨_, h⟩⟩
 rotate_left
 ·cases h
 have F0 : Below W.heap.size W W.drew := bR.drew
 go_wp2_with fail
 refine wp_region_held_drew (S := fun w' => (w'.cell? ⟨g, o, none⟩ = some (.int .i64 y0.k) ∧ w'.cell? ⟨g, o + 1, none⟩ = some (.int .u64 y0.n) ∧ w'.cell? ⟨g, o + 2, none⟩ = some (.slice a0 y0.b.length c0) ∧ w'.cell? ⟨g, o + 3, none⟩ = some (.string ⟨y0.s.toArray⟩) ∧ w'.cell? ⟨g, o + 4, none⟩ = some (.slice A0 y0.l.length C0)) ∧ (w'.cell? ⟨g, o + 5, none⟩ = some (.int .i64 y1.k) ∧ w'.cell? ⟨g, o + 5 + 1, none⟩ = some (.int .u64 y1.n) ∧ w'.cell? ⟨g, o + 5 + 2, none⟩ = some (.slice a1 y1.b.length c1) ∧ w'.cell? ⟨g, o + 5 + 3, none⟩ = some (.string ⟨y1.s.toArray⟩) ∧ w'.cell? ⟨g, o + 5 + 4, none⟩ = some (.slice A1 y1.l.length C1)) ∧ (w'.cell? ⟨g, o + 15, none⟩ = some (.int .i64 y3.k) ∧ w'.cell? ⟨g, o + 15 + 1, none⟩ = some (.int .u64 y3.n) ∧ w'.cell? ⟨g, o + 15 + 2, none⟩ = some (.slice a3 y3.b.length c3) ∧ w'.cell? ⟨g, o + 15 + 3, none⟩ = some (.string ⟨y3.s.toArray⟩) ∧ w'.cell? ⟨g, o + 15 + 4, none⟩ = some (.slice A3 y3.l.length C3))) (by kernel_rfl) (HC.out _ (below_on HB.out F0)) (fun hHeld => ?_)
 refine takeL 0 (v := ?_) ?_ ‹_› ?_
 rotate_left
 ·intro w hSw; (try dsimp only at hSw); go_simp; all_goals with_reducible rfl
 simp only [Act.put, zA, zB, zC]
 refine takeL 1 (v := ?_) ?_ ‹_› ?_
 rotate_left
 ·intro w hSw; (try dsimp only at hSw); go_simp; all_goals with_reducible rfl
 simp only [Act.put, zA, zB, zC]
 refine takeL 2 (v := ?_) ?_ ‹_› ?_
 rotate_left
 ·intro w hSw; (try dsimp only at hSw); go_simp; all_goals with_reducible rfl
 simp only [Act.put, zA, zB, zC]
 refine takeL 4 (v := ?_) ?_ ‹_› ?_
 rotate_left
 ·intro w hSw; (try dsimp only at hSw); go_simp; all_goals with_reducible rfl
 simp only [Act.put, zA, zB, zC]
 refine takeL 5 (v := ?_) ?_ ‹_› ?_
 rotate_left
 ·intro w hSw; (try dsimp only at hSw); go_simp; all_goals with_reducible rfl
 simp only [Act.put, zA, zB, zC]
 refine takeL 6 (v := ?_) ?_ ‹_› ?_
 rotate_left
 ·intro w hSw; (try dsimp only at hSw); go_simp; all_goals with_reducible rfl
 simp only [Act.put, zA, zB, zC]
 refine takeL 8 (v := ?_) ?_ ‹_› ?_
 rotate_left
 ·intro w hSw; (try dsimp only at hSw); go_simp; all_goals with_reducible rfl
 simp only [Act.put, zA, zB, zC]
 refine takeL 9 (v := ?_) ?_ ‹_› ?_
 rotate_left
 ·intro w hSw; (try dsimp only at hSw); go_simp; all_goals with_reducible rfl
 simp only [Act.put, zA, zB, zC]
 refine takeL 10 (v := ?_) ?_ ‹_› ?_
 rotate_left
 ·intro w hSw; (try dsimp only at hSw); go_simp; all_goals with_reducible rfl
 simp only [Act.put, zA, zB, zC]
 refine wpAnyH_ready (rs := [3]) (by kernel_rfl) (by simp) (.cons rfl (fun K hK => ?_) .nil)
 go_simp
 refine (bnum_any y0 _ _ (ItV.mono (below_on HB.out F0).size _ (HI0.out _ (below_on HB.out F0)).1)).mono ?_
 rintro e w2 ⟨hb, ⟨tt, rfl, htt, htt64⟩ | ⟨rfl, htt⟩⟩
 rotate_left
 ·rw [gives_def]
  exact ⟨rfl, below_on HB.out (below_on F0 hb), .inr ⟨rfl, by
    rw [HZ.out]
    simp [rdY, htt]⟩⟩
 have Httq := h_ htt
 have Httq64 := h_ htt64
 have F1 : Below W.heap.size W w2 := below_on F0 hb
 clear htt htt64 hb
 refine hK.out _ _ (HC.out _ (below_on HB.out F1)) (fun hHeld => ?_)
 clear hK K
 try simp only [Act.put, zA, zB, zC]
 refine takeL 12 (v := ?_) ?_ ‹_› ?_
 rotate_left
 ·intro w hSw; (try dsimp only at hSw); go_simp; all_goals with_reducible rfl
 simp only [Act.put, zA, zB, zC]
 refine takeL 13 (v := ?_) ?_ ‹_› ?_
 rotate_left
 ·intro w hSw; (try dsimp only at hSw); go_simp; all_goals with_reducible rfl
 simp only [Act.put, zA, zB, zC]
 refine wpAnyH_ready (rs := [7]) (by kernel_rfl) (by simp) (.cons rfl (fun K hK => ?_) .nil)
 go_simp
 refine (bnum_any y1 _ _ (ItV.mono (below_on HB.out F1).size _ (HI1.out _ (below_on HB.out F1)).1)).mono ?_
 rintro e w3 ⟨hb, ⟨nn, rfl, hnn, hnn64⟩ | ⟨rfl, hnn⟩⟩
 rotate_left
 ·rw [gives_def]
  exact ⟨rfl, below_on HB.out (below_on F1 hb), .inr ⟨rfl, by
    rw [HZ.out]
    simp [rdY, Httq.out, hnn]⟩⟩
 have Hnnq := h_ hnn
 have Hnnq64 := h_ hnn64
 have F2 : Below W.heap.size W w3 := below_on F1 hb
 clear hnn hnn64 hb
 refine hK.out _ _ (HC.out _ (below_on HB.out F2)) (fun hHeld => ?_)
 clear hK K
 try simp only [Act.put, zA, zB, zC]
 refine wpAnyH_ready (rs := [11]) (by kernel_rfl) (by simp) (.cons rfl (fun K hK => ?_) .nil)
 go_simp
 refine (bbytes_any y3 a3 A3 c3 C3 _).mono ?_
 rintro e w4 ⟨hb, ⟨rfl, hd⟩ | ⟨rfl, hd⟩⟩
 rotate_left
 ·rw [gives_def]
  have hd2 : byP y3 = none := if_neg hd
  exact ⟨rfl, below_on HB.out (below_on F2 hb), .inr ⟨rfl, by
    rw [HZ.out]
    simp [rdY, Httq.out, Hnnq.out, hd2]⟩⟩
 have HDd : Hid (byP y3 = some y3.b) := if_pos hd
 have F3 : Below W.heap.size W w4 := below_on F2 hb
 clear hd hb
 have HB1 := h_ (HB.out.trans (F3.mono HB.out.size))
 have HP1 := h_ (HP.out.on F3 (by have := HSW.out; omega))
 have HR1 := h_ (HR.out.on F3 (by have := HSW.out; omega))
 have HS1 : Hid (w.heap.size + 3 ≤ w4.heap.size) := Nat.le_trans HSW.out F3.size
 have q0 := HP1.out.1 0 _ rfl
 have fq0 := HP1.out.2 0
 have q1 := HP1.out.1 1 _ rfl
 have fq1 := HP1.out.2 1
 have q3 := HP1.out.1 3 _ rfl
 have fq3 := HP1.out.2 3
 refine hK.out _ _ (HC.out _ (below_on HB.out F3)) (fun hHeld => ?_)
 clear hK K
 try simp only [Act.put, zA, zB, zC]
 refine wpAnyH_ready (rs := [14]) (by kernel_rfl) (by simp) (.cons rfl (fun K hK => ?_) .nil)
 go_simp
 refine hK.out _ _ (HC.out _ (HB1.out.setCell (p := ⟨w.heap.size + 1 + 1, 0, none⟩) (Nat.le_trans (Nat.le_succ _) (Nat.le_succ _)) _)) (fun hHeld => ?_)
 clear hK K
 try simp only [Act.put, zA, zB, zC]
 refine takeL 15 (v := ?_) ?_ ‹_› ?_
 rotate_left
 ·intro w hSw; (try dsimp only at hSw); go_simp; all_goals with_reducible rfl
 simp only [Act.put, zA, zB, zC]
 refine takeL 16 (v := ?_) ?_ ‹_› ?_
 rotate_left
 ·intro w hSw; (try dsimp only at hSw); go_simp; all_goals with_reducible rfl
 simp only [Act.put, zA, zB, zC]
 refine wpAnyH_ready (rs := [17]) (by kernel_rfl) (by simp) (.cons rfl (fun K hK => ?_) .nil)
 go_simp
 refine hK.out _ _ (HC.out _ ((HB1.out.setCell (p := ⟨w.heap.size + 1 + 1, 0, none⟩) (Nat.le_trans (Nat.le_succ _) (Nat.le_succ _)) _).setCell (p := ⟨w.heap.size + 1 + 1, 1, none⟩) (Nat.le_trans (Nat.le_succ _) (Nat.le_succ _)) _)) (fun hHeld => ?_)
 clear hK K
 try simp only [Act.put, zA, zB, zC]
 refine takeL 18 (v := ?_) ?_ ‹_› ?_
 rotate_left
 ·intro w hSw; (try dsimp only at hSw); go_simp; all_goals with_reducible rfl
 simp only [Act.put, zA, zB, zC]
 refine takeL 19 (v := ?_) ?_ ‹_› ?_
 rotate_left
 ·intro w hSw; (try dsimp only at hSw); go_simp; all_goals with_reducible rfl
 simp only [Act.put, zA, zB, zC]
 refine wpAnyH_ready (rs := [20]) (by kernel_rfl) (by simp) (.cons rfl (fun K hK => ?_) .nil)
 go_simp
 refine hK.out _ _ (HC.out _ (((HB1.out.setCell (p := ⟨w.heap.size + 1 + 1, 0, none⟩) (Nat.le_trans (Nat.le_succ _) (Nat.le_succ _)) _).setCell (p := ⟨w.heap.size + 1 + 1, 1, none⟩) (Nat.le_trans (Nat.le_succ _) (Nat.le_succ _)) _).setCell (p := ⟨w.heap.size + 1 + 1, 3, none⟩) (Nat.le_trans (Nat.le_succ _) (Nat.le_succ _)) _)) (fun hHeld => ?_)
 clear hK K
 try simp only [Act.put, zA, zB, zC]
 clear hHeld
 refine wpAnyH_done (by kernel_rfl) ?_ _
 clear F0 F1 F2 F3
 obtain ⟨w5, hw5⟩ : ∃ W0, W0 = (((w4.setCell ⟨w.heap.size + 1 + 1, 0, none⟩ (.int .u64 (tt : Int))).setCell ⟨w.heap.size + 1 + 1, 1, none⟩ (.int .u64 (nn : Int))).setCell ⟨w.heap.size + 1 + 1, 3, none⟩ (.slice a3 y3.b.length c3)) := ⟨_, rfl⟩
 have HB2 : Hid (Below w.heap.size w w5) := by rw [hw5]; exact (((HB1.out.setCell (p := ⟨w.heap.size + 1 + 1, 0, none⟩) (Nat.le_trans (Nat.le_succ _) (Nat.le_succ _)) _).setCell (p := ⟨w.heap.size + 1 + 1, 1, none⟩) (Nat.le_trans (Nat.le_succ _) (Nat.le_succ _)) _).setCell (p := ⟨w.heap.size + 1 + 1, 3, none⟩) (Nat.le_trans (Nat.le_succ _) (Nat.le_succ _)) _)
 have HP2 : Hid (RowB w5 (w.heap.size + 1 + 1) [.int .u64 (tt : Int), .int .u64 (nn : Int), .int .i64 0, .slice a3 y3.b.length c3]) := by rw [hw5]; exact (((HP1.out.set 0 (.int .u64 (tt : Int))).set 1 (.int .u64 (nn : Int))).set 3 (.slice a3 y3.b.length c3))
 have HR2 : Hid (RowB w5 (w.heap.size + 1) [.int .u64 0, .int .u64 0, .int .i64 0, .slice none 0 0]) := by rw [hw5]; exact (((HR1.out.other (Nat.succ_ne_self _) _).other (Nat.succ_ne_self _) _).other (Nat.succ_ne_self _) _)
 have HS2 : Hid (w.heap.size + 3 ≤ w5.heap.size) := by rw [hw5]; show _ ≤ _; simpa using HS1.out
 have HW2 := h_ hw5
 obtain ⟨_, z0, z1, z2, z3, z4⟩ := HI2.out w5 HB2.out
 rw [hw5] at z0 z1 z2 z3 z4
 clear hw5
 go_wp2_with fail
 rw [← HW2.out]
 clear z0 z1 z2 z3 z4 q0 fq0 q1 fq1 q3 fq3
 refine (bnum_any y2 _ w5 (ItV.mono HB2.out.size _ (HI2.out w5 HB2.out).1)).mono ?_
 rintro e w6 ⟨hb6, ⟨kd, rfl, hkd, hk64⟩ | ⟨rfl, hkd⟩⟩
 rotate_left
 ·have HX : Hid (rdBk x = none) := by
    rw [Hid, HZ.out]
    simp [rdY, Httq.out, Hnnq.out, HDd.out, hkd]
  have HB9 := h_ (HB2.out.trans (hb6.mono HB2.out.size))
  rw [gives_def]
  clear hb6 hkd
  go_wp2_with fail
  exact ⟨rfl, HB9.out, .inr ⟨rfl, HX.out⟩⟩
 have HKd := h_ hkd
 have hwb := wrap_back hk64
 have HB3 := h_ (HB2.out.trans (hb6.mono HB2.out.size))
 have HP3 := h_ (HP2.out.on hb6 (by have := HS2.out; omega))
 have HR3 := h_ (HR2.out.on hb6 (by have := HS2.out; omega))
 have HS3 : Hid (w.heap.size + 3 ≤ w6.heap.size) := Nat.le_trans HS2.out hb6.size
 obtain ⟨sk, hsk⟩ : ∃ sk, sk = IntKind.i64.wrap (kd : Int) := ⟨_, rfl⟩
 rw [← hsk] at hwb
 have q2 := HP3.out.1 2 _ rfl
 have fq2 := HP3.out.2 2
 obtain ⟨w7, hw7⟩ : ∃ W0, W0 = (w6.setCell ⟨w.heap.size + 1 + 1, 2, none⟩ (.int .i64 sk)) := ⟨_, rfl⟩
 have HB4 : Hid (Below w.heap.size w w7) := by rw [hw7]; exact (HB3.out.setCell (p := ⟨w.heap.size + 1 + 1, 2, none⟩) (Nat.le_trans (Nat.le_succ _) (Nat.le_succ _)) _)
 have HP4 : Hid (RowB w7 (w.heap.size + 1 + 1) [.int .u64 (tt : Int), .int .u64 (nn : Int), .int .i64 sk, .slice a3 y3.b.length c3]) := by rw [hw7]; exact (HP3.out.set 2 (.int .i64 sk))
 have HR4 : Hid (RowB w7 (w.heap.size + 1) [.int .u64 0, .int .u64 0, .int .i64 0, .slice none 0 0]) := by rw [hw7]; exact (HR3.out.other (Nat.succ_ne_self _) _)
 have HS4 : Hid (w.heap.size + 3 ≤ w7.heap.size) := by rw [hw7]; show _ ≤ _; simpa using HS3.out
 have HW4 := h_ hw7
 obtain ⟨b, hb⟩ : ∃ b : Bl, b = ⟨tt, nn, sk, y3.b⟩ := ⟨_, rfl⟩
 have HOk : Hid b.ok := by rw [hb]; exact ⟨Httq64.out, Hnnq64.out⟩
 have HRd : Hid (rdBk x = rdK b r) := by
  rw [Hid, HZ.out, hb, hsk]
  simp [rdY, Httq.out, Hnnq.out, HDd.out, HKd.out]
 have HPP : Hid (RowB w7 (w.heap.size + 1 + 1) [.int .u64 b.t, .int .u64 b.n, .int .i64 b.s, .slice a3 b.d.length c3]) := by rw [hb]; exact HP4.out
 have HBd : Hid (b.d = y3.b) := by rw [hb]; exact rfl
 have HBs : Hid (b.s = sk) := by rw [hb]; exact rfl
 have hwb2 : IntKind.u64.wrap b.s = (kd : Int) := by rw [HBs.out]; exact hwb
 have hsk2 : IntKind.i64.wrap (kd : Int) = sk := hsk.symm
 have p0 := HPP.out.1 0 _ rfl
 have p1 := HPP.out.1 1 _ rfl
 have p2 := HPP.out.1 2 _ rfl
 have p3 := HPP.out.1 3 _ rfl
 rw [hw7] at p0 p1 p2 p3
 clear hw7 hb hb6 hkd hk64 hsk hwb
 go_wp2_with fail
 rw [← HW4.out]
 clear q2 fq2 p0 p1 p2 p3
 have hbd := HRdB.out
 rw [← HBd.out] at hbd
 have HBD : Hid (b.d.length ≤ c3 ∧ RdB w w.heap.size a3 b.d ∧ b.d.length ≤ 140737488355328) := hbd
 have HBS : Hid (RdBS w S a3 b.d) := by
  have h := HRS.out
  rw [← HBd.out] at h
  exact h
 clear hbd
 refine (bright_any b a3 c3 w7 ((HBD.out.2.1.below HB4.out).mono HB4.out.size) HBD.out.1 HBD.out.2.2 (HT.out w7 HB4.out)).mono ?_
 rintro e w8 ⟨rfl, hb8⟩
 have HB8 := h_ (HB4.out.trans (hb8.mono HB4.out.size))
 have HP8 := h_ (HPP.out.on hb8 (by have := HS4.out; omega))
 have HR8 := h_ (HR4.out.on hb8 (by have := HS4.out; omega))
 obtain ⟨rb, hrb⟩ : ∃ rb, rb = rightB b := ⟨_, rfl⟩
 rw [← hrb]
 have HRb := h_ hrb
 clear hb8 hrb hwb2 hsk2
 go_wp2_with fail
 refine (bneed_any rb _).mono ?_
 rintro e w9 ⟨rfl, ⟨rfl, h0⟩ | ⟨rfl, h0⟩⟩
 rotate_left
 ·have HX : Hid (rdBk x = none) := by
    rw [Hid, HRd.out, rdK, if_neg (fun h => by rw [← HRb.out, h0] at h; cases h.1)]
  rw [gives_def]
  clear h0
  go_wp2_with fail
  exact ⟨rfl, HB8.out, .inr ⟨rfl, HX.out⟩⟩
 have HRi : Hid (rightB b = true) := by rw [Hid, ← HRb.out]; exact h0
 clear h0
 obtain ⟨A8, hcut⟩ : ∃ A8, A8 = (if C = 4 then (some (⟨g, o, none⟩ : Addr)) else (some (⟨g, o, none⟩ : Addr)).map (·.add (4 * 5))) := ⟨_, rfl⟩
 have hct : ∀ w : World, (Instr.slice 71 (.slice (some ⟨g, o, none⟩) n C) (some (.int .i64 4)) none none).run Tryz.prog w = .ok (.slice A8 (n - 4) (C - 4)) w := fun w => by
  rw [hcut]
  exact pcut_l5 (some ⟨g, o, none⟩) n C 4 (by omega) w
 have HCut := h_ hcut
 obtain ⟨m, hm⟩ : ∃ m, m = n - 4 := ⟨_, rfl⟩
 rw [← hm] at hct
 have HM : Hid (m = r.length) := by have := HLen.out; rw [Hid, hm]; omega
 have hm9 : m ≤ 1000000 := by omega
 have HNM : Hid (n = 4 + m) := by have := HLen.out; have := HM.out; rw [Hid]; omega
 clear hcut hm
 have p2 := HP8.out.1 2 _ rfl
 by_cases hs0 : b.s = 0
 ·have hd0 : (b.s == 0) = true := by rw [hs0]; rfl
  have HS0 := h_ hs0
  clear hs0
  go_wp2_with fail
  refine (bneed_any ((m : Int) == 0) _).mono ?_
  rintro e w19 ⟨rfl, ⟨rfl, h0⟩ | ⟨rfl, h0⟩⟩
  rotate_left
  ·have HX : Hid (rdBk x = none) := by
     have hb := bhK_more (s := b.s) (r := r) (fun h => by rw [HM.out, h] at h0; cases h0) HS0.out
     rw [Hid, HRd.out, rdK, if_neg (fun h => by rw [hb] at h; cases h.2)]
   rw [gives_def]
   clear h0
   go_wp2_with fail
   exact ⟨rfl, HB8.out, .inr ⟨rfl, HX.out⟩⟩
  have HX : Hid (rdBk x = some b) := by
   have h1 := eq_of_beq h0
   have hr : r = [] := List.eq_nil_of_length_eq_zero (by rw [← HM.out]; omega)
   have hb : bhK b.s r = true := by rw [hr, HS0.out]; rfl
   rw [Hid, HRd.out, rdK, if_pos ⟨HRi.out, hb⟩]
  clear h0 hct p2
  have p0 := HP8.out.1 0 _ rfl
  have r0 := HR8.out.1 0 _ rfl
  have fr0 := HR8.out.2 0
  have p1 := HP8.out.1 1 _ rfl
  have r1 := HR8.out.1 1 _ rfl
  have fr1 := HR8.out.2 1
  have p2 := HP8.out.1 2 _ rfl
  have r2 := HR8.out.1 2 _ rfl
  have fr2 := HR8.out.2 2
  have p3 := HP8.out.1 3 _ rfl
  have r3 := HR8.out.1 3 _ rfl
  have fr3 := HR8.out.2 3
  go_wp2_with fail
  change bodyPost _ _ _ _ _ (bput4 w8 (w.heap.size + 1) (.int .u64 b.t) (.int .u64 b.n) (.int .i64 b.s) (.slice a3 b.d.length c3))
  have hrow := bput4_row HR8.out (.int .u64 b.t) (.int .u64 b.n) (.int .i64 b.s) (.slice a3 b.d.length c3)
  have hbk : Below w.heap.size w (bput4 w8 (w.heap.size + 1) (.int .u64 b.t) (.int .u64 b.n) (.int .i64 b.s) (.slice a3 b.d.length c3)) := bput4_on HB8.out (Nat.le_succ _) _ _ _ _
  generalize bput4 w8 (w.heap.size + 1) (.int .u64 b.t) (.int .u64 b.n) (.int .i64 b.s) (.slice a3 b.d.length c3) = w30 at *
  have k0 := hrow.1 0 _ rfl
  have k1 := hrow.1 1 _ rfl
  have k2 := hrow.1 2 _ rfl
  have k3 := hrow.1 3 _ rfl
  exact bodyPost_ret (v := .agg #[.int .u64 b.t, .int .u64 b.n, .int .i64 b.s, .slice a3 b.d.length c3]) (by simp [results, Tryz.results62, go_sem, k0, k1, k2, k3]) rfl ⟨hbk, .inl ⟨b, a3, c3, rfl, HOk.out, HRi.out, HX.out, HBD.out.1, HBD.out.2.2, HBS.out⟩⟩
 ·have hd0 : (b.s == 0) = false := by simp [hs0]
  have HS0 := h_ hs0
  clear hs0
  by_cases hm1 : m = 1
  rotate_left
  ·have k1 : ((m : Int) == 1) = false := by simp; omega
   have HX : Hid (rdBk x = none) := by
    have hb := bhK_two (s := b.s) (r := r) (by rw [← HM.out]; exact hm1) HS0.out
    rw [Hid, HRd.out, rdK, if_neg (fun h => by rw [hb] at h; cases h.2)]
   clear hm1
   go_wp2_with fail
   refine (bneed_any false _).mono ?_
   rintro e w19 ⟨rfl, ⟨_, h⟩ | ⟨rfl, _⟩⟩
   ·cases h
   rw [gives_def]
   go_wp2_with fail
   exact ⟨rfl, HB8.out, .inr ⟨rfl, HX.out⟩⟩
  ·obtain ⟨z, hz⟩ : ∃ z, r = [z] := by
     match r, HM.out with
     | [], h => exact absurd h (by rw [hm1]; simp)
     | [z], _ => exact ⟨z, rfl⟩
     | _ :: _ :: _, h => exact absurd h (by rw [hm1]; simp)
   obtain ⟨za, zc, zA, zC, kz⟩ := HRest.out z [] hz
   have hA8 : A8 = some ⟨g, o + 20, none⟩ := by
    have h1 := HNM.out
    rw [HCut.out, if_neg (by omega)]
    simp [Addr.add]
   subst hA8
   have HZZ : Hid (rdBk x = if z.k = 2 then some b else none) := by
    rw [Hid, HRd.out, rdK, hz, bhK_one HS0.out, HRi.out]
    by_cases h : z.k = 2 <;> simp [h]
   subst hm1
   obtain ⟨_, z0, z1, z2, z3, z4⟩ := kz w8 HB8.out
   clear kz hz
   go_wp2_with fail
   clear z0 z1 z2 z3 z4
   refine (bneed_any (z.k == 2) _).mono ?_
   rintro e w19 ⟨rfl, ⟨rfl, h0⟩ | ⟨rfl, h0⟩⟩
   rotate_left
   ·have HX : Hid (rdBk x = none) := by
      rw [Hid, HZZ.out, if_neg]
      intro h
      rw [h] at h0
      cases h0
    rw [gives_def]
    clear h0
    go_wp2_with fail
    exact ⟨rfl, HB8.out, .inr ⟨rfl, HX.out⟩⟩
   have HX : Hid (rdBk x = some b) := by
    rw [Hid, HZZ.out, if_pos (eq_of_beq h0)]
   clear h0 hct p2
   have p0 := HP8.out.1 0 _ rfl
   have r0 := HR8.out.1 0 _ rfl
   have fr0 := HR8.out.2 0
   have p1 := HP8.out.1 1 _ rfl
   have r1 := HR8.out.1 1 _ rfl
   have fr1 := HR8.out.2 1
   have p2 := HP8.out.1 2 _ rfl
   have r2 := HR8.out.1 2 _ rfl
   have fr2 := HR8.out.2 2
   have p3 := HP8.out.1 3 _ rfl
   have r3 := HR8.out.1 3 _ rfl
   have fr3 := HR8.out.2 3
   go_wp2_with fail
   change bodyPost _ _ _ _ _ (bput4 w8 (w.heap.size + 1) (.int .u64 b.t) (.int .u64 b.n) (.int .i64 b.s) (.slice a3 b.d.length c3))
   have hrow := bput4_row HR8.out (.int .u64 b.t) (.int .u64 b.n) (.int .i64 b.s) (.slice a3 b.d.length c3)
   have hbk : Below w.heap.size w (bput4 w8 (w.heap.size + 1) (.int .u64 b.t) (.int .u64 b.n) (.int .i64 b.s) (.slice a3 b.d.length c3)) := bput4_on HB8.out (Nat.le_succ _) _ _ _ _
   generalize bput4 w8 (w.heap.size + 1) (.int .u64 b.t) (.int .u64 b.n) (.int .i64 b.s) (.slice a3 b.d.length c3) = w30 at *
   have k0 := hrow.1 0 _ rfl
   have k1 := hrow.1 1 _ rfl
   have k2 := hrow.1 2 _ rfl
   have k3 := hrow.1 3 _ rfl
   exact bodyPost_ret (v := .agg #[.int .u64 b.t, .int .u64 b.n, .int .i64 b.s, .slice a3 b.d.length c3]) (by simp [results, Tryz.results62, go_sem, k0, k1, k2, k3]) rfl ⟨hbk, .inl ⟨b, a3, c3, rfl, HOk.out, HRi.out, HX.out, HBD.out.1, HBD.out.2.2, HBS.out⟩⟩

attribute [local go_sem] Oper.semAt_some

def ownK (b : Bl) : List UInt8 := if (zeroK b b.s.toNat).err = 0 then encK b b.s.toNat else []

def rdByB (bs : List UInt8) : Except Int Bl := match decodeN bs with
 | .error c => .error c
 | .ok x => match rdBk x with
  | none => .error 160
  | some b => if ownK b = bs then .ok b else .error 110

theorem rdByB_err {bs : List UInt8} {c : Nat} (h : decodeN bs = .error c) : rdByB bs = .error c := by rw [rdByB, h]
theorem rdByB_none {bs : List UInt8} {x : It} (h : decodeN bs = .ok x) (h1 : rdBk x = none) : rdByB bs = .error 160 := by rw [rdByB, h]; simp only [h1]
theorem rdByB_some {bs : List UInt8} {x : It} {b : Bl} (h : decodeN bs = .ok x) (h1 : rdBk x = some b) : rdByB bs = if ownK b = bs then .ok b else .error 110 := by rw [rdByB, h]; simp only [h1]

theorem bkby_own {w w' : World} {e : Ending} {b : Bl} (h : BkBy w b b.s.toNat e w') : ∃ A C z, e = .returned (.tuple #[.slice A (ownK b).length C, .int .i64 z]) ∧ RdB w' w'.heap.size A (ownK b) ∧ Below w.heap.size w w' := by
 obtain ⟨hb, ⟨he, u, rfl, hown⟩ | ⟨he, rfl⟩⟩ := h
 ·obtain ⟨A, C, rfl, _, hr, _⟩ := hown.bytes
  rw [ownK, if_pos he]
  exact ⟨A, C, 0, rfl, hr, hb⟩
 ·rw [ownK, if_neg he]
  exact ⟨none, 0, _, rfl, .inl rfl, hb⟩

def BkAt (w0 w : World) (b : Bl) (v : Value) : Prop := ∃ a c, v = .agg #[.int .u64 b.t, .int .u64 b.n, .int .i64 b.s, .slice a b.d.length c] ∧ b.d.length ≤ c ∧ b.d.length ≤ 140737488355328 ∧ RdBS w (newB w0 w) a b.d

theorem BkAt.of {w0 w w1 w2 : World} {b : Bl} {v : Value} (h : BkAt w w1 b v) (h0 : w0.heap.size ≤ w.heap.size) (hs : w1.heap.size ≤ w2.heap.size) (hk : ∀ j, w.heap.size ≤ j → j < w1.heap.size → w2.heap[j]? = w1.heap[j]?) : BkAt w0 w2 b v := by
 obtain ⟨a, c, rfl, hc, hc47, hr⟩ := h
 refine ⟨a, c, rfl, hc, hc47, RdBS.more (RdBS.keep hr fun j hj => hk j hj.1 hj.2) fun j hj => ⟨Nat.le_trans h0 hj.1, Nat.lt_of_lt_of_le hj.2 hs⟩⟩
theorem BkAt.put {w w1 : World} {b : Bl} {v : Value} (h : BkAt w w1 b v) {g : Nat} (hg : g < w.heap.size) (v0 v1 v2 v3 : Value) : BkAt w (bput4 w1 g v0 v1 v2 v3) b v :=
 h.of (Nat.le_refl _) (Nat.le_of_eq (bput4_size w1 g v0 v1 v2 v3).symm) fun j hj _ => bput4_block (by omega) v0 v1 v2 v3
theorem BkAt.set {w w1 : World} {b : Bl} {v : Value} (h : BkAt w w1 b v) {g i : Nat} (hg : g < w.heap.size) (u : Value) : BkAt w (w1.setCell ⟨g, i, none⟩ u) b v :=
 h.of (Nat.le_refl _) (by simp) fun j hj _ => Below.heap_setCell _ _ _ _ (by show j ≠ g; omega)
theorem BkAt.low {w0 w w1 : World} {b : Bl} {v : Value} (h : BkAt w w1 b v) (h0 : w0.heap.size ≤ w.heap.size) : BkAt w0 w1 b v :=
 h.of h0 (Nat.le_refl _) fun _ _ _ => rfl
theorem BkAt.on {w w1 w2 : World} {b : Bl} {v : Value} (h : BkAt w w1 b v) (hb : Below w1.heap.size w1 w2) : BkAt w w2 b v :=
 h.of (Nat.le_refl _) hb.size fun j _ hj => hb.block j hj

theorem bcells4 {w : World} {g : Nat} {v0 v1 v2 v3 : Value} (h : RowB w g [v0, v1, v2, v3]) : w.cell? ⟨g, 0, none⟩ = some v0 ∧ w.cell? ⟨g, 1, none⟩ = some v1 ∧ w.cell? ⟨g, 2, none⟩ = some v2 ∧ w.cell? ⟨g, 3, none⟩ = some v3 :=
 ⟨h.1 0 _ rfl, h.1 1 _ rfl, h.1 2 _ rfl, h.1 3 _ rfl⟩

def RdBl (w : World) (r : Except Int Bl) (e : Ending) (w' : World) : Prop :=
 Below w.heap.size w w' ∧ match r with
  | .ok b => ∃ v, e = .returned v ∧ BkAt w w' b v
  | .error c => e = gives c
def TrBl (w : World) (r : Except Int Bl) (e : Ending) (w' : World) : Prop :=
 Below w.heap.size w w' ∧ match r with
  | .ok b => ∃ v, e = .returned (.tuple #[v, .int .i64 0]) ∧ BkAt w w' b v
  | .error c => e = .returned (.tuple #[.agg #[.int .u64 0, .int .u64 0, .int .i64 0, .slice none 0 0], .int .i64 c])

theorem bput4_other {w : World} {g b : Nat} (h : b ≠ g) (i : Nat) (v0 v1 v2 v3 : Value) : (bput4 w g v0 v1 v2 v3).cell? ⟨b, i, none⟩ = w.cell? ⟨b, i, none⟩ :=
 World.cell?_of_block (a := ⟨b, i, none⟩) (bput4_block h v0 v1 v2 v3)

theorem bdecoded_any (a : Option Addr) (n c : Nat) (bs : List UInt8) (hn : n = bs.length) (w : World) (hr : RdB w w.heap.size a bs) (hc : n ≤ c) (hc47 : bs.length ≤ 140737488355328) (ht : TabW w) :
  Calls Tryz.prog 28 #[.slice a n c] w (RdBl w (rdByB bs)) := by
 obtain ⟨W, hW⟩ : ∃ W, W = w.alloc (.cells #[.int .u64 0, .int .u64 0, .int .i64 0, .slice none 0 0] 26) := ⟨_, rfl⟩
 have HB0 : Hid (Below w.heap.size w W) := by rw [hW]; exact below_al bR _
 have hsW : w.heap.size + 1 ≤ W.heap.size := by rw [hW]; simp
 have HR0 : Hid (RowB W w.heap.size [.int .u64 0, .int .u64 0, .int .i64 0, .slice none 0 0]) := by rw [hW]; exact RowB.new w [.int .u64 0, .int .u64 0, .int .i64 0, .slice none 0 0] 26
 have HSW := h_ hsW
 have HBs : Hid (∀ w', Below w.heap.size w w' → RdB w' w'.heap.size a bs) := fun w' h => (hr.below h).mono h.size
 have HT : Hid (∀ w', Below w.heap.size w w' → TabW w') := fun w' h => ht.on h
 have HN := h_ hn
 have HW := h_ hW
 have HC47 := h_ hc47
 clear hW hsW hr ht hn hc47
 go_enter Tryz.func28, Tryz.ntmps28
 go_wp2_with fail
 rw [← HW.out]
 refine (decode_any a n c bs HN.out W (HBs.out W HB0.out) hc HC47.out (HT.out W HB0.out)).mono ?_
 rintro e w1 ⟨hb1, hm⟩
 have HB1 := h_ (HB0.out.trans (hb1.mono HB0.out.size))
 have HR1 := h_ (HR0.out.on hb1 (by have := HSW.out; omega))
 have HS1 : Hid (w.heap.size + 1 ≤ w1.heap.size) := Nat.le_trans HSW.out hb1.size
 clear hb1
 cases hit : decodeN bs with
 | error q =>
  rw [hit] at hm
  have hm : e = .returned (.tuple #[itemV 0 0 [], .int .i64 q]) := hm
  subst hm
  have hq := decodeN_err hit
  have hq0 : ((q : Int) == 0) = false := by simp; omega
  have HD := h_ (rdByB_err hit)
  clear hit hm hq
  unfold itemV
  go_wp2_with fail
  refine ⟨by first | trivial | rfl, below_al HB1.out _, ?_⟩
  rw [HD.out]
  rfl
 | ok x =>
  rw [hit] at hm
  obtain ⟨v, rfl, hx⟩ := hm
  obtain ⟨a0, c0, A0, C0, rfl⟩ := hx.form
  have HDp := h_ (decodeN_ok hit)
  have HIt := h_ hit
  obtain ⟨w2, hw2⟩ : ∃ w2, w2 = w1.alloc (.cells #[.int .i64 x.k, .int .u64 x.n, .slice a0 x.b.length c0, .string ⟨x.s.toArray⟩, .slice A0 x.l.length C0] 83) := ⟨_, rfl⟩
  have hb2 : Below w1.heap.size w1 w2 := by rw [hw2]; exact below_al bR _
  have HV : Hid (ItS w2 (newB W w1) (.agg #[.int .i64 x.k, .int .u64 x.n, .slice a0 x.b.length c0, .string ⟨x.s.toArray⟩, .slice A0 x.l.length C0]) x) := ItS.keep (keepNew_below hb2) x hx
  have HNw : Hid (∀ j, newB W w1 j → w.heap.size + 1 ≤ j ∧ j < w2.heap.size) := fun j hj => ⟨Nat.le_trans HSW.out hj.1, Nat.lt_of_lt_of_le hj.2 hb2.size⟩
  obtain ⟨S, hS⟩ : ∃ S, S = newB W w1 := ⟨_, rfl⟩
  rw [← hS] at HV HNw
  have HB2 := h_ (below_on HB1.out hb2)
  have HR2 := h_ (HR1.out.on hb2 (by have := HS1.out; omega))
  have HS2 : Hid (w.heap.size + 1 ≤ w2.heap.size) := Nat.le_trans HS1.out hb2.size
  have HW2 := h_ hw2
  clear hit hx hb2 hw2 hS
  go_wp2_with fail
  rw [← HW2.out]
  refine (bread_any x _ S w2 (fun j hj => (HNw.out j hj).2) HDp.out.2 HV.out (HT.out w2 HB2.out)).mono ?_
  rintro e w3 ⟨hb3, ⟨b, a1, c1, rfl, hok, hri, hrd, hc1, hc147, hrs⟩ | ⟨rfl, hrd⟩⟩
  rotate_left
  ·have HD := h_ (rdByB_none HIt.out hrd)
   have HB3 := h_ (below_on HB2.out hb3)
   rw [gives_def]
   clear hrd hb3
   go_wp2_with fail
   refine ⟨by first | trivial | rfl, HB3.out, ?_⟩
   rw [HD.out]
   rfl
  have HD := h_ (rdByB_some HIt.out hrd)
  have HOk := h_ hok
  have HRi := h_ hri
  have HC1 : Hid (b.d.length ≤ c1 ∧ b.d.length ≤ 140737488355328) := ⟨hc1, hc147⟩
  obtain ⟨w4, hw4⟩ : ∃ w4, w4 = w3.alloc (.cells #[.int .u64 b.t, .int .u64 b.n, .int .i64 b.s, .slice a1 b.d.length c1] 65) := ⟨_, rfl⟩
  have hb4 : Below w3.heap.size w3 w4 := by rw [hw4]; exact below_al bR _
  have HB24 := h_ (below_on hb3 hb4)
  have HB4 := h_ (below_on HB2.out HB24.out)
  have HDt : Hid (∀ w', (∀ j, w.heap.size + 1 ≤ j → j < w2.heap.size → w'.heap[j]? = w2.heap[j]?) → RdBS w' S a1 b.d) := fun w' h => RdBS.keep hrs fun j hj => h j (HNw.out j hj).1 (HNw.out j hj).2
  have HR4 := h_ (HR2.out.on HB24.out (by have := HS2.out; omega))
  have HS4 : Hid (w.heap.size + 1 ≤ w4.heap.size) := Nat.le_trans HS2.out HB24.out.size
  have HX : Hid (∀ w', Below w4.heap.size w4 w' → (w'.cell? ⟨w3.heap.size, 0, none⟩ = some (.int .u64 b.t) ∧ w'.cell? ⟨w3.heap.size, 1, none⟩ = some (.int .u64 b.n) ∧ w'.cell? ⟨w3.heap.size, 2, none⟩ = some (.int .i64 b.s) ∧ w'.cell? ⟨w3.heap.size, 3, none⟩ = some (.slice a1 b.d.length c1))) := fun w' h => by
   rw [hw4] at h
   exact bbox h
  have HW4 := h_ hw4
  clear hrd hok hri hb3 hb4 hw4 hrs hc1 hc147
  go_wp2_with fail
  rw [← HW4.out]
  have hdt4 := HDt.out w4 (fun j _ hj => HB24.out.block j hj)
  refine (blkBytesR_any b a1 c1 HOk.out HRi.out w4 (hdt4.rdB fun j hj => Nat.lt_of_lt_of_le (HNw.out j hj).2 HB24.out.size) HC1.out.1 HC1.out.2 (HT.out w4 HB4.out)).mono ?_
  intro e w5 hby
  obtain ⟨A, C, z, rfl, hrd, hb5⟩ := bkby_own hby
  have HB5 := h_ (below_on HB4.out hb5)
  have HB25 := h_ (below_on HB24.out hb5)
  have HR5 := h_ (HR4.out.on hb5 (by have := HS4.out; omega))
  have HRd := h_ hrd
  obtain ⟨x0, x1, x2, x3⟩ := HX.out w5 hb5
  obtain ⟨L, hL⟩ : ∃ L, L = (ownK b).length := ⟨_, rfl⟩
  rw [← hL]
  have HLn := h_ hL
  obtain ⟨q, hq⟩ : ∃ q, q = (ownK b == bs) := ⟨_, rfl⟩
  have HQ := h_ hq
  clear hby hrd hb5 hL hq hdt4
  go_wp2_with fail
  refine (equal_any A a L n C c (ownK b) bs HLn.out HN.out w5 w5.heap.size HRd.out (HBs.out w5 HB5.out)).mono ?_
  rintro e w6 ⟨rfl, h6⟩
  rw [h6, ← HQ.out]
  clear h6
  cases q
  ·have HD1 : Hid (rdByB bs = .error 110) := by
     rw [Hid, HD.out, if_neg (fun h => by have := HQ.out; rw [h] at this; simp at this)]
   clear x0 x1 x2 x3
   go_wp2_with fail
   refine ⟨by first | trivial | rfl, HB5.out, ?_⟩
   rw [HD1.out]
   rfl
  ·have HD1 : Hid (rdByB bs = .ok b) := by
     rw [Hid, HD.out, if_pos (eq_of_beq HQ.out.symm)]
   have r0 := HR5.out.1 0 _ rfl
   have fr0 := HR5.out.2 0
   have r1 := HR5.out.1 1 _ rfl
   have fr1 := HR5.out.2 1
   have r2 := HR5.out.1 2 _ rfl
   have fr2 := HR5.out.2 2
   have r3 := HR5.out.1 3 _ rfl
   have fr3 := HR5.out.2 3
   go_wp2_with fail
   change bodyPost _ _ _ _ _ (bput4 w5 w.heap.size (.int .u64 b.t) (.int .u64 b.n) (.int .i64 b.s) (.slice a1 b.d.length c1))
   obtain ⟨s0, s1, s2, s3⟩ := bcells4 (bput4_row HR5.out (.int .u64 b.t) (.int .u64 b.n) (.int .i64 b.s) (.slice a1 b.d.length c1))
   have hbk : Below w.heap.size w (bput4 w5 w.heap.size (.int .u64 b.t) (.int .u64 b.n) (.int .i64 b.s) (.slice a1 b.d.length c1)) := bput4_on HB5.out (Nat.le_refl _) (.int .u64 b.t) (.int .u64 b.n) (.int .i64 b.s) (.slice a1 b.d.length c1)
   have hat : BkAt w (bput4 w5 w.heap.size (.int .u64 b.t) (.int .u64 b.n) (.int .i64 b.s) (.slice a1 b.d.length c1)) b (.agg #[.int .u64 b.t, .int .u64 b.n, .int .i64 b.s, .slice a1 b.d.length c1]) :=
    ⟨a1, c1, rfl, HC1.out.1, HC1.out.2, (HDt.out _ (fun j hj1 hj2 => (bput4_block (by omega) (.int .u64 b.t) (.int .u64 b.n) (.int .i64 b.s) (.slice a1 b.d.length c1)).trans (HB25.out.block j hj2))).more fun j hj => ⟨by have := (HNw.out j hj).1; omega, Nat.lt_of_lt_of_le (HNw.out j hj).2 (Nat.le_trans HB25.out.size (Nat.le_of_eq (bput4_size w5 w.heap.size (.int .u64 b.t) (.int .u64 b.n) (.int .i64 b.s) (.slice a1 b.d.length c1)).symm))⟩⟩
   generalize bput4 w5 w.heap.size (.int .u64 b.t) (.int .u64 b.n) (.int .i64 b.s) (.slice a1 b.d.length c1) = w30 at *
   refine bodyPost_ret (v := .agg #[.int .u64 b.t, .int .u64 b.n, .int .i64 b.s, .slice a1 b.d.length c1]) (by simp [results, Tryz.results28, go_sem, s0, s1, s2, s3]) rfl ⟨hbk, ?_⟩
   rw [HD1.out]
   exact ⟨_, rfl, hat⟩

theorem bdecode1_any (P : Nat) (a : Option Addr) (n c : Nat) (bs : List UInt8) (hn : n = bs.length) (w : World) (hP : w.cell? ⟨P, 0, none⟩ = some (.slice a n c)) (hr : RdB w w.heap.size a bs) (hc : n ≤ c) (hc47 : bs.length ≤ 140737488355328) (ht : TabW w) :
  Calls Tryz.prog 27 #[.pointer (some ⟨P, 0, none⟩)] w (RdBl w (rdByB bs)) := by
 obtain ⟨W, hW⟩ : ∃ W, W = w.alloc (.cells #[.int .u64 0, .int .u64 0, .int .i64 0, .slice none 0 0] 26) := ⟨_, rfl⟩
 have hPb := World.block_lt_of_cell? w _ hP
 have HB0 : Hid (Below w.heap.size w W) := by rw [hW]; exact below_al bR _
 have hsW : w.heap.size + 1 ≤ W.heap.size := by rw [hW]; simp
 have HR0 : Hid (RowB W w.heap.size [.int .u64 0, .int .u64 0, .int .i64 0, .slice none 0 0]) := by rw [hW]; exact RowB.new w [.int .u64 0, .int .u64 0, .int .i64 0, .slice none 0 0] 26
 have hP1 : W.cell? ⟨P, 0, none⟩ = some (.slice a n c) := (HB0.out.cell (p := ⟨P, 0, none⟩) hPb).trans hP
 have HSW := h_ hsW
 have HK := h_ (bdecoded_any a n c bs hn W ((hr.below HB0.out).mono HB0.out.size) hc hc47 (ht.on HB0.out))
 rw [hW] at hP1
 have HW := h_ hW
 clear hW hsW hr ht hn hc47 hP hPb
 go_enter Tryz.func27, Tryz.ntmps27
 go_wp2_with fail
 clear hP1
 rw [← HW.out]
 refine HK.out.mono ?_
 rintro e w1 ⟨hb1, hm⟩
 have HB1 := h_ (HB0.out.trans (hb1.mono HB0.out.size))
 have HR1 := h_ (HR0.out.on hb1 (by have := HSW.out; omega))
 clear hb1
 obtain ⟨r, hr⟩ : ∃ r, r = rdByB bs := ⟨_, rfl⟩
 rw [← hr] at hm
 have HRr := h_ hr
 clear hr
 cases r with
 | error q =>
  have hm : e = gives q := hm
  subst hm
  rw [gives_def]
  go_wp2_with fail
  exact ⟨by first | trivial | rfl, HB1.out, by rw [← HRr.out]; rfl⟩
 | ok b =>
  have hm : ∃ v, e = .returned v ∧ BkAt W w1 b v := hm
  obtain ⟨v, rfl, hat⟩ := hm
  have HAt := h_ hat
  obtain ⟨a1, c1, rfl, _⟩ := hat
  have r0 := HR1.out.1 0 _ rfl
  have fr0 := HR1.out.2 0
  have r1 := HR1.out.1 1 _ rfl
  have fr1 := HR1.out.2 1
  have r2 := HR1.out.1 2 _ rfl
  have fr2 := HR1.out.2 2
  have r3 := HR1.out.1 3 _ rfl
  have fr3 := HR1.out.2 3
  go_wp2_with fail
  change bodyPost _ _ _ _ _ (bput4 w1 w.heap.size (.int .u64 b.t) (.int .u64 b.n) (.int .i64 b.s) (.slice a1 b.d.length c1))
  obtain ⟨s0, s1, s2, s3⟩ := bcells4 (bput4_row HR1.out (.int .u64 b.t) (.int .u64 b.n) (.int .i64 b.s) (.slice a1 b.d.length c1))
  have hbk : Below w.heap.size w (bput4 w1 w.heap.size (.int .u64 b.t) (.int .u64 b.n) (.int .i64 b.s) (.slice a1 b.d.length c1)) := bput4_on HB1.out (Nat.le_refl _) (.int .u64 b.t) (.int .u64 b.n) (.int .i64 b.s) (.slice a1 b.d.length c1)
  have hat2 : BkAt w (bput4 w1 w.heap.size (.int .u64 b.t) (.int .u64 b.n) (.int .i64 b.s) (.slice a1 b.d.length c1)) b (.agg #[.int .u64 b.t, .int .u64 b.n, .int .i64 b.s, .slice a1 b.d.length c1]) := (HAt.out.put (by have := HSW.out; omega) (.int .u64 b.t) (.int .u64 b.n) (.int .i64 b.s) (.slice a1 b.d.length c1)).low HB0.out.size
  generalize bput4 w1 w.heap.size (.int .u64 b.t) (.int .u64 b.n) (.int .i64 b.s) (.slice a1 b.d.length c1) = w30 at *
  exact bodyPost_ret (v := .agg #[.int .u64 b.t, .int .u64 b.n, .int .i64 b.s, .slice a1 b.d.length c1]) (by simp [results, Tryz.results27, go_sem, s0, s1, s2, s3]) rfl ⟨hbk, by rw [← HRr.out]; exact ⟨_, rfl, hat2⟩⟩

theorem catchB_gives (p : Addr) (x c : Int) (w : World) (hc : w.cell? p = some (.int .i64 x)) (hz : w.frozen? p = false) :
  CallsD Tryz.prog 60 #[.pointer (some p)] (.panicking [{ v := .iface 28 (.int .i64 c), recovered := false }]) w fun e u' w' =>
   e = .returned (.tuple #[]) ∧ u' = .panicking [{ v := .iface 28 (.int .i64 c), recovered := true }] ∧ w' = w.setCell p (.int .i64 c) := by
 refine callsD_of_wpS Tryz.func60 rfl fun c₀ cs hu => ?_
 apply wpS_seq
 apply wpS_region
 simp [wpOpsS, go_sem, recoverD, hu, Tryz.ntmps60, Exit.thenS]
 refine wpS_of_wp ?_
 change Code.wp _ _ _ { tmps := #[.pointer (some p), .iface 28 (.int .i64 c), .iface 28 (.int .i64 c), undef, undef, undef, undef], defers := [] } _
 have has := bassert_errno (.int .i64 c)
 go_wp2_with fail
 cases c₀
 simp_all [bodyPostS, results, Tryz.results60]

theorem catchB_idle (p : Addr) (w : World) :
  CallsD Tryz.prog 60 #[.pointer (some p)] .returning w fun e u' w' => e = .returned (.tuple #[]) ∧ u' = .returning ∧ w' = w := by
 refine callsD_of_wpS Tryz.func60 rfl fun c₀ cs hu => ?_
 apply wpS_seq
 apply wpS_region
 simp [wpOpsS, go_sem, recoverD, hu, Tryz.ntmps60, Exit.thenS]
 refine wpS_of_wp ?_
 change Code.wp _ _ _ { tmps := #[.pointer (some p), .nilIface, .nilIface, undef, undef, undef, undef], defers := [] } _
 go_wp2_with fail
 cases c₀
 simp_all [bodyPostS, results, Tryz.results60]

theorem triedB_any (fc : Nat) (fs lb : Array Value) (r : Except Int Bl) (w : World) (hent : ∀ args w, (callFunc fc args).run Tryz.prog w = .ok (.enter fc args) w) (hR : ∀ w', Below w.heap.size w w' → Calls Tryz.prog fc (fs ++ lb) w' (RdBl w' r)) :
  Calls Tryz.prog 26 #[.func (.func fc) fs lb] w (TrBl w r) := by
 have hmf : ∀ (fn : Fn) (first cap : Array Value) (w : World), (Instr.makeFunc fn first cap).run Tryz.prog w = .ok (.func fn first cap) w := fun _ _ _ _ => rfl
 obtain ⟨W, hW⟩ : ∃ W, W = (w.alloc (.cells #[.int .u64 0, .int .u64 0, .int .i64 0, .slice none 0 0] 26)).alloc (.cells #[.int .i64 0] 28) := ⟨_, rfl⟩
 have hbW : Below w.heap.size w W := by rw [hW]; exact below_al (below_al bR _) _
 have hsW : W.heap.size = w.heap.size + 2 := by rw [hW]; simp
 have HRx : Hid (RowB W w.heap.size [.int .u64 0, .int .u64 0, .int .i64 0, .slice none 0 0]) := by
  rw [hW]
  exact (RowB.new w [.int .u64 0, .int .u64 0, .int .i64 0, .slice none 0 0] 26).on (below_al bR _) (by simp)
 have HRe : Hid (RowB W (w.heap.size + 1) [.int .i64 0]) := by
  have h := RowB.new (w.alloc (.cells #[.int .u64 0, .int .u64 0, .int .i64 0, .slice none 0 0] 26)) [.int .i64 0] 28
  rw [World.size_alloc] at h
  rw [hW]
  exact h
 have HB := h_ hbW
 have HW := h_ hW
 have HSW := h_ hsW
 have HR := h_ (hR W hbW)
 clear hW hbW hR hsW
 go_enter_defers Tryz.func26, Tryz.ntmps26
 go_wp2_with fail
 rw [← HW.out]
 refine HR.out.mono ?_
 rintro e w1 ⟨hb1, hm⟩
 have hs2 := HSW.out
 have hx1 := HRx.out.on hb1 (by omega)
 have he1 := HRe.out.on hb1 (by omega)
 have HX1 := h_ hx1
 have HE1 := h_ he1
 have HB1 := h_ (HB.out.trans (hb1.mono HB.out.size))
 have ec : w1.cell? ⟨w.heap.size + 1, 0, none⟩ = some (.int .i64 0) := he1.1 0 _ rfl
 have ef := he1.2 0
 clear hb1 hs2 hx1 he1
 cases r with
 | error q =>
  have hm : e = gives q := hm
  subst hm
  rw [gives_def]
  go_wp2_with fail
  refine leaves_cons (f := 60) (args := #[.pointer (some ⟨w.heap.size + 1, 0, none⟩)]) (by simp) (by simp [go_sem]) ?_
  refine (catchB_gives ⟨w.heap.size + 1, 0, none⟩ 0 q w1 ec ef).mono ?_
  rintro e u' w'' ⟨rfl, rfl, rfl⟩
  have hrow := HX1.out.other (c := w.heap.size + 1) (i := 0) (Nat.succ_ne_self _) (.int .i64 q)
  have k99 : (w1.setCell ⟨w.heap.size + 1, 0, none⟩ (.int .i64 q)).cell? ⟨w.heap.size + 1, 0, none⟩ = some (.int .i64 q) := World.cell?_setCell_same _ _ _ ec
  have hP : TrBl w (.error q) (.returned (.tuple #[.agg #[.int .u64 0, .int .u64 0, .int .i64 0, .slice none 0 0], .int .i64 q])) (w1.setCell ⟨w.heap.size + 1, 0, none⟩ (.int .i64 q)) := ⟨HB1.out.setCell (p := ⟨w.heap.size + 1, 0, none⟩) (Nat.le_succ _) _, rfl⟩
  generalize w1.setCell ⟨w.heap.size + 1, 0, none⟩ (.int .i64 q) = w9 at *
  have k0 := hrow.1 0 _ rfl
  have k1 := hrow.1 1 _ rfl
  have k2 := hrow.1 2 _ rfl
  have k3 := hrow.1 3 _ rfl
  simp [Leaves, settle, results, Tryz.results26, go_sem, k0, k1, k2, k3, k99]
  exact hP
 | ok b =>
  have hm : ∃ v, e = .returned v ∧ BkAt W w1 b v := hm
  obtain ⟨v, rfl, hat⟩ := hm
  have HAt := h_ hat
  obtain ⟨a1, c1, rfl, _⟩ := hat
  have r0 := HX1.out.1 0 _ rfl
  have fr0 := HX1.out.2 0
  have r1 := HX1.out.1 1 _ rfl
  have fr1 := HX1.out.2 1
  have r2 := HX1.out.1 2 _ rfl
  have fr2 := HX1.out.2 2
  have r3 := HX1.out.1 3 _ rfl
  have fr3 := HX1.out.2 3
  go_wp2_with fail
  change bodyPostD _ _ _ _ _ ((bput4 w1 w.heap.size (.int .u64 b.t) (.int .u64 b.n) (.int .i64 b.s) (.slice a1 b.d.length c1)).setCell ⟨w.heap.size + 1, 0, none⟩ (.int .i64 0))
  have e9 := (bput4_other (w := w1) (g := w.heap.size) (show w.heap.size + 1 ≠ w.heap.size from Nat.succ_ne_self _) 0 (.int .u64 b.t) (.int .u64 b.n) (.int .i64 b.s) (.slice a1 b.d.length c1)).trans ec
  have hrow2 := bput4_row HX1.out (.int .u64 b.t) (.int .u64 b.n) (.int .i64 b.s) (.slice a1 b.d.length c1)
  have hbk : Below w.heap.size w (bput4 w1 w.heap.size (.int .u64 b.t) (.int .u64 b.n) (.int .i64 b.s) (.slice a1 b.d.length c1)) := bput4_on HB1.out (Nat.le_refl _) (.int .u64 b.t) (.int .u64 b.n) (.int .i64 b.s) (.slice a1 b.d.length c1)
  have hat2 : BkAt W (bput4 w1 w.heap.size (.int .u64 b.t) (.int .u64 b.n) (.int .i64 b.s) (.slice a1 b.d.length c1)) b (.agg #[.int .u64 b.t, .int .u64 b.n, .int .i64 b.s, .slice a1 b.d.length c1]) := HAt.out.put (by have := HSW.out; omega) (.int .u64 b.t) (.int .u64 b.n) (.int .i64 b.s) (.slice a1 b.d.length c1)
  generalize bput4 w1 w.heap.size (.int .u64 b.t) (.int .u64 b.n) (.int .i64 b.s) (.slice a1 b.d.length c1) = w3 at *
  have hrow3 := hrow2.other (c := w.heap.size + 1) (i := 0) (Nat.succ_ne_self _) (.int .i64 0)
  have k99 : (w3.setCell ⟨w.heap.size + 1, 0, none⟩ (.int .i64 0)).cell? ⟨w.heap.size + 1, 0, none⟩ = some (.int .i64 0) := World.cell?_setCell_same _ _ _ e9
  have hP : TrBl w (.ok b) (.returned (.tuple #[.agg #[.int .u64 b.t, .int .u64 b.n, .int .i64 b.s, .slice a1 b.d.length c1], .int .i64 0])) (w3.setCell ⟨w.heap.size + 1, 0, none⟩ (.int .i64 0)) := ⟨hbk.setCell (p := ⟨w.heap.size + 1, 0, none⟩) (Nat.le_succ _) _, _, rfl, (hat2.set (by have := HSW.out; omega) _).low HB.out.size⟩
  refine leaves_cons (f := 60) (args := #[.pointer (some ⟨w.heap.size + 1, 0, none⟩)]) (by simp) (by simp [go_sem]) ?_
  refine (catchB_idle ⟨w.heap.size + 1, 0, none⟩ _).mono ?_
  rintro e u' w'' ⟨rfl, rfl, rfl⟩
  generalize w3.setCell ⟨w.heap.size + 1, 0, none⟩ (.int .i64 0) = w9 at *
  have k0 := hrow3.1 0 _ rfl
  have k1 := hrow3.1 1 _ rfl
  have k2 := hrow3.1 2 _ rfl
  have k3 := hrow3.1 3 _ rfl
  simp [Leaves, settle, results, Tryz.results26, go_sem, k0, k1, k2, k3, k99]
  exact hP

theorem trBl_agg {w w' : World} {r : Except Int Bl} {e : Ending} (h : TrBl w r e w') : ∃ (b : Bl) (a : Option Addr) (m c : Nat) (z : Int), e = .returned (.tuple #[.agg #[.int .u64 b.t, .int .u64 b.n, .int .i64 b.s, .slice a m c], .int .i64 z]) ∧ ((r = .ok b ∧ z = 0 ∧ BkAt w w' b (.agg #[.int .u64 b.t, .int .u64 b.n, .int .i64 b.s, .slice a m c])) ∨ (r = .error z ∧ b = ⟨0, 0, 0, []⟩ ∧ a = none ∧ m = 0 ∧ c = 0)) := by
 obtain ⟨_, h⟩ := h
 cases r with
 | error q => exact ⟨⟨0, 0, 0, []⟩, none, 0, 0, q, h, .inr ⟨rfl, rfl, rfl, rfl, rfl⟩⟩
 | ok b =>
  obtain ⟨v, rfl, hat⟩ := h
  have hat0 := hat
  obtain ⟨a, c, rfl, _⟩ := hat
  exact ⟨b, a, _, c, 0, rfl, .inl ⟨rfl, rfl, hat0⟩⟩

theorem blkDecode_any (a : Option Addr) (n c : Nat) (bs : List UInt8) (hn : n = bs.length) (w : World) (hr : RdB w w.heap.size a bs) (hc : n ≤ c) (hc47 : bs.length ≤ 140737488355328) (ht : TabW w) :
  Calls Tryz.prog 11 #[.slice a n c] w (TrBl w (rdByB bs)) := by
 have hmf : ∀ (fn : Fn) (first cap : Array Value) (w : World), (Instr.makeFunc fn first cap).run Tryz.prog w = .ok (.func fn first cap) w := fun _ _ _ _ => rfl
 obtain ⟨W1, hW1⟩ : ∃ W, W = w.alloc (.cells #[.slice a n c] 24) := ⟨_, rfl⟩
 have s1 : W1.heap.size = w.heap.size + 1 := by rw [hW1]; simp
 have hb1 : Below w.heap.size w W1 := by rw [hW1]; exact below_al bR _
 obtain ⟨W, hW⟩ : ∃ W, W = W1.alloc (.cells #[.int .u64 0, .int .u64 0, .int .i64 0, .slice none 0 0] 26) := ⟨_, rfl⟩
 have hb2 : Below W1.heap.size W1 W := by rw [hW]; exact below_al bR _
 have hbW : Below w.heap.size w W := below_on hb1 hb2
 have hsW : W.heap.size = w.heap.size + 2 := by rw [hW]; simp [s1]
 have hc0 : W1.cell? ⟨w.heap.size, 0, none⟩ = some (.slice a n c) := by rw [hW1]; simp
 have HB := h_ hbW
 have HT := h_ (triedB_any 27 #[] #[.pointer (some ⟨w.heap.size, 0, none⟩)] (rdByB bs) W (enters_of Tryz.func27 (by kernel_rfl) rfl) (fun w' hb => by
  have h := bdecode1_any w.heap.size a n c bs hn w' (((hb.cell (p := ⟨w.heap.size, 0, none⟩) (show w.heap.size < _ by omega)).trans (hb2.cell (p := ⟨w.heap.size, 0, none⟩) (show w.heap.size < _ by omega))).trans hc0) ((hr.below (below_on hbW hb)).mono (below_on hbW hb).size) hc hc47 (ht.on (below_on hbW hb))
  simpa using h))
 have HR : Hid (RowB W (w.heap.size + 1) [.int .u64 0, .int .u64 0, .int .i64 0, .slice none 0 0]) := by rw [hW, ← s1]; exact RowB.new W1 [.int .u64 0, .int .u64 0, .int .i64 0, .slice none 0 0] 26
 have HSW : Hid (w.heap.size + 2 ≤ W.heap.size) := Nat.le_of_eq hsW.symm
 have HW : Hid (W = (w.alloc (.cells #[.slice a n c] 24)).alloc (.cells #[.int .u64 0, .int .u64 0, .int .i64 0, .slice none 0 0] 26)) := by rw [← hW1]; exact hW
 clear hW1 hW hb1 hb2 hbW s1 hsW hc0 hr ht hn hc47
 go_enter Tryz.func11, Tryz.ntmps11
 go_wp2_with fail
 rw [← HW.out]
 refine HT.out.mono ?_
 intro e w1 htr
 have HBB := h_ (below_on HB.out htr.1)
 have HR1 := h_ (HR.out.on htr.1 (by have := HSW.out; omega))
 obtain ⟨b, a1, m1, c1, z, rfl, hr⟩ := trBl_agg htr
 have HTr := h_ hr
 clear htr hr
 have r0 := HR1.out.1 0 _ rfl
 have fr0 := HR1.out.2 0
 have r1 := HR1.out.1 1 _ rfl
 have fr1 := HR1.out.2 1
 have r2 := HR1.out.1 2 _ rfl
 have fr2 := HR1.out.2 2
 have r3 := HR1.out.1 3 _ rfl
 have fr3 := HR1.out.2 3
 go_wp2_with fail
 change bodyPost _ _ _ _ _ (bput4 w1 (w.heap.size + 1) (.int .u64 b.t) (.int .u64 b.n) (.int .i64 b.s) (.slice a1 m1 c1))
 obtain ⟨s0, s1, s2, s3⟩ := bcells4 (bput4_row HR1.out (.int .u64 b.t) (.int .u64 b.n) (.int .i64 b.s) (.slice a1 m1 c1))
 have hbk : Below w.heap.size w (bput4 w1 (w.heap.size + 1) (.int .u64 b.t) (.int .u64 b.n) (.int .i64 b.s) (.slice a1 m1 c1)) := bput4_on HBB.out (Nat.le_succ _) (.int .u64 b.t) (.int .u64 b.n) (.int .i64 b.s) (.slice a1 m1 c1)
 have hP : TrBl w (rdByB bs) (.returned (.tuple #[.agg #[.int .u64 b.t, .int .u64 b.n, .int .i64 b.s, .slice a1 m1 c1], .int .i64 z])) (bput4 w1 (w.heap.size + 1) (.int .u64 b.t) (.int .u64 b.n) (.int .i64 b.s) (.slice a1 m1 c1)) := by
  refine ⟨hbk, ?_⟩
  rcases HTr.out with ⟨h1, rfl, hat⟩ | ⟨h1, rfl, rfl, rfl, rfl⟩
  ·rw [h1]
   exact ⟨_, rfl, (hat.put (by have := HSW.out; omega) (.int .u64 b.t) (.int .u64 b.n) (.int .i64 b.s) (.slice a1 m1 c1)).low HB.out.size⟩
  ·rw [h1]
   rfl
 generalize bput4 w1 (w.heap.size + 1) (.int .u64 b.t) (.int .u64 b.n) (.int .i64 b.s) (.slice a1 m1 c1) = w30 at *
 exact bodyPost_ret (v := .tuple #[.agg #[.int .u64 b.t, .int .u64 b.n, .int .i64 b.s, .slice a1 m1 c1], .int .i64 z]) (by simp [results, Tryz.results11, go_sem, s0, s1, s2, s3]) rfl hP

end Go.Proofs.YtiahakbkagipkaaGreatDoor
