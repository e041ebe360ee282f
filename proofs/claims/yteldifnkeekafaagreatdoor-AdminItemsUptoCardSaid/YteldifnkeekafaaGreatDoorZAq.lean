/- Joined texts. -/
import Derived.Test.YteldifnkeekafaaGreatDoorZAo
import Derived.Deep.CutBlock
import Derived.Deep.CutRange
set_option maxHeartbeats 32000000
set_option linter.unusedSimpArgs false
set_option linter.unusedVariables false
set_option maxRecDepth 100000
namespace Go.Proofs.YteldifnkeekafaaGreatDoor
open Go Go.RowKit Go.Shelf

attribute [local go_sem] Oper.semAt_some

def sO (i : Nat) : Nat := ([49, 50, 51, 52, 53, 54, 55, 56, 57, 58, 59] : List Nat).getD i 0
def slO (j : Nat) (β : Nat → Nat) : Value := ([.slice (some ⟨β 1, 0, none⟩) 5 5, .slice (some ⟨β 2, 0, none⟩) 4 4, .slice (some ⟨β 3, 0, none⟩) 6 6, .slice (some ⟨β 4, 0, none⟩) 5 5, .slice (some ⟨β 5, 0, none⟩) 5 5] : List Value).getD j undef
def vO (X : Value) (j i : Nat) (β : Nat → Nat) : Value := ([X, .slice (some ⟨β 1, 0, none⟩) 5 5, .slice (some ⟨β 2, 0, none⟩) 4 4, .slice (some ⟨β 3, 0, none⟩) 6 6, .slice (some ⟨β 4, 0, none⟩) 5 5, .slice (some ⟨β 5, 0, none⟩) 5 5, .slice (some ⟨β 6, 0, none⟩) 5 5, .int .i64 ((j : Int) + 1), .int .i64 j, .pointer (some ⟨β 6, j, none⟩), slO j β] : List Value).getD i undef
def zO (i : Nat) (β : Nat → Nat) : Option (List Value) := ([none, some [.int .i64 1, .int .i64 4, .int .i64 1, .int .i64 1, .int .i64 1], some [.int .i64 1, .int .i64 1, .int .i64 1, .int .i64 1], some [.int .i64 1, .int .i64 1, .int .i64 1, .int .i64 1, .int .i64 5, .int .i64 1], some [.int .i64 1, .int .i64 1, .int .i64 1, .int .i64 1, .int .i64 1], some [.int .i64 1, .int .i64 1, .int .i64 1, .int .i64 1, .int .i64 5], some [.slice (some ⟨β 1, 0, none⟩) 5 5, .slice (some ⟨β 2, 0, none⟩) 4 4, .slice (some ⟨β 3, 0, none⟩) 6 6, .slice (some ⟨β 4, 0, none⟩) 5 5, .slice (some ⟨β 5, 0, none⟩) 5 5]] : List (Option (List Value))).getD i none

theorem vO_loc (X : Value) (j k : Nat) (β β' : Nat → Nat) (hk : k < 11) (h : ∀ i, i ≤ 6 → (i = k ∨ (k = 6 ∧ 1 ≤ i) ∨ (k = 9 ∧ 1 ≤ i) ∨ (k = 10 ∧ 1 ≤ i)) → β i = β' i) : vO X j k β = vO X j k β' ∧ zO k β = zO k β' := by
 match k, hk with
 | 0, _ => exact ⟨rfl, rfl⟩
 | 1, _ => exact ⟨by simp [vO, h 1 (by omega) (by omega)], rfl⟩
 | 2, _ => exact ⟨by simp [vO, h 2 (by omega) (by omega)], rfl⟩
 | 3, _ => exact ⟨by simp [vO, h 3 (by omega) (by omega)], rfl⟩
 | 4, _ => exact ⟨by simp [vO, h 4 (by omega) (by omega)], rfl⟩
 | 5, _ => exact ⟨by simp [vO, h 5 (by omega) (by omega)], rfl⟩
 | 6, _ => exact ⟨by simp [vO, h 6 (by omega) (by omega)], by simp [zO, h 1 (by omega) (by omega), h 2 (by omega) (by omega), h 3 (by omega) (by omega), h 4 (by omega) (by omega), h 5 (by omega) (by omega)]⟩
 | 7, _ => exact ⟨rfl, rfl⟩
 | 8, _ => exact ⟨rfl, rfl⟩
 | 9, _ => exact ⟨by simp [vO, h 6 (by omega) (by omega)], rfl⟩
 | 10, _ => exact ⟨by simp [vO, slO, h 1 (by omega) (by omega), h 2 (by omega) (by omega), h 3 (by omega) (by omega), h 4 (by omega) (by omega), h 5 (by omega) (by omega)], rfl⟩

def nsR (x : It) (m : Nat) : List Value := (List.range 6).map fun i => .int .u64 (if i < m then (nAt x i : Int) else 0)
theorem nsR_at (x : It) (m i : Nat) (hi : i < 6) : (nsR x m)[i]? = some (.int .u64 (if i < m then (nAt x i : Int) else 0)) := by
 simp [nsR, hi]
theorem nsR_set (x : It) (m : Nat) (hm : m < 6) : (nsR x m).set m (.int .u64 (nAt x m : Int)) = nsR x (m + 1) := by
 apply List.ext_getElem?
 intro i
 by_cases hi : i < 6
 ·rw [nsR_at x (m + 1) i hi]
  by_cases e : m = i
  ·subst e
   rw [List.getElem?_set_self (by simp [nsR, hm]), if_pos (Nat.lt_succ_self _)]
  ·rw [List.getElem?_set_ne e, nsR_at x m i hi]
   by_cases h : i < m
   ·rw [if_pos h, if_pos (by omega)]
   ·rw [if_neg h, if_neg (by omega)]
 ·rw [List.getElem?_eq_none (by simp [nsR]; omega), List.getElem?_eq_none (by simp [nsR]; omega)]
theorem mod32 (n : Nat) : IntKind.u32.wrap ((n : Int).tmod 4294967296) = ((n % 4294967296 : Nat) : Int) := by
 rw [Int.tmod_eq_emod_of_nonneg (by omega)]
 simp [IntKind.wrap, IntKind.bits, IntKind.signed]
theorem mod8 (n : Nat) : IntKind.u8.wrap ((n : Int).tmod 256) = ((n % 256 : Nat) : Int) := by
 rw [Int.tmod_eq_emod_of_nonneg (by omega)]
 simp [IntKind.wrap, IntKind.bits, IntKind.signed]
theorem minw (n : Nat) : IntKind.i64.wrap (min (n : Int) 9) = ((min n 9 : Nat) : Int) := by
 simp [IntKind.wrap, IntKind.bits, IntKind.signed]
 omega
theorem minz (n : Nat) : min (n : Int) 9 = ((min n 9 : Nat) : Int) := by omega
theorem beq_one (n : Nat) : ((n : Int) == 1) = (n == 1) := by
 rw [Bool.eq_iff_iff]
 simp
 omega
theorem nAt_of {x y : It} {i : Nat} (h : x.l[i]? = some y) (h0 : 0 ≤ y.n) : (nAt x i : Int) = y.n := by
 rw [nAt, h]
 simp
 omega

theorem zst (s : Nat) {ty ps af} (tm : Array Value) (df) (w : World) (b : Nat) {a0 : Int} {a1 : Int} {a2 : Int} {a3 : Int} {a4 : Int} {a5 : Int} {a6 : Int} {a7 : Int} {a8 : Int} {a9 : Int} {a10 : Int} {a11 : Bool} {a12 : Int} {a13 : Int} {a14 : Int} (K : Act → World → Prop) (Q) (h2 : tm[2]? = some (.pointer (some ⟨b, 0, none⟩))) (hs : tm[s]? = some (.agg #[.int .i64 a0, .int .u32 a1, .int .u32 a2, .int .u64 a3, .int .u32 a4, .int .i64 a5, .int .i64 a6, .int .u64 a7, .int .u64 a8, .int .u32 a9, .int .u32 a10, .bool a11, .int .u64 a12, .int .u64 a13, .int .u8 a14])) (hr : RowB w b [.int .i64 0, .int .u32 0, .int .u32 0, .int .u64 0, .int .u32 0, .int .i64 0, .int .i64 0, .int .u64 0, .int .u64 0, .int .u32 0, .int .u32 0, .bool false, .int .u64 0, .int .u64 0, .int .u8 0]) (hK : K ⟨tm, df⟩ (putL w b 0 [.int .i64 a0, .int .u32 a1, .int .u32 a2, .int .u64 a3, .int .u32 a4, .int .i64 a5, .int .i64 a6, .int .u64 a7, .int .u64 a8, .int .u32 a9, .int .u32 a10, .bool a11, .int .u64 a12, .int .u64 a13, .int .u8 a14])) : Oper.wp Tryz.prog { dst := none, op := Op.store 32 (Operand.tmp 2) (Operand.tmp s), type := ty, pos := ps, after := af, guard := none } ⟨tm, df⟩ w K Q := by
 obtain ⟨r0, r1, r2, r3, r4, r5, r6, r7, r8, r9, r10, r11, r12, r13, r14⟩ := r15 hr
 obtain ⟨f0, f1, f2, f3, f4, f5, f6, f7, f8, f9, f10, f11, f12, f13, f14⟩ := f15 hr
 have HKp := h_ hK
 clear hK hr
 go_simp
 exact HKp.out
theorem zld (s d : Nat) {ps af} (tm : Array Value) (df) (w : World) (b : Nat) {a0 : Int} {a1 : Int} {a2 : Int} {a3 : Int} {a4 : Int} {a5 : Int} {a6 : Int} {a7 : Int} {a8 : Int} {a9 : Int} {a10 : Int} {a11 : Bool} {a12 : Int} {a13 : Int} {a14 : Int} (K : Act → World → Prop) (Q) (h2 : tm[s]? = some (.pointer (some ⟨b, 0, none⟩))) (hr : RowB w b [.int .i64 a0, .int .u32 a1, .int .u32 a2, .int .u64 a3, .int .u32 a4, .int .i64 a5, .int .i64 a6, .int .u64 a7, .int .u64 a8, .int .u32 a9, .int .u32 a10, .bool a11, .int .u64 a12, .int .u64 a13, .int .u8 a14]) (hK : K ⟨tm.setIfInBounds d (.agg #[.int .i64 a0, .int .u32 a1, .int .u32 a2, .int .u64 a3, .int .u32 a4, .int .i64 a5, .int .i64 a6, .int .u64 a7, .int .u64 a8, .int .u32 a9, .int .u32 a10, .bool a11, .int .u64 a12, .int .u64 a13, .int .u8 a14]), df⟩ w) : Oper.wp Tryz.prog { dst := some d, op := Op.load 32 (Operand.tmp s), type := 32, pos := ps, after := af, guard := none } ⟨tm, df⟩ w K Q := by
 obtain ⟨r0, r1, r2, r3, r4, r5, r6, r7, r8, r9, r10, r11, r12, r13, r14⟩ := r15 hr
 have HKp := h_ hK
 clear hK hr
 go_simp
 exact HKp.out

theorem zret {R : Ending → World → Prop} (tm : Array Value) (df) (t : Bool) (w : World) (b : Nat) {a0 : Int} {a1 : Int} {a2 : Int} {a3 : Int} {a4 : Int} {a5 : Int} {a6 : Int} {a7 : Int} {a8 : Int} {a9 : Int} {a10 : Int} {a11 : Bool} {a12 : Int} {a13 : Int} {a14 : Int} (h2 : tm[2]? = some (.pointer (some ⟨b, 0, none⟩))) (h3 : tm[3]? = some (.bool t)) (hd : df = []) (hr : RowB w b [.int .i64 a0, .int .u32 a1, .int .u32 a2, .int .u64 a3, .int .u32 a4, .int .i64 a5, .int .i64 a6, .int .u64 a7, .int .u64 a8, .int .u32 a9, .int .u32 a10, .bool a11, .int .u64 a12, .int .u64 a13, .int .u8 a14]) (hR : R (.returned (.tuple #[.agg #[.int .i64 a0, .int .u32 a1, .int .u32 a2, .int .u64 a3, .int .u32 a4, .int .i64 a5, .int .i64 a6, .int .u64 a7, .int .u64 a8, .int .u32 a9, .int .u32 a10, .bool a11, .int .u64 a12, .int .u64 a13, .int .u8 a14], .bool t])) w) : bodyPost Tryz.prog Tryz.f15 R .ret ⟨tm, df⟩ w := by
 obtain ⟨k0, k1, k2, k3, k4, k5, k6, k7, k8, k9, k10, k11, k12, k13, k14⟩ := r15 hr
 exact bodyPost_ret (v := .tuple #[.agg #[.int .i64 a0, .int .u32 a1, .int .u32 a2, .int .u64 a3, .int .u32 a4, .int .i64 a5, .int .i64 a6, .int .u64 a7, .int .u64 a8, .int .u32 a9, .int .u32 a10, .bool a11, .int .u64 a12, .int .u64 a13, .int .u8 a14], .bool t]) (by simp [results, Tryz.results15, go_sem, h2, h3, k0, k1, k2, k3, k4, k5, k6, k7, k8, k9, k10, k11, k12, k13, k14]) hd hR

theorem zstI (p s : Nat) {ty ps af} (tm : Array Value) (df) (w : World) (b i : Nat) {z : Int} {c0 : Value} (K : Act → World → Prop) (Q) (h2 : tm[p]? = some (.pointer (some ⟨b, i, none⟩))) (hs : tm[s]? = some (.int .i64 z)) (hc : w.cell? ⟨b, i, none⟩ = some c0) (hf : w.frozen? ⟨b, i, none⟩ = false) (hK : K ⟨tm, df⟩ (w.setCell ⟨b, i, none⟩ (.int .i64 z))) : Oper.wp Tryz.prog { dst := none, op := Op.store 3 (Operand.tmp p) (Operand.tmp s), type := ty, pos := ps, after := af, guard := none } ⟨tm, df⟩ w K Q := by
 have HKp := h_ hK
 clear hK
 go_simp
 exact HKp.out

theorem zstU (p s : Nat) {ty ps af} (tm : Array Value) (df) (w : World) (b i : Nat) {z : Int} {c0 : Value} (K : Act → World → Prop) (Q) (h2 : tm[p]? = some (.pointer (some ⟨b, i, none⟩))) (hs : tm[s]? = some (.int .u64 z)) (hc : w.cell? ⟨b, i, none⟩ = some c0) (hf : w.frozen? ⟨b, i, none⟩ = false) (hK : K ⟨tm, df⟩ (w.setCell ⟨b, i, none⟩ (.int .u64 z))) : Oper.wp Tryz.prog { dst := none, op := Op.store 28 (Operand.tmp p) (Operand.tmp s), type := ty, pos := ps, after := af, guard := none } ⟨tm, df⟩ w K Q := by
 have HKp := h_ hK
 clear hK
 go_simp
 exact HKp.out

theorem of_main (x : It) (a A : Option Addr) (c C : Nat) (y : It) (l : List It) (j : Nat) (hk : x.k = 4) (hl : x.l = y :: l) (hy : y.k = 1) (hn : y.n = (j : Int) + 1) (hj : j < 5) (hcok : (candR j x).ok) (w : World) (hv : ItV w w.heap.size (.agg #[.int .i64 x.k, .int .u64 x.n, .slice a x.b.length c, .string ⟨x.s.toArray⟩, .slice A x.l.length C]) x) : Calls Tryz.prog 15 #[.agg #[.int .i64 x.k, .int .u64 x.n, .slice a x.b.length c, .string ⟨x.s.toArray⟩, .slice A x.l.length C]] w (OfP w x) := by
 obtain ⟨W, hW⟩ : ∃ W, W = (w.alloc (.cells #[.int .i64 x.k, .int .u64 x.n, .slice a x.b.length c, .string ⟨x.s.toArray⟩, .slice A x.l.length C] 45)).alloc (.cells #[.int .i64 0, .int .u32 0, .int .u32 0, .int .u64 0, .int .u32 0, .int .i64 0, .int .i64 0, .int .u64 0, .int .u64 0, .int .u32 0, .int .u32 0, .bool false, .int .u64 0, .int .u64 0, .int .u8 0] 32) := ⟨_, rfl⟩
 have hb : Below w.heap.size w W := by rw [hW]; exact below_al (below_al bR _) _
 have hz : RowB W (w.heap.size + 1) [.int .i64 0, .int .u32 0, .int .u32 0, .int .u64 0, .int .u32 0, .int .i64 0, .int .i64 0, .int .u64 0, .int .u64 0, .int .u32 0, .int .u32 0, .bool false, .int .u64 0, .int .u64 0, .int .u8 0] := by
  rw [hW]
  have h := RowB.new (w.alloc (.cells #[.int .i64 x.k, .int .u64 x.n, .slice a x.b.length c, .string ⟨x.s.toArray⟩, .slice A x.l.length C] 45)) [.int .i64 0, .int .u32 0, .int .u32 0, .int .u64 0, .int .u32 0, .int .i64 0, .int .i64 0, .int .u64 0, .int .u64 0, .int .u32 0, .int .u32 0, .bool false, .int .u64 0, .int .u64 0, .int .u8 0] 32
  rw [World.size_alloc] at h
  exact h
 have hx : RowB W w.heap.size [.int .i64 x.k, .int .u64 x.n, .slice a x.b.length c, .string ⟨x.s.toArray⟩, .slice A x.l.length C] := by
  rw [hW]
  exact (RowB.new w _ _).on (below_al bR _) (by simp)
 have hs0 : W.heap.size = w.heap.size + 2 := by rw [hW]; simp
 have hd : kdI x = j + 1 := by
  rw [kdI, hl]
  simp only [if_pos hy, hn]
  omega
 have HOf : Hid (ofR x = if goodR j x = true then some (candR j x) else none) := by
  rw [Hid, ofR, if_pos ⟨hk, by omega, by omega⟩, hd]
  rfl
 have d9 : 0 < x.l.length := by rw [hl]; simp
 obtain ⟨hC, hlist⟩ := hv.dlist
 obtain ⟨g, o, rfl, hg, hL⟩ := hlist.resolve_left (by rw [hl]; simp)
 have HX : Hid (∀ w', Below W.heap.size W w' → (w'.cell? ⟨w.heap.size, 0, none⟩ = some (.int .i64 x.k) ∧ w'.cell? ⟨w.heap.size, 1, none⟩ = some (.int .u64 x.n) ∧ w'.cell? ⟨w.heap.size, 2, none⟩ = some (.slice a x.b.length c) ∧ w'.cell? ⟨w.heap.size, 3, none⟩ = some (.string ⟨x.s.toArray⟩) ∧ w'.cell? ⟨w.heap.size, 4, none⟩ = some (.slice (some ⟨g, o, none⟩) x.l.length C)) ∧ RowB w' (w.heap.size + 1) [.int .i64 0, .int .u32 0, .int .u32 0, .int .u64 0, .int .u32 0, .int .i64 0, .int .i64 0, .int .u64 0, .int .u64 0, .int .u32 0, .int .u32 0, .bool false, .int .u64 0, .int .u64 0, .int .u8 0] ∧ (∀ (i : Nat) (yi : It), x.l[i]? = some yi → w'.cell? ⟨g, o + i * 5 + 1, none⟩ = some (.int .u64 yi.n)) ∧ ItV w' w'.heap.size (.agg #[.int .i64 x.k, .int .u64 x.n, .slice a x.b.length c, .string ⟨x.s.toArray⟩, .slice (some ⟨g, o, none⟩) x.l.length C]) x) := fun w' h => by
  have h1 := hx.on h (by omega)
  have hbb := below_on hb h
  refine ⟨⟨h1.1 0 _ rfl, h1.1 1 _ rfl, h1.1 2 _ rfl, h1.1 3 _ rfl, h1.1 4 _ rfl⟩, hz.on h (by omega), fun i yi hi => ?_, hv.on hbb⟩
  obtain ⟨_, _, _, _, hp⟩ := hL.pcells hg hi
  exact (hp w' hbb).2.2.1
 have HU : Hid (∀ (i : Nat) (yi : It), x.l[i]? = some yi → U64 yi.n) := fun i yi hi => by
  obtain ⟨u, hu⟩ := hv.kids (List.mem_of_getElem? hi)
  exact hu.dparts.1
 obtain ⟨_, _, _, _, hp⟩ := hL.pcells hg (i := 0) (y := y) (by rw [hl]; rfl)
 obtain ⟨c0, c1, _, _, _⟩ := (hp W hb).2
 simp only [Nat.zero_mul, Nat.add_zero] at c0 c1
 rw [hn] at c1
 rw [hy] at c0
 have d1 : (x.k != 4) = false := by simpa using hk
 have d2 : ((x.l.length : Int) == 0) = false := by rw [hl]; simp; omega
 have d4 : decide ((j : Int) + 1 < 1) = false := decide_eq_false (by omega)
 have d5 : decide (5 < (j : Int) + 1) = false := decide_eq_false (by omega)
 have hwj : IntKind.i64.wrap ((j : Int) + 1) = (j : Int) + 1 := by simp [IntKind.wrap, IntKind.bits, IntKind.signed]; omega
 have hz0 : (0 : Nat) < x.l.length := d9
 have HC := h_ hcok
 have HB0 := h_ hb
 have HK := h_ hk
 have HS0 := h_ hs0
 have HJ := h_ hj
 have HW := h_ hW
 have HLs := h_ hL
 have HGg := h_ hg
 obtain ⟨⟨x0, x1, x2, x3, x4⟩, _⟩ := HX.out W bR
 rw [HW.out] at x0 x1 x2 x3 x4 c0 c1
 clear hW hb hv hz hx hs0 hd hlist hL hp hg hC hl hy hn hk hcok
 go_enter Tryz.func15, Tryz.ntmps15
 go_upto_region 4 with fail
 rw [← HW.out]
 clear x0 x1 x2 x3 x4 c0 c1 d1 d2 d4 d5 hwj hz0 d9
 refine wp_region_free2 11 sO (fun i β => vO (.agg #[.int .i64 x.k, .int .u64 x.n, .slice a x.b.length c, .string ⟨x.s.toArray⟩, .slice (some ⟨g, o, none⟩) x.l.length C]) j i β) zO (by kernel_rfl) (by decide) (fun i k hi hk => (by decide : ∀ i, i < 11 → ∀ k, k < 11 → sO i = sO k → i = k) i hi k hk) (fun i hi => (by decide : ∀ i, i < 11 → sO i < 193) i hi) (dep_ok (by kernel_rfl)) (late_ok (by kernel_rfl)) ?loc ?step ?fin
 case loc =>
  intro k β β' hk h
  refine vO_loc _ j k β β' hk fun i hi hc => h i ?_
  rcases hc with e | ⟨e, h1⟩ | ⟨e, h1⟩ | ⟨e, h1⟩
  ·exact .inl e
  all_goals
   subst e
   rcases (show i = 1 ∨ i = 2 ∨ i = 3 ∨ i = 4 ∨ i = 5 ∨ i = 6 by omega) with rfl | rfl | rfl | rfl | rfl | rfl <;> first | exact .inl rfl | exact .inr (by kernel_rfl)
 case step =>
  intro i tm v β K hi hb htz hrest hdeps hrow hK
  obtain ⟨⟨x0, x1, x2, x3, x4⟩, _⟩ := HX.out v hb
  have HKp := h_ hK
  have t1 : tm[1]? = some (.pointer (some ⟨w.heap.size, 0, none⟩)) := hrest 1 (by decide)
  have t4 : tm[4]? = some (.int .i64 ((j : Int) + 1)) := hrest 4 (by decide)
  have H6 : i = 10 → RowB v (β 6) [.slice (some ⟨β 1, 0, none⟩) 5 5, .slice (some ⟨β 2, 0, none⟩) 4 4, .slice (some ⟨β 3, 0, none⟩) 6 6, .slice (some ⟨β 4, 0, none⟩) 5 5, .slice (some ⟨β 5, 0, none⟩) 5 5] := fun e => by
   subst e
   exact (hrow 6 _ (by omega) (by kernel_rfl) rfl).1
  clear hK hrest htz hrow
  match i, hi with
  | 0, _ =>
   clear hdeps H6 t4
   refine wpOp_of rfl rfl ?_
   go_simp
   exact HKp.out 0 v bR (fun zs h => by cases h)
  | 1, _ =>
   clear hdeps H6 t1 t4 x0 x1 x2 x3 x4
   refine wpOp_of rfl rfl ?_
   go_simp
   exact HKp.out v.heap.size _ (below_al bR _) (fun zs h => by injection h with h; subst h; exact ⟨RowB.new v _ _, Nat.le_refl _, by simp⟩)
  | 2, _ =>
   clear hdeps H6 t1 t4 x0 x1 x2 x3 x4
   refine wpOp_of rfl rfl ?_
   go_simp
   exact HKp.out v.heap.size _ (below_al bR _) (fun zs h => by injection h with h; subst h; exact ⟨RowB.new v _ _, Nat.le_refl _, by simp⟩)
  | 3, _ =>
   clear hdeps H6 t1 t4 x0 x1 x2 x3 x4
   refine wpOp_of rfl rfl ?_
   go_simp
   exact HKp.out v.heap.size _ (below_al bR _) (fun zs h => by injection h with h; subst h; exact ⟨RowB.new v _ _, Nat.le_refl _, by simp⟩)
  | 4, _ =>
   clear hdeps H6 t1 t4 x0 x1 x2 x3 x4
   refine wpOp_of rfl rfl ?_
   go_simp
   exact HKp.out v.heap.size _ (below_al bR _) (fun zs h => by injection h with h; subst h; exact ⟨RowB.new v _ _, Nat.le_refl _, by simp⟩)
  | 5, _ =>
   clear hdeps H6 t1 t4 x0 x1 x2 x3 x4
   refine wpOp_of rfl rfl ?_
   go_simp
   exact HKp.out v.heap.size _ (below_al bR _) (fun zs h => by injection h with h; subst h; exact ⟨RowB.new v _ _, Nat.le_refl _, by simp⟩)
  | 6, _ =>
   have e1 : tm[50]? = some (.slice (some ⟨β 1, 0, none⟩) 5 5) := hdeps 1 (by kernel_rfl)
   have e2 : tm[51]? = some (.slice (some ⟨β 2, 0, none⟩) 4 4) := hdeps 2 (by kernel_rfl)
   have e3 : tm[52]? = some (.slice (some ⟨β 3, 0, none⟩) 6 6) := hdeps 3 (by kernel_rfl)
   have e4 : tm[53]? = some (.slice (some ⟨β 4, 0, none⟩) 5 5) := hdeps 4 (by kernel_rfl)
   have e5 : tm[54]? = some (.slice (some ⟨β 5, 0, none⟩) 5 5) := hdeps 5 (by kernel_rfl)
   clear hdeps H6 t1 t4 x0 x1 x2 x3 x4
   refine wpOp_of rfl rfl ?_
   go_simp
   exact HKp.out v.heap.size _ (below_al bR _) (fun zs h => by injection h with h; subst h; exact ⟨RowB.new v _ _, Nat.le_refl _, by simp⟩)
  | 7, _ =>
   clear hdeps H6 t1 x0 x1 x2 x3 x4
   refine wpOp_of rfl rfl ?_
   go_simp
   exact HKp.out 0 v bR (fun zs h => by cases h)
  | 8, _ =>
   have e7 : tm[56]? = some (.int .i64 ((j : Int) + 1)) := hdeps 7 (by kernel_rfl)
   have hw8 : IntKind.i64.wrap ((j : Int) + 1 - 1) = (j : Int) := by simp [IntKind.wrap, IntKind.bits, IntKind.signed]; omega
   have hw9 : IntKind.i64.wrap (j : Int) = (j : Int) := by simp [IntKind.wrap, IntKind.bits, IntKind.signed]; omega
   clear hdeps H6 t1 t4 x0 x1 x2 x3 x4
   refine wpOp_of rfl rfl ?_
   go_simp
   exact HKp.out 0 v bR (fun zs h => by cases h)
  | 9, _ =>
   have e6 : tm[55]? = some (.slice (some ⟨β 6, 0, none⟩) 5 5) := hdeps 6 (by kernel_rfl)
   have e8 : tm[57]? = some (.int .i64 (j : Int)) := hdeps 8 (by kernel_rfl)
   have hj5 : (j : Int) < 5 := by omega
   have hj0 : (0 : Int) ≤ (j : Int) := by omega
   clear hdeps H6 t1 t4 x0 x1 x2 x3 x4
   refine wpOp_of rfl rfl ?_
   go_simp
   exact HKp.out 0 v bR (fun zs h => by cases h)
  | 10, _ =>
   have e9 : tm[58]? = some (.pointer (some ⟨β 6, j, none⟩)) := hdeps 9 (by kernel_rfl)
   have hr6 := H6 rfl
   have c6 : v.cell? ⟨β 6, j, none⟩ = some (slO j β) := hr6.1 j _ (by
    rcases (show j = 0 ∨ j = 1 ∨ j = 2 ∨ j = 3 ∨ j = 4 by omega) with rfl | rfl | rfl | rfl | rfl <;> rfl)
   clear hdeps hr6 H6 t1 t4 x0 x1 x2 x3 x4
   refine wpOp_of rfl rfl ?_
   go_simp
   exact HKp.out 0 v bR (fun zs h => by cases h)
  | n + 11, h => exact absurd h (by omega)
 case fin =>
  intro v β listed hsz hl1 hl2 hb hz hne
  have hle := listed_eq hsz hl1 hl2
  rw [hle]
  have HRw := h_ (fun i zs hi hz' => hz i zs hi hz')
  clear hle hsz hl1 hl2 hz hne
  simp only [laidT, sO, vO, List.getD_cons_zero, List.getD_cons_succ, zA, zB, zC]
  have F : Below W.heap.size W v := hb
  obtain ⟨gs, hgs⟩ : ∃ gs, slO j β = .slice (some ⟨gs, 0, none⟩) (ksK j).length (ksK j).length ∧ NkK v gs (ksK j) := by
   have key : ∀ (i : Nat) (ks : List Int), i < 11 → zO i β = some (ks.map fun n => Value.int .i64 n) → NkK v (β i) ks := fun i ks hi hz' => by
    obtain ⟨r1, r2, r3⟩ := HRw.out i _ hi hz'
    exact ⟨r3, fun q hq => r1.1 q _ (by rw [List.getElem?_map, List.getElem?_eq_getElem hq]; simp)⟩
   rcases (show j = 0 ∨ j = 1 ∨ j = 2 ∨ j = 3 ∨ j = 4 by have := HJ.out; omega) with rfl | rfl | rfl | rfl | rfl
   ·exact ⟨β 1, rfl, key 1 _ (by omega) rfl⟩
   ·exact ⟨β 2, rfl, key 2 _ (by omega) rfl⟩
   ·exact ⟨β 3, rfl, key 3 _ (by omega) rfl⟩
   ·exact ⟨β 4, rfl, key 4 _ (by omega) rfl⟩
   ·exact ⟨β 5, rfl, key 5 _ (by omega) rfl⟩
  rw [hgs.1]
  have HSh := h_ (shape_ref x _ gs (ksK j).length (ksK j).length (ksK j) rfl (by rcases (show j = 0 ∨ j = 1 ∨ j = 2 ∨ j = 3 ∨ j = 4 by have := HJ.out; omega) with rfl | rfl | rfl | rfl | rfl <;> decide) v (HX.out v F).2.2.2 hgs.2)
  clear hgs HRw hb
  generalize β 1 = q1
  generalize β 2 = q2
  generalize β 3 = q3
  generalize β 4 = q4
  generalize β 5 = q5
  generalize β 6 = q6
  generalize (ksK j).length = lk at *
  change wpAny _ _ _ _ 2 _ _ _
  refine wpAny_one (i := 11) (by kernel_rfl) rfl (fun K hK => ?_)
  have HKp := h_ hK
  clear hK
  go_simp
  refine HSh.out.mono ?_
  rintro e v1 ⟨rfl, hb1⟩
  replace F := below_on F hb1
  clear hb1 HSh
  generalize hsh : shapeB x (ksK j) = sh
  have HSq := h_ hsh
  clear hsh
  have hK := HKp.out
  refine hK _ _ ?_
  clear hK HKp K
  try simp only [Act.put, zA, zB, zC]
  refine wpAny_one (i := 12) (by kernel_rfl) rfl (fun K hK => ?_)
  have HKp := h_ hK
  clear hK
  go_simp
  have hK := HKp.out
  refine hK _ _ ?_
  clear hK HKp K
  try simp only [Act.put, zA, zB, zC]
  refine ⟨by kernel_rfl, ?_⟩
  simp only [Exit.then]
  have HF := h_ F
  clear F
  cases sh
  ·have HN : Hid (ofR x = none) := by
     rw [Hid, HOf.out, if_neg]
     rw [goodR, HSq.out]
     simp
   have HRz := h_ (HX.out v1 HF.out).2.1
   have HBv : Hid (Below w.heap.size w v1) := below_on HB0.out HF.out
   go_upto_region 5 with fail
   iterate 5 (first | go_skip | go_guarded | go_step)
   refine zst _ _ _ _ _ _ _ (by rfl) (by rfl) HRz.out ?_
   repeat (first | go_skip | go_guarded | go_step)
   change bodyPost _ _ _ _ _ (putL v1 (w.heap.size + 1) 0 [.int .i64 0, .int .u32 0, .int .u32 0, .int .u64 0, .int .u32 0, .int .i64 0, .int .i64 0, .int .u64 0, .int .u64 0, .int .u32 0, .int .u32 0, .bool false, .int .u64 0, .int .u64 0, .int .u8 0])
   have hrow : RowB (putL v1 (w.heap.size + 1) 0 [.int .i64 0, .int .u32 0, .int .u32 0, .int .u64 0, .int .u32 0, .int .i64 0, .int .i64 0, .int .u64 0, .int .u64 0, .int .u32 0, .int .u32 0, .bool false, .int .u64 0, .int .u64 0, .int .u8 0]) (w.heap.size + 1) [.int .i64 0, .int .u32 0, .int .u32 0, .int .u64 0, .int .u32 0, .int .i64 0, .int .i64 0, .int .u64 0, .int .u64 0, .int .u32 0, .int .u32 0, .bool false, .int .u64 0, .int .u64 0, .int .u8 0] := putL_row _ _ 0 _ HRz.out
   have hbk : Below w.heap.size w (putL v1 (w.heap.size + 1) 0 [.int .i64 0, .int .u32 0, .int .u32 0, .int .u64 0, .int .u32 0, .int .i64 0, .int .i64 0, .int .u64 0, .int .u64 0, .int .u32 0, .int .u32 0, .bool false, .int .u64 0, .int .u64 0, .int .u8 0]) := putL_bel (Nat.le_succ _) _ 0 _ HBv.out
   generalize putL v1 (w.heap.size + 1) 0 [.int .i64 0, .int .u32 0, .int .u32 0, .int .u64 0, .int .u32 0, .int .i64 0, .int .i64 0, .int .u64 0, .int .u64 0, .int .u32 0, .int .u32 0, .bool false, .int .u64 0, .int .u64 0, .int .u8 0] = w30 at *
   exact zret _ _ false _ _ (by rfl) (by rfl) rfl hrow ⟨hbk, .inr ⟨HN.out, rfl⟩⟩
  have hmap := (shapeB_iff.1 HSq.out).2
  have hlen : x.l.length = (ksK j).length := by rw [← hmap, List.length_map]
  have hl6 : x.l.length ≤ 6 := by
   rw [hlen]
   rcases (show j = 0 ∨ j = 1 ∨ j = 2 ∨ j = 3 ∨ j = 4 by have := HJ.out; omega) with rfl | rfl | rfl | rfl | rfl <;> decide
  have HLen := h_ hlen
  have HMap := h_ hmap
  clear hlen hmap
  have HBv : Hid (Below W.heap.size W v1) := HF.out
  obtain ⟨v6, hv6⟩ : ∃ v6, v6 = v1.alloc (.cells #[.int .u64 0, .int .u64 0, .int .u64 0, .int .u64 0, .int .u64 0, .int .u64 0] 70) := ⟨_, rfl⟩
  have hb6 : Below v1.heap.size v1 v6 := by rw [hv6]; exact below_al bR _
  have R50 : RowB v6 v1.heap.size (nsR x 0) := by rw [hv6]; exact RowB.new v1 _ _
  have hz6 : v1.heap.size < v6.heap.size := by rw [hv6]; simp
  have H0 : Hid (Below v1.heap.size v1 v6 ∧ RowB v6 v1.heap.size (nsR x 0) ∧ v1.heap.size < v6.heap.size) := ⟨hb6, R50, hz6⟩
  have HV6 := h_ hv6
  have HL6 := h_ hl6
  clear hv6 hb6 R50 hz6 hl6
  go_upto_region 7 with fail
  rw [← HV6.out]
  go_wp2_with fail
  go_loopw [6] (fun i wr => ∃ m : Nat, m ≤ x.l.length ∧ i = .int .i64 m ∧ Hid (Below v1.heap.size v1 wr ∧ RowB wr v1.heap.size (nsR x m) ∧ v1.heap.size < wr.heap.size)) (fun i _ => x.l.length - (intOf i).toNat)
  case atStart => exact ⟨0, Nat.zero_le _, rfl, H0.out⟩
  case round =>
   obtain ⟨m, hm, rfl, hI⟩ := hrel
   have HI := h_ (Hid.out hI)
   obtain ⟨⟨x0, x1, x2, x3, x4⟩, _, hxn, _⟩ := HX.out wr (below_on HBv.out HI.out.1)
   by_cases hlt : m < x.l.length
   ·have hm6 : m < 6 := by have := HL6.out; omega
    obtain ⟨ym, hym⟩ : ∃ ym, x.l[m]? = some ym := ⟨_, List.getElem?_eq_getElem hlt⟩
    have hn0 := (HU.out m ym hym).1
    have hc := hxn m ym hym
    rw [← nAt_of hym hn0] at hc
    have q0 := HI.out.2.1.1 m _ (nsR_at x m m hm6)
    have q1 := HI.out.2.1.2 m
    have HNx : Hid (Below v1.heap.size v1 (wr.setCell ⟨v1.heap.size, m, none⟩ (.int .u64 (nAt x m : Int))) ∧ RowB (wr.setCell ⟨v1.heap.size, m, none⟩ (.int .u64 (nAt x m : Int))) v1.heap.size (nsR x (m + 1)) ∧ v1.heap.size < (wr.setCell ⟨v1.heap.size, m, none⟩ (.int .u64 (nAt x m : Int))).heap.size) := by
     refine ⟨HI.out.1.setCell (p := ⟨v1.heap.size, m, none⟩) (Nat.le_refl _) _, ?_, by rw [World.size_setCell]; exact HI.out.2.2⟩
     have h := HI.out.2.1.set m (.int .u64 (nAt x m : Int))
     rw [nsR_set x m hm6] at h
     exact h
    have hml : (m : Int) < 6 := by omega
    clear hym hn0 hxn hI
    generalize nAt x m = nm at *
    go_wp2_with fail
    go_roundw
    case rel => exact ⟨m + 1, by omega, by go_num, HNx.out⟩
    case measure => simp [intOf]; omega
   ·have hme : m = x.l.length := by omega
    have R5 : Hid (RowB wr v1.heap.size (nsR x x.l.length)) := by
     have h := HI.out.2.1
     rw [hme] at h
     exact h
    have HFw : Hid (Below W.heap.size W wr) := below_on HBv.out HI.out.1
    have HZw : Hid (W.heap.size ≤ v1.heap.size ∧ v1.heap.size < wr.heap.size) := ⟨HBv.out.size, HI.out.2.2⟩
    obtain ⟨v7, hv7⟩ : ∃ v7, v7 = wr.alloc (.cells #[.int .i64 ((j : Int) + 1), .int .u32 0, .int .u32 0, .int .u64 0, .int .u32 0, .int .i64 0, .int .i64 0, .int .u64 0, .int .u64 0, .int .u32 0, .int .u32 0, .bool false, .int .u64 0, .int .u64 0, .int .u8 0] 32) := ⟨_, rfl⟩
    have hb7 : Below wr.heap.size wr v7 := by rw [hv7]; exact below_al bR _
    have R7 : RowB v7 wr.heap.size [.int .i64 ((j : Int) + 1), .int .u32 0, .int .u32 0, .int .u64 0, .int .u32 0, .int .i64 0, .int .i64 0, .int .u64 0, .int .u64 0, .int .u32 0, .int .u32 0, .bool false, .int .u64 0, .int .u64 0, .int .u8 0] := by rw [hv7]; exact RowB.new wr _ _
    have hz7 : wr.heap.size < v7.heap.size := by rw [hv7]; simp
    have HF7 : Hid (Below W.heap.size W v7) := below_on HFw.out hb7
    have HR7 := h_ R7
    have HR5 := h_ (R5.out.on hb7 HZw.out.2)
    have HZ7 := h_ hz7
    have HV7 := h_ hv7
    clear hme hI hxn hv7 hb7 R7 hz7
    go_upto_region 11 with fail
    clear x0 x1 x2 x3 x4 hlt
    go_upto_region 13 with fail
    rw [← HV7.out]
    go_upto_block 2 with fail
    go_cut [8] from 81 to 176 (fun v8 wx => v8 = .bool (fineR j x) ∧ Hid (Below W.heap.size W wx ∧ RowB wx wr.heap.size (candR j x).cells))
    case first =>
     as_aux_lemma =>
      obtain ⟨kk, hkk⟩ : ∃ kk : Int, kk = (j : Int) + 1 := ⟨_, rfl⟩
      rw [← hkk] at HR7 ⊢
      have HKk := h_ hkk
      clear hkk
      rcases (show j = 0 ∨ j = 1 ∨ j = 2 ∨ j = 3 ∨ j = 4 by have := HJ.out; omega) with rfl | rfl | rfl | rfl | rfl
      ·as_aux_lemma =>
         have kt1 : (kk == 1) = true := by rw [HKk.out]; rfl
         have e5 : nsR x x.l.length = [.int .u64 (nAt x 0 : Int), .int .u64 (nAt x 1 : Int), .int .u64 (nAt x 2 : Int), .int .u64 (nAt x 3 : Int), .int .u64 (nAt x 4 : Int), .int .u64 0] := by rw [HLen.out]; simp [nsR, ksK, List.range, List.range.loop]
         have R5 := HR5.out
         rw [e5] at R5
         clear e5
         have hu : ∀ i, i < x.l.length → nAt x i < 18446744073709551616 := fun i hi => by
          have h := HU.out i _ (List.getElem?_eq_getElem hi)
          have e := nAt_of (List.getElem?_eq_getElem hi) h.1
          have := h.2
          omega
         have hl' := HLen.out
         have u1 : nAt x 1 < 18446744073709551616 := hu 1 (by rw [hl']; decide)
         have u2 : nAt x 2 < 18446744073709551616 := hu 2 (by rw [hl']; decide)
         have u3 : nAt x 3 < 18446744073709551616 := hu 3 (by rw [hl']; decide)
         have u4 : nAt x 4 < 18446744073709551616 := hu 4 (by rw [hl']; decide)
         clear hu hl'
         have F := HF7.out
         have R := HR7.out
         have hne : wr.heap.size ≠ v1.heap.size := by have := HZw.out.2; omega
         have HNe := h_ hne
         clear hne
         have hmap := HMap.out
         have hl1 : 1 < x.l.length := by rw [HLen.out]; decide
         obtain ⟨y1, hy1⟩ : ∃ y1, x.l[1]? = some y1 := ⟨_, List.getElem?_eq_getElem hl1⟩
         obtain ⟨a0, c0, A0, C0, hp1⟩ := HLs.out.pcells HGg.out hy1
         have hb7 := below_on HB0.out F
         obtain ⟨hv1, p0, p1, p2, p3, p4⟩ := hp1 v7 hb7
         simp only [Nat.one_mul] at p0 p1 p2 p3 p4
         obtain ⟨⟨x0, x1, x2, x3, x4⟩, _⟩ := HX.out v7 F
         have HNo := h_ (refNOf_any y1 _ v7 (hv1.mono hb7.size))
         have HY1 := h_ hy1
         have HR5 := h_ R5
         have HF := h_ F
         have HR := h_ R
         have hl1' : (1 : Nat) < x.l.length := hl1
         clear hmap hy1 hp1 hb7 hv1 R5 F R hl1
         go_wp2_with fail
         clear x0 x1 x2 x3 x4 p0 p1 p2 p3 p4 hl1'
         refine HNo.out.mono ?_
         rintro e v8 ⟨hb8, n, m, t, q, b, rfl, hnm⟩
         have hzz := HZ7.out
         have hzw := HZw.out.2
         have R5 := HR5.out.on hb8 (by omega)
         have R := HR.out.on hb8 hzz
         have F := below_on HF.out hb8
         have hnmc : nmC x = ((n, m, t, q), b) := by
          rw [nmC, HY1.out]
          rcases hnm with ⟨rfl, h⟩ | ⟨rfl, h, rfl, rfl, rfl, rfl⟩
          ·simp only [Option.bind_some, h]
          ·simp only [Option.bind_some, h]
         have HNc := h_ hnmc
         clear hnm hnmc hb8 hzz hzw
         have s0 := R.1 1 _ rfl
         have g0 := R.2 1
         have s1 := R.1 2 _ rfl
         have g1 := R.2 2
         have s2 := R.1 3 _ rfl
         have g2 := R.2 3
         have s3 := R.1 4 _ rfl
         have g3 := R.2 4
         have HR5 := h_ R5
         have HF := h_ F
         have HR := h_ R
         clear R5 F R
         go_upto_region 17 with fail
         clear s0 g0 s1 g1 s2 g2 s3 g3
         have R5 : RowB ((((v8.setCell ⟨wr.heap.size, 1, none⟩ (.int .u32 n)).setCell ⟨wr.heap.size, 2, none⟩ (.int .u32 m)).setCell ⟨wr.heap.size, 3, none⟩ (.int .u64 t)).setCell ⟨wr.heap.size, 4, none⟩ (.int .u32 q)) v1.heap.size [.int .u64 (nAt x 0 : Int), .int .u64 (nAt x 1 : Int), .int .u64 (nAt x 2 : Int), .int .u64 (nAt x 3 : Int), .int .u64 (nAt x 4 : Int), .int .u64 0] := ((((HR5.out.other (i := 1) HNe.out (.int .u32 n)).other (i := 2) HNe.out (.int .u32 m)).other (i := 3) HNe.out (.int .u64 t)).other (i := 4) HNe.out (.int .u32 q))
         have R : RowB ((((v8.setCell ⟨wr.heap.size, 1, none⟩ (.int .u32 n)).setCell ⟨wr.heap.size, 2, none⟩ (.int .u32 m)).setCell ⟨wr.heap.size, 3, none⟩ (.int .u64 t)).setCell ⟨wr.heap.size, 4, none⟩ (.int .u32 q)) wr.heap.size [.int .i64 kk, .int .u32 n, .int .u32 m, .int .u64 t, .int .u32 q, .int .i64 0, .int .i64 0, .int .u64 0, .int .u64 0, .int .u32 0, .int .u32 0, .bool false, .int .u64 0, .int .u64 0, .int .u8 0] := ((((HR.out.set 1 (.int .u32 n)).set 2 (.int .u32 m)).set 3 (.int .u64 t)).set 4 (.int .u32 q))
         have F : Below W.heap.size W ((((v8.setCell ⟨wr.heap.size, 1, none⟩ (.int .u32 n)).setCell ⟨wr.heap.size, 2, none⟩ (.int .u32 m)).setCell ⟨wr.heap.size, 3, none⟩ (.int .u64 t)).setCell ⟨wr.heap.size, 4, none⟩ (.int .u32 q)) := ((((HF.out.setCell (p := ⟨wr.heap.size, 1, none⟩) (by have := HZw.out; show W.heap.size ≤ wr.heap.size; omega) (.int .u32 n)).setCell (p := ⟨wr.heap.size, 2, none⟩) (by have := HZw.out; show W.heap.size ≤ wr.heap.size; omega) (.int .u32 m)).setCell (p := ⟨wr.heap.size, 3, none⟩) (by have := HZw.out; show W.heap.size ≤ wr.heap.size; omega) (.int .u64 t)).setCell (p := ⟨wr.heap.size, 4, none⟩) (by have := HZw.out; show W.heap.size ≤ wr.heap.size; omega) (.int .u32 q))
         generalize ((((v8.setCell ⟨wr.heap.size, 1, none⟩ (.int .u32 n)).setCell ⟨wr.heap.size, 2, none⟩ (.int .u32 m)).setCell ⟨wr.heap.size, 3, none⟩ (.int .u64 t)).setCell ⟨wr.heap.size, 4, none⟩ (.int .u32 q)) = v9 at *
         clear kt1
         obtain ⟨M2, hM2⟩ : ∃ z : Int, z = min (nAt x 2 : Int) 9 := ⟨_, rfl⟩
         have hW2 : IntKind.i64.wrap M2 = M2 := by rw [hM2, minw, minz]
         have HM2 := h_ hM2
         rw [eq_comm] at hM2
         obtain ⟨M3, hM3⟩ : ∃ z : Int, z = min (nAt x 3 : Int) 9 := ⟨_, rfl⟩
         have hW3 : IntKind.i64.wrap M3 = M3 := by rw [hM3, minw, minz]
         have HM3 := h_ hM3
         rw [eq_comm] at hM3
         replace F := F.drew
         replace R5 : RowB v9.drew v1.heap.size [.int .u64 (nAt x 0 : Int), .int .u64 (nAt x 1 : Int), .int .u64 (nAt x 2 : Int), .int .u64 (nAt x 3 : Int), .int .u64 (nAt x 4 : Int), .int .u64 0] := R5
         replace R : RowB v9.drew wr.heap.size [.int .i64 kk, .int .u32 n, .int .u32 m, .int .u64 t, .int .u32 q, .int .i64 0, .int .i64 0, .int .u64 0, .int .u64 0, .int .u32 0, .int .u32 0, .bool false, .int .u64 0, .int .u64 0, .int .u8 0] := R
         refine wp_region_held_drew (S := (fun w' => w'.cell? ⟨v1.heap.size, 0, none⟩ = some (.int .u64 (nAt x 0 : Int)) ∧ w'.cell? ⟨v1.heap.size, 1, none⟩ = some (.int .u64 (nAt x 1 : Int)) ∧ w'.cell? ⟨v1.heap.size, 2, none⟩ = some (.int .u64 (nAt x 2 : Int)) ∧ w'.cell? ⟨v1.heap.size, 3, none⟩ = some (.int .u64 (nAt x 3 : Int)) ∧ w'.cell? ⟨v1.heap.size, 4, none⟩ = some (.int .u64 (nAt x 4 : Int)) ∧ w'.cell? ⟨v1.heap.size, 5, none⟩ = some (.int .u64 0))) (by kernel_rfl) ⟨R5.1 0 _ rfl, R5.1 1 _ rfl, R5.1 2 _ rfl, R5.1 3 _ rfl, R5.1 4 _ rfl, R5.1 5 _ rfl⟩ (fun hHeld => ?_)
         generalize v9.drew = vv at *
         refine takeL 0 (v := ?_) ?_ ‹_› ?_
         rotate_left
         ·intro w hSw; go_simp; all_goals with_reducible rfl
         simp only [Act.put, zA, zB, zC]
         refine takeL 1 (v := ?_) ?_ ‹_› ?_
         rotate_left
         ·intro w hSw; go_simp; all_goals with_reducible rfl
         simp only [Act.put, zA, zB, zC]
         refine takeL 2 (v := ?_) ?_ ‹_› ?_
         rotate_left
         ·intro w hSw; go_simp; all_goals with_reducible rfl
         simp only [Act.put, zA, zB, zC]
         refine takeL 3 (v := ?_) ?_ ‹_› ?_
         rotate_left
         ·intro w hSw; go_simp; all_goals with_reducible rfl
         simp only [Act.put, zA, zB, zC]
         refine takeL 4 (v := ?_) ?_ ‹_› ?_
         rotate_left
         ·intro w hSw; go_simp; all_goals with_reducible rfl
         simp only [Act.put, zA, zB, zC]
         refine takeL 5 (v := ?_) ?_ ‹_› ?_
         rotate_left
         ·intro w hSw; go_simp; all_goals with_reducible rfl
         simp only [Act.put, zA, zB, zC]
         refine takeL 6 (v := ?_) ?_ ‹_› ?_
         rotate_left
         ·intro w hSw; go_simp; all_goals with_reducible rfl
         simp only [Act.put, zA, zB, zC]
         refine takeL 7 (v := ?_) ?_ ‹_› ?_
         rotate_left
         ·intro w hSw; go_simp; all_goals with_reducible rfl
         simp only [Act.put, zA, zB, zC]
         refine takeL 8 (v := ?_) ?_ ‹_› ?_
         rotate_left
         ·intro w hSw; go_simp; all_goals with_reducible rfl
         simp only [Act.put, zA, zB, zC]
         refine takeL 9 (v := ?_) ?_ ‹_› ?_
         rotate_left
         ·intro w hSw; go_simp; all_goals with_reducible rfl
         simp only [Act.put, zA, zB, zC]
         refine takeL 10 (v := ?_) ?_ ‹_› ?_
         rotate_left
         ·intro w hSw; go_simp; all_goals with_reducible rfl
         simp only [Act.put, zA, zB, zC]
         refine wpAnyH_ready (rs := [11]) (by kernel_rfl) (by simp) (.cons rfl (fun K hK => ?_) .nil)
         have sc := R.1 5 _ rfl
         have sf := R.2 5
         rw [if_pos (by kernel_rfl)]
         refine zstI _ _ _ _ _ _ _ _ _ (by rfl) (by rfl) sc sf ?_
         replace R := R.set 5 (.int .i64 M2)
         replace R5 := R5.other (i := 5) HNe.out (.int .i64 M2)
         replace F := F.setCell (p := ⟨wr.heap.size, 5, none⟩) (by have := HZw.out; show W.heap.size ≤ wr.heap.size; omega) (.int .i64 M2)
         clear sc sf
         simp only [zB, zC] at R
         refine hK.out _ _ ⟨R5.1 0 _ rfl, R5.1 1 _ rfl, R5.1 2 _ rfl, R5.1 3 _ rfl, R5.1 4 _ rfl, R5.1 5 _ rfl⟩ (fun hHeld => ?_)
         clear hK K
         try simp only [Act.put, zA, zB, zC]
         refine takeL 12 (v := ?_) ?_ ‹_› ?_
         rotate_left
         ·intro w hSw; go_simp; all_goals with_reducible rfl
         simp only [Act.put, zA, zB, zC]
         refine wpAnyH_ready (rs := [13]) (by kernel_rfl) (by simp) (.cons rfl (fun K hK => ?_) .nil)
         have sc := R.1 6 _ rfl
         have sf := R.2 6
         rw [if_pos (by kernel_rfl)]
         refine zstI _ _ _ _ _ _ _ _ _ (by rfl) (by rfl) sc sf ?_
         replace R := R.set 6 (.int .i64 M3)
         replace R5 := R5.other (i := 6) HNe.out (.int .i64 M3)
         replace F := F.setCell (p := ⟨wr.heap.size, 6, none⟩) (by have := HZw.out; show W.heap.size ≤ wr.heap.size; omega) (.int .i64 M3)
         clear sc sf
         simp only [zB, zC] at R
         refine hK.out _ _ ⟨R5.1 0 _ rfl, R5.1 1 _ rfl, R5.1 2 _ rfl, R5.1 3 _ rfl, R5.1 4 _ rfl, R5.1 5 _ rfl⟩ (fun hHeld => ?_)
         clear hK K
         try simp only [Act.put, zA, zB, zC]
         refine takeL 14 (v := ?_) ?_ ‹_› ?_
         rotate_left
         ·intro w hSw; go_simp; all_goals with_reducible rfl
         simp only [Act.put, zA, zB, zC]
         refine wpAnyH_ready (rs := [15]) (by kernel_rfl) (by simp) (.cons rfl (fun K hK => ?_) .nil)
         have sc := R.1 7 _ rfl
         have sf := R.2 7
         rw [if_pos (by kernel_rfl)]
         refine zstU _ _ _ _ _ _ _ _ _ (by rfl) (by rfl) sc sf ?_
         replace R := R.set 7 (.int .u64 (nAt x 4 : Int))
         replace R5 := R5.other (i := 7) HNe.out (.int .u64 (nAt x 4 : Int))
         replace F := F.setCell (p := ⟨wr.heap.size, 7, none⟩) (by have := HZw.out; show W.heap.size ≤ wr.heap.size; omega) (.int .u64 (nAt x 4 : Int))
         clear sc sf
         simp only [zB, zC] at R
         refine hK.out _ _ ⟨R5.1 0 _ rfl, R5.1 1 _ rfl, R5.1 2 _ rfl, R5.1 3 _ rfl, R5.1 4 _ rfl, R5.1 5 _ rfl⟩ (fun hHeld => ?_)
         clear hK K
         try simp only [Act.put, zA, zB, zC]
         clear hHeld
         refine wpAnyH_done (by kernel_rfl) ?_ _
         generalize (((vv.setCell ⟨wr.heap.size, 5, none⟩ (.int .i64 M2)).setCell ⟨wr.heap.size, 6, none⟩ (.int .i64 M3)).setCell ⟨wr.heap.size, 7, none⟩ (.int .u64 (nAt x 4 : Int))) = vz at *
         have HFin := h_ (⟨F, R⟩ : _ ∧ _)
         clear F R R5
         go_wp2_with fail
         have hkk := HKk.out
         subst hkk
         go_meet
         case rel =>
          refine ⟨?_, HFin.out.1, ?_⟩
          ·rw [fineR, if_pos rfl, HNc.out]
          ·have h := HFin.out.2
           have e : (candR 0 x).cells = [.int .i64 (((0 : Nat) : Int) + 1), .int .u32 n, .int .u32 m, .int .u64 t, .int .u32 q, .int .i64 M2, .int .i64 M3, .int .u64 (nAt x 4 : Int), .int .u64 0, .int .u32 0, .int .u32 0, .bool false, .int .u64 0, .int .u64 0, .int .u8 0] := by
            simp [candR, Rc.cells, mod32, mod8, minw, HNc.out, HM2.out, HM3.out, minz]
           rw [e]
           exact h
      ·as_aux_lemma =>
         have kt1 : (kk == 1) = false := by rw [HKk.out]; rfl
         have kt2 : (kk == 2) = true := by rw [HKk.out]; rfl
         have e5 : nsR x x.l.length = [.int .u64 (nAt x 0 : Int), .int .u64 (nAt x 1 : Int), .int .u64 (nAt x 2 : Int), .int .u64 (nAt x 3 : Int), .int .u64 0, .int .u64 0] := by rw [HLen.out]; simp [nsR, ksK, List.range, List.range.loop]
         have R5 := HR5.out
         rw [e5] at R5
         clear e5
         have hu : ∀ i, i < x.l.length → nAt x i < 18446744073709551616 := fun i hi => by
          have h := HU.out i _ (List.getElem?_eq_getElem hi)
          have e := nAt_of (List.getElem?_eq_getElem hi) h.1
          have := h.2
          omega
         have hl' := HLen.out
         have u1 : nAt x 1 < 18446744073709551616 := hu 1 (by rw [hl']; decide)
         have u2 : nAt x 2 < 18446744073709551616 := hu 2 (by rw [hl']; decide)
         have u3 : nAt x 3 < 18446744073709551616 := hu 3 (by rw [hl']; decide)
         clear hu hl'
         have F := HF7.out
         have R := HR7.out
         have hne : wr.heap.size ≠ v1.heap.size := by have := HZw.out.2; omega
         have HNe := h_ hne
         clear hne
         go_upto_region 19 with fail
         clear kt1 kt2
         replace F := F.drew
         replace R5 : RowB v7.drew v1.heap.size [.int .u64 (nAt x 0 : Int), .int .u64 (nAt x 1 : Int), .int .u64 (nAt x 2 : Int), .int .u64 (nAt x 3 : Int), .int .u64 0, .int .u64 0] := R5
         replace R : RowB v7.drew wr.heap.size [.int .i64 kk, .int .u32 0, .int .u32 0, .int .u64 0, .int .u32 0, .int .i64 0, .int .i64 0, .int .u64 0, .int .u64 0, .int .u32 0, .int .u32 0, .bool false, .int .u64 0, .int .u64 0, .int .u8 0] := R
         refine wp_region_held_drew (S := (fun w' => w'.cell? ⟨v1.heap.size, 0, none⟩ = some (.int .u64 (nAt x 0 : Int)) ∧ w'.cell? ⟨v1.heap.size, 1, none⟩ = some (.int .u64 (nAt x 1 : Int)) ∧ w'.cell? ⟨v1.heap.size, 2, none⟩ = some (.int .u64 (nAt x 2 : Int)) ∧ w'.cell? ⟨v1.heap.size, 3, none⟩ = some (.int .u64 (nAt x 3 : Int)) ∧ w'.cell? ⟨v1.heap.size, 4, none⟩ = some (.int .u64 0) ∧ w'.cell? ⟨v1.heap.size, 5, none⟩ = some (.int .u64 0))) (by kernel_rfl) ⟨R5.1 0 _ rfl, R5.1 1 _ rfl, R5.1 2 _ rfl, R5.1 3 _ rfl, R5.1 4 _ rfl, R5.1 5 _ rfl⟩ (fun hHeld => ?_)
         generalize v7.drew = vv at *
         refine takeL 0 (v := ?_) ?_ ‹_› ?_
         rotate_left
         ·intro w hSw; go_simp; all_goals with_reducible rfl
         simp only [Act.put, zA, zB, zC]
         refine takeL 1 (v := ?_) ?_ ‹_› ?_
         rotate_left
         ·intro w hSw; go_simp; all_goals with_reducible rfl
         simp only [Act.put, zA, zB, zC]
         refine takeL 2 (v := ?_) ?_ ‹_› ?_
         rotate_left
         ·intro w hSw; go_simp; all_goals with_reducible rfl
         simp only [Act.put, zA, zB, zC]
         refine takeL 3 (v := ?_) ?_ ‹_› ?_
         rotate_left
         ·intro w hSw; go_simp; all_goals with_reducible rfl
         simp only [Act.put, zA, zB, zC]
         refine takeL 4 (v := ?_) ?_ ‹_› ?_
         rotate_left
         ·intro w hSw; go_simp; all_goals with_reducible rfl
         simp only [Act.put, zA, zB, zC]
         refine takeL 5 (v := ?_) ?_ ‹_› ?_
         rotate_left
         ·intro w hSw; go_simp; all_goals with_reducible rfl
         simp only [Act.put, zA, zB, zC]
         refine takeL 6 (v := ?_) ?_ ‹_› ?_
         rotate_left
         ·intro w hSw; go_simp; all_goals with_reducible rfl
         simp only [Act.put, zA, zB, zC]
         refine takeL 7 (v := ?_) ?_ ‹_› ?_
         rotate_left
         ·intro w hSw; go_simp; all_goals with_reducible rfl
         simp only [Act.put, zA, zB, zC]
         refine takeL 8 (v := ?_) ?_ ‹_› ?_
         rotate_left
         ·intro w hSw; go_simp; all_goals with_reducible rfl
         simp only [Act.put, zA, zB, zC]
         refine takeL 9 (v := ?_) ?_ ‹_› ?_
         rotate_left
         ·intro w hSw; go_simp; all_goals with_reducible rfl
         simp only [Act.put, zA, zB, zC]
         refine takeL 10 (v := ?_) ?_ ‹_› ?_
         rotate_left
         ·intro w hSw; go_simp; all_goals with_reducible rfl
         simp only [Act.put, zA, zB, zC]
         refine wpAnyH_ready (rs := [11]) (by kernel_rfl) (by simp) (.cons rfl (fun K hK => ?_) .nil)
         have sc := R.1 8 _ rfl
         have sf := R.2 8
         go_simp
         replace R := R.set 8 (.int .u64 (nAt x 1 : Int))
         replace R5 := R5.other (i := 8) HNe.out (.int .u64 (nAt x 1 : Int))
         replace F := F.setCell (p := ⟨wr.heap.size, 8, none⟩) (by have := HZw.out; show W.heap.size ≤ wr.heap.size; omega) (.int .u64 (nAt x 1 : Int))
         clear sc sf
         simp only [zB, zC] at R
         refine hK.out _ _ ⟨R5.1 0 _ rfl, R5.1 1 _ rfl, R5.1 2 _ rfl, R5.1 3 _ rfl, R5.1 4 _ rfl, R5.1 5 _ rfl⟩ (fun hHeld => ?_)
         clear hK K
         try simp only [Act.put, zA, zB, zC]
         refine takeL 12 (v := ?_) ?_ ‹_› ?_
         rotate_left
         ·intro w hSw; go_simp; all_goals with_reducible rfl
         simp only [Act.put, zA, zB, zC]
         refine wpAnyH_ready (rs := [13]) (by kernel_rfl) (by simp) (.cons rfl (fun K hK => ?_) .nil)
         have sc := R.1 9 _ rfl
         have sf := R.2 9
         go_simp
         replace R := R.set 9 (.int .u32 (IntKind.u32.wrap ((nAt x 2 : Int).tmod 4294967296)))
         replace R5 := R5.other (i := 9) HNe.out (.int .u32 (IntKind.u32.wrap ((nAt x 2 : Int).tmod 4294967296)))
         replace F := F.setCell (p := ⟨wr.heap.size, 9, none⟩) (by have := HZw.out; show W.heap.size ≤ wr.heap.size; omega) (.int .u32 (IntKind.u32.wrap ((nAt x 2 : Int).tmod 4294967296)))
         clear sc sf
         simp only [zB, zC] at R
         refine hK.out _ _ ⟨R5.1 0 _ rfl, R5.1 1 _ rfl, R5.1 2 _ rfl, R5.1 3 _ rfl, R5.1 4 _ rfl, R5.1 5 _ rfl⟩ (fun hHeld => ?_)
         clear hK K
         try simp only [Act.put, zA, zB, zC]
         refine takeL 14 (v := ?_) ?_ ‹_› ?_
         rotate_left
         ·intro w hSw; go_simp; all_goals with_reducible rfl
         simp only [Act.put, zA, zB, zC]
         refine wpAnyH_ready (rs := [15]) (by kernel_rfl) (by simp) (.cons rfl (fun K hK => ?_) .nil)
         have sc := R.1 10 _ rfl
         have sf := R.2 10
         go_simp
         replace R := R.set 10 (.int .u32 (IntKind.u32.wrap ((nAt x 3 : Int).tmod 4294967296)))
         replace R5 := R5.other (i := 10) HNe.out (.int .u32 (IntKind.u32.wrap ((nAt x 3 : Int).tmod 4294967296)))
         replace F := F.setCell (p := ⟨wr.heap.size, 10, none⟩) (by have := HZw.out; show W.heap.size ≤ wr.heap.size; omega) (.int .u32 (IntKind.u32.wrap ((nAt x 3 : Int).tmod 4294967296)))
         clear sc sf
         simp only [zB, zC] at R
         refine hK.out _ _ ⟨R5.1 0 _ rfl, R5.1 1 _ rfl, R5.1 2 _ rfl, R5.1 3 _ rfl, R5.1 4 _ rfl, R5.1 5 _ rfl⟩ (fun hHeld => ?_)
         clear hK K
         try simp only [Act.put, zA, zB, zC]
         clear hHeld
         refine wpAnyH_done (by kernel_rfl) ?_ _
         generalize (((vv.setCell ⟨wr.heap.size, 8, none⟩ (.int .u64 (nAt x 1 : Int))).setCell ⟨wr.heap.size, 9, none⟩ (.int .u32 (IntKind.u32.wrap ((nAt x 2 : Int).tmod 4294967296)))).setCell ⟨wr.heap.size, 10, none⟩ (.int .u32 (IntKind.u32.wrap ((nAt x 3 : Int).tmod 4294967296)))) = vz at *
         have HFin := h_ (⟨F, R⟩ : _ ∧ _)
         clear F R R5
         go_wp2_with fail
         have hkk := HKk.out
         subst hkk
         go_meet
         case rel =>
          refine ⟨?_, HFin.out.1, ?_⟩
          ·rfl
          ·have h := HFin.out.2
           have e : (candR 1 x).cells = [.int .i64 (((1 : Nat) : Int) + 1), .int .u32 0, .int .u32 0, .int .u64 0, .int .u32 0, .int .i64 0, .int .i64 0, .int .u64 0, .int .u64 (nAt x 1 : Int), .int .u32 (IntKind.u32.wrap ((nAt x 2 : Int).tmod 4294967296)), .int .u32 (IntKind.u32.wrap ((nAt x 3 : Int).tmod 4294967296)), .bool false, .int .u64 0, .int .u64 0, .int .u8 0] := by
            simp [candR, Rc.cells, mod32, mod8, minw]
           rw [e]
           exact h
      ·as_aux_lemma =>
         have kt1 : (kk == 1) = false := by rw [HKk.out]; rfl
         have kt2 : (kk == 2) = false := by rw [HKk.out]; rfl
         have kt3 : (kk == 3) = true := by rw [HKk.out]; rfl
         have e5 : nsR x x.l.length = [.int .u64 (nAt x 0 : Int), .int .u64 (nAt x 1 : Int), .int .u64 (nAt x 2 : Int), .int .u64 (nAt x 3 : Int), .int .u64 (nAt x 4 : Int), .int .u64 (nAt x 5 : Int)] := by rw [HLen.out]; simp [nsR, ksK, List.range, List.range.loop]
         have R5 := HR5.out
         rw [e5] at R5
         clear e5
         have hu : ∀ i, i < x.l.length → nAt x i < 18446744073709551616 := fun i hi => by
          have h := HU.out i _ (List.getElem?_eq_getElem hi)
          have e := nAt_of (List.getElem?_eq_getElem hi) h.1
          have := h.2
          omega
         have hl' := HLen.out
         have u1 : nAt x 1 < 18446744073709551616 := hu 1 (by rw [hl']; decide)
         have u2 : nAt x 2 < 18446744073709551616 := hu 2 (by rw [hl']; decide)
         have u3 : nAt x 3 < 18446744073709551616 := hu 3 (by rw [hl']; decide)
         have u4 : nAt x 4 < 18446744073709551616 := hu 4 (by rw [hl']; decide)
         have u5 : nAt x 5 < 18446744073709551616 := hu 5 (by rw [hl']; decide)
         clear hu hl'
         have F := HF7.out
         have R := HR7.out
         have hne : wr.heap.size ≠ v1.heap.size := by have := HZw.out.2; omega
         have HNe := h_ hne
         clear hne
         go_upto_region 21 with fail
         clear kt1 kt2 kt3
         obtain ⟨Q4, hQ4⟩ : ∃ z : Bool, z = ((nAt x 4 : Int) == 1) := ⟨_, rfl⟩
         have HQ4 := h_ hQ4
         rw [eq_comm] at hQ4
         replace F := F.drew
         replace R5 : RowB v7.drew v1.heap.size [.int .u64 (nAt x 0 : Int), .int .u64 (nAt x 1 : Int), .int .u64 (nAt x 2 : Int), .int .u64 (nAt x 3 : Int), .int .u64 (nAt x 4 : Int), .int .u64 (nAt x 5 : Int)] := R5
         replace R : RowB v7.drew wr.heap.size [.int .i64 kk, .int .u32 0, .int .u32 0, .int .u64 0, .int .u32 0, .int .i64 0, .int .i64 0, .int .u64 0, .int .u64 0, .int .u32 0, .int .u32 0, .bool false, .int .u64 0, .int .u64 0, .int .u8 0] := R
         refine wp_region_held_drew (S := (fun w' => w'.cell? ⟨v1.heap.size, 0, none⟩ = some (.int .u64 (nAt x 0 : Int)) ∧ w'.cell? ⟨v1.heap.size, 1, none⟩ = some (.int .u64 (nAt x 1 : Int)) ∧ w'.cell? ⟨v1.heap.size, 2, none⟩ = some (.int .u64 (nAt x 2 : Int)) ∧ w'.cell? ⟨v1.heap.size, 3, none⟩ = some (.int .u64 (nAt x 3 : Int)) ∧ w'.cell? ⟨v1.heap.size, 4, none⟩ = some (.int .u64 (nAt x 4 : Int)) ∧ w'.cell? ⟨v1.heap.size, 5, none⟩ = some (.int .u64 (nAt x 5 : Int)))) (by kernel_rfl) ⟨R5.1 0 _ rfl, R5.1 1 _ rfl, R5.1 2 _ rfl, R5.1 3 _ rfl, R5.1 4 _ rfl, R5.1 5 _ rfl⟩ (fun hHeld => ?_)
         generalize v7.drew = vv at *
         refine takeL 0 (v := ?_) ?_ ‹_› ?_
         rotate_left
         ·intro w hSw; go_simp; all_goals with_reducible rfl
         simp only [Act.put, zA, zB, zC]
         refine takeL 1 (v := ?_) ?_ ‹_› ?_
         rotate_left
         ·intro w hSw; go_simp; all_goals with_reducible rfl
         simp only [Act.put, zA, zB, zC]
         refine takeL 2 (v := ?_) ?_ ‹_› ?_
         rotate_left
         ·intro w hSw; go_simp; all_goals with_reducible rfl
         simp only [Act.put, zA, zB, zC]
         refine takeL 3 (v := ?_) ?_ ‹_› ?_
         rotate_left
         ·intro w hSw; go_simp; all_goals with_reducible rfl
         simp only [Act.put, zA, zB, zC]
         refine takeL 4 (v := ?_) ?_ ‹_› ?_
         rotate_left
         ·intro w hSw; go_simp; all_goals with_reducible rfl
         simp only [Act.put, zA, zB, zC]
         refine takeL 5 (v := ?_) ?_ ‹_› ?_
         rotate_left
         ·intro w hSw; go_simp; all_goals with_reducible rfl
         simp only [Act.put, zA, zB, zC]
         refine takeL 6 (v := ?_) ?_ ‹_› ?_
         rotate_left
         ·intro w hSw; go_simp; all_goals with_reducible rfl
         simp only [Act.put, zA, zB, zC]
         refine takeL 7 (v := ?_) ?_ ‹_› ?_
         rotate_left
         ·intro w hSw; go_simp; all_goals with_reducible rfl
         simp only [Act.put, zA, zB, zC]
         refine takeL 8 (v := ?_) ?_ ‹_› ?_
         rotate_left
         ·intro w hSw; go_simp; all_goals with_reducible rfl
         simp only [Act.put, zA, zB, zC]
         refine takeL 9 (v := ?_) ?_ ‹_› ?_
         rotate_left
         ·intro w hSw; go_simp; all_goals with_reducible rfl
         simp only [Act.put, zA, zB, zC]
         refine takeL 10 (v := ?_) ?_ ‹_› ?_
         rotate_left
         ·intro w hSw; go_simp; all_goals with_reducible rfl
         simp only [Act.put, zA, zB, zC]
         refine takeL 11 (v := ?_) ?_ ‹_› ?_
         rotate_left
         ·intro w hSw; go_simp; all_goals with_reducible rfl
         simp only [Act.put, zA, zB, zC]
         refine takeL 12 (v := ?_) ?_ ‹_› ?_
         rotate_left
         ·intro w hSw; go_simp; all_goals with_reducible rfl
         simp only [Act.put, zA, zB, zC]
         refine takeL 13 (v := ?_) ?_ ‹_› ?_
         rotate_left
         ·intro w hSw; go_simp; all_goals with_reducible rfl
         simp only [Act.put, zA, zB, zC]
         refine takeL 14 (v := ?_) ?_ ‹_› ?_
         rotate_left
         ·intro w hSw; go_simp; all_goals with_reducible rfl
         simp only [Act.put, zA, zB, zC]
         refine takeL 15 (v := ?_) ?_ ‹_› ?_
         rotate_left
         ·intro w hSw; go_simp; all_goals with_reducible rfl
         simp only [Act.put, zA, zB, zC]
         refine wpAnyH_ready (rs := [16]) (by kernel_rfl) (by simp) (.cons rfl (fun K hK => ?_) .nil)
         have sc := R.1 8 _ rfl
         have sf := R.2 8
         go_simp
         replace R := R.set 8 (.int .u64 (nAt x 1 : Int))
         replace R5 := R5.other (i := 8) HNe.out (.int .u64 (nAt x 1 : Int))
         replace F := F.setCell (p := ⟨wr.heap.size, 8, none⟩) (by have := HZw.out; show W.heap.size ≤ wr.heap.size; omega) (.int .u64 (nAt x 1 : Int))
         clear sc sf
         simp only [zB, zC] at R
         refine hK.out _ _ ⟨R5.1 0 _ rfl, R5.1 1 _ rfl, R5.1 2 _ rfl, R5.1 3 _ rfl, R5.1 4 _ rfl, R5.1 5 _ rfl⟩ (fun hHeld => ?_)
         clear hK K
         try simp only [Act.put, zA, zB, zC]
         refine takeL 17 (v := ?_) ?_ ‹_› ?_
         rotate_left
         ·intro w hSw; go_simp; all_goals with_reducible rfl
         simp only [Act.put, zA, zB, zC]
         refine wpAnyH_ready (rs := [18]) (by kernel_rfl) (by simp) (.cons rfl (fun K hK => ?_) .nil)
         have sc := R.1 9 _ rfl
         have sf := R.2 9
         go_simp
         replace R := R.set 9 (.int .u32 (IntKind.u32.wrap ((nAt x 2 : Int).tmod 4294967296)))
         replace R5 := R5.other (i := 9) HNe.out (.int .u32 (IntKind.u32.wrap ((nAt x 2 : Int).tmod 4294967296)))
         replace F := F.setCell (p := ⟨wr.heap.size, 9, none⟩) (by have := HZw.out; show W.heap.size ≤ wr.heap.size; omega) (.int .u32 (IntKind.u32.wrap ((nAt x 2 : Int).tmod 4294967296)))
         clear sc sf
         simp only [zB, zC] at R
         refine hK.out _ _ ⟨R5.1 0 _ rfl, R5.1 1 _ rfl, R5.1 2 _ rfl, R5.1 3 _ rfl, R5.1 4 _ rfl, R5.1 5 _ rfl⟩ (fun hHeld => ?_)
         clear hK K
         try simp only [Act.put, zA, zB, zC]
         refine takeL 19 (v := ?_) ?_ ‹_› ?_
         rotate_left
         ·intro w hSw; go_simp; all_goals with_reducible rfl
         simp only [Act.put, zA, zB, zC]
         refine wpAnyH_ready (rs := [20]) (by kernel_rfl) (by simp) (.cons rfl (fun K hK => ?_) .nil)
         have sc := R.1 10 _ rfl
         have sf := R.2 10
         go_simp
         replace R := R.set 10 (.int .u32 (IntKind.u32.wrap ((nAt x 3 : Int).tmod 4294967296)))
         replace R5 := R5.other (i := 10) HNe.out (.int .u32 (IntKind.u32.wrap ((nAt x 3 : Int).tmod 4294967296)))
         replace F := F.setCell (p := ⟨wr.heap.size, 10, none⟩) (by have := HZw.out; show W.heap.size ≤ wr.heap.size; omega) (.int .u32 (IntKind.u32.wrap ((nAt x 3 : Int).tmod 4294967296)))
         clear sc sf
         simp only [zB, zC] at R
         refine hK.out _ _ ⟨R5.1 0 _ rfl, R5.1 1 _ rfl, R5.1 2 _ rfl, R5.1 3 _ rfl, R5.1 4 _ rfl, R5.1 5 _ rfl⟩ (fun hHeld => ?_)
         clear hK K
         try simp only [Act.put, zA, zB, zC]
         refine takeL 21 (v := ?_) ?_ ‹_› ?_
         rotate_left
         ·intro w hSw; go_simp; all_goals with_reducible rfl
         simp only [Act.put, zA, zB, zC]
         refine wpAnyH_ready (rs := [22]) (by kernel_rfl) (by simp) (.cons rfl (fun K hK => ?_) .nil)
         have sc := R.1 11 _ rfl
         have sf := R.2 11
         go_simp
         replace R := R.set 11 (.bool Q4)
         replace R5 := R5.other (i := 11) HNe.out (.bool Q4)
         replace F := F.setCell (p := ⟨wr.heap.size, 11, none⟩) (by have := HZw.out; show W.heap.size ≤ wr.heap.size; omega) (.bool Q4)
         clear sc sf
         simp only [zB, zC] at R
         refine hK.out _ _ ⟨R5.1 0 _ rfl, R5.1 1 _ rfl, R5.1 2 _ rfl, R5.1 3 _ rfl, R5.1 4 _ rfl, R5.1 5 _ rfl⟩ (fun hHeld => ?_)
         clear hK K
         try simp only [Act.put, zA, zB, zC]
         refine takeL 23 (v := ?_) ?_ ‹_› ?_
         rotate_left
         ·intro w hSw; go_simp; all_goals with_reducible rfl
         simp only [Act.put, zA, zB, zC]
         refine wpAnyH_ready (rs := [24]) (by kernel_rfl) (by simp) (.cons rfl (fun K hK => ?_) .nil)
         have sc := R.1 13 _ rfl
         have sf := R.2 13
         go_simp
         replace R := R.set 13 (.int .u64 (nAt x 5 : Int))
         replace R5 := R5.other (i := 13) HNe.out (.int .u64 (nAt x 5 : Int))
         replace F := F.setCell (p := ⟨wr.heap.size, 13, none⟩) (by have := HZw.out; show W.heap.size ≤ wr.heap.size; omega) (.int .u64 (nAt x 5 : Int))
         clear sc sf
         simp only [zB, zC] at R
         refine hK.out _ _ ⟨R5.1 0 _ rfl, R5.1 1 _ rfl, R5.1 2 _ rfl, R5.1 3 _ rfl, R5.1 4 _ rfl, R5.1 5 _ rfl⟩ (fun hHeld => ?_)
         clear hK K
         try simp only [Act.put, zA, zB, zC]
         clear hHeld
         refine wpAnyH_done (by kernel_rfl) ?_ _
         generalize (((((vv.setCell ⟨wr.heap.size, 8, none⟩ (.int .u64 (nAt x 1 : Int))).setCell ⟨wr.heap.size, 9, none⟩ (.int .u32 (IntKind.u32.wrap ((nAt x 2 : Int).tmod 4294967296)))).setCell ⟨wr.heap.size, 10, none⟩ (.int .u32 (IntKind.u32.wrap ((nAt x 3 : Int).tmod 4294967296)))).setCell ⟨wr.heap.size, 11, none⟩ (.bool Q4)).setCell ⟨wr.heap.size, 13, none⟩ (.int .u64 (nAt x 5 : Int))) = vz at *
         have HFin := h_ (⟨F, R⟩ : _ ∧ _)
         clear F R R5
         go_wp2_with fail
         have hkk := HKk.out
         subst hkk
         go_meet
         case rel =>
          refine ⟨?_, HFin.out.1, ?_⟩
          ·rfl
          ·have h := HFin.out.2
           have e : (candR 2 x).cells = [.int .i64 (((2 : Nat) : Int) + 1), .int .u32 0, .int .u32 0, .int .u64 0, .int .u32 0, .int .i64 0, .int .i64 0, .int .u64 0, .int .u64 (nAt x 1 : Int), .int .u32 (IntKind.u32.wrap ((nAt x 2 : Int).tmod 4294967296)), .int .u32 (IntKind.u32.wrap ((nAt x 3 : Int).tmod 4294967296)), .bool Q4, .int .u64 0, .int .u64 (nAt x 5 : Int), .int .u8 0] := by
            simp [candR, Rc.cells, mod32, mod8, minw, HQ4.out, beq_one]
           rw [e]
           exact h
      ·as_aux_lemma =>
         have kt1 : (kk == 1) = false := by rw [HKk.out]; rfl
         have kt2 : (kk == 2) = false := by rw [HKk.out]; rfl
         have kt3 : (kk == 3) = false := by rw [HKk.out]; rfl
         have kt4 : (kk == 4) = true := by rw [HKk.out]; rfl
         have e5 : nsR x x.l.length = [.int .u64 (nAt x 0 : Int), .int .u64 (nAt x 1 : Int), .int .u64 (nAt x 2 : Int), .int .u64 (nAt x 3 : Int), .int .u64 (nAt x 4 : Int), .int .u64 0] := by rw [HLen.out]; simp [nsR, ksK, List.range, List.range.loop]
         have R5 := HR5.out
         rw [e5] at R5
         clear e5
         have hu : ∀ i, i < x.l.length → nAt x i < 18446744073709551616 := fun i hi => by
          have h := HU.out i _ (List.getElem?_eq_getElem hi)
          have e := nAt_of (List.getElem?_eq_getElem hi) h.1
          have := h.2
          omega
         have hl' := HLen.out
         have u1 : nAt x 1 < 18446744073709551616 := hu 1 (by rw [hl']; decide)
         have u2 : nAt x 2 < 18446744073709551616 := hu 2 (by rw [hl']; decide)
         have u3 : nAt x 3 < 18446744073709551616 := hu 3 (by rw [hl']; decide)
         have u4 : nAt x 4 < 18446744073709551616 := hu 4 (by rw [hl']; decide)
         clear hu hl'
         have F := HF7.out
         have R := HR7.out
         have hne : wr.heap.size ≠ v1.heap.size := by have := HZw.out.2; omega
         have HNe := h_ hne
         clear hne
         go_upto_region 23 with fail
         clear kt1 kt2 kt3 kt4
         replace F := F.drew
         replace R5 : RowB v7.drew v1.heap.size [.int .u64 (nAt x 0 : Int), .int .u64 (nAt x 1 : Int), .int .u64 (nAt x 2 : Int), .int .u64 (nAt x 3 : Int), .int .u64 (nAt x 4 : Int), .int .u64 0] := R5
         replace R : RowB v7.drew wr.heap.size [.int .i64 kk, .int .u32 0, .int .u32 0, .int .u64 0, .int .u32 0, .int .i64 0, .int .i64 0, .int .u64 0, .int .u64 0, .int .u32 0, .int .u32 0, .bool false, .int .u64 0, .int .u64 0, .int .u8 0] := R
         refine wp_region_held_drew (S := (fun w' => w'.cell? ⟨v1.heap.size, 0, none⟩ = some (.int .u64 (nAt x 0 : Int)) ∧ w'.cell? ⟨v1.heap.size, 1, none⟩ = some (.int .u64 (nAt x 1 : Int)) ∧ w'.cell? ⟨v1.heap.size, 2, none⟩ = some (.int .u64 (nAt x 2 : Int)) ∧ w'.cell? ⟨v1.heap.size, 3, none⟩ = some (.int .u64 (nAt x 3 : Int)) ∧ w'.cell? ⟨v1.heap.size, 4, none⟩ = some (.int .u64 (nAt x 4 : Int)) ∧ w'.cell? ⟨v1.heap.size, 5, none⟩ = some (.int .u64 0))) (by kernel_rfl) ⟨R5.1 0 _ rfl, R5.1 1 _ rfl, R5.1 2 _ rfl, R5.1 3 _ rfl, R5.1 4 _ rfl, R5.1 5 _ rfl⟩ (fun hHeld => ?_)
         generalize v7.drew = vv at *
         refine takeL 0 (v := ?_) ?_ ‹_› ?_
         rotate_left
         ·intro w hSw; go_simp; all_goals with_reducible rfl
         simp only [Act.put, zA, zB, zC]
         refine takeL 1 (v := ?_) ?_ ‹_› ?_
         rotate_left
         ·intro w hSw; go_simp; all_goals with_reducible rfl
         simp only [Act.put, zA, zB, zC]
         refine takeL 2 (v := ?_) ?_ ‹_› ?_
         rotate_left
         ·intro w hSw; go_simp; all_goals with_reducible rfl
         simp only [Act.put, zA, zB, zC]
         refine takeL 3 (v := ?_) ?_ ‹_› ?_
         rotate_left
         ·intro w hSw; go_simp; all_goals with_reducible rfl
         simp only [Act.put, zA, zB, zC]
         refine takeL 4 (v := ?_) ?_ ‹_› ?_
         rotate_left
         ·intro w hSw; go_simp; all_goals with_reducible rfl
         simp only [Act.put, zA, zB, zC]
         refine takeL 5 (v := ?_) ?_ ‹_› ?_
         rotate_left
         ·intro w hSw; go_simp; all_goals with_reducible rfl
         simp only [Act.put, zA, zB, zC]
         refine takeL 6 (v := ?_) ?_ ‹_› ?_
         rotate_left
         ·intro w hSw; go_simp; all_goals with_reducible rfl
         simp only [Act.put, zA, zB, zC]
         refine takeL 7 (v := ?_) ?_ ‹_› ?_
         rotate_left
         ·intro w hSw; go_simp; all_goals with_reducible rfl
         simp only [Act.put, zA, zB, zC]
         refine takeL 8 (v := ?_) ?_ ‹_› ?_
         rotate_left
         ·intro w hSw; go_simp; all_goals with_reducible rfl
         simp only [Act.put, zA, zB, zC]
         refine takeL 9 (v := ?_) ?_ ‹_› ?_
         rotate_left
         ·intro w hSw; go_simp; all_goals with_reducible rfl
         simp only [Act.put, zA, zB, zC]
         refine takeL 10 (v := ?_) ?_ ‹_› ?_
         rotate_left
         ·intro w hSw; go_simp; all_goals with_reducible rfl
         simp only [Act.put, zA, zB, zC]
         refine takeL 11 (v := ?_) ?_ ‹_› ?_
         rotate_left
         ·intro w hSw; go_simp; all_goals with_reducible rfl
         simp only [Act.put, zA, zB, zC]
         refine takeL 12 (v := ?_) ?_ ‹_› ?_
         rotate_left
         ·intro w hSw; go_simp; all_goals with_reducible rfl
         simp only [Act.put, zA, zB, zC]
         refine wpAnyH_ready (rs := [13]) (by kernel_rfl) (by simp) (.cons rfl (fun K hK => ?_) .nil)
         have sc := R.1 9 _ rfl
         have sf := R.2 9
         go_simp
         replace R := R.set 9 (.int .u32 (IntKind.u32.wrap ((nAt x 1 : Int).tmod 4294967296)))
         replace R5 := R5.other (i := 9) HNe.out (.int .u32 (IntKind.u32.wrap ((nAt x 1 : Int).tmod 4294967296)))
         replace F := F.setCell (p := ⟨wr.heap.size, 9, none⟩) (by have := HZw.out; show W.heap.size ≤ wr.heap.size; omega) (.int .u32 (IntKind.u32.wrap ((nAt x 1 : Int).tmod 4294967296)))
         clear sc sf
         simp only [zB, zC] at R
         refine hK.out _ _ ⟨R5.1 0 _ rfl, R5.1 1 _ rfl, R5.1 2 _ rfl, R5.1 3 _ rfl, R5.1 4 _ rfl, R5.1 5 _ rfl⟩ (fun hHeld => ?_)
         clear hK K
         try simp only [Act.put, zA, zB, zC]
         refine takeL 14 (v := ?_) ?_ ‹_› ?_
         rotate_left
         ·intro w hSw; go_simp; all_goals with_reducible rfl
         simp only [Act.put, zA, zB, zC]
         refine wpAnyH_ready (rs := [15]) (by kernel_rfl) (by simp) (.cons rfl (fun K hK => ?_) .nil)
         have sc := R.1 12 _ rfl
         have sf := R.2 12
         go_simp
         replace R := R.set 12 (.int .u64 (nAt x 2 : Int))
         replace R5 := R5.other (i := 12) HNe.out (.int .u64 (nAt x 2 : Int))
         replace F := F.setCell (p := ⟨wr.heap.size, 12, none⟩) (by have := HZw.out; show W.heap.size ≤ wr.heap.size; omega) (.int .u64 (nAt x 2 : Int))
         clear sc sf
         simp only [zB, zC] at R
         refine hK.out _ _ ⟨R5.1 0 _ rfl, R5.1 1 _ rfl, R5.1 2 _ rfl, R5.1 3 _ rfl, R5.1 4 _ rfl, R5.1 5 _ rfl⟩ (fun hHeld => ?_)
         clear hK K
         try simp only [Act.put, zA, zB, zC]
         refine takeL 16 (v := ?_) ?_ ‹_› ?_
         rotate_left
         ·intro w hSw; go_simp; all_goals with_reducible rfl
         simp only [Act.put, zA, zB, zC]
         refine wpAnyH_ready (rs := [17]) (by kernel_rfl) (by simp) (.cons rfl (fun K hK => ?_) .nil)
         have sc := R.1 13 _ rfl
         have sf := R.2 13
         go_simp
         replace R := R.set 13 (.int .u64 (nAt x 3 : Int))
         replace R5 := R5.other (i := 13) HNe.out (.int .u64 (nAt x 3 : Int))
         replace F := F.setCell (p := ⟨wr.heap.size, 13, none⟩) (by have := HZw.out; show W.heap.size ≤ wr.heap.size; omega) (.int .u64 (nAt x 3 : Int))
         clear sc sf
         simp only [zB, zC] at R
         refine hK.out _ _ ⟨R5.1 0 _ rfl, R5.1 1 _ rfl, R5.1 2 _ rfl, R5.1 3 _ rfl, R5.1 4 _ rfl, R5.1 5 _ rfl⟩ (fun hHeld => ?_)
         clear hK K
         try simp only [Act.put, zA, zB, zC]
         refine takeL 18 (v := ?_) ?_ ‹_› ?_
         rotate_left
         ·intro w hSw; go_simp; all_goals with_reducible rfl
         simp only [Act.put, zA, zB, zC]
         refine wpAnyH_ready (rs := [19]) (by kernel_rfl) (by simp) (.cons rfl (fun K hK => ?_) .nil)
         have sc := R.1 14 _ rfl
         have sf := R.2 14
         go_simp
         replace R := R.set 14 (.int .u8 (IntKind.u8.wrap ((nAt x 4 : Int).tmod 256)))
         replace R5 := R5.other (i := 14) HNe.out (.int .u8 (IntKind.u8.wrap ((nAt x 4 : Int).tmod 256)))
         replace F := F.setCell (p := ⟨wr.heap.size, 14, none⟩) (by have := HZw.out; show W.heap.size ≤ wr.heap.size; omega) (.int .u8 (IntKind.u8.wrap ((nAt x 4 : Int).tmod 256)))
         clear sc sf
         simp only [zB, zC] at R
         refine hK.out _ _ ⟨R5.1 0 _ rfl, R5.1 1 _ rfl, R5.1 2 _ rfl, R5.1 3 _ rfl, R5.1 4 _ rfl, R5.1 5 _ rfl⟩ (fun hHeld => ?_)
         clear hK K
         try simp only [Act.put, zA, zB, zC]
         clear hHeld
         refine wpAnyH_done (by kernel_rfl) ?_ _
         generalize ((((vv.setCell ⟨wr.heap.size, 9, none⟩ (.int .u32 (IntKind.u32.wrap ((nAt x 1 : Int).tmod 4294967296)))).setCell ⟨wr.heap.size, 12, none⟩ (.int .u64 (nAt x 2 : Int))).setCell ⟨wr.heap.size, 13, none⟩ (.int .u64 (nAt x 3 : Int))).setCell ⟨wr.heap.size, 14, none⟩ (.int .u8 (IntKind.u8.wrap ((nAt x 4 : Int).tmod 256)))) = vz at *
         have HFin := h_ (⟨F, R⟩ : _ ∧ _)
         clear F R R5
         go_wp2_with fail
         have hkk := HKk.out
         subst hkk
         go_meet
         case rel =>
          refine ⟨?_, HFin.out.1, ?_⟩
          ·rfl
          ·have h := HFin.out.2
           have e : (candR 3 x).cells = [.int .i64 (((3 : Nat) : Int) + 1), .int .u32 0, .int .u32 0, .int .u64 0, .int .u32 0, .int .i64 0, .int .i64 0, .int .u64 0, .int .u64 0, .int .u32 (IntKind.u32.wrap ((nAt x 1 : Int).tmod 4294967296)), .int .u32 0, .bool false, .int .u64 (nAt x 2 : Int), .int .u64 (nAt x 3 : Int), .int .u8 (IntKind.u8.wrap ((nAt x 4 : Int).tmod 256))] := by
            simp [candR, Rc.cells, mod32, mod8, minw]
           rw [e]
           exact h
      ·as_aux_lemma =>
         have kt1 : (kk == 1) = false := by rw [HKk.out]; rfl
         have kt2 : (kk == 2) = false := by rw [HKk.out]; rfl
         have kt3 : (kk == 3) = false := by rw [HKk.out]; rfl
         have kt4 : (kk == 4) = false := by rw [HKk.out]; rfl
         have e5 : nsR x x.l.length = [.int .u64 (nAt x 0 : Int), .int .u64 (nAt x 1 : Int), .int .u64 (nAt x 2 : Int), .int .u64 (nAt x 3 : Int), .int .u64 (nAt x 4 : Int), .int .u64 0] := by rw [HLen.out]; simp [nsR, ksK, List.range, List.range.loop]
         have R5 := HR5.out
         rw [e5] at R5
         clear e5
         have hu : ∀ i, i < x.l.length → nAt x i < 18446744073709551616 := fun i hi => by
          have h := HU.out i _ (List.getElem?_eq_getElem hi)
          have e := nAt_of (List.getElem?_eq_getElem hi) h.1
          have := h.2
          omega
         have hl' := HLen.out
         have u1 : nAt x 1 < 18446744073709551616 := hu 1 (by rw [hl']; decide)
         have u2 : nAt x 2 < 18446744073709551616 := hu 2 (by rw [hl']; decide)
         have u3 : nAt x 3 < 18446744073709551616 := hu 3 (by rw [hl']; decide)
         have u4 : nAt x 4 < 18446744073709551616 := hu 4 (by rw [hl']; decide)
         clear hu hl'
         have F := HF7.out
         have R := HR7.out
         have hne : wr.heap.size ≠ v1.heap.size := by have := HZw.out.2; omega
         have HNe := h_ hne
         clear hne
         go_upto_region 14 with fail
         clear kt1 kt2 kt3 kt4
         obtain ⟨Q4, hQ4⟩ : ∃ z : Bool, z = ((nAt x 4 : Int) == 1) := ⟨_, rfl⟩
         have HQ4 := h_ hQ4
         rw [eq_comm] at hQ4
         replace F := F.drew
         replace R5 : RowB v7.drew v1.heap.size [.int .u64 (nAt x 0 : Int), .int .u64 (nAt x 1 : Int), .int .u64 (nAt x 2 : Int), .int .u64 (nAt x 3 : Int), .int .u64 (nAt x 4 : Int), .int .u64 0] := R5
         replace R : RowB v7.drew wr.heap.size [.int .i64 kk, .int .u32 0, .int .u32 0, .int .u64 0, .int .u32 0, .int .i64 0, .int .i64 0, .int .u64 0, .int .u64 0, .int .u32 0, .int .u32 0, .bool false, .int .u64 0, .int .u64 0, .int .u8 0] := R
         refine wp_region_held_drew (S := (fun w' => w'.cell? ⟨v1.heap.size, 0, none⟩ = some (.int .u64 (nAt x 0 : Int)) ∧ w'.cell? ⟨v1.heap.size, 1, none⟩ = some (.int .u64 (nAt x 1 : Int)) ∧ w'.cell? ⟨v1.heap.size, 2, none⟩ = some (.int .u64 (nAt x 2 : Int)) ∧ w'.cell? ⟨v1.heap.size, 3, none⟩ = some (.int .u64 (nAt x 3 : Int)) ∧ w'.cell? ⟨v1.heap.size, 4, none⟩ = some (.int .u64 (nAt x 4 : Int)) ∧ w'.cell? ⟨v1.heap.size, 5, none⟩ = some (.int .u64 0))) (by kernel_rfl) ⟨R5.1 0 _ rfl, R5.1 1 _ rfl, R5.1 2 _ rfl, R5.1 3 _ rfl, R5.1 4 _ rfl, R5.1 5 _ rfl⟩ (fun hHeld => ?_)
         generalize v7.drew = vv at *
         refine takeL 0 (v := ?_) ?_ ‹_› ?_
         rotate_left
         ·intro w hSw; go_simp; all_goals with_reducible rfl
         simp only [Act.put, zA, zB, zC]
         refine takeL 1 (v := ?_) ?_ ‹_› ?_
         rotate_left
         ·intro w hSw; go_simp; all_goals with_reducible rfl
         simp only [Act.put, zA, zB, zC]
         refine takeL 2 (v := ?_) ?_ ‹_› ?_
         rotate_left
         ·intro w hSw; go_simp; all_goals with_reducible rfl
         simp only [Act.put, zA, zB, zC]
         refine takeL 3 (v := ?_) ?_ ‹_› ?_
         rotate_left
         ·intro w hSw; go_simp; all_goals with_reducible rfl
         simp only [Act.put, zA, zB, zC]
         refine takeL 4 (v := ?_) ?_ ‹_› ?_
         rotate_left
         ·intro w hSw; go_simp; all_goals with_reducible rfl
         simp only [Act.put, zA, zB, zC]
         refine takeL 5 (v := ?_) ?_ ‹_› ?_
         rotate_left
         ·intro w hSw; go_simp; all_goals with_reducible rfl
         simp only [Act.put, zA, zB, zC]
         refine takeL 6 (v := ?_) ?_ ‹_› ?_
         rotate_left
         ·intro w hSw; go_simp; all_goals with_reducible rfl
         simp only [Act.put, zA, zB, zC]
         refine takeL 7 (v := ?_) ?_ ‹_› ?_
         rotate_left
         ·intro w hSw; go_simp; all_goals with_reducible rfl
         simp only [Act.put, zA, zB, zC]
         refine takeL 8 (v := ?_) ?_ ‹_› ?_
         rotate_left
         ·intro w hSw; go_simp; all_goals with_reducible rfl
         simp only [Act.put, zA, zB, zC]
         refine takeL 9 (v := ?_) ?_ ‹_› ?_
         rotate_left
         ·intro w hSw; go_simp; all_goals with_reducible rfl
         simp only [Act.put, zA, zB, zC]
         refine takeL 10 (v := ?_) ?_ ‹_› ?_
         rotate_left
         ·intro w hSw; go_simp; all_goals with_reducible rfl
         simp only [Act.put, zA, zB, zC]
         refine takeL 11 (v := ?_) ?_ ‹_› ?_
         rotate_left
         ·intro w hSw; go_simp; all_goals with_reducible rfl
         simp only [Act.put, zA, zB, zC]
         refine takeL 12 (v := ?_) ?_ ‹_› ?_
         rotate_left
         ·intro w hSw; go_simp; all_goals with_reducible rfl
         simp only [Act.put, zA, zB, zC]
         refine takeL 13 (v := ?_) ?_ ‹_› ?_
         rotate_left
         ·intro w hSw; go_simp; all_goals with_reducible rfl
         simp only [Act.put, zA, zB, zC]
         refine wpAnyH_ready (rs := [14]) (by kernel_rfl) (by simp) (.cons rfl (fun K hK => ?_) .nil)
         have sc := R.1 9 _ rfl
         have sf := R.2 9
         go_simp
         replace R := R.set 9 (.int .u32 (IntKind.u32.wrap ((nAt x 1 : Int).tmod 4294967296)))
         replace R5 := R5.other (i := 9) HNe.out (.int .u32 (IntKind.u32.wrap ((nAt x 1 : Int).tmod 4294967296)))
         replace F := F.setCell (p := ⟨wr.heap.size, 9, none⟩) (by have := HZw.out; show W.heap.size ≤ wr.heap.size; omega) (.int .u32 (IntKind.u32.wrap ((nAt x 1 : Int).tmod 4294967296)))
         clear sc sf
         simp only [zB, zC] at R
         refine hK.out _ _ ⟨R5.1 0 _ rfl, R5.1 1 _ rfl, R5.1 2 _ rfl, R5.1 3 _ rfl, R5.1 4 _ rfl, R5.1 5 _ rfl⟩ (fun hHeld => ?_)
         clear hK K
         try simp only [Act.put, zA, zB, zC]
         refine takeL 15 (v := ?_) ?_ ‹_› ?_
         rotate_left
         ·intro w hSw; go_simp; all_goals with_reducible rfl
         simp only [Act.put, zA, zB, zC]
         refine wpAnyH_ready (rs := [16]) (by kernel_rfl) (by simp) (.cons rfl (fun K hK => ?_) .nil)
         have sc := R.1 10 _ rfl
         have sf := R.2 10
         go_simp
         replace R := R.set 10 (.int .u32 (IntKind.u32.wrap ((nAt x 2 : Int).tmod 4294967296)))
         replace R5 := R5.other (i := 10) HNe.out (.int .u32 (IntKind.u32.wrap ((nAt x 2 : Int).tmod 4294967296)))
         replace F := F.setCell (p := ⟨wr.heap.size, 10, none⟩) (by have := HZw.out; show W.heap.size ≤ wr.heap.size; omega) (.int .u32 (IntKind.u32.wrap ((nAt x 2 : Int).tmod 4294967296)))
         clear sc sf
         simp only [zB, zC] at R
         refine hK.out _ _ ⟨R5.1 0 _ rfl, R5.1 1 _ rfl, R5.1 2 _ rfl, R5.1 3 _ rfl, R5.1 4 _ rfl, R5.1 5 _ rfl⟩ (fun hHeld => ?_)
         clear hK K
         try simp only [Act.put, zA, zB, zC]
         refine takeL 17 (v := ?_) ?_ ‹_› ?_
         rotate_left
         ·intro w hSw; go_simp; all_goals with_reducible rfl
         simp only [Act.put, zA, zB, zC]
         refine wpAnyH_ready (rs := [18]) (by kernel_rfl) (by simp) (.cons rfl (fun K hK => ?_) .nil)
         have sc := R.1 8 _ rfl
         have sf := R.2 8
         go_simp
         replace R := R.set 8 (.int .u64 (nAt x 3 : Int))
         replace R5 := R5.other (i := 8) HNe.out (.int .u64 (nAt x 3 : Int))
         replace F := F.setCell (p := ⟨wr.heap.size, 8, none⟩) (by have := HZw.out; show W.heap.size ≤ wr.heap.size; omega) (.int .u64 (nAt x 3 : Int))
         clear sc sf
         simp only [zB, zC] at R
         refine hK.out _ _ ⟨R5.1 0 _ rfl, R5.1 1 _ rfl, R5.1 2 _ rfl, R5.1 3 _ rfl, R5.1 4 _ rfl, R5.1 5 _ rfl⟩ (fun hHeld => ?_)
         clear hK K
         try simp only [Act.put, zA, zB, zC]
         refine takeL 19 (v := ?_) ?_ ‹_› ?_
         rotate_left
         ·intro w hSw; go_simp; all_goals with_reducible rfl
         simp only [Act.put, zA, zB, zC]
         refine wpAnyH_ready (rs := [20]) (by kernel_rfl) (by simp) (.cons rfl (fun K hK => ?_) .nil)
         have sc := R.1 11 _ rfl
         have sf := R.2 11
         go_simp
         replace R := R.set 11 (.bool Q4)
         replace R5 := R5.other (i := 11) HNe.out (.bool Q4)
         replace F := F.setCell (p := ⟨wr.heap.size, 11, none⟩) (by have := HZw.out; show W.heap.size ≤ wr.heap.size; omega) (.bool Q4)
         clear sc sf
         simp only [zB, zC] at R
         refine hK.out _ _ ⟨R5.1 0 _ rfl, R5.1 1 _ rfl, R5.1 2 _ rfl, R5.1 3 _ rfl, R5.1 4 _ rfl, R5.1 5 _ rfl⟩ (fun hHeld => ?_)
         clear hK K
         try simp only [Act.put, zA, zB, zC]
         clear hHeld
         refine wpAnyH_done (by kernel_rfl) ?_ _
         generalize ((((vv.setCell ⟨wr.heap.size, 9, none⟩ (.int .u32 (IntKind.u32.wrap ((nAt x 1 : Int).tmod 4294967296)))).setCell ⟨wr.heap.size, 10, none⟩ (.int .u32 (IntKind.u32.wrap ((nAt x 2 : Int).tmod 4294967296)))).setCell ⟨wr.heap.size, 8, none⟩ (.int .u64 (nAt x 3 : Int))).setCell ⟨wr.heap.size, 11, none⟩ (.bool Q4)) = vz at *
         have HFin := h_ (⟨F, R⟩ : _ ∧ _)
         clear F R R5
         go_wp2_with fail
         have hkk := HKk.out
         subst hkk
         go_meet
         case rel =>
          refine ⟨?_, HFin.out.1, ?_⟩
          ·rfl
          ·have h := HFin.out.2
           have e : (candR 4 x).cells = [.int .i64 (((4 : Nat) : Int) + 1), .int .u32 0, .int .u32 0, .int .u64 0, .int .u32 0, .int .i64 0, .int .i64 0, .int .u64 0, .int .u64 (nAt x 3 : Int), .int .u32 (IntKind.u32.wrap ((nAt x 1 : Int).tmod 4294967296)), .int .u32 (IntKind.u32.wrap ((nAt x 2 : Int).tmod 4294967296)), .bool Q4, .int .u64 0, .int .u64 0, .int .u8 0] := by
            simp [candR, Rc.cells, mod32, mod8, minw, HQ4.out, beq_one]
           rw [e]
           exact h
    case rest =>
     as_aux_lemma =>
      rename (!true) = false => h9
      clear h9
      obtain ⟨h8, hrel⟩ := hcut
      have HRel := h_ (Hid.out hrel)
      clear hrel
      have HC2 := HC
      obtain ⟨q, hq⟩ : ∃ q, q = candR j x := ⟨_, rfl⟩
      have HOf2 : Hid (ofR x = if (fineR j x && (rightR q && x.same (layR (j + 1) q))) = true then some q else none) := by
       rw [Hid, HOf.out, goodR, HSq.out, hq]
       rfl
      have hkq : q.k.toNat = j + 1 := by
       rw [hq]
       rcases (show j = 0 ∨ j = 1 ∨ j = 2 ∨ j = 3 ∨ j = 4 by have := HJ.out; omega) with rfl | rfl | rfl | rfl | rfl <;> rfl
      have HKq := h_ hkq
      rw [← hq] at HRel HC2
      generalize fineR j x = fb at *
      subst h8
      have hlt : wr.heap.size < wc.heap.size := World.block_lt_of_cell? wc ⟨wr.heap.size, 0, none⟩ (HRel.out.2.1 0 _ rfl)
      have HS : Hid (∀ w', Below wc.heap.size wc w' → (w'.cell? ⟨wr.heap.size, 0, none⟩ = some (.int .i64 q.k) ∧ w'.cell? ⟨wr.heap.size, 1, none⟩ = some (.int .u32 q.n) ∧ w'.cell? ⟨wr.heap.size, 2, none⟩ = some (.int .u32 q.m) ∧ w'.cell? ⟨wr.heap.size, 3, none⟩ = some (.int .u64 q.t) ∧ w'.cell? ⟨wr.heap.size, 4, none⟩ = some (.int .u32 q.q) ∧ w'.cell? ⟨wr.heap.size, 5, none⟩ = some (.int .i64 q.wh) ∧ w'.cell? ⟨wr.heap.size, 6, none⟩ = some (.int .i64 q.wy) ∧ w'.cell? ⟨wr.heap.size, 7, none⟩ = some (.int .u64 q.at0) ∧ w'.cell? ⟨wr.heap.size, 8, none⟩ = some (.int .u64 q.no) ∧ w'.cell? ⟨wr.heap.size, 9, none⟩ = some (.int .u32 q.nd) ∧ w'.cell? ⟨wr.heap.size, 10, none⟩ = some (.int .u32 q.rg) ∧ w'.cell? ⟨wr.heap.size, 11, none⟩ = some (.bool q.ys) ∧ w'.cell? ⟨wr.heap.size, 12, none⟩ = some (.int .u64 q.fr) ∧ w'.cell? ⟨wr.heap.size, 13, none⟩ = some (.int .u64 q.un) ∧ w'.cell? ⟨wr.heap.size, 14, none⟩ = some (.int .u8 q.lv)) ∧ (w'.cell? ⟨w.heap.size, 0, none⟩ = some (.int .i64 x.k) ∧ w'.cell? ⟨w.heap.size, 1, none⟩ = some (.int .u64 x.n) ∧ w'.cell? ⟨w.heap.size, 2, none⟩ = some (.slice a x.b.length c) ∧ w'.cell? ⟨w.heap.size, 3, none⟩ = some (.string ⟨x.s.toArray⟩) ∧ w'.cell? ⟨w.heap.size, 4, none⟩ = some (.slice (some ⟨g, o, none⟩) x.l.length C))) := fun w' h => by
       have h1 := HRel.out.2.on h hlt
       exact ⟨⟨h1.1 0 _ rfl, h1.1 1 _ rfl, h1.1 2 _ rfl, h1.1 3 _ rfl, h1.1 4 _ rfl, h1.1 5 _ rfl, h1.1 6 _ rfl, h1.1 7 _ rfl, h1.1 8 _ rfl, h1.1 9 _ rfl, h1.1 10 _ rfl, h1.1 11 _ rfl, h1.1 12 _ rfl, h1.1 13 _ rfl, h1.1 14 _ rfl⟩, (HX.out w' (below_on HRel.out.1 h)).1⟩
      have HLt := h_ hlt
      clear hq hlt hkq
      have F : Below wc.heap.size wc wc.drew := bR.drew
      cases fb
      ·as_aux_lemma =>
         go_upto_region 24 with fail
         refine wp_region_held_drew (S := (fun w' => (w'.cell? ⟨wr.heap.size, 0, none⟩ = some (.int .i64 q.k) ∧ w'.cell? ⟨wr.heap.size, 1, none⟩ = some (.int .u32 q.n) ∧ w'.cell? ⟨wr.heap.size, 2, none⟩ = some (.int .u32 q.m) ∧ w'.cell? ⟨wr.heap.size, 3, none⟩ = some (.int .u64 q.t) ∧ w'.cell? ⟨wr.heap.size, 4, none⟩ = some (.int .u32 q.q) ∧ w'.cell? ⟨wr.heap.size, 5, none⟩ = some (.int .i64 q.wh) ∧ w'.cell? ⟨wr.heap.size, 6, none⟩ = some (.int .i64 q.wy) ∧ w'.cell? ⟨wr.heap.size, 7, none⟩ = some (.int .u64 q.at0) ∧ w'.cell? ⟨wr.heap.size, 8, none⟩ = some (.int .u64 q.no) ∧ w'.cell? ⟨wr.heap.size, 9, none⟩ = some (.int .u32 q.nd) ∧ w'.cell? ⟨wr.heap.size, 10, none⟩ = some (.int .u32 q.rg) ∧ w'.cell? ⟨wr.heap.size, 11, none⟩ = some (.bool q.ys) ∧ w'.cell? ⟨wr.heap.size, 12, none⟩ = some (.int .u64 q.fr) ∧ w'.cell? ⟨wr.heap.size, 13, none⟩ = some (.int .u64 q.un) ∧ w'.cell? ⟨wr.heap.size, 14, none⟩ = some (.int .u8 q.lv)) ∧ (w'.cell? ⟨w.heap.size, 0, none⟩ = some (.int .i64 x.k) ∧ w'.cell? ⟨w.heap.size, 1, none⟩ = some (.int .u64 x.n) ∧ w'.cell? ⟨w.heap.size, 2, none⟩ = some (.slice a x.b.length c) ∧ w'.cell? ⟨w.heap.size, 3, none⟩ = some (.string ⟨x.s.toArray⟩) ∧ w'.cell? ⟨w.heap.size, 4, none⟩ = some (.slice (some ⟨g, o, none⟩) x.l.length C)))) (by kernel_rfl) (HS.out _ F) (fun hHeld => ?_)
         refine takeL 0 (v := ?_) ?_ ‹_› ?_
         rotate_left
         ·intro w hSw; go_simp; all_goals with_reducible rfl
         simp only [Act.put, zA, zB, zC]
         refine takeL 1 (v := ?_) ?_ ‹_› ?_
         rotate_left
         ·intro w hSw; go_simp; all_goals with_reducible rfl
         simp only [Act.put, zA, zB, zC]
         refine takeL 2 (v := ?_) ?_ ‹_› ?_
         rotate_left
         ·intro w hSw; go_simp; all_goals with_reducible rfl
         simp only [Act.put, zA, zB, zC]
         refine take_listed (i := 3) (v := undef) rfl (by kernel_rfl) (by kernel_rfl) (by kernel_rfl) (fun _ _ _ h => h) (Or.inr ⟨by rfl, rfl⟩) (by assumption) ?_
         simp only [Act.put, zA, zB, zC]
         refine take_listed (i := 4) (v := undef) rfl (by kernel_rfl) (by kernel_rfl) (by kernel_rfl) (fun _ _ _ h => h) (Or.inr ⟨by rfl, rfl⟩) (by assumption) ?_
         simp only [Act.put, zA, zB, zC]
         refine take_listed (i := 5) (v := undef) rfl (by kernel_rfl) (by kernel_rfl) (by kernel_rfl) (fun _ _ _ h => h) (Or.inr ⟨by rfl, rfl⟩) (by assumption) ?_
         simp only [Act.put, zA, zB, zC]
         refine takeL 6 (v := ?_) ?_ ‹_› ?_
         rotate_left
         ·intro w hSw; go_simp; all_goals with_reducible rfl
         simp only [Act.put, zA, zB, zC]
         refine takeL 7 (v := ?_) ?_ ‹_› ?_
         rotate_left
         ·intro w hSw; go_simp; all_goals with_reducible rfl
         simp only [Act.put, zA, zB, zC]
         refine take_listed (i := 8) (v := undef) rfl (by kernel_rfl) (by kernel_rfl) (by kernel_rfl) (fun _ _ _ h => h) (Or.inr ⟨by rfl, rfl⟩) (by assumption) ?_
         simp only [Act.put, zA, zB, zC]
         refine take_listed (i := 9) (v := undef) rfl (by kernel_rfl) (by kernel_rfl) (by kernel_rfl) (fun _ _ _ h => h) (Or.inr ⟨by rfl, rfl⟩) (by assumption) ?_
         simp only [Act.put, zA, zB, zC]
         refine take_listed (i := 10) (v := undef) rfl (by kernel_rfl) (by kernel_rfl) (by kernel_rfl) (fun _ _ _ h => h) (Or.inr ⟨by rfl, rfl⟩) (by assumption) ?_
         simp only [Act.put, zA, zB, zC]
         refine take_listed (i := 11) (v := undef) rfl (by kernel_rfl) (by kernel_rfl) (by kernel_rfl) (fun _ _ _ h => h) (Or.inr ⟨by rfl, rfl⟩) (by assumption) ?_
         simp only [Act.put, zA, zB, zC]
         refine take_listed (i := 12) (v := undef) rfl (by kernel_rfl) (by kernel_rfl) (by kernel_rfl) (fun _ _ _ h => h) (Or.inr ⟨by rfl, rfl⟩) (by assumption) ?_
         simp only [Act.put, zA, zB, zC]
         refine takeL 13 (v := ?_) ?_ ‹_› ?_
         rotate_left
         ·intro w hSw; go_simp; all_goals with_reducible rfl
         simp only [Act.put, zA, zB, zC]
         clear hHeld
         refine wpAnyH_done (by kernel_rfl) ?_ _
         have HF9 := h_ F
         clear F
         have HN : Hid (ofR x = none) := by rw [Hid, HOf2.out, if_neg]; simp
         generalize wc.drew = we at *
         have HRz := h_ (HX.out we (below_on HRel.out.1 HF9.out)).2.1
         have HBv : Hid (Below w.heap.size w we) := below_on HB0.out (below_on HRel.out.1 HF9.out)
         go_upto_region 25 with fail
         iterate 5 (first | go_skip | go_guarded | go_step)
         refine zst _ _ _ _ _ _ _ (by rfl) (by rfl) HRz.out ?_
         repeat (first | go_skip | go_guarded | go_step)
         change bodyPost _ _ _ _ _ (putL we (w.heap.size + 1) 0 [.int .i64 0, .int .u32 0, .int .u32 0, .int .u64 0, .int .u32 0, .int .i64 0, .int .i64 0, .int .u64 0, .int .u64 0, .int .u32 0, .int .u32 0, .bool false, .int .u64 0, .int .u64 0, .int .u8 0])
         have hrow : RowB (putL we (w.heap.size + 1) 0 [.int .i64 0, .int .u32 0, .int .u32 0, .int .u64 0, .int .u32 0, .int .i64 0, .int .i64 0, .int .u64 0, .int .u64 0, .int .u32 0, .int .u32 0, .bool false, .int .u64 0, .int .u64 0, .int .u8 0]) (w.heap.size + 1) [.int .i64 0, .int .u32 0, .int .u32 0, .int .u64 0, .int .u32 0, .int .i64 0, .int .i64 0, .int .u64 0, .int .u64 0, .int .u32 0, .int .u32 0, .bool false, .int .u64 0, .int .u64 0, .int .u8 0] := putL_row _ _ 0 _ HRz.out
         have hbk : Below w.heap.size w (putL we (w.heap.size + 1) 0 [.int .i64 0, .int .u32 0, .int .u32 0, .int .u64 0, .int .u32 0, .int .i64 0, .int .i64 0, .int .u64 0, .int .u64 0, .int .u32 0, .int .u32 0, .bool false, .int .u64 0, .int .u64 0, .int .u8 0]) := putL_bel (Nat.le_succ _) _ 0 _ HBv.out
         generalize putL we (w.heap.size + 1) 0 [.int .i64 0, .int .u32 0, .int .u32 0, .int .u64 0, .int .u32 0, .int .i64 0, .int .i64 0, .int .u64 0, .int .u64 0, .int .u32 0, .int .u32 0, .bool false, .int .u64 0, .int .u64 0, .int .u8 0] = w30 at *
         exact zret _ _ false _ _ (by rfl) (by rfl) rfl hrow ⟨hbk, .inr ⟨HN.out, rfl⟩⟩
      cases hrq : rightR q with
      | false =>
       as_aux_lemma =>
        have HRq := h_ hrq
        clear hrq
        go_upto_region 24 with fail
        refine wp_region_held_drew (S := (fun w' => (w'.cell? ⟨wr.heap.size, 0, none⟩ = some (.int .i64 q.k) ∧ w'.cell? ⟨wr.heap.size, 1, none⟩ = some (.int .u32 q.n) ∧ w'.cell? ⟨wr.heap.size, 2, none⟩ = some (.int .u32 q.m) ∧ w'.cell? ⟨wr.heap.size, 3, none⟩ = some (.int .u64 q.t) ∧ w'.cell? ⟨wr.heap.size, 4, none⟩ = some (.int .u32 q.q) ∧ w'.cell? ⟨wr.heap.size, 5, none⟩ = some (.int .i64 q.wh) ∧ w'.cell? ⟨wr.heap.size, 6, none⟩ = some (.int .i64 q.wy) ∧ w'.cell? ⟨wr.heap.size, 7, none⟩ = some (.int .u64 q.at0) ∧ w'.cell? ⟨wr.heap.size, 8, none⟩ = some (.int .u64 q.no) ∧ w'.cell? ⟨wr.heap.size, 9, none⟩ = some (.int .u32 q.nd) ∧ w'.cell? ⟨wr.heap.size, 10, none⟩ = some (.int .u32 q.rg) ∧ w'.cell? ⟨wr.heap.size, 11, none⟩ = some (.bool q.ys) ∧ w'.cell? ⟨wr.heap.size, 12, none⟩ = some (.int .u64 q.fr) ∧ w'.cell? ⟨wr.heap.size, 13, none⟩ = some (.int .u64 q.un) ∧ w'.cell? ⟨wr.heap.size, 14, none⟩ = some (.int .u8 q.lv)) ∧ (w'.cell? ⟨w.heap.size, 0, none⟩ = some (.int .i64 x.k) ∧ w'.cell? ⟨w.heap.size, 1, none⟩ = some (.int .u64 x.n) ∧ w'.cell? ⟨w.heap.size, 2, none⟩ = some (.slice a x.b.length c) ∧ w'.cell? ⟨w.heap.size, 3, none⟩ = some (.string ⟨x.s.toArray⟩) ∧ w'.cell? ⟨w.heap.size, 4, none⟩ = some (.slice (some ⟨g, o, none⟩) x.l.length C)))) (by kernel_rfl) (HS.out _ F) (fun hHeld => ?_)
        refine takeL 0 (v := ?_) ?_ ‹_› ?_
        rotate_left
        ·intro w hSw; go_simp; all_goals with_reducible rfl
        simp only [Act.put, zA, zB, zC]
        refine takeL 1 (v := ?_) ?_ ‹_› ?_
        rotate_left
        ·intro w hSw; go_simp; all_goals with_reducible rfl
        simp only [Act.put, zA, zB, zC]
        refine takeL 2 (v := ?_) ?_ ‹_› ?_
        rotate_left
        ·intro w hSw; go_simp; all_goals with_reducible rfl
        simp only [Act.put, zA, zB, zC]
        refine takeL 3 (v := ?_) ?_ ‹_› ?_
        rotate_left
        ·intro w hSw; go_simp; all_goals with_reducible rfl
        simp only [Act.put, zA, zB, zC]
        refine wpAnyH_ready (rs := [4]) (by kernel_rfl) (by simp) (.cons rfl (fun K hK => ?_) .nil)
        go_simp
        refine (rRight10_any q _).mono ?_
        rintro e w4 ⟨rfl, hb⟩
        rw [HRq.out]
        replace F := below_on F hb
        clear hb
        refine hK.out _ _ (HS.out _ F) (fun hHeld => ?_)
        clear hK K
        try simp only [Act.put, zA, zB, zC]
        refine takeL 5 (v := ?_) ?_ ‹_› ?_
        rotate_left
        ·intro w hSw; go_simp; all_goals with_reducible rfl
        simp only [Act.put, zA, zB, zC]
        refine takeL 6 (v := ?_) ?_ ‹_› ?_
        rotate_left
        ·intro w hSw; go_simp; all_goals with_reducible rfl
        simp only [Act.put, zA, zB, zC]
        refine takeL 7 (v := ?_) ?_ ‹_› ?_
        rotate_left
        ·intro w hSw; go_simp; all_goals with_reducible rfl
        simp only [Act.put, zA, zB, zC]
        refine take_listed (i := 8) (v := undef) rfl (by kernel_rfl) (by kernel_rfl) (by kernel_rfl) (fun _ _ _ h => h) (Or.inr ⟨by rfl, rfl⟩) (by assumption) ?_
        simp only [Act.put, zA, zB, zC]
        refine take_listed (i := 9) (v := undef) rfl (by kernel_rfl) (by kernel_rfl) (by kernel_rfl) (fun _ _ _ h => h) (Or.inr ⟨by rfl, rfl⟩) (by assumption) ?_
        simp only [Act.put, zA, zB, zC]
        refine take_listed (i := 10) (v := undef) rfl (by kernel_rfl) (by kernel_rfl) (by kernel_rfl) (fun _ _ _ h => h) (Or.inr ⟨by rfl, rfl⟩) (by assumption) ?_
        simp only [Act.put, zA, zB, zC]
        refine take_listed (i := 11) (v := undef) rfl (by kernel_rfl) (by kernel_rfl) (by kernel_rfl) (fun _ _ _ h => h) (Or.inr ⟨by rfl, rfl⟩) (by assumption) ?_
        simp only [Act.put, zA, zB, zC]
        refine take_listed (i := 12) (v := undef) rfl (by kernel_rfl) (by kernel_rfl) (by kernel_rfl) (fun _ _ _ h => h) (Or.inr ⟨by rfl, rfl⟩) (by assumption) ?_
        simp only [Act.put, zA, zB, zC]
        refine takeL 13 (v := ?_) ?_ ‹_› ?_
        rotate_left
        ·intro w hSw; go_simp; all_goals with_reducible rfl
        simp only [Act.put, zA, zB, zC]
        clear hHeld
        refine wpAnyH_done (by kernel_rfl) ?_ _
        have HF9 := h_ F
        clear F
        have HN : Hid (ofR x = none) := by rw [Hid, HOf2.out, if_neg]; rw [HRq.out]; simp
        obtain ⟨we, hwe⟩ : ∃ we, we = w4 := ⟨_, rfl⟩
        rw [← hwe] at HF9 ⊢
        clear hwe
        have HRz := h_ (HX.out we (below_on HRel.out.1 HF9.out)).2.1
        have HBv : Hid (Below w.heap.size w we) := below_on HB0.out (below_on HRel.out.1 HF9.out)
        go_upto_region 25 with fail
        iterate 5 (first | go_skip | go_guarded | go_step)
        refine zst _ _ _ _ _ _ _ (by rfl) (by rfl) HRz.out ?_
        repeat (first | go_skip | go_guarded | go_step)
        change bodyPost _ _ _ _ _ (putL we (w.heap.size + 1) 0 [.int .i64 0, .int .u32 0, .int .u32 0, .int .u64 0, .int .u32 0, .int .i64 0, .int .i64 0, .int .u64 0, .int .u64 0, .int .u32 0, .int .u32 0, .bool false, .int .u64 0, .int .u64 0, .int .u8 0])
        have hrow : RowB (putL we (w.heap.size + 1) 0 [.int .i64 0, .int .u32 0, .int .u32 0, .int .u64 0, .int .u32 0, .int .i64 0, .int .i64 0, .int .u64 0, .int .u64 0, .int .u32 0, .int .u32 0, .bool false, .int .u64 0, .int .u64 0, .int .u8 0]) (w.heap.size + 1) [.int .i64 0, .int .u32 0, .int .u32 0, .int .u64 0, .int .u32 0, .int .i64 0, .int .i64 0, .int .u64 0, .int .u64 0, .int .u32 0, .int .u32 0, .bool false, .int .u64 0, .int .u64 0, .int .u8 0] := putL_row _ _ 0 _ HRz.out
        have hbk : Below w.heap.size w (putL we (w.heap.size + 1) 0 [.int .i64 0, .int .u32 0, .int .u32 0, .int .u64 0, .int .u32 0, .int .i64 0, .int .i64 0, .int .u64 0, .int .u64 0, .int .u32 0, .int .u32 0, .bool false, .int .u64 0, .int .u64 0, .int .u8 0]) := putL_bel (Nat.le_succ _) _ 0 _ HBv.out
        generalize putL we (w.heap.size + 1) 0 [.int .i64 0, .int .u32 0, .int .u32 0, .int .u64 0, .int .u32 0, .int .i64 0, .int .i64 0, .int .u64 0, .int .u64 0, .int .u32 0, .int .u32 0, .bool false, .int .u64 0, .int .u64 0, .int .u8 0] = w30 at *
        exact zret _ _ false _ _ (by rfl) (by rfl) rfl hrow ⟨hbk, .inr ⟨HN.out, rfl⟩⟩
      | true =>
       as_aux_lemma =>
        have HRp := h_ (right_parts hrq)
        have HRq := h_ hrq
        clear hrq
        go_upto_region 24 with fail
        refine wp_region_held_drew (S := (fun w' => (w'.cell? ⟨wr.heap.size, 0, none⟩ = some (.int .i64 q.k) ∧ w'.cell? ⟨wr.heap.size, 1, none⟩ = some (.int .u32 q.n) ∧ w'.cell? ⟨wr.heap.size, 2, none⟩ = some (.int .u32 q.m) ∧ w'.cell? ⟨wr.heap.size, 3, none⟩ = some (.int .u64 q.t) ∧ w'.cell? ⟨wr.heap.size, 4, none⟩ = some (.int .u32 q.q) ∧ w'.cell? ⟨wr.heap.size, 5, none⟩ = some (.int .i64 q.wh) ∧ w'.cell? ⟨wr.heap.size, 6, none⟩ = some (.int .i64 q.wy) ∧ w'.cell? ⟨wr.heap.size, 7, none⟩ = some (.int .u64 q.at0) ∧ w'.cell? ⟨wr.heap.size, 8, none⟩ = some (.int .u64 q.no) ∧ w'.cell? ⟨wr.heap.size, 9, none⟩ = some (.int .u32 q.nd) ∧ w'.cell? ⟨wr.heap.size, 10, none⟩ = some (.int .u32 q.rg) ∧ w'.cell? ⟨wr.heap.size, 11, none⟩ = some (.bool q.ys) ∧ w'.cell? ⟨wr.heap.size, 12, none⟩ = some (.int .u64 q.fr) ∧ w'.cell? ⟨wr.heap.size, 13, none⟩ = some (.int .u64 q.un) ∧ w'.cell? ⟨wr.heap.size, 14, none⟩ = some (.int .u8 q.lv)) ∧ (w'.cell? ⟨w.heap.size, 0, none⟩ = some (.int .i64 x.k) ∧ w'.cell? ⟨w.heap.size, 1, none⟩ = some (.int .u64 x.n) ∧ w'.cell? ⟨w.heap.size, 2, none⟩ = some (.slice a x.b.length c) ∧ w'.cell? ⟨w.heap.size, 3, none⟩ = some (.string ⟨x.s.toArray⟩) ∧ w'.cell? ⟨w.heap.size, 4, none⟩ = some (.slice (some ⟨g, o, none⟩) x.l.length C)))) (by kernel_rfl) (HS.out _ F) (fun hHeld => ?_)
        refine takeL 0 (v := ?_) ?_ ‹_› ?_
        rotate_left
        ·intro w hSw; go_simp; all_goals with_reducible rfl
        simp only [Act.put, zA, zB, zC]
        refine takeL 1 (v := ?_) ?_ ‹_› ?_
        rotate_left
        ·intro w hSw; go_simp; all_goals with_reducible rfl
        simp only [Act.put, zA, zB, zC]
        refine takeL 2 (v := ?_) ?_ ‹_› ?_
        rotate_left
        ·intro w hSw; go_simp; all_goals with_reducible rfl
        simp only [Act.put, zA, zB, zC]
        refine takeL 3 (v := ?_) ?_ ‹_› ?_
        rotate_left
        ·intro w hSw; go_simp; all_goals with_reducible rfl
        simp only [Act.put, zA, zB, zC]
        refine wpAnyH_ready (rs := [4]) (by kernel_rfl) (by simp) (.cons rfl (fun K hK => ?_) .nil)
        go_simp
        refine (rRight10_any q _).mono ?_
        rintro e w4 ⟨rfl, hb⟩
        rw [HRq.out]
        replace F := below_on F hb
        clear hb
        refine hK.out _ _ (HS.out _ F) (fun hHeld => ?_)
        clear hK K
        try simp only [Act.put, zA, zB, zC]
        refine takeL 5 (v := ?_) ?_ ‹_› ?_
        rotate_left
        ·intro w hSw; go_simp; all_goals with_reducible rfl
        simp only [Act.put, zA, zB, zC]
        refine takeL 6 (v := ?_) ?_ ‹_› ?_
        rotate_left
        ·intro w hSw; go_simp; all_goals with_reducible rfl
        simp only [Act.put, zA, zB, zC]
        refine takeL 7 (v := ?_) ?_ ‹_› ?_
        rotate_left
        ·intro w hSw; go_simp; all_goals with_reducible rfl
        simp only [Act.put, zA, zB, zC]
        refine takeL 8 (v := ?_) ?_ ‹_› ?_
        rotate_left
        ·intro w hSw; go_simp; all_goals with_reducible rfl
        simp only [Act.put, zA, zB, zC]
        refine takeL 9 (v := ?_) ?_ ‹_› ?_
        rotate_left
        ·intro w hSw; go_simp; all_goals with_reducible rfl
        simp only [Act.put, zA, zB, zC]
        refine wpAnyH_ready (rs := [10]) (by kernel_rfl) (by simp) (.cons rfl (fun K hK => ?_) .nil)
        go_simp
        refine (refItem10_any q HC2.out HRp.out.1.1 HRp.out.1.2 HRp.out.2 _).mono ?_
        rintro e w10 ⟨hb, ai, ci, Ai, Ci, rfl, hit⟩
        replace F := below_on F hb
        have HIt := h_ hit.new_itV
        clear hb hit
        refine hK.out _ _ (HS.out _ F) (fun hHeld => ?_)
        clear hK K
        try simp only [Act.put, zA, zB, zC]
        refine wpAnyH_ready (rs := [11]) (by kernel_rfl) (by simp) (.cons rfl (fun K hK => ?_) .nil)
        go_simp
        refine (refSame_any x _ _ _ _ (HX.out _ (below_on HRel.out.1 F)).2.2.2 HIt.out).mono ?_
        rintro e w11 ⟨rfl, hb⟩
        replace F := below_on F hb
        clear hb HIt
        rw [HKq.out]
        generalize hsm : x.same (layR (j + 1) q) = sm
        have HSm := h_ hsm
        clear hsm
        refine hK.out _ _ (HS.out _ F) (fun hHeld => ?_)
        clear hK K
        try simp only [Act.put, zA, zB, zC]
        refine takeL 12 (v := ?_) ?_ ‹_› ?_
        rotate_left
        ·intro w hSw; go_simp; all_goals with_reducible rfl
        simp only [Act.put, zA, zB, zC]
        refine takeL 13 (v := ?_) ?_ ‹_› ?_
        rotate_left
        ·intro w hSw; go_simp; all_goals with_reducible rfl
        simp only [Act.put, zA, zB, zC]
        clear hHeld
        refine wpAnyH_done (by kernel_rfl) ?_ _
        have HF9 := h_ F
        clear F
        cases sm
        ·as_aux_lemma =>
           have HN : Hid (ofR x = none) := by rw [Hid, HOf2.out, if_neg]; rw [HRq.out, HSm.out]; simp
           obtain ⟨we, hwe⟩ : ∃ we, we = w11 := ⟨_, rfl⟩
           rw [← hwe] at HF9 ⊢
           clear hwe
           have HRz := h_ (HX.out we (below_on HRel.out.1 HF9.out)).2.1
           have HBv : Hid (Below w.heap.size w we) := below_on HB0.out (below_on HRel.out.1 HF9.out)
           go_upto_region 25 with fail
           iterate 5 (first | go_skip | go_guarded | go_step)
           refine zst _ _ _ _ _ _ _ (by rfl) (by rfl) HRz.out ?_
           repeat (first | go_skip | go_guarded | go_step)
           change bodyPost _ _ _ _ _ (putL we (w.heap.size + 1) 0 [.int .i64 0, .int .u32 0, .int .u32 0, .int .u64 0, .int .u32 0, .int .i64 0, .int .i64 0, .int .u64 0, .int .u64 0, .int .u32 0, .int .u32 0, .bool false, .int .u64 0, .int .u64 0, .int .u8 0])
           have hrow : RowB (putL we (w.heap.size + 1) 0 [.int .i64 0, .int .u32 0, .int .u32 0, .int .u64 0, .int .u32 0, .int .i64 0, .int .i64 0, .int .u64 0, .int .u64 0, .int .u32 0, .int .u32 0, .bool false, .int .u64 0, .int .u64 0, .int .u8 0]) (w.heap.size + 1) [.int .i64 0, .int .u32 0, .int .u32 0, .int .u64 0, .int .u32 0, .int .i64 0, .int .i64 0, .int .u64 0, .int .u64 0, .int .u32 0, .int .u32 0, .bool false, .int .u64 0, .int .u64 0, .int .u8 0] := putL_row _ _ 0 _ HRz.out
           have hbk : Below w.heap.size w (putL we (w.heap.size + 1) 0 [.int .i64 0, .int .u32 0, .int .u32 0, .int .u64 0, .int .u32 0, .int .i64 0, .int .i64 0, .int .u64 0, .int .u64 0, .int .u32 0, .int .u32 0, .bool false, .int .u64 0, .int .u64 0, .int .u8 0]) := putL_bel (Nat.le_succ _) _ 0 _ HBv.out
           generalize putL we (w.heap.size + 1) 0 [.int .i64 0, .int .u32 0, .int .u32 0, .int .u64 0, .int .u32 0, .int .i64 0, .int .i64 0, .int .u64 0, .int .u64 0, .int .u32 0, .int .u32 0, .bool false, .int .u64 0, .int .u64 0, .int .u8 0] = w30 at *
           exact zret _ _ false _ _ (by rfl) (by rfl) rfl hrow ⟨hbk, .inr ⟨HN.out, rfl⟩⟩
        ·as_aux_lemma =>
           have HN : Hid (ofR x = some q) := by rw [Hid, HOf2.out, if_pos]; rw [HRq.out, HSm.out]; rfl
           obtain ⟨we, hwe⟩ : ∃ we, we = w11 := ⟨_, rfl⟩
           rw [← hwe] at HF9 ⊢
           clear hwe
           have HRz := h_ (HX.out we (below_on HRel.out.1 HF9.out)).2.1
           have HBv : Hid (Below w.heap.size w we) := below_on HB0.out (below_on HRel.out.1 HF9.out)
           go_upto_region 26 with fail
           have HRq9 : Hid (RowB we wr.heap.size [.int .i64 q.k, .int .u32 q.n, .int .u32 q.m, .int .u64 q.t, .int .u32 q.q, .int .i64 q.wh, .int .i64 q.wy, .int .u64 q.at0, .int .u64 q.no, .int .u32 q.nd, .int .u32 q.rg, .bool q.ys, .int .u64 q.fr, .int .u64 q.un, .int .u8 q.lv]) := HRel.out.2.on HF9.out HLt.out
           iterate 2 (first | go_skip | go_guarded | go_step)
           refine zld _ _ _ _ _ _ _ _ (by rfl) HRq9.out ?_
           iterate 2 (first | go_skip | go_guarded | go_step)
           refine zst _ _ _ _ _ _ _ (by rfl) (by rfl) HRz.out ?_
           repeat (first | go_skip | go_guarded | go_step)
           change bodyPost _ _ _ _ _ (putL we (w.heap.size + 1) 0 [.int .i64 q.k, .int .u32 q.n, .int .u32 q.m, .int .u64 q.t, .int .u32 q.q, .int .i64 q.wh, .int .i64 q.wy, .int .u64 q.at0, .int .u64 q.no, .int .u32 q.nd, .int .u32 q.rg, .bool q.ys, .int .u64 q.fr, .int .u64 q.un, .int .u8 q.lv])
           have hrow : RowB (putL we (w.heap.size + 1) 0 [.int .i64 q.k, .int .u32 q.n, .int .u32 q.m, .int .u64 q.t, .int .u32 q.q, .int .i64 q.wh, .int .i64 q.wy, .int .u64 q.at0, .int .u64 q.no, .int .u32 q.nd, .int .u32 q.rg, .bool q.ys, .int .u64 q.fr, .int .u64 q.un, .int .u8 q.lv]) (w.heap.size + 1) [.int .i64 q.k, .int .u32 q.n, .int .u32 q.m, .int .u64 q.t, .int .u32 q.q, .int .i64 q.wh, .int .i64 q.wy, .int .u64 q.at0, .int .u64 q.no, .int .u32 q.nd, .int .u32 q.rg, .bool q.ys, .int .u64 q.fr, .int .u64 q.un, .int .u8 q.lv] := putL_row _ _ 0 _ HRz.out
           have hbk : Below w.heap.size w (putL we (w.heap.size + 1) 0 [.int .i64 q.k, .int .u32 q.n, .int .u32 q.m, .int .u64 q.t, .int .u32 q.q, .int .i64 q.wh, .int .i64 q.wy, .int .u64 q.at0, .int .u64 q.no, .int .u32 q.nd, .int .u32 q.rg, .bool q.ys, .int .u64 q.fr, .int .u64 q.un, .int .u8 q.lv]) := putL_bel (Nat.le_succ _) _ 0 _ HBv.out
           generalize putL we (w.heap.size + 1) 0 [.int .i64 q.k, .int .u32 q.n, .int .u32 q.m, .int .u64 q.t, .int .u32 q.q, .int .i64 q.wh, .int .i64 q.wy, .int .u64 q.at0, .int .u64 q.no, .int .u32 q.nd, .int .u32 q.rg, .bool q.ys, .int .u64 q.fr, .int .u64 q.un, .int .u8 q.lv] = w30 at *
           exact zret _ _ true _ _ (by rfl) (by rfl) rfl hrow ⟨hbk, .inl ⟨q, HN.out, rfl⟩⟩

end Go.Proofs.YteldifnkeekafaaGreatDoor
