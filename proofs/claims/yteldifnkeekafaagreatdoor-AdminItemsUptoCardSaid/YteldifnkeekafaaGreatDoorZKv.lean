/- Joined texts. -/
import Derived.Test.YteldifnkeekafaaGreatDoorZJf
import Derived.StillTailTactics
import Derived.Test.YteldifnkeekafaaGreatDoorZJa
set_option maxHeartbeats 8000000
set_option linter.unusedSimpArgs false
namespace Go.Proofs.YteldifnkeekafaaGreatDoor
open Go.RowKit Go.Shelf

inductive It where
 | mk (k : Int) (n : Int) (b s : List UInt8) (l : List It)

def It.k : It → Int | .mk k _ _ _ _ => k
def It.n : It → Int | .mk _ n _ _ _ => n
def It.b : It → List UInt8 | .mk _ _ b _ _ => b
def It.s : It → List UInt8 | .mk _ _ _ s _ => s
def It.l : It → List It | .mk _ _ _ _ l => l

def At5 (w : World) (g o : Nat) (v : Value) : Prop :=
 ∃ v0 v1 v2 v3 v4, v = .agg #[v0, v1, v2, v3, v4] ∧ w.cell? ⟨g, o, none⟩ = some v0 ∧ w.cell? ⟨g, o + 1, none⟩ = some v1 ∧ w.cell? ⟨g, o + 2, none⟩ = some v2 ∧ w.cell? ⟨g, o + 3, none⟩ = some v3 ∧ w.cell? ⟨g, o + 4, none⟩ = some v4

def Sz (n : Nat) : Prop := n ≤ 140737488355328

def ItP (w : World) (B : Nat) (v : Value) (k n : Int) (b s : List UInt8) (m : Nat) (A : Option Addr) : Prop :=
 ∃ a c C, v = .agg #[.int .i64 k, .int .u64 n, .slice a b.length c, .string ⟨s.toArray⟩, .slice A m C] ∧ (b.length ≤ c ∧ m ≤ C) ∧ RdB w B a b ∧ U64 n ∧ (-9223372036854775808 ≤ k ∧ k < 9223372036854775808) ∧ Sz b.length ∧ Sz s.length ∧ Sz m

mutual
def ItV (w : World) (B : Nat) (v : Value) : It → Prop
 | .mk k n b s l => ∃ A, ItP w B v k n b s l.length A ∧ (l = [] ∨ ∃ g o, A = some ⟨g, o, none⟩ ∧ g < B ∧ ItL w B g o l)
def ItL (w : World) (B g : Nat) (o : Nat) : List It → Prop
 | [] => True
 | x :: xs => (∃ v, At5 w g o v ∧ ItV w B v x) ∧ ItL w B g (o + 5) xs
end

theorem At5.below {w w' : World} {B g o : Nat} {v : Value} (h : At5 w g o v) (hb : Below B w w') (hg : g < B) : At5 w' g o v := by
 obtain ⟨v0, v1, v2, v3, v4, rfl, h0, h1, h2, h3, h4⟩ := h
 exact ⟨v0, v1, v2, v3, v4, rfl, (hb.cell (p := ⟨g, o, none⟩) hg).trans h0, (hb.cell (p := ⟨g, o + 1, none⟩) hg).trans h1, (hb.cell (p := ⟨g, o + 2, none⟩) hg).trans h2, (hb.cell (p := ⟨g, o + 3, none⟩) hg).trans h3, (hb.cell (p := ⟨g, o + 4, none⟩) hg).trans h4⟩

theorem ItP.below {w w' : World} {B m : Nat} {v : Value} {k n : Int} {b s : List UInt8} {A : Option Addr} (h : ItP w B v k n b s m A) (hb : Below B w w') : ItP w' B v k n b s m A := by
 obtain ⟨a, c, C, h1, h2, h3, r⟩ := h
 exact ⟨a, c, C, h1, h2, h3.below hb, r⟩

theorem ItP.mono {w : World} {B B' m : Nat} {v : Value} {k n : Int} {b s : List UInt8} {A : Option Addr} (h : ItP w B v k n b s m A) (hb : B ≤ B') : ItP w B' v k n b s m A := by
 obtain ⟨a, c, C, h1, h2, h3, r⟩ := h
 exact ⟨a, c, C, h1, h2, h3.mono hb, r⟩

mutual
theorem ItV.below {w w' : World} {B : Nat} (hb : Below B w w') : ∀ (x : It) {v : Value}, ItV w B v x → ItV w' B v x
 | .mk k n b s l, v, h => by
  simp only [ItV] at h ⊢
  obtain ⟨A, hp, hl⟩ := h
  refine ⟨A, hp.below hb, hl.imp id ?_⟩
  rintro ⟨g, o, rfl, hg, hl⟩
  exact ⟨g, o, rfl, hg, ItL.below hb hg l hl⟩
theorem ItL.below {w w' : World} {B g : Nat} (hb : Below B w w') (hg : g < B) : ∀ (l : List It) {o : Nat}, ItL w B g o l → ItL w' B g o l
 | [], _, _ => by simp only [ItL]
 | x :: xs, o, h => by
  simp only [ItL] at h ⊢
  obtain ⟨⟨v, h5, hv⟩, hr⟩ := h
  exact ⟨⟨v, h5.below hb hg, ItV.below hb x hv⟩, ItL.below hb hg xs hr⟩
end

mutual
theorem ItV.mono {w : World} {B B' : Nat} (hb : B ≤ B') : ∀ (x : It) {v : Value}, ItV w B v x → ItV w B' v x
 | .mk k n b s l, v, h => by
  simp only [ItV] at h ⊢
  obtain ⟨A, hp, hl⟩ := h
  refine ⟨A, hp.mono hb, hl.imp id ?_⟩
  rintro ⟨g, o, rfl, hg, hl⟩
  exact ⟨g, o, rfl, Nat.lt_of_lt_of_le hg hb, ItL.mono hb l hl⟩
theorem ItL.mono {w : World} {B B' g : Nat} (hb : B ≤ B') : ∀ (l : List It) {o : Nat}, ItL w B g o l → ItL w B' g o l
 | [], _, _ => by simp only [ItL]
 | x :: xs, o, h => by
  simp only [ItL] at h ⊢
  obtain ⟨⟨v, h5, hv⟩, hr⟩ := h
  exact ⟨⟨v, h5, ItV.mono hb x hv⟩, ItL.mono hb xs hr⟩
end

theorem ItV.on {w w' : World} {x : It} {v : Value} (h : ItV w w.heap.size v x) (hb : Below w.heap.size w w') : ItV w' w'.heap.size v x :=
 ItV.mono hb.size x (ItV.below hb x h)

theorem ItL.at {w : World} {B g : Nat} : ∀ {l : List It} {o i : Nat} {x : It}, ItL w B g o l → l[i]? = some x → ∃ v, At5 w g (o + i * 5) v ∧ ItV w B v x
 | [], _, i, _, _, hi => by simp at hi
 | y :: ys, o, 0, x, h, hi => by
  simp only [ItL] at h
  simp at hi
  subst hi
  simpa using h.1
 | y :: ys, o, i + 1, x, h, hi => by
  simp only [ItL] at h
  have := ItL.at h.2 (i := i) (x := x) (by simpa using hi)
  rw [show o + (i + 1) * 5 = o + 5 + i * 5 by omega]
  exact this

theorem ItV.form {w : World} {B : Nat} {v : Value} {x : It} (h : ItV w B v x) : ∃ a c A C, v = .agg #[.int .i64 x.k, .int .u64 x.n, .slice a x.b.length c, .string ⟨x.s.toArray⟩, .slice A x.l.length C] := by
 obtain ⟨k, n, b, s, l⟩ := x
 simp only [ItV] at h
 obtain ⟨A, ⟨a, c, C, rfl, _⟩, _⟩ := h
 exact ⟨a, c, A, C, rfl⟩

theorem ItL.get {w w' : World} {B g : Nat} {l : List It} {o i : Nat} {x : It} (h : ItL w B g o l) (hi : l[i]? = some x) (hb : Below B w w') (hg : g < B) :
  ∃ a c A C, ItV w' B (.agg #[.int .i64 x.k, .int .u64 x.n, .slice a x.b.length c, .string ⟨x.s.toArray⟩, .slice A x.l.length C]) x ∧
   w'.cell? ⟨g, o + i * 5, none⟩ = some (.int .i64 x.k) ∧ w'.cell? ⟨g, o + i * 5 + 1, none⟩ = some (.int .u64 x.n) ∧ w'.cell? ⟨g, o + i * 5 + 2, none⟩ = some (.slice a x.b.length c) ∧
   w'.cell? ⟨g, o + i * 5 + 3, none⟩ = some (.string ⟨x.s.toArray⟩) ∧ w'.cell? ⟨g, o + i * 5 + 4, none⟩ = some (.slice A x.l.length C) := by
 obtain ⟨v, h5, hv⟩ := ItL.at h hi
 have h5 := h5.below hb hg
 have hv := ItV.below hb x hv
 obtain ⟨a, c, A, C, rfl⟩ := hv.form
 obtain ⟨v0, v1, v2, v3, v4, e, h0, h1, h2, h3, h4⟩ := h5
 injection e with e
 have e' : [Value.int .i64 x.k, .int .u64 x.n, .slice a x.b.length c, .string ⟨x.s.toArray⟩, .slice A x.l.length C] = [v0, v1, v2, v3, v4] := congrArg Array.toList e
 simp only [List.cons.injEq, and_true] at e'
 obtain ⟨rfl, rfl, rfl, rfl, rfl⟩ := e'
 exact ⟨a, c, A, C, hv, h0, h1, h2, h3, h4⟩

mutual
theorem It.ind {P : It → Prop} (h : ∀ k n b s l, (∀ y ∈ l, P y) → P (.mk k n b s l)) : ∀ x, P x
 | .mk k n b s l => h k n b s l (It.indL h l)
theorem It.indL {P : It → Prop} (h : ∀ k n b s l, (∀ y ∈ l, P y) → P (.mk k n b s l)) : ∀ l : List It, ∀ y ∈ l, P y
 | [] => fun _ hy => nomatch hy
 | x :: xs => List.forall_mem_cons.2 ⟨It.ind h x, It.indL h xs⟩
end

def It.depth : It → Nat
 | .mk _ _ _ _ l => depthL l + 1
where
 depthL : List It → Nat
  | [] => 0
  | x :: xs => max x.depth (depthL xs)

theorem depthL_mem {l : List It} {x : It} (h : x ∈ l) : x.depth ≤ It.depth.depthL l := by
 induction l with
 | nil => cases h
 | cons y ys ih =>
  simp only [It.depth.depthL]
  rcases List.mem_cons.1 h with rfl | h
  ·omega
  ·have := ih h
   omega

theorem depthL_take (l : List It) (k : Nat) : It.depth.depthL (l.take k) ≤ It.depth.depthL l := by
 induction l generalizing k with
 | nil => simp [It.depth.depthL]
 | cons y ys ih =>
  cases k with
  | zero => simp [It.depth.depthL]
  | succ k =>
   have := ih k
   simp only [List.take_succ_cons, It.depth.depthL]
   omega

theorem depthL_step (l : List It) (k : Nat) (hk : k < l.length) : It.depth.depthL (l.take (k + 1)) = max (It.depth.depthL (l.take k)) l[k].depth := by
 induction l generalizing k with
 | nil => simp at hk
 | cons y ys ih =>
  cases k with
  | zero => simp [It.depth.depthL]
  | succ k =>
   simp only [List.take_succ_cons, It.depth.depthL, List.getElem_cons_succ]
   rw [ih k (by simpa using hk)]
   omega

theorem max_cast (a b : Nat) : (if a < b then (b : Int) else (a : Int)) = ((max a b : Nat) : Int) := by
 split <;> omega

set_option maxRecDepth 100000 in
theorem depth_any : ∀ (x : It) (v : Value) (w : World), x.depth ≤ 1000000 → ItV w w.heap.size v x →
  Calls Tryz.prog 12 #[v] w fun e w' => e = .returned (.int .i64 x.depth) ∧ Below w.heap.size w w' := by
 refine It.ind fun k n b s l ih v w hd hv => ?_
 simp only [ItV] at hv
 obtain ⟨A, ⟨a, c, C, rfl, ⟨hc, hC⟩, hrb, hn, hk, hsb, hss, hsl⟩, hl⟩ := hv
 simp only [Sz] at hsb hss hsl
 simp only [It.depth] at hd
 have HL := h_ hl
 have IH := h_ ih
 clear hrb hl hn hsb hss ih hk
 go_enter Tryz.func12, Tryz.ntmps12
 go_wp2_with fail
 go_loopw [3, 4] (fun d i wr => ∃ j : Nat, j ≤ l.length ∧ i = .int .i64 j ∧ d = .int .i64 (It.depth.depthL (l.take j)) ∧
   Hid (Below (w.alloc (.cells #[.int .i64 k, .int .u64 n, .slice a b.length c, .string ⟨s.toArray⟩, .slice A l.length C] 45)).heap.size (w.alloc (.cells #[.int .i64 k, .int .u64 n, .slice a b.length c, .string ⟨s.toArray⟩, .slice A l.length C] 45)) wr))
  (fun _ i _ => l.length - (intOf i).toNat)
 case atStart => exact ⟨0, Nat.zero_le _, rfl, rfl, Below.refl _ _⟩
 case round =>
  obtain ⟨j, hj, rfl, rfl, HB⟩ := hrel
  have hcell : wr.cell? ⟨w.heap.size, 4, none⟩ = some (.slice A l.length C) := by
   rw [HB.out.cell (by simp)]
   simp
  have hb0 := depthL_take l j
  by_cases hlt : j < l.length
  ·obtain ⟨g, o, rfl, hg, hlL⟩ : ∃ g o, A = some ⟨g, o, none⟩ ∧ g < w.heap.size ∧ ItL w w.heap.size g o l := by
     rcases HL.out with rfl | h
     ·simp at hlt
     ·exact h
   obtain ⟨v5, h5, hv5⟩ := ItL.at hlL (List.getElem?_eq_getElem hlt)
   have hB0 : Below w.heap.size w wr := (bR.alloc (Nat.le_refl _) _).trans (HB.out.mono (by simp))
   have h5' := h5.below hB0 hg
   obtain ⟨v0, v1, v2, v3, v4, rfl, e0, e1, e2, e3, e4⟩ := h5'
   clear hlL h5
   have HV5 := h_ hv5
   clear hv5
   have hst := depthL_step l j hlt
   have hdm := depthL_mem (List.getElem_mem hlt)
   have HST := h_ hst
   clear hst
   go_wp2_with fail
   refine (IH.out l[j] (List.getElem_mem hlt) _ _ (by omega) (ItV.mono hB0.size _ (ItV.below hB0 _ HV5.out))).mono ?_
   rintro e w1 ⟨rfl, hb1⟩
   have HB1 : Hid (Below (w.alloc (.cells #[.int .i64 k, .int .u64 n, .slice a b.length c, .string ⟨s.toArray⟩, .slice (some ⟨g, o, none⟩) l.length C] 45)).heap.size (w.alloc (.cells #[.int .i64 k, .int .u64 n, .slice a b.length c, .string ⟨s.toArray⟩, .slice (some ⟨g, o, none⟩) l.length C] 45)) w1) := below_on HB.out hb1
   clear hb1 e0 e1 e2 e3 e4 hcell
   go_wp2_with fail
   go_roundw
   case rel => exact ⟨j + 1, by omega, by go_num, by rw [HST.out]; simp only [max_cast], HB1⟩
   case measure => simp [intOf]; omega
  ·obtain rfl : j = l.length := by omega
   rw [List.take_length] at hb0 ⊢
   go_wp2_with fail
   go_ret
   exact ⟨by simp [It.depth], (bR.alloc (Nat.le_refl _) _).trans (HB.out.mono (by simp))⟩

mutual
def It.same : It → It → Bool
 | .mk k n b s l, .mk k' n' b' s' l' => decide (k = k') && (decide (n = n') && (decide (b = b') && (decide (s = s') && sameL l l')))
def sameL : List It → List It → Bool
 | [], l => l.isEmpty
 | _ :: _, [] => false
 | x :: xs, y :: ys => x.same y && sameL xs ys
end

mutual
theorem It.same_iff : ∀ x y : It, x.same y = true ↔ x = y
 | .mk k n b s l, .mk k' n' b' s' l' => by
  simp only [It.same, Bool.and_eq_true, decide_eq_true_eq, sameL_iff l l', It.mk.injEq]
theorem sameL_iff : ∀ l m : List It, sameL l m = true ↔ l = m
 | [], m => by cases m <;> simp [sameL]
 | x :: xs, [] => by simp [sameL]
 | x :: xs, y :: ys => by simp only [sameL, Bool.and_eq_true, It.same_iff x y, sameL_iff xs ys, List.cons.injEq]
end

theorem sameL_len {l m : List It} (h : l.length ≠ m.length) : sameL l m = false := by
 cases hs : sameL l m with
 | false => rfl
 | true =>
  rw [(sameL_iff l m).1 hs] at h
  exact absurd rfl h

theorem sameL_step {l m : List It} {j : Nat} (hl : j < l.length) (hm : j < m.length) (h : sameL (l.take j) (m.take j) = true) : sameL (l.take (j + 1)) (m.take (j + 1)) = l[j].same m[j] := by
 have h1 := (sameL_iff _ _).1 h
 have e1 := List.take_succ_eq_append_getElem hl
 have e2 := List.take_succ_eq_append_getElem hm
 rw [Bool.eq_iff_iff, sameL_iff, It.same_iff, e1, e2, h1, List.append_right_inj]
 simp only [List.cons.injEq, and_true]

theorem sameL_no {l m : List It} {j : Nat} (hl : j < l.length) (hm : j < m.length) (h : l[j].same m[j] = false) : sameL l m = false := by
 cases hs : sameL l m with
 | false => rfl
 | true =>
  have e := (sameL_iff l m).1 hs
  subst e
  rw [(It.same_iff _ _).2 rfl] at h
  cases h

theorem same_self (x : It) : x.same x = true := (It.same_iff x x).2 rfl

set_option maxRecDepth 100000 in
theorem refSame_any : ∀ (x y : It) (v u : Value) (w : World), ItV w w.heap.size v x → ItV w w.heap.size u y →
  Calls Tryz.prog 31 #[v, u] w fun e w' => e = .returned (.bool (x.same y)) ∧ Below w.heap.size w w' := by
 refine It.ind fun k n b s l ih y v u w hv hu => ?_
 obtain ⟨k', n', b', s', l'⟩ := y
 simp only [ItV] at hv hu
 obtain ⟨A, ⟨a, c, C, rfl, ⟨hc, hC⟩, hrb, hn, hk, hsb, hss, hsl⟩, hl⟩ := hv
 obtain ⟨A', ⟨a', c', C', rfl, ⟨hc', hC'⟩, hrb', hn', hk', hsb', hss', hsl'⟩, hl'⟩ := hu
 simp only [Sz] at hsb hss hsl hsb' hss' hsl'
 have HL := h_ hl
 have HL' := h_ hl'
 have IH := h_ ih
 have HRB := h_ hrb
 have HRB' := h_ hrb'
 clear hrb hrb' hl hl' hn hn' hk hk' ih
 by_cases q1 : ¬ k = k'
 ·have q1' : ((k : Int) == k') = false := by simpa using q1
  have hB0 := below_al (below_al (Below.refl w.heap.size w) (.cells #[.int .i64 k, .int .u64 n, .slice a b.length c, .string ⟨s.toArray⟩, .slice A l.length C] 45)) (.cells #[.int .i64 k', .int .u64 n', .slice a' b'.length c', .string ⟨s'.toArray⟩, .slice A' l'.length C'] 45)
  have g1 := (HRB.out.below hB0).text (P := Tryz.prog) 22 9 5 b.length c rfl Tryz.underlying22 Tryz.underlying5 Tryz.underlying9
  have g2 := (HRB'.out.below hB0).text (P := Tryz.prog) 22 9 5 b'.length c' rfl Tryz.underlying22 Tryz.underlying5 Tryz.underlying9
  go_enter Tryz.func31, Tryz.ntmps31
  go_wp2_with fail
  go_ret
  exact ⟨by simp [It.same, q1], hB0⟩
 have q1 := Decidable.not_not.1 q1
 subst q1
 by_cases q2 : ¬ n = n'
 ·have q2' : ((n : Int) == n') = false := by simpa using q2
  have hB0 := below_al (below_al (Below.refl w.heap.size w) (.cells #[.int .i64 k, .int .u64 n, .slice a b.length c, .string ⟨s.toArray⟩, .slice A l.length C] 45)) (.cells #[.int .i64 k, .int .u64 n', .slice a' b'.length c', .string ⟨s'.toArray⟩, .slice A' l'.length C'] 45)
  have g1 := (HRB.out.below hB0).text (P := Tryz.prog) 22 9 5 b.length c rfl Tryz.underlying22 Tryz.underlying5 Tryz.underlying9
  have g2 := (HRB'.out.below hB0).text (P := Tryz.prog) 22 9 5 b'.length c' rfl Tryz.underlying22 Tryz.underlying5 Tryz.underlying9
  go_enter Tryz.func31, Tryz.ntmps31
  go_wp2_with fail
  go_ret
  exact ⟨by simp [It.same, q2], hB0⟩
 have q2 := Decidable.not_not.1 q2
 subst q2
 by_cases q3 : ¬ b = b'
 ·have q3' : (b == b') = false := by simpa using q3
  have hB0 := below_al (below_al (Below.refl w.heap.size w) (.cells #[.int .i64 k, .int .u64 n, .slice a b.length c, .string ⟨s.toArray⟩, .slice A l.length C] 45)) (.cells #[.int .i64 k, .int .u64 n, .slice a' b'.length c', .string ⟨s'.toArray⟩, .slice A' l'.length C'] 45)
  have g1 := (HRB.out.below hB0).text (P := Tryz.prog) 22 9 5 b.length c rfl Tryz.underlying22 Tryz.underlying5 Tryz.underlying9
  have g2 := (HRB'.out.below hB0).text (P := Tryz.prog) 22 9 5 b'.length c' rfl Tryz.underlying22 Tryz.underlying5 Tryz.underlying9
  go_enter Tryz.func31, Tryz.ntmps31
  go_wp2_with fail
  go_ret
  exact ⟨by simp [It.same, q3], hB0⟩
 have q3 := Decidable.not_not.1 q3
 subst q3
 by_cases q4 : ¬ s = s'
 ·have q4' : (s == s') = false := by simpa using q4
  have hB0 := below_al (below_al (Below.refl w.heap.size w) (.cells #[.int .i64 k, .int .u64 n, .slice a b.length c, .string ⟨s.toArray⟩, .slice A l.length C] 45)) (.cells #[.int .i64 k, .int .u64 n, .slice a' b.length c', .string ⟨s'.toArray⟩, .slice A' l'.length C'] 45)
  have g1 := (HRB.out.below hB0).text (P := Tryz.prog) 22 9 5 b.length c rfl Tryz.underlying22 Tryz.underlying5 Tryz.underlying9
  have g2 := (HRB'.out.below hB0).text (P := Tryz.prog) 22 9 5 b.length c' rfl Tryz.underlying22 Tryz.underlying5 Tryz.underlying9
  go_enter Tryz.func31, Tryz.ntmps31
  go_wp2_with fail
  go_ret
  exact ⟨by simp [It.same, q4], hB0⟩
 have q4 := Decidable.not_not.1 q4
 subst q4
 by_cases q5 : ¬ l.length = l'.length
 ·have q5' : ((l.length : Int) == (l'.length : Int)) = false := by simp; omega
  have hSL := sameL_len q5
  have hB0 := below_al (below_al (Below.refl w.heap.size w) (.cells #[.int .i64 k, .int .u64 n, .slice a b.length c, .string ⟨s.toArray⟩, .slice A l.length C] 45)) (.cells #[.int .i64 k, .int .u64 n, .slice a' b.length c', .string ⟨s.toArray⟩, .slice A' l'.length C'] 45)
  have g1 := (HRB.out.below hB0).text (P := Tryz.prog) 22 9 5 b.length c rfl Tryz.underlying22 Tryz.underlying5 Tryz.underlying9
  have g2 := (HRB'.out.below hB0).text (P := Tryz.prog) 22 9 5 b.length c' rfl Tryz.underlying22 Tryz.underlying5 Tryz.underlying9
  go_enter Tryz.func31, Tryz.ntmps31
  go_wp2_with fail
  go_ret
  exact ⟨by simp [It.same, hSL], hB0⟩
 have q5 := Decidable.not_not.1 q5
 have HLen := h_ q5
 rw [← q5] at hC' hsl' ⊢
 clear q5
 have hB0 := below_al (below_al (Below.refl w.heap.size w) (.cells #[.int .i64 k, .int .u64 n, .slice a b.length c, .string ⟨s.toArray⟩, .slice A l.length C] 45)) (.cells #[.int .i64 k, .int .u64 n, .slice a' b.length c', .string ⟨s.toArray⟩, .slice A' l.length C'] 45)
 have g1 := (HRB.out.below hB0).text (P := Tryz.prog) 22 9 5 b.length c rfl Tryz.underlying22 Tryz.underlying5 Tryz.underlying9
 have g2 := (HRB'.out.below hB0).text (P := Tryz.prog) 22 9 5 b.length c' rfl Tryz.underlying22 Tryz.underlying5 Tryz.underlying9
 go_enter Tryz.func31, Tryz.ntmps31
 go_wp2_with fail
 clear g1 g2
 obtain ⟨W0, hW0⟩ : ∃ W0, W0 = ((w.alloc (.cells #[.int .i64 k, .int .u64 n, .slice a b.length c, .string ⟨s.toArray⟩, .slice A l.length C] 45)).alloc (.cells #[.int .i64 k, .int .u64 n, .slice a' b.length c', .string ⟨s.toArray⟩, .slice A' l.length C'] 45)) := ⟨_, rfl⟩
 have x4 : W0.cell? ⟨w.heap.size, 4, none⟩ = some (.slice A l.length C) := by rw [hW0]; simp
 have x4' : W0.cell? ⟨w.heap.size + 1, 4, none⟩ = some (.slice A' l.length C') := by rw [hW0]; simp
 have hs0 : W0.heap.size = w.heap.size + 1 + 1 := by rw [hW0]; simp
 rw [← hW0] at hB0 ⊢
 have HX4 := h_ x4
 have HX4' := h_ x4'
 have HS0 := h_ hs0
 clear hW0 x4 x4' hs0
 go_loopw [5] (fun i wr => ∃ j : Nat, j ≤ l.length ∧ i = .int .i64 j ∧ Hid (Below W0.heap.size W0 wr ∧ sameL (l.take j) (l'.take j) = true)) (fun i _ => l.length - (intOf i).toNat)
 case atStart => exact ⟨0, Nat.zero_le _, rfl, Below.refl _ _, rfl⟩
 case round =>
  obtain ⟨j, hj, rfl, HI⟩ := hrel
  have hy4 : wr.cell? ⟨w.heap.size, 4, none⟩ = some (.slice A l.length C) := (HI.out.1.cell (p := ⟨w.heap.size, 4, none⟩) (show w.heap.size < W0.heap.size by rw [HS0.out]; omega)).trans HX4.out
  have hy4' : wr.cell? ⟨w.heap.size + 1, 4, none⟩ = some (.slice A' l.length C') := (HI.out.1.cell (p := ⟨w.heap.size + 1, 4, none⟩) (show w.heap.size + 1 < W0.heap.size by rw [HS0.out]; omega)).trans HX4'.out
  by_cases hlt : j < l.length
  ·have hlt' : j < l'.length := by rw [← HLen.out]; exact hlt
   have hBw : Below w.heap.size w wr := hB0.trans (HI.out.1.mono (by rw [HS0.out]; omega))
   obtain ⟨g, o, rfl, hg, hlL⟩ : ∃ g o, A = some ⟨g, o, none⟩ ∧ g < w.heap.size ∧ ItL w w.heap.size g o l := by
    rcases HL.out with rfl | h
    ·simp at hlt
    ·exact h
   obtain ⟨g', o', rfl, hg', hlL'⟩ : ∃ g o, A' = some ⟨g, o, none⟩ ∧ g < w.heap.size ∧ ItL w w.heap.size g o l' := by
    rcases HL'.out with rfl | h
    ·simp at hlt'
    ·exact h
   obtain ⟨p1, p2, p3, p4, hv5, e0, e1, e2, e3, e4⟩ := hlL.get (List.getElem?_eq_getElem hlt) hBw hg
   obtain ⟨r1, r2, r3, r4, hu5, f0, f1, f2, f3, f4⟩ := hlL'.get (List.getElem?_eq_getElem hlt') hBw hg'
   clear hlL hlL'
   have HC := h_ (IH.out l[j] (List.getElem_mem hlt) l'[j] _ _ wr.drew (ItV.mono hBw.drew.size _ (ItV.below bR.drew _ hv5)) (ItV.mono hBw.drew.size _ (ItV.below bR.drew _ hu5)))
   have HBw := h_ hBw
   clear hv5 hu5 hBw
   go_wp2_with fail
   go_still_tail 10, (by kernel_rfl)
   change wpList _ _ _ _ _ wr.drew
   clear e0 e1 e2 e3 e4 f0 f1 f2 f3 f4 hy4 hy4'
   go_wp2_with fail
   refine HC.out.mono ?_
   rintro e w1 ⟨rfl, hb1⟩
   have hb1w : Below W0.heap.size W0 w1 := HI.out.1.trans ((Below.refl wr.heap.size wr).drew.trans hb1 |>.mono HI.out.1.size)
   have HB1 := h_ hb1w
   clear hb1 hb1w
   obtain ⟨t, ht⟩ : ∃ t, t = l[j].same l'[j] := ⟨_, rfl⟩
   rw [← ht]
   have HTt := h_ ht
   clear ht
   cases t
   ·go_wp2_with fail
    go_ret
    exact ⟨by simp [It.same, sameL_no hlt hlt' HTt.out.symm], hB0.trans (HB1.out.mono (by rw [HS0.out]; omega))⟩
   ·have hst := sameL_step hlt hlt' HI.out.2
    rw [← HTt.out] at hst
    have HST := h_ hst
    clear hst
    go_wp2_with fail
    go_roundw
    case rel => exact ⟨j + 1, by omega, by go_num, HB1.out, HST.out⟩
    case measure => simp [intOf]; omega
  ·obtain rfl : j = l.length := by omega
   have h1 := HI.out.2
   have h2 : l'.take l.length = l' := List.take_of_length_le (by rw [HLen.out]; exact Nat.le_refl _)
   rw [List.take_length, h2] at h1
   have H1 := h_ h1
   clear h1 h2
   go_wp2_with fail
   go_ret
   exact ⟨by simp [It.same, H1.out], hB0.trans (HI.out.1.mono (by rw [HS0.out]; omega))⟩

theorem keep_cell {S : Nat → Prop} {w w' : World} (h : KeepB S w w') {b o : Nat} (hb : S b) : w'.cell? ⟨b, o, none⟩ = w.cell? ⟨b, o, none⟩ :=
 World.cell?_of_block (w := w) (h b hb)

def RdBS (w : World) (S : Nat → Prop) (a : Option Addr) (bs : List UInt8) : Prop :=
 bs = [] ∨ ∃ b o, a = some ⟨b, o, none⟩ ∧ S b ∧ ∀ j, j < bs.length → w.cell? ⟨b, o + j, none⟩ = some (.int .u8 (byteAt bs j))

theorem RdBS.keep {w w' : World} {S : Nat → Prop} {a : Option Addr} {bs : List UInt8} (h : RdBS w S a bs) (hk : KeepB S w w') : RdBS w' S a bs := by
 rcases h with h | ⟨b, o, e, hs, hc⟩
 ·exact .inl h
 ·exact .inr ⟨b, o, e, hs, fun j hj => (keep_cell hk hs).trans (hc j hj)⟩

theorem RdBS.more {w : World} {S T : Nat → Prop} {a : Option Addr} {bs : List UInt8} (h : RdBS w S a bs) (hST : ∀ b, S b → T b) : RdBS w T a bs := by
 rcases h with h | ⟨b, o, e, hs, hc⟩
 ·exact .inl h
 ·exact .inr ⟨b, o, e, hST b hs, hc⟩

theorem RdBS.rdB {w : World} {S : Nat → Prop} {B : Nat} {a : Option Addr} {bs : List UInt8} (h : RdBS w S a bs) (hS : ∀ b, S b → b < B) : RdB w B a bs := by
 rcases h with h | ⟨b, o, e, hs, hc⟩
 ·exact .inl h
 ·exact .inr ⟨b, o, e, hS b hs, hc⟩

def ItPS (w : World) (S : Nat → Prop) (v : Value) (k n : Int) (b s : List UInt8) (m : Nat) (A : Option Addr) : Prop :=
 ∃ a c C, v = .agg #[.int .i64 k, .int .u64 n, .slice a b.length c, .string ⟨s.toArray⟩, .slice A m C] ∧ (b.length ≤ c ∧ m ≤ C) ∧ RdBS w S a b ∧ U64 n ∧ (-9223372036854775808 ≤ k ∧ k < 9223372036854775808) ∧ Sz b.length ∧ Sz s.length ∧ Sz m

mutual
def ItS (w : World) (S : Nat → Prop) (v : Value) : It → Prop
 | .mk k n b s l => ∃ A, ItPS w S v k n b s l.length A ∧ (l = [] ∨ ∃ g o, A = some ⟨g, o, none⟩ ∧ S g ∧ ItSL w S g o l)
def ItSL (w : World) (S : Nat → Prop) (g : Nat) (o : Nat) : List It → Prop
 | [] => True
 | x :: xs => (∃ v, At5 w g o v ∧ ItS w S v x) ∧ ItSL w S g (o + 5) xs
end

theorem At5.keep {w w' : World} {S : Nat → Prop} {g o : Nat} {v : Value} (h : At5 w g o v) (hk : KeepB S w w') (hg : S g) : At5 w' g o v := by
 obtain ⟨v0, v1, v2, v3, v4, rfl, h0, h1, h2, h3, h4⟩ := h
 exact ⟨v0, v1, v2, v3, v4, rfl, (keep_cell hk hg).trans h0, (keep_cell hk hg).trans h1, (keep_cell hk hg).trans h2, (keep_cell hk hg).trans h3, (keep_cell hk hg).trans h4⟩

mutual
theorem ItS.keep {w w' : World} {S : Nat → Prop} (hk : KeepB S w w') : ∀ (x : It) {v : Value}, ItS w S v x → ItS w' S v x
 | .mk k n b s l, v, h => by
  simp only [ItS] at h ⊢
  obtain ⟨A, ⟨a, c, C, h1, h2, h3, r⟩, hl⟩ := h
  refine ⟨A, ⟨a, c, C, h1, h2, h3.keep hk, r⟩, hl.imp id ?_⟩
  rintro ⟨g, o, rfl, hg, hl⟩
  exact ⟨g, o, rfl, hg, ItSL.keep hk hg l hl⟩
theorem ItSL.keep {w w' : World} {S : Nat → Prop} (hk : KeepB S w w') {g : Nat} (hg : S g) : ∀ (l : List It) {o : Nat}, ItSL w S g o l → ItSL w' S g o l
 | [], _, _ => by simp only [ItSL]
 | x :: xs, o, h => by
  simp only [ItSL] at h ⊢
  obtain ⟨⟨v, h5, hv⟩, hr⟩ := h
  exact ⟨⟨v, h5.keep hk hg, ItS.keep hk x hv⟩, ItSL.keep hk hg xs hr⟩
end

mutual
theorem ItS.more {w : World} {S T : Nat → Prop} (hST : ∀ b, S b → T b) : ∀ (x : It) {v : Value}, ItS w S v x → ItS w T v x
 | .mk k n b s l, v, h => by
  simp only [ItS] at h ⊢
  obtain ⟨A, ⟨a, c, C, h1, h2, h3, r⟩, hl⟩ := h
  refine ⟨A, ⟨a, c, C, h1, h2, h3.more hST, r⟩, hl.imp id ?_⟩
  rintro ⟨g, o, rfl, hg, hl⟩
  exact ⟨g, o, rfl, hST g hg, ItSL.more hST l hl⟩
theorem ItSL.more {w : World} {S T : Nat → Prop} (hST : ∀ b, S b → T b) {g : Nat} : ∀ (l : List It) {o : Nat}, ItSL w S g o l → ItSL w T g o l
 | [], _, _ => by simp only [ItSL]
 | x :: xs, o, h => by
  simp only [ItSL] at h ⊢
  obtain ⟨⟨v, h5, hv⟩, hr⟩ := h
  exact ⟨⟨v, h5, ItS.more hST x hv⟩, ItSL.more hST xs hr⟩
end

mutual
theorem ItS.itV {w : World} {S : Nat → Prop} {B : Nat} (hS : ∀ b, S b → b < B) : ∀ (x : It) {v : Value}, ItS w S v x → ItV w B v x
 | .mk k n b s l, v, h => by
  simp only [ItS] at h
  simp only [ItV]
  obtain ⟨A, ⟨a, c, C, h1, h2, h3, r⟩, hl⟩ := h
  refine ⟨A, ⟨a, c, C, h1, h2, h3.rdB hS, r⟩, hl.imp id ?_⟩
  rintro ⟨g, o, rfl, hg, hl⟩
  exact ⟨g, o, rfl, hS g hg, ItSL.itL hS l hl⟩
theorem ItSL.itL {w : World} {S : Nat → Prop} {B : Nat} (hS : ∀ b, S b → b < B) {g : Nat} : ∀ (l : List It) {o : Nat}, ItSL w S g o l → ItL w B g o l
 | [], _, _ => by simp only [ItL]
 | x :: xs, o, h => by
  simp only [ItSL] at h
  simp only [ItL]
  obtain ⟨⟨v, h5, hv⟩, hr⟩ := h
  exact ⟨⟨v, h5, ItS.itV hS x hv⟩, ItSL.itL hS xs hr⟩
end

def newB (w w' : World) (b : Nat) : Prop := w.heap.size ≤ b ∧ b < w'.heap.size

theorem itS_plain (w : World) (S : Nat → Prop) (k n : Int) (s : List UInt8) (hk : -9223372036854775808 ≤ k ∧ k < 9223372036854775808) (hn : U64 n) (hs : Sz s.length) :
  ItS w S (.agg #[.int .i64 k, .int .u64 n, .slice none 0 0, .string ⟨s.toArray⟩, .slice none 0 0]) (.mk k n [] s []) := by
 simp only [ItS]
 exact ⟨none, ⟨none, 0, 0, rfl, ⟨Nat.le_refl _, Nat.le_refl _⟩, .inl rfl, hn, hk, Nat.zero_le _, hs, Nat.zero_le _⟩, .inl trivial⟩

def itU (n : Int) : It := .mk 1 n [] [] []
def itLs (l : List It) : It := .mk 4 0 [] [] l
def uintV (n : Int) : Value := .agg #[.int .i64 1, .int .u64 n, .slice none 0 0, .string ⟨#[]⟩, .slice none 0 0]
def listV (a : Option Addr) (n c : Nat) : Value := .agg #[.int .i64 4, .int .u64 0, .slice none 0 0, .string ⟨#[]⟩, .slice a n c]

theorem itS_uint (w : World) (S : Nat → Prop) (n : Int) (hn : U64 n) : ItS w S (uintV n) (itU n) := itS_plain w S 1 n [] (by decide) hn (Nat.zero_le _)

theorem itS_list {w : World} {S : Nat → Prop} {g n c : Nat} {l : List It} (hn : n = l.length) (hc : n ≤ c) (hs : n ≤ 140737488355328) (hg : S g) (hl : ItSL w S g 0 l) : ItS w S (listV (some ⟨g, 0, none⟩) n c) (itLs l) := by
 subst hn
 unfold itLs listV
 simp only [ItS]
 exact ⟨some ⟨g, 0, none⟩, ⟨none, 0, c, rfl, ⟨Nat.le_refl _, hc⟩, .inl rfl, ⟨by decide, by decide⟩, by decide, Nat.zero_le _, Nat.zero_le _, hs⟩, .inr ⟨g, 0, rfl, hg, hl⟩⟩

theorem itS_two {w : World} {S : Nat → Prop} {g : Nat} {v u : Value} {x y : It} (hg : S g) (h0 : At5 w g 0 v) (h1 : At5 w g 5 u) (hv : ItS w S v x) (hu : ItS w S u y) : ItS w S (listV (some ⟨g, 0, none⟩) 2 2) (itLs [x, y]) :=
 itS_list rfl (Nat.le_refl _) (by decide) hg (by simp only [ItSL]; exact ⟨⟨v, h0, hv⟩, ⟨u, h1, hu⟩, trivial⟩)

theorem itS_three {w : World} {S : Nat → Prop} {g : Nat} {v u t : Value} {x y z : It} (hg : S g) (h0 : At5 w g 0 v) (h1 : At5 w g 5 u) (h2 : At5 w g 10 t) (hv : ItS w S v x) (hu : ItS w S u y) (ht : ItS w S t z) : ItS w S (listV (some ⟨g, 0, none⟩) 3 3) (itLs [x, y, z]) :=
 itS_list rfl (Nat.le_refl _) (by decide) hg (by simp only [ItSL]; exact ⟨⟨v, h0, hv⟩, ⟨u, h1, hu⟩, ⟨t, h2, ht⟩, trivial⟩)

theorem ItS.form {w : World} {S : Nat → Prop} {v : Value} {x : It} (h : ItS w S v x) : ∃ a c A C, v = .agg #[.int .i64 x.k, .int .u64 x.n, .slice a x.b.length c, .string ⟨x.s.toArray⟩, .slice A x.l.length C] := by
 obtain ⟨k, n, b, s, l⟩ := x
 simp only [ItS] at h
 obtain ⟨A, ⟨a, c, C, rfl, _⟩, _⟩ := h
 exact ⟨a, c, A, C, rfl⟩

theorem keepNew_below {w0 w w' : World} (h : Below w.heap.size w w') : KeepB (newB w0 w) w w' := fun b hb => h.block b hb.2
theorem ItS.new_on {w0 w w' : World} {v : Value} {x : It} (h : ItS w (newB w0 w) v x) (hb : Below w.heap.size w w') : ItS w' (newB w0 w') v x :=
 ItS.more (fun _ q => ⟨q.1, Nat.lt_of_lt_of_le q.2 hb.size⟩) x (ItS.keep (keepNew_below hb) x h)
theorem ItS.new_itV {w0 w : World} {v : Value} {x : It} (h : ItS w (newB w0 w) v x) : ItV w w.heap.size v x := ItS.itV (fun _ q => q.2) x h

end Go.Proofs.YteldifnkeekafaaGreatDoor
