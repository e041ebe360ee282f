/- Joined texts. -/
import Derived.Test.YteldifnkeekafaaGreatDoorZKm
import Derived.BigQuiet
import Derived.Deep.QuietTactic
set_option maxHeartbeats 16000000
set_option linter.unusedSimpArgs false
set_option linter.unusedVariables false
set_option maxRecDepth 100000
namespace Go.Proofs.YteldifnkeekafaaGreatDoor
open Go Go.RowKit Go.Shelf

def nmZ (y0 y1 y2 : It) : Option (Nat × Nat × Nat × Nat) := match epI y0, nuN y1, nuN y2 with
 | some (n, m), some t, some q => if nmB n t q = true then some (n, m, t, q) else none
 | _, _, _ => none
def nmI (x : It) : Option (Nat × Nat × Nat × Nat) := if shL x 3 = true then (match x.l with
 | [y0, y1, y2] => nmZ y0 y1 y2
 | _ => none) else none

theorem nmI_sh {x : It} (h : shL x 3 = false) : nmI x = none := by rw [nmI, h, if_neg (by simp)]
theorem nmI_three {x y0 y1 y2 : It} (h : shL x 3 = true) (hl : x.l = [y0, y1, y2]) : nmI x = nmZ y0 y1 y2 := by rw [nmI, h, if_pos rfl, hl]

theorem shL_three {x : It} (h : shL x 3 = true) : ∃ y0 y1 y2, x.l = [y0, y1, y2] := by
 have h1 : x.l.length = 3 := by
  simp only [shL, Bool.and_eq_true, decide_eq_true_eq] at h
  exact h.1
 match hl : x.l, h1 with
 | [y0, y1, y2], _ => exact ⟨y0, y1, y2, rfl⟩

theorem namedD_any (n m t q : Nat) (w : World) :
  Calls Tryz.prog 148 #[.agg #[.int .u32 n, .int .u32 m], .int .u64 t, .int .u64 q] w fun e w' => Below w.heap.size w w' ∧ ((e = .returned (.agg #[.int .u32 n, .int .u32 m, .int .u64 t, .int .u32 q]) ∧ nmB n t q = true) ∨ (e = .panicked [{ v := .iface 33 (.int .i64 130), recovered := false }] ∧ nmB n t q = false)) := by
 by_cases h : q ≤ 4294967295
 ·refine (ncNamed_any n m t q h w).mono ?_
  rintro e w' ⟨he, hb⟩
  refine ⟨hb, ?_⟩
  cases hk : nmB n t q
  ·rw [hk] at he
   exact .inr ⟨he, rfl⟩
  ·rw [hk] at he
   exact .inl ⟨he, rfl⟩
 ·refine (named_short n m t q h w).mono ?_
  rintro e w' ⟨he, hb⟩
  exact ⟨hb, .inr ⟨he, by simp [nmB, h]⟩⟩

def NnP (w : World) (x : It) (e : Ending) (w' : World) : Prop := Below w.heap.size w w' ∧ ((∃ n m t q : Nat, e = .returned (.agg #[.int .u32 n, .int .u32 m, .int .u64 t, .int .u32 q]) ∧ nmI x = some (n, m, t, q)) ∨ (e = .panicked [{ v := .iface 33 (.int .i64 130), recovered := false }] ∧ nmI x = none))

theorem ItL.cellsAt {w : World} {B g : Nat} {l : List It} {o i : Nat} {y : It} (hL : ItL w B g o l) (hg : g < B) (hi : l[i]? = some y) : ∃ a0 c0 A0 C0, ∀ w', Below B w w' → ItV w' B (.agg #[.int .i64 y.k, .int .u64 y.n, .slice a0 y.b.length c0, .string ⟨y.s.toArray⟩, .slice A0 y.l.length C0]) y ∧ (w'.cell? ⟨g, o + i * 5, none⟩ = some (.int .i64 y.k) ∧ w'.cell? ⟨g, o + i * 5 + 1, none⟩ = some (.int .u64 y.n) ∧ w'.cell? ⟨g, o + i * 5 + 2, none⟩ = some (.slice a0 y.b.length c0) ∧ w'.cell? ⟨g, o + i * 5 + 3, none⟩ = some (.string ⟨y.s.toArray⟩) ∧ w'.cell? ⟨g, o + i * 5 + 4, none⟩ = some (.slice A0 y.l.length C0)) := by
 obtain ⟨v0, p0, q0⟩ := ItL.at hL hi
 obtain ⟨a0, c0, A0, C0, rfl⟩ := q0.form
 refine ⟨a0, c0, A0, C0, fun w' hb => ⟨ItV.below hb _ q0, ?_⟩⟩
 obtain ⟨u0, u1, u2, u3, u4, e, h0, h1, h2, h3, h4⟩ := p0.below hb hg
 injection e with e
 have e' := congrArg Array.toList e
 simp only [List.cons.injEq, and_true] at e'
 obtain ⟨rfl, rfl, rfl, rfl, rfl⟩ := e'
 exact ⟨h0, h1, h2, h3, h4⟩

theorem ItV.triple {w : World} {B : Nat} {x y0 y1 y2 : It} {a A : Option Addr} {c C : Nat} (h : ItV w B (.agg #[.int .i64 x.k, .int .u64 x.n, .slice a x.b.length c, .string ⟨x.s.toArray⟩, .slice A x.l.length C]) x) (hl : x.l = [y0, y1, y2]) : ∃ g o a0 c0 A0 C0 a1 c1 A1 C1 a2 c2 A2 C2, A = some ⟨g, o, none⟩ ∧ ∀ w', Below B w w' →
  (ItV w' B (.agg #[.int .i64 y0.k, .int .u64 y0.n, .slice a0 y0.b.length c0, .string ⟨y0.s.toArray⟩, .slice A0 y0.l.length C0]) y0 ∧ ItV w' B (.agg #[.int .i64 y1.k, .int .u64 y1.n, .slice a1 y1.b.length c1, .string ⟨y1.s.toArray⟩, .slice A1 y1.l.length C1]) y1 ∧ ItV w' B (.agg #[.int .i64 y2.k, .int .u64 y2.n, .slice a2 y2.b.length c2, .string ⟨y2.s.toArray⟩, .slice A2 y2.l.length C2]) y2) ∧ (w'.cell? ⟨g, o, none⟩ = some (.int .i64 y0.k) ∧ w'.cell? ⟨g, o + 1, none⟩ = some (.int .u64 y0.n) ∧ w'.cell? ⟨g, o + 2, none⟩ = some (.slice a0 y0.b.length c0) ∧ w'.cell? ⟨g, o + 3, none⟩ = some (.string ⟨y0.s.toArray⟩) ∧ w'.cell? ⟨g, o + 4, none⟩ = some (.slice A0 y0.l.length C0)) ∧ (w'.cell? ⟨g, o + 5, none⟩ = some (.int .i64 y1.k) ∧ w'.cell? ⟨g, o + 5 + 1, none⟩ = some (.int .u64 y1.n) ∧ w'.cell? ⟨g, o + 5 + 2, none⟩ = some (.slice a1 y1.b.length c1) ∧ w'.cell? ⟨g, o + 5 + 3, none⟩ = some (.string ⟨y1.s.toArray⟩) ∧ w'.cell? ⟨g, o + 5 + 4, none⟩ = some (.slice A1 y1.l.length C1)) ∧ (w'.cell? ⟨g, o + 10, none⟩ = some (.int .i64 y2.k) ∧ w'.cell? ⟨g, o + 10 + 1, none⟩ = some (.int .u64 y2.n) ∧ w'.cell? ⟨g, o + 10 + 2, none⟩ = some (.slice a2 y2.b.length c2) ∧ w'.cell? ⟨g, o + 10 + 3, none⟩ = some (.string ⟨y2.s.toArray⟩) ∧ w'.cell? ⟨g, o + 10 + 4, none⟩ = some (.slice A2 y2.l.length C2)) := by
 obtain ⟨hl2, _⟩ := h.list
 rw [hl] at hl2
 rcases hl2 with h0 | ⟨g, o, rfl, hg, hL⟩
 ·cases h0
 ·obtain ⟨a0, c0, A0, C0, k0⟩ := hL.cellsAt hg (i := 0) (y := y0) rfl
  obtain ⟨a1, c1, A1, C1, k1⟩ := hL.cellsAt hg (i := 1) (y := y1) rfl
  obtain ⟨a2, c2, A2, C2, k2⟩ := hL.cellsAt hg (i := 2) (y := y2) rfl
  simp only [Nat.zero_mul, Nat.add_zero] at k0
  simp only [Nat.one_mul] at k1
  simp only [Nat.reduceMul] at k2
  exact ⟨g, o, a0, c0, A0, C0, a1, c1, A1, C1, a2, c2, A2, C2, rfl, fun w' hb => ⟨⟨(k0 w' hb).1, (k1 w' hb).1, (k2 w' hb).1⟩, (k0 w' hb).2, (k1 w' hb).2, (k2 w' hb).2⟩⟩

theorem nameOf_any (x : It) (v : Value) (w : World) (hd : x.depth ≤ 60000) (hv : ItV w w.heap.size v x) : Calls Tryz.prog 138 #[v] w (NnP w x) := by
 obtain ⟨a, c, A, C, rfl⟩ := hv.form
 obtain ⟨W, hW⟩ : ∃ W, W = (w.alloc (.cells #[.int .i64 x.k, .int .u64 x.n, .slice a x.b.length c, .string ⟨x.s.toArray⟩, .slice A x.l.length C] 45)).alloc (.cells #[.int .u32 0, .int .u32 0, .int .u64 0, .int .u32 0] 30) := ⟨_, rfl⟩
 have HB : Hid (Below w.heap.size w W) := by rw [hW]; exact below_al (below_al bR _) _
 have hsW : W.heap.size ≤ w.heap.size + 2 ∧ w.heap.size + 2 ≤ W.heap.size := by rw [hW]; simp
 have HX : Hid (∀ w', Below W.heap.size W w' → (w'.cell? ⟨w.heap.size, 0, none⟩ = some (.int .i64 x.k) ∧ w'.cell? ⟨w.heap.size, 1, none⟩ = some (.int .u64 x.n) ∧ w'.cell? ⟨w.heap.size, 2, none⟩ = some (.slice a x.b.length c) ∧ w'.cell? ⟨w.heap.size, 3, none⟩ = some (.string ⟨x.s.toArray⟩) ∧ w'.cell? ⟨w.heap.size, 4, none⟩ = some (.slice A x.l.length C))) := fun w' h => by
  have e : ∀ i, W.cell? ⟨w.heap.size, i, none⟩ = (#[.int .i64 x.k, .int .u64 x.n, .slice a x.b.length c, .string ⟨x.s.toArray⟩, .slice A x.l.length C])[i]? := fun i => by
   rw [hW]
   exact ((below_al (Below.refl (w.alloc (.cells #[.int .i64 x.k, .int .u64 x.n, .slice a x.b.length c, .string ⟨x.s.toArray⟩, .slice A x.l.length C] 45)).heap.size (w.alloc (.cells #[.int .i64 x.k, .int .u64 x.n, .slice a x.b.length c, .string ⟨x.s.toArray⟩, .slice A x.l.length C] 45))) _).cell (p := ⟨w.heap.size, i, none⟩) (by simp)).trans (World.cell?_alloc_mark _ _ _ _ _)
  have hh := fun i => (h.cell (p := ⟨w.heap.size, i, none⟩) (show w.heap.size < W.heap.size by omega)).trans (e i)
  exact ⟨hh 0, hh 1, hh 2, hh 3, hh 4⟩
 have HR : Hid (∀ w', Below W.heap.size W w' → (w'.cell? ⟨w.heap.size + 1, 0, none⟩ = some (.int .u32 0) ∧ w'.cell? ⟨w.heap.size + 1, 1, none⟩ = some (.int .u32 0) ∧ w'.cell? ⟨w.heap.size + 1, 2, none⟩ = some (.int .u64 0) ∧ w'.cell? ⟨w.heap.size + 1, 3, none⟩ = some (.int .u32 0)) ∧ ∀ i, w'.frozen? ⟨w.heap.size + 1, i, none⟩ = false) := fun w' h => by
  have hh := fun i => (h.cell (p := ⟨w.heap.size + 1, i, none⟩) (show w.heap.size + 1 < W.heap.size by omega)).trans (by rw [hW, ← World.size_alloc w (.cells #[.int .i64 x.k, .int .u64 x.n, .slice a x.b.length c, .string ⟨x.s.toArray⟩, .slice A x.l.length C] 45), World.cell?_alloc_mark] : W.cell? ⟨w.heap.size + 1, i, none⟩ = (#[Value.int .u32 0, .int .u32 0, .int .u64 0, .int .u32 0])[i]?)
  refine ⟨⟨hh 0, hh 1, hh 2, hh 3⟩, fun i => (h.frozen (p := ⟨w.heap.size + 1, i, none⟩) (show w.heap.size + 1 < W.heap.size by omega)).trans ?_⟩
  rw [hW, ← World.size_alloc w (.cells #[.int .i64 x.k, .int .u64 x.n, .slice a x.b.length c, .string ⟨x.s.toArray⟩, .slice A x.l.length C] 45)]
  exact World.frozen?_alloc_new _ _ _ _
 have HP : Hid (∀ (W0 : World) (w' : World), Below (W0.alloc (.cells #[.int .i64 3] 3)).heap.size (W0.alloc (.cells #[.int .i64 3] 3)) w' → w'.cell? ⟨W0.heap.size, 0, none⟩ = some (.int .i64 ((3 : Nat) : Int))) := fun W0 w' h => by
  refine (h.cell (p := ⟨W0.heap.size, 0, none⟩) (by simp)).trans ?_
  simp
 have HW := h_ hW
 have HD := h_ hd
 have HV := h_ hv
 clear hW hd hv
 have F0 : Below W.heap.size W W.drew := bR.drew
 go_enter Tryz.func138, Tryz.ntmps138
 go_wp2_with fail
 rw [← HW.out]
 refine wp_region_held_drew (S := fun w' => (w'.cell? ⟨w.heap.size, 0, none⟩ = some (.int .i64 x.k) ∧ w'.cell? ⟨w.heap.size, 1, none⟩ = some (.int .u64 x.n) ∧ w'.cell? ⟨w.heap.size, 2, none⟩ = some (.slice a x.b.length c) ∧ w'.cell? ⟨w.heap.size, 3, none⟩ = some (.string ⟨x.s.toArray⟩) ∧ w'.cell? ⟨w.heap.size, 4, none⟩ = some (.slice A x.l.length C))) (by kernel_rfl) (HX.out _ F0) (fun hHeld => ?_)
 refine nk_take_listed (i := 1) (v := ?_) rfl (by kernel_rfl) (by kernel_rfl) (by kernel_rfl) (fun _ _ _ h => h) (Or.inl ⟨by rfl, ?_⟩) (by assumption) ?_
 rotate_left
 ·intro w hSw; go_simp; all_goals with_reducible rfl
 simp only [Act.put, zA, zB, zC]
 refine wpAnyH_ready (rs := [0]) (by kernel_rfl) (by simp) (.cons rfl (fun K hK => ?_) .nil)
 go_simp
 refine (shape_any 3 _).mono ?_
 rintro e w1 ⟨rfl, hw1⟩
 have F1 : Below W.heap.size W w1 := by rw [hw1]; exact below_al F0 _
 have HP1 : Hid (∀ w', Below w1.heap.size w1 w' → w'.cell? ⟨W.drew.heap.size, 0, none⟩ = some (.int .i64 ((3 : Nat) : Int))) := by rw [hw1]; exact HP.out _
 clear hw1
 refine hK.out _ _ (HX.out _ F1) (fun hHeld => ?_)
 clear hK K
 try simp only [Act.put, zA, zB, zC]
 refine wpAnyH_ready (rs := [2]) (by kernel_rfl) (by simp) (.cons rfl (fun K hK => ?_) .nil)
 go_simp
 refine (shape1_any x a A c C W.drew.heap.size 3 w1 (by decide) (HV.out.on (HB.out.trans (F1.mono HB.out.size))) (HP1.out w1 bR)).mono ?_
 rintro e w2 ⟨hb2, ⟨rfl, hsh⟩ | ⟨rfl, hsh⟩⟩
 rotate_left
 ·exact ⟨rfl, HB.out.trans ((below_on F1 hb2).mono HB.out.size), .inr ⟨rfl, nmI_sh hsh⟩⟩
 have F2 : Below W.heap.size W w2 := below_on F1 hb2
 clear hb2
 refine hK.out _ _ (HX.out _ F2) (fun hHeld => ?_)
 clear hK K
 try simp only [Act.put, zA, zB, zC]
 refine nk_take_listed (i := 3) (v := ?_) rfl (by kernel_rfl) (by kernel_rfl) (by kernel_rfl) (fun _ _ _ h => h) (Or.inl ⟨by rfl, ?_⟩) (by assumption) ?_
 rotate_left
 ·intro w hSw; go_simp; all_goals with_reducible rfl
 simp only [Act.put, zA, zB, zC]
 refine wpAnyH_done (by kernel_rfl) ?_ _
 obtain ⟨y0, y1, y2, hxl⟩ := shL_three hsh
 obtain ⟨g, o, a0, c0, A0, C0, a1, c1, A1, C1, a2, c2, A2, C2, rfl, hpair⟩ := HV.out.triple hxl
 have HF2 := h_ F2
 have HB2 : Hid (Below w.heap.size w w2) := HB.out.trans (F2.mono HB.out.size)
 have HSH : Hid (nmI x = nmZ y0 y1 y2) := nmI_three hsh hxl
 have HPR := h_ hpair
 have hlen : x.l.length = 3 := by rw [hxl]; rfl
 have HD0 : Hid (y0.depth ≤ 60000) := Nat.le_trans (depth_mem (by rw [hxl]; simp)) HD.out
 have HD1 : Hid (y1.depth ≤ 60000) := Nat.le_trans (depth_mem (by rw [hxl]; simp)) HD.out
 have HD2 : Hid (y2.depth ≤ 60000) := Nat.le_trans (depth_mem (by rw [hxl]; simp)) HD.out
 rw [hlen]
 clear hsh hxl hpair hlen F0 F1 F2 hHeld
 have HC : Hid (∀ w', Below w.heap.size w w' → (w'.cell? ⟨g, o, none⟩ = some (.int .i64 y0.k) ∧ w'.cell? ⟨g, o + 1, none⟩ = some (.int .u64 y0.n) ∧ w'.cell? ⟨g, o + 2, none⟩ = some (.slice a0 y0.b.length c0) ∧ w'.cell? ⟨g, o + 3, none⟩ = some (.string ⟨y0.s.toArray⟩) ∧ w'.cell? ⟨g, o + 4, none⟩ = some (.slice A0 y0.l.length C0)) ∧ (w'.cell? ⟨g, o + 5, none⟩ = some (.int .i64 y1.k) ∧ w'.cell? ⟨g, o + 5 + 1, none⟩ = some (.int .u64 y1.n) ∧ w'.cell? ⟨g, o + 5 + 2, none⟩ = some (.slice a1 y1.b.length c1) ∧ w'.cell? ⟨g, o + 5 + 3, none⟩ = some (.string ⟨y1.s.toArray⟩) ∧ w'.cell? ⟨g, o + 5 + 4, none⟩ = some (.slice A1 y1.l.length C1)) ∧ (w'.cell? ⟨g, o + 10, none⟩ = some (.int .i64 y2.k) ∧ w'.cell? ⟨g, o + 10 + 1, none⟩ = some (.int .u64 y2.n) ∧ w'.cell? ⟨g, o + 10 + 2, none⟩ = some (.slice a2 y2.b.length c2) ∧ w'.cell? ⟨g, o + 10 + 3, none⟩ = some (.string ⟨y2.s.toArray⟩) ∧ w'.cell? ⟨g, o + 10 + 4, none⟩ = some (.slice A2 y2.l.length C2))) := fun w' h => (HPR.out w' h).2
 have F0 : Below w2.heap.size w2 w2.drew := bR.drew
 have HF : Hid (∀ w', Below w2.heap.size w2 w' → Below w.heap.size w w') := fun w' h => below_on HB2.out h
 go_wp2_with fail
 refine wp_region_held_drew (S := fun w' => (w'.cell? ⟨g, o, none⟩ = some (.int .i64 y0.k) ∧ w'.cell? ⟨g, o + 1, none⟩ = some (.int .u64 y0.n) ∧ w'.cell? ⟨g, o + 2, none⟩ = some (.slice a0 y0.b.length c0) ∧ w'.cell? ⟨g, o + 3, none⟩ = some (.string ⟨y0.s.toArray⟩) ∧ w'.cell? ⟨g, o + 4, none⟩ = some (.slice A0 y0.l.length C0)) ∧ (w'.cell? ⟨g, o + 5, none⟩ = some (.int .i64 y1.k) ∧ w'.cell? ⟨g, o + 5 + 1, none⟩ = some (.int .u64 y1.n) ∧ w'.cell? ⟨g, o + 5 + 2, none⟩ = some (.slice a1 y1.b.length c1) ∧ w'.cell? ⟨g, o + 5 + 3, none⟩ = some (.string ⟨y1.s.toArray⟩) ∧ w'.cell? ⟨g, o + 5 + 4, none⟩ = some (.slice A1 y1.l.length C1)) ∧ (w'.cell? ⟨g, o + 10, none⟩ = some (.int .i64 y2.k) ∧ w'.cell? ⟨g, o + 10 + 1, none⟩ = some (.int .u64 y2.n) ∧ w'.cell? ⟨g, o + 10 + 2, none⟩ = some (.slice a2 y2.b.length c2) ∧ w'.cell? ⟨g, o + 10 + 3, none⟩ = some (.string ⟨y2.s.toArray⟩) ∧ w'.cell? ⟨g, o + 10 + 4, none⟩ = some (.slice A2 y2.l.length C2))) (by kernel_rfl) (HC.out _ (HF.out _ F0)) (fun hHeld => ?_)
 refine nk_take_listed (i := 0) (v := ?_) rfl (by kernel_rfl) (by kernel_rfl) (by kernel_rfl) (fun _ _ _ h => h) (Or.inl ⟨by rfl, ?_⟩) (by assumption) ?_
 rotate_left
 ·intro w hSw; go_simp; all_goals with_reducible rfl
 simp only [Act.put, zA, zB, zC]
 refine nk_take_listed (i := 1) (v := ?_) rfl (by kernel_rfl) (by kernel_rfl) (by kernel_rfl) (fun _ _ _ h => h) (Or.inl ⟨by rfl, ?_⟩) (by assumption) ?_
 rotate_left
 ·intro w hSw; go_simp; all_goals with_reducible rfl
 simp only [Act.put, zA, zB, zC]
 refine nk_take_listed (i := 2) (v := ?_) rfl (by kernel_rfl) (by kernel_rfl) (by kernel_rfl) (fun _ _ _ h => h) (Or.inl ⟨by rfl, ?_⟩) (by assumption) ?_
 rotate_left
 ·intro w hSw; go_simp; all_goals with_reducible rfl
 simp only [Act.put, zA, zB, zC]
 refine nk_take_listed (i := 4) (v := ?_) rfl (by kernel_rfl) (by kernel_rfl) (by kernel_rfl) (fun _ _ _ h => h) (Or.inl ⟨by rfl, ?_⟩) (by assumption) ?_
 rotate_left
 ·intro w hSw; go_simp; all_goals with_reducible rfl
 simp only [Act.put, zA, zB, zC]
 refine nk_take_listed (i := 5) (v := ?_) rfl (by kernel_rfl) (by kernel_rfl) (by kernel_rfl) (fun _ _ _ h => h) (Or.inl ⟨by rfl, ?_⟩) (by assumption) ?_
 rotate_left
 ·intro w hSw; go_simp; all_goals with_reducible rfl
 simp only [Act.put, zA, zB, zC]
 refine nk_take_listed (i := 6) (v := ?_) rfl (by kernel_rfl) (by kernel_rfl) (by kernel_rfl) (fun _ _ _ h => h) (Or.inl ⟨by rfl, ?_⟩) (by assumption) ?_
 rotate_left
 ·intro w hSw; go_simp; all_goals with_reducible rfl
 simp only [Act.put, zA, zB, zC]
 refine nk_take_listed (i := 8) (v := ?_) rfl (by kernel_rfl) (by kernel_rfl) (by kernel_rfl) (fun _ _ _ h => h) (Or.inl ⟨by rfl, ?_⟩) (by assumption) ?_
 rotate_left
 ·intro w hSw; go_simp; all_goals with_reducible rfl
 simp only [Act.put, zA, zB, zC]
 refine nk_take_listed (i := 9) (v := ?_) rfl (by kernel_rfl) (by kernel_rfl) (by kernel_rfl) (fun _ _ _ h => h) (Or.inl ⟨by rfl, ?_⟩) (by assumption) ?_
 rotate_left
 ·intro w hSw; go_simp; all_goals with_reducible rfl
 simp only [Act.put, zA, zB, zC]
 refine nk_take_listed (i := 10) (v := ?_) rfl (by kernel_rfl) (by kernel_rfl) (by kernel_rfl) (fun _ _ _ h => h) (Or.inl ⟨by rfl, ?_⟩) (by assumption) ?_
 rotate_left
 ·intro w hSw; go_simp; all_goals with_reducible rfl
 simp only [Act.put, zA, zB, zC]
 refine wpAnyH_ready (rs := [3]) (by kernel_rfl) (by simp) (.cons rfl (fun K hK => ?_) .nil)
 go_simp
 refine (endpointOf_any y0 _ _ HD0.out (ItV.mono (HF.out _ F0).size _ (HPR.out _ (HF.out _ F0)).1.1)).mono ?_
 rintro e w5 ⟨hb5, ⟨n, m, rfl, hn⟩ | ⟨rfl, hn⟩⟩
 rotate_left
 ·exact ⟨rfl, HF.out _ (below_on F0 hb5), .inr ⟨rfl, by rw [HSH.out, nmZ, hn]⟩⟩
 have HN := h_ hn
 clear hn
 have F1 : Below w2.heap.size w2 w5 := below_on F0 hb5
 refine hK.out _ _ (HC.out _ (HF.out _ F1)) (fun hHeld => ?_)
 clear hK K
 try simp only [Act.put, zA, zB, zC]
 refine wpAnyH_ready (rs := [7]) (by kernel_rfl) (by simp) (.cons rfl (fun K hK => ?_) .nil)
 go_simp
 refine (numberOf_any y1 _ _ HD1.out (ItV.mono (HF.out _ F1).size _ (HPR.out _ (HF.out _ F1)).1.2.1)).mono ?_
 rintro e w6 ⟨hb6, ⟨t, rfl, htn, htl⟩ | ⟨rfl, htn⟩⟩
 rotate_left
 ·exact ⟨rfl, HF.out _ (below_on F1 hb6), .inr ⟨rfl, by rw [HSH.out, nmZ, HN.out, htn]⟩⟩
 have HTn := h_ htn
 clear htn
 have F2 : Below w2.heap.size w2 w6 := below_on F1 hb6
 refine hK.out _ _ (HC.out _ (HF.out _ F2)) (fun hHeld => ?_)
 clear hK K
 try simp only [Act.put, zA, zB, zC]
 refine wpAnyH_ready (rs := [11]) (by kernel_rfl) (by simp) (.cons rfl (fun K hK => ?_) .nil)
 go_simp
 refine (numberOf_any y2 _ _ HD2.out (ItV.mono (HF.out _ F2).size _ (HPR.out _ (HF.out _ F2)).1.2.2)).mono ?_
 rintro e w7 ⟨hb7, ⟨q, rfl, hqn, hql⟩ | ⟨rfl, hqn⟩⟩
 rotate_left
 ·exact ⟨rfl, HF.out _ (below_on F2 hb7), .inr ⟨rfl, by rw [HSH.out, nmZ, HN.out, HTn.out, hqn]⟩⟩
 have HQn := h_ hqn
 clear hqn
 have F3 : Below w2.heap.size w2 w7 := below_on F2 hb7
 refine hK.out _ _ (HC.out _ (HF.out _ F3)) (fun hHeld => ?_)
 clear hK K
 try simp only [Act.put, zA, zB, zC]
 refine wpAnyH_ready (rs := [12]) (by kernel_rfl) (by simp) (.cons rfl (fun K hK => ?_) .nil)
 go_simp
 refine (namedD_any n m t q _).mono ?_
 rintro e w8 ⟨hb8, ⟨rfl, hnb⟩ | ⟨rfl, hnb⟩⟩
 rotate_left
 ·exact ⟨rfl, HF.out _ (below_on F3 hb8), .inr ⟨rfl, by rw [HSH.out, nmZ, HN.out, HTn.out, HQn.out]; simp [hnb]⟩⟩
 have HNB := h_ hnb
 clear hnb
 have F4 : Below w2.heap.size w2 w8 := below_on F3 hb8
 obtain ⟨⟨r0, r1, r2, r3⟩, rf⟩ := HR.out w8 (HF2.out.trans (F4.mono HF2.out.size))
 have f0 := rf 0
 have f1 := rf 1
 have f2 := rf 2
 have f3 := rf 3
 refine hK.out _ _ (HC.out _ (HF.out _ F4)) (fun hHeld => ?_)
 clear hK K
 try simp only [Act.put, zA, zB, zC]
 refine wpAnyH_ready (rs := [13]) (by kernel_rfl) (by simp) (.cons rfl (fun K hK => ?_) .nil)
 go_simp
 refine hK.out _ _ (HC.out _ (((((HF.out _ F4).setCell (p := ⟨w.heap.size + 1, 0, none⟩) (Nat.le_succ _) _).setCell (p := ⟨w.heap.size + 1, 1, none⟩) (Nat.le_succ _) _).setCell (p := ⟨w.heap.size + 1, 2, none⟩) (Nat.le_succ _) _).setCell (p := ⟨w.heap.size + 1, 3, none⟩) (Nat.le_succ _) _)) (fun hHeld => ?_)
 clear hK K
 try simp only [Act.put, zA, zB, zC]
 refine wpAnyH_done (by kernel_rfl) ?_ _
 have HF4 := h_ F4
 clear F0 F1 F2 F3 F4
 go_wp2
 obtain ⟨s0, s1, s2, s3⟩ := put4 (.int .u32 (n : Int)) (.int .u32 (m : Int)) (.int .u64 (t : Int)) (.int .u32 (q : Int)) r0 r1 r2 r3
 have HB9 := h_ (((((HF.out _ HF4.out).setCell (p := ⟨w.heap.size + 1, 0, none⟩) (Nat.le_succ _) (.int .u32 (n : Int))).setCell (p := ⟨w.heap.size + 1, 1, none⟩) (Nat.le_succ _) (.int .u32 (m : Int))).setCell (p := ⟨w.heap.size + 1, 2, none⟩) (Nat.le_succ _) (.int .u64 (t : Int))).setCell (p := ⟨w.heap.size + 1, 3, none⟩) (Nat.le_succ _) (.int .u32 (q : Int)))
 refine bodyPost_ret (v := .agg #[.int .u32 n, .int .u32 m, .int .u64 t, .int .u32 q]) (by simp [results, Tryz.results138, go_sem, s0, s1, s2, s3]) rfl ⟨HB9.out, .inl ⟨n, m, t, q, rfl, ?_⟩⟩
 rw [HSH.out, nmZ, HN.out, HTn.out, HQn.out]
 simp [HNB.out]

def rdNI (x : It) : Except Int (Nat × Nat × Nat × Nat) := match nmI x with
 | some p => .ok p
 | none => .error 130

theorem nof1_any (x : It) (P : Nat) (w : World) (hd : x.depth ≤ 60000) (h : BoxI w w.heap.size P x) :
  Calls Tryz.prog 137 #[.pointer (some ⟨P, 0, none⟩)] w (RdN w (rdNI x)) := by
 obtain ⟨a, c, A, C, hv, hP, x0, x1, x2, x3, x4⟩ := h
 obtain ⟨W, hW⟩ : ∃ W, W = w.alloc (.cells #[.int .u32 0, .int .u32 0, .int .u64 0, .int .u32 0] 30) := ⟨_, rfl⟩
 have HB : Hid (Below w.heap.size w W) := by rw [hW]; exact below_al bR _
 have HR : Hid (∀ w', Below W.heap.size W w' → (w'.cell? ⟨w.heap.size, 0, none⟩ = some (.int .u32 0) ∧ w'.cell? ⟨w.heap.size, 1, none⟩ = some (.int .u32 0) ∧ w'.cell? ⟨w.heap.size, 2, none⟩ = some (.int .u64 0) ∧ w'.cell? ⟨w.heap.size, 3, none⟩ = some (.int .u32 0)) ∧ ∀ i, w'.frozen? ⟨w.heap.size, i, none⟩ = false) := fun w' h => by
  have hs : w.heap.size < W.heap.size := by rw [hW]; simp
  have hh := fun i => (h.cell (p := ⟨w.heap.size, i, none⟩) hs).trans (by rw [hW, World.cell?_alloc_mark] : W.cell? ⟨w.heap.size, i, none⟩ = (#[Value.int .u32 0, .int .u32 0, .int .u64 0, .int .u32 0])[i]?)
  refine ⟨⟨hh 0, hh 1, hh 2, hh 3⟩, fun i => (h.frozen (p := ⟨w.heap.size, i, none⟩) hs).trans ?_⟩
  rw [hW]
  exact World.frozen?_alloc_new _ _ _ _
 have HV := h_ (hv.on HB.out)
 have HW := h_ hW
 clear hv hW
 go_enter Tryz.func137, Tryz.ntmps137
 go_wp2_with fail
 rw [← HW.out]
 refine (nameOf_any x _ W hd HV.out).mono ?_
 rintro e w2 ⟨hb2, ⟨n, m, t, q, rfl, hm⟩ | ⟨rfl, hm⟩⟩
 ·have HB2 := h_ (below_on HB.out hb2)
  obtain ⟨⟨r0, r1, r2, r3⟩, rf⟩ := HR.out w2 hb2
  have f0 := rf 0
  have f1 := rf 1
  have f2 := rf 2
  have f3 := rf 3
  have HM : Hid (rdNI x = .ok (n, m, t, q)) := by rw [Hid, rdNI, hm]
  clear hb2 hm x0 x1 x2 x3 x4
  go_wp2_with fail
  obtain ⟨s0, s1, s2, s3⟩ := put4 (.int .u32 (n : Int)) (.int .u32 (m : Int)) (.int .u64 (t : Int)) (.int .u32 (q : Int)) r0 r1 r2 r3
  refine bodyPost_ret (v := .agg #[.int .u32 n, .int .u32 m, .int .u64 t, .int .u32 q]) (by simp [results, Tryz.results137, go_sem, s0, s1, s2, s3]) rfl ⟨?_, by rw [HM.out]⟩
  exact ((((HB2.out.setCell (p := ⟨w.heap.size, 0, none⟩) (Nat.le_refl _) _).setCell (p := ⟨w.heap.size, 1, none⟩) (Nat.le_refl _) _).setCell (p := ⟨w.heap.size, 2, none⟩) (Nat.le_refl _) _).setCell (p := ⟨w.heap.size, 3, none⟩) (Nat.le_refl _) _)
 ·have HB2 := h_ (below_on HB.out hb2)
  have HM : Hid (rdNI x = .error 130) := by rw [Hid, rdNI, hm]
  clear hb2 hm x0 x1 x2 x3 x4
  go_wp2_with fail
  exact ⟨rfl, HB2.out, by rw [HM.out]; rfl⟩

theorem nof_any (x : It) (v : Value) (w : World) (hd : x.depth ≤ 60000) (hv : ItV w w.heap.size v x) :
  Calls Tryz.prog 118 #[v] w (TrN w (rdNI x)) := by
 have hmf : ∀ (fn : Fn) (first cap : Array Value) (w : World), (Instr.makeFunc fn first cap).run Tryz.prog w = .ok (.func fn first cap) w := fun _ _ _ _ => rfl
 obtain ⟨a, c, A, C, rfl⟩ := hv.form
 obtain ⟨W1, hW1⟩ : ∃ W, W = w.alloc (.cells #[.int .i64 x.k, .int .u64 x.n, .slice a x.b.length c, .string ⟨x.s.toArray⟩, .slice A x.l.length C] 45) := ⟨_, rfl⟩
 have s1 : W1.heap.size = w.heap.size + 1 := by rw [hW1]; simp
 have hbx : BoxI W1 W1.heap.size w.heap.size x := by rw [hW1]; exact boxI_new _ hv
 obtain ⟨W, hW⟩ : ∃ W, W = W1.alloc (.cells #[.int .u32 0, .int .u32 0, .int .u64 0, .int .u32 0] 30) := ⟨_, rfl⟩
 have hb1 : Below w.heap.size w W1 := by rw [hW1]; exact below_al bR _
 have hb2 : Below W1.heap.size W1 W := by rw [hW]; exact below_al bR _
 have hbW : Below w.heap.size w W := below_on hb1 hb2
 have hsW : W.heap.size = w.heap.size + 2 := by rw [hW]; simp [s1]
 have HB := h_ hbW
 have HT := h_ (triedN_any 137 #[.pointer (some ⟨w.heap.size, 0, none⟩)] (rdNI x) W (enters_of Tryz.func137 (by kernel_rfl) rfl) (fun w' hb => nof1_any x _ w' hd (hbx.on (below_on hb2 hb))))
 have HC : Hid (∀ w', Below W.heap.size W w' → (w'.cell? ⟨w.heap.size + 1, 0, none⟩ = some (.int .u32 0) ∧ w'.cell? ⟨w.heap.size + 1, 1, none⟩ = some (.int .u32 0) ∧ w'.cell? ⟨w.heap.size + 1, 2, none⟩ = some (.int .u64 0) ∧ w'.cell? ⟨w.heap.size + 1, 3, none⟩ = some (.int .u32 0)) ∧ ∀ i, w'.frozen? ⟨w.heap.size + 1, i, none⟩ = false) := fun w' hb => by
  have hh : ∀ i, w'.cell? ⟨w.heap.size + 1, i, none⟩ = W.cell? ⟨w.heap.size + 1, i, none⟩ := fun i => hb.cell (p := ⟨w.heap.size + 1, i, none⟩) (show w.heap.size + 1 < _ by omega)
  have hf : ∀ i, w'.frozen? ⟨w.heap.size + 1, i, none⟩ = W.frozen? ⟨w.heap.size + 1, i, none⟩ := fun i => hb.frozen (p := ⟨w.heap.size + 1, i, none⟩) (show w.heap.size + 1 < _ by omega)
  exact ⟨⟨(hh 0).trans (by rw [hW, ← s1, World.cell?_alloc_mark]; rfl), (hh 1).trans (by rw [hW, ← s1, World.cell?_alloc_mark]; rfl), (hh 2).trans (by rw [hW, ← s1, World.cell?_alloc_mark]; rfl), (hh 3).trans (by rw [hW, ← s1, World.cell?_alloc_mark]; rfl)⟩, fun i => (hf i).trans (by rw [hW, ← s1]; exact World.frozen?_alloc_new _ _ _ _)⟩
 have HW : Hid (W = (w.alloc (.cells #[.int .i64 x.k, .int .u64 x.n, .slice a x.b.length c, .string ⟨x.s.toArray⟩, .slice A x.l.length C] 45)).alloc (.cells #[.int .u32 0, .int .u32 0, .int .u64 0, .int .u32 0] 30)) := by rw [← hW1]; exact hW
 clear hW1 hW hb1 hb2 hbW s1 hv hbx hd
 go_enter Tryz.func118, Tryz.ntmps118
 go_wp2_with fail
 rw [← HW.out]
 refine HT.out.mono ?_
 intro e w1 htr
 have HBB := h_ (below_on HB.out htr.1)
 obtain ⟨⟨d0, d1, d2, d3⟩, df⟩ := HC.out w1 htr.1
 have f0 := df 0
 have f1 := df 1
 have f2 := df 2
 have f3 := df 3
 obtain ⟨n, m, t, q, c, rfl, hr⟩ := trN_agg htr
 have HR := h_ hr
 clear htr hr df
 go_wp2_with fail
 obtain ⟨e0, e1, e2, e3⟩ := put4 (.int .u32 (n : Int)) (.int .u32 (m : Int)) (.int .u64 (t : Int)) (.int .u32 (q : Int)) d0 d1 d2 d3
 refine bodyPost_ret (v := .tuple #[.agg #[.int .u32 n, .int .u32 m, .int .u64 t, .int .u32 q], .int .i64 c]) (by simp [results, Tryz.results118, go_sem, e0, e1, e2, e3]) rfl (trN_of HR.out ?_)
 exact ((((HBB.out.setCell (p := ⟨w.heap.size + 1, 0, none⟩) (by show w.heap.size ≤ w.heap.size + 1; omega) _).setCell (p := ⟨w.heap.size + 1, 1, none⟩) (by show w.heap.size ≤ w.heap.size + 1; omega) _).setCell (p := ⟨w.heap.size + 1, 2, none⟩) (by show w.heap.size ≤ w.heap.size + 1; omega) _).setCell (p := ⟨w.heap.size + 1, 3, none⟩) (by show w.heap.size ≤ w.heap.size + 1; omega) _)

theorem nmI_itN (n m t q : Nat) (h : 0 < n) (hn : n ≤ 4294967295) (hm : m ≤ 4294967295) (ht : t ≤ forever) (hq : q ≤ 4294967295) : nmI (itN n m t q) = some (n, m, t, q) := by
 have s1 : shL (itLs [itE n m, itU t, itU q]) 3 = true := rfl
 have hb : nmB n t q = true := by simp [nmB]; omega
 rw [itN, nmI_three s1 rfl, nmZ, epI_itE n m (.inl h) hn hm, nuN_itU, nuN_itU]
 simp [hb]

theorem depth_itN (n m t q : Nat) : (itN n m t q).depth ≤ 4 := by
 have := depth_itE n m
 simp only [itN, itLs, itU, It.depth, It.depth.depthL]
 omega

def It.nn : Nat → It → Prop
 | 0, x => 0 ≤ x.n
 | d + 1, x => 0 ≤ x.n ∧ ∀ y ∈ x.l, It.nn d y

theorem ItV.kids {w : World} {B : Nat} {v : Value} {x y : It} (h : ItV w B v x) (hy : y ∈ x.l) : ∃ u, ItV w B u y := by
 obtain ⟨a, c, A, C, rfl⟩ := h.form
 rcases h.list.1 with h0 | ⟨g, o, _, _, hL⟩
 ·rw [h0] at hy; cases hy
 ·obtain ⟨i, hi, rfl⟩ := List.getElem_of_mem hy
  obtain ⟨u, _, hu⟩ := ItL.at hL (List.getElem?_eq_getElem hi)
  exact ⟨u, hu⟩

theorem ItV.nn {w : World} {B : Nat} : ∀ (d : Nat) {v : Value} {x : It}, ItV w B v x → x.nn d
 | 0, v, x, h => h.u64.1
 | d + 1, v, x, h => ⟨h.u64.1, fun y hy => by
  obtain ⟨u, hu⟩ := h.kids hy
  exact ItV.nn d hu⟩

theorem It.nn_n {d : Nat} {x : It} (h : x.nn d) : 0 ≤ x.n := by
 cases d with
 | zero => exact h
 | succ d => exact h.1

theorem shL_eq {x : It} {n : Nat} (h : shL x n = true) : x = itLs x.l := by
 obtain ⟨k, m, b, s, l⟩ := x
 simp only [shL, Bool.and_eq_true, decide_eq_true_eq, It.k, It.n, It.b, It.s, It.l] at h ⊢
 have h2 := (It.same_iff _ _).1 h.2
 simp only [itLs, It.mk.injEq] at h2 ⊢
 simp [h2]

theorem sv_iff {n m : Nat} : sv n m = true ↔ (0 < n ∧ n ≤ 4294967295 ∧ m ≤ 4294967295) := by simp [sv]

theorem epI_some {x : It} {n m : Nat} (hx : x.nn 2) (h : epI x = some (n, m)) : x = itE n m ∧ (0 < n ∨ m = 0) ∧ n ≤ 4294967295 ∧ m ≤ 4294967295 := by
 cases hs : shL x 2 with
 | false => rw [epI_sh hs] at h; cases h
 | true =>
  obtain ⟨y0, y1, hl⟩ := shL_two hs
  have ex := shL_eq hs
  rw [hl] at ex
  rw [epI_two hs hl] at h
  have n0 : y0.nn 1 := hx.2 y0 (by rw [hl]; simp)
  have n1 : y1.nn 1 := hx.2 y1 (by rw [hl]; simp)
  cases h0 : nuN y0 with
  | none => rw [h0] at h; cases h
  | some k0 =>
   have e0 := nuN_some n0.1 h0
   rw [h0] at h
   match k0, h, e0 with
   | 1, h, e0 =>
    cases h1 : nuN y1 with
    | none => rw [h1] at h; cases h
    | some k1 =>
     have e1 := nuN_some n1.1 h1
     rw [h1] at h
     match k1, h, e1 with
     | 0, h, e1 =>
      simp only [Option.some.injEq, Prod.mk.injEq] at h
      obtain ⟨rfl, rfl⟩ := h
      refine ⟨?_, .inr rfl, by omega, by omega⟩
      rw [ex, e0, e1]
      rfl
   | 2, h, e0 =>
    have h : epY y1 = some (n, m) := h
    cases hs1 : shL y1 2 with
    | false => rw [epY_sh hs1] at h; cases h
    | true =>
     obtain ⟨z0, z1, hl1⟩ := shL_two hs1
     have ey := shL_eq hs1
     rw [hl1] at ey
     rw [epY_two hs1 hl1, epZ] at h
     have m0 : 0 ≤ z0.n := n1.2 z0 (by rw [hl1]; simp)
     have m1 : 0 ≤ z1.n := n1.2 z1 (by rw [hl1]; simp)
     cases g0 : nuN z0 with
     | none => rw [g0] at h; cases h
     | some p0 =>
      cases g1 : nuN z1 with
      | none => rw [g0, g1] at h; cases h
      | some p1 =>
       rw [g0, g1] at h
       have f0 := nuN_some m0 g0
       have f1 := nuN_some m1 g1
       simp only at h
       by_cases hv : sv p0 p1 = true
       ·rw [if_pos hv] at h
        simp only [Option.some.injEq, Prod.mk.injEq] at h
        obtain ⟨rfl, rfl⟩ := h
        have hv' := sv_iff.1 hv
        refine ⟨?_, .inl hv'.1, hv'.2.1, hv'.2.2⟩
        rw [ex, e0, ey, f0, f1, itE, if_neg (by omega)]
        rfl
       ·rw [if_neg hv] at h; cases h

theorem nmB_iff {n t q : Nat} : nmB n t q = true ↔ (0 < n ∧ t ≤ forever ∧ q ≤ 4294967295) := by simp [nmB]

theorem nmI_some {x : It} {n m t q : Nat} (hx : x.nn 3) (h : nmI x = some (n, m, t, q)) : x = itN n m t q ∧ (0 < n ∧ n ≤ 4294967295 ∧ m ≤ 4294967295 ∧ t ≤ forever ∧ q ≤ 4294967295) := by
 cases hs : shL x 3 with
 | false => rw [nmI_sh hs] at h; cases h
 | true =>
  obtain ⟨y0, y1, y2, hl⟩ := shL_three hs
  have ex := shL_eq hs
  rw [hl] at ex
  rw [nmI_three hs hl, nmZ] at h
  have n0 : y0.nn 2 := hx.2 y0 (by rw [hl]; simp)
  have n1 : y1.nn 2 := hx.2 y1 (by rw [hl]; simp)
  have n2 : y2.nn 2 := hx.2 y2 (by rw [hl]; simp)
  cases h0 : epI y0 with
  | none => rw [h0] at h; cases h
  | some p =>
   obtain ⟨a, b⟩ := p
   cases h1 : nuN y1 with
   | none => rw [h0, h1] at h; cases h
   | some k1 =>
    cases h2 : nuN y2 with
    | none => rw [h0, h1, h2] at h; cases h
    | some k2 =>
     rw [h0, h1, h2] at h
     have e0 := epI_some n0 h0
     have e1 := nuN_some n1.1 h1
     have e2 := nuN_some n2.1 h2
     simp only at h
     by_cases hv : nmB a k1 k2 = true
     ·rw [if_pos hv] at h
      simp only [Option.some.injEq, Prod.mk.injEq] at h
      obtain ⟨rfl, rfl, rfl, rfl⟩ := h
      have hv' := nmB_iff.1 hv
      refine ⟨?_, hv'.1, e0.2.2.1, e0.2.2.2, hv'.2.1, hv'.2.2⟩
      rw [ex, e0.1, e1, e2]
      rfl
     ·rw [if_neg hv] at h; cases h

def shapeB (x : It) (ks : List Int) : Bool := decide (x.k = 4) && (decide (x.l.length = ks.length) && (x.l.map It.k == ks))

theorem shapeB_iff {x : It} {ks : List Int} : shapeB x ks = true ↔ (x.k = 4 ∧ x.l.map It.k = ks) := by
 simp only [shapeB, Bool.and_eq_true, decide_eq_true_eq, beq_iff_eq]
 constructor
 ·rintro ⟨h1, _, h3⟩; exact ⟨h1, h3⟩
 ·rintro ⟨h1, h3⟩
  exact ⟨h1, by rw [← h3]; simp, h3⟩

def NkK (w : World) (g : Nat) (ks : List Int) : Prop := g < w.heap.size ∧ ∀ j, j < ks.length → w.cell? ⟨g, j, none⟩ = some (.int .i64 (ks[j]?.getD 0))

theorem NkK.on {w w' : World} {g : Nat} {ks : List Int} (h : NkK w g ks) (hb : Below w.heap.size w w') : NkK w' g ks :=
 ⟨Nat.lt_of_lt_of_le h.1 hb.size, fun j hj => (hb.cell (p := ⟨g, j, none⟩) h.1).trans (h.2 j hj)⟩

theorem shape_ref (x : It) (v : Value) (g n C0 : Nat) (ks : List Int) (hn : n = ks.length) (hk : ks.length ≤ 100) (w : World) (hv : ItV w w.heap.size v x) (hks : NkK w g ks) :
  Calls Tryz.prog 28 #[v, .slice (some ⟨g, 0, none⟩) n C0] w fun e w' => e = .returned (.bool (shapeB x ks)) ∧ Below w.heap.size w w' := by
 subst hn
 obtain ⟨a, c, A, C, rfl⟩ := hv.form
 obtain ⟨hl0, hl1⟩ := hv.list
 obtain ⟨W0, hW0⟩ : ∃ W, W = w.alloc (.cells #[.int .i64 x.k, .int .u64 x.n, .slice a x.b.length c, .string ⟨x.s.toArray⟩, .slice A x.l.length C] 45) := ⟨_, rfl⟩
 have HB : Hid (Below w.heap.size w W0) := by rw [hW0]; exact below_al bR _
 have hs0 : w.heap.size < W0.heap.size := by rw [hW0]; simp
 have HC : Hid (∀ w', Below W0.heap.size W0 w' → w'.cell? ⟨w.heap.size, 0, none⟩ = some (.int .i64 x.k) ∧ w'.cell? ⟨w.heap.size, 4, none⟩ = some (.slice A x.l.length C)) := fun w' h => by
  have hh := fun i => (h.cell (p := ⟨w.heap.size, i, none⟩) hs0).trans (by rw [hW0, World.cell?_alloc_mark] : W0.cell? ⟨w.heap.size, i, none⟩ = (#[.int .i64 x.k, .int .u64 x.n, .slice a x.b.length c, .string ⟨x.s.toArray⟩, .slice A x.l.length C])[i]?)
  exact ⟨hh 0, hh 4⟩
 have HL := h_ hl0
 have HK : Hid (∀ w', Below w.heap.size w w' → NkK w' g ks) := fun w' h => hks.on h
 have HW := h_ hW0
 clear hW0 hv hl0 hl1 hks
 obtain ⟨x0, x4⟩ := HC.out W0 bR
 by_cases h1 : x.k = 4
 ·have H1 := h_ h1
  rw [h1] at HW HC x0 ⊢
  clear h1
  by_cases h2 : x.l.length = ks.length
  ·have H2 := h_ h2
   have h2' : ((x.l.length : Int) == (ks.length : Int)) = true := by simp; omega
   have h2'' : (x.l.length : Int) = (ks.length : Int) := by omega
   clear h2
   go_enter Tryz.func28, Tryz.ntmps28
   go_wp2_with fail
   rw [← HW.out]
   clear x0 x4 h2' h2''
   go_loopw [5] (fun i wr => ∃ j : Nat, j ≤ ks.length ∧ i = .int .i64 j ∧ Hid (Below W0.heap.size W0 wr ∧ (x.l.take j).map It.k = ks.take j)) (fun i _ => ks.length - (intOf i).toNat)
   case atStart => exact ⟨0, Nat.zero_le _, rfl, Below.refl _ _, by simp⟩
   case round =>
    obtain ⟨j, hj, rfl, HI⟩ := hrel
    by_cases hlt : j < ks.length
    ·have hltx : j < x.l.length := by have := H2.out; omega
     have hBw : Below w.heap.size w wr := HB.out.trans (HI.out.1.mono HB.out.size)
     have hki := (HK.out wr hBw).2 j hlt
     obtain ⟨_, y4⟩ := HC.out wr HI.out.1
     obtain ⟨gx, o, rfl, hg, hlL⟩ : ∃ g o, A = some ⟨g, o, none⟩ ∧ g < w.heap.size ∧ ItL w w.heap.size g o x.l := by
      rcases HL.out with h | h
      ·rw [h] at hltx; simp at hltx
      ·exact h
     obtain ⟨p1, p2, p3, p4, _, e0, _, _, _, _⟩ := hlL.get (List.getElem?_eq_getElem hltx) hBw hg
     obtain ⟨kx, hkx⟩ : ∃ kx, kx = (x.l[j]).k := ⟨_, rfl⟩
     obtain ⟨kk, hkk⟩ : ∃ kk, kk = ks[j]?.getD 0 := ⟨_, rfl⟩
     rw [← hkx] at e0
     rw [← hkk] at hki
     have hltI : (j : Int) < (x.l.length : Int) := by omega
     have HS : Hid ((x.l.take (j + 1)).map It.k = (x.l.take j).map It.k ++ [kx] ∧ ks.take (j + 1) = ks.take j ++ [kk]) := by
      refine ⟨?_, ?_⟩
      ·rw [List.take_succ_eq_append_getElem hltx, List.map_append, hkx]; rfl
      ·rw [List.take_succ_eq_append_getElem hlt, hkk, List.getElem?_eq_getElem hlt]; rfl
     have HBw := h_ hBw
     have HIx : Hid (x.l[j]? = some x.l[j]) := List.getElem?_eq_getElem hltx
     have HKJ : Hid (kx = (x.l[j]).k ∧ kk = ks[j]?.getD 0) := ⟨hkx, hkk⟩
     clear hlL hBw hkx hkk
     go_wp2_with fail
     go_quiet (fail)
     by_cases heq : kx = kk
     ·subst heq
      go_wp2_with fail
      go_roundw
      case rel => exact ⟨j + 1, by omega, by go_num, below_dr HI.out.1 _, by rw [HS.out.1, HS.out.2, HI.out.2]⟩
      case measure => simp [intOf]; omega
     ·have hne : (kx == kk) = false := by simpa using heq
      have hne2 : (kx != kk) = true := by simpa using heq
      have HNE := h_ heq
      clear heq
      go_wp2_with fail
      go_ret
      refine ⟨?_, HB.out.trans ((below_dr HI.out.1 _).mono HB.out.size)⟩
      have hno : shapeB x ks = false := by
       cases hs : shapeB x ks with
       | false => rfl
       | true =>
        have h3 := (shapeB_iff.1 hs).2
        exfalso
        apply HNE.out
        have h4 := HKJ.out
        rw [h4.1, h4.2, ← h3]
        simp [List.getElem?_eq_getElem hltx]
      rw [hno]
      rfl
    ·obtain rfl : j = ks.length := by omega
     go_wp2_with fail
     go_ret
     refine ⟨?_, HB.out.trans (HI.out.1.mono HB.out.size)⟩
     have h3 := HI.out.2
     rw [List.take_length, List.take_of_length_le (by have := H2.out; omega)] at h3
     rw [shapeB_iff.2 ⟨H1.out, h3⟩]
     rfl
  ·have h2' : ((x.l.length : Int) == (ks.length : Int)) = false := by simp; omega
   have h2n : ((x.l.length : Int) != (ks.length : Int)) = true := by simp; omega
   have HN : Hid (shapeB x ks = false) := by simp [Hid, shapeB, h2]
   clear h2
   go_enter Tryz.func28, Tryz.ntmps28
   go_wp2_with fail
   go_ret
   rw [HN.out]
   exact ⟨rfl, by rw [← HW.out]; exact HB.out⟩
 ·have h1' : (x.k == 4) = false := by simpa using h1
  have h1n : (x.k != 4) = true := by simpa using h1
  have HN : Hid (shapeB x ks = false) := by simp [Hid, shapeB, h1]
  clear h1
  go_enter Tryz.func28, Tryz.ntmps28
  go_wp2_with fail
  go_ret
  rw [HN.out]
  exact ⟨rfl, by rw [← HW.out]; exact HB.out⟩

def nmBareB (x : It) : Bool := decide (x.n = 0) && (decide (x.b.length = 0) && decide (x.s.length = 0))

theorem bare_ref (x : It) (v : Value) (w : World) (h4 : x.k = 4) (hv : ItV w w.heap.size v x) :
  Calls Tryz.prog 45 #[v] w fun e w' => e = .returned (.bool (nmBareB x)) ∧ Below w.heap.size w w' := by
 obtain ⟨a, c, A, C, rfl⟩ := hv.form
 rw [h4]
 clear hv
 by_cases h1 : x.n = 0
 ·by_cases h2 : x.b.length = 0
  ·by_cases h3 : x.s.length = 0
   ·have hs : x.s = [] := List.eq_nil_of_length_eq_zero h3
    have HN : Hid (nmBareB x = true) := by simp [Hid, nmBareB, h1, h2, h3]
    rw [hs, h1, h2]
    clear h1 h2 h3 hs h4
    go_enter Tryz.func45, Tryz.ntmps45
    go_wp2
    go_ret
    rw [HN.out]
    exact ⟨rfl, below_al bR _⟩
   ·have h3' : (x.s == []) = false := by
      simp only [beq_eq_false_iff_ne, ne_eq]
      intro h; rw [h] at h3; exact h3 rfl
    have HN : Hid (nmBareB x = false) := by simp [Hid, nmBareB, h3]
    rw [h1, h2]
    clear h1 h2 h3 h4
    go_enter Tryz.func45, Tryz.ntmps45
    go_wp2
    go_ret
    rw [HN.out]
    exact ⟨rfl, below_al bR _⟩
  ·have h2' : ((x.b.length : Int) == 0) = false := by
     simp only [beq_eq_false_iff_ne, ne_eq]
     omega
   have h2'' : ¬ (x.b.length : Int) = 0 := by omega
   have HN : Hid (nmBareB x = false) := by simp [Hid, nmBareB, h2]
   rw [h1]
   clear h1 h2 h4
   go_enter Tryz.func45, Tryz.ntmps45
   go_wp2
   go_ret
   rw [HN.out]
   exact ⟨rfl, below_al bR _⟩
 ·have h1' : (x.n == 0) = false := by simpa using h1
  have HN : Hid (nmBareB x = false) := by simp [Hid, nmBareB, h1]
  clear h4
  go_enter Tryz.func45, Tryz.ntmps45
  go_wp2
  go_ret
  rw [HN.out]
  exact ⟨rfl, below_al bR _⟩

theorem refItemR_any (n m : Nat) (h : 0 < n ∨ m = 0) (hn : n ≤ 4294967295) (hm : m ≤ 4294967295) (w : World) :
  Calls Tryz.prog 87 #[.agg #[.int .u32 n, .int .u32 m]] w fun e w' => ∃ a c A C, e = .returned (.agg #[.int .i64 4, .int .u64 0, .slice a 0 c, .string ⟨#[]⟩, .slice A 2 C]) ∧ ItV w' w'.heap.size (.agg #[.int .i64 4, .int .u64 0, .slice a 0 c, .string ⟨#[]⟩, .slice A 2 C]) (itE n m) ∧ Below w.heap.size w w' := by
 have hex : ∃ y0 y1, itE n m = itLs [y0, y1] := by
  unfold itE
  split
  ·exact ⟨_, _, rfl⟩
  ·exact ⟨_, _, rfl⟩
 obtain ⟨y0, y1, hy⟩ := hex
 refine (refItem_any n m h hn hm w).mono ?_
 rintro e w' ⟨⟨v, rfl, hv⟩, hb⟩
 obtain ⟨a, c, A, C, e1⟩ := hv.form
 rw [hy] at e1
 have e2 : v = .agg #[.int .i64 4, .int .u64 0, .slice a 0 c, .string ⟨#[]⟩, .slice A 2 C] := e1
 subst e2
 exact ⟨a, c, A, C, rfl, hv.new_itV, hb⟩

def RoP (w : World) (x : It) (e : Ending) (w' : World) : Prop := Below w.heap.size w w' ∧ ∃ (n m : Nat) (b : Bool), e = .returned (.tuple #[.agg #[.int .u32 n, .int .u32 m], .bool b]) ∧ (b = true ∧ epI x = some (n, m) ∨ b = false ∧ epI x = none ∧ n = 0 ∧ m = 0)

theorem epI_none {x : It} (hx : x.nn 2) (h0 : x ≠ itE 0 0) (h : ∀ n m : Nat, 0 < n → n ≤ 4294967295 → m ≤ 4294967295 → x ≠ itLs [itU 2, itLs [itU n, itU m]]) : epI x = none := by
 cases he : epI x with
 | none => rfl
 | some p =>
  obtain ⟨n, m⟩ := p
  obtain ⟨h1, h2, h3, h4⟩ := epI_some hx he
  exfalso
  by_cases hn : n = 0
  ·subst hn
   obtain rfl : m = 0 := by omega
   exact h0 h1
  ·exact h n m (by omega) h3 h4 (by rw [h1, itE, if_neg hn])

theorem rdK_two (w : World) (t : TypeId) (a b : Int) (w' : World) (h : Below (w.alloc (.cells #[.int .i64 a, .int .i64 b] t)).heap.size (w.alloc (.cells #[.int .i64 a, .int .i64 b] t)) w') : NkK w' w.heap.size [a, b] := by
 have h1 : NkK (w.alloc (.cells #[.int .i64 a, .int .i64 b] t)) w.heap.size [a, b] := ⟨by simp, fun j hj => by
  have : j = 0 ∨ j = 1 := by simp at hj; omega
  rcases this with rfl | rfl <;> simp⟩
 exact h1.on h

theorem nmRefOf_any (x : It) (v : Value) (w : World) (hv : ItV w w.heap.size v x) : Calls Tryz.prog 48 #[v] w (RoP w x) := by
 have hnn := hv.nn 2
 obtain ⟨a, c, A, C, rfl⟩ := hv.form
 obtain ⟨W, hW⟩ : ∃ W, W = (w.alloc (.cells #[.int .i64 x.k, .int .u64 x.n, .slice a x.b.length c, .string ⟨x.s.toArray⟩, .slice A x.l.length C] 45)).alloc (.cells #[.int .u32 0, .int .u32 0] 27) := ⟨_, rfl⟩
 have HB : Hid (Below w.heap.size w W) := by rw [hW]; exact below_al (below_al bR _) _
 have hsW : W.heap.size ≤ w.heap.size + 2 ∧ w.heap.size + 2 ≤ W.heap.size := by rw [hW]; simp
 have HX : Hid (∀ w', Below W.heap.size W w' → (w'.cell? ⟨w.heap.size, 0, none⟩ = some (.int .i64 x.k) ∧ w'.cell? ⟨w.heap.size, 1, none⟩ = some (.int .u64 x.n) ∧ w'.cell? ⟨w.heap.size, 2, none⟩ = some (.slice a x.b.length c) ∧ w'.cell? ⟨w.heap.size, 3, none⟩ = some (.string ⟨x.s.toArray⟩) ∧ w'.cell? ⟨w.heap.size, 4, none⟩ = some (.slice A x.l.length C))) := fun w' h => by
  have e : ∀ i, W.cell? ⟨w.heap.size, i, none⟩ = (#[.int .i64 x.k, .int .u64 x.n, .slice a x.b.length c, .string ⟨x.s.toArray⟩, .slice A x.l.length C])[i]? := fun i => by
   rw [hW]
   exact ((below_al (Below.refl (w.alloc (.cells #[.int .i64 x.k, .int .u64 x.n, .slice a x.b.length c, .string ⟨x.s.toArray⟩, .slice A x.l.length C] 45)).heap.size (w.alloc (.cells #[.int .i64 x.k, .int .u64 x.n, .slice a x.b.length c, .string ⟨x.s.toArray⟩, .slice A x.l.length C] 45))) _).cell (p := ⟨w.heap.size, i, none⟩) (by simp)).trans (World.cell?_alloc_mark _ _ _ _ _)
  have hh := fun i => (h.cell (p := ⟨w.heap.size, i, none⟩) (show w.heap.size < W.heap.size by omega)).trans (e i)
  exact ⟨hh 0, hh 1, hh 2, hh 3, hh 4⟩
 have HR : Hid (∀ w', Below W.heap.size W w' → (w'.cell? ⟨w.heap.size + 1, 0, none⟩ = some (.int .u32 0) ∧ w'.cell? ⟨w.heap.size + 1, 1, none⟩ = some (.int .u32 0)) ∧ ∀ i, w'.frozen? ⟨w.heap.size + 1, i, none⟩ = false) := fun w' h => by
  have hh := fun i => (h.cell (p := ⟨w.heap.size + 1, i, none⟩) (show w.heap.size + 1 < W.heap.size by omega)).trans (by rw [hW, ← World.size_alloc w (.cells #[.int .i64 x.k, .int .u64 x.n, .slice a x.b.length c, .string ⟨x.s.toArray⟩, .slice A x.l.length C] 45), World.cell?_alloc_mark] : W.cell? ⟨w.heap.size + 1, i, none⟩ = (#[Value.int .u32 0, .int .u32 0])[i]?)
  refine ⟨⟨hh 0, hh 1⟩, fun i => (h.frozen (p := ⟨w.heap.size + 1, i, none⟩) (show w.heap.size + 1 < W.heap.size by omega)).trans ?_⟩
  rw [hW, ← World.size_alloc w (.cells #[.int .i64 x.k, .int .u64 x.n, .slice a x.b.length c, .string ⟨x.s.toArray⟩, .slice A x.l.length C] 45)]
  exact World.frozen?_alloc_new _ _ _ _
 have HW := h_ hW
 have HV := h_ hv
 have HN := h_ hnn
 clear hW hv hnn
 have HBW : Hid (∀ w', Below W.heap.size W w' → Below w.heap.size w w') := fun w' h => HB.out.trans (h.mono HB.out.size)
 have HI0 := h_ (refItemR_any 0 0 (.inr rfl) (by decide) (by decide))
 have F0 : Below W.heap.size W W.drew := bR.drew
 obtain ⟨q1, hq1⟩ : ∃ q, q = x.same (itE 0 0) := ⟨_, rfl⟩
 have HQ1 := h_ hq1
 clear hq1
 have HFAIL : Hid (∀ (w2 : World), Below W.heap.size W w2 → epI x = none → RoP w x (.returned (.tuple #[.agg #[.int .u32 0, .int .u32 0], .bool false])) ((w2.setCell ⟨w.heap.size + 1, 0, none⟩ (.int .u32 0)).setCell ⟨w.heap.size + 1, 1, none⟩ (.int .u32 0))) := fun w2 h he =>
  ⟨((HBW.out _ h).setCell (p := ⟨w.heap.size + 1, 0, none⟩) (Nat.le_succ _) _).setCell (p := ⟨w.heap.size + 1, 1, none⟩) (Nat.le_succ _) _, 0, 0, false, rfl, .inr ⟨rfl, he, rfl, rfl⟩⟩
 go_enter Tryz.func48, Tryz.ntmps48
 go_wp2_with fail
 rw [← HW.out]
 refine wp_region_held_drew (S := fun w' => (w'.cell? ⟨w.heap.size, 0, none⟩ = some (.int .i64 x.k) ∧ w'.cell? ⟨w.heap.size, 1, none⟩ = some (.int .u64 x.n) ∧ w'.cell? ⟨w.heap.size, 2, none⟩ = some (.slice a x.b.length c) ∧ w'.cell? ⟨w.heap.size, 3, none⟩ = some (.string ⟨x.s.toArray⟩) ∧ w'.cell? ⟨w.heap.size, 4, none⟩ = some (.slice A x.l.length C))) (by kernel_rfl) (HX.out _ F0) (fun hHeld => ?_)
 refine nk_take_listed (i := 0) (v := ?_) rfl (by kernel_rfl) (by kernel_rfl) (by kernel_rfl) (fun _ _ _ h => h) (Or.inl ⟨by rfl, ?_⟩) (by assumption) ?_
 rotate_left
 ·intro w hSw; go_simp; all_goals with_reducible rfl
 simp only [Act.put, zA, zB, zC]
 refine nk_take_listed (i := 1) (v := ?_) rfl (by kernel_rfl) (by kernel_rfl) (by kernel_rfl) (fun _ _ _ h => h) (Or.inl ⟨by rfl, ?_⟩) (by assumption) ?_
 rotate_left
 ·intro w hSw; go_simp; all_goals with_reducible rfl
 simp only [Act.put, zA, zB, zC]
 refine wpAnyH_ready (rs := [2]) (by kernel_rfl) (by simp) (.cons rfl (fun K hK => ?_) .nil)
 go_simp
 refine (HI0.out _).mono ?_
 rintro e w1 ⟨ai, ci, Ai, Ci, rfl, hvi, hb1⟩
 have F1 : Below W.heap.size W w1 := below_on F0 hb1
 refine hK.out _ _ (HX.out _ F1) (fun hHeld => ?_)
 clear hK K
 try simp only [Act.put, zA, zB, zC]
 refine wpAnyH_ready (rs := [3]) (by kernel_rfl) (by simp) (.cons rfl (fun K hK => ?_) .nil)
 go_simp
 refine (refSame_any x (itE 0 0) _ _ w1 (HV.out.on (HBW.out _ F1)) hvi).mono ?_
 rintro e w2 ⟨rfl, hb2⟩
 rw [← HQ1.out]
 have F2 : Below W.heap.size W w2 := below_on F1 hb2
 clear hvi
 refine hK.out _ _ (HX.out _ F2) (fun hHeld => ?_)
 clear hK K
 try simp only [Act.put, zA, zB, zC]
 refine wpAnyH_done (by kernel_rfl) ?_ _
 have HF2 := h_ F2
 clear F0 F1 F2 hHeld
 cases q1
 rotate_left
 ·obtain ⟨⟨r0, r1⟩, rf⟩ := HR.out w2 HF2.out
  have f0 := rf 0
  have f1 := rf 1
  go_wp2_with fail
  obtain ⟨s0, s1⟩ := put2 (.int .u32 0) (.int .u32 0) r0 r1
  have HB5 := h_ (((HBW.out _ HF2.out).setCell (p := ⟨w.heap.size + 1, 0, none⟩) (Nat.le_succ _) (.int .u32 0)).setCell (p := ⟨w.heap.size + 1, 1, none⟩) (Nat.le_succ _) (.int .u32 0))
  refine bodyPost_ret (v := .tuple #[.agg #[.int .u32 0, .int .u32 0], .bool true]) (by simp [results, Tryz.results48, go_sem, s0, s1]) rfl ⟨HB5.out, 0, 0, true, rfl, .inl ⟨rfl, ?_⟩⟩
  rw [(It.same_iff _ _).1 HQ1.out.symm]
  exact epI_itE 0 0 (.inr rfl) (by decide) (by decide)
 have HNE : Hid (x ≠ itE 0 0) := fun h => by
  have := HQ1.out
  rw [h, same_self] at this
  cases this
 have HNO : Hid ((∀ n m : Nat, 0 < n → n ≤ 4294967295 → m ≤ 4294967295 → x ≠ itLs [itU 2, itLs [itU n, itU m]]) → epI x = none) := fun h => epI_none HN.out HNE.out h
 clear HQ1
 obtain ⟨x0, x1, x2, x3, x4⟩ := HX.out w2 HF2.out
 obtain ⟨sh1, hsh1⟩ : ∃ q, q = shapeB x [1, 4] := ⟨_, rfl⟩
 have HSH1 := h_ hsh1
 clear hsh1
 go_wp2_with fail
 obtain ⟨W3, hW3⟩ : ∃ W', W' = w2.alloc (.cells #[.int .i64 1, .int .i64 4] 3) := ⟨_, rfl⟩
 have HF3 : Hid (Below W.heap.size W W3) := by rw [hW3]; exact below_al HF2.out _
 have HRK : Hid (NkK W3 w2.heap.size [1, 4]) := by rw [hW3]; exact rdK_two w2 _ 1 4 _ bR
 rw [← hW3]
 clear hW3 x0 x1 x2 x3 x4
 refine (shape_ref x _ w2.heap.size 2 2 [1, 4] rfl (by decide) W3 (HV.out.on (HBW.out _ HF3.out)) HRK.out).mono ?_
 rintro e w4 ⟨rfl, hb⟩
 rw [← HSH1.out]
 have HF4 : Hid (Below W.heap.size W w4) := below_on HF3.out hb
 clear hb
 cases sh1
 ·obtain ⟨⟨r0, r1⟩, rf⟩ := HR.out w4 HF4.out
  have f0 := rf 0
  have f1 := rf 1
  go_wp2_with fail
  obtain ⟨s0, s1⟩ := put2 (.int .u32 0) (.int .u32 0) r0 r1
  refine bodyPost_ret (v := .tuple #[.agg #[.int .u32 0, .int .u32 0], .bool false]) (by simp [results, Tryz.results48, go_sem, s0, s1]) rfl (HFAIL.out w4 HF4.out (HNO.out fun n m h1 h2 h3 he => ?_))
  have := HSH1.out
  rw [he] at this
  cases this
 have hsx := shapeB_iff.1 HSH1.out.symm
 have hk4 := hsx.1
 obtain ⟨y0, y1, hxl, hy0, hy1⟩ : ∃ y0 y1, x.l = [y0, y1] ∧ y0.k = 1 ∧ y1.k = 4 := by
  have h := hsx.2
  have h2 : x.l.length = 2 := by have := congrArg List.length h; simpa using this
  match hl : x.l, h2, h with
  | [y0, y1], _, h =>
   simp only [List.map_cons, List.map_nil, List.cons.injEq, and_true] at h
   exact ⟨y0, y1, rfl, h.1, h.2⟩
 have HXL := h_ hxl
 have HK4 := h_ hk4
 have HY1 := h_ hy1
 clear hsx hk4 hxl hy0 hy1
 obtain ⟨bq, hbq⟩ : ∃ q, q = nmBareB x := ⟨_, rfl⟩
 have HBQ := h_ hbq
 clear hbq
 obtain ⟨x0, x1, x2, x3, x4⟩ := HX.out w4 HF4.out
 go_wp2_with fail
 refine (bare_ref x _ w4 HK4.out (HV.out.on (HBW.out _ HF4.out))).mono ?_
 rintro e w5 ⟨rfl, hb⟩
 rw [← HBQ.out]
 have HF5 : Hid (Below W.heap.size W w5) := below_on HF4.out hb
 clear hb x0 x1 x2 x3 x4
 cases bq
 ·obtain ⟨⟨r0, r1⟩, rf⟩ := HR.out w5 HF5.out
  have f0 := rf 0
  have f1 := rf 1
  go_wp2_with fail
  obtain ⟨s0, s1⟩ := put2 (.int .u32 0) (.int .u32 0) r0 r1
  refine bodyPost_ret (v := .tuple #[.agg #[.int .u32 0, .int .u32 0], .bool false]) (by simp [results, Tryz.results48, go_sem, s0, s1]) rfl (HFAIL.out w5 HF5.out (HNO.out fun n m h1 h2 h3 he => ?_))
  have := HBQ.out
  rw [he] at this
  cases this
 obtain ⟨g, o, a0, c0, A0, C0, a1, c1, A1, C1, rfl, hpair⟩ := HV.out.pair HXL.out
 have HPR := h_ hpair
 have hlen : x.l.length = 2 := by rw [HXL.out]; rfl
 obtain ⟨x0, x1, x2, x3, x4⟩ := HX.out w5 HF5.out
 obtain ⟨-, -, e0, e1, e2, e3, e4⟩ := HPR.out w5 (HBW.out _ HF5.out)
 obtain ⟨sh2, hsh2⟩ : ∃ q, q = shapeB y1 [1, 1] := ⟨_, rfl⟩
 have HSH2 := h_ hsh2
 have HLEN := h_ hlen
 rw [hlen] at x4
 clear hsh2 hpair
 go_wp2_with fail
 obtain ⟨W6, hW6⟩ : ∃ W', W' = w5.alloc (.cells #[.int .i64 1, .int .i64 1] 3) := ⟨_, rfl⟩
 have HF6 : Hid (Below W.heap.size W W6) := by rw [hW6]; exact below_al HF5.out _
 have HRK2 : Hid (NkK W6 w5.heap.size [1, 1]) := by rw [hW6]; exact rdK_two w5 _ 1 1 _ bR
 rw [← hW6]
 clear hW6 x0 x1 x2 x3 x4 e0 e1 e2 e3 e4
 refine (shape_ref y1 _ w5.heap.size 2 2 [1, 1] rfl (by decide) W6 (ItV.mono (HBW.out _ HF6.out).size _ (HPR.out W6 (HBW.out _ HF6.out)).1.2) HRK2.out).mono ?_
 rintro e w7 ⟨rfl, hb⟩
 rw [← HSH2.out]
 have HF7 : Hid (Below W.heap.size W w7) := below_on HF6.out hb
 clear hb
 cases sh2
 ·obtain ⟨⟨r0, r1⟩, rf⟩ := HR.out w7 HF7.out
  have f0 := rf 0
  have f1 := rf 1
  go_wp2_with fail
  obtain ⟨s0, s1⟩ := put2 (.int .u32 0) (.int .u32 0) r0 r1
  refine bodyPost_ret (v := .tuple #[.agg #[.int .u32 0, .int .u32 0], .bool false]) (by simp [results, Tryz.results48, go_sem, s0, s1]) rfl (HFAIL.out w7 HF7.out (HNO.out fun n m h1 h2 h3 he => ?_))
  have h5 := HXL.out
  rw [he] at h5
  have h6 : y1 = itLs [itU n, itU m] := by
   simp only [itLs, It.l, List.cons.injEq, and_true] at h5
   exact h5.2.symm
  have := HSH2.out
  rw [h6] at this
  cases this
 obtain ⟨z0, z1, hyl⟩ : ∃ z0 z1, y1.l = [z0, z1] := by
  have h := (shapeB_iff.1 HSH2.out.symm).2
  have h2 : y1.l.length = 2 := by have := congrArg List.length h; simpa using this
  match hl : y1.l, h2 with
  | [z0, z1], _ => exact ⟨z0, z1, rfl⟩
 obtain ⟨g2, o2, a2, c2, A2, C2, a3, c3, A3, C3, rfl, hpair2⟩ := (HPR.out w bR).1.2.pair hyl
 have HPR2 := h_ hpair2
 have HYL := h_ hyl
 have hlen2 : y1.l.length = 2 := by rw [hyl]; rfl
 have hm0 : 0 ≤ z0.n := (HN.out.2 y1 (by rw [HXL.out]; simp)).2 z0 (by rw [hyl]; simp)
 have hm1 : 0 ≤ z1.n := (HN.out.2 y1 (by rw [HXL.out]; simp)).2 z1 (by rw [hyl]; simp)
 obtain ⟨n, hzn⟩ := Int.eq_ofNat_of_zero_le hm0
 obtain ⟨m, hzm⟩ := Int.eq_ofNat_of_zero_le hm1
 have HZN := h_ hzn
 have HZM := h_ hzm
 have HS5 : Hid (∀ w', Below w.heap.size w w' → Below W.heap.size W w' → (w'.cell? ⟨w.heap.size, 4, none⟩ = some (.slice (some ⟨g, o, none⟩) 2 C) ∧ w'.cell? ⟨g, o + 5 + 4, none⟩ = some (.slice (some ⟨g2, o2, none⟩) 2 C1)) ∧ (w'.cell? ⟨g2, o2 + 1, none⟩ = some (.int .u64 n) ∧ w'.cell? ⟨g2, o2 + 5 + 1, none⟩ = some (.int .u64 m))) := fun w' h1 h2 => by
  have b1 := (HX.out w' h2).2.2.2.2
  rw [hlen] at b1
  have b2 := (HPR.out w' h1).2.2.2.2.2.2
  rw [hlen2] at b2
  have b3 := (HPR2.out w' h1).2.1.2.1
  have b4 := (HPR2.out w' h1).2.2.2.1
  rw [hzn] at b3
  rw [hzm] at b4
  exact ⟨⟨b1, b2⟩, b3, b4⟩
 clear hlen hlen2 hyl hpair2 hm0 hm1 hzn hzm
 have F0 : Below W.heap.size W w7.drew := HF7.out.drew
 go_wp2_with fail
 go_region_held3 (fun w' => (w'.cell? ⟨w.heap.size, 4, none⟩ = some (.slice (some ⟨g, o, none⟩) 2 C) ∧ w'.cell? ⟨g, o + 5 + 4, none⟩ = some (.slice (some ⟨g2, o2, none⟩) 2 C1)) ∧ (w'.cell? ⟨g2, o2 + 1, none⟩ = some (.int .u64 n) ∧ w'.cell? ⟨g2, o2 + 5 + 1, none⟩ = some (.int .u64 m)))
  (first | (refine HS5.out _ (HBW.out _ ?_) ?_ <;> with_reducible exact F0))
  (first | fail)
 rename_i hHeld
 have HF8 := h_ F0
 generalize w7.drew = w8 at HF8
 clear hHeld F0
 have HBAD : Hid (¬ (0 < n ∧ n ≤ 4294967295 ∧ m ≤ 4294967295 ∧ x = itE n m) → epI x = none) := fun hbad => HNO.out fun n' m' h1 h2 h3 he => by
  have h5 := HXL.out
  rw [he] at h5
  have h6 : y1 = itLs [itU n', itU m'] := by
   simp only [itLs, It.l, List.cons.injEq, and_true] at h5
   exact h5.2.symm
  have h7 := HYL.out
  rw [h6] at h7
  simp only [itLs, It.l, List.cons.injEq, and_true] at h7
  have h8 := HZN.out
  have h9 := HZM.out
  rw [← h7.1] at h8
  rw [← h7.2] at h9
  have e1 : (n' : Int) = (n : Int) := h8
  have e2 : (m' : Int) = (m : Int) := h9
  obtain rfl : n' = n := by omega
  obtain rfl : m' = m := by omega
  exact hbad ⟨h1, h2, h3, by rw [he, itE, if_neg (by omega)]⟩
 by_cases hn0 : n = 0
 ·subst hn0
  obtain ⟨⟨r0, r1⟩, rf⟩ := HR.out w8 HF8.out
  have f0 := rf 0
  have f1 := rf 1
  go_wp2_with fail
  obtain ⟨s0, s1⟩ := put2 (.int .u32 0) (.int .u32 0) r0 r1
  refine bodyPost_ret (v := .tuple #[.agg #[.int .u32 0, .int .u32 0], .bool false]) (by simp [results, Tryz.results48, go_sem, s0, s1]) rfl (HFAIL.out w8 HF8.out (HBAD.out (by omega)))
 have hn1 : ¬ (n : Int) < 1 := by omega
 by_cases hn2 : n ≤ 4294967295
 rotate_left
 ·have hn2' : (4294967295 : Int) < (n : Int) := by omega
  have HNB := h_ hn2
  clear hn2
  obtain ⟨⟨r0, r1⟩, rf⟩ := HR.out w8 HF8.out
  have f0 := rf 0
  have f1 := rf 1
  go_wp2_with fail
  obtain ⟨s0, s1⟩ := put2 (.int .u32 0) (.int .u32 0) r0 r1
  refine bodyPost_ret (v := .tuple #[.agg #[.int .u32 0, .int .u32 0], .bool false]) (by simp [results, Tryz.results48, go_sem, s0, s1]) rfl (HFAIL.out w8 HF8.out (HBAD.out (fun h => HNB.out h.2.1)))
 have hn2' : ¬ (4294967295 : Int) < (n : Int) := by omega
 by_cases hm2 : m ≤ 4294967295
 rotate_left
 ·have hm2' : (4294967295 : Int) < (m : Int) := by omega
  have HNB := h_ hm2
  clear hm2
  obtain ⟨⟨r0, r1⟩, rf⟩ := HR.out w8 HF8.out
  have f0 := rf 0
  have f1 := rf 1
  go_wp2_with fail
  obtain ⟨s0, s1⟩ := put2 (.int .u32 0) (.int .u32 0) r0 r1
  refine bodyPost_ret (v := .tuple #[.agg #[.int .u32 0, .int .u32 0], .bool false]) (by simp [results, Tryz.results48, go_sem, s0, s1]) rfl (HFAIL.out w8 HF8.out (HBAD.out (fun h => HNB.out h.2.2.1)))
 have hm2' : ¬ (4294967295 : Int) < (m : Int) := by omega
 have hwn : IntKind.u32.wrap (n : Int) = (n : Int) := by rw [IntKind.wrap_u32]; omega
 have hwm : IntKind.u32.wrap (m : Int) = (m : Int) := by rw [IntKind.wrap_u32]; omega
 have HIn := h_ (refItemR_any n m (.inl (by omega)) hn2 hm2)
 obtain ⟨q2, hq2⟩ : ∃ q, q = x.same (itE n m) := ⟨_, rfl⟩
 have HQ2 := h_ hq2
 have HVAL : Hid ((0 < n ∧ n ≤ 4294967295) ∧ m ≤ 4294967295) := ⟨⟨by omega, hn2⟩, hm2⟩
 clear hq2 hn0 hn2 hm2
 obtain ⟨W9, hW9⟩ : ∃ W', W' = w8.alloc (.cells #[.int .u32 n, .int .u32 m] 27) := ⟨_, rfl⟩
 have HF9 : Hid (Below W.heap.size W W9) := by rw [hW9]; exact below_al HF8.out _
 have HY9 : Hid (∀ w', Below W9.heap.size W9 w' → w'.cell? ⟨w8.heap.size, 0, none⟩ = some (.int .u32 n) ∧ w'.cell? ⟨w8.heap.size, 1, none⟩ = some (.int .u32 m)) := by
  rw [hW9]
  exact fun w' h => box2_all h
 have HW9 := h_ hW9
 clear hW9
 have HC9 : Hid (∀ w', Below W9.heap.size W9 w' → (w'.cell? ⟨w.heap.size, 0, none⟩ = some (.int .i64 x.k) ∧ w'.cell? ⟨w.heap.size, 1, none⟩ = some (.int .u64 x.n) ∧ w'.cell? ⟨w.heap.size, 2, none⟩ = some (.slice a x.b.length c) ∧ w'.cell? ⟨w.heap.size, 3, none⟩ = some (.string ⟨x.s.toArray⟩) ∧ w'.cell? ⟨w.heap.size, 4, none⟩ = some (.slice (some ⟨g, o, none⟩) x.l.length C)) ∧ (w'.cell? ⟨w8.heap.size, 0, none⟩ = some (.int .u32 n) ∧ w'.cell? ⟨w8.heap.size, 1, none⟩ = some (.int .u32 m))) := fun w' h => ⟨HX.out w' (below_on HF9.out h), HY9.out w' h⟩
 have F0 : Below W9.heap.size W9 W9.drew := bR.drew
 go_wp2_with fail
 rw [← HW9.out]
 refine wp_region_held_drew (S := fun w' => (w'.cell? ⟨w.heap.size, 0, none⟩ = some (.int .i64 x.k) ∧ w'.cell? ⟨w.heap.size, 1, none⟩ = some (.int .u64 x.n) ∧ w'.cell? ⟨w.heap.size, 2, none⟩ = some (.slice a x.b.length c) ∧ w'.cell? ⟨w.heap.size, 3, none⟩ = some (.string ⟨x.s.toArray⟩) ∧ w'.cell? ⟨w.heap.size, 4, none⟩ = some (.slice (some ⟨g, o, none⟩) x.l.length C)) ∧ (w'.cell? ⟨w8.heap.size, 0, none⟩ = some (.int .u32 n) ∧ w'.cell? ⟨w8.heap.size, 1, none⟩ = some (.int .u32 m))) (by kernel_rfl) (HC9.out _ F0) (fun hHeld => ?_)
 refine nk_take_listed (i := 0) (v := ?_) rfl (by kernel_rfl) (by kernel_rfl) (by kernel_rfl) (fun _ _ _ h => h) (Or.inl ⟨by rfl, ?_⟩) (by assumption) ?_
 rotate_left
 ·intro w hSw; go_simp; all_goals with_reducible rfl
 simp only [Act.put, zA, zB, zC]
 refine nk_take_listed (i := 1) (v := ?_) rfl (by kernel_rfl) (by kernel_rfl) (by kernel_rfl) (fun _ _ _ h => h) (Or.inl ⟨by rfl, ?_⟩) (by assumption) ?_
 rotate_left
 ·intro w hSw; go_simp; all_goals with_reducible rfl
 simp only [Act.put, zA, zB, zC]
 refine wpAnyH_ready (rs := [2]) (by kernel_rfl) (by simp) (.cons rfl (fun K hK => ?_) .nil)
 go_simp
 refine (HIn.out _).mono ?_
 rintro e w10 ⟨ai, ci, Ai, Ci, rfl, hvi, hb1⟩
 have F1 : Below W9.heap.size W9 w10 := below_on F0 hb1
 refine hK.out _ _ (HC9.out _ F1) (fun hHeld => ?_)
 clear hK K
 try simp only [Act.put, zA, zB, zC]
 refine wpAnyH_ready (rs := [3]) (by kernel_rfl) (by simp) (.cons rfl (fun K hK => ?_) .nil)
 go_simp
 refine (refSame_any x (itE n m) _ _ w10 (HV.out.on (HBW.out _ (below_on HF9.out F1))) hvi).mono ?_
 rintro e w11 ⟨rfl, hb2⟩
 rw [← HQ2.out]
 have F2 : Below W9.heap.size W9 w11 := below_on F1 hb2
 clear hvi
 refine hK.out _ _ (HC9.out _ F2) (fun hHeld => ?_)
 clear hK K
 try simp only [Act.put, zA, zB, zC]
 refine nk_take_listed (i := 4) (v := ?_) rfl (by kernel_rfl) (by kernel_rfl) (by kernel_rfl) (fun _ _ _ h => h) (Or.inl ⟨by rfl, ?_⟩) (by assumption) ?_
 rotate_left
 ·intro w hSw; go_simp; all_goals with_reducible rfl
 simp only [Act.put, zA, zB, zC]
 refine wpAnyH_done (by kernel_rfl) ?_ _
 have HF11 := h_ (below_on HF9.out F2)
 obtain ⟨y0, y1⟩ := HY9.out _ F2
 clear F0 F1 F2 hHeld
 cases q2
 ·obtain ⟨⟨r0, r1⟩, rf⟩ := HR.out w11 HF11.out
  have f0 := rf 0
  have f1 := rf 1
  go_wp2_with fail
  obtain ⟨s0, s1⟩ := put2 (.int .u32 0) (.int .u32 0) r0 r1
  refine bodyPost_ret (v := .tuple #[.agg #[.int .u32 0, .int .u32 0], .bool false]) (by simp [results, Tryz.results48, go_sem, s0, s1]) rfl (HFAIL.out w11 HF11.out (HBAD.out (fun h => by have h5 := HQ2.out; rw [← h.2.2.2, same_self] at h5; cases h5)))
 ·obtain ⟨⟨r0, r1⟩, rf⟩ := HR.out w11 HF11.out
  have f0 := rf 0
  have f1 := rf 1
  go_wp2_with fail
  obtain ⟨s0, s1⟩ := put2 (.int .u32 (n : Int)) (.int .u32 (m : Int)) r0 r1
  have HB5 := h_ (((HBW.out _ HF11.out).setCell (p := ⟨w.heap.size + 1, 0, none⟩) (Nat.le_succ _) (.int .u32 (n : Int))).setCell (p := ⟨w.heap.size + 1, 1, none⟩) (Nat.le_succ _) (.int .u32 (m : Int)))
  refine bodyPost_ret (v := .tuple #[.agg #[.int .u32 n, .int .u32 m], .bool true]) (by simp [results, Tryz.results48, go_sem, s0, s1]) rfl ⟨HB5.out, n, m, true, rfl, .inl ⟨rfl, ?_⟩⟩
  rw [(It.same_iff _ _).1 HQ2.out.symm]
  exact epI_itE n m (.inl HVAL.out.1.1) HVAL.out.1.2 HVAL.out.2

end Go.Proofs.YteldifnkeekafaaGreatDoor
