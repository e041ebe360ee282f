/- Joined texts. -/
import Derived.Test.YthjgjkohogjjpaaGreatDoorZKm
set_option maxHeartbeats 8000000
set_option linter.unusedSimpArgs false
set_option linter.unusedVariables false
set_option maxRecDepth 100000
namespace Go.Proofs.YthjgjkohogjjpaaGreatDoor
open Go Go.RowKit Go.Shelf

def nmZ (y0 y1 y2 : It) : Option (Nat × Nat × Nat × Nat) := match epI y0, nuN y1, nuN y2 with
 | some (n, m), some t, some q => if nmB n t q = true then some (n, m, t, q) else none
 | _, _, _ => none
def nmI (x : It) : Option (Nat × Nat × Nat × Nat) := if shL x 3 = true then (match x.l with
 | [y0, y1, y2] => nmZ y0 y1 y2
 | _ => none) else none

theorem nmI_sh {x : It} (h : shL x 3 = false) : nmI x = none := by rw [nmI, h, if_neg (by simp)]
theorem nmI_three {x y0 y1 y2 : It} (h : shL x 3 = true) (hl : x.l = [y0, y1, y2]) : nmI x = nmZ y0 y1 y2 := by rw [nmI, h, if_pos rfl, hl]

theorem shL_three {x : It} (h : shL x 3 = true) : ∃ y0 y1 y2, x.l = [y0, y1, y2] := by
 have h1 : x.l.length = 3 := by
  simp only [shL, Bool.and_eq_true, decide_eq_true_eq] at h
  exact h.1
 match hl : x.l, h1 with
 | [y0, y1, y2], _ => exact ⟨y0, y1, y2, rfl⟩

theorem namedD_any (n m t q : Nat) (w : World) :
  Calls Tryz.prog 160 #[.agg #[.int .u32 n, .int .u32 m], .int .u64 t, .int .u64 q] w fun e w' => Below w.heap.size w w' ∧ ((e = .returned (.agg #[.int .u32 n, .int .u32 m, .int .u64 t, .int .u32 q]) ∧ nmB n t q = true) ∨ (e = .panicked [{ v := .iface 32 (.int .i64 130), recovered := false }] ∧ nmB n t q = false)) := by
 by_cases h : q ≤ 4294967295
 ·refine (ncNamed_any n m t q h w).mono ?_
  rintro e w' ⟨he, hb⟩
  refine ⟨hb, ?_⟩
  cases hk : nmB n t q
  ·rw [hk] at he
   exact .inr ⟨he, rfl⟩
  ·rw [hk] at he
   exact .inl ⟨he, rfl⟩
 ·refine (named_short n m t q h w).mono ?_
  rintro e w' ⟨he, hb⟩
  exact ⟨hb, .inr ⟨he, by simp [nmB, h]⟩⟩

def NnP (w : World) (x : It) (e : Ending) (w' : World) : Prop := Below w.heap.size w w' ∧ ((∃ n m t q : Nat, e = .returned (.agg #[.int .u32 n, .int .u32 m, .int .u64 t, .int .u32 q]) ∧ nmI x = some (n, m, t, q)) ∨ (e = .panicked [{ v := .iface 32 (.int .i64 130), recovered := false }] ∧ nmI x = none))

theorem ItL.cellsAt {w : World} {B g : Nat} {l : List It} {o i : Nat} {y : It} (hL : ItL w B g o l) (hg : g < B) (hi : l[i]? = some y) : ∃ a0 c0 A0 C0, ∀ w', Below B w w' → ItV w' B (.agg #[.int .i64 y.k, .int .u64 y.n, .slice a0 y.b.length c0, .string ⟨y.s.toArray⟩, .slice A0 y.l.length C0]) y ∧ (w'.cell? ⟨g, o + i * 5, none⟩ = some (.int .i64 y.k) ∧ w'.cell? ⟨g, o + i * 5 + 1, none⟩ = some (.int .u64 y.n) ∧ w'.cell? ⟨g, o + i * 5 + 2, none⟩ = some (.slice a0 y.b.length c0) ∧ w'.cell? ⟨g, o + i * 5 + 3, none⟩ = some (.string ⟨y.s.toArray⟩) ∧ w'.cell? ⟨g, o + i * 5 + 4, none⟩ = some (.slice A0 y.l.length C0)) := by
 obtain ⟨v0, p0, q0⟩ := ItL.at hL hi
 obtain ⟨a0, c0, A0, C0, rfl⟩ := q0.form
 refine ⟨a0, c0, A0, C0, fun w' hb => ⟨ItV.below hb _ q0, ?_⟩⟩
 obtain ⟨u0, u1, u2, u3, u4, e, h0, h1, h2, h3, h4⟩ := p0.below hb hg
 injection e with e
 have e' := congrArg Array.toList e
 simp only [List.cons.injEq, and_true] at e'
 obtain ⟨rfl, rfl, rfl, rfl, rfl⟩ := e'
 exact ⟨h0, h1, h2, h3, h4⟩

theorem ItV.triple {w : World} {B : Nat} {x y0 y1 y2 : It} {a A : Option Addr} {c C : Nat} (h : ItV w B (.agg #[.int .i64 x.k, .int .u64 x.n, .slice a x.b.length c, .string ⟨x.s.toArray⟩, .slice A x.l.length C]) x) (hl : x.l = [y0, y1, y2]) : ∃ g o a0 c0 A0 C0 a1 c1 A1 C1 a2 c2 A2 C2, A = some ⟨g, o, none⟩ ∧ ∀ w', Below B w w' →
  (ItV w' B (.agg #[.int .i64 y0.k, .int .u64 y0.n, .slice a0 y0.b.length c0, .string ⟨y0.s.toArray⟩, .slice A0 y0.l.length C0]) y0 ∧ ItV w' B (.agg #[.int .i64 y1.k, .int .u64 y1.n, .slice a1 y1.b.length c1, .string ⟨y1.s.toArray⟩, .slice A1 y1.l.length C1]) y1 ∧ ItV w' B (.agg #[.int .i64 y2.k, .int .u64 y2.n, .slice a2 y2.b.length c2, .string ⟨y2.s.toArray⟩, .slice A2 y2.l.length C2]) y2) ∧ (w'.cell? ⟨g, o, none⟩ = some (.int .i64 y0.k) ∧ w'.cell? ⟨g, o + 1, none⟩ = some (.int .u64 y0.n) ∧ w'.cell? ⟨g, o + 2, none⟩ = some (.slice a0 y0.b.length c0) ∧ w'.cell? ⟨g, o + 3, none⟩ = some (.string ⟨y0.s.toArray⟩) ∧ w'.cell? ⟨g, o + 4, none⟩ = some (.slice A0 y0.l.length C0)) ∧ (w'.cell? ⟨g, o + 5, none⟩ = some (.int .i64 y1.k) ∧ w'.cell? ⟨g, o + 5 + 1, none⟩ = some (.int .u64 y1.n) ∧ w'.cell? ⟨g, o + 5 + 2, none⟩ = some (.slice a1 y1.b.length c1) ∧ w'.cell? ⟨g, o + 5 + 3, none⟩ = some (.string ⟨y1.s.toArray⟩) ∧ w'.cell? ⟨g, o + 5 + 4, none⟩ = some (.slice A1 y1.l.length C1)) ∧ (w'.cell? ⟨g, o + 10, none⟩ = some (.int .i64 y2.k) ∧ w'.cell? ⟨g, o + 10 + 1, none⟩ = some (.int .u64 y2.n) ∧ w'.cell? ⟨g, o + 10 + 2, none⟩ = some (.slice a2 y2.b.length c2) ∧ w'.cell? ⟨g, o + 10 + 3, none⟩ = some (.string ⟨y2.s.toArray⟩) ∧ w'.cell? ⟨g, o + 10 + 4, none⟩ = some (.slice A2 y2.l.length C2)) := by
 obtain ⟨hl2, _⟩ := h.list
 rw [hl] at hl2
 rcases hl2 with h0 | ⟨g, o, rfl, hg, hL⟩
 ·cases h0
 ·obtain ⟨a0, c0, A0, C0, k0⟩ := hL.cellsAt hg (i := 0) (y := y0) rfl
  obtain ⟨a1, c1, A1, C1, k1⟩ := hL.cellsAt hg (i := 1) (y := y1) rfl
  obtain ⟨a2, c2, A2, C2, k2⟩ := hL.cellsAt hg (i := 2) (y := y2) rfl
  simp only [Nat.zero_mul, Nat.add_zero] at k0
  simp only [Nat.one_mul] at k1
  simp only [Nat.reduceMul] at k2
  exact ⟨g, o, a0, c0, A0, C0, a1, c1, A1, C1, a2, c2, A2, C2, rfl, fun w' hb => ⟨⟨(k0 w' hb).1, (k1 w' hb).1, (k2 w' hb).1⟩, (k0 w' hb).2, (k1 w' hb).2, (k2 w' hb).2⟩⟩

theorem nameOf_any (x : It) (v : Value) (w : World) (hd : x.depth ≤ 60000) (hv : ItV w w.heap.size v x) : Calls Tryz.prog 150 #[v] w (NnP w x) := by
 obtain ⟨a, c, A, C, rfl⟩ := hv.form
 obtain ⟨W, hW⟩ : ∃ W, W = (w.alloc (.cells #[.int .i64 x.k, .int .u64 x.n, .slice a x.b.length c, .string ⟨x.s.toArray⟩, .slice A x.l.length C] 51)).alloc (.cells #[.int .u32 0, .int .u32 0, .int .u64 0, .int .u32 0] 28) := ⟨_, rfl⟩
 have HB : Hid (Below w.heap.size w W) := by rw [hW]; exact below_al (below_al bR _) _
 have hsW : W.heap.size ≤ w.heap.size + 2 ∧ w.heap.size + 2 ≤ W.heap.size := by rw [hW]; simp
 have HX : Hid (∀ w', Below W.heap.size W w' → (w'.cell? ⟨w.heap.size, 0, none⟩ = some (.int .i64 x.k) ∧ w'.cell? ⟨w.heap.size, 1, none⟩ = some (.int .u64 x.n) ∧ w'.cell? ⟨w.heap.size, 2, none⟩ = some (.slice a x.b.length c) ∧ w'.cell? ⟨w.heap.size, 3, none⟩ = some (.string ⟨x.s.toArray⟩) ∧ w'.cell? ⟨w.heap.size, 4, none⟩ = some (.slice A x.l.length C))) := fun w' h => by
  have e : ∀ i, W.cell? ⟨w.heap.size, i, none⟩ = (#[.int .i64 x.k, .int .u64 x.n, .slice a x.b.length c, .string ⟨x.s.toArray⟩, .slice A x.l.length C])[i]? := fun i => by
   rw [hW]
   exact ((below_al (Below.refl (w.alloc (.cells #[.int .i64 x.k, .int .u64 x.n, .slice a x.b.length c, .string ⟨x.s.toArray⟩, .slice A x.l.length C] 51)).heap.size (w.alloc (.cells #[.int .i64 x.k, .int .u64 x.n, .slice a x.b.length c, .string ⟨x.s.toArray⟩, .slice A x.l.length C] 51))) _).cell (p := ⟨w.heap.size, i, none⟩) (by simp)).trans (World.cell?_alloc_mark _ _ _ _ _)
  have hh := fun i => (h.cell (p := ⟨w.heap.size, i, none⟩) (show w.heap.size < W.heap.size by omega)).trans (e i)
  exact ⟨hh 0, hh 1, hh 2, hh 3, hh 4⟩
 have HR : Hid (∀ w', Below W.heap.size W w' → (w'.cell? ⟨w.heap.size + 1, 0, none⟩ = some (.int .u32 0) ∧ w'.cell? ⟨w.heap.size + 1, 1, none⟩ = some (.int .u32 0) ∧ w'.cell? ⟨w.heap.size + 1, 2, none⟩ = some (.int .u64 0) ∧ w'.cell? ⟨w.heap.size + 1, 3, none⟩ = some (.int .u32 0)) ∧ ∀ i, w'.frozen? ⟨w.heap.size + 1, i, none⟩ = false) := fun w' h => by
  have hh := fun i => (h.cell (p := ⟨w.heap.size + 1, i, none⟩) (show w.heap.size + 1 < W.heap.size by omega)).trans (by rw [hW, ← World.size_alloc w (.cells #[.int .i64 x.k, .int .u64 x.n, .slice a x.b.length c, .string ⟨x.s.toArray⟩, .slice A x.l.length C] 51), World.cell?_alloc_mark] : W.cell? ⟨w.heap.size + 1, i, none⟩ = (#[Value.int .u32 0, .int .u32 0, .int .u64 0, .int .u32 0])[i]?)
  refine ⟨⟨hh 0, hh 1, hh 2, hh 3⟩, fun i => (h.frozen (p := ⟨w.heap.size + 1, i, none⟩) (show w.heap.size + 1 < W.heap.size by omega)).trans ?_⟩
  rw [hW, ← World.size_alloc w (.cells #[.int .i64 x.k, .int .u64 x.n, .slice a x.b.length c, .string ⟨x.s.toArray⟩, .slice A x.l.length C] 51)]
  exact World.frozen?_alloc_new _ _ _ _
 have HP : Hid (∀ (W0 : World) (w' : World), Below (W0.alloc (.cells #[.int .i64 3] 3)).heap.size (W0.alloc (.cells #[.int .i64 3] 3)) w' → w'.cell? ⟨W0.heap.size, 0, none⟩ = some (.int .i64 ((3 : Nat) : Int))) := fun W0 w' h => by
  refine (h.cell (p := ⟨W0.heap.size, 0, none⟩) (by simp)).trans ?_
  simp
 have HW := h_ hW
 have HD := h_ hd
 have HV := h_ hv
 clear hW hd hv
 have F0 : Below W.heap.size W W.drew := bR.drew
 go_enter Tryz.func150, Tryz.ntmps150
 go_wp2_with fail
 rw [← HW.out]
 refine wp_region_held_drew (S := fun w' => (w'.cell? ⟨w.heap.size, 0, none⟩ = some (.int .i64 x.k) ∧ w'.cell? ⟨w.heap.size, 1, none⟩ = some (.int .u64 x.n) ∧ w'.cell? ⟨w.heap.size, 2, none⟩ = some (.slice a x.b.length c) ∧ w'.cell? ⟨w.heap.size, 3, none⟩ = some (.string ⟨x.s.toArray⟩) ∧ w'.cell? ⟨w.heap.size, 4, none⟩ = some (.slice A x.l.length C))) (by kernel_rfl) (HX.out _ F0) (fun hHeld => ?_)
 refine nk_take_listed (i := 1) (v := ?_) rfl (by kernel_rfl) (by kernel_rfl) (by kernel_rfl) (fun _ _ _ h => h) (Or.inl ⟨by rfl, ?_⟩) (by assumption) ?_
 rotate_left
 ·intro w hSw; (try dsimp only at hSw); go_simp; all_goals with_reducible rfl
 simp only [Act.put, zA, zB, zC]
 refine wpAnyH_ready (rs := [0]) (by kernel_rfl) (by simp) (.cons rfl (fun K hK => ?_) .nil)
 go_simp
 refine (shape_any 3 _).mono ?_
 rintro e w1 ⟨rfl, hw1⟩
 have F1 : Below W.heap.size W w1 := by rw [hw1]; exact below_al F0 _
 have HP1 : Hid (∀ w', Below w1.heap.size w1 w' → w'.cell? ⟨W.drew.heap.size, 0, none⟩ = some (.int .i64 ((3 : Nat) : Int))) := by rw [hw1]; exact HP.out _
 clear hw1
 refine hK.out _ _ (HX.out _ F1) (fun hHeld => ?_)
 clear hK K
 try simp only [Act.put, zA, zB, zC]
 refine wpAnyH_ready (rs := [2]) (by kernel_rfl) (by simp) (.cons rfl (fun K hK => ?_) .nil)
 go_simp
 refine (shape1_any x a A c C W.drew.heap.size 3 w1 (by decide) (HV.out.on (HB.out.trans (F1.mono HB.out.size))) (HP1.out w1 bR)).mono ?_
 rintro e w2 ⟨hb2, ⟨rfl, hsh⟩ | ⟨rfl, hsh⟩⟩
 rotate_left
 ·exact ⟨rfl, HB.out.trans ((below_on F1 hb2).mono HB.out.size), .inr ⟨rfl, nmI_sh hsh⟩⟩
 have F2 : Below W.heap.size W w2 := below_on F1 hb2
 clear hb2
 refine hK.out _ _ (HX.out _ F2) (fun hHeld => ?_)
 clear hK K
 try simp only [Act.put, zA, zB, zC]
 refine nk_take_listed (i := 3) (v := ?_) rfl (by kernel_rfl) (by kernel_rfl) (by kernel_rfl) (fun _ _ _ h => h) (Or.inl ⟨by rfl, ?_⟩) (by assumption) ?_
 rotate_left
 ·intro w hSw; (try dsimp only at hSw); go_simp; all_goals with_reducible rfl
 simp only [Act.put, zA, zB, zC]
 refine wpAnyH_done (by kernel_rfl) ?_ _
 obtain ⟨y0, y1, y2, hxl⟩ := shL_three hsh
 obtain ⟨g, o, a0, c0, A0, C0, a1, c1, A1, C1, a2, c2, A2, C2, rfl, hpair⟩ := HV.out.triple hxl
 have HF2 := h_ F2
 have HB2 : Hid (Below w.heap.size w w2) := HB.out.trans (F2.mono HB.out.size)
 have HSH : Hid (nmI x = nmZ y0 y1 y2) := nmI_three hsh hxl
 have HPR := h_ hpair
 have hlen : x.l.length = 3 := by rw [hxl]; rfl
 have HD0 : Hid (y0.depth ≤ 60000) := Nat.le_trans (depth_mem (by rw [hxl]; simp)) HD.out
 have HD1 : Hid (y1.depth ≤ 60000) := Nat.le_trans (depth_mem (by rw [hxl]; simp)) HD.out
 have HD2 : Hid (y2.depth ≤ 60000) := Nat.le_trans (depth_mem (by rw [hxl]; simp)) HD.out
 rw [hlen]
 clear hsh hxl hpair hlen F0 F1 F2 hHeld
 have HC : Hid (∀ w', Below w.heap.size w w' → (w'.cell? ⟨g, o, none⟩ = some (.int .i64 y0.k) ∧ w'.cell? ⟨g, o + 1, none⟩ = some (.int .u64 y0.n) ∧ w'.cell? ⟨g, o + 2, none⟩ = some (.slice a0 y0.b.length c0) ∧ w'.cell? ⟨g, o + 3, none⟩ = some (.string ⟨y0.s.toArray⟩) ∧ w'.cell? ⟨g, o + 4, none⟩ = some (.slice A0 y0.l.length C0)) ∧ (w'.cell? ⟨g, o + 5, none⟩ = some (.int .i64 y1.k) ∧ w'.cell? ⟨g, o + 5 + 1, none⟩ = some (.int .u64 y1.n) ∧ w'.cell? ⟨g, o + 5 + 2, none⟩ = some (.slice a1 y1.b.length c1) ∧ w'.cell? ⟨g, o + 5 + 3, none⟩ = some (.string ⟨y1.s.toArray⟩) ∧ w'.cell? ⟨g, o + 5 + 4, none⟩ = some (.slice A1 y1.l.length C1)) ∧ (w'.cell? ⟨g, o + 10, none⟩ = some (.int .i64 y2.k) ∧ w'.cell? ⟨g, o + 10 + 1, none⟩ = some (.int .u64 y2.n) ∧ w'.cell? ⟨g, o + 10 + 2, none⟩ = some (.slice a2 y2.b.length c2) ∧ w'.cell? ⟨g, o + 10 + 3, none⟩ = some (.string ⟨y2.s.toArray⟩) ∧ w'.cell? ⟨g, o + 10 + 4, none⟩ = some (.slice A2 y2.l.length C2))) := fun w' h => (HPR.out w' h).2
 have F0 : Below w2.heap.size w2 w2.drew := bR.drew
 have HF : Hid (∀ w', Below w2.heap.size w2 w' → Below w.heap.size w w') := fun w' h => below_on HB2.out h
 go_wp2_with fail
 refine wp_region_held_drew (S := fun w' => (w'.cell? ⟨g, o, none⟩ = some (.int .i64 y0.k) ∧ w'.cell? ⟨g, o + 1, none⟩ = some (.int .u64 y0.n) ∧ w'.cell? ⟨g, o + 2, none⟩ = some (.slice a0 y0.b.length c0) ∧ w'.cell? ⟨g, o + 3, none⟩ = some (.string ⟨y0.s.toArray⟩) ∧ w'.cell? ⟨g, o + 4, none⟩ = some (.slice A0 y0.l.length C0)) ∧ (w'.cell? ⟨g, o + 5, none⟩ = some (.int .i64 y1.k) ∧ w'.cell? ⟨g, o + 5 + 1, none⟩ = some (.int .u64 y1.n) ∧ w'.cell? ⟨g, o + 5 + 2, none⟩ = some (.slice a1 y1.b.length c1) ∧ w'.cell? ⟨g, o + 5 + 3, none⟩ = some (.string ⟨y1.s.toArray⟩) ∧ w'.cell? ⟨g, o + 5 + 4, none⟩ = some (.slice A1 y1.l.length C1)) ∧ (w'.cell? ⟨g, o + 10, none⟩ = some (.int .i64 y2.k) ∧ w'.cell? ⟨g, o + 10 + 1, none⟩ = some (.int .u64 y2.n) ∧ w'.cell? ⟨g, o + 10 + 2, none⟩ = some (.slice a2 y2.b.length c2) ∧ w'.cell? ⟨g, o + 10 + 3, none⟩ = some (.string ⟨y2.s.toArray⟩) ∧ w'.cell? ⟨g, o + 10 + 4, none⟩ = some (.slice A2 y2.l.length C2))) (by kernel_rfl) (HC.out _ (HF.out _ F0)) (fun hHeld => ?_)
 refine nk_take_listed (i := 0) (v := ?_) rfl (by kernel_rfl) (by kernel_rfl) (by kernel_rfl) (fun _ _ _ h => h) (Or.inl ⟨by rfl, ?_⟩) (by assumption) ?_
 rotate_left
 ·intro w hSw; (try dsimp only at hSw); go_simp; all_goals with_reducible rfl
 simp only [Act.put, zA, zB, zC]
 refine nk_take_listed (i := 1) (v := ?_) rfl (by kernel_rfl) (by kernel_rfl) (by kernel_rfl) (fun _ _ _ h => h) (Or.inl ⟨by rfl, ?_⟩) (by assumption) ?_
 rotate_left
 ·intro w hSw; (try dsimp only at hSw); go_simp; all_goals with_reducible rfl
 simp only [Act.put, zA, zB, zC]
 refine nk_take_listed (i := 2) (v := ?_) rfl (by kernel_rfl) (by kernel_rfl) (by kernel_rfl) (fun _ _ _ h => h) (Or.inl ⟨by rfl, ?_⟩) (by assumption) ?_
 rotate_left
 ·intro w hSw; (try dsimp only at hSw); go_simp; all_goals with_reducible rfl
 simp only [Act.put, zA, zB, zC]
 refine nk_take_listed (i := 4) (v := ?_) rfl (by kernel_rfl) (by kernel_rfl) (by kernel_rfl) (fun _ _ _ h => h) (Or.inl ⟨by rfl, ?_⟩) (by assumption) ?_
 rotate_left
 ·intro w hSw; (try dsimp only at hSw); go_simp; all_goals with_reducible rfl
 simp only [Act.put, zA, zB, zC]
 refine nk_take_listed (i := 5) (v := ?_) rfl (by kernel_rfl) (by kernel_rfl) (by kernel_rfl) (fun _ _ _ h => h) (Or.inl ⟨by rfl, ?_⟩) (by assumption) ?_
 rotate_left
 ·intro w hSw; (try dsimp only at hSw); go_simp; all_goals with_reducible rfl
 simp only [Act.put, zA, zB, zC]
 refine nk_take_listed (i := 6) (v := ?_) rfl (by kernel_rfl) (by kernel_rfl) (by kernel_rfl) (fun _ _ _ h => h) (Or.inl ⟨by rfl, ?_⟩) (by assumption) ?_
 rotate_left
 ·intro w hSw; (try dsimp only at hSw); go_simp; all_goals with_reducible rfl
 simp only [Act.put, zA, zB, zC]
 refine nk_take_listed (i := 8) (v := ?_) rfl (by kernel_rfl) (by kernel_rfl) (by kernel_rfl) (fun _ _ _ h => h) (Or.inl ⟨by rfl, ?_⟩) (by assumption) ?_
 rotate_left
 ·intro w hSw; (try dsimp only at hSw); go_simp; all_goals with_reducible rfl
 simp only [Act.put, zA, zB, zC]
 refine nk_take_listed (i := 9) (v := ?_) rfl (by kernel_rfl) (by kernel_rfl) (by kernel_rfl) (fun _ _ _ h => h) (Or.inl ⟨by rfl, ?_⟩) (by assumption) ?_
 rotate_left
 ·intro w hSw; (try dsimp only at hSw); go_simp; all_goals with_reducible rfl
 simp only [Act.put, zA, zB, zC]
 refine nk_take_listed (i := 10) (v := ?_) rfl (by kernel_rfl) (by kernel_rfl) (by kernel_rfl) (fun _ _ _ h => h) (Or.inl ⟨by rfl, ?_⟩) (by assumption) ?_
 rotate_left
 ·intro w hSw; (try dsimp only at hSw); go_simp; all_goals with_reducible rfl
 simp only [Act.put, zA, zB, zC]
 refine wpAnyH_ready (rs := [3]) (by kernel_rfl) (by simp) (.cons rfl (fun K hK => ?_) .nil)
 go_simp
 refine (endpointOf_any y0 _ _ HD0.out (ItV.mono (HF.out _ F0).size _ (HPR.out _ (HF.out _ F0)).1.1)).mono ?_
 rintro e w5 ⟨hb5, ⟨n, m, rfl, hn⟩ | ⟨rfl, hn⟩⟩
 rotate_left
 ·exact ⟨rfl, HF.out _ (below_on F0 hb5), .inr ⟨rfl, by rw [HSH.out, nmZ, hn]⟩⟩
 have HN := h_ hn
 clear hn
 have F1 : Below w2.heap.size w2 w5 := below_on F0 hb5
 refine hK.out _ _ (HC.out _ (HF.out _ F1)) (fun hHeld => ?_)
 clear hK K
 try simp only [Act.put, zA, zB, zC]
 refine wpAnyH_ready (rs := [7]) (by kernel_rfl) (by simp) (.cons rfl (fun K hK => ?_) .nil)
 go_simp
 refine (numberOf_any y1 _ _ HD1.out (ItV.mono (HF.out _ F1).size _ (HPR.out _ (HF.out _ F1)).1.2.1)).mono ?_
 rintro e w6 ⟨hb6, ⟨t, rfl, htn, htl⟩ | ⟨rfl, htn⟩⟩
 rotate_left
 ·exact ⟨rfl, HF.out _ (below_on F1 hb6), .inr ⟨rfl, by rw [HSH.out, nmZ, HN.out, htn]⟩⟩
 have HTn := h_ htn
 clear htn
 have F2 : Below w2.heap.size w2 w6 := below_on F1 hb6
 refine hK.out _ _ (HC.out _ (HF.out _ F2)) (fun hHeld => ?_)
 clear hK K
 try simp only [Act.put, zA, zB, zC]
 refine wpAnyH_ready (rs := [11]) (by kernel_rfl) (by simp) (.cons rfl (fun K hK => ?_) .nil)
 go_simp
 refine (numberOf_any y2 _ _ HD2.out (ItV.mono (HF.out _ F2).size _ (HPR.out _ (HF.out _ F2)).1.2.2)).mono ?_
 rintro e w7 ⟨hb7, ⟨q, rfl, hqn, hql⟩ | ⟨rfl, hqn⟩⟩
 rotate_left
 ·exact ⟨rfl, HF.out _ (below_on F2 hb7), .inr ⟨rfl, by rw [HSH.out, nmZ, HN.out, HTn.out, hqn]⟩⟩
 have HQn := h_ hqn
 clear hqn
 have F3 : Below w2.heap.size w2 w7 := below_on F2 hb7
 refine hK.out _ _ (HC.out _ (HF.out _ F3)) (fun hHeld => ?_)
 clear hK K
 try simp only [Act.put, zA, zB, zC]
 refine wpAnyH_ready (rs := [12]) (by kernel_rfl) (by simp) (.cons rfl (fun K hK => ?_) .nil)
 go_simp
 refine (namedD_any n m t q _).mono ?_
 rintro e w8 ⟨hb8, ⟨rfl, hnb⟩ | ⟨rfl, hnb⟩⟩
 rotate_left
 ·exact ⟨rfl, HF.out _ (below_on F3 hb8), .inr ⟨rfl, by rw [HSH.out, nmZ, HN.out, HTn.out, HQn.out]; simp [hnb]⟩⟩
 have HNB := h_ hnb
 clear hnb
 have F4 : Below w2.heap.size w2 w8 := below_on F3 hb8
 obtain ⟨⟨r0, r1, r2, r3⟩, rf⟩ := HR.out w8 (HF2.out.trans (F4.mono HF2.out.size))
 have f0 := rf 0
 have f1 := rf 1
 have f2 := rf 2
 have f3 := rf 3
 refine hK.out _ _ (HC.out _ (HF.out _ F4)) (fun hHeld => ?_)
 clear hK K
 try simp only [Act.put, zA, zB, zC]
 refine wpAnyH_ready (rs := [13]) (by kernel_rfl) (by simp) (.cons rfl (fun K hK => ?_) .nil)
 go_simp
 refine hK.out _ _ (HC.out _ (((((HF.out _ F4).setCell (p := ⟨w.heap.size + 1, 0, none⟩) (Nat.le_succ _) _).setCell (p := ⟨w.heap.size + 1, 1, none⟩) (Nat.le_succ _) _).setCell (p := ⟨w.heap.size + 1, 2, none⟩) (Nat.le_succ _) _).setCell (p := ⟨w.heap.size + 1, 3, none⟩) (Nat.le_succ _) _)) (fun hHeld => ?_)
 clear hK K
 try simp only [Act.put, zA, zB, zC]
 refine wpAnyH_done (by kernel_rfl) ?_ _
 have HF4 := h_ F4
 clear F0 F1 F2 F3 F4
 go_wp2
 obtain ⟨s0, s1, s2, s3⟩ := put4 (.int .u32 (n : Int)) (.int .u32 (m : Int)) (.int .u64 (t : Int)) (.int .u32 (q : Int)) r0 r1 r2 r3
 have HB9 := h_ (((((HF.out _ HF4.out).setCell (p := ⟨w.heap.size + 1, 0, none⟩) (Nat.le_succ _) (.int .u32 (n : Int))).setCell (p := ⟨w.heap.size + 1, 1, none⟩) (Nat.le_succ _) (.int .u32 (m : Int))).setCell (p := ⟨w.heap.size + 1, 2, none⟩) (Nat.le_succ _) (.int .u64 (t : Int))).setCell (p := ⟨w.heap.size + 1, 3, none⟩) (Nat.le_succ _) (.int .u32 (q : Int)))
 refine bodyPost_ret (v := .agg #[.int .u32 n, .int .u32 m, .int .u64 t, .int .u32 q]) (by simp [results, Tryz.results150, go_sem, s0, s1, s2, s3]) rfl ⟨HB9.out, .inl ⟨n, m, t, q, rfl, ?_⟩⟩
 rw [HSH.out, nmZ, HN.out, HTn.out, HQn.out]
 simp [HNB.out]

def rdNI (x : It) : Except Int (Nat × Nat × Nat × Nat) := match nmI x with
 | some p => .ok p
 | none => .error 130

theorem nof1_any (x : It) (P : Nat) (w : World) (hd : x.depth ≤ 60000) (h : BoxI w w.heap.size P x) :
  Calls Tryz.prog 149 #[.pointer (some ⟨P, 0, none⟩)] w (RdN w (rdNI x)) := by
 obtain ⟨a, c, A, C, hv, hP, x0, x1, x2, x3, x4⟩ := h
 obtain ⟨W, hW⟩ : ∃ W, W = w.alloc (.cells #[.int .u32 0, .int .u32 0, .int .u64 0, .int .u32 0] 28) := ⟨_, rfl⟩
 have HB : Hid (Below w.heap.size w W) := by rw [hW]; exact below_al bR _
 have HR : Hid (∀ w', Below W.heap.size W w' → (w'.cell? ⟨w.heap.size, 0, none⟩ = some (.int .u32 0) ∧ w'.cell? ⟨w.heap.size, 1, none⟩ = some (.int .u32 0) ∧ w'.cell? ⟨w.heap.size, 2, none⟩ = some (.int .u64 0) ∧ w'.cell? ⟨w.heap.size, 3, none⟩ = some (.int .u32 0)) ∧ ∀ i, w'.frozen? ⟨w.heap.size, i, none⟩ = false) := fun w' h => by
  have hs : w.heap.size < W.heap.size := by rw [hW]; simp
  have hh := fun i => (h.cell (p := ⟨w.heap.size, i, none⟩) hs).trans (by rw [hW, World.cell?_alloc_mark] : W.cell? ⟨w.heap.size, i, none⟩ = (#[Value.int .u32 0, .int .u32 0, .int .u64 0, .int .u32 0])[i]?)
  refine ⟨⟨hh 0, hh 1, hh 2, hh 3⟩, fun i => (h.frozen (p := ⟨w.heap.size, i, none⟩) hs).trans ?_⟩
  rw [hW]
  exact World.frozen?_alloc_new _ _ _ _
 have HV := h_ (hv.on HB.out)
 have HW := h_ hW
 clear hv hW
 go_enter Tryz.func149, Tryz.ntmps149
 go_wp2_with fail
 rw [← HW.out]
 refine (nameOf_any x _ W hd HV.out).mono ?_
 rintro e w2 ⟨hb2, ⟨n, m, t, q, rfl, hm⟩ | ⟨rfl, hm⟩⟩
 ·have HB2 := h_ (below_on HB.out hb2)
  obtain ⟨⟨r0, r1, r2, r3⟩, rf⟩ := HR.out w2 hb2
  have f0 := rf 0
  have f1 := rf 1
  have f2 := rf 2
  have f3 := rf 3
  have HM : Hid (rdNI x = .ok (n, m, t, q)) := by rw [Hid, rdNI, hm]
  clear hb2 hm x0 x1 x2 x3 x4
  go_wp2_with fail
  obtain ⟨s0, s1, s2, s3⟩ := put4 (.int .u32 (n : Int)) (.int .u32 (m : Int)) (.int .u64 (t : Int)) (.int .u32 (q : Int)) r0 r1 r2 r3
  refine bodyPost_ret (v := .agg #[.int .u32 n, .int .u32 m, .int .u64 t, .int .u32 q]) (by simp [results, Tryz.results149, go_sem, s0, s1, s2, s3]) rfl ⟨?_, by rw [HM.out]⟩
  exact ((((HB2.out.setCell (p := ⟨w.heap.size, 0, none⟩) (Nat.le_refl _) _).setCell (p := ⟨w.heap.size, 1, none⟩) (Nat.le_refl _) _).setCell (p := ⟨w.heap.size, 2, none⟩) (Nat.le_refl _) _).setCell (p := ⟨w.heap.size, 3, none⟩) (Nat.le_refl _) _)
 ·have HB2 := h_ (below_on HB.out hb2)
  have HM : Hid (rdNI x = .error 130) := by rw [Hid, rdNI, hm]
  clear hb2 hm x0 x1 x2 x3 x4
  go_wp2_with fail
  exact ⟨rfl, HB2.out, by rw [HM.out]; rfl⟩

theorem nof_any (x : It) (v : Value) (w : World) (hd : x.depth ≤ 60000) (hv : ItV w w.heap.size v x) :
  Calls Tryz.prog 129 #[v] w (TrN w (rdNI x)) := by
 have hmf : ∀ (fn : Fn) (first cap : Array Value) (w : World), (Instr.makeFunc fn first cap).run Tryz.prog w = .ok (.func fn first cap) w := fun _ _ _ _ => rfl
 obtain ⟨a, c, A, C, rfl⟩ := hv.form
 obtain ⟨W1, hW1⟩ : ∃ W, W = w.alloc (.cells #[.int .i64 x.k, .int .u64 x.n, .slice a x.b.length c, .string ⟨x.s.toArray⟩, .slice A x.l.length C] 51) := ⟨_, rfl⟩
 have s1 : W1.heap.size = w.heap.size + 1 := by rw [hW1]; simp
 have hbx : BoxI W1 W1.heap.size w.heap.size x := by rw [hW1]; exact boxI_new _ hv
 obtain ⟨W, hW⟩ : ∃ W, W = W1.alloc (.cells #[.int .u32 0, .int .u32 0, .int .u64 0, .int .u32 0] 28) := ⟨_, rfl⟩
 have hb1 : Below w.heap.size w W1 := by rw [hW1]; exact below_al bR _
 have hb2 : Below W1.heap.size W1 W := by rw [hW]; exact below_al bR _
 have hbW : Below w.heap.size w W := below_on hb1 hb2
 have hsW : W.heap.size = w.heap.size + 2 := by rw [hW]; simp [s1]
 have HB := h_ hbW
 have HT := h_ (triedN_any 149 #[.pointer (some ⟨w.heap.size, 0, none⟩)] (rdNI x) W (enters_of Tryz.func149 (by kernel_rfl) rfl) (fun w' hb => nof1_any x _ w' hd (hbx.on (below_on hb2 hb))))
 have HC : Hid (∀ w', Below W.heap.size W w' → (w'.cell? ⟨w.heap.size + 1, 0, none⟩ = some (.int .u32 0) ∧ w'.cell? ⟨w.heap.size + 1, 1, none⟩ = some (.int .u32 0) ∧ w'.cell? ⟨w.heap.size + 1, 2, none⟩ = some (.int .u64 0) ∧ w'.cell? ⟨w.heap.size + 1, 3, none⟩ = some (.int .u32 0)) ∧ ∀ i, w'.frozen? ⟨w.heap.size + 1, i, none⟩ = false) := fun w' hb => by
  have hh : ∀ i, w'.cell? ⟨w.heap.size + 1, i, none⟩ = W.cell? ⟨w.heap.size + 1, i, none⟩ := fun i => hb.cell (p := ⟨w.heap.size + 1, i, none⟩) (show w.heap.size + 1 < _ by omega)
  have hf : ∀ i, w'.frozen? ⟨w.heap.size + 1, i, none⟩ = W.frozen? ⟨w.heap.size + 1, i, none⟩ := fun i => hb.frozen (p := ⟨w.heap.size + 1, i, none⟩) (show w.heap.size + 1 < _ by omega)
  exact ⟨⟨(hh 0).trans (by rw [hW, ← s1, World.cell?_alloc_mark]; rfl), (hh 1).trans (by rw [hW, ← s1, World.cell?_alloc_mark]; rfl), (hh 2).trans (by rw [hW, ← s1, World.cell?_alloc_mark]; rfl), (hh 3).trans (by rw [hW, ← s1, World.cell?_alloc_mark]; rfl)⟩, fun i => (hf i).trans (by rw [hW, ← s1]; exact World.frozen?_alloc_new _ _ _ _)⟩
 have HW : Hid (W = (w.alloc (.cells #[.int .i64 x.k, .int .u64 x.n, .slice a x.b.length c, .string ⟨x.s.toArray⟩, .slice A x.l.length C] 51)).alloc (.cells #[.int .u32 0, .int .u32 0, .int .u64 0, .int .u32 0] 28)) := by rw [← hW1]; exact hW
 clear hW1 hW hb1 hb2 hbW s1 hv hbx hd
 go_enter Tryz.func129, Tryz.ntmps129
 go_wp2_with fail
 rw [← HW.out]
 refine HT.out.mono ?_
 intro e w1 htr
 have HBB := h_ (below_on HB.out htr.1)
 obtain ⟨⟨d0, d1, d2, d3⟩, df⟩ := HC.out w1 htr.1
 have f0 := df 0
 have f1 := df 1
 have f2 := df 2
 have f3 := df 3
 obtain ⟨n, m, t, q, c, rfl, hr⟩ := trN_agg htr
 have HR := h_ hr
 clear htr hr df
 go_wp2_with fail
 obtain ⟨e0, e1, e2, e3⟩ := put4 (.int .u32 (n : Int)) (.int .u32 (m : Int)) (.int .u64 (t : Int)) (.int .u32 (q : Int)) d0 d1 d2 d3
 refine bodyPost_ret (v := .tuple #[.agg #[.int .u32 n, .int .u32 m, .int .u64 t, .int .u32 q], .int .i64 c]) (by simp [results, Tryz.results129, go_sem, e0, e1, e2, e3]) rfl (trN_of HR.out ?_)
 exact ((((HBB.out.setCell (p := ⟨w.heap.size + 1, 0, none⟩) (by show w.heap.size ≤ w.heap.size + 1; omega) _).setCell (p := ⟨w.heap.size + 1, 1, none⟩) (by show w.heap.size ≤ w.heap.size + 1; omega) _).setCell (p := ⟨w.heap.size + 1, 2, none⟩) (by show w.heap.size ≤ w.heap.size + 1; omega) _).setCell (p := ⟨w.heap.size + 1, 3, none⟩) (by show w.heap.size ≤ w.heap.size + 1; omega) _)

theorem nmI_itN (n m t q : Nat) (h : 0 < n) (hn : n ≤ 4294967295) (hm : m ≤ 4294967295) (ht : t ≤ forever) (hq : q ≤ 4294967295) : nmI (itN n m t q) = some (n, m, t, q) := by
 have s1 : shL (itLs [itE n m, itU t, itU q]) 3 = true := rfl
 have hb : nmB n t q = true := by simp [nmB]; omega
 rw [itN, nmI_three s1 rfl, nmZ, epI_itE n m (.inl h) hn hm, nuN_itU, nuN_itU]
 simp [hb]

theorem depth_itN (n m t q : Nat) : (itN n m t q).depth ≤ 4 := by
 have := depth_itE n m
 simp only [itN, itLs, itU, It.depth, It.depth.depthL]
 omega

end Go.Proofs.YthjgjkohogjjpaaGreatDoor
