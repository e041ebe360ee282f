/- Joined texts. -/
import Derived.Test.YteldifnkeekafaaGreatDoorZAt
import Derived.Test.YteldifnkeekafaaGreatDoorZNmRn
import Derived.Test.YteldifnkeekafaaGreatDoorZKh
import Derived.Test.YteldifnkeekafaaGreatDoorZFr
set_option maxHeartbeats 16000000
set_option linter.unusedSimpArgs false
set_option linter.unusedVariables false
set_option maxRecDepth 100000
namespace Go.Proofs.YteldifnkeekafaaGreatDoor
open Go Go.RowKit Go.Shelf

attribute [local go_sem] Oper.semAt_some

theorem refBool_any (q : Bool) (w : World) : Calls Tryz.prog 53 #[.bool q] w fun e w' => e = .returned (.agg #[.int .i64 5, .int .u64 (boN q), .slice none 0 0, .string ⟨#[]⟩, .slice none 0 0]) ∧ Below w.heap.size w w' := by
 cases q
 ·go_enter Tryz.func53, Tryz.ntmps53
  go_wp2_with fail
  exact bodyPost_ret (v := .agg #[.int .i64 5, .int .u64 0, .slice none 0 0, .string ⟨#[]⟩, .slice none 0 0]) (by simp [results, Tryz.results53, go_sem]) rfl ⟨rfl, below_al bR _⟩
 ·go_enter Tryz.func53, Tryz.ntmps53
  go_wp2_with fail
  exact bodyPost_ret (v := .agg #[.int .i64 5, .int .u64 1, .slice none 0 0, .string ⟨#[]⟩, .slice none 0 0]) (by simp [results, Tryz.results53, go_sem]) rfl ⟨rfl, below_al bR _⟩

def sI (i : Nat) : Nat := ([12, 13, 14, 15, 16, 17, 18, 19, 20, 21, 22, 23, 24, 25, 4, 5, 6, 7] : List Nat).getD i 0
def vI (r : Rc) (w : World) (i b : Nat) : Value := ([.pointer (some ⟨w.heap.size, 8, none⟩), .int .u64 r.no, .agg #[.int .i64 1, .int .u64 r.no, .slice none 0 0, .string ⟨#[]⟩, .slice none 0 0], .pointer (some ⟨w.heap.size, 9, none⟩), .int .u32 r.nd, .int .u64 r.nd, .agg #[.int .i64 1, .int .u64 r.nd, .slice none 0 0, .string ⟨#[]⟩, .slice none 0 0], .pointer (some ⟨w.heap.size, 10, none⟩), .int .u32 r.rg, .int .u64 r.rg, .agg #[.int .i64 1, .int .u64 r.rg, .slice none 0 0, .string ⟨#[]⟩, .slice none 0 0], .pointer (some ⟨w.heap.size, 11, none⟩), .bool r.ys, .agg #[.int .i64 5, .int .u64 (boN r.ys), .slice none 0 0, .string ⟨#[]⟩, .slice none 0 0], .pointer (some ⟨b, 0, none⟩), .pointer (some ⟨b, 0, none⟩), .pointer (some ⟨b, 0, none⟩), .pointer (some ⟨b, 0, none⟩)] : List Value).getD i undef
def zI (i : Nat) : Option (List Value) := if i < 14 then none else if i < 18 then some [.int .i64 0, .int .u64 0, .slice none 0 0, .string ⟨#[]⟩, .slice none 0 0] else none

theorem refItem10_any (r : Rc) (hok : r.ok) (h1 : 1 ≤ r.k) (h5 : r.k ≤ 5) (hmay : r.k = 1 → r.name.may = true) (w : World) : Calls Tryz.prog 32 #[.agg #[.int .i64 r.k, .int .u32 r.n, .int .u32 r.m, .int .u64 r.t, .int .u32 r.q, .int .i64 r.wh, .int .i64 r.wy, .int .u64 r.at0, .int .u64 r.no, .int .u32 r.nd, .int .u32 r.rg, .bool r.ys, .int .u64 r.fr, .int .u64 r.un, .int .u8 r.lv]] w (LayP w (layR r.k.toNat r)) := by
 obtain ⟨W, hW⟩ : ∃ W, W = (w.alloc (.cells #[.int .i64 r.k, .int .u32 r.n, .int .u32 r.m, .int .u64 r.t, .int .u32 r.q, .int .i64 r.wh, .int .i64 r.wy, .int .u64 r.at0, .int .u64 r.no, .int .u32 r.nd, .int .u32 r.rg, .bool r.ys, .int .u64 r.fr, .int .u64 r.un, .int .u8 r.lv] 32)).alloc (.cells #[.int .i64 0, .int .u64 0, .slice none 0 0, .string ⟨#[]⟩, .slice none 0 0] 45) := ⟨_, rfl⟩
 have HB0 : Hid (Below w.heap.size w W) := by rw [hW]; exact below_al (below_al bR _) _
 have HS0 : Hid (W.heap.size = w.heap.size + 2) := by rw [Hid, hW]; simp
 have HX : Hid (∀ w', Below W.heap.size W w' → (w'.cell? ⟨w.heap.size, 0, none⟩ = some (.int .i64 r.k) ∧ w'.cell? ⟨w.heap.size, 1, none⟩ = some (.int .u32 r.n) ∧ w'.cell? ⟨w.heap.size, 2, none⟩ = some (.int .u32 r.m) ∧ w'.cell? ⟨w.heap.size, 3, none⟩ = some (.int .u64 r.t) ∧ w'.cell? ⟨w.heap.size, 4, none⟩ = some (.int .u32 r.q) ∧ w'.cell? ⟨w.heap.size, 5, none⟩ = some (.int .i64 r.wh) ∧ w'.cell? ⟨w.heap.size, 6, none⟩ = some (.int .i64 r.wy) ∧ w'.cell? ⟨w.heap.size, 7, none⟩ = some (.int .u64 r.at0) ∧ w'.cell? ⟨w.heap.size, 8, none⟩ = some (.int .u64 r.no) ∧ w'.cell? ⟨w.heap.size, 9, none⟩ = some (.int .u32 r.nd) ∧ w'.cell? ⟨w.heap.size, 10, none⟩ = some (.int .u32 r.rg) ∧ w'.cell? ⟨w.heap.size, 11, none⟩ = some (.bool r.ys) ∧ w'.cell? ⟨w.heap.size, 12, none⟩ = some (.int .u64 r.fr) ∧ w'.cell? ⟨w.heap.size, 13, none⟩ = some (.int .u64 r.un) ∧ w'.cell? ⟨w.heap.size, 14, none⟩ = some (.int .u8 r.lv)) ∧ RowB w' (w.heap.size + 1) [.int .i64 0, .int .u64 0, .slice none 0 0, .string ⟨#[]⟩, .slice none 0 0]) := fun w' h => by
  have hz : RowB W (w.heap.size + 1) [.int .i64 0, .int .u64 0, .slice none 0 0, .string ⟨#[]⟩, .slice none 0 0] := by
   rw [hW]
   have h := RowB.new (w.alloc (.cells #[.int .i64 r.k, .int .u32 r.n, .int .u32 r.m, .int .u64 r.t, .int .u32 r.q, .int .i64 r.wh, .int .i64 r.wy, .int .u64 r.at0, .int .u64 r.no, .int .u32 r.nd, .int .u32 r.rg, .bool r.ys, .int .u64 r.fr, .int .u64 r.un, .int .u8 r.lv] 32)) [.int .i64 0, .int .u64 0, .slice none 0 0, .string ⟨#[]⟩, .slice none 0 0] 45
   rw [World.size_alloc] at h
   exact h
  refine ⟨?_, hz.on h (by have := HS0.out; omega)⟩
  rw [hW] at h
  have h1 := below_on (below_al (Below.refl _ (w.alloc (.cells #[.int .i64 r.k, .int .u32 r.n, .int .u32 r.m, .int .u64 r.t, .int .u32 r.q, .int .i64 r.wh, .int .i64 r.wy, .int .u64 r.at0, .int .u64 r.no, .int .u32 r.nd, .int .u32 r.rg, .bool r.ys, .int .u64 r.fr, .int .u64 r.un, .int .u8 r.lv] 32))) (.cells #[.int .i64 0, .int .u64 0, .slice none 0 0, .string ⟨#[]⟩, .slice none 0 0] 45)) h
  exact ⟨box_at h1 0, box_at h1 1, box_at h1 2, box_at h1 3, box_at h1 4, box_at h1 5, box_at h1 6, box_at h1 7, box_at h1 8, box_at h1 9, box_at h1 10, box_at h1 11, box_at h1 12, box_at h1 13, box_at h1 14⟩
 have HU0 := h_ (refUint_any r.k W)
 have HOk := h_ hok
 have HMay := h_ hmay
 have HW := h_ hW
 obtain ⟨⟨x0, x1, x2, x3, x4, x5, x6, x7, x8, x9, x10, x11, x12, x13, x14⟩, _⟩ := HX.out W bR
 rw [HW.out] at x0 x1 x2 x3 x4 x5 x6 x7 x8 x9 x10 x11 x12 x13 x14
 clear hW hok hmay
 go_enter Tryz.func32, Tryz.ntmps32
 go_wp2_with fail
 rw [← HW.out]
 clear x0 x1 x2 x3 x4 x5 x6 x7 x8 x9 x10 x11 x12 x13 x14
 refine HU0.out.mono ?_
 rintro e w1 ⟨rfl, hb1⟩
 obtain ⟨w2, hw2⟩ : ∃ w2, w2 = w1.alloc (.cells #[.int .i64 1, .int .u64 r.k, .slice none 0 0, .string ⟨#[]⟩, .slice none 0 0] 45) := ⟨_, rfl⟩
 have hb2 : Below w1.heap.size w1 w2 := by rw [hw2]; exact below_al bR _
 have HB2 : Hid (Below W.heap.size W w2) := below_on hb1 hb2
 have HR3 : Hid (RowB w2 w1.heap.size [.int .i64 1, .int .u64 r.k, .slice none 0 0, .string ⟨#[]⟩, .slice none 0 0]) := by rw [hw2]; exact RowB.new w1 _ _
 have HL3 : Hid (W.heap.size ≤ w1.heap.size ∧ w1.heap.size < w2.heap.size) := ⟨hb1.size, by rw [hw2]; simp⟩
 have HW2 := h_ hw2
 clear hb1 hb2 hw2
 go_upto_region 2 with fail
 rw [← HW2.out]
 refine wp_region_free 18 sI (vI r w) zI (by kernel_rfl) (by decide) (fun i j hi hj => (by decide : ∀ i, i < 18 → ∀ j, j < 18 → sI i = sI j → i = j) i hi j hj) (fun i hi => (by decide : ∀ i, i < 18 → sI i < 90) i hi) (dep_ok (by kernel_rfl)) (late_ok (by kernel_rfl)) ?step ?fin
 case step =>
  intro i tm v β K hi hb htz hrest hdeps hK
  obtain ⟨⟨x0, x1, x2, x3, x4, x5, x6, x7, x8, x9, x10, x11, x12, x13, x14⟩, _⟩ := HX.out v (below_on HB2.out hb)
  have HK := h_ hK
  have t1 : tm[1]? = some (.pointer (some ⟨w.heap.size, 0, none⟩)) := hrest 1 (by decide)
  clear hK hrest htz
  match i, hi with
  | 0, _ =>
   clear hdeps
   refine wpOp_of rfl rfl ?_
   go_simp
   exact HK.out 0 v bR (fun zs h => by cases h)
  | 1, _ =>
   have d1 : tm[12]? = some (.pointer (some ⟨w.heap.size, 8, none⟩)) := hdeps 0 (by kernel_rfl)
   clear hdeps
   refine wpOp_of rfl rfl ?_
   go_simp
   exact HK.out 0 v bR (fun zs h => by cases h)
  | 2, _ =>
   have d1 : tm[13]? = some (.int .u64 r.no) := hdeps 1 (by kernel_rfl)
   clear hdeps
   refine wpOp_of rfl rfl ?_
   go_simp
   refine (refUint_any r.no _).mono ?_
   rintro e v' ⟨rfl, hb'⟩
   exact HK.out 0 v' hb' (fun zs h => by cases h)
  | 3, _ =>
   clear hdeps
   refine wpOp_of rfl rfl ?_
   go_simp
   exact HK.out 0 v bR (fun zs h => by cases h)
  | 4, _ =>
   have d1 : tm[15]? = some (.pointer (some ⟨w.heap.size, 9, none⟩)) := hdeps 3 (by kernel_rfl)
   clear hdeps
   refine wpOp_of rfl rfl ?_
   go_simp
   exact HK.out 0 v bR (fun zs h => by cases h)
  | 5, _ =>
   have d1 : tm[16]? = some (.int .u32 r.nd) := hdeps 4 (by kernel_rfl)
   have hwr : IntKind.u64.wrap (r.nd : Int) = r.nd := by have := HOk.out.nd; rw [IntKind.wrap_u64]; omega
   clear hdeps
   refine wpOp_of rfl rfl ?_
   go_simp
   exact HK.out 0 v bR (fun zs h => by cases h)
  | 6, _ =>
   have d1 : tm[17]? = some (.int .u64 r.nd) := hdeps 5 (by kernel_rfl)
   clear hdeps
   refine wpOp_of rfl rfl ?_
   go_simp
   refine (refUint_any r.nd _).mono ?_
   rintro e v' ⟨rfl, hb'⟩
   exact HK.out 0 v' hb' (fun zs h => by cases h)
  | 7, _ =>
   clear hdeps
   refine wpOp_of rfl rfl ?_
   go_simp
   exact HK.out 0 v bR (fun zs h => by cases h)
  | 8, _ =>
   have d1 : tm[19]? = some (.pointer (some ⟨w.heap.size, 10, none⟩)) := hdeps 7 (by kernel_rfl)
   clear hdeps
   refine wpOp_of rfl rfl ?_
   go_simp
   exact HK.out 0 v bR (fun zs h => by cases h)
  | 9, _ =>
   have d1 : tm[20]? = some (.int .u32 r.rg) := hdeps 8 (by kernel_rfl)
   have hwr : IntKind.u64.wrap (r.rg : Int) = r.rg := by have := HOk.out.rg; rw [IntKind.wrap_u64]; omega
   clear hdeps
   refine wpOp_of rfl rfl ?_
   go_simp
   exact HK.out 0 v bR (fun zs h => by cases h)
  | 10, _ =>
   have d1 : tm[21]? = some (.int .u64 r.rg) := hdeps 9 (by kernel_rfl)
   clear hdeps
   refine wpOp_of rfl rfl ?_
   go_simp
   refine (refUint_any r.rg _).mono ?_
   rintro e v' ⟨rfl, hb'⟩
   exact HK.out 0 v' hb' (fun zs h => by cases h)
  | 11, _ =>
   clear hdeps
   refine wpOp_of rfl rfl ?_
   go_simp
   exact HK.out 0 v bR (fun zs h => by cases h)
  | 12, _ =>
   have d1 : tm[23]? = some (.pointer (some ⟨w.heap.size, 11, none⟩)) := hdeps 11 (by kernel_rfl)
   clear hdeps
   refine wpOp_of rfl rfl ?_
   go_simp
   exact HK.out 0 v bR (fun zs h => by cases h)
  | 13, _ =>
   have d1 : tm[24]? = some (.bool r.ys) := hdeps 12 (by kernel_rfl)
   clear hdeps
   refine wpOp_of rfl rfl ?_
   go_simp
   refine (refBool_any r.ys _).mono ?_
   rintro e v' ⟨rfl, hb'⟩
   exact HK.out 0 v' hb' (fun zs h => by cases h)
  | 14, _ =>
   clear hdeps
   refine wpOp_of rfl rfl ?_
   go_simp
   exact HK.out v.heap.size _ (below_al bR _) (fun zs h => by injection h with h; subst h; exact ⟨RowB.new v _ _, Nat.le_refl _, by simp⟩)
  | 15, _ =>
   clear hdeps
   refine wpOp_of rfl rfl ?_
   go_simp
   exact HK.out v.heap.size _ (below_al bR _) (fun zs h => by injection h with h; subst h; exact ⟨RowB.new v _ _, Nat.le_refl _, by simp⟩)
  | 16, _ =>
   clear hdeps
   refine wpOp_of rfl rfl ?_
   go_simp
   exact HK.out v.heap.size _ (below_al bR _) (fun zs h => by injection h with h; subst h; exact ⟨RowB.new v _ _, Nat.le_refl _, by simp⟩)
  | 17, _ =>
   clear hdeps
   refine wpOp_of rfl rfl ?_
   go_simp
   exact HK.out v.heap.size _ (below_al bR _) (fun zs h => by injection h with h; subst h; exact ⟨RowB.new v _ _, Nat.le_refl _, by simp⟩)
  | n + 18, h => exact absurd h (by omega)
 case fin =>
  intro v β listed hsz hl1 hl2 hb hz hne
  have hle := listed_eq hsz hl1 hl2
  rw [hle]
  have R4 := hz 14 _ (by omega) rfl
  have R5 := hz 15 _ (by omega) rfl
  have R6 := hz 16 _ (by omega) rfl
  have R7 := hz 17 _ (by omega) rfl
  have n45 := hne 14 15 (by omega) (by omega) rfl rfl (by omega)
  have n46 := hne 14 16 (by omega) (by omega) rfl rfl (by omega)
  have n47 := hne 14 17 (by omega) (by omega) rfl rfl (by omega)
  have n56 := hne 15 16 (by omega) (by omega) rfl rfl (by omega)
  have n57 := hne 15 17 (by omega) (by omega) rfl rfl (by omega)
  have n67 := hne 16 17 (by omega) (by omega) rfl rfl (by omega)
  clear hle hsz hl1 hl2 hz hne
  simp only [laidS, sI, vI, List.getD_cons_zero, List.getD_cons_succ, zA, zB, zC]
  generalize β 14 = b4 at *
  generalize β 15 = b5 at *
  generalize β 16 = b6 at *
  generalize β 17 = b7 at *
  have G4 := R4.2
  have G5 := R5.2
  have G6 := R6.2
  have G7 := R7.2
  replace R4 := R4.1
  replace R5 := R5.1
  replace R6 := R6.1
  replace R7 := R7.1
  have F := below_on HB2.out hb
  have HL := HL3.out
  have D4 : W.heap.size ≤ b4 := by omega
  have D5 : W.heap.size ≤ b5 := by omega
  have D6 : W.heap.size ≤ b6 := by omega
  have D7 : W.heap.size ≤ b7 := by omega
  have R3 := HR3.out.on hb (by omega)
  have m4 : b4 ≠ w1.heap.size := by omega
  have m5 : b5 ≠ w1.heap.size := by omega
  have m6 : b6 ≠ w1.heap.size := by omega
  have m7 : b7 ≠ w1.heap.size := by omega
  have HV : Hid (w2.heap.size ≤ v.heap.size) := hb.size
  have HG := h_ (⟨G4, G5, G6, G7⟩ : _ ∧ _ ∧ _ ∧ _)
  have HM := h_ (⟨m4, m5, m6, m7⟩ : _ ∧ _ ∧ _ ∧ _)
  have HN := h_ (⟨n45, n46, n47, n56, n57, n67⟩ : _ ∧ _ ∧ _ ∧ _ ∧ _ ∧ _)
  have HDm := h_ (⟨D4, D5, D6, D7⟩ : _ ∧ _ ∧ _ ∧ _)
  clear G4 G5 G6 G7 m4 m5 m6 m7 n45 n46 n47 n56 n57 n67 D4 D5 D6 D7 HL hb
  change wpAny _ _ _ _ 4 _ _ _
  refine wpAny_one (i := 18) (by kernel_rfl) rfl (fun K hK => ?_)
  obtain ⟨c0, c1, c2, c3, c4⟩ := r5 R4
  obtain ⟨f0, f1, f2, f3, f4⟩ := f5 R4
  have HK := h_ hK
  clear hK
  go_simp
  have hK := HK.out
  refine hK _ (put5 v b4 (.int .i64 1) (.int .u64 r.no) (.slice none 0 0) (.string ⟨#[]⟩) (.slice none 0 0)) ?_
  clear hK HK K c0 c1 c2 c3 c4 f0 f1 f2 f3 f4
  try simp only [Act.put, zA, zB, zC]
  replace R3 : RowB (put5 v b4 (.int .i64 1) (.int .u64 r.no) (.slice none 0 0) (.string ⟨#[]⟩) (.slice none 0 0)) _ _ := (((((R3.other (i := 0) (HM.out.1) (.int .i64 1)).other (i := 1) (HM.out.1) (.int .u64 r.no)).other (i := 2) (HM.out.1) (.slice none 0 0)).other (i := 3) (HM.out.1) (.string ⟨#[]⟩)).other (i := 4) (HM.out.1) (.slice none 0 0))
  replace R5 : RowB (put5 v b4 (.int .i64 1) (.int .u64 r.no) (.slice none 0 0) (.string ⟨#[]⟩) (.slice none 0 0)) _ _ := (((((R5.other (i := 0) (HN.out.1) (.int .i64 1)).other (i := 1) (HN.out.1) (.int .u64 r.no)).other (i := 2) (HN.out.1) (.slice none 0 0)).other (i := 3) (HN.out.1) (.string ⟨#[]⟩)).other (i := 4) (HN.out.1) (.slice none 0 0))
  replace R6 : RowB (put5 v b4 (.int .i64 1) (.int .u64 r.no) (.slice none 0 0) (.string ⟨#[]⟩) (.slice none 0 0)) _ _ := (((((R6.other (i := 0) (HN.out.2.1) (.int .i64 1)).other (i := 1) (HN.out.2.1) (.int .u64 r.no)).other (i := 2) (HN.out.2.1) (.slice none 0 0)).other (i := 3) (HN.out.2.1) (.string ⟨#[]⟩)).other (i := 4) (HN.out.2.1) (.slice none 0 0))
  replace R7 : RowB (put5 v b4 (.int .i64 1) (.int .u64 r.no) (.slice none 0 0) (.string ⟨#[]⟩) (.slice none 0 0)) _ _ := (((((R7.other (i := 0) (HN.out.2.2.1) (.int .i64 1)).other (i := 1) (HN.out.2.2.1) (.int .u64 r.no)).other (i := 2) (HN.out.2.2.1) (.slice none 0 0)).other (i := 3) (HN.out.2.2.1) (.string ⟨#[]⟩)).other (i := 4) (HN.out.2.2.1) (.slice none 0 0))
  replace R4 : RowB (put5 v b4 (.int .i64 1) (.int .u64 r.no) (.slice none 0 0) (.string ⟨#[]⟩) (.slice none 0 0)) b4 [.int .i64 1, .int .u64 r.no, .slice none 0 0, .string ⟨#[]⟩, .slice none 0 0] := (((((R4.set 0 (.int .i64 1)).set 1 (.int .u64 r.no)).set 2 (.slice none 0 0)).set 3 (.string ⟨#[]⟩)).set 4 (.slice none 0 0))
  replace F : Below W.heap.size W (put5 v b4 (.int .i64 1) (.int .u64 r.no) (.slice none 0 0) (.string ⟨#[]⟩) (.slice none 0 0)) := (((((F.setCell (p := ⟨b4, 0, none⟩) (HDm.out.1) (.int .i64 1)).setCell (p := ⟨b4, 1, none⟩) (HDm.out.1) (.int .u64 r.no)).setCell (p := ⟨b4, 2, none⟩) (HDm.out.1) (.slice none 0 0)).setCell (p := ⟨b4, 3, none⟩) (HDm.out.1) (.string ⟨#[]⟩)).setCell (p := ⟨b4, 4, none⟩) (HDm.out.1) (.slice none 0 0))
  have hsz : (put5 v b4 (.int .i64 1) (.int .u64 r.no) (.slice none 0 0) (.string ⟨#[]⟩) (.slice none 0 0)).heap.size = v.heap.size := by simp [put5]
  replace HV : Hid (w2.heap.size ≤ (put5 v b4 (.int .i64 1) (.int .u64 r.no) (.slice none 0 0) (.string ⟨#[]⟩) (.slice none 0 0)).heap.size) := by rw [Hid, hsz]; exact HV.out
  replace HG : Hid ((w2.heap.size ≤ b4 ∧ b4 < (put5 v b4 (.int .i64 1) (.int .u64 r.no) (.slice none 0 0) (.string ⟨#[]⟩) (.slice none 0 0)).heap.size) ∧ (w2.heap.size ≤ b5 ∧ b5 < (put5 v b4 (.int .i64 1) (.int .u64 r.no) (.slice none 0 0) (.string ⟨#[]⟩) (.slice none 0 0)).heap.size) ∧ (w2.heap.size ≤ b6 ∧ b6 < (put5 v b4 (.int .i64 1) (.int .u64 r.no) (.slice none 0 0) (.string ⟨#[]⟩) (.slice none 0 0)).heap.size) ∧ (w2.heap.size ≤ b7 ∧ b7 < (put5 v b4 (.int .i64 1) (.int .u64 r.no) (.slice none 0 0) (.string ⟨#[]⟩) (.slice none 0 0)).heap.size)) := by rw [Hid, hsz]; exact HG.out
  clear hsz
  generalize put5 v b4 (.int .i64 1) (.int .u64 r.no) (.slice none 0 0) (.string ⟨#[]⟩) (.slice none 0 0) = v at *
  refine wpAny_one (i := 19) (by kernel_rfl) rfl (fun K hK => ?_)
  obtain ⟨c0, c1, c2, c3, c4⟩ := r5 R5
  obtain ⟨f0, f1, f2, f3, f4⟩ := f5 R5
  have HK := h_ hK
  clear hK
  go_simp
  have hK := HK.out
  refine hK _ (put5 v b5 (.int .i64 1) (.int .u64 r.nd) (.slice none 0 0) (.string ⟨#[]⟩) (.slice none 0 0)) ?_
  clear hK HK K c0 c1 c2 c3 c4 f0 f1 f2 f3 f4
  try simp only [Act.put, zA, zB, zC]
  replace R3 : RowB (put5 v b5 (.int .i64 1) (.int .u64 r.nd) (.slice none 0 0) (.string ⟨#[]⟩) (.slice none 0 0)) _ _ := (((((R3.other (i := 0) (HM.out.2.1) (.int .i64 1)).other (i := 1) (HM.out.2.1) (.int .u64 r.nd)).other (i := 2) (HM.out.2.1) (.slice none 0 0)).other (i := 3) (HM.out.2.1) (.string ⟨#[]⟩)).other (i := 4) (HM.out.2.1) (.slice none 0 0))
  replace R4 : RowB (put5 v b5 (.int .i64 1) (.int .u64 r.nd) (.slice none 0 0) (.string ⟨#[]⟩) (.slice none 0 0)) _ _ := (((((R4.other (i := 0) (Ne.symm (HN.out.1)) (.int .i64 1)).other (i := 1) (Ne.symm (HN.out.1)) (.int .u64 r.nd)).other (i := 2) (Ne.symm (HN.out.1)) (.slice none 0 0)).other (i := 3) (Ne.symm (HN.out.1)) (.string ⟨#[]⟩)).other (i := 4) (Ne.symm (HN.out.1)) (.slice none 0 0))
  replace R6 : RowB (put5 v b5 (.int .i64 1) (.int .u64 r.nd) (.slice none 0 0) (.string ⟨#[]⟩) (.slice none 0 0)) _ _ := (((((R6.other (i := 0) (HN.out.2.2.2.1) (.int .i64 1)).other (i := 1) (HN.out.2.2.2.1) (.int .u64 r.nd)).other (i := 2) (HN.out.2.2.2.1) (.slice none 0 0)).other (i := 3) (HN.out.2.2.2.1) (.string ⟨#[]⟩)).other (i := 4) (HN.out.2.2.2.1) (.slice none 0 0))
  replace R7 : RowB (put5 v b5 (.int .i64 1) (.int .u64 r.nd) (.slice none 0 0) (.string ⟨#[]⟩) (.slice none 0 0)) _ _ := (((((R7.other (i := 0) (HN.out.2.2.2.2.1) (.int .i64 1)).other (i := 1) (HN.out.2.2.2.2.1) (.int .u64 r.nd)).other (i := 2) (HN.out.2.2.2.2.1) (.slice none 0 0)).other (i := 3) (HN.out.2.2.2.2.1) (.string ⟨#[]⟩)).other (i := 4) (HN.out.2.2.2.2.1) (.slice none 0 0))
  replace R5 : RowB (put5 v b5 (.int .i64 1) (.int .u64 r.nd) (.slice none 0 0) (.string ⟨#[]⟩) (.slice none 0 0)) b5 [.int .i64 1, .int .u64 r.nd, .slice none 0 0, .string ⟨#[]⟩, .slice none 0 0] := (((((R5.set 0 (.int .i64 1)).set 1 (.int .u64 r.nd)).set 2 (.slice none 0 0)).set 3 (.string ⟨#[]⟩)).set 4 (.slice none 0 0))
  replace F : Below W.heap.size W (put5 v b5 (.int .i64 1) (.int .u64 r.nd) (.slice none 0 0) (.string ⟨#[]⟩) (.slice none 0 0)) := (((((F.setCell (p := ⟨b5, 0, none⟩) (HDm.out.2.1) (.int .i64 1)).setCell (p := ⟨b5, 1, none⟩) (HDm.out.2.1) (.int .u64 r.nd)).setCell (p := ⟨b5, 2, none⟩) (HDm.out.2.1) (.slice none 0 0)).setCell (p := ⟨b5, 3, none⟩) (HDm.out.2.1) (.string ⟨#[]⟩)).setCell (p := ⟨b5, 4, none⟩) (HDm.out.2.1) (.slice none 0 0))
  have hsz : (put5 v b5 (.int .i64 1) (.int .u64 r.nd) (.slice none 0 0) (.string ⟨#[]⟩) (.slice none 0 0)).heap.size = v.heap.size := by simp [put5]
  replace HV : Hid (w2.heap.size ≤ (put5 v b5 (.int .i64 1) (.int .u64 r.nd) (.slice none 0 0) (.string ⟨#[]⟩) (.slice none 0 0)).heap.size) := by rw [Hid, hsz]; exact HV.out
  replace HG : Hid ((w2.heap.size ≤ b4 ∧ b4 < (put5 v b5 (.int .i64 1) (.int .u64 r.nd) (.slice none 0 0) (.string ⟨#[]⟩) (.slice none 0 0)).heap.size) ∧ (w2.heap.size ≤ b5 ∧ b5 < (put5 v b5 (.int .i64 1) (.int .u64 r.nd) (.slice none 0 0) (.string ⟨#[]⟩) (.slice none 0 0)).heap.size) ∧ (w2.heap.size ≤ b6 ∧ b6 < (put5 v b5 (.int .i64 1) (.int .u64 r.nd) (.slice none 0 0) (.string ⟨#[]⟩) (.slice none 0 0)).heap.size) ∧ (w2.heap.size ≤ b7 ∧ b7 < (put5 v b5 (.int .i64 1) (.int .u64 r.nd) (.slice none 0 0) (.string ⟨#[]⟩) (.slice none 0 0)).heap.size)) := by rw [Hid, hsz]; exact HG.out
  clear hsz
  generalize put5 v b5 (.int .i64 1) (.int .u64 r.nd) (.slice none 0 0) (.string ⟨#[]⟩) (.slice none 0 0) = v at *
  refine wpAny_one (i := 20) (by kernel_rfl) rfl (fun K hK => ?_)
  obtain ⟨c0, c1, c2, c3, c4⟩ := r5 R6
  obtain ⟨f0, f1, f2, f3, f4⟩ := f5 R6
  have HK := h_ hK
  clear hK
  go_simp
  have hK := HK.out
  refine hK _ (put5 v b6 (.int .i64 1) (.int .u64 r.rg) (.slice none 0 0) (.string ⟨#[]⟩) (.slice none 0 0)) ?_
  clear hK HK K c0 c1 c2 c3 c4 f0 f1 f2 f3 f4
  try simp only [Act.put, zA, zB, zC]
  replace R3 : RowB (put5 v b6 (.int .i64 1) (.int .u64 r.rg) (.slice none 0 0) (.string ⟨#[]⟩) (.slice none 0 0)) _ _ := (((((R3.other (i := 0) (HM.out.2.2.1) (.int .i64 1)).other (i := 1) (HM.out.2.2.1) (.int .u64 r.rg)).other (i := 2) (HM.out.2.2.1) (.slice none 0 0)).other (i := 3) (HM.out.2.2.1) (.string ⟨#[]⟩)).other (i := 4) (HM.out.2.2.1) (.slice none 0 0))
  replace R4 : RowB (put5 v b6 (.int .i64 1) (.int .u64 r.rg) (.slice none 0 0) (.string ⟨#[]⟩) (.slice none 0 0)) _ _ := (((((R4.other (i := 0) (Ne.symm (HN.out.2.1)) (.int .i64 1)).other (i := 1) (Ne.symm (HN.out.2.1)) (.int .u64 r.rg)).other (i := 2) (Ne.symm (HN.out.2.1)) (.slice none 0 0)).other (i := 3) (Ne.symm (HN.out.2.1)) (.string ⟨#[]⟩)).other (i := 4) (Ne.symm (HN.out.2.1)) (.slice none 0 0))
  replace R5 : RowB (put5 v b6 (.int .i64 1) (.int .u64 r.rg) (.slice none 0 0) (.string ⟨#[]⟩) (.slice none 0 0)) _ _ := (((((R5.other (i := 0) (Ne.symm (HN.out.2.2.2.1)) (.int .i64 1)).other (i := 1) (Ne.symm (HN.out.2.2.2.1)) (.int .u64 r.rg)).other (i := 2) (Ne.symm (HN.out.2.2.2.1)) (.slice none 0 0)).other (i := 3) (Ne.symm (HN.out.2.2.2.1)) (.string ⟨#[]⟩)).other (i := 4) (Ne.symm (HN.out.2.2.2.1)) (.slice none 0 0))
  replace R7 : RowB (put5 v b6 (.int .i64 1) (.int .u64 r.rg) (.slice none 0 0) (.string ⟨#[]⟩) (.slice none 0 0)) _ _ := (((((R7.other (i := 0) (HN.out.2.2.2.2.2) (.int .i64 1)).other (i := 1) (HN.out.2.2.2.2.2) (.int .u64 r.rg)).other (i := 2) (HN.out.2.2.2.2.2) (.slice none 0 0)).other (i := 3) (HN.out.2.2.2.2.2) (.string ⟨#[]⟩)).other (i := 4) (HN.out.2.2.2.2.2) (.slice none 0 0))
  replace R6 : RowB (put5 v b6 (.int .i64 1) (.int .u64 r.rg) (.slice none 0 0) (.string ⟨#[]⟩) (.slice none 0 0)) b6 [.int .i64 1, .int .u64 r.rg, .slice none 0 0, .string ⟨#[]⟩, .slice none 0 0] := (((((R6.set 0 (.int .i64 1)).set 1 (.int .u64 r.rg)).set 2 (.slice none 0 0)).set 3 (.string ⟨#[]⟩)).set 4 (.slice none 0 0))
  replace F : Below W.heap.size W (put5 v b6 (.int .i64 1) (.int .u64 r.rg) (.slice none 0 0) (.string ⟨#[]⟩) (.slice none 0 0)) := (((((F.setCell (p := ⟨b6, 0, none⟩) (HDm.out.2.2.1) (.int .i64 1)).setCell (p := ⟨b6, 1, none⟩) (HDm.out.2.2.1) (.int .u64 r.rg)).setCell (p := ⟨b6, 2, none⟩) (HDm.out.2.2.1) (.slice none 0 0)).setCell (p := ⟨b6, 3, none⟩) (HDm.out.2.2.1) (.string ⟨#[]⟩)).setCell (p := ⟨b6, 4, none⟩) (HDm.out.2.2.1) (.slice none 0 0))
  have hsz : (put5 v b6 (.int .i64 1) (.int .u64 r.rg) (.slice none 0 0) (.string ⟨#[]⟩) (.slice none 0 0)).heap.size = v.heap.size := by simp [put5]
  replace HV : Hid (w2.heap.size ≤ (put5 v b6 (.int .i64 1) (.int .u64 r.rg) (.slice none 0 0) (.string ⟨#[]⟩) (.slice none 0 0)).heap.size) := by rw [Hid, hsz]; exact HV.out
  replace HG : Hid ((w2.heap.size ≤ b4 ∧ b4 < (put5 v b6 (.int .i64 1) (.int .u64 r.rg) (.slice none 0 0) (.string ⟨#[]⟩) (.slice none 0 0)).heap.size) ∧ (w2.heap.size ≤ b5 ∧ b5 < (put5 v b6 (.int .i64 1) (.int .u64 r.rg) (.slice none 0 0) (.string ⟨#[]⟩) (.slice none 0 0)).heap.size) ∧ (w2.heap.size ≤ b6 ∧ b6 < (put5 v b6 (.int .i64 1) (.int .u64 r.rg) (.slice none 0 0) (.string ⟨#[]⟩) (.slice none 0 0)).heap.size) ∧ (w2.heap.size ≤ b7 ∧ b7 < (put5 v b6 (.int .i64 1) (.int .u64 r.rg) (.slice none 0 0) (.string ⟨#[]⟩) (.slice none 0 0)).heap.size)) := by rw [Hid, hsz]; exact HG.out
  clear hsz
  generalize put5 v b6 (.int .i64 1) (.int .u64 r.rg) (.slice none 0 0) (.string ⟨#[]⟩) (.slice none 0 0) = v at *
  refine wpAny_one (i := 21) (by kernel_rfl) rfl (fun K hK => ?_)
  obtain ⟨c0, c1, c2, c3, c4⟩ := r5 R7
  obtain ⟨f0, f1, f2, f3, f4⟩ := f5 R7
  have HK := h_ hK
  clear hK
  go_simp
  have hK := HK.out
  refine hK _ (put5 v b7 (.int .i64 5) (.int .u64 (boN r.ys)) (.slice none 0 0) (.string ⟨#[]⟩) (.slice none 0 0)) ?_
  clear hK HK K c0 c1 c2 c3 c4 f0 f1 f2 f3 f4
  try simp only [Act.put, zA, zB, zC]
  replace R3 : RowB (put5 v b7 (.int .i64 5) (.int .u64 (boN r.ys)) (.slice none 0 0) (.string ⟨#[]⟩) (.slice none 0 0)) _ _ := (((((R3.other (i := 0) (HM.out.2.2.2) (.int .i64 5)).other (i := 1) (HM.out.2.2.2) (.int .u64 (boN r.ys))).other (i := 2) (HM.out.2.2.2) (.slice none 0 0)).other (i := 3) (HM.out.2.2.2) (.string ⟨#[]⟩)).other (i := 4) (HM.out.2.2.2) (.slice none 0 0))
  replace R4 : RowB (put5 v b7 (.int .i64 5) (.int .u64 (boN r.ys)) (.slice none 0 0) (.string ⟨#[]⟩) (.slice none 0 0)) _ _ := (((((R4.other (i := 0) (Ne.symm (HN.out.2.2.1)) (.int .i64 5)).other (i := 1) (Ne.symm (HN.out.2.2.1)) (.int .u64 (boN r.ys))).other (i := 2) (Ne.symm (HN.out.2.2.1)) (.slice none 0 0)).other (i := 3) (Ne.symm (HN.out.2.2.1)) (.string ⟨#[]⟩)).other (i := 4) (Ne.symm (HN.out.2.2.1)) (.slice none 0 0))
  replace R5 : RowB (put5 v b7 (.int .i64 5) (.int .u64 (boN r.ys)) (.slice none 0 0) (.string ⟨#[]⟩) (.slice none 0 0)) _ _ := (((((R5.other (i := 0) (Ne.symm (HN.out.2.2.2.2.1)) (.int .i64 5)).other (i := 1) (Ne.symm (HN.out.2.2.2.2.1)) (.int .u64 (boN r.ys))).other (i := 2) (Ne.symm (HN.out.2.2.2.2.1)) (.slice none 0 0)).other (i := 3) (Ne.symm (HN.out.2.2.2.2.1)) (.string ⟨#[]⟩)).other (i := 4) (Ne.symm (HN.out.2.2.2.2.1)) (.slice none 0 0))
  replace R6 : RowB (put5 v b7 (.int .i64 5) (.int .u64 (boN r.ys)) (.slice none 0 0) (.string ⟨#[]⟩) (.slice none 0 0)) _ _ := (((((R6.other (i := 0) (Ne.symm (HN.out.2.2.2.2.2)) (.int .i64 5)).other (i := 1) (Ne.symm (HN.out.2.2.2.2.2)) (.int .u64 (boN r.ys))).other (i := 2) (Ne.symm (HN.out.2.2.2.2.2)) (.slice none 0 0)).other (i := 3) (Ne.symm (HN.out.2.2.2.2.2)) (.string ⟨#[]⟩)).other (i := 4) (Ne.symm (HN.out.2.2.2.2.2)) (.slice none 0 0))
  replace R7 : RowB (put5 v b7 (.int .i64 5) (.int .u64 (boN r.ys)) (.slice none 0 0) (.string ⟨#[]⟩) (.slice none 0 0)) b7 [.int .i64 5, .int .u64 (boN r.ys), .slice none 0 0, .string ⟨#[]⟩, .slice none 0 0] := (((((R7.set 0 (.int .i64 5)).set 1 (.int .u64 (boN r.ys))).set 2 (.slice none 0 0)).set 3 (.string ⟨#[]⟩)).set 4 (.slice none 0 0))
  replace F : Below W.heap.size W (put5 v b7 (.int .i64 5) (.int .u64 (boN r.ys)) (.slice none 0 0) (.string ⟨#[]⟩) (.slice none 0 0)) := (((((F.setCell (p := ⟨b7, 0, none⟩) (HDm.out.2.2.2) (.int .i64 5)).setCell (p := ⟨b7, 1, none⟩) (HDm.out.2.2.2) (.int .u64 (boN r.ys))).setCell (p := ⟨b7, 2, none⟩) (HDm.out.2.2.2) (.slice none 0 0)).setCell (p := ⟨b7, 3, none⟩) (HDm.out.2.2.2) (.string ⟨#[]⟩)).setCell (p := ⟨b7, 4, none⟩) (HDm.out.2.2.2) (.slice none 0 0))
  have hsz : (put5 v b7 (.int .i64 5) (.int .u64 (boN r.ys)) (.slice none 0 0) (.string ⟨#[]⟩) (.slice none 0 0)).heap.size = v.heap.size := by simp [put5]
  replace HV : Hid (w2.heap.size ≤ (put5 v b7 (.int .i64 5) (.int .u64 (boN r.ys)) (.slice none 0 0) (.string ⟨#[]⟩) (.slice none 0 0)).heap.size) := by rw [Hid, hsz]; exact HV.out
  replace HG : Hid ((w2.heap.size ≤ b4 ∧ b4 < (put5 v b7 (.int .i64 5) (.int .u64 (boN r.ys)) (.slice none 0 0) (.string ⟨#[]⟩) (.slice none 0 0)).heap.size) ∧ (w2.heap.size ≤ b5 ∧ b5 < (put5 v b7 (.int .i64 5) (.int .u64 (boN r.ys)) (.slice none 0 0) (.string ⟨#[]⟩) (.slice none 0 0)).heap.size) ∧ (w2.heap.size ≤ b6 ∧ b6 < (put5 v b7 (.int .i64 5) (.int .u64 (boN r.ys)) (.slice none 0 0) (.string ⟨#[]⟩) (.slice none 0 0)).heap.size) ∧ (w2.heap.size ≤ b7 ∧ b7 < (put5 v b7 (.int .i64 5) (.int .u64 (boN r.ys)) (.slice none 0 0) (.string ⟨#[]⟩) (.slice none 0 0)).heap.size)) := by rw [Hid, hsz]; exact HG.out
  clear hsz
  generalize put5 v b7 (.int .i64 5) (.int .u64 (boN r.ys)) (.slice none 0 0) (.string ⟨#[]⟩) (.slice none 0 0) = v at *
  refine ⟨by kernel_rfl, ?_⟩
  have HL := HL3.out
  have HGo := HG.out
  have HVo := HV.out
  have HXF : Hid (∀ w', Below v.heap.size v w' → ((w'.cell? ⟨w.heap.size, 0, none⟩ = some (.int .i64 r.k) ∧ w'.cell? ⟨w.heap.size, 1, none⟩ = some (.int .u32 r.n) ∧ w'.cell? ⟨w.heap.size, 2, none⟩ = some (.int .u32 r.m) ∧ w'.cell? ⟨w.heap.size, 3, none⟩ = some (.int .u64 r.t) ∧ w'.cell? ⟨w.heap.size, 4, none⟩ = some (.int .u32 r.q) ∧ w'.cell? ⟨w.heap.size, 5, none⟩ = some (.int .i64 r.wh) ∧ w'.cell? ⟨w.heap.size, 6, none⟩ = some (.int .i64 r.wy) ∧ w'.cell? ⟨w.heap.size, 7, none⟩ = some (.int .u64 r.at0) ∧ w'.cell? ⟨w.heap.size, 8, none⟩ = some (.int .u64 r.no) ∧ w'.cell? ⟨w.heap.size, 9, none⟩ = some (.int .u32 r.nd) ∧ w'.cell? ⟨w.heap.size, 10, none⟩ = some (.int .u32 r.rg) ∧ w'.cell? ⟨w.heap.size, 11, none⟩ = some (.bool r.ys) ∧ w'.cell? ⟨w.heap.size, 12, none⟩ = some (.int .u64 r.fr) ∧ w'.cell? ⟨w.heap.size, 13, none⟩ = some (.int .u64 r.un) ∧ w'.cell? ⟨w.heap.size, 14, none⟩ = some (.int .u8 r.lv)) ∧ (w'.cell? ⟨w1.heap.size, 0, none⟩ = some (.int .i64 1) ∧ w'.cell? ⟨w1.heap.size, 1, none⟩ = some (.int .u64 r.k) ∧ w'.cell? ⟨w1.heap.size, 2, none⟩ = some (.slice none 0 0) ∧ w'.cell? ⟨w1.heap.size, 3, none⟩ = some (.string ⟨#[]⟩) ∧ w'.cell? ⟨w1.heap.size, 4, none⟩ = some (.slice none 0 0)) ∧ (w'.cell? ⟨b4, 0, none⟩ = some (.int .i64 1) ∧ w'.cell? ⟨b4, 1, none⟩ = some (.int .u64 r.no) ∧ w'.cell? ⟨b4, 2, none⟩ = some (.slice none 0 0) ∧ w'.cell? ⟨b4, 3, none⟩ = some (.string ⟨#[]⟩) ∧ w'.cell? ⟨b4, 4, none⟩ = some (.slice none 0 0)) ∧ (w'.cell? ⟨b5, 0, none⟩ = some (.int .i64 1) ∧ w'.cell? ⟨b5, 1, none⟩ = some (.int .u64 r.nd) ∧ w'.cell? ⟨b5, 2, none⟩ = some (.slice none 0 0) ∧ w'.cell? ⟨b5, 3, none⟩ = some (.string ⟨#[]⟩) ∧ w'.cell? ⟨b5, 4, none⟩ = some (.slice none 0 0)) ∧ (w'.cell? ⟨b6, 0, none⟩ = some (.int .i64 1) ∧ w'.cell? ⟨b6, 1, none⟩ = some (.int .u64 r.rg) ∧ w'.cell? ⟨b6, 2, none⟩ = some (.slice none 0 0) ∧ w'.cell? ⟨b6, 3, none⟩ = some (.string ⟨#[]⟩) ∧ w'.cell? ⟨b6, 4, none⟩ = some (.slice none 0 0)) ∧ (w'.cell? ⟨b7, 0, none⟩ = some (.int .i64 5) ∧ w'.cell? ⟨b7, 1, none⟩ = some (.int .u64 (boN r.ys)) ∧ w'.cell? ⟨b7, 2, none⟩ = some (.slice none 0 0) ∧ w'.cell? ⟨b7, 3, none⟩ = some (.string ⟨#[]⟩) ∧ w'.cell? ⟨b7, 4, none⟩ = some (.slice none 0 0))) ∧ RowB w' (w.heap.size + 1) [.int .i64 0, .int .u64 0, .slice none 0 0, .string ⟨#[]⟩, .slice none 0 0]) := fun w' h => by
   obtain ⟨hx, hr⟩ := HX.out w' (F.trans (h.mono F.size))
   have q3 := R3.on h (by omega)
   have q4 := R4.on h (by omega)
   have q5 := R5.on h (by omega)
   have q6 := R6.on h (by omega)
   have q7 := R7.on h (by omega)
   exact ⟨⟨hx, ⟨q3.1 0 _ rfl, q3.1 1 _ rfl, q3.1 2 _ rfl, q3.1 3 _ rfl, q3.1 4 _ rfl⟩, ⟨q4.1 0 _ rfl, q4.1 1 _ rfl, q4.1 2 _ rfl, q4.1 3 _ rfl, q4.1 4 _ rfl⟩, ⟨q5.1 0 _ rfl, q5.1 1 _ rfl, q5.1 2 _ rfl, q5.1 3 _ rfl, q5.1 4 _ rfl⟩, ⟨q6.1 0 _ rfl, q6.1 1 _ rfl, q6.1 2 _ rfl, q6.1 3 _ rfl, q6.1 4 _ rfl⟩, ⟨q7.1 0 _ rfl, q7.1 1 _ rfl, q7.1 2 _ rfl, q7.1 3 _ rfl, q7.1 4 _ rfl⟩⟩, hr⟩
  have HB3 : Hid (Below w.heap.size w v) := HB0.out.trans (F.mono HB0.out.size)
  have hHs : w.heap.size + 2 ≤ v.heap.size := by have := HS0.out; have := F.size; omega
  have HSv := h_ hHs
  have HWk : Hid (IntKind.u64.wrap r.k = r.k) := by rw [Hid, IntKind.wrap_u64]; omega
  clear F R3 R4 R5 R6 R7 HG HM HN HDm HL HGo hHs HV HVo
  simp only [Exit.then]
  have hkk : r.k = 1 ∨ r.k = 2 ∨ r.k = 3 ∨ r.k = 4 ∨ r.k = 5 := by omega
  rcases hkk with hk | hk | hk | hk | hk
  ·have HK : Hid (r.k.toNat = 1) := by rw [Hid, hk]; rfl
   have kt1 : (r.k == 1) = true := by simp [hk]
   have HNok := h_ (HMay.out hk)
   clear hk
   obtain ⟨⟨⟨x0, x1, x2, x3, x4, x5, x6, x7, x8, x9, x10, x11, x12, x13, x14⟩, ⟨y30, y31, y32, y33, y34⟩, ⟨y40, y41, y42, y43, y44⟩, ⟨y50, y51, y52, y53, y54⟩, ⟨y60, y61, y62, y63, y64⟩, ⟨y70, y71, y72, y73, y74⟩⟩, hrow⟩ := HXF.out v bR
   clear hrow
   go_upto_region 5 with fail
   clear kt1
   clear x0 x1 x2 x3 x4 x5 x6 x7 x8 x9 x10 x11 x12 x13 x14 y30 y31 y32 y33 y34 y40 y41 y42 y43 y44 y50 y51 y52 y53 y54 y60 y61 y62 y63 y64 y70 y71 y72 y73 y74
   have F : Below v.heap.size v v.drew := bR.drew
   refine wp_region_T (fun w' => ((w'.cell? ⟨w.heap.size, 0, none⟩ = some (.int .i64 r.k) ∧ w'.cell? ⟨w.heap.size, 1, none⟩ = some (.int .u32 r.n) ∧ w'.cell? ⟨w.heap.size, 2, none⟩ = some (.int .u32 r.m) ∧ w'.cell? ⟨w.heap.size, 3, none⟩ = some (.int .u64 r.t) ∧ w'.cell? ⟨w.heap.size, 4, none⟩ = some (.int .u32 r.q) ∧ w'.cell? ⟨w.heap.size, 5, none⟩ = some (.int .i64 r.wh) ∧ w'.cell? ⟨w.heap.size, 6, none⟩ = some (.int .i64 r.wy) ∧ w'.cell? ⟨w.heap.size, 7, none⟩ = some (.int .u64 r.at0) ∧ w'.cell? ⟨w.heap.size, 8, none⟩ = some (.int .u64 r.no) ∧ w'.cell? ⟨w.heap.size, 9, none⟩ = some (.int .u32 r.nd) ∧ w'.cell? ⟨w.heap.size, 10, none⟩ = some (.int .u32 r.rg) ∧ w'.cell? ⟨w.heap.size, 11, none⟩ = some (.bool r.ys) ∧ w'.cell? ⟨w.heap.size, 12, none⟩ = some (.int .u64 r.fr) ∧ w'.cell? ⟨w.heap.size, 13, none⟩ = some (.int .u64 r.un) ∧ w'.cell? ⟨w.heap.size, 14, none⟩ = some (.int .u8 r.lv)) ∧ (w'.cell? ⟨w1.heap.size, 0, none⟩ = some (.int .i64 1) ∧ w'.cell? ⟨w1.heap.size, 1, none⟩ = some (.int .u64 r.k) ∧ w'.cell? ⟨w1.heap.size, 2, none⟩ = some (.slice none 0 0) ∧ w'.cell? ⟨w1.heap.size, 3, none⟩ = some (.string ⟨#[]⟩) ∧ w'.cell? ⟨w1.heap.size, 4, none⟩ = some (.slice none 0 0)) ∧ (w'.cell? ⟨b4, 0, none⟩ = some (.int .i64 1) ∧ w'.cell? ⟨b4, 1, none⟩ = some (.int .u64 r.no) ∧ w'.cell? ⟨b4, 2, none⟩ = some (.slice none 0 0) ∧ w'.cell? ⟨b4, 3, none⟩ = some (.string ⟨#[]⟩) ∧ w'.cell? ⟨b4, 4, none⟩ = some (.slice none 0 0)) ∧ (w'.cell? ⟨b5, 0, none⟩ = some (.int .i64 1) ∧ w'.cell? ⟨b5, 1, none⟩ = some (.int .u64 r.nd) ∧ w'.cell? ⟨b5, 2, none⟩ = some (.slice none 0 0) ∧ w'.cell? ⟨b5, 3, none⟩ = some (.string ⟨#[]⟩) ∧ w'.cell? ⟨b5, 4, none⟩ = some (.slice none 0 0)) ∧ (w'.cell? ⟨b6, 0, none⟩ = some (.int .i64 1) ∧ w'.cell? ⟨b6, 1, none⟩ = some (.int .u64 r.rg) ∧ w'.cell? ⟨b6, 2, none⟩ = some (.slice none 0 0) ∧ w'.cell? ⟨b6, 3, none⟩ = some (.string ⟨#[]⟩) ∧ w'.cell? ⟨b6, 4, none⟩ = some (.slice none 0 0)) ∧ (w'.cell? ⟨b7, 0, none⟩ = some (.int .i64 5) ∧ w'.cell? ⟨b7, 1, none⟩ = some (.int .u64 (boN r.ys)) ∧ w'.cell? ⟨b7, 2, none⟩ = some (.slice none 0 0) ∧ w'.cell? ⟨b7, 3, none⟩ = some (.string ⟨#[]⟩) ∧ w'.cell? ⟨b7, 4, none⟩ = some (.slice none 0 0)))) 17 (by kernel_rfl) ?_
   refine wpAnyT_take (i := 0) (v := ?_) rfl (by kernel_rfl) (by kernel_rfl) (by kernel_rfl) (by kernel_rfl) (fun _ _ _ h => h) (Or.inl ⟨by rfl, ?_⟩) (HXF.out _ F).1 ?_
   rotate_left
   ·intro w hSw; go_simp; all_goals with_reducible rfl
   simp only [Act.put, zA, zB, zC]
   refine wpAnyT_take (i := 1) (v := ?_) rfl (by kernel_rfl) (by kernel_rfl) (by kernel_rfl) (by kernel_rfl) (fun _ _ _ h => h) (Or.inl ⟨by rfl, ?_⟩) (HXF.out _ F).1 ?_
   rotate_left
   ·intro w hSw; go_simp; all_goals with_reducible rfl
   simp only [Act.put, zA, zB, zC]
   refine wpAnyT_take (i := 2) (v := ?_) rfl (by kernel_rfl) (by kernel_rfl) (by kernel_rfl) (by kernel_rfl) (fun _ _ _ h => h) (Or.inl ⟨by rfl, ?_⟩) (HXF.out _ F).1 ?_
   rotate_left
   ·intro w hSw; go_simp; all_goals with_reducible rfl
   simp only [Act.put, zA, zB, zC]
   refine wpAnyT_take (i := 4) (v := ?_) rfl (by kernel_rfl) (by kernel_rfl) (by kernel_rfl) (by kernel_rfl) (fun _ _ _ h => h) (Or.inl ⟨by rfl, ?_⟩) (HXF.out _ F).1 ?_
   rotate_left
   ·intro w hSw; go_simp; all_goals with_reducible rfl
   simp only [Act.put, zA, zB, zC]
   refine wpAnyT_take (i := 5) (v := ?_) rfl (by kernel_rfl) (by kernel_rfl) (by kernel_rfl) (by kernel_rfl) (fun _ _ _ h => h) (Or.inl ⟨by rfl, ?_⟩) (HXF.out _ F).1 ?_
   rotate_left
   ·intro w hSw; go_simp; all_goals with_reducible rfl
   simp only [Act.put, zA, zB, zC]
   refine wpAnyT_take (i := 6) (v := ?_) rfl (by kernel_rfl) (by kernel_rfl) (by kernel_rfl) (by kernel_rfl) (fun _ _ _ h => h) (Or.inl ⟨by rfl, ?_⟩) (HXF.out _ F).1 ?_
   rotate_left
   ·intro w hSw; go_simp; all_goals with_reducible rfl
   simp only [Act.put, zA, zB, zC]
   refine wpAnyT_take (i := 8) (v := ?_) rfl (by kernel_rfl) (by kernel_rfl) (by kernel_rfl) (by kernel_rfl) (fun _ _ _ h => h) (Or.inl ⟨by rfl, ?_⟩) (HXF.out _ F).1 ?_
   rotate_left
   ·intro w hSw; go_simp; all_goals with_reducible rfl
   simp only [Act.put, zA, zB, zC]
   refine wpAnyT_take (i := 9) (v := ?_) rfl (by kernel_rfl) (by kernel_rfl) (by kernel_rfl) (by kernel_rfl) (fun _ _ _ h => h) (Or.inl ⟨by rfl, ?_⟩) (HXF.out _ F).1 ?_
   rotate_left
   ·intro w hSw; go_simp; all_goals with_reducible rfl
   simp only [Act.put, zA, zB, zC]
   refine wpAnyT_take (i := 10) (v := ?_) rfl (by kernel_rfl) (by kernel_rfl) (by kernel_rfl) (by kernel_rfl) (fun _ _ _ h => h) (Or.inl ⟨by rfl, ?_⟩) (HXF.out _ F).1 ?_
   rotate_left
   ·intro w hSw; go_simp; all_goals with_reducible rfl
   simp only [Act.put, zA, zB, zC]
   refine wpAnyT_take (i := 12) (v := ?_) rfl (by kernel_rfl) (by kernel_rfl) (by kernel_rfl) (by kernel_rfl) (fun _ _ _ h => h) (Or.inl ⟨by rfl, ?_⟩) (HXF.out _ F).1 ?_
   rotate_left
   ·intro w hSw; go_simp; all_goals with_reducible rfl
   simp only [Act.put, zA, zB, zC]
   refine wpAnyT_take (i := 13) (v := ?_) rfl (by kernel_rfl) (by kernel_rfl) (by kernel_rfl) (by kernel_rfl) (fun _ _ _ h => h) (Or.inl ⟨by rfl, ?_⟩) (HXF.out _ F).1 ?_
   rotate_left
   ·intro w hSw; go_simp; all_goals with_reducible rfl
   simp only [Act.put, zA, zB, zC]
   refine wpAnyT_one (i := 3) (by kernel_rfl) rfl (fun K hK => ?_)
   go_simp
   refine ((refNItem_any r.n r.m r.t r.q (NmT.may_iff.1 HNok.out).1 HOk.out.nm.1.1 HOk.out.nm.1.2 HOk.out.nm.2.1 HOk.out.nm.2.2 _)).mono ?_
   rintro e v0 ⟨na, nc, nA, nC, rfl, HN, hb⟩
   replace HN : ItS v0 (newB v v0) (.agg #[.int .i64 4, .int .u64 0, .slice na 0 nc, .string ⟨#[]⟩, .slice nA 3 nC]) r.name.it := by rw [NmT.it, if_pos HNok.out]; exact HN.from_ F.size
   replace F := below_on F hb
   clear hb
   refine hK.out _ _ (fun _ => (HXF.out _ F).1) ?_
   clear hK K
   try simp only [Act.put, zA, zB, zC]
   refine wpAnyT_one (i := 7) (by kernel_rfl) rfl (fun K hK => ?_)
   go_simp
   refine (refUint_any (IntKind.u64.wrap r.wh) _).mono ?_
   rintro e v1 ⟨rfl, hb⟩
   replace F := below_on F hb
   replace HN := HN.new_on hb
   clear hb
   refine hK.out _ _ (fun _ => (HXF.out _ F).1) ?_
   clear hK K
   try simp only [Act.put, zA, zB, zC]
   refine wpAnyT_one (i := 11) (by kernel_rfl) rfl (fun K hK => ?_)
   go_simp
   refine (refUint_any (IntKind.u64.wrap r.wy) _).mono ?_
   rintro e v2 ⟨rfl, hb⟩
   replace F := below_on F hb
   replace HN := HN.new_on hb
   clear hb
   refine hK.out _ _ (fun _ => (HXF.out _ F).1) ?_
   clear hK K
   try simp only [Act.put, zA, zB, zC]
   refine wpAnyT_one (i := 14) (by kernel_rfl) rfl (fun K hK => ?_)
   go_simp
   refine (refUint_any r.at0 _).mono ?_
   rintro e v3 ⟨rfl, hb⟩
   replace F := below_on F hb
   replace HN := HN.new_on hb
   clear hb
   refine hK.out _ _ (fun _ => (HXF.out _ F).1) ?_
   clear hK K
   try simp only [Act.put, zA, zB, zC]
   refine wpAnyT_one (i := 15) (by kernel_rfl) rfl (fun K hK => ?_)
   go_simp
   obtain ⟨vc, hvc⟩ : ∃ V, V = v3.alloc (.cells #[.int .i64 1, .int .u64 r.k, .slice none 0 0, .string ⟨#[]⟩, .slice none 0 0, .int .i64 4, .int .u64 0, .slice na 0 nc, .string ⟨#[]⟩, .slice nA 3 nC, .int .i64 1, .int .u64 (IntKind.u64.wrap r.wh), .slice none 0 0, .string ⟨#[]⟩, .slice none 0 0, .int .i64 1, .int .u64 (IntKind.u64.wrap r.wy), .slice none 0 0, .string ⟨#[]⟩, .slice none 0 0, .int .i64 1, .int .u64 r.at0, .slice none 0 0, .string ⟨#[]⟩, .slice none 0 0] 45) := ⟨_, rfl⟩
   have hb : Below v3.heap.size v3 vc := by rw [hvc]; exact below_al bR _
   have G1 : v.heap.size ≤ v3.heap.size := F.size
   replace F := below_on F hb
   replace HN := HN.new_on hb
   have hcel : ∀ (j : Nat) (u : Value), [.int .i64 1, .int .u64 r.k, .slice none 0 0, .string ⟨#[]⟩, .slice none 0 0, .int .i64 4, .int .u64 0, .slice na 0 nc, .string ⟨#[]⟩, .slice nA 3 nC, .int .i64 1, .int .u64 (IntKind.u64.wrap r.wh), .slice none 0 0, .string ⟨#[]⟩, .slice none 0 0, .int .i64 1, .int .u64 (IntKind.u64.wrap r.wy), .slice none 0 0, .string ⟨#[]⟩, .slice none 0 0, .int .i64 1, .int .u64 r.at0, .slice none 0 0, .string ⟨#[]⟩, .slice none 0 0][j]? = some u → vc.cell? ⟨v3.heap.size, 0 + j, none⟩ = some u := fun j u hu => by
    rw [hvc, Nat.zero_add, World.cell?_alloc_mark]
    simpa using hu
   have hSg : newB v vc v3.heap.size := ⟨G1, by rw [hvc]; simp⟩
   have hli : LI vc (newB v vc) [.int .i64 1, .int .u64 r.k, .slice none 0 0, .string ⟨#[]⟩, .slice none 0 0, .int .i64 4, .int .u64 0, .slice na 0 nc, .string ⟨#[]⟩, .slice nA 3 nC, .int .i64 1, .int .u64 (IntKind.u64.wrap r.wh), .slice none 0 0, .string ⟨#[]⟩, .slice none 0 0, .int .i64 1, .int .u64 (IntKind.u64.wrap r.wy), .slice none 0 0, .string ⟨#[]⟩, .slice none 0 0, .int .i64 1, .int .u64 r.at0, .slice none 0 0, .string ⟨#[]⟩, .slice none 0 0] [itU (IntKind.u64.wrap r.k), r.name.it, itU (IntKind.u64.wrap r.wh), itU (IntKind.u64.wrap r.wy), itU r.at0] := (dliCons (by rw [HWk.out]; exact itS_uint _ _ r.k ⟨by omega, by omega⟩) (dliCons HN (dliCons (itS_uint _ _ _ (u64_wrap r.wh)) (dliCons (itS_uint _ _ _ (u64_wrap r.wy)) (LI.one (itS_uint _ _ (r.at0 : Int) ⟨by omega, by have := HOk.out.at0; omega⟩))))))
   have HIt : Hid (ItS vc (newB v vc) (listV (some ⟨v3.heap.size, 0, none⟩) 5 5) (itLs [itU (IntKind.u64.wrap r.k), r.name.it, itU (IntKind.u64.wrap r.wh), itU (IntKind.u64.wrap r.wy), itU r.at0])) := itS_list rfl (Nat.le_refl _) (by decide) hSg (LI.itSL hli hcel)
   rw [← hvc]
   clear hvc hb hcel hSg hli G1 HN
   refine hK.out _ _ (fun _ => (HXF.out _ F).1) ?_
   clear hK K
   try simp only [Act.put, zA, zB, zC]
   refine wpAnyT_one (i := 16) (by kernel_rfl) rfl (fun K hK => ?_)
   go_simp
   refine (refList_any _ _ _ _).mono ?_
   rintro e wL ⟨rfl, hb⟩
   have HIL := h_ (HIt.out.new_on hb)
   replace F := below_on F hb
   clear hb
   obtain ⟨_, hbx⟩ := HXF.out wL F
   obtain ⟨d0, d1, d2, d3, d4⟩ := r5 hbx
   obtain ⟨f0, f1, f2, f3, f4⟩ := f5 hbx
   clear hbx
   refine hK.out _ _ (fun _ => (HXF.out _ F).1) ?_
   clear hK K
   try simp only [Act.put, zA, zB, zC]
   refine wpAnyT_one (i := 17) (by kernel_rfl) rfl (fun K hK => ?_)
   go_simp
   refine hK.out _ _ (fun h => absurd h (by decide)) ?_
   clear hK K
   try simp only [Act.put, zA, zB, zC]
   refine wpAnyT_done (by kernel_rfl) ?_ _
   have HF0 := h_ F
   clear F
   have hHs := HSv.out
   have hFo := HF0.out.size
   have hq := put5_cells d0 d1 d2 d3 d4 (.int .i64 4) (.int .u64 0) (.slice none 0 0) (.string ⟨#[]⟩) (.slice (some ⟨v3.heap.size, 0, none⟩) 5 5)
   have hbel := put5_bel (b := w.heap.size + 1) (HB3.out.trans (HF0.out.mono HB3.out.size)) (by omega) (.int .i64 4) (.int .u64 0) (.slice none 0 0) (.string ⟨#[]⟩) (.slice (some ⟨v3.heap.size, 0, none⟩) 5 5)
   have hit := put5_S HIL.out (b := w.heap.size + 1) (by omega) (.int .i64 4) (.int .u64 0) (.slice none 0 0) (.string ⟨#[]⟩) (.slice (some ⟨v3.heap.size, 0, none⟩) 5 5)
   have HF := h_ (⟨hq, hbel, hit⟩ : _ ∧ _ ∧ _)
   clear hq hbel hit d0 d1 d2 d3 d4 f0 f1 f2 f3 f4 hHs hFo
   unfold put5 at HF
   go_wp2_with fail
   obtain ⟨⟨q0, q1, q2, q3, q4⟩, hbel, hit⟩ := HF.out
   have hL : layR r.k.toNat r = itLs [itU (IntKind.u64.wrap r.k), r.name.it, itU (IntKind.u64.wrap r.wh), itU (IntKind.u64.wrap r.wy), itU r.at0] := by rw [HK.out]; rfl
   refine bodyPost_ret (v := .agg #[.int .i64 4, .int .u64 0, .slice none 0 0, .string ⟨#[]⟩, .slice (some ⟨v3.heap.size, 0, none⟩) 5 5]) (by simp [results, Tryz.results32, go_sem, q0, q1, q2, q3, q4]) rfl ⟨hbel, none, 0, some ⟨v3.heap.size, 0, none⟩, 5, ?_, ?_⟩
   ·rw [hL]
    rfl
   ·rw [hL]
    exact ItS.more (fun j hj => ⟨Nat.le_trans HB3.out.size hj.1, hj.2⟩) _ hit
  ·have HK : Hid (r.k.toNat = 2) := by rw [Hid, hk]; rfl
   have kt1 : (r.k == 1) = false := by simp [hk]
   have kt2 : (r.k == 2) = true := by simp [hk]
   clear hk
   obtain ⟨⟨⟨x0, x1, x2, x3, x4, x5, x6, x7, x8, x9, x10, x11, x12, x13, x14⟩, ⟨y30, y31, y32, y33, y34⟩, ⟨y40, y41, y42, y43, y44⟩, ⟨y50, y51, y52, y53, y54⟩, ⟨y60, y61, y62, y63, y64⟩, ⟨y70, y71, y72, y73, y74⟩⟩, hrow⟩ := HXF.out v bR
   clear hrow
   go_upto_region 7 with fail
   clear kt1 kt2
   have F : Below v.heap.size v v := Below.refl _ _
   obtain ⟨vc, hvc⟩ : ∃ V, V = v.alloc (.cells #[.int .i64 1, .int .u64 r.k, .slice none 0 0, .string ⟨#[]⟩, .slice none 0 0, .int .i64 1, .int .u64 r.no, .slice none 0 0, .string ⟨#[]⟩, .slice none 0 0, .int .i64 1, .int .u64 r.nd, .slice none 0 0, .string ⟨#[]⟩, .slice none 0 0, .int .i64 1, .int .u64 r.rg, .slice none 0 0, .string ⟨#[]⟩, .slice none 0 0] 45) := ⟨_, rfl⟩
   have hb : Below v.heap.size v vc := by rw [hvc]; exact below_al bR _
   have G1 : v.heap.size ≤ v.heap.size := F.size
   replace F := below_on F hb
   have hcel : ∀ (j : Nat) (u : Value), [.int .i64 1, .int .u64 r.k, .slice none 0 0, .string ⟨#[]⟩, .slice none 0 0, .int .i64 1, .int .u64 r.no, .slice none 0 0, .string ⟨#[]⟩, .slice none 0 0, .int .i64 1, .int .u64 r.nd, .slice none 0 0, .string ⟨#[]⟩, .slice none 0 0, .int .i64 1, .int .u64 r.rg, .slice none 0 0, .string ⟨#[]⟩, .slice none 0 0][j]? = some u → vc.cell? ⟨v.heap.size, 0 + j, none⟩ = some u := fun j u hu => by
    rw [hvc, Nat.zero_add, World.cell?_alloc_mark]
    simpa using hu
   have hSg : newB v vc v.heap.size := ⟨G1, by rw [hvc]; simp⟩
   have hli : LI vc (newB v vc) [.int .i64 1, .int .u64 r.k, .slice none 0 0, .string ⟨#[]⟩, .slice none 0 0, .int .i64 1, .int .u64 r.no, .slice none 0 0, .string ⟨#[]⟩, .slice none 0 0, .int .i64 1, .int .u64 r.nd, .slice none 0 0, .string ⟨#[]⟩, .slice none 0 0, .int .i64 1, .int .u64 r.rg, .slice none 0 0, .string ⟨#[]⟩, .slice none 0 0] [itU (IntKind.u64.wrap r.k), itU r.no, itU r.nd, itU r.rg] := (dliCons (by rw [HWk.out]; exact itS_uint _ _ r.k ⟨by omega, by omega⟩) (dliCons (itS_uint _ _ (r.no : Int) ⟨by omega, by have := HOk.out.no; omega⟩) (dliCons (itS_uint _ _ (r.nd : Int) ⟨by omega, by have := HOk.out.nd; omega⟩) (LI.one (itS_uint _ _ (r.rg : Int) ⟨by omega, by have := HOk.out.rg; omega⟩)))))
   have HIt : Hid (ItS vc (newB v vc) (listV (some ⟨v.heap.size, 0, none⟩) 4 4) (itLs [itU (IntKind.u64.wrap r.k), itU r.no, itU r.nd, itU r.rg])) := itS_list rfl (Nat.le_refl _) (by decide) hSg (LI.itSL hli hcel)
   have HVC := h_ hvc
   clear hvc hb hcel hSg hli G1
   go_wp2_with fail
   rw [← HVC.out]
   clear x0 x1 x2 x3 x4 x5 x6 x7 x8 x9 x10 x11 x12 x13 x14 y30 y31 y32 y33 y34 y40 y41 y42 y43 y44 y50 y51 y52 y53 y54 y60 y61 y62 y63 y64 y70 y71 y72 y73 y74
   refine (refList_any _ _ _ _).mono ?_
   rintro e wL ⟨rfl, hb⟩
   have HIL := h_ (HIt.out.new_on hb)
   replace F := below_on F hb
   have HF0 := h_ F
   clear hb F
   obtain ⟨_, hbx⟩ := HXF.out wL HF0.out
   obtain ⟨d0, d1, d2, d3, d4⟩ := r5 hbx
   obtain ⟨f0, f1, f2, f3, f4⟩ := f5 hbx
   clear hbx
   have hHs := HSv.out
   have hFo := HF0.out.size
   have hq := put5_cells d0 d1 d2 d3 d4 (.int .i64 4) (.int .u64 0) (.slice none 0 0) (.string ⟨#[]⟩) (.slice (some ⟨v.heap.size, 0, none⟩) 4 4)
   have hbel := put5_bel (b := w.heap.size + 1) (HB3.out.trans (HF0.out.mono HB3.out.size)) (by omega) (.int .i64 4) (.int .u64 0) (.slice none 0 0) (.string ⟨#[]⟩) (.slice (some ⟨v.heap.size, 0, none⟩) 4 4)
   have hit := put5_S HIL.out (b := w.heap.size + 1) (by omega) (.int .i64 4) (.int .u64 0) (.slice none 0 0) (.string ⟨#[]⟩) (.slice (some ⟨v.heap.size, 0, none⟩) 4 4)
   have HF := h_ (⟨hq, hbel, hit⟩ : _ ∧ _ ∧ _)
   clear hq hbel hit hHs hFo
   unfold put5 at HF
   go_wp2_with fail
   obtain ⟨⟨q0, q1, q2, q3, q4⟩, hbel, hit⟩ := HF.out
   have hL : layR r.k.toNat r = itLs [itU (IntKind.u64.wrap r.k), itU r.no, itU r.nd, itU r.rg] := by rw [HK.out]; rfl
   refine bodyPost_ret (v := .agg #[.int .i64 4, .int .u64 0, .slice none 0 0, .string ⟨#[]⟩, .slice (some ⟨v.heap.size, 0, none⟩) 4 4]) (by simp [results, Tryz.results32, go_sem, q0, q1, q2, q3, q4]) rfl ⟨hbel, none, 0, some ⟨v.heap.size, 0, none⟩, 4, ?_, ?_⟩
   ·rw [hL]
    rfl
   ·rw [hL]
    exact ItS.more (fun j hj => ⟨Nat.le_trans HB3.out.size hj.1, hj.2⟩) _ hit
  ·have HK : Hid (r.k.toNat = 3) := by rw [Hid, hk]; rfl
   have kt1 : (r.k == 1) = false := by simp [hk]
   have kt2 : (r.k == 2) = false := by simp [hk]
   have kt3 : (r.k == 3) = true := by simp [hk]
   clear hk
   obtain ⟨⟨⟨x0, x1, x2, x3, x4, x5, x6, x7, x8, x9, x10, x11, x12, x13, x14⟩, ⟨y30, y31, y32, y33, y34⟩, ⟨y40, y41, y42, y43, y44⟩, ⟨y50, y51, y52, y53, y54⟩, ⟨y60, y61, y62, y63, y64⟩, ⟨y70, y71, y72, y73, y74⟩⟩, hrow⟩ := HXF.out v bR
   clear hrow
   go_upto_region 9 with fail
   clear kt1 kt2 kt3
   clear x0 x1 x2 x3 x4 x5 x6 x7 x8 x9 x10 x11 x12 x13 x14 y30 y31 y32 y33 y34 y40 y41 y42 y43 y44 y50 y51 y52 y53 y54 y60 y61 y62 y63 y64 y70 y71 y72 y73 y74
   have F : Below v.heap.size v v.drew := bR.drew
   refine wp_region_T (fun w' => ((w'.cell? ⟨w.heap.size, 0, none⟩ = some (.int .i64 r.k) ∧ w'.cell? ⟨w.heap.size, 1, none⟩ = some (.int .u32 r.n) ∧ w'.cell? ⟨w.heap.size, 2, none⟩ = some (.int .u32 r.m) ∧ w'.cell? ⟨w.heap.size, 3, none⟩ = some (.int .u64 r.t) ∧ w'.cell? ⟨w.heap.size, 4, none⟩ = some (.int .u32 r.q) ∧ w'.cell? ⟨w.heap.size, 5, none⟩ = some (.int .i64 r.wh) ∧ w'.cell? ⟨w.heap.size, 6, none⟩ = some (.int .i64 r.wy) ∧ w'.cell? ⟨w.heap.size, 7, none⟩ = some (.int .u64 r.at0) ∧ w'.cell? ⟨w.heap.size, 8, none⟩ = some (.int .u64 r.no) ∧ w'.cell? ⟨w.heap.size, 9, none⟩ = some (.int .u32 r.nd) ∧ w'.cell? ⟨w.heap.size, 10, none⟩ = some (.int .u32 r.rg) ∧ w'.cell? ⟨w.heap.size, 11, none⟩ = some (.bool r.ys) ∧ w'.cell? ⟨w.heap.size, 12, none⟩ = some (.int .u64 r.fr) ∧ w'.cell? ⟨w.heap.size, 13, none⟩ = some (.int .u64 r.un) ∧ w'.cell? ⟨w.heap.size, 14, none⟩ = some (.int .u8 r.lv)) ∧ (w'.cell? ⟨w1.heap.size, 0, none⟩ = some (.int .i64 1) ∧ w'.cell? ⟨w1.heap.size, 1, none⟩ = some (.int .u64 r.k) ∧ w'.cell? ⟨w1.heap.size, 2, none⟩ = some (.slice none 0 0) ∧ w'.cell? ⟨w1.heap.size, 3, none⟩ = some (.string ⟨#[]⟩) ∧ w'.cell? ⟨w1.heap.size, 4, none⟩ = some (.slice none 0 0)) ∧ (w'.cell? ⟨b4, 0, none⟩ = some (.int .i64 1) ∧ w'.cell? ⟨b4, 1, none⟩ = some (.int .u64 r.no) ∧ w'.cell? ⟨b4, 2, none⟩ = some (.slice none 0 0) ∧ w'.cell? ⟨b4, 3, none⟩ = some (.string ⟨#[]⟩) ∧ w'.cell? ⟨b4, 4, none⟩ = some (.slice none 0 0)) ∧ (w'.cell? ⟨b5, 0, none⟩ = some (.int .i64 1) ∧ w'.cell? ⟨b5, 1, none⟩ = some (.int .u64 r.nd) ∧ w'.cell? ⟨b5, 2, none⟩ = some (.slice none 0 0) ∧ w'.cell? ⟨b5, 3, none⟩ = some (.string ⟨#[]⟩) ∧ w'.cell? ⟨b5, 4, none⟩ = some (.slice none 0 0)) ∧ (w'.cell? ⟨b6, 0, none⟩ = some (.int .i64 1) ∧ w'.cell? ⟨b6, 1, none⟩ = some (.int .u64 r.rg) ∧ w'.cell? ⟨b6, 2, none⟩ = some (.slice none 0 0) ∧ w'.cell? ⟨b6, 3, none⟩ = some (.string ⟨#[]⟩) ∧ w'.cell? ⟨b6, 4, none⟩ = some (.slice none 0 0)) ∧ (w'.cell? ⟨b7, 0, none⟩ = some (.int .i64 5) ∧ w'.cell? ⟨b7, 1, none⟩ = some (.int .u64 (boN r.ys)) ∧ w'.cell? ⟨b7, 2, none⟩ = some (.slice none 0 0) ∧ w'.cell? ⟨b7, 3, none⟩ = some (.string ⟨#[]⟩) ∧ w'.cell? ⟨b7, 4, none⟩ = some (.slice none 0 0)))) 10 (by kernel_rfl) ?_
   refine wpAnyT_take (i := 0) (v := ?_) rfl (by kernel_rfl) (by kernel_rfl) (by kernel_rfl) (by kernel_rfl) (fun _ _ _ h => h) (Or.inl ⟨by rfl, ?_⟩) (HXF.out _ F).1 ?_
   rotate_left
   ·intro w hSw; go_simp; all_goals with_reducible rfl
   simp only [Act.put, zA, zB, zC]
   refine wpAnyT_take (i := 1) (v := ?_) rfl (by kernel_rfl) (by kernel_rfl) (by kernel_rfl) (by kernel_rfl) (fun _ _ _ h => h) (Or.inl ⟨by rfl, ?_⟩) (HXF.out _ F).1 ?_
   rotate_left
   ·intro w hSw; go_simp; all_goals with_reducible rfl
   simp only [Act.put, zA, zB, zC]
   refine wpAnyT_take (i := 2) (v := ?_) rfl (by kernel_rfl) (by kernel_rfl) (by kernel_rfl) (by kernel_rfl) (fun _ _ _ h => h) (Or.inl ⟨by rfl, ?_⟩) (HXF.out _ F).1 ?_
   rotate_left
   ·intro w hSw; go_simp; all_goals with_reducible rfl
   simp only [Act.put, zA, zB, zC]
   refine wpAnyT_take (i := 3) (v := ?_) rfl (by kernel_rfl) (by kernel_rfl) (by kernel_rfl) (by kernel_rfl) (fun _ _ _ h => h) (Or.inl ⟨by rfl, ?_⟩) (HXF.out _ F).1 ?_
   rotate_left
   ·intro w hSw; go_simp; all_goals with_reducible rfl
   simp only [Act.put, zA, zB, zC]
   refine wpAnyT_take (i := 4) (v := ?_) rfl (by kernel_rfl) (by kernel_rfl) (by kernel_rfl) (by kernel_rfl) (fun _ _ _ h => h) (Or.inl ⟨by rfl, ?_⟩) (HXF.out _ F).1 ?_
   rotate_left
   ·intro w hSw; go_simp; all_goals with_reducible rfl
   simp only [Act.put, zA, zB, zC]
   refine wpAnyT_take (i := 5) (v := ?_) rfl (by kernel_rfl) (by kernel_rfl) (by kernel_rfl) (by kernel_rfl) (fun _ _ _ h => h) (Or.inl ⟨by rfl, ?_⟩) (HXF.out _ F).1 ?_
   rotate_left
   ·intro w hSw; go_simp; all_goals with_reducible rfl
   simp only [Act.put, zA, zB, zC]
   refine wpAnyT_take (i := 6) (v := ?_) rfl (by kernel_rfl) (by kernel_rfl) (by kernel_rfl) (by kernel_rfl) (fun _ _ _ h => h) (Or.inl ⟨by rfl, ?_⟩) (HXF.out _ F).1 ?_
   rotate_left
   ·intro w hSw; go_simp; all_goals with_reducible rfl
   simp only [Act.put, zA, zB, zC]
   refine wpAnyT_one (i := 7) (by kernel_rfl) rfl (fun K hK => ?_)
   go_simp
   refine (refUint_any r.un _).mono ?_
   rintro e v0 ⟨rfl, hb⟩
   replace F := below_on F hb
   clear hb
   refine hK.out _ _ (fun _ => (HXF.out _ F).1) ?_
   clear hK K
   try simp only [Act.put, zA, zB, zC]
   refine wpAnyT_one (i := 8) (by kernel_rfl) rfl (fun K hK => ?_)
   go_simp
   obtain ⟨vc, hvc⟩ : ∃ V, V = v0.alloc (.cells #[.int .i64 1, .int .u64 r.k, .slice none 0 0, .string ⟨#[]⟩, .slice none 0 0, .int .i64 1, .int .u64 r.no, .slice none 0 0, .string ⟨#[]⟩, .slice none 0 0, .int .i64 1, .int .u64 r.nd, .slice none 0 0, .string ⟨#[]⟩, .slice none 0 0, .int .i64 1, .int .u64 r.rg, .slice none 0 0, .string ⟨#[]⟩, .slice none 0 0, .int .i64 5, .int .u64 (boN r.ys), .slice none 0 0, .string ⟨#[]⟩, .slice none 0 0, .int .i64 1, .int .u64 r.un, .slice none 0 0, .string ⟨#[]⟩, .slice none 0 0] 45) := ⟨_, rfl⟩
   have hb : Below v0.heap.size v0 vc := by rw [hvc]; exact below_al bR _
   have G1 : v.heap.size ≤ v0.heap.size := F.size
   replace F := below_on F hb
   have hcel : ∀ (j : Nat) (u : Value), [.int .i64 1, .int .u64 r.k, .slice none 0 0, .string ⟨#[]⟩, .slice none 0 0, .int .i64 1, .int .u64 r.no, .slice none 0 0, .string ⟨#[]⟩, .slice none 0 0, .int .i64 1, .int .u64 r.nd, .slice none 0 0, .string ⟨#[]⟩, .slice none 0 0, .int .i64 1, .int .u64 r.rg, .slice none 0 0, .string ⟨#[]⟩, .slice none 0 0, .int .i64 5, .int .u64 (boN r.ys), .slice none 0 0, .string ⟨#[]⟩, .slice none 0 0, .int .i64 1, .int .u64 r.un, .slice none 0 0, .string ⟨#[]⟩, .slice none 0 0][j]? = some u → vc.cell? ⟨v0.heap.size, 0 + j, none⟩ = some u := fun j u hu => by
    rw [hvc, Nat.zero_add, World.cell?_alloc_mark]
    simpa using hu
   have hSg : newB v vc v0.heap.size := ⟨G1, by rw [hvc]; simp⟩
   have hli : LI vc (newB v vc) [.int .i64 1, .int .u64 r.k, .slice none 0 0, .string ⟨#[]⟩, .slice none 0 0, .int .i64 1, .int .u64 r.no, .slice none 0 0, .string ⟨#[]⟩, .slice none 0 0, .int .i64 1, .int .u64 r.nd, .slice none 0 0, .string ⟨#[]⟩, .slice none 0 0, .int .i64 1, .int .u64 r.rg, .slice none 0 0, .string ⟨#[]⟩, .slice none 0 0, .int .i64 5, .int .u64 (boN r.ys), .slice none 0 0, .string ⟨#[]⟩, .slice none 0 0, .int .i64 1, .int .u64 r.un, .slice none 0 0, .string ⟨#[]⟩, .slice none 0 0] [itU (IntKind.u64.wrap r.k), itU r.no, itU r.nd, itU r.rg, boI r.ys, itU r.un] := (dliCons (by rw [HWk.out]; exact itS_uint _ _ r.k ⟨by omega, by omega⟩) (dliCons (itS_uint _ _ (r.no : Int) ⟨by omega, by have := HOk.out.no; omega⟩) (dliCons (itS_uint _ _ (r.nd : Int) ⟨by omega, by have := HOk.out.nd; omega⟩) (dliCons (itS_uint _ _ (r.rg : Int) ⟨by omega, by have := HOk.out.rg; omega⟩) (dliCons (itS_bo _ _ r.ys) (LI.one (itS_uint _ _ (r.un : Int) ⟨by omega, by have := HOk.out.un; omega⟩)))))))
   have HIt : Hid (ItS vc (newB v vc) (listV (some ⟨v0.heap.size, 0, none⟩) 6 6) (itLs [itU (IntKind.u64.wrap r.k), itU r.no, itU r.nd, itU r.rg, boI r.ys, itU r.un])) := itS_list rfl (Nat.le_refl _) (by decide) hSg (LI.itSL hli hcel)
   rw [← hvc]
   clear hvc hb hcel hSg hli G1
   refine hK.out _ _ (fun _ => (HXF.out _ F).1) ?_
   clear hK K
   try simp only [Act.put, zA, zB, zC]
   refine wpAnyT_one (i := 9) (by kernel_rfl) rfl (fun K hK => ?_)
   go_simp
   refine (refList_any _ _ _ _).mono ?_
   rintro e wL ⟨rfl, hb⟩
   have HIL := h_ (HIt.out.new_on hb)
   replace F := below_on F hb
   clear hb
   obtain ⟨_, hbx⟩ := HXF.out wL F
   obtain ⟨d0, d1, d2, d3, d4⟩ := r5 hbx
   obtain ⟨f0, f1, f2, f3, f4⟩ := f5 hbx
   clear hbx
   refine hK.out _ _ (fun _ => (HXF.out _ F).1) ?_
   clear hK K
   try simp only [Act.put, zA, zB, zC]
   refine wpAnyT_one (i := 10) (by kernel_rfl) rfl (fun K hK => ?_)
   go_simp
   refine hK.out _ _ (fun h => absurd h (by decide)) ?_
   clear hK K
   try simp only [Act.put, zA, zB, zC]
   refine wpAnyT_done (by kernel_rfl) ?_ _
   have HF0 := h_ F
   clear F
   have hHs := HSv.out
   have hFo := HF0.out.size
   have hq := put5_cells d0 d1 d2 d3 d4 (.int .i64 4) (.int .u64 0) (.slice none 0 0) (.string ⟨#[]⟩) (.slice (some ⟨v0.heap.size, 0, none⟩) 6 6)
   have hbel := put5_bel (b := w.heap.size + 1) (HB3.out.trans (HF0.out.mono HB3.out.size)) (by omega) (.int .i64 4) (.int .u64 0) (.slice none 0 0) (.string ⟨#[]⟩) (.slice (some ⟨v0.heap.size, 0, none⟩) 6 6)
   have hit := put5_S HIL.out (b := w.heap.size + 1) (by omega) (.int .i64 4) (.int .u64 0) (.slice none 0 0) (.string ⟨#[]⟩) (.slice (some ⟨v0.heap.size, 0, none⟩) 6 6)
   have HF := h_ (⟨hq, hbel, hit⟩ : _ ∧ _ ∧ _)
   clear hq hbel hit d0 d1 d2 d3 d4 f0 f1 f2 f3 f4 hHs hFo
   unfold put5 at HF
   go_wp2_with fail
   obtain ⟨⟨q0, q1, q2, q3, q4⟩, hbel, hit⟩ := HF.out
   have hL : layR r.k.toNat r = itLs [itU (IntKind.u64.wrap r.k), itU r.no, itU r.nd, itU r.rg, boI r.ys, itU r.un] := by rw [HK.out]; rfl
   refine bodyPost_ret (v := .agg #[.int .i64 4, .int .u64 0, .slice none 0 0, .string ⟨#[]⟩, .slice (some ⟨v0.heap.size, 0, none⟩) 6 6]) (by simp [results, Tryz.results32, go_sem, q0, q1, q2, q3, q4]) rfl ⟨hbel, none, 0, some ⟨v0.heap.size, 0, none⟩, 6, ?_, ?_⟩
   ·rw [hL]
    rfl
   ·rw [hL]
    exact ItS.more (fun j hj => ⟨Nat.le_trans HB3.out.size hj.1, hj.2⟩) _ hit
  ·have HK : Hid (r.k.toNat = 4) := by rw [Hid, hk]; rfl
   have kt1 : (r.k == 1) = false := by simp [hk]
   have kt2 : (r.k == 2) = false := by simp [hk]
   have kt3 : (r.k == 3) = false := by simp [hk]
   have kt4 : (r.k == 4) = true := by simp [hk]
   clear hk
   obtain ⟨⟨⟨x0, x1, x2, x3, x4, x5, x6, x7, x8, x9, x10, x11, x12, x13, x14⟩, ⟨y30, y31, y32, y33, y34⟩, ⟨y40, y41, y42, y43, y44⟩, ⟨y50, y51, y52, y53, y54⟩, ⟨y60, y61, y62, y63, y64⟩, ⟨y70, y71, y72, y73, y74⟩⟩, hrow⟩ := HXF.out v bR
   clear hrow
   go_upto_region 11 with fail
   clear kt1 kt2 kt3 kt4
   clear x0 x1 x2 x3 x4 x5 x6 x7 x8 x9 x10 x11 x12 x13 x14 y30 y31 y32 y33 y34 y40 y41 y42 y43 y44 y50 y51 y52 y53 y54 y60 y61 y62 y63 y64 y70 y71 y72 y73 y74
   have hwl : IntKind.u64.wrap (r.lv : Int) = r.lv := by have := HOk.out.lv; rw [IntKind.wrap_u64]; omega
   have F : Below v.heap.size v v.drew := bR.drew
   refine wp_region_T (fun w' => ((w'.cell? ⟨w.heap.size, 0, none⟩ = some (.int .i64 r.k) ∧ w'.cell? ⟨w.heap.size, 1, none⟩ = some (.int .u32 r.n) ∧ w'.cell? ⟨w.heap.size, 2, none⟩ = some (.int .u32 r.m) ∧ w'.cell? ⟨w.heap.size, 3, none⟩ = some (.int .u64 r.t) ∧ w'.cell? ⟨w.heap.size, 4, none⟩ = some (.int .u32 r.q) ∧ w'.cell? ⟨w.heap.size, 5, none⟩ = some (.int .i64 r.wh) ∧ w'.cell? ⟨w.heap.size, 6, none⟩ = some (.int .i64 r.wy) ∧ w'.cell? ⟨w.heap.size, 7, none⟩ = some (.int .u64 r.at0) ∧ w'.cell? ⟨w.heap.size, 8, none⟩ = some (.int .u64 r.no) ∧ w'.cell? ⟨w.heap.size, 9, none⟩ = some (.int .u32 r.nd) ∧ w'.cell? ⟨w.heap.size, 10, none⟩ = some (.int .u32 r.rg) ∧ w'.cell? ⟨w.heap.size, 11, none⟩ = some (.bool r.ys) ∧ w'.cell? ⟨w.heap.size, 12, none⟩ = some (.int .u64 r.fr) ∧ w'.cell? ⟨w.heap.size, 13, none⟩ = some (.int .u64 r.un) ∧ w'.cell? ⟨w.heap.size, 14, none⟩ = some (.int .u8 r.lv)) ∧ (w'.cell? ⟨w1.heap.size, 0, none⟩ = some (.int .i64 1) ∧ w'.cell? ⟨w1.heap.size, 1, none⟩ = some (.int .u64 r.k) ∧ w'.cell? ⟨w1.heap.size, 2, none⟩ = some (.slice none 0 0) ∧ w'.cell? ⟨w1.heap.size, 3, none⟩ = some (.string ⟨#[]⟩) ∧ w'.cell? ⟨w1.heap.size, 4, none⟩ = some (.slice none 0 0)) ∧ (w'.cell? ⟨b4, 0, none⟩ = some (.int .i64 1) ∧ w'.cell? ⟨b4, 1, none⟩ = some (.int .u64 r.no) ∧ w'.cell? ⟨b4, 2, none⟩ = some (.slice none 0 0) ∧ w'.cell? ⟨b4, 3, none⟩ = some (.string ⟨#[]⟩) ∧ w'.cell? ⟨b4, 4, none⟩ = some (.slice none 0 0)) ∧ (w'.cell? ⟨b5, 0, none⟩ = some (.int .i64 1) ∧ w'.cell? ⟨b5, 1, none⟩ = some (.int .u64 r.nd) ∧ w'.cell? ⟨b5, 2, none⟩ = some (.slice none 0 0) ∧ w'.cell? ⟨b5, 3, none⟩ = some (.string ⟨#[]⟩) ∧ w'.cell? ⟨b5, 4, none⟩ = some (.slice none 0 0)) ∧ (w'.cell? ⟨b6, 0, none⟩ = some (.int .i64 1) ∧ w'.cell? ⟨b6, 1, none⟩ = some (.int .u64 r.rg) ∧ w'.cell? ⟨b6, 2, none⟩ = some (.slice none 0 0) ∧ w'.cell? ⟨b6, 3, none⟩ = some (.string ⟨#[]⟩) ∧ w'.cell? ⟨b6, 4, none⟩ = some (.slice none 0 0)) ∧ (w'.cell? ⟨b7, 0, none⟩ = some (.int .i64 5) ∧ w'.cell? ⟨b7, 1, none⟩ = some (.int .u64 (boN r.ys)) ∧ w'.cell? ⟨b7, 2, none⟩ = some (.slice none 0 0) ∧ w'.cell? ⟨b7, 3, none⟩ = some (.string ⟨#[]⟩) ∧ w'.cell? ⟨b7, 4, none⟩ = some (.slice none 0 0)))) 14 (by kernel_rfl) ?_
   refine wpAnyT_take (i := 0) (v := ?_) rfl (by kernel_rfl) (by kernel_rfl) (by kernel_rfl) (by kernel_rfl) (fun _ _ _ h => h) (Or.inl ⟨by rfl, ?_⟩) (HXF.out _ F).1 ?_
   rotate_left
   ·intro w hSw; go_simp; all_goals with_reducible rfl
   simp only [Act.put, zA, zB, zC]
   refine wpAnyT_take (i := 1) (v := ?_) rfl (by kernel_rfl) (by kernel_rfl) (by kernel_rfl) (by kernel_rfl) (fun _ _ _ h => h) (Or.inl ⟨by rfl, ?_⟩) (HXF.out _ F).1 ?_
   rotate_left
   ·intro w hSw; go_simp; all_goals with_reducible rfl
   simp only [Act.put, zA, zB, zC]
   refine wpAnyT_take (i := 2) (v := ?_) rfl (by kernel_rfl) (by kernel_rfl) (by kernel_rfl) (by kernel_rfl) (fun _ _ _ h => h) (Or.inl ⟨by rfl, ?_⟩) (HXF.out _ F).1 ?_
   rotate_left
   ·intro w hSw; go_simp; all_goals with_reducible rfl
   simp only [Act.put, zA, zB, zC]
   refine wpAnyT_take (i := 3) (v := ?_) rfl (by kernel_rfl) (by kernel_rfl) (by kernel_rfl) (by kernel_rfl) (fun _ _ _ h => h) (Or.inl ⟨by rfl, ?_⟩) (HXF.out _ F).1 ?_
   rotate_left
   ·intro w hSw; go_simp; all_goals with_reducible rfl
   simp only [Act.put, zA, zB, zC]
   refine wpAnyT_take (i := 5) (v := ?_) rfl (by kernel_rfl) (by kernel_rfl) (by kernel_rfl) (by kernel_rfl) (fun _ _ _ h => h) (Or.inl ⟨by rfl, ?_⟩) (HXF.out _ F).1 ?_
   rotate_left
   ·intro w hSw; go_simp; all_goals with_reducible rfl
   simp only [Act.put, zA, zB, zC]
   refine wpAnyT_take (i := 6) (v := ?_) rfl (by kernel_rfl) (by kernel_rfl) (by kernel_rfl) (by kernel_rfl) (fun _ _ _ h => h) (Or.inl ⟨by rfl, ?_⟩) (HXF.out _ F).1 ?_
   rotate_left
   ·intro w hSw; go_simp; all_goals with_reducible rfl
   simp only [Act.put, zA, zB, zC]
   refine wpAnyT_take (i := 8) (v := ?_) rfl (by kernel_rfl) (by kernel_rfl) (by kernel_rfl) (by kernel_rfl) (fun _ _ _ h => h) (Or.inl ⟨by rfl, ?_⟩) (HXF.out _ F).1 ?_
   rotate_left
   ·intro w hSw; go_simp; all_goals with_reducible rfl
   simp only [Act.put, zA, zB, zC]
   refine wpAnyT_take (i := 9) (v := ?_) rfl (by kernel_rfl) (by kernel_rfl) (by kernel_rfl) (by kernel_rfl) (fun _ _ _ h => h) (Or.inl ⟨by rfl, ?_⟩) (HXF.out _ F).1 ?_
   rotate_left
   ·intro w hSw; go_simp; all_goals with_reducible rfl
   simp only [Act.put, zA, zB, zC]
   refine wpAnyT_take (i := 10) (v := ?_) rfl (by kernel_rfl) (by kernel_rfl) (by kernel_rfl) (by kernel_rfl) (fun _ _ _ h => h) (Or.inl ⟨by rfl, ?_⟩) (HXF.out _ F).1 ?_
   rotate_left
   ·intro w hSw; go_simp; all_goals with_reducible rfl
   simp only [Act.put, zA, zB, zC]
   refine wpAnyT_one (i := 4) (by kernel_rfl) rfl (fun K hK => ?_)
   go_simp
   refine (refUint_any r.fr _).mono ?_
   rintro e v0 ⟨rfl, hb⟩
   replace F := below_on F hb
   clear hb
   refine hK.out _ _ (fun _ => (HXF.out _ F).1) ?_
   clear hK K
   try simp only [Act.put, zA, zB, zC]
   refine wpAnyT_one (i := 7) (by kernel_rfl) rfl (fun K hK => ?_)
   go_simp
   refine (refUint_any r.un _).mono ?_
   rintro e v1 ⟨rfl, hb⟩
   replace F := below_on F hb
   clear hb
   refine hK.out _ _ (fun _ => (HXF.out _ F).1) ?_
   clear hK K
   try simp only [Act.put, zA, zB, zC]
   refine wpAnyT_one (i := 11) (by kernel_rfl) rfl (fun K hK => ?_)
   go_simp
   refine (refUint_any r.lv _).mono ?_
   rintro e v2 ⟨rfl, hb⟩
   replace F := below_on F hb
   clear hb
   refine hK.out _ _ (fun _ => (HXF.out _ F).1) ?_
   clear hK K
   try simp only [Act.put, zA, zB, zC]
   refine wpAnyT_one (i := 12) (by kernel_rfl) rfl (fun K hK => ?_)
   go_simp
   obtain ⟨vc, hvc⟩ : ∃ V, V = v2.alloc (.cells #[.int .i64 1, .int .u64 r.k, .slice none 0 0, .string ⟨#[]⟩, .slice none 0 0, .int .i64 1, .int .u64 r.nd, .slice none 0 0, .string ⟨#[]⟩, .slice none 0 0, .int .i64 1, .int .u64 r.fr, .slice none 0 0, .string ⟨#[]⟩, .slice none 0 0, .int .i64 1, .int .u64 r.un, .slice none 0 0, .string ⟨#[]⟩, .slice none 0 0, .int .i64 1, .int .u64 r.lv, .slice none 0 0, .string ⟨#[]⟩, .slice none 0 0] 45) := ⟨_, rfl⟩
   have hb : Below v2.heap.size v2 vc := by rw [hvc]; exact below_al bR _
   have G1 : v.heap.size ≤ v2.heap.size := F.size
   replace F := below_on F hb
   have hcel : ∀ (j : Nat) (u : Value), [.int .i64 1, .int .u64 r.k, .slice none 0 0, .string ⟨#[]⟩, .slice none 0 0, .int .i64 1, .int .u64 r.nd, .slice none 0 0, .string ⟨#[]⟩, .slice none 0 0, .int .i64 1, .int .u64 r.fr, .slice none 0 0, .string ⟨#[]⟩, .slice none 0 0, .int .i64 1, .int .u64 r.un, .slice none 0 0, .string ⟨#[]⟩, .slice none 0 0, .int .i64 1, .int .u64 r.lv, .slice none 0 0, .string ⟨#[]⟩, .slice none 0 0][j]? = some u → vc.cell? ⟨v2.heap.size, 0 + j, none⟩ = some u := fun j u hu => by
    rw [hvc, Nat.zero_add, World.cell?_alloc_mark]
    simpa using hu
   have hSg : newB v vc v2.heap.size := ⟨G1, by rw [hvc]; simp⟩
   have hli : LI vc (newB v vc) [.int .i64 1, .int .u64 r.k, .slice none 0 0, .string ⟨#[]⟩, .slice none 0 0, .int .i64 1, .int .u64 r.nd, .slice none 0 0, .string ⟨#[]⟩, .slice none 0 0, .int .i64 1, .int .u64 r.fr, .slice none 0 0, .string ⟨#[]⟩, .slice none 0 0, .int .i64 1, .int .u64 r.un, .slice none 0 0, .string ⟨#[]⟩, .slice none 0 0, .int .i64 1, .int .u64 r.lv, .slice none 0 0, .string ⟨#[]⟩, .slice none 0 0] [itU (IntKind.u64.wrap r.k), itU r.nd, itU r.fr, itU r.un, itU r.lv] := (dliCons (by rw [HWk.out]; exact itS_uint _ _ r.k ⟨by omega, by omega⟩) (dliCons (itS_uint _ _ (r.nd : Int) ⟨by omega, by have := HOk.out.nd; omega⟩) (dliCons (itS_uint _ _ (r.fr : Int) ⟨by omega, by have := HOk.out.fr; omega⟩) (dliCons (itS_uint _ _ (r.un : Int) ⟨by omega, by have := HOk.out.un; omega⟩) (LI.one (itS_uint _ _ (r.lv : Int) ⟨by omega, by have := HOk.out.lv; omega⟩))))))
   have HIt : Hid (ItS vc (newB v vc) (listV (some ⟨v2.heap.size, 0, none⟩) 5 5) (itLs [itU (IntKind.u64.wrap r.k), itU r.nd, itU r.fr, itU r.un, itU r.lv])) := itS_list rfl (Nat.le_refl _) (by decide) hSg (LI.itSL hli hcel)
   rw [← hvc]
   clear hvc hb hcel hSg hli G1
   refine hK.out _ _ (fun _ => (HXF.out _ F).1) ?_
   clear hK K
   try simp only [Act.put, zA, zB, zC]
   refine wpAnyT_one (i := 13) (by kernel_rfl) rfl (fun K hK => ?_)
   go_simp
   refine (refList_any _ _ _ _).mono ?_
   rintro e wL ⟨rfl, hb⟩
   have HIL := h_ (HIt.out.new_on hb)
   replace F := below_on F hb
   clear hb
   obtain ⟨_, hbx⟩ := HXF.out wL F
   obtain ⟨d0, d1, d2, d3, d4⟩ := r5 hbx
   obtain ⟨f0, f1, f2, f3, f4⟩ := f5 hbx
   clear hbx
   refine hK.out _ _ (fun _ => (HXF.out _ F).1) ?_
   clear hK K
   try simp only [Act.put, zA, zB, zC]
   refine wpAnyT_one (i := 14) (by kernel_rfl) rfl (fun K hK => ?_)
   go_simp
   refine hK.out _ _ (fun h => absurd h (by decide)) ?_
   clear hK K
   try simp only [Act.put, zA, zB, zC]
   refine wpAnyT_done (by kernel_rfl) ?_ _
   have HF0 := h_ F
   clear F
   have hHs := HSv.out
   have hFo := HF0.out.size
   have hq := put5_cells d0 d1 d2 d3 d4 (.int .i64 4) (.int .u64 0) (.slice none 0 0) (.string ⟨#[]⟩) (.slice (some ⟨v2.heap.size, 0, none⟩) 5 5)
   have hbel := put5_bel (b := w.heap.size + 1) (HB3.out.trans (HF0.out.mono HB3.out.size)) (by omega) (.int .i64 4) (.int .u64 0) (.slice none 0 0) (.string ⟨#[]⟩) (.slice (some ⟨v2.heap.size, 0, none⟩) 5 5)
   have hit := put5_S HIL.out (b := w.heap.size + 1) (by omega) (.int .i64 4) (.int .u64 0) (.slice none 0 0) (.string ⟨#[]⟩) (.slice (some ⟨v2.heap.size, 0, none⟩) 5 5)
   have HF := h_ (⟨hq, hbel, hit⟩ : _ ∧ _ ∧ _)
   clear hq hbel hit d0 d1 d2 d3 d4 f0 f1 f2 f3 f4 hHs hFo
   unfold put5 at HF
   go_wp2_with fail
   obtain ⟨⟨q0, q1, q2, q3, q4⟩, hbel, hit⟩ := HF.out
   have hL : layR r.k.toNat r = itLs [itU (IntKind.u64.wrap r.k), itU r.nd, itU r.fr, itU r.un, itU r.lv] := by rw [HK.out]; rfl
   refine bodyPost_ret (v := .agg #[.int .i64 4, .int .u64 0, .slice none 0 0, .string ⟨#[]⟩, .slice (some ⟨v2.heap.size, 0, none⟩) 5 5]) (by simp [results, Tryz.results32, go_sem, q0, q1, q2, q3, q4]) rfl ⟨hbel, none, 0, some ⟨v2.heap.size, 0, none⟩, 5, ?_, ?_⟩
   ·rw [hL]
    rfl
   ·rw [hL]
    exact ItS.more (fun j hj => ⟨Nat.le_trans HB3.out.size hj.1, hj.2⟩) _ hit
  ·have HK : Hid (r.k.toNat = 5) := by rw [Hid, hk]; rfl
   have kt1 : (r.k == 1) = false := by simp [hk]
   have kt2 : (r.k == 2) = false := by simp [hk]
   have kt3 : (r.k == 3) = false := by simp [hk]
   have kt4 : (r.k == 4) = false := by simp [hk]
   have kt5 : (r.k == 5) = true := by simp [hk]
   clear hk
   obtain ⟨⟨⟨x0, x1, x2, x3, x4, x5, x6, x7, x8, x9, x10, x11, x12, x13, x14⟩, ⟨y30, y31, y32, y33, y34⟩, ⟨y40, y41, y42, y43, y44⟩, ⟨y50, y51, y52, y53, y54⟩, ⟨y60, y61, y62, y63, y64⟩, ⟨y70, y71, y72, y73, y74⟩⟩, hrow⟩ := HXF.out v bR
   clear hrow
   go_upto_region 12 with fail
   clear kt1 kt2 kt3 kt4 kt5
   have F : Below v.heap.size v v := Below.refl _ _
   obtain ⟨vc, hvc⟩ : ∃ V, V = v.alloc (.cells #[.int .i64 1, .int .u64 r.k, .slice none 0 0, .string ⟨#[]⟩, .slice none 0 0, .int .i64 1, .int .u64 r.nd, .slice none 0 0, .string ⟨#[]⟩, .slice none 0 0, .int .i64 1, .int .u64 r.rg, .slice none 0 0, .string ⟨#[]⟩, .slice none 0 0, .int .i64 1, .int .u64 r.no, .slice none 0 0, .string ⟨#[]⟩, .slice none 0 0, .int .i64 5, .int .u64 (boN r.ys), .slice none 0 0, .string ⟨#[]⟩, .slice none 0 0] 45) := ⟨_, rfl⟩
   have hb : Below v.heap.size v vc := by rw [hvc]; exact below_al bR _
   have G1 : v.heap.size ≤ v.heap.size := F.size
   replace F := below_on F hb
   have hcel : ∀ (j : Nat) (u : Value), [.int .i64 1, .int .u64 r.k, .slice none 0 0, .string ⟨#[]⟩, .slice none 0 0, .int .i64 1, .int .u64 r.nd, .slice none 0 0, .string ⟨#[]⟩, .slice none 0 0, .int .i64 1, .int .u64 r.rg, .slice none 0 0, .string ⟨#[]⟩, .slice none 0 0, .int .i64 1, .int .u64 r.no, .slice none 0 0, .string ⟨#[]⟩, .slice none 0 0, .int .i64 5, .int .u64 (boN r.ys), .slice none 0 0, .string ⟨#[]⟩, .slice none 0 0][j]? = some u → vc.cell? ⟨v.heap.size, 0 + j, none⟩ = some u := fun j u hu => by
    rw [hvc, Nat.zero_add, World.cell?_alloc_mark]
    simpa using hu
   have hSg : newB v vc v.heap.size := ⟨G1, by rw [hvc]; simp⟩
   have hli : LI vc (newB v vc) [.int .i64 1, .int .u64 r.k, .slice none 0 0, .string ⟨#[]⟩, .slice none 0 0, .int .i64 1, .int .u64 r.nd, .slice none 0 0, .string ⟨#[]⟩, .slice none 0 0, .int .i64 1, .int .u64 r.rg, .slice none 0 0, .string ⟨#[]⟩, .slice none 0 0, .int .i64 1, .int .u64 r.no, .slice none 0 0, .string ⟨#[]⟩, .slice none 0 0, .int .i64 5, .int .u64 (boN r.ys), .slice none 0 0, .string ⟨#[]⟩, .slice none 0 0] [itU (IntKind.u64.wrap r.k), itU r.nd, itU r.rg, itU r.no, boI r.ys] := (dliCons (by rw [HWk.out]; exact itS_uint _ _ r.k ⟨by omega, by omega⟩) (dliCons (itS_uint _ _ (r.nd : Int) ⟨by omega, by have := HOk.out.nd; omega⟩) (dliCons (itS_uint _ _ (r.rg : Int) ⟨by omega, by have := HOk.out.rg; omega⟩) (dliCons (itS_uint _ _ (r.no : Int) ⟨by omega, by have := HOk.out.no; omega⟩) (LI.one (itS_bo _ _ r.ys))))))
   have HIt : Hid (ItS vc (newB v vc) (listV (some ⟨v.heap.size, 0, none⟩) 5 5) (itLs [itU (IntKind.u64.wrap r.k), itU r.nd, itU r.rg, itU r.no, boI r.ys])) := itS_list rfl (Nat.le_refl _) (by decide) hSg (LI.itSL hli hcel)
   have HVC := h_ hvc
   clear hvc hb hcel hSg hli G1
   go_wp2_with fail
   rw [← HVC.out]
   clear x0 x1 x2 x3 x4 x5 x6 x7 x8 x9 x10 x11 x12 x13 x14 y30 y31 y32 y33 y34 y40 y41 y42 y43 y44 y50 y51 y52 y53 y54 y60 y61 y62 y63 y64 y70 y71 y72 y73 y74
   refine (refList_any _ _ _ _).mono ?_
   rintro e wL ⟨rfl, hb⟩
   have HIL := h_ (HIt.out.new_on hb)
   replace F := below_on F hb
   have HF0 := h_ F
   clear hb F
   obtain ⟨_, hbx⟩ := HXF.out wL HF0.out
   obtain ⟨d0, d1, d2, d3, d4⟩ := r5 hbx
   obtain ⟨f0, f1, f2, f3, f4⟩ := f5 hbx
   clear hbx
   have hHs := HSv.out
   have hFo := HF0.out.size
   have hq := put5_cells d0 d1 d2 d3 d4 (.int .i64 4) (.int .u64 0) (.slice none 0 0) (.string ⟨#[]⟩) (.slice (some ⟨v.heap.size, 0, none⟩) 5 5)
   have hbel := put5_bel (b := w.heap.size + 1) (HB3.out.trans (HF0.out.mono HB3.out.size)) (by omega) (.int .i64 4) (.int .u64 0) (.slice none 0 0) (.string ⟨#[]⟩) (.slice (some ⟨v.heap.size, 0, none⟩) 5 5)
   have hit := put5_S HIL.out (b := w.heap.size + 1) (by omega) (.int .i64 4) (.int .u64 0) (.slice none 0 0) (.string ⟨#[]⟩) (.slice (some ⟨v.heap.size, 0, none⟩) 5 5)
   have HF := h_ (⟨hq, hbel, hit⟩ : _ ∧ _ ∧ _)
   clear hq hbel hit hHs hFo
   unfold put5 at HF
   go_wp2_with fail
   obtain ⟨⟨q0, q1, q2, q3, q4⟩, hbel, hit⟩ := HF.out
   have hL : layR r.k.toNat r = itLs [itU (IntKind.u64.wrap r.k), itU r.nd, itU r.rg, itU r.no, boI r.ys] := by rw [HK.out]; rfl
   refine bodyPost_ret (v := .agg #[.int .i64 4, .int .u64 0, .slice none 0 0, .string ⟨#[]⟩, .slice (some ⟨v.heap.size, 0, none⟩) 5 5]) (by simp [results, Tryz.results32, go_sem, q0, q1, q2, q3, q4]) rfl ⟨hbel, none, 0, some ⟨v.heap.size, 0, none⟩, 5, ?_, ?_⟩
   ·rw [hL]
    rfl
   ·rw [hL]
    exact ItS.more (fun j hj => ⟨Nat.le_trans HB3.out.size hj.1, hj.2⟩) _ hit

end Go.Proofs.YteldifnkeekafaaGreatDoor
