/- Joined texts. -/
import Derived.Test.YtkbnglcpcehaiaaDoorZJc
import Derived.Test.YtkbnglcpcehaiaaDoorZJd
namespace Go.Proofs.YtkbnglcpcehaiaaDoor
open Go Go.RowKit Go.Shelf
set_option linter.unusedSimpArgs false
set_option linter.unusedVariables false
set_option maxRecDepth 100000

set_option maxHeartbeats 2000000 in
theorem pturned_any (bk : Bool) (a : Option Addr) (c : Nat) (xs : List Cr) (w : World) (hlen : xs.length ≤ 1000000) (hr : RdX w w.heap.size a xs) :
    Calls Tryd.prog 11 #[.agg #[.bool bk, .slice a xs.length c]] w fun e w' => e = .returned (.tuple #[.agg #[.bool (rightX xs), .slice none 0 0], .int .i64 (chX xs)]) ∧ Below w.heap.size w w' := by
  obtain ⟨W, hW⟩ : ∃ W, W = (w.alloc (.cells #[.bool bk, .slice a xs.length c] 24)).alloc (.cells #[.bool false, .slice none 0 0] 24) := ⟨_, rfl⟩
  have HB0 : Hid (Below w.heap.size w W) := by rw [hW]; exact below_al (below_al (Below.refl _ _) _) _
  have HX : Hid (∀ w', Below W.heap.size W w' → (w'.cell? ⟨w.heap.size, 0, none⟩ = some (.bool bk) ∧ w'.cell? ⟨w.heap.size, 1, none⟩ = some (.slice a xs.length c)) ∧ (w'.cell? ⟨w.heap.size + 1, 0, none⟩ = some (.bool false) ∧ w'.cell? ⟨w.heap.size + 1, 1, none⟩ = some (.slice none 0 0) ∧ w'.frozen? ⟨w.heap.size + 1, 0, none⟩ = false ∧ w'.frozen? ⟨w.heap.size + 1, 1, none⟩ = false)) := fun w' h => by
    rw [hW] at h
    have h1 := below_on (below_al (Below.refl _ (w.alloc (.cells #[.bool bk, .slice a xs.length c] 24))) (.cells #[.bool false, .slice none 0 0] 24)) h
    have q0 := box_at h1 0
    have q1 := box_at h1 1
    have q2 := box_at h 0
    have q3 := box_at h 1
    have f2 := frozen_at h 0
    have f3 := frozen_at h 1
    simp only [World.size_alloc] at q2 q3 f2 f3
    exact ⟨⟨q0, q1⟩, q2, q3, f2, f3⟩
  have HCk := Lib.hid (pcheck_any bk a c xs W hlen (hr.on HB0.out))
  have HC : Hid (chX xs = if rightX xs = true then 0 else 2) := rfl
  have HW := Lib.hid hW
  clear hr hW
  generalize rightX xs = q at *
  generalize chX xs = r at *
  obtain ⟨⟨x0, x1⟩, _⟩ := HX.out W (Below.refl _ _)
  go_enter Tryd.func11, Tryd.ntmps11
  go_wp2_with fail
  rw [← HW.out]
  refine HCk.out.mono ?_
  rintro e w1 ⟨rfl, hb⟩
  have HB1 := Lib.hid hb
  clear hb x0 x1
  obtain ⟨_, y0, y1, y2, y3⟩ := HX.out w1 HB1.out
  cases q
  · have hr2 : r = 2 := HC.out
    subst hr2
    go_wp2_with fail
    have s2 := set2_cells y0 y1 (.bool false) (.slice none 0 0)
    refine bodyPost_ret (v := .tuple #[.agg #[.bool false, .slice none 0 0], .int .i64 2]) (by obtain ⟨s2, s3⟩ := s2; simp [results, Tryd.results11, go_sem, s2, s3]) rfl ⟨rfl, ?_⟩
    exact HB0.out.trans (((HB1.out.mono HB0.out.size).setCell (by simp) _).setCell (by simp) _)
  · have hr2 : r = 0 := HC.out
    subst hr2
    go_wp2_with fail
    have s2 := set2_cells y0 y1 (.bool true) (.slice none 0 0)
    refine bodyPost_ret (v := .tuple #[.agg #[.bool true, .slice none 0 0], .int .i64 0]) (by obtain ⟨s2, s3⟩ := s2; simp [results, Tryd.results11, go_sem, s2, s3]) rfl ⟨rfl, ?_⟩
    exact HB0.out.trans (((HB1.out.mono HB0.out.size).setCell (by simp) _).setCell (by simp) _)

theorem puint_any (n : Int) (w : World) : Calls Tryd.prog 51 #[.int .u64 n] w fun e w' => e = .returned (.agg #[.int .i64 1, .int .u64 n, .slice none 0 0, .string ⟨#[]⟩, .slice none 0 0]) ∧ Below w.heap.size w w' := by
  go_enter Tryd.func51, Tryd.ntmps51
  go_wp2
  exact bodyPost_ret (v := .agg #[.int .i64 1, .int .u64 n, .slice none 0 0, .string ⟨#[]⟩, .slice none 0 0]) (by simp [results, Tryd.results51, go_sem]) rfl ⟨rfl, below_al (Below.refl _ _) _⟩

theorem plist_any (a : Option Addr) (n c : Nat) (w : World) : Calls Tryd.prog 50 #[.slice a n c] w fun e w' => e = .returned (.agg #[.int .i64 4, .int .u64 0, .slice none 0 0, .string ⟨#[]⟩, .slice a n c]) ∧ Below w.heap.size w w' := by
  go_enter Tryd.func50, Tryd.ntmps50
  go_wp2
  exact bodyPost_ret (v := .agg #[.int .i64 4, .int .u64 0, .slice none 0 0, .string ⟨#[]⟩, .slice a n c]) (by simp [results, Tryd.results50, go_sem]) rfl ⟨rfl, below_al (Below.refl _ _) _⟩

/-- A Bool's item. -/
def bN (q : Bool) : Int := if q = true then 1 else 0
def itB (q : Bool) : It := .mk 5 (bN q) [] [] []
theorem itS_bool (w : World) (S : Nat → Prop) (q : Bool) : ItS w S (.agg #[.int .i64 5, .int .u64 (bN q), .slice none 0 0, .string ⟨#[]⟩, .slice none 0 0]) (itB q) :=
  itS_plain w S 5 (bN q) [] (by decide) (by cases q <;> exact ⟨by decide, by decide⟩) (Nat.zero_le _)

theorem pbool_any (q : Bool) (w : World) : Calls Tryd.prog 52 #[.bool q] w fun e w' => e = .returned (.agg #[.int .i64 5, .int .u64 (bN q), .slice none 0 0, .string ⟨#[]⟩, .slice none 0 0]) ∧ Below w.heap.size w w' := by
  cases q
  · go_enter Tryd.func52, Tryd.ntmps52
    go_wp2
    exact bodyPost_ret (v := .agg #[.int .i64 5, .int .u64 0, .slice none 0 0, .string ⟨#[]⟩, .slice none 0 0]) (by simp [results, Tryd.results52, go_sem]) rfl ⟨rfl, below_al (below_al (Below.refl _ _) _) _⟩
  · go_enter Tryd.func52, Tryd.ntmps52
    go_wp2
    exact bodyPost_ret (v := .agg #[.int .i64 5, .int .u64 1, .slice none 0 0, .string ⟨#[]⟩, .slice none 0 0]) (by simp [results, Tryd.results52, go_sem]) rfl ⟨rfl, below_al (below_al (Below.refl _ _) _) _⟩

/-- A crossing's item. -/
def itX (x : Cr) : It := itLs [itU x.1.toNat, itB x.2]

/-- Five cells, set. -/
def set5 (w : World) (g : Nat) (v0 v1 v2 v3 v4 : Value) : World :=
  ((((w.setCell ⟨g, 0, none⟩ v0).setCell ⟨g, 1, none⟩ v1).setCell ⟨g, 2, none⟩ v2).setCell ⟨g, 3, none⟩ v3).setCell ⟨g, 4, none⟩ v4

theorem set5_cells {w : World} {g : Nat} {u0 u1 u2 u3 u4 : Value} (h0 : w.cell? ⟨g, 0, none⟩ = some u0) (h1 : w.cell? ⟨g, 1, none⟩ = some u1) (h2 : w.cell? ⟨g, 2, none⟩ = some u2) (h3 : w.cell? ⟨g, 3, none⟩ = some u3) (h4 : w.cell? ⟨g, 4, none⟩ = some u4) (v0 v1 v2 v3 v4 : Value) :
    (set5 w g v0 v1 v2 v3 v4).cell? ⟨g, 0, none⟩ = some v0 ∧ (set5 w g v0 v1 v2 v3 v4).cell? ⟨g, 1, none⟩ = some v1 ∧ (set5 w g v0 v1 v2 v3 v4).cell? ⟨g, 2, none⟩ = some v2 ∧ (set5 w g v0 v1 v2 v3 v4).cell? ⟨g, 3, none⟩ = some v3 ∧ (set5 w g v0 v1 v2 v3 v4).cell? ⟨g, 4, none⟩ = some v4 := by
  unfold set5
  refine ⟨?_, ?_, ?_, ?_, ?_⟩ <;> go_simp

theorem set5_on {B g : Nat} {w0 w : World} (h : Below B w0 w) (hB : B ≤ g) (v0 v1 v2 v3 v4 : Value) : Below B w0 (set5 w g v0 v1 v2 v3 v4) := by
  unfold set5
  exact ((((h.setCell hB v0).setCell hB v1).setCell hB v2).setCell hB v3).setCell hB v4

theorem set5_size (w : World) (g : Nat) (v0 v1 v2 v3 v4 : Value) : (set5 w g v0 v1 v2 v3 v4).heap.size = w.heap.size := by simp [set5]
theorem set5_block {w : World} {g b : Nat} (h : b ≠ g) (v0 v1 v2 v3 v4 : Value) : (set5 w g v0 v1 v2 v3 v4).heap[b]? = w.heap[b]? := by
  unfold set5
  rw [Below.heap_setCell _ _ _ _ h, Below.heap_setCell _ _ _ _ h, Below.heap_setCell _ _ _ _ h, Below.heap_setCell _ _ _ _ h, Below.heap_setCell _ _ _ _ h]

/-- What a builder of an item answers: an item in new memory. -/
def NewP (w : World) (x : It) (e : Ending) (w' : World) : Prop := Below w.heap.size w w' ∧ ∃ v, e = .returned v ∧ ItS w' (newB w w') v x

set_option maxHeartbeats 4000000 in
theorem item1_any (x : Cr) (w : World) : Calls Tryd.prog 49 #[.agg #[.int .u32 x.1.toNat, .bool x.2]] w (NewP w (itX x)) := by
  have hgl := gate_lt x
  obtain ⟨W, hW⟩ : ∃ W, W = (w.alloc (.cells #[.int .u32 x.1.toNat, .bool x.2] 27)).alloc (.cells #[.int .i64 0, .int .u64 0, .slice none 0 0, .string ⟨#[]⟩, .slice none 0 0] 45) := ⟨_, rfl⟩
  have HB0 : Hid (Below w.heap.size w W) := by rw [hW]; exact below_al (below_al (Below.refl _ _) _) _
  have HX : Hid (∀ w', Below W.heap.size W w' → (w'.cell? ⟨w.heap.size, 0, none⟩ = some (.int .u32 x.1.toNat) ∧ w'.cell? ⟨w.heap.size, 1, none⟩ = some (.bool x.2)) ∧ ∀ i, w'.cell? ⟨w.heap.size + 1, i, none⟩ = (#[Value.int .i64 0, .int .u64 0, .slice none 0 0, .string ⟨#[]⟩, .slice none 0 0])[i]? ∧ w'.frozen? ⟨w.heap.size + 1, i, none⟩ = false) := fun w' h => by
    rw [hW] at h
    have h1 := below_on (below_al (Below.refl _ (w.alloc (.cells #[.int .u32 x.1.toNat, .bool x.2] 27))) (.cells #[.int .i64 0, .int .u64 0, .slice none 0 0, .string ⟨#[]⟩, .slice none 0 0] 45)) h
    refine ⟨⟨box_at h1 0, box_at h1 1⟩, fun i => ?_⟩
    have q2 := box_at h i
    have f2 := frozen_at h i
    rw [World.size_alloc] at q2 f2
    exact ⟨q2, f2⟩
  have hWs : w.heap.size + 1 + 1 = W.heap.size := by rw [hW]; simp
  have HW := Lib.hid hW
  have HWs := Lib.hid hWs
  have hS0 := (HX.out W.drew (Below.refl _ _).drew).1
  have hcv : IntKind.u64.wrap (x.1.toNat : Int) = (x.1.toNat : Int) := by
    have := x.1.toNat_lt
    simp [IntKind.wrap, IntKind.signed, IntKind.bits]
    omega
  clear hW hWs
  go_enter Tryd.func49, Tryd.ntmps49
  go_wp2_with fail
  rw [← HW.out]
  refine wp_region_T (fun w' => w'.cell? ⟨w.heap.size, 0, none⟩ = some (.int .u32 x.1.toNat) ∧ w'.cell? ⟨w.heap.size, 1, none⟩ = some (.bool x.2)) 9 (by kernel_rfl) ?_
  refine wpAnyT_take (i := 0) (v := ?_) rfl (by kernel_rfl) (by kernel_rfl) (by kernel_rfl) (by kernel_rfl) (fun _ _ _ h => h) (Or.inl ⟨by rfl, ?_⟩) hS0 ?_
  rotate_left
  · intro w hSw
    (try dsimp only at hSw)
    go_simp
    all_goals with_reducible rfl
  simp only [Act.put, List.setIfInBounds_toArray, List.set_cons_zero, List.set_cons_succ]
  refine wpAnyT_take (i := 1) (v := ?_) rfl (by kernel_rfl) (by kernel_rfl) (by kernel_rfl) (by kernel_rfl) (fun _ _ _ h => h) (Or.inl ⟨by rfl, ?_⟩) hS0 ?_
  rotate_left
  · intro w hSw
    (try dsimp only at hSw)
    go_simp
    all_goals with_reducible rfl
  simp only [Act.put, List.setIfInBounds_toArray, List.set_cons_zero, List.set_cons_succ]
  refine wpAnyT_take (i := 2) (v := ?_) rfl (by kernel_rfl) (by kernel_rfl) (by kernel_rfl) (by kernel_rfl) (fun _ _ _ h => h) (Or.inl ⟨by rfl, ?_⟩) hS0 ?_
  rotate_left
  · intro w hSw
    (try dsimp only at hSw)
    go_simp
    all_goals with_reducible rfl
  simp only [Act.put, List.setIfInBounds_toArray, List.set_cons_zero, List.set_cons_succ]
  refine wpAnyT_take (i := 4) (v := ?_) rfl (by kernel_rfl) (by kernel_rfl) (by kernel_rfl) (by kernel_rfl) (fun _ _ _ h => h) (Or.inl ⟨by rfl, ?_⟩) hS0 ?_
  rotate_left
  · intro w hSw
    (try dsimp only at hSw)
    go_simp
    all_goals with_reducible rfl
  simp only [Act.put, List.setIfInBounds_toArray, List.set_cons_zero, List.set_cons_succ]
  refine wpAnyT_take (i := 5) (v := ?_) rfl (by kernel_rfl) (by kernel_rfl) (by kernel_rfl) (by kernel_rfl) (fun _ _ _ h => h) (Or.inl ⟨by rfl, ?_⟩) hS0 ?_
  rotate_left
  · intro w hSw
    (try dsimp only at hSw)
    go_simp
    all_goals with_reducible rfl
  simp only [Act.put, List.setIfInBounds_toArray, List.set_cons_zero, List.set_cons_succ]
  refine wpAnyT_one (i := 3) (by kernel_rfl) rfl (fun K hK => ?_)
  go_simp
  refine (puint_any _ _).mono ?_
  rintro e w1 ⟨rfl, hb1⟩
  have HB1 := Lib.hid (below_on (Below.refl W.heap.size W).drew hb1)
  refine hK.out _ _ (fun _ => (HX.out _ HB1.out).1) ?_
  clear hK K
  try simp only [Act.put, List.setIfInBounds_toArray, List.set_cons_zero, List.set_cons_succ]
  refine wpAnyT_one (i := 6) (by kernel_rfl) rfl (fun K hK => ?_)
  go_simp
  refine (pbool_any _ _).mono ?_
  rintro e w2 ⟨rfl, hb2⟩
  have HB2 := Lib.hid (below_on HB1.out hb2)
  refine hK.out _ _ (fun _ => (HX.out _ HB2.out).1) ?_
  clear hK K
  try simp only [Act.put, List.setIfInBounds_toArray, List.set_cons_zero, List.set_cons_succ]
  clear hb1 hb2
  refine wpAnyT_one (i := 7) (by kernel_rfl) rfl (fun K hK => ?_)
  go_simp
  have HB3 : Hid (Below W.heap.size W (w2.alloc (.cells #[.int .i64 1, .int .u64 x.1.toNat, .slice none 0 0, .string ⟨#[]⟩, .slice none 0 0, .int .i64 5, .int .u64 (bN x.2), .slice none 0 0, .string ⟨#[]⟩, .slice none 0 0] 45))) := below_al HB2.out _
  have HI : Hid (∀ w', Below (w2.alloc (.cells #[.int .i64 1, .int .u64 x.1.toNat, .slice none 0 0, .string ⟨#[]⟩, .slice none 0 0, .int .i64 5, .int .u64 (bN x.2), .slice none 0 0, .string ⟨#[]⟩, .slice none 0 0] 45)).heap.size (w2.alloc (.cells #[.int .i64 1, .int .u64 x.1.toNat, .slice none 0 0, .string ⟨#[]⟩, .slice none 0 0, .int .i64 5, .int .u64 (bN x.2), .slice none 0 0, .string ⟨#[]⟩, .slice none 0 0] 45)) w' → ItS w' (newB w2 w') (listV (some ⟨w2.heap.size, 0, none⟩) 2 2) (itX x)) := fun w' h =>
    itS_two ⟨Nat.le_refl _, Nat.lt_of_lt_of_le (by simp) h.size⟩ ⟨_, _, _, _, _, rfl, box_at h 0, box_at h 1, box_at h 2, box_at h 3, box_at h 4⟩ ⟨_, _, _, _, _, rfl, box_at h 5, box_at h 6, box_at h 7, box_at h 8, box_at h 9⟩ (itS_uint _ _ _ ⟨by omega, by omega⟩) (itS_bool _ _ _)
  refine hK.out _ _ (fun _ => (HX.out _ HB3.out).1) ?_
  clear hK K
  try simp only [Act.put, List.setIfInBounds_toArray, List.set_cons_zero, List.set_cons_succ]
  refine wpAnyT_one (i := 8) (by kernel_rfl) rfl (fun K hK => ?_)
  go_simp
  refine (plist_any _ _ _ _).mono ?_
  rintro e w4 ⟨rfl, hb4⟩
  have HI4 := Lib.hid (HI.out w4 hb4)
  have HB4 := Lib.hid (below_on HB3.out hb4)
  refine hK.out _ _ (fun _ => (HX.out _ HB4.out).1) ?_
  clear hK K
  try simp only [Act.put, List.setIfInBounds_toArray, List.set_cons_zero, List.set_cons_succ]
  obtain ⟨_, hbx⟩ := HX.out w4 HB4.out
  obtain ⟨d0, f0⟩ := hbx 0
  obtain ⟨d1, f1⟩ := hbx 1
  obtain ⟨d2, f2⟩ := hbx 2
  obtain ⟨d3, f3⟩ := hbx 3
  obtain ⟨d4, f4⟩ := hbx 4
  clear hbx hb4 hS0
  refine wpAnyT_one (i := 9) (by kernel_rfl) rfl (fun K hK => ?_)
  go_simp
  refine hK.out _ _ (fun h => absurd h (by decide)) ?_
  clear hK K
  try simp only [Act.put, List.setIfInBounds_toArray, List.set_cons_zero, List.set_cons_succ]
  refine wpAnyT_done (by kernel_rfl) ?_ _
  have hq := set5_cells d0 d1 d2 d3 d4 (.int .i64 4) (.int .u64 0) (.slice none 0 0) (.string ⟨#[]⟩) (.slice (some ⟨w2.heap.size, 0, none⟩) 2 2)
  have hbel := set5_on (g := w.heap.size + 1) (HB0.out.trans (HB4.out.mono HB0.out.size)) (by omega) (.int .i64 4) (.int .u64 0) (.slice none 0 0) (.string ⟨#[]⟩) (.slice (some ⟨w2.heap.size, 0, none⟩) 2 2)
  have h20 : w.heap.size + 1 + 1 ≤ w2.heap.size := by have := HB2.out.size; have := HWs.out; omega
  have hit : ItS (set5 w4 (w.heap.size + 1) (.int .i64 4) (.int .u64 0) (.slice none 0 0) (.string ⟨#[]⟩) (.slice (some ⟨w2.heap.size, 0, none⟩) 2 2)) (newB w (set5 w4 (w.heap.size + 1) (.int .i64 4) (.int .u64 0) (.slice none 0 0) (.string ⟨#[]⟩) (.slice (some ⟨w2.heap.size, 0, none⟩) 2 2))) (listV (some ⟨w2.heap.size, 0, none⟩) 2 2) (itX x) :=
    ItS.more (fun b hb => ⟨by have := hb.1; omega, by rw [set5_size]; exact hb.2⟩) _ (ItS.keep (fun b hb => set5_block (by have := hb.1; omega) _ _ _ _ _) _ HI4.out)
  have HF := Lib.hid (⟨hq, hbel, hit⟩ : _ ∧ _ ∧ _)
  clear hq hbel hit h20 d0 d1 d2 d3 d4 f0 f1 f2 f3 f4
  unfold set5 at HF
  obtain ⟨⟨q0, q1, q2, q3, q4⟩, hbel, hit⟩ := HF.out
  go_wp2
  exact bodyPost_ret (v := .agg #[.int .i64 4, .int .u64 0, .slice none 0 0, .string ⟨#[]⟩, .slice (some ⟨w2.heap.size, 0, none⟩) 2 2]) (by simp [results, Tryd.results49, go_sem, q0, q1, q2, q3, q4]) rfl ⟨hbel, _, rfl, hit⟩

end Go.Proofs.YtkbnglcpcehaiaaDoor

namespace Go.Proofs.YtkbnglcpcehaiaaDoor
open Go Go.RowKit Go.Shelf
set_option linter.unusedSimpArgs false
set_option linter.unusedVariables false
set_option maxRecDepth 100000

/-- An append, from its run. -/
theorem wpList_run {P : Program} {ops : Array Oper} {rest : List Oper} {o : Oper} {a : Act} {w : World} {Q : Exit → Act → World → Prop} (hgd : o.guard = none) (s x : Operand) (t u : TypeId)
    (ho : o.op = .call { callee := .builtin .append, args := #[s, x], argTypes := #[t, u] }) (v y v' : Value) (w' : World) (hv : a.eval s = v) (hy : a.eval x = y)
    (hrun : (Builtin.append_ #[t, u] o.type #[v, y]).run P w = .ok v' w') (h : wpList P ops Q rest (a.put o.dst v') w') : wpList P ops Q (o :: rest) a w :=
  wpList_plain hgd fun _ hK => by
    unfold Oper.wp execOp
    simp only [ho, resolve, invoke, builtin, Sem.run_bind, Sem.run_pure, Result.andThen_ok, List.map_toArray, List.map_cons, List.map_nil, hv, hy, hrun]
    exact hK _ _ h

/-- An item that is laid in a row of its own, and appended. -/
theorem listO_one {w wr w1 : World} {v : Value} {l : List It} {x : It} {v0 v1 v2 v3 v4 : Value} (h : ListO w wr v l) (hb1 : Below wr.heap.size wr w1) (hx : ItS w1 (newB wr w1) (.agg #[v0, v1, v2, v3, v4]) x) (hlen : l.length ≤ 900000) :
    ∃ v' w2, (Builtin.append_ #[43, 43] 43 #[v, .slice (some ⟨w1.heap.size, 0, none⟩) 1 1]).run Tryd.prog (w1.alloc (.cells #[v0, v1, v2, v3, v4] 45)) = .ok v' w2 ∧ ListO w w2 v' (l ++ [x]) := by
  have hb2 : Below wr.heap.size wr (w1.alloc (.cells #[v0, v1, v2, v3, v4] 45)) := below_al hb1 _
  exact listO_run h hb2 (some ⟨w1.heap.size, 0, none⟩) [x] 1 (by simp; omega)
    ⟨[v0, v1, v2, v3, v4], LI.one (ItS.more h.newer _ (hx.new_on (below_al (Below.refl _ _) _))), .inr ⟨_, rfl, fun j u hu => by
      rw [mk_addr_add, Nat.zero_add, box_at (Below.refl _ _) j]
      simpa using hu⟩⟩ (fun e => by cases e)

set_option maxHeartbeats 4000000 in
theorem listedX_any (a : Option Addr) (c : Nat) (xs : List Cr) (w : World) (hlen : xs.length ≤ 800000) (hr : RdX w w.heap.size a xs) :
    Calls Tryd.prog 48 #[.slice a xs.length c, .func (.func 49) #[] #[]] w fun e w' => ∃ v, e = .returned v ∧ ListO w w' v (xs.map itX) := by
  have HR := Lib.hid hr
  have HF := Lib.hid (fun x w => item1_any x w)
  clear hr
  go_enter Tryd.func48, Tryd.ntmps48
  go_wp2_with fail
  go_loopw [5, 10] (fun v i wr => ∃ k : Nat, k ≤ xs.length ∧ i = .int .i64 k ∧ Hid (ListO w wr v ((xs.take k).map itX))) (fun _ i _ => xs.length - (intOf i).toNat)
  case atStart => exact ⟨0, Nat.zero_le _, rfl, (by show ListO w w _ _; simpa using ListO.nil (Below.refl w.heap.size w))⟩
  case round =>
    obtain ⟨k, hk, rfl, HI⟩ := hrel
    by_cases hlt : k < xs.length
    · obtain ⟨g, o, rfl, hg, hc0⟩ := HR.out.cells k hlt
      obtain ⟨q0, q1⟩ := hc0.kept (HI.out.1.block g hg)
      clear hc0
      have e1 : (xs.take (k + 1)).map itX = (xs.take k).map itX ++ [itX (atX xs k)] := by
        rw [take_atX xs k hlt, List.map_append]
        rfl
      have hl : ((xs.take k).map itX).length ≤ 900000 := by simp; omega
      have HE := Lib.hid e1
      clear e1
      generalize atX xs k = x at *
      obtain ⟨l, hl2⟩ : ∃ l, l = (xs.take k).map itX := ⟨_, rfl⟩
      rw [← hl2] at HI HE hl
      clear hl2
      go_wp2_with fail
      refine (HF.out x _).mono ?_
      rintro e w1 ⟨hb1, v5, rfl, hx⟩
      obtain ⟨a5, c5, A5, C5, rfl⟩ := hx.form
      have hbw : Below wr.heap.size wr w1 := below_on (below_al (Below.refl _ _) _) hb1
      have hx2 := ItS.more (T := newB wr w1) (fun b hb => ⟨by have := hb.1; simp at this; omega, hb.2⟩) _ hx
      obtain ⟨v', w2, hrun, hlo⟩ := listO_one HI.out hbw hx2 hl
      have HRun := Lib.hid hrun
      have HLO := Lib.hid hlo
      clear hrun hlo hx hx2 hbw hb1 q0 q1
      go_wp2_with (at_builtin; refine wpList_run (by rfl) _ _ _ _ (by rfl) _ _ _ _ (by rfl) (by rfl) HRun.out ?_)
      go_roundw
      case rel => exact ⟨k + 1, by omega, by go_num, by rw [Hid, HE.out]; exact HLO.out⟩
      case measure => simp [intOf]; omega
    · obtain rfl : k = xs.length := by omega
      have h := HI.out
      rw [List.take_length] at h
      have HI2 := Lib.hid h
      clear h HI
      go_wp2_with fail
      go_ret
      exact ⟨_, rfl, HI2.out⟩

/-- A path's item. -/
def itP (bk : Bool) (xs : List Cr) : It := itLs (itB bk :: xs.map itX)

set_option maxHeartbeats 4000000 in
theorem pitem_any (bk : Bool) (a : Option Addr) (c : Nat) (xs : List Cr) (w : World) (hlen : xs.length ≤ 800000) (hr : RdX w w.heap.size a xs) :
    Calls Tryd.prog 35 #[.agg #[.bool bk, .slice a xs.length c]] w (NewP w (itP bk xs)) := by
  obtain ⟨W, hW⟩ : ∃ W, W = (w.alloc (.cells #[.bool bk, .slice a xs.length c] 68)).alloc (.cells #[.int .i64 0, .int .u64 0, .slice none 0 0, .string ⟨#[]⟩, .slice none 0 0] 45) := ⟨_, rfl⟩
  have HB0 : Hid (Below w.heap.size w W) := by rw [hW]; exact below_al (below_al (Below.refl _ _) _) _
  have HX : Hid (∀ w', Below W.heap.size W w' → (w'.cell? ⟨w.heap.size, 0, none⟩ = some (.bool bk) ∧ w'.cell? ⟨w.heap.size, 1, none⟩ = some (.slice a xs.length c)) ∧ ∀ i, w'.cell? ⟨w.heap.size + 1, i, none⟩ = (#[Value.int .i64 0, .int .u64 0, .slice none 0 0, .string ⟨#[]⟩, .slice none 0 0])[i]? ∧ w'.frozen? ⟨w.heap.size + 1, i, none⟩ = false) := fun w' h => by
    rw [hW] at h
    have h1 := below_on (below_al (Below.refl _ (w.alloc (.cells #[.bool bk, .slice a xs.length c] 68))) (.cells #[.int .i64 0, .int .u64 0, .slice none 0 0, .string ⟨#[]⟩, .slice none 0 0] 45)) h
    refine ⟨⟨box_at h1 0, box_at h1 1⟩, fun i => ?_⟩
    have q2 := box_at h i
    have f2 := frozen_at h i
    rw [World.size_alloc] at q2 f2
    exact ⟨q2, f2⟩
  have hWs : w.heap.size + 1 + 1 = W.heap.size := by rw [hW]; simp
  have HL := Lib.hid (listedX_any a c xs W hlen (hr.on HB0.out))
  have HW := Lib.hid hW
  have HWs := Lib.hid hWs
  clear hr hW hWs
  obtain ⟨⟨x0, x1⟩, _⟩ := HX.out W (Below.refl _ _)
  go_enter Tryd.func35, Tryd.ntmps35
  go_wp2_with fail
  rw [← HW.out]
  refine HL.out.mono ?_
  rintro e w1 ⟨v, rfl, hlo⟩
  obtain ⟨A, C, rfl, hC⟩ := hlo.form
  have HLO := Lib.hid hlo
  have HB1 : Hid (Below W.heap.size W w1) := hlo.1
  clear hlo hC x0 x1
  obtain ⟨⟨x0, x1⟩, _⟩ := HX.out w1 HB1.out
  go_wp2_with fail
  refine (pbool_any _ _).mono ?_
  rintro e w2 ⟨rfl, hb2⟩
  have HB2 := Lib.hid (below_on HB1.out hb2)
  obtain ⟨A', C', eA, _, hnil, ys, hys, hyc⟩ := ListO.src (w1 := w2.alloc (.cells #[.int .i64 5, .int .u64 (bN bk), .slice none 0 0, .string ⟨#[]⟩, .slice none 0 0] 45)) HLO.out (below_al hb2 _)
  cases eA
  have hlit := ListO.lit (x := itB bk) HB2.out (itS_bool w2 (newB W w2) bk)
  obtain ⟨v', w4, hrun, hlo4⟩ := listO_run hlit (Below.refl _ _) A (xs.map itX) C (by simp; omega) ⟨ys, LI.more (fun b hb => ⟨⟨hb.1, by rw [World.size_alloc]; have := hb.2; have := hb2.size; omega⟩, fun q => by
    have q' : some w2.heap.size = some b := q
    injection q' with q'
    have := hb.2
    have := hb2.size
    omega⟩) hys, hyc⟩ hnil
  obtain ⟨A4, C4, rfl, hit4⟩ := hlo4.item (by simp; omega)
  have hlen4 : ([itB bk] ++ xs.map itX).length = xs.length + 1 := by simp
  have hmap : (xs.map itX).length = xs.length := by simp
  rw [hlen4] at hrun hit4
  rw [hmap] at hrun
  have HRun := Lib.hid hrun
  have HIt : Hid (ItS w4 (newB W w4) (listV A4 (xs.length + 1) C4) (itP bk xs)) := hit4
  have HB4 : Hid (Below W.heap.size W w4) := hlo4.1
  clear hrun hit4 hlo4 hlit hys hyc hnil hlen4 hmap hb2 x0 x1
  go_wp2_with (at_builtin; refine wpList_run (by rfl) _ _ _ _ (by rfl) _ _ _ _ (by rfl) (by rfl) HRun.out ?_)
  refine (plist_any _ _ _ _).mono ?_
  rintro e w5 ⟨rfl, hb5⟩
  have HIt5 : Hid (ItS w5 (newB W w5) (listV A4 (xs.length + 1) C4) (itP bk xs)) := HIt.out.new_on hb5
  have HB5 := Lib.hid (below_on HB4.out hb5)
  obtain ⟨_, hbx⟩ := HX.out w5 HB5.out
  obtain ⟨d0, f0⟩ := hbx 0
  obtain ⟨d1, f1⟩ := hbx 1
  obtain ⟨d2, f2⟩ := hbx 2
  obtain ⟨d3, f3⟩ := hbx 3
  obtain ⟨d4, f4⟩ := hbx 4
  have hq := set5_cells d0 d1 d2 d3 d4 (.int .i64 4) (.int .u64 0) (.slice none 0 0) (.string ⟨#[]⟩) (.slice A4 (xs.length + 1) C4)
  have hbel := set5_on (g := w.heap.size + 1) (HB0.out.trans (HB5.out.mono HB0.out.size)) (by omega) (.int .i64 4) (.int .u64 0) (.slice none 0 0) (.string ⟨#[]⟩) (.slice A4 (xs.length + 1) C4)
  have hit : ItS (set5 w5 (w.heap.size + 1) (.int .i64 4) (.int .u64 0) (.slice none 0 0) (.string ⟨#[]⟩) (.slice A4 (xs.length + 1) C4)) (newB w (set5 w5 (w.heap.size + 1) (.int .i64 4) (.int .u64 0) (.slice none 0 0) (.string ⟨#[]⟩) (.slice A4 (xs.length + 1) C4))) (listV A4 (xs.length + 1) C4) (itP bk xs) :=
    ItS.more (fun b hb => ⟨by have := hb.1; have := HWs.out; omega, by rw [set5_size]; exact hb.2⟩) _ (ItS.keep (fun b hb => set5_block (by have := hb.1; have := HWs.out; omega) _ _ _ _ _) _ HIt5.out)
  have HF := Lib.hid (⟨hq, hbel, hit⟩ : _ ∧ _ ∧ _)
  clear hq hbel hit hbx hb5
  unfold set5 at HF
  go_wp2_with fail
  clear d0 d1 d2 d3 d4 f0 f1 f2 f3 f4
  obtain ⟨⟨q0, q1, q2, q3, q4⟩, hbel, hit⟩ := HF.out
  exact bodyPost_ret (v := .agg #[.int .i64 4, .int .u64 0, .slice none 0 0, .string ⟨#[]⟩, .slice A4 (xs.length + 1) C4]) (by simp [results, Tryd.results35, go_sem, q0, q1, q2, q3, q4]) rfl ⟨hbel, _, rfl, hit⟩

end Go.Proofs.YtkbnglcpcehaiaaDoor

namespace Go.Proofs.YtkbnglcpcehaiaaDoor
open Go Go.RowKit Go.Shelf
set_option linter.unusedSimpArgs false
set_option linter.unusedVariables false
set_option maxRecDepth 100000

/-- No item. -/
def noItV : Value := .agg #[.int .i64 0, .int .u64 0, .slice none 0 0, .string ⟨#[]⟩, .slice none 0 0]

/-- What Item answers. -/
def PItemP (w : World) (bk : Bool) (xs : List Cr) (e : Ending) (w' : World) : Prop :=
  Below w.heap.size w w' ∧ ((rightX xs = true ∧ ∃ a c A C, e = .returned (.tuple #[.agg #[.int .i64 4, .int .u64 0, .slice a 0 c, .string ⟨#[]⟩, .slice A (xs.length + 1) C], .int .i64 0]) ∧ ItS w' (newB w w') (.agg #[.int .i64 4, .int .u64 0, .slice a 0 c, .string ⟨#[]⟩, .slice A (xs.length + 1) C]) (itP bk xs)) ∨ (rightX xs = false ∧ e = .returned (.tuple #[noItV, .int .i64 2])))

set_option maxHeartbeats 4000000 in
theorem ppItem_any (bk : Bool) (a : Option Addr) (c : Nat) (xs : List Cr) (w : World) (hlen : xs.length ≤ 800000) (hr : RdX w w.heap.size a xs) :
    Calls Tryd.prog 18 #[.agg #[.bool bk, .slice a xs.length c]] w (PItemP w bk xs) := by
  obtain ⟨W, hW⟩ : ∃ W, W = (w.alloc (.cells #[.bool bk, .slice a xs.length c] 24)).alloc (.cells #[.int .i64 0, .int .u64 0, .slice none 0 0, .string ⟨#[]⟩, .slice none 0 0] 45) := ⟨_, rfl⟩
  have HB0 : Hid (Below w.heap.size w W) := by rw [hW]; exact below_al (below_al (Below.refl _ _) _) _
  have HX : Hid (∀ w', Below W.heap.size W w' → (w'.cell? ⟨w.heap.size, 0, none⟩ = some (.bool bk) ∧ w'.cell? ⟨w.heap.size, 1, none⟩ = some (.slice a xs.length c)) ∧ ∀ i, w'.cell? ⟨w.heap.size + 1, i, none⟩ = (#[Value.int .i64 0, .int .u64 0, .slice none 0 0, .string ⟨#[]⟩, .slice none 0 0])[i]? ∧ w'.frozen? ⟨w.heap.size + 1, i, none⟩ = false) := fun w' h => by
    rw [hW] at h
    have h1 := below_on (below_al (Below.refl _ (w.alloc (.cells #[.bool bk, .slice a xs.length c] 24))) (.cells #[.int .i64 0, .int .u64 0, .slice none 0 0, .string ⟨#[]⟩, .slice none 0 0] 45)) h
    refine ⟨⟨box_at h1 0, box_at h1 1⟩, fun i => ?_⟩
    have q2 := box_at h i
    have f2 := frozen_at h i
    rw [World.size_alloc] at q2 f2
    exact ⟨q2, f2⟩
  have hWs : w.heap.size + 1 + 1 = W.heap.size := by rw [hW]; simp
  have HCk := Lib.hid (pcheck_any bk a c xs W (by omega) (hr.on HB0.out))
  have HI : Hid (∀ w', Below W.heap.size W w' → Calls Tryd.prog 35 #[.agg #[.bool bk, .slice a xs.length c]] w' (NewP w' (itP bk xs))) := fun w' h => pitem_any bk a c xs w' hlen ((hr.on HB0.out).on h)
  have HC : Hid (chX xs = if rightX xs = true then 0 else 2) := rfl
  have HW := Lib.hid hW
  have HWs := Lib.hid hWs
  clear hr hW hWs
  unfold PItemP
  generalize rightX xs = q at *
  generalize chX xs = r at *
  obtain ⟨⟨x0, x1⟩, _⟩ := HX.out W (Below.refl _ _)
  go_enter Tryd.func18, Tryd.ntmps18
  go_wp2_with fail
  rw [← HW.out]
  refine HCk.out.mono ?_
  rintro e w1 ⟨rfl, hb⟩
  have HB1 := Lib.hid hb
  clear hb x0 x1
  obtain ⟨⟨x0, x1⟩, hbx⟩ := HX.out w1 HB1.out
  cases q
  · have hr2 : r = 2 := HC.out
    subst hr2
    obtain ⟨d0, f0⟩ := hbx 0
    obtain ⟨d1, f1⟩ := hbx 1
    obtain ⟨d2, f2⟩ := hbx 2
    obtain ⟨d3, f3⟩ := hbx 3
    obtain ⟨d4, f4⟩ := hbx 4
    clear hbx
    have hq := set5_cells d0 d1 d2 d3 d4 (.int .i64 0) (.int .u64 0) (.slice none 0 0) (.string ⟨#[]⟩) (.slice none 0 0)
    have hbel := set5_on (g := w.heap.size + 1) (HB0.out.trans (HB1.out.mono HB0.out.size)) (by omega) (.int .i64 0) (.int .u64 0) (.slice none 0 0) (.string ⟨#[]⟩) (.slice none 0 0)
    have HF := Lib.hid (⟨hq, hbel⟩ : _ ∧ _)
    clear hq hbel
    unfold set5 at HF
    go_wp2_with fail
    obtain ⟨⟨q0, q1, q2, q3, q4⟩, hbel⟩ := HF.out
    clear d0 d1 d2 d3 d4 f0 f1 f2 f3 f4
    exact bodyPost_ret (v := .tuple #[noItV, .int .i64 2]) (by simp [noItV, results, Tryd.results18, go_sem, q0, q1, q2, q3, q4]) rfl ⟨hbel, rfl⟩
  · have hr2 : r = 0 := HC.out
    subst hr2
    clear hbx
    go_wp2_with fail
    refine (HI.out w1 HB1.out).mono ?_
    rintro e w2 ⟨hb2, v, rfl, hit⟩
    obtain ⟨a', c', A, C, e5⟩ := hit.form
    have e6 : v = .agg #[.int .i64 4, .int .u64 0, .slice a' 0 c', .string ⟨#[]⟩, .slice A (xs.length + 1) C] := by
      rw [e5]
      simp [itP, itLs, It.k, It.n, It.b, It.s, It.l]
    subst e6
    have HB2 := Lib.hid (below_on HB1.out hb2)
    have HIt := Lib.hid hit
    have hs1 : W.heap.size ≤ w1.heap.size := HB1.out.size
    clear e5 hit x0 x1 hb2
    obtain ⟨_, hbx⟩ := HX.out w2 HB2.out
    obtain ⟨d0, f0⟩ := hbx 0
    obtain ⟨d1, f1⟩ := hbx 1
    obtain ⟨d2, f2⟩ := hbx 2
    obtain ⟨d3, f3⟩ := hbx 3
    obtain ⟨d4, f4⟩ := hbx 4
    clear hbx
    have hq := set5_cells d0 d1 d2 d3 d4 (.int .i64 4) (.int .u64 0) (.slice a' 0 c') (.string ⟨#[]⟩) (.slice A (xs.length + 1) C)
    have hbel := set5_on (g := w.heap.size + 1) (HB0.out.trans (HB2.out.mono HB0.out.size)) (by omega) (.int .i64 4) (.int .u64 0) (.slice a' 0 c') (.string ⟨#[]⟩) (.slice A (xs.length + 1) C)
    have hit2 : ItS (set5 w2 (w.heap.size + 1) (.int .i64 4) (.int .u64 0) (.slice a' 0 c') (.string ⟨#[]⟩) (.slice A (xs.length + 1) C)) (newB w (set5 w2 (w.heap.size + 1) (.int .i64 4) (.int .u64 0) (.slice a' 0 c') (.string ⟨#[]⟩) (.slice A (xs.length + 1) C))) (.agg #[.int .i64 4, .int .u64 0, .slice a' 0 c', .string ⟨#[]⟩, .slice A (xs.length + 1) C]) (itP bk xs) :=
      ItS.more (fun b hb => ⟨by have := hb.1; have := HWs.out; omega, by rw [set5_size]; exact hb.2⟩) _ (ItS.keep (fun b hb => set5_block (by have := hb.1; have := HWs.out; omega) _ _ _ _ _) _ HIt.out)
    have HF := Lib.hid (⟨hq, hbel, hit2⟩ : _ ∧ _ ∧ _)
    clear hq hbel hit2
    unfold set5 at HF
    go_wp2_with fail
    obtain ⟨⟨q0, q1, q2, q3, q4⟩, hbel, hit2⟩ := HF.out
    clear d0 d1 d2 d3 d4 f0 f1 f2 f3 f4
    exact bodyPost_ret (v := .tuple #[.agg #[.int .i64 4, .int .u64 0, .slice a' 0 c', .string ⟨#[]⟩, .slice A (xs.length + 1) C], .int .i64 0]) (by simp [results, Tryd.results18, go_sem, q0, q1, q2, q3, q4]) rfl ⟨hbel, _, _, _, _, rfl, hit2⟩

/-- Are these a crossing's kinds? -/
def shX (l : List It) : Bool := match l with
  | [x, y] => decide (x.k = 1) && decide (y.k = 5)
  | _ => false

theorem shX_len {l : List It} (h : ¬ l.length = 2) : shX l = false := by
  unfold shX
  split
  · simp at h
  · rfl

theorem len_two {l : List It} (h : l.length = 2) : ∃ x y, l = [x, y] := by
  match l, h with
  | [x, y], _ => exact ⟨x, y, rfl⟩

set_option maxHeartbeats 4000000 in
theorem shaped_any (A : Option Addr) (C : Nat) (l : List It) (w : World) (hs : l.length ≤ 140737488355328) (hl : ItSl w A l) :
    Calls Tryd.prog 55 #[.slice A l.length C] w fun e w' => e = .returned (.bool (shX l)) ∧ Below w.heap.size w w' := by
  by_cases h2 : l.length = 2
  · obtain ⟨x, y, rfl⟩ := len_two h2
    obtain ⟨g, o, rfl, hg, hL⟩ : ∃ g o, A = some ⟨g, o, none⟩ ∧ g < w.heap.size ∧ ItL w w.heap.size g o [x, y] := by
      rcases hl with h | h
      · cases h
      · exact h
    have hb : Below w.heap.size w (w.alloc (.cells #[.int .i64 1, .int .i64 5] 108)) := below_al (Below.refl _ _) _
    obtain ⟨_, _, _, _, _, c0, _⟩ := hL.get (i := 0) (x := x) rfl hb hg
    obtain ⟨_, _, _, _, _, c5, _⟩ := hL.get (i := 1) (x := y) rfl hb hg
    have i0 : ∀ w, (Instr.index 108 (.agg #[.int .i64 1, .int .i64 5]) (.int .i64 0)).run Tryd.prog w = .ok (.int .i64 1) w := fun _ => by kernel_rfl
    have i1 : ∀ w, (Instr.index 108 (.agg #[.int .i64 1, .int .i64 5]) (.int .i64 1)).run Tryd.prog w = .ok (.int .i64 5) w := fun _ => by kernel_rfl
    have HSH : Hid (shX [x, y] = (decide (x.k = 1) && decide (y.k = 5))) := rfl
    rw [HSH.out]
    clear HSH hL hl h2
    simp only [Nat.zero_mul, Nat.add_zero, Nat.one_mul] at c0 c5
    generalize x.k = k0 at *
    generalize y.k = k1 at *
    have HQ : Hid (∀ q0 q1 : Bool, q0 = (k0 == 1) → q1 = (k1 == 5) → (decide (k0 = 1) && decide (k1 = 5)) = (q0 && q1)) := fun q0 q1 h0 h1 => by
      rw [h0, h1]
      by_cases e0 : k0 = 1 <;> by_cases e1 : k1 = 5 <;> simp [e0, e1]
    obtain ⟨q0, h0⟩ : ∃ q0, q0 = (k0 == 1) := ⟨_, rfl⟩
    obtain ⟨q1, h1⟩ : ∃ q1, q1 = (k1 == 5) := ⟨_, rfl⟩
    have HR := Lib.hid (HQ.out q0 q1 h0 h1)
    have n0 : (k0 != 1) = !q0 := by rw [h0]; rfl
    have n1 : (k1 != 5) = !q1 := by rw [h1]; rfl
    rw [HR.out]
    clear h0 h1 HQ HR
    obtain ⟨W, hW⟩ : ∃ W, W = w.alloc (.cells #[.int .i64 1, .int .i64 5] 108) := ⟨_, rfl⟩
    rw [← hW] at hb c0 c5
    have HW := Lib.hid hW
    have HB := Lib.hid hb
    clear hW hb
    go_enter Tryd.func55, Tryd.ntmps55
    go_wp2_with fail
    rw [← HW.out]
    go_loopw [11] (fun i wr => ∃ j : Nat, j ≤ 2 ∧ i = .int .i64 j ∧ Hid (wr = W ∧ (1 ≤ j → q0 = true) ∧ (2 ≤ j → q1 = true))) (fun i _ => 2 - (intOf i).toNat)
    case atStart => exact ⟨0, by omega, rfl, rfl, (fun h => by omega), (fun h => by omega)⟩
    case round =>
      obtain ⟨j, hj, rfl, HI⟩ := hrel
      obtain rfl := HI.out.1
      rcases (show j = 0 ∨ j = 1 ∨ j = 2 by omega) with rfl | rfl | rfl
      · cases q0
        · go_wp2_with fail
          go_ret
          exact ⟨rfl, HB.out⟩
        · go_wp2_with fail
          go_roundw
          case rel => exact ⟨1, by omega, rfl, (by first | trivial | rfl), (fun _ => by first | trivial | rfl), (fun h => by omega)⟩
          case measure => simp [intOf]
      · cases q1
        · go_wp2_with fail
          go_ret
          exact ⟨by simp, HB.out⟩
        · go_wp2_with fail
          go_roundw
          case rel => exact ⟨2, by omega, rfl, (by first | trivial | rfl), (fun _ => HI.out.2.1 (by omega)), (fun _ => by first | trivial | rfl)⟩
          case measure => simp [intOf]
      · have r0 := HI.out.2.1 (by omega)
        have r1 := HI.out.2.2 (by omega)
        subst r0 r1
        go_wp2_with fail
        go_ret
        exact ⟨rfl, HB.out⟩
  · have HQ := Lib.hid (shX_len h2)
    have q : ((l.length : Int) == 2) = false := by simp; omega
    have q' : ((l.length : Int) != 2) = true := by simp; omega
    clear h2 hl
    go_enter Tryd.func55, Tryd.ntmps55
    go_wp2_with fail
    go_ret
    exact ⟨by rw [HQ.out]; rfl, below_al (Below.refl _ _) _⟩

end Go.Proofs.YtkbnglcpcehaiaaDoor

namespace Go.Proofs.YtkbnglcpcehaiaaDoor
open Go Go.RowKit Go.Shelf
set_option linter.unusedSimpArgs false
set_option linter.unusedVariables false
set_option maxRecDepth 100000

/-- The crossing that an item tells, if it is one's. -/
def crG (x : It) : Cr := if shX x.l = true then (match x.l with | [y, z] => (UInt32.ofNat y.n.toNat, z.n == 1) | _ => (0, false)) else (0, false)

theorem crG_no {x : It} (h : shX x.l = false) : crG x = (0, false) := by
  unfold crG
  rw [h]
  rfl

theorem crG_yes {x y z : It} (h : shX x.l = true) (hl : x.l = [y, z]) : crG x = (UInt32.ofNat y.n.toNat, z.n == 1) := by
  unfold crG
  rw [h, hl]
  rfl

theorem shX_two {l : List It} (h : shX l = true) : ∃ y z, l = [y, z] := by
  by_cases h2 : l.length = 2
  · exact len_two h2
  · rw [shX_len h2] at h
    cases h

theorem ItV.parts {w : World} {B : Nat} {v : Value} {x : It} (h : ItV w B v x) : U64 x.n ∧ x.l.length ≤ 140737488355328 := by
  obtain ⟨k, n, b, s, l⟩ := x
  simp only [ItV] at h
  obtain ⟨A, ⟨a, c, C, _, _, _, h4, _, _, _, h6⟩, _⟩ := h
  exact ⟨h4, h6⟩

theorem ItV.list {w : World} {B : Nat} {x : It} {a A : Option Addr} {c C : Nat} (h : ItV w B (.agg #[.int .i64 x.k, .int .u64 x.n, .slice a x.b.length c, .string ⟨x.s.toArray⟩, .slice A x.l.length C]) x) : x.l.length ≤ C ∧ (x.l = [] ∨ ∃ g o, A = some ⟨g, o, none⟩ ∧ g < B ∧ ItL w B g o x.l) := by
  obtain ⟨k, n, b, s, l⟩ := x
  simp only [ItV] at h
  obtain ⟨A1, ⟨a1, c1, C1, e, ⟨_, h2⟩, _⟩, hl⟩ := h
  have e' : [Value.int .i64 k, .int .u64 n, .slice a b.length c, .string ⟨s.toArray⟩, .slice A l.length C] = [.int .i64 k, .int .u64 n, .slice a1 b.length c1, .string ⟨s.toArray⟩, .slice A1 l.length C1] := congrArg (fun v => match v with | .agg l => l.toList | _ => []) e
  simp only [List.cons.injEq, Value.slice.injEq, and_true, true_and] at e'
  obtain ⟨⟨rfl, rfl⟩, rfl, rfl⟩ := e'
  exact ⟨h2, hl⟩

set_option maxHeartbeats 4000000 in
theorem guess1_any (x : It) (v : Value) (w : World) (hv : ItV w w.heap.size v x) :
    Calls Tryd.prog 54 #[v] w fun e w' => e = .returned (.agg #[.int .u32 (crG x).1.toNat, .bool (crG x).2]) ∧ Below w.heap.size w w' := by
  obtain ⟨a, c, A, C, rfl⟩ := hv.form
  obtain ⟨W, hW⟩ : ∃ W, W = (w.alloc (.cells #[.int .i64 x.k, .int .u64 x.n, .slice a x.b.length c, .string ⟨x.s.toArray⟩, .slice A x.l.length C] 45)).alloc (.cells #[.int .u32 0, .bool false] 27) := ⟨_, rfl⟩
  have HB0 : Hid (Below w.heap.size w W) := by rw [hW]; exact below_al (below_al (Below.refl _ _) _) _
  have HX : Hid (∀ w', Below W.heap.size W w' → w'.cell? ⟨w.heap.size, 4, none⟩ = some (.slice A x.l.length C) ∧ (w'.cell? ⟨w.heap.size + 1, 0, none⟩ = some (.int .u32 0) ∧ w'.cell? ⟨w.heap.size + 1, 1, none⟩ = some (.bool false) ∧ w'.frozen? ⟨w.heap.size + 1, 0, none⟩ = false ∧ w'.frozen? ⟨w.heap.size + 1, 1, none⟩ = false)) := fun w' h => by
    rw [hW] at h
    have h1 := below_on (below_al (Below.refl _ (w.alloc (.cells #[.int .i64 x.k, .int .u64 x.n, .slice a x.b.length c, .string ⟨x.s.toArray⟩, .slice A x.l.length C] 45))) (.cells #[.int .u32 0, .bool false] 27)) h
    have q0 := box_at h1 4
    have q1 := box_at h 0
    have q2 := box_at h 1
    have f1 := frozen_at h 0
    have f2 := frozen_at h 1
    rw [World.size_alloc] at q1 q2 f1 f2
    exact ⟨q0, q1, q2, f1, f2⟩
  obtain ⟨hC, hlist⟩ := hv.list
  obtain ⟨_, hlen⟩ := hv.parts
  have hsl : ItSl W A x.l := hlist.imp id fun ⟨g, o, e, hg, h⟩ => ⟨g, o, e, Nat.lt_of_lt_of_le hg HB0.out.size, ItL.mono HB0.out.size _ (ItL.below HB0.out hg _ h)⟩
  have HSh := Lib.hid (shaped_any A C x.l W hlen hsl)
  have HL := Lib.hid hlist
  have HW := Lib.hid hW
  clear hW hv hlist hsl
  obtain ⟨x4, _⟩ := HX.out W (Below.refl _ _)
  cases hq : shX x.l
  · rw [hq] at HSh
    rw [crG_no hq]
    clear hq
    go_enter Tryd.func54, Tryd.ntmps54
    go_wp2_with fail
    rw [← HW.out]
    refine HSh.out.mono ?_
    rintro e w1 ⟨rfl, hb⟩
    have HB1 := Lib.hid hb
    clear hb x4
    obtain ⟨x4, y0, y1, y2, y3⟩ := HX.out w1 HB1.out
    go_wp2_with fail
    have s2 := set2_cells y0 y1 (.int .u32 0) (.bool false)
    refine bodyPost_ret (v := .agg #[.int .u32 0, .bool false]) (by obtain ⟨s2, s3⟩ := s2; simp [results, Tryd.results54, go_sem, s2, s3]) rfl ⟨rfl, ?_⟩
    exact HB0.out.trans (((HB1.out.mono HB0.out.size).setCell (by simp) _).setCell (by simp) _)
  · rw [hq] at HSh
    obtain ⟨y, z, hyz⟩ := shX_two hq
    rw [crG_yes hq hyz]
    rw [hyz] at HSh HX HL HW x4 hC hlen
    have hl2 : [y, z].length = 2 := rfl
    obtain ⟨g, o, rfl, hg, hL⟩ : ∃ g o, A = some ⟨g, o, none⟩ ∧ g < w.heap.size ∧ ItL w w.heap.size g o [y, z] := by
      rcases HL.out with h | h
      · cases h
      · exact h
    obtain ⟨_, _, _, _, hy0, _⟩ := hL.get (i := 0) (x := y) rfl (Below.refl _ w) hg
    obtain ⟨_, _, _, _, hz0, _⟩ := hL.get (i := 1) (x := z) rfl (Below.refl _ w) hg
    have uy := hy0.parts.1
    have uz := hz0.parts.1
    rw [hl2] at HX x4 hC
    have HSd : Hid (∀ w', Below W.heap.size W w' → (w'.cell? ⟨w.heap.size, 4, none⟩ = some (.slice (some ⟨g, o, none⟩) 2 C)) ∧ (w'.cell? ⟨g, o + 1, none⟩ = some (.int .u64 y.n) ∧ w'.cell? ⟨g, o + 5 + 1, none⟩ = some (.int .u64 z.n))) := fun w' h => by
      have hb := HB0.out.trans (h.mono HB0.out.size)
      obtain ⟨_, _, _, _, _, _, c1, _⟩ := hL.get (i := 0) (x := y) rfl hb hg
      obtain ⟨_, _, _, _, _, _, c6, _⟩ := hL.get (i := 1) (x := z) rfl hb hg
      exact ⟨(HX.out w' h).1, by simpa using c1, by simpa using c6⟩
    have HW2 : Hid (W = (w.alloc (.cells #[.int .i64 x.k, .int .u64 x.n, .slice a x.b.length c, .string ⟨x.s.toArray⟩, .slice (some ⟨g, o, none⟩) x.l.length C] 45)).alloc (.cells #[.int .u32 0, .bool false] 27)) := by rw [hyz]; exact HW.out
    have HSh2 : Hid (Calls Tryd.prog 55 #[.slice (some ⟨g, o, none⟩) 2 C] W fun e w' => e = .returned (.bool true) ∧ Below W.heap.size W w') := HSh.out
    have hu1 : (UInt32.ofNat y.n.toNat).toNat = y.n.toNat % 4294967296 := by simp
    have hwrap : IntKind.u32.wrap y.n = ((UInt32.ofNat y.n.toNat).toNat : Int) := by
      rw [hu1]
      have := uy.1
      simp [IntKind.wrap, IntKind.signed, IntKind.bits]
      omega
    have HL2 : x.l.length = 2 := by rw [hyz]; rfl
    have HYZ := Lib.hid hl2
    have hz1 : ((z.n : Int) == 1) = (z.n == 1) := rfl
    clear hq HL HW HSh hyz hL hy0 hz0 hl2 hu1 hlen
    have hxl := Lib.hid HL2
    go_enter Tryd.func54, Tryd.ntmps54
    rw [HL2]
    rw [HL2] at HW2
    clear HL2
    generalize (UInt32.ofNat y.n.toNat).toNat = gv at *
    generalize hbz : (z.n == 1) = bz at *
    have HBZ := Lib.hid hbz
    go_wp2_with fail
    rw [← HW2.out]
    refine HSh2.out.mono ?_
    rintro e w1 ⟨rfl, hb⟩
    have HB1 := Lib.hid hb
    clear hb x4
    have hS0 := HSd.out w1.drew (HB1.out.drew)
    obtain ⟨x4, y0, y1, y2, y3⟩ := HX.out w1 HB1.out
    have hrest : ∀ w', Below w1.heap.size w1 w' → (w'.cell? ⟨w.heap.size, 4, none⟩ = some (.slice (some ⟨g, o, none⟩) 2 C)) ∧ (w'.cell? ⟨g, o + 1, none⟩ = some (.int .u64 y.n) ∧ w'.cell? ⟨g, o + 5 + 1, none⟩ = some (.int .u64 z.n)) := fun w' h => HSd.out w' (below_on HB1.out h)
    have HRest := Lib.hid hrest
    clear hrest
    go_wp2_with fail
    refine wp_region_T (fun w' => (w'.cell? ⟨w.heap.size, 4, none⟩ = some (.slice (some ⟨g, o, none⟩) 2 C)) ∧ (w'.cell? ⟨g, o + 1, none⟩ = some (.int .u64 y.n) ∧ w'.cell? ⟨g, o + 5 + 1, none⟩ = some (.int .u64 z.n))) 13 (by kernel_rfl) ?_
    refine wpAnyT_take (i := 0) (v := ?_) rfl (by kernel_rfl) (by kernel_rfl) (by kernel_rfl) (by kernel_rfl) (fun _ _ _ h => h) (Or.inl ⟨by rfl, ?_⟩) hS0 ?_
    rotate_left
    · intro w hSw
      (try dsimp only at hSw)
      go_simp
      all_goals with_reducible rfl
    simp only [Act.put, List.setIfInBounds_toArray, List.set_cons_zero, List.set_cons_succ]
    refine wpAnyT_take (i := 1) (v := ?_) rfl (by kernel_rfl) (by kernel_rfl) (by kernel_rfl) (by kernel_rfl) (fun _ _ _ h => h) (Or.inl ⟨by rfl, ?_⟩) hS0 ?_
    rotate_left
    · intro w hSw
      (try dsimp only at hSw)
      go_simp
      all_goals with_reducible rfl
    simp only [Act.put, List.setIfInBounds_toArray, List.set_cons_zero, List.set_cons_succ]
    refine wpAnyT_take (i := 2) (v := ?_) rfl (by kernel_rfl) (by kernel_rfl) (by kernel_rfl) (by kernel_rfl) (fun _ _ _ h => h) (Or.inl ⟨by rfl, ?_⟩) hS0 ?_
    rotate_left
    · intro w hSw
      (try dsimp only at hSw)
      go_simp
      all_goals with_reducible rfl
    simp only [Act.put, List.setIfInBounds_toArray, List.set_cons_zero, List.set_cons_succ]
    refine wpAnyT_take (i := 3) (v := ?_) rfl (by kernel_rfl) (by kernel_rfl) (by kernel_rfl) (by kernel_rfl) (fun _ _ _ h => h) (Or.inl ⟨by rfl, ?_⟩) hS0 ?_
    rotate_left
    · intro w hSw
      (try dsimp only at hSw)
      go_simp
      all_goals with_reducible rfl
    simp only [Act.put, List.setIfInBounds_toArray, List.set_cons_zero, List.set_cons_succ]
    refine wpAnyT_take (i := 4) (v := ?_) rfl (by kernel_rfl) (by kernel_rfl) (by kernel_rfl) (by kernel_rfl) (fun _ _ _ h => h) (Or.inl ⟨by rfl, ?_⟩) hS0 ?_
    rotate_left
    · intro w hSw
      (try dsimp only at hSw)
      go_simp
      all_goals with_reducible rfl
    simp only [Act.put, List.setIfInBounds_toArray, List.set_cons_zero, List.set_cons_succ]
    refine wpAnyT_take (i := 5) (v := ?_) rfl (by kernel_rfl) (by kernel_rfl) (by kernel_rfl) (by kernel_rfl) (fun _ _ _ h => h) (Or.inl ⟨by rfl, ?_⟩) hS0 ?_
    rotate_left
    · intro w hSw
      (try dsimp only at hSw)
      go_simp
      all_goals with_reducible rfl
    simp only [Act.put, List.setIfInBounds_toArray, List.set_cons_zero, List.set_cons_succ]
    refine wpAnyT_take (i := 6) (v := ?_) rfl (by kernel_rfl) (by kernel_rfl) (by kernel_rfl) (by kernel_rfl) (fun _ _ _ h => h) (Or.inl ⟨by rfl, ?_⟩) hS0 ?_
    rotate_left
    · intro w hSw
      (try dsimp only at hSw)
      go_simp
      all_goals with_reducible rfl
    simp only [Act.put, List.setIfInBounds_toArray, List.set_cons_zero, List.set_cons_succ]
    refine wpAnyT_take (i := 7) (v := ?_) rfl (by kernel_rfl) (by kernel_rfl) (by kernel_rfl) (by kernel_rfl) (fun _ _ _ h => h) (Or.inl ⟨by rfl, ?_⟩) hS0 ?_
    rotate_left
    · intro w hSw
      (try dsimp only at hSw)
      go_simp
      all_goals with_reducible rfl
    simp only [Act.put, List.setIfInBounds_toArray, List.set_cons_zero, List.set_cons_succ]
    refine wpAnyT_take (i := 8) (v := ?_) rfl (by kernel_rfl) (by kernel_rfl) (by kernel_rfl) (by kernel_rfl) (fun _ _ _ h => h) (Or.inl ⟨by rfl, ?_⟩) hS0 ?_
    rotate_left
    · intro w hSw
      (try dsimp only at hSw)
      go_simp
      all_goals with_reducible rfl
    simp only [Act.put, List.setIfInBounds_toArray, List.set_cons_zero, List.set_cons_succ]
    refine wpAnyT_take (i := 9) (v := ?_) rfl (by kernel_rfl) (by kernel_rfl) (by kernel_rfl) (by kernel_rfl) (fun _ _ _ h => h) (Or.inl ⟨by rfl, ?_⟩) hS0 ?_
    rotate_left
    · intro w hSw
      (try dsimp only at hSw)
      go_simp
      all_goals with_reducible rfl
    simp only [Act.put, List.setIfInBounds_toArray, List.set_cons_zero, List.set_cons_succ]
    refine wpAnyT_take (i := 10) (v := ?_) rfl (by kernel_rfl) (by kernel_rfl) (by kernel_rfl) (by kernel_rfl) (fun _ _ _ h => h) (Or.inl ⟨by rfl, ?_⟩) hS0 ?_
    rotate_left
    · intro w hSw
      (try dsimp only at hSw)
      go_simp
      all_goals with_reducible rfl
    simp only [Act.put, List.setIfInBounds_toArray, List.set_cons_zero, List.set_cons_succ]
    refine wpAnyT_take (i := 11) (v := ?_) rfl (by kernel_rfl) (by kernel_rfl) (by kernel_rfl) (by kernel_rfl) (fun _ _ _ h => h) (Or.inl ⟨by rfl, ?_⟩) hS0 ?_
    rotate_left
    · intro w hSw
      (try dsimp only at hSw)
      go_simp
      all_goals with_reducible rfl
    simp only [Act.put, List.setIfInBounds_toArray, List.set_cons_zero, List.set_cons_succ]
    refine wpAnyT_take (i := 12) (v := ?_) rfl (by kernel_rfl) (by kernel_rfl) (by kernel_rfl) (by kernel_rfl) (fun _ _ _ h => h) (Or.inl ⟨by rfl, ?_⟩) hS0 ?_
    rotate_left
    · intro w hSw
      (try dsimp only at hSw)
      go_simp
      all_goals with_reducible rfl
    simp only [Act.put, List.setIfInBounds_toArray, List.set_cons_zero, List.set_cons_succ]
    refine wpAnyT_one (i := 13) (by kernel_rfl) rfl (fun K hK => ?_)
    go_simp
    refine hK.out _ _ (fun h => absurd h (by decide)) ?_
    clear hK K
    try simp only [Act.put, List.setIfInBounds_toArray, List.set_cons_zero, List.set_cons_succ]
    refine wpAnyT_done (by kernel_rfl) ?_ _
    have s2 := set2_cells y0 y1 (.int .u32 gv) (.bool bz)
    clear hS0 x4 y0 y1 y2 y3
    go_wp2_with fail
    refine bodyPost_ret (v := .agg #[.int .u32 gv, .bool bz]) (by obtain ⟨s2, s3⟩ := s2; simp [results, Tryd.results54, go_sem, s2, s3]) rfl ⟨rfl, ?_⟩
    exact (HB0.out.trans (((HB1.out.mono HB0.out.size).setCell (by simp) _).setCell (by simp) _)).drew

end Go.Proofs.YtkbnglcpcehaiaaDoor
