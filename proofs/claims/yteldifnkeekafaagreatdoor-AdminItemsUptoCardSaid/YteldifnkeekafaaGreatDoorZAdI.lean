/- Package admin: tried; Encode, Check, Decode, Report. -/
import Derived.Test.YteldifnkeekafaaGreatDoorZAdH
set_option maxHeartbeats 8000000
set_option linter.unusedSimpArgs false
set_option linter.unusedVariables false
set_option maxRecDepth 100000
namespace Go.Proofs.YteldifnkeekafaaGreatDoor
open Go Go.RowKit Go.Shelf

attribute [local go_sem] Oper.semAt_some

theorem dassert_errno (v : Value) (w : World) : (Instr.typeAssert (.iface 33 v) 20 33 false).run Tryz.prog w = .ok v w := by
 simp [Instr.typeAssert, run_underlying Tryz.underlying33]

def ItmO (w : World) (r : Option It) (e : Ending) (w' : World) : Prop := Below w.heap.size w w' ∧ ((∃ x a c A C, r = some x ∧ e = .returned (.agg #[.int .i64 x.k, .int .u64 x.n, .slice a x.b.length c, .string ⟨x.s.toArray⟩, .slice A x.l.length C]) ∧ ItS w' (newB w w') (.agg #[.int .i64 x.k, .int .u64 x.n, .slice a x.b.length c, .string ⟨x.s.toArray⟩, .slice A x.l.length C]) x) ∨ (r = none ∧ e = gives 180))
def TrI (w : World) (r : Option It) (e : Ending) (w' : World) : Prop := Below w.heap.size w w' ∧ ((∃ x a c A C, r = some x ∧ e = .returned (.tuple #[.agg #[.int .i64 x.k, .int .u64 x.n, .slice a x.b.length c, .string ⟨x.s.toArray⟩, .slice A x.l.length C], .int .i64 0]) ∧ ItS w' (newB w w') (.agg #[.int .i64 x.k, .int .u64 x.n, .slice a x.b.length c, .string ⟨x.s.toArray⟩, .slice A x.l.length C]) x) ∨ (r = none ∧ e = .returned (.tuple #[.agg #[.int .i64 0, .int .u64 0, .slice none 0 0, .string ⟨#[]⟩, .slice none 0 0], .int .i64 180])))
def TrR (w : World) (r : Option Rc) (e : Ending) (w' : World) : Prop := Below w.heap.size w w' ∧ ((∃ q, r = some q ∧ e = .returned (.tuple #[.agg #[.int .i64 q.k, .int .u32 q.n, .int .u32 q.m, .int .u64 q.t, .int .u32 q.q, .int .i64 q.wh, .int .i64 q.wy, .int .u64 q.at0, .int .u64 q.no, .int .u32 q.nd, .int .u32 q.rg, .bool q.ys, .int .u64 q.fr, .int .u64 q.un, .int .u8 q.lv], .int .i64 0])) ∨ (r = none ∧ e = .returned (.tuple #[.agg #[.int .i64 0, .int .u32 0, .int .u32 0, .int .u64 0, .int .u32 0, .int .i64 0, .int .i64 0, .int .u64 0, .int .u64 0, .int .u32 0, .int .u32 0, .bool false, .int .u64 0, .int .u64 0, .int .u8 0], .int .i64 180])))

theorem putL_other {b c : Nat} (hne : c ≠ b) (i : Nat) : ∀ (vs : List Value) (j : Nat) (w : World), (putL w b j vs).cell? ⟨c, i, none⟩ = w.cell? ⟨c, i, none⟩
 | [], j, w => rfl
 | v :: vs, j, w => (putL_other hne i vs (j + 1) _).trans (World.cell?_setCell_other _ _ _ _ (by intro e; injection e with e; exact hne e.symm))
theorem putL_S {w : World} {x : It} {v : Value} {b : Nat} (hb : b < w.heap.size) : ∀ (vs : List Value) (j : Nat) (W : World), ItS W (newB w W) v x → ItS (putL W b j vs) (newB w (putL W b j vs)) v x
 | [], j, W, h => h
 | u :: vs, j, W, h => putL_S hb vs (j + 1) _ (ItS.more (fun j hj => ⟨hj.1, by rw [World.size_setCell]; exact hj.2⟩) _ (ItS.keep (fun j hj => Below.heap_setCell _ _ _ _ (by show j ≠ b; have := hj.1; omega)) _ h))

theorem dcatchI_gives (p : Addr) (x c : Int) (w : World) (hc : w.cell? p = some (.int .i64 x)) (hz : w.frozen? p = false) :
  CallsD Tryz.prog 40 #[.pointer (some p)] (.panicking [{ v := .iface 33 (.int .i64 c), recovered := false }]) w fun e u' w' =>
   e = .returned (.tuple #[]) ∧ u' = .panicking [{ v := .iface 33 (.int .i64 c), recovered := true }] ∧ w' = w.setCell p (.int .i64 c) := by
 refine callsD_of_wpS Tryz.func40 rfl fun c₀ cs hu => ?_
 apply wpS_seq
 apply wpS_region
 simp [wpOpsS, go_sem, recoverD, hu, Tryz.ntmps40, Exit.thenS]
 refine wpS_of_wp ?_
 change Code.wp _ _ _ { tmps := #[.pointer (some p), .iface 33 (.int .i64 c), .iface 33 (.int .i64 c), undef, undef, undef, undef], defers := [] } _
 have has := dassert_errno (.int .i64 c)
 go_wp2_with fail
 cases c₀
 simp_all [bodyPostS, results, Tryz.results40]

theorem dcatchI_idle (p : Addr) (w : World) :
  CallsD Tryz.prog 40 #[.pointer (some p)] .returning w fun e u' w' => e = .returned (.tuple #[]) ∧ u' = .returning ∧ w' = w := by
 refine callsD_of_wpS Tryz.func40 rfl fun c₀ cs hu => ?_
 apply wpS_seq
 apply wpS_region
 simp [wpOpsS, go_sem, recoverD, hu, Tryz.ntmps40, Exit.thenS]
 refine wpS_of_wp ?_
 change Code.wp _ _ _ { tmps := #[.pointer (some p), .nilIface, .nilIface, undef, undef, undef, undef], defers := [] } _
 go_wp2_with fail
 cases c₀
 simp_all [bodyPostS, results, Tryz.results40]

theorem dtriedI_any (fc : Nat) (fs lb : Array Value) (r : Option It) (w : World) (hent : ∀ args w, (callFunc fc args).run Tryz.prog w = .ok (.enter fc args) w) (hR : ∀ w', Below w.heap.size w w' → Calls Tryz.prog fc (fs ++ lb) w' (ItmO w' r)) :
  Calls Tryz.prog 22 #[.func (.func fc) fs lb] w (TrI w r) := by
 have hmf : ∀ (fn : Fn) (first cap : Array Value) (w : World), (Instr.makeFunc fn first cap).run Tryz.prog w = .ok (.func fn first cap) w := fun _ _ _ _ => rfl
 obtain ⟨W, hW⟩ : ∃ W, W = (w.alloc (.cells #[.int .i64 0, .int .u64 0, .slice none 0 0, .string ⟨#[]⟩, .slice none 0 0] 45)).alloc (.cells #[.int .i64 0] 33) := ⟨_, rfl⟩
 have hbW : Below w.heap.size w W := by rw [hW]; exact below_al (below_al bR _) _
 have hsW : W.heap.size = w.heap.size + 2 := by rw [hW]; simp
 have HRx : Hid (RowB W w.heap.size [.int .i64 0, .int .u64 0, .slice none 0 0, .string ⟨#[]⟩, .slice none 0 0]) := by
  rw [hW]
  exact (RowB.new w [.int .i64 0, .int .u64 0, .slice none 0 0, .string ⟨#[]⟩, .slice none 0 0] 45).on (below_al bR _) (by simp)
 have HRe : Hid (RowB W (w.heap.size + 1) [.int .i64 0]) := by
  have h := RowB.new (w.alloc (.cells #[.int .i64 0, .int .u64 0, .slice none 0 0, .string ⟨#[]⟩, .slice none 0 0] 45)) [.int .i64 0] 33
  rw [World.size_alloc] at h
  rw [hW]
  exact h
 have HB := h_ hbW
 have HW := h_ hW
 have HSW := h_ hsW
 have HR := h_ (hR W hbW)
 clear hW hbW hR hsW
 go_enter_defers Tryz.func22, Tryz.ntmps22
 go_wp2_with fail
 rw [← HW.out]
 refine HR.out.mono ?_
 rintro e w1 ⟨hb1, hm⟩
 have hs2 := HSW.out
 have hx1 := HRx.out.on hb1 (by omega)
 have he1 := HRe.out.on hb1 (by omega)
 have HX1 := h_ hx1
 have HE1 := h_ he1
 have HB1 := h_ (HB.out.trans (hb1.mono HB.out.size))
 have ec : w1.cell? ⟨w.heap.size + 1, 0, none⟩ = some (.int .i64 0) := he1.1 0 _ rfl
 have ef := he1.2 0
 clear hb1 hs2 hx1 he1
 rcases hm with ⟨x, a, c, A, C, hr, rfl, hit⟩ | ⟨hr, rfl⟩
 rotate_left
 ·subst hr
  rw [gives_def]
  go_wp2_with fail
  refine leaves_cons (f := 40) (args := #[.pointer (some ⟨w.heap.size + 1, 0, none⟩)]) (by simp) (by simp [go_sem]) ?_
  refine (dcatchI_gives ⟨w.heap.size + 1, 0, none⟩ 0 180 w1 ec ef).mono ?_
  rintro e u' w'' ⟨rfl, rfl, rfl⟩
  have hrow := HX1.out.other (c := w.heap.size + 1) (i := 0) (Nat.succ_ne_self _) (.int .i64 180)
  have k99 : (w1.setCell ⟨w.heap.size + 1, 0, none⟩ (.int .i64 180)).cell? ⟨w.heap.size + 1, 0, none⟩ = some (.int .i64 180) := World.cell?_setCell_same _ _ _ ec
  have hP : TrI w none (.returned (.tuple #[.agg #[.int .i64 0, .int .u64 0, .slice none 0 0, .string ⟨#[]⟩, .slice none 0 0], .int .i64 180])) (w1.setCell ⟨w.heap.size + 1, 0, none⟩ (.int .i64 180)) := ⟨HB1.out.setCell (p := ⟨w.heap.size + 1, 0, none⟩) (Nat.le_succ _) _, .inr ⟨rfl, rfl⟩⟩
  generalize w1.setCell ⟨w.heap.size + 1, 0, none⟩ (.int .i64 180) = w9 at *
  obtain ⟨k0, k1, k2, k3, k4⟩ := r5 hrow
  simp [Leaves, settle, results, Tryz.results22, go_sem, k0, k1, k2, k3, k4, k99]
  exact hP
 ·subst hr
  have HIt := h_ hit
  clear hit
  obtain ⟨r0, r1, r2, r3, r4⟩ := r5 HX1.out
  obtain ⟨fr0, fr1, fr2, fr3, fr4⟩ := f5 HX1.out
  go_wp2_with fail
  change bodyPostD _ _ _ _ _ ((putL w1 w.heap.size 0 [.int .i64 x.k, .int .u64 x.n, .slice a x.b.length c, .string ⟨x.s.toArray⟩, .slice A x.l.length C]).setCell ⟨w.heap.size + 1, 0, none⟩ (.int .i64 0))
  have hrow2 : RowB (putL w1 w.heap.size 0 [.int .i64 x.k, .int .u64 x.n, .slice a x.b.length c, .string ⟨x.s.toArray⟩, .slice A x.l.length C]) w.heap.size [.int .i64 x.k, .int .u64 x.n, .slice a x.b.length c, .string ⟨x.s.toArray⟩, .slice A x.l.length C] := putL_row _ _ 0 _ HX1.out
  have hbk : Below w.heap.size w (putL w1 w.heap.size 0 [.int .i64 x.k, .int .u64 x.n, .slice a x.b.length c, .string ⟨x.s.toArray⟩, .slice A x.l.length C]) := putL_bel (Nat.le_refl _) _ 0 _ HB1.out
  have e9 : (putL w1 w.heap.size 0 [.int .i64 x.k, .int .u64 x.n, .slice a x.b.length c, .string ⟨x.s.toArray⟩, .slice A x.l.length C]).cell? ⟨w.heap.size + 1, 0, none⟩ = some (.int .i64 0) := (putL_other (show w.heap.size + 1 ≠ w.heap.size from Nat.succ_ne_self _) 0 _ 0 _).trans ec
  have hi2 : ItS (putL w1 w.heap.size 0 [.int .i64 x.k, .int .u64 x.n, .slice a x.b.length c, .string ⟨x.s.toArray⟩, .slice A x.l.length C]) (newB W (putL w1 w.heap.size 0 [.int .i64 x.k, .int .u64 x.n, .slice a x.b.length c, .string ⟨x.s.toArray⟩, .slice A x.l.length C])) (.agg #[.int .i64 x.k, .int .u64 x.n, .slice a x.b.length c, .string ⟨x.s.toArray⟩, .slice A x.l.length C]) x := putL_S (by have := HSW.out; omega) _ 0 _ HIt.out
  generalize putL w1 w.heap.size 0 [.int .i64 x.k, .int .u64 x.n, .slice a x.b.length c, .string ⟨x.s.toArray⟩, .slice A x.l.length C] = w3 at *
  have hrow3 := hrow2.other (c := w.heap.size + 1) (i := 0) (Nat.succ_ne_self _) (.int .i64 0)
  have k99 : (w3.setCell ⟨w.heap.size + 1, 0, none⟩ (.int .i64 0)).cell? ⟨w.heap.size + 1, 0, none⟩ = some (.int .i64 0) := World.cell?_setCell_same _ _ _ e9
  have hi3 := putL_S (b := w.heap.size + 1) (by have := HSW.out; omega) [.int .i64 0] 0 _ hi2
  have hP : TrI w (some x) (.returned (.tuple #[.agg #[.int .i64 x.k, .int .u64 x.n, .slice a x.b.length c, .string ⟨x.s.toArray⟩, .slice A x.l.length C], .int .i64 0])) (w3.setCell ⟨w.heap.size + 1, 0, none⟩ (.int .i64 0)) := ⟨hbk.setCell (p := ⟨w.heap.size + 1, 0, none⟩) (Nat.le_succ _) _, .inl ⟨x, a, c, A, C, rfl, rfl, ItS.from_ hi3 (by have := HSW.out; omega)⟩⟩
  clear hi2 hi3
  refine leaves_cons (f := 40) (args := #[.pointer (some ⟨w.heap.size + 1, 0, none⟩)]) (by simp) (by simp [go_sem]) ?_
  refine (dcatchI_idle ⟨w.heap.size + 1, 0, none⟩ _).mono ?_
  rintro e u' w'' ⟨rfl, rfl, rfl⟩
  generalize w3.setCell ⟨w.heap.size + 1, 0, none⟩ (.int .i64 0) = w9 at *
  obtain ⟨k0, k1, k2, k3, k4⟩ := r5 hrow3
  simp [Leaves, settle, results, Tryz.results22, go_sem, k0, k1, k2, k3, k4, k99]
  exact hP

theorem dcatchR_gives (p : Addr) (x c : Int) (w : World) (hc : w.cell? p = some (.int .i64 x)) (hz : w.frozen? p = false) :
  CallsD Tryz.prog 35 #[.pointer (some p)] (.panicking [{ v := .iface 33 (.int .i64 c), recovered := false }]) w fun e u' w' =>
   e = .returned (.tuple #[]) ∧ u' = .panicking [{ v := .iface 33 (.int .i64 c), recovered := true }] ∧ w' = w.setCell p (.int .i64 c) := by
 refine callsD_of_wpS Tryz.func35 rfl fun c₀ cs hu => ?_
 apply wpS_seq
 apply wpS_region
 simp [wpOpsS, go_sem, recoverD, hu, Tryz.ntmps35, Exit.thenS]
 refine wpS_of_wp ?_
 change Code.wp _ _ _ { tmps := #[.pointer (some p), .iface 33 (.int .i64 c), .iface 33 (.int .i64 c), undef, undef, undef, undef], defers := [] } _
 have has := dassert_errno (.int .i64 c)
 go_wp2_with fail
 cases c₀
 simp_all [bodyPostS, results, Tryz.results35]

theorem dcatchR_idle (p : Addr) (w : World) :
  CallsD Tryz.prog 35 #[.pointer (some p)] .returning w fun e u' w' => e = .returned (.tuple #[]) ∧ u' = .returning ∧ w' = w := by
 refine callsD_of_wpS Tryz.func35 rfl fun c₀ cs hu => ?_
 apply wpS_seq
 apply wpS_region
 simp [wpOpsS, go_sem, recoverD, hu, Tryz.ntmps35, Exit.thenS]
 refine wpS_of_wp ?_
 change Code.wp _ _ _ { tmps := #[.pointer (some p), .nilIface, .nilIface, undef, undef, undef, undef], defers := [] } _
 go_wp2_with fail
 cases c₀
 simp_all [bodyPostS, results, Tryz.results35]

theorem dtriedR_any (fc : Nat) (fs lb : Array Value) (r : Option Rc) (w : World) (hent : ∀ args w, (callFunc fc args).run Tryz.prog w = .ok (.enter fc args) w) (hR : ∀ w', Below w.heap.size w w' → Calls Tryz.prog fc (fs ++ lb) w' (RdRc w' r)) :
  Calls Tryz.prog 18 #[.func (.func fc) fs lb] w (TrR w r) := by
 have hmf : ∀ (fn : Fn) (first cap : Array Value) (w : World), (Instr.makeFunc fn first cap).run Tryz.prog w = .ok (.func fn first cap) w := fun _ _ _ _ => rfl
 obtain ⟨W, hW⟩ : ∃ W, W = (w.alloc (.cells #[.int .i64 0, .int .u32 0, .int .u32 0, .int .u64 0, .int .u32 0, .int .i64 0, .int .i64 0, .int .u64 0, .int .u64 0, .int .u32 0, .int .u32 0, .bool false, .int .u64 0, .int .u64 0, .int .u8 0] 32)).alloc (.cells #[.int .i64 0] 33) := ⟨_, rfl⟩
 have hbW : Below w.heap.size w W := by rw [hW]; exact below_al (below_al bR _) _
 have hsW : W.heap.size = w.heap.size + 2 := by rw [hW]; simp
 have HRx : Hid (RowB W w.heap.size [.int .i64 0, .int .u32 0, .int .u32 0, .int .u64 0, .int .u32 0, .int .i64 0, .int .i64 0, .int .u64 0, .int .u64 0, .int .u32 0, .int .u32 0, .bool false, .int .u64 0, .int .u64 0, .int .u8 0]) := by
  rw [hW]
  exact (RowB.new w [.int .i64 0, .int .u32 0, .int .u32 0, .int .u64 0, .int .u32 0, .int .i64 0, .int .i64 0, .int .u64 0, .int .u64 0, .int .u32 0, .int .u32 0, .bool false, .int .u64 0, .int .u64 0, .int .u8 0] 32).on (below_al bR _) (by simp)
 have HRe : Hid (RowB W (w.heap.size + 1) [.int .i64 0]) := by
  have h := RowB.new (w.alloc (.cells #[.int .i64 0, .int .u32 0, .int .u32 0, .int .u64 0, .int .u32 0, .int .i64 0, .int .i64 0, .int .u64 0, .int .u64 0, .int .u32 0, .int .u32 0, .bool false, .int .u64 0, .int .u64 0, .int .u8 0] 32)) [.int .i64 0] 33
  rw [World.size_alloc] at h
  rw [hW]
  exact h
 have HB := h_ hbW
 have HW := h_ hW
 have HSW := h_ hsW
 have HR := h_ (hR W hbW)
 clear hW hbW hR hsW
 go_enter_defers Tryz.func18, Tryz.ntmps18
 go_wp2_with fail
 rw [← HW.out]
 refine HR.out.mono ?_
 rintro e w1 ⟨hb1, hm⟩
 have hs2 := HSW.out
 have hx1 := HRx.out.on hb1 (by omega)
 have he1 := HRe.out.on hb1 (by omega)
 have HX1 := h_ hx1
 have HE1 := h_ he1
 have HB1 := h_ (HB.out.trans (hb1.mono HB.out.size))
 have ec : w1.cell? ⟨w.heap.size + 1, 0, none⟩ = some (.int .i64 0) := he1.1 0 _ rfl
 have ef := he1.2 0
 clear hb1 hs2 hx1 he1
 rcases hm with ⟨q, hr, rfl⟩ | ⟨hr, rfl⟩
 rotate_left
 ·subst hr
  rw [gives_def]
  go_wp2_with fail
  refine leaves_cons (f := 35) (args := #[.pointer (some ⟨w.heap.size + 1, 0, none⟩)]) (by simp) (by simp [go_sem]) ?_
  refine (dcatchR_gives ⟨w.heap.size + 1, 0, none⟩ 0 180 w1 ec ef).mono ?_
  rintro e u' w'' ⟨rfl, rfl, rfl⟩
  have hrow := HX1.out.other (c := w.heap.size + 1) (i := 0) (Nat.succ_ne_self _) (.int .i64 180)
  have k99 : (w1.setCell ⟨w.heap.size + 1, 0, none⟩ (.int .i64 180)).cell? ⟨w.heap.size + 1, 0, none⟩ = some (.int .i64 180) := World.cell?_setCell_same _ _ _ ec
  have hP : TrR w none (.returned (.tuple #[.agg #[.int .i64 0, .int .u32 0, .int .u32 0, .int .u64 0, .int .u32 0, .int .i64 0, .int .i64 0, .int .u64 0, .int .u64 0, .int .u32 0, .int .u32 0, .bool false, .int .u64 0, .int .u64 0, .int .u8 0], .int .i64 180])) (w1.setCell ⟨w.heap.size + 1, 0, none⟩ (.int .i64 180)) := ⟨HB1.out.setCell (p := ⟨w.heap.size + 1, 0, none⟩) (Nat.le_succ _) _, .inr ⟨rfl, rfl⟩⟩
  generalize w1.setCell ⟨w.heap.size + 1, 0, none⟩ (.int .i64 180) = w9 at *
  obtain ⟨k0, k1, k2, k3, k4, k5, k6, k7, k8, k9, k10, k11, k12, k13, k14⟩ := r15 hrow
  simp [Leaves, settle, results, Tryz.results18, go_sem, k0, k1, k2, k3, k4, k5, k6, k7, k8, k9, k10, k11, k12, k13, k14, k99]
  exact hP
 ·subst hr
  unfold Rc.val
  obtain ⟨r0, r1, r2, r3, r4, r5, r6, r7, r8, r9, r10, r11, r12, r13, r14⟩ := r15 HX1.out
  obtain ⟨fr0, fr1, fr2, fr3, fr4, fr5, fr6, fr7, fr8, fr9, fr10, fr11, fr12, fr13, fr14⟩ := f15 HX1.out
  go_wp2_with fail
  change bodyPostD _ _ _ _ _ ((putL w1 w.heap.size 0 [.int .i64 q.k, .int .u32 q.n, .int .u32 q.m, .int .u64 q.t, .int .u32 q.q, .int .i64 q.wh, .int .i64 q.wy, .int .u64 q.at0, .int .u64 q.no, .int .u32 q.nd, .int .u32 q.rg, .bool q.ys, .int .u64 q.fr, .int .u64 q.un, .int .u8 q.lv]).setCell ⟨w.heap.size + 1, 0, none⟩ (.int .i64 0))
  have hrow2 : RowB (putL w1 w.heap.size 0 [.int .i64 q.k, .int .u32 q.n, .int .u32 q.m, .int .u64 q.t, .int .u32 q.q, .int .i64 q.wh, .int .i64 q.wy, .int .u64 q.at0, .int .u64 q.no, .int .u32 q.nd, .int .u32 q.rg, .bool q.ys, .int .u64 q.fr, .int .u64 q.un, .int .u8 q.lv]) w.heap.size [.int .i64 q.k, .int .u32 q.n, .int .u32 q.m, .int .u64 q.t, .int .u32 q.q, .int .i64 q.wh, .int .i64 q.wy, .int .u64 q.at0, .int .u64 q.no, .int .u32 q.nd, .int .u32 q.rg, .bool q.ys, .int .u64 q.fr, .int .u64 q.un, .int .u8 q.lv] := putL_row _ _ 0 _ HX1.out
  have hbk : Below w.heap.size w (putL w1 w.heap.size 0 [.int .i64 q.k, .int .u32 q.n, .int .u32 q.m, .int .u64 q.t, .int .u32 q.q, .int .i64 q.wh, .int .i64 q.wy, .int .u64 q.at0, .int .u64 q.no, .int .u32 q.nd, .int .u32 q.rg, .bool q.ys, .int .u64 q.fr, .int .u64 q.un, .int .u8 q.lv]) := putL_bel (Nat.le_refl _) _ 0 _ HB1.out
  have e9 : (putL w1 w.heap.size 0 [.int .i64 q.k, .int .u32 q.n, .int .u32 q.m, .int .u64 q.t, .int .u32 q.q, .int .i64 q.wh, .int .i64 q.wy, .int .u64 q.at0, .int .u64 q.no, .int .u32 q.nd, .int .u32 q.rg, .bool q.ys, .int .u64 q.fr, .int .u64 q.un, .int .u8 q.lv]).cell? ⟨w.heap.size + 1, 0, none⟩ = some (.int .i64 0) := (putL_other (show w.heap.size + 1 ≠ w.heap.size from Nat.succ_ne_self _) 0 _ 0 _).trans ec
  generalize putL w1 w.heap.size 0 [.int .i64 q.k, .int .u32 q.n, .int .u32 q.m, .int .u64 q.t, .int .u32 q.q, .int .i64 q.wh, .int .i64 q.wy, .int .u64 q.at0, .int .u64 q.no, .int .u32 q.nd, .int .u32 q.rg, .bool q.ys, .int .u64 q.fr, .int .u64 q.un, .int .u8 q.lv] = w3 at *
  have hrow3 := hrow2.other (c := w.heap.size + 1) (i := 0) (Nat.succ_ne_self _) (.int .i64 0)
  have k99 : (w3.setCell ⟨w.heap.size + 1, 0, none⟩ (.int .i64 0)).cell? ⟨w.heap.size + 1, 0, none⟩ = some (.int .i64 0) := World.cell?_setCell_same _ _ _ e9
  have hP : TrR w (some q) (.returned (.tuple #[.agg #[.int .i64 q.k, .int .u32 q.n, .int .u32 q.m, .int .u64 q.t, .int .u32 q.q, .int .i64 q.wh, .int .i64 q.wy, .int .u64 q.at0, .int .u64 q.no, .int .u32 q.nd, .int .u32 q.rg, .bool q.ys, .int .u64 q.fr, .int .u64 q.un, .int .u8 q.lv], .int .i64 0])) (w3.setCell ⟨w.heap.size + 1, 0, none⟩ (.int .i64 0)) := ⟨hbk.setCell (p := ⟨w.heap.size + 1, 0, none⟩) (Nat.le_succ _) _, .inl ⟨q, rfl, rfl⟩⟩
  refine leaves_cons (f := 35) (args := #[.pointer (some ⟨w.heap.size + 1, 0, none⟩)]) (by simp) (by simp [go_sem]) ?_
  refine (dcatchR_idle ⟨w.heap.size + 1, 0, none⟩ _).mono ?_
  rintro e u' w'' ⟨rfl, rfl, rfl⟩
  generalize w3.setCell ⟨w.heap.size + 1, 0, none⟩ (.int .i64 0) = w9 at *
  obtain ⟨k0, k1, k2, k3, k4, k5, k6, k7, k8, k9, k10, k11, k12, k13, k14⟩ := r15 hrow3
  simp [Leaves, settle, results, Tryz.results18, go_sem, k0, k1, k2, k3, k4, k5, k6, k7, k8, k9, k10, k11, k12, k13, k14, k99]
  exact hP

theorem dencode1_any (P : Nat) (r : Rc) (hok : r.ok) (w : World) (hP : RowB w P [.int .i64 r.k, .int .u32 r.n, .int .u32 r.m, .int .u64 r.t, .int .u32 r.q, .int .i64 r.wh, .int .i64 r.wy, .int .u64 r.at0, .int .u64 r.no, .int .u32 r.nd, .int .u32 r.rg, .bool r.ys, .int .u64 r.fr, .int .u64 r.un, .int .u8 r.lv]) (hl : P < w.heap.size) : Calls Tryz.prog 23 #[.pointer (some ⟨P, 0, none⟩)] w (ItmO w (itemR r)) := by
 obtain ⟨W, hW⟩ : ∃ W, W = w.alloc (.cells #[.int .i64 0, .int .u64 0, .slice none 0 0, .string ⟨#[]⟩, .slice none 0 0] 45) := ⟨_, rfl⟩
 have hb : Below w.heap.size w W := by rw [hW]; exact below_al bR _
 have HB0 := h_ hb
 have HS0 : Hid (w.heap.size < W.heap.size) := by rw [Hid, hW]; simp
 have HR0 : Hid (RowB W w.heap.size [.int .i64 0, .int .u64 0, .slice none 0 0, .string ⟨#[]⟩, .slice none 0 0]) := by rw [hW]; exact RowB.new w _ _
 have hp := hP.on hb hl
 obtain ⟨x0, x1, x2, x3, x4, x5, x6, x7, x8, x9, x10, x11, x12, x13, x14⟩ := r15 hp
 have HI := h_ (ditem_any r hok W)
 have HW := h_ hW
 rw [hW] at x0 x1 x2 x3 x4 x5 x6 x7 x8 x9 x10 x11 x12 x13 x14
 clear hW hb hp hP hok
 go_enter Tryz.func23, Tryz.ntmps23
 go_wp2_with fail
 rw [← HW.out]
 clear x0 x1 x2 x3 x4 x5 x6 x7 x8 x9 x10 x11 x12 x13 x14
 refine HI.out.mono ?_
 rintro e w1 ⟨hb, ⟨x, a, c, A, C, hr, rfl, hit⟩ | ⟨hr, rfl⟩⟩
 rotate_left
 ·have HB := h_ (below_on HB0.out hb)
  have HE := h_ hr
  clear hb hr
  rw [gives_def]
  go_wp2_with fail
  exact ⟨rfl, HB.out, .inr ⟨HE.out, rfl⟩⟩
 have HB1 := h_ (below_on HB0.out hb)
 have HE := h_ hr
 have HI1 := h_ hit
 have HR1 := h_ (HR0.out.on hb HS0.out)
 clear hb hr hit
 obtain ⟨r0, r1, r2, r3, r4⟩ := r5 HR1.out
 obtain ⟨f0, f1, f2, f3, f4⟩ := f5 HR1.out
 go_wp2_with fail
 change bodyPost _ _ _ _ _ (put5 w1 w.heap.size (.int .i64 x.k) (.int .u64 x.n) (.slice a x.b.length c) (.string ⟨x.s.toArray⟩) (.slice A x.l.length C))
 have hc5 := put5_cells r0 r1 r2 r3 r4 (.int .i64 x.k) (.int .u64 x.n) (.slice a x.b.length c) (.string ⟨x.s.toArray⟩) (.slice A x.l.length C)
 have hbel := put5_bel HB1.out (Nat.le_refl _) (.int .i64 x.k) (.int .u64 x.n) (.slice a x.b.length c) (.string ⟨x.s.toArray⟩) (.slice A x.l.length C)
 have hs := put5_S HI1.out (b := w.heap.size) HS0.out (.int .i64 x.k) (.int .u64 x.n) (.slice a x.b.length c) (.string ⟨x.s.toArray⟩) (.slice A x.l.length C)
 generalize put5 w1 w.heap.size (.int .i64 x.k) (.int .u64 x.n) (.slice a x.b.length c) (.string ⟨x.s.toArray⟩) (.slice A x.l.length C) = w30 at *
 have hs2 : ItS w30 (newB w w30) _ x := ItS.from_ hs (Nat.le_of_lt HS0.out)
 obtain ⟨k0, k1, k2, k3, k4⟩ := hc5
 exact bodyPost_ret (v := .agg #[.int .i64 x.k, .int .u64 x.n, .slice a x.b.length c, .string ⟨x.s.toArray⟩, .slice A x.l.length C]) (by simp [results, Tryz.results23, go_sem, k0, k1, k2, k3, k4]) rfl ⟨hbel, .inl ⟨x, a, c, A, C, HE.out, rfl, hs2⟩⟩

theorem ddecode1_any (P : Nat) (x : It) (a A : Option Addr) (c C : Nat) (w : World) (hd : ∀ y ∈ x.l, y.depth ≤ 60000) (hv : ItV w w.heap.size (.agg #[.int .i64 x.k, .int .u64 x.n, .slice a x.b.length c, .string ⟨x.s.toArray⟩, .slice A x.l.length C]) x) (hP : RowB w P [.int .i64 x.k, .int .u64 x.n, .slice a x.b.length c, .string ⟨x.s.toArray⟩, .slice A x.l.length C]) (hl : P < w.heap.size) : Calls Tryz.prog 19 #[.pointer (some ⟨P, 0, none⟩)] w (RdRc w (rdR x)) := by
 obtain ⟨W, hW⟩ : ∃ W, W = w.alloc (.cells #[.int .i64 0, .int .u32 0, .int .u32 0, .int .u64 0, .int .u32 0, .int .i64 0, .int .i64 0, .int .u64 0, .int .u64 0, .int .u32 0, .int .u32 0, .bool false, .int .u64 0, .int .u64 0, .int .u8 0] 32) := ⟨_, rfl⟩
 have hb : Below w.heap.size w W := by rw [hW]; exact below_al bR _
 have HB0 := h_ hb
 have HS0 : Hid (w.heap.size < W.heap.size) := by rw [Hid, hW]; simp
 have HR0 : Hid (RowB W w.heap.size [.int .i64 0, .int .u32 0, .int .u32 0, .int .u64 0, .int .u32 0, .int .i64 0, .int .i64 0, .int .u64 0, .int .u64 0, .int .u32 0, .int .u32 0, .bool false, .int .u64 0, .int .u64 0, .int .u8 0]) := by rw [hW]; exact RowB.new w _ _
 have hp := hP.on hb hl
 obtain ⟨x0, x1, x2, x3, x4⟩ := r5 hp
 have HI := h_ (dread_any x _ W hd (hv.on hb))
 have HW := h_ hW
 rw [hW] at x0 x1 x2 x3 x4
 clear hW hb hp hP hd hv
 go_enter Tryz.func19, Tryz.ntmps19
 go_wp2_with fail
 rw [← HW.out]
 clear x0 x1 x2 x3 x4
 refine HI.out.mono ?_
 rintro e w1 ⟨hb, ⟨q, hr, rfl⟩ | ⟨hr, rfl⟩⟩
 rotate_left
 ·have HB := h_ (below_on HB0.out hb)
  have HE := h_ hr
  clear hb hr
  rw [gives_def]
  go_wp2_with fail
  exact ⟨rfl, HB.out, .inr ⟨HE.out, rfl⟩⟩
 have HB1 := h_ (below_on HB0.out hb)
 have HE := h_ hr
 have HR1 := h_ (HR0.out.on hb HS0.out)
 clear hb hr
 unfold Rc.val
 obtain ⟨r0, r1, r2, r3, r4, r5, r6, r7, r8, r9, r10, r11, r12, r13, r14⟩ := r15 HR1.out
 obtain ⟨f0, f1, f2, f3, f4, f5, f6, f7, f8, f9, f10, f11, f12, f13, f14⟩ := f15 HR1.out
 go_wp2_with fail
 change bodyPost _ _ _ _ _ (putL w1 w.heap.size 0 [.int .i64 q.k, .int .u32 q.n, .int .u32 q.m, .int .u64 q.t, .int .u32 q.q, .int .i64 q.wh, .int .i64 q.wy, .int .u64 q.at0, .int .u64 q.no, .int .u32 q.nd, .int .u32 q.rg, .bool q.ys, .int .u64 q.fr, .int .u64 q.un, .int .u8 q.lv])
 have hrow : RowB (putL w1 w.heap.size 0 [.int .i64 q.k, .int .u32 q.n, .int .u32 q.m, .int .u64 q.t, .int .u32 q.q, .int .i64 q.wh, .int .i64 q.wy, .int .u64 q.at0, .int .u64 q.no, .int .u32 q.nd, .int .u32 q.rg, .bool q.ys, .int .u64 q.fr, .int .u64 q.un, .int .u8 q.lv]) w.heap.size [.int .i64 q.k, .int .u32 q.n, .int .u32 q.m, .int .u64 q.t, .int .u32 q.q, .int .i64 q.wh, .int .i64 q.wy, .int .u64 q.at0, .int .u64 q.no, .int .u32 q.nd, .int .u32 q.rg, .bool q.ys, .int .u64 q.fr, .int .u64 q.un, .int .u8 q.lv] := putL_row _ _ 0 _ HR1.out
 have hfin : RdRc w (rdR x) (.returned (.agg #[.int .i64 q.k, .int .u32 q.n, .int .u32 q.m, .int .u64 q.t, .int .u32 q.q, .int .i64 q.wh, .int .i64 q.wy, .int .u64 q.at0, .int .u64 q.no, .int .u32 q.nd, .int .u32 q.rg, .bool q.ys, .int .u64 q.fr, .int .u64 q.un, .int .u8 q.lv])) (putL w1 w.heap.size 0 [.int .i64 q.k, .int .u32 q.n, .int .u32 q.m, .int .u64 q.t, .int .u32 q.q, .int .i64 q.wh, .int .i64 q.wy, .int .u64 q.at0, .int .u64 q.no, .int .u32 q.nd, .int .u32 q.rg, .bool q.ys, .int .u64 q.fr, .int .u64 q.un, .int .u8 q.lv]) := ⟨putL_bel (Nat.le_refl _) _ 0 _ HB1.out, .inl ⟨q, HE.out, rfl⟩⟩
 generalize putL w1 w.heap.size 0 [.int .i64 q.k, .int .u32 q.n, .int .u32 q.m, .int .u64 q.t, .int .u32 q.q, .int .i64 q.wh, .int .i64 q.wy, .int .u64 q.at0, .int .u64 q.no, .int .u32 q.nd, .int .u32 q.rg, .bool q.ys, .int .u64 q.fr, .int .u64 q.un, .int .u8 q.lv] = w30 at *
 obtain ⟨k0, k1, k2, k3, k4, k5, k6, k7, k8, k9, k10, k11, k12, k13, k14⟩ := r15 hrow
 exact bodyPost_ret (v := .agg #[.int .i64 q.k, .int .u32 q.n, .int .u32 q.m, .int .u64 q.t, .int .u32 q.q, .int .i64 q.wh, .int .i64 q.wy, .int .u64 q.at0, .int .u64 q.no, .int .u32 q.nd, .int .u32 q.rg, .bool q.ys, .int .u64 q.fr, .int .u64 q.un, .int .u8 q.lv]) (by simp [results, Tryz.results19, go_sem, k0, k1, k2, k3, k4, k5, k6, k7, k8, k9, k10, k11, k12, k13, k14]) rfl hfin

end Go.Proofs.YteldifnkeekafaaGreatDoor

