/- Package admin: records compared; item. -/
import Derived.Test.YteldifnkeekafaaGreatDoorZAdG
set_option maxHeartbeats 16000000
set_option linter.unusedSimpArgs false
set_option linter.unusedVariables false
set_option maxRecDepth 100000
namespace Go.Proofs.YteldifnkeekafaaGreatDoor
open Go Go.RowKit Go.Shelf

attribute [local go_sem] Oper.semAt_some

theorem drun_store_func (P : Program) (w : World) (a : Addr) (m : Mode) (fn : Fn) (f c : Array Value) : (store a (.func fn f c) m).run P w = stored P w a (.func fn f c) m := run_store P w a _ m rfl
theorem drun_store_nil (P : Program) (w : World) (a : Addr) (m : Mode) : (store a .nilFunc m).run P w = stored P w a .nilFunc m := run_store P w a _ m rfl
attribute [local go_sem] drun_store_func drun_store_nil

def sameRc (x y : Rc) : Bool := ((x.k : Int) == (y.k : Int)) && (((x.n : Int) == (y.n : Int)) && (((x.m : Int) == (y.m : Int)) && (((x.t : Int) == (y.t : Int)) && (((x.q : Int) == (y.q : Int)) && (((x.wh : Int) == (y.wh : Int)) && (((x.wy : Int) == (y.wy : Int)) && (((x.at0 : Int) == (y.at0 : Int)) && (((x.no : Int) == (y.no : Int)) && (((x.nd : Int) == (y.nd : Int)) && (((x.rg : Int) == (y.rg : Int)) && ((x.ys == y.ys) && (((x.fr : Int) == (y.fr : Int)) && (((x.un : Int) == (y.un : Int)) && (((x.lv : Int) == (y.lv : Int))))))))))))))))
theorem sameRc_iff (x y : Rc) : sameRc x y = true ↔ x = y := by
 cases x
 cases y
 simp only [sameRc, Bool.and_eq_true, beq_iff_eq, Rc.mk.injEq, Int.ofNat_inj]

theorem eqRc_run (x y : Rc) (w : World) : (Op.equalIn 10000 32 (.agg #[.int .i64 x.k, .int .u32 x.n, .int .u32 x.m, .int .u64 x.t, .int .u32 x.q, .int .i64 x.wh, .int .i64 x.wy, .int .u64 x.at0, .int .u64 x.no, .int .u32 x.nd, .int .u32 x.rg, .bool x.ys, .int .u64 x.fr, .int .u64 x.un, .int .u8 x.lv]) (.agg #[.int .i64 y.k, .int .u32 y.n, .int .u32 y.m, .int .u64 y.t, .int .u32 y.q, .int .i64 y.wh, .int .i64 y.wy, .int .u64 y.at0, .int .u64 y.no, .int .u32 y.nd, .int .u32 y.rg, .bool y.ys, .int .u64 y.fr, .int .u64 y.un, .int .u8 y.lv])).run Tryz.prog w = .ok (sameRc x y) w := by
 unfold sameRc
 go_simp
 by_cases h0 : x.k = y.k
 rotate_left
 ·simp [h0]
 by_cases h1 : (x.n : Int) = (y.n : Int)
 rotate_left
 ·simp [h0, h1]
 by_cases h2 : (x.m : Int) = (y.m : Int)
 rotate_left
 ·simp [h0, h1, h2]
 by_cases h3 : (x.t : Int) = (y.t : Int)
 rotate_left
 ·simp [h0, h1, h2, h3]
 by_cases h4 : (x.q : Int) = (y.q : Int)
 rotate_left
 ·simp [h0, h1, h2, h3, h4]
 by_cases h5 : x.wh = y.wh
 rotate_left
 ·simp [h0, h1, h2, h3, h4, h5]
 by_cases h6 : x.wy = y.wy
 rotate_left
 ·simp [h0, h1, h2, h3, h4, h5, h6]
 by_cases h7 : (x.at0 : Int) = (y.at0 : Int)
 rotate_left
 ·simp [h0, h1, h2, h3, h4, h5, h6, h7]
 by_cases h8 : (x.no : Int) = (y.no : Int)
 rotate_left
 ·simp [h0, h1, h2, h3, h4, h5, h6, h7, h8]
 by_cases h9 : (x.nd : Int) = (y.nd : Int)
 rotate_left
 ·simp [h0, h1, h2, h3, h4, h5, h6, h7, h8, h9]
 by_cases h10 : (x.rg : Int) = (y.rg : Int)
 rotate_left
 ·simp [h0, h1, h2, h3, h4, h5, h6, h7, h8, h9, h10]
 by_cases h11 : x.ys = y.ys
 rotate_left
 ·simp [h0, h1, h2, h3, h4, h5, h6, h7, h8, h9, h10, h11]
 by_cases h12 : (x.fr : Int) = (y.fr : Int)
 rotate_left
 ·simp [h0, h1, h2, h3, h4, h5, h6, h7, h8, h9, h10, h11, h12]
 by_cases h13 : (x.un : Int) = (y.un : Int)
 rotate_left
 ·simp [h0, h1, h2, h3, h4, h5, h6, h7, h8, h9, h10, h11, h12, h13]
 by_cases h14 : (x.lv : Int) = (y.lv : Int) <;> simp [h0, h1, h2, h3, h4, h5, h6, h7, h8, h9, h10, h11, h12, h13, h14]

theorem flK_enters {k : Nat} (h1 : 1 ≤ k) (h5 : k ≤ 5) : ∀ args w, (callFunc (flK k) args).run Tryz.prog w = .ok (.enter (flK k) args) w := by
 have : k = 1 ∨ k = 2 ∨ k = 3 ∨ k = 4 ∨ k = 5 := by omega
 rcases this with rfl | rfl | rfl | rfl | rfl
 ·exact enters_of Tryz.func57 (by kernel_rfl) rfl
 ·exact enters_of Tryz.func64 (by kernel_rfl) rfl
 ·exact enters_of Tryz.func67 (by kernel_rfl) rfl
 ·exact enters_of Tryz.func70 (by kernel_rfl) rfl
 ·exact enters_of Tryz.func73 (by kernel_rfl) rfl
theorem flK_any {k : Nat} (h1 : 1 ≤ k) (h5 : k ≤ 5) (r : Rc) (hok : r.ok) (w : World) : Calls Tryz.prog (flK k) #[.agg #[.int .i64 r.k, .int .u32 r.n, .int .u32 r.m, .int .u64 r.t, .int .u32 r.q, .int .i64 r.wh, .int .i64 r.wy, .int .u64 r.at0, .int .u64 r.no, .int .u32 r.nd, .int .u32 r.rg, .bool r.ys, .int .u64 r.fr, .int .u64 r.un, .int .u8 r.lv]] w (LayP w (layR k r)) := by
 have : k = 1 ∨ k = 2 ∨ k = 3 ∨ k = 4 ∨ k = 5 := by omega
 rcases this with rfl | rfl | rfl | rfl | rfl
 ·exact dlay1_any r hok w
 ·exact dlay2_any r hok w
 ·exact dlay3_any r hok w
 ·exact dlay4_any r hok w
 ·exact dlay5_any r hok w
theorem layR_depth (k : Nat) (r : Rc) : ∀ y ∈ (layR k r).l, y.depth ≤ 60000 := by
 have hu : ∀ n : Int, (itU n).depth ≤ 60000 := fun n => by simp [itU, It.depth, It.depth.depthL]
 have hb : ∀ q, (boI q).depth ≤ 60000 := fun q => by simp [boI, It.depth, It.depth.depthL]
 have hn : r.name.it.depth ≤ 60000 := by
  unfold NmT.it
  split
  ·have := depth_itN r.name.n r.name.m r.name.t r.name.q
   omega
  ·simp [It.depth, It.depth.depthL]
 unfold layR
 intro y hy
 repeat' split at hy
 all_goals
  simp only [itLs, It.l, List.mem_cons, List.not_mem_nil, or_false] at hy
  rcases hy with rfl | rfl | rfl | rfl | rfl | rfl
 all_goals first | exact hu _ | exact hb _ | exact hn

instance : DecidableEq Rc := fun x y => if h : sameRc x y = true then isTrue ((sameRc_iff x y).1 h) else isFalse (fun e => h ((sameRc_iff x y).2 e))

def itemR (r : Rc) : Option It := if 1 ≤ r.k ∧ r.k ≤ 5 then (if rdR (layR r.k.toNat r) = some r then some (layR r.k.toNat r) else none) else none
def ItmP (w : World) (r : Rc) (e : Ending) (w' : World) : Prop := Below w.heap.size w w' ∧ ((∃ x a c A C, itemR r = some x ∧ e = .returned (.agg #[.int .i64 x.k, .int .u64 x.n, .slice a x.b.length c, .string ⟨x.s.toArray⟩, .slice A x.l.length C]) ∧ ItS w' (newB w w') (.agg #[.int .i64 x.k, .int .u64 x.n, .slice a x.b.length c, .string ⟨x.s.toArray⟩, .slice A x.l.length C]) x) ∨ (itemR r = none ∧ e = gives 180))

theorem ditem_any (r : Rc) (hok : r.ok) (w : World) : Calls Tryz.prog 24 #[.agg #[.int .i64 r.k, .int .u32 r.n, .int .u32 r.m, .int .u64 r.t, .int .u32 r.q, .int .i64 r.wh, .int .i64 r.wy, .int .u64 r.at0, .int .u64 r.no, .int .u32 r.nd, .int .u32 r.rg, .bool r.ys, .int .u64 r.fr, .int .u64 r.un, .int .u8 r.lv]] w (ItmP w r) := by
 obtain ⟨W, hW⟩ : ∃ W, W = (w.alloc (.cells #[.int .i64 r.k, .int .u32 r.n, .int .u32 r.m, .int .u64 r.t, .int .u32 r.q, .int .i64 r.wh, .int .i64 r.wy, .int .u64 r.at0, .int .u64 r.no, .int .u32 r.nd, .int .u32 r.rg, .bool r.ys, .int .u64 r.fr, .int .u64 r.un, .int .u8 r.lv] 32)).alloc (.cells #[.int .i64 0, .int .u64 0, .slice none 0 0, .string ⟨#[]⟩, .slice none 0 0] 45) := ⟨_, rfl⟩
 have HB0 : Hid (Below w.heap.size w W) := by rw [hW]; exact below_al (below_al bR _) _
 have HS0 : Hid (W.heap.size = w.heap.size + 2) := by rw [Hid, hW]; simp
 have HX : Hid (∀ w', Below W.heap.size W w' → (w'.cell? ⟨w.heap.size, 0, none⟩ = some (.int .i64 r.k) ∧ w'.cell? ⟨w.heap.size, 1, none⟩ = some (.int .u32 r.n) ∧ w'.cell? ⟨w.heap.size, 2, none⟩ = some (.int .u32 r.m) ∧ w'.cell? ⟨w.heap.size, 3, none⟩ = some (.int .u64 r.t) ∧ w'.cell? ⟨w.heap.size, 4, none⟩ = some (.int .u32 r.q) ∧ w'.cell? ⟨w.heap.size, 5, none⟩ = some (.int .i64 r.wh) ∧ w'.cell? ⟨w.heap.size, 6, none⟩ = some (.int .i64 r.wy) ∧ w'.cell? ⟨w.heap.size, 7, none⟩ = some (.int .u64 r.at0) ∧ w'.cell? ⟨w.heap.size, 8, none⟩ = some (.int .u64 r.no) ∧ w'.cell? ⟨w.heap.size, 9, none⟩ = some (.int .u32 r.nd) ∧ w'.cell? ⟨w.heap.size, 10, none⟩ = some (.int .u32 r.rg) ∧ w'.cell? ⟨w.heap.size, 11, none⟩ = some (.bool r.ys) ∧ w'.cell? ⟨w.heap.size, 12, none⟩ = some (.int .u64 r.fr) ∧ w'.cell? ⟨w.heap.size, 13, none⟩ = some (.int .u64 r.un) ∧ w'.cell? ⟨w.heap.size, 14, none⟩ = some (.int .u8 r.lv)) ∧ ∀ j, w'.cell? ⟨w.heap.size + 1, j, none⟩ = (#[Value.int .i64 0, Value.int .u64 0, Value.slice none 0 0, Value.string ⟨#[]⟩, Value.slice none 0 0] : Array Value)[j]? ∧ w'.frozen? ⟨w.heap.size + 1, j, none⟩ = false) := fun w' h => by
  rw [hW] at h
  have h1 := below_on (below_al (Below.refl _ (w.alloc (.cells #[.int .i64 r.k, .int .u32 r.n, .int .u32 r.m, .int .u64 r.t, .int .u32 r.q, .int .i64 r.wh, .int .i64 r.wy, .int .u64 r.at0, .int .u64 r.no, .int .u32 r.nd, .int .u32 r.rg, .bool r.ys, .int .u64 r.fr, .int .u64 r.un, .int .u8 r.lv] 32))) (.cells #[.int .i64 0, .int .u64 0, .slice none 0 0, .string ⟨#[]⟩, .slice none 0 0] 45)) h
  refine ⟨⟨box_at h1 0, box_at h1 1, box_at h1 2, box_at h1 3, box_at h1 4, box_at h1 5, box_at h1 6, box_at h1 7, box_at h1 8, box_at h1 9, box_at h1 10, box_at h1 11, box_at h1 12, box_at h1 13, box_at h1 14⟩, fun j => ?_⟩
  have q2 := box_at h j
  have f2 := frozen_at h j
  rw [World.size_alloc] at q2 f2
  exact ⟨q2, f2⟩
 have HOk := h_ hok
 have HW := h_ hW
 obtain ⟨⟨x0, x1, x2, x3, x4, x5, x6, x7, x8, x9, x10, x11, x12, x13, x14⟩, _⟩ := HX.out W bR
 rw [HW.out] at x0 x1 x2 x3 x4 x5 x6 x7 x8 x9 x10 x11 x12 x13 x14
 clear hW hok
 have F : Below W.heap.size W W.drew := bR.drew
 by_cases hk : 1 ≤ r.k ∧ r.k ≤ 5
 rotate_left
 ·have HE : Hid (itemR r = none) := by rw [Hid, itemR, if_neg hk]
  have HDe : Hid (dEnt r.k = none) := dEnt_none hk
  clear hk
  go_enter Tryz.func24, Tryz.ntmps24
  go_upto_region 1 with fail
  rw [← HW.out]
  clear x0 x1 x2 x3 x4 x5 x6 x7 x8 x9 x10 x11 x12 x13 x14
  go_cut [3, 4] from 6 to 13 (fun v3 v4 wx => ∃ g, v3 = .pointer (some ⟨g, 0, none⟩) ∧ v4 = .bool false ∧ Hid (Below W.heap.size W wx ∧ RowB wx g [.nilFunc, .nilFunc] ∧ g < wx.heap.size))
  case first =>
   refine wp_region_held_drew (S := fun w' => w'.cell? ⟨w.heap.size, 0, none⟩ = some (.int .i64 r.k) ∧ w'.cell? ⟨w.heap.size, 1, none⟩ = some (.int .u32 r.n) ∧ w'.cell? ⟨w.heap.size, 2, none⟩ = some (.int .u32 r.m) ∧ w'.cell? ⟨w.heap.size, 3, none⟩ = some (.int .u64 r.t) ∧ w'.cell? ⟨w.heap.size, 4, none⟩ = some (.int .u32 r.q) ∧ w'.cell? ⟨w.heap.size, 5, none⟩ = some (.int .i64 r.wh) ∧ w'.cell? ⟨w.heap.size, 6, none⟩ = some (.int .i64 r.wy) ∧ w'.cell? ⟨w.heap.size, 7, none⟩ = some (.int .u64 r.at0) ∧ w'.cell? ⟨w.heap.size, 8, none⟩ = some (.int .u64 r.no) ∧ w'.cell? ⟨w.heap.size, 9, none⟩ = some (.int .u32 r.nd) ∧ w'.cell? ⟨w.heap.size, 10, none⟩ = some (.int .u32 r.rg) ∧ w'.cell? ⟨w.heap.size, 11, none⟩ = some (.bool r.ys) ∧ w'.cell? ⟨w.heap.size, 12, none⟩ = some (.int .u64 r.fr) ∧ w'.cell? ⟨w.heap.size, 13, none⟩ = some (.int .u64 r.un) ∧ w'.cell? ⟨w.heap.size, 14, none⟩ = some (.int .u8 r.lv)) (by kernel_rfl) (HX.out _ F).1 (fun hHeld => ?_)
   obtain ⟨V0, hV0⟩ : ∃ V, V = W.drew := ⟨_, rfl⟩
   rw [← hV0] at F hHeld ⊢
   clear hV0
   refine takeL 1 (v := ?_) ?_ ‹_› ?_
   rotate_left
   ·intro w hSw; go_simp; all_goals with_reducible rfl
   simp only [Act.put, zA, zB, zC]
   refine takeL 2 (v := ?_) ?_ ‹_› ?_
   rotate_left
   ·intro w hSw; go_simp; all_goals with_reducible rfl
   simp only [Act.put, zA, zB, zC]
   refine wpAnyH_ready (rs := [0, 7]) (by kernel_rfl) (by simp) ?_
   refine AllReadyH.cons rfl (fun K hK => ?_) (AllReadyH.cons rfl (fun K hK => ?_) AllReadyH.nil)
   ·go_simp
    refine (dkinds_any _).mono ?_
    rintro e vA ⟨rfl, hw2⟩
    have hb : Below V0.heap.size V0 vA := by rw [hw2]; exact below_al bR _
    have HMp : Hid (vA.heap[V0.heap.size]? = some (.map dMap 5)) := by rw [Hid, hw2]; exact map_at _ _ _
    replace F := below_on F hb
    clear hb hw2
    refine hK.out _ _ (HX.out _ F).1 (fun hHeld => ?_)
    clear hK K
    try simp only [Act.put, zA, zB, zC]
    refine wpAnyH_ready (rs := [3, 7]) (by kernel_rfl) (by simp) ?_
    refine AllReadyH.cons rfl (fun K hK => ?_) (AllReadyH.cons rfl (fun K hK => ?_) AllReadyH.nil)
    ·have hlk : (Instr.lookup 86 (.map (some V0.heap.size)) (.int .i64 r.k) true).run Tryz.prog vA = .ok (.tuple #[.agg #[.nilFunc, .nilFunc], .bool false]) vA := by
       have h := run_dlookup vA _ r.k _ HMp.out (dfind_ent r.k)
       rw [HDe.out] at h
       exact h
     go_simp
     clear hlk HMp
     refine hK.out _ _ (HX.out _ F).1 (fun hHeld => ?_)
     clear hK K
     try simp only [Act.put, zA, zB, zC]
     refine takeL 4 (v := ?_) ?_ ‹_› ?_
     rotate_left
     ·intro w hSw; go_simp; all_goals with_reducible rfl
     simp only [Act.put, zA, zB, zC]
     refine takeL 5 (v := ?_) ?_ ‹_› ?_
     rotate_left
     ·intro w hSw; go_simp; all_goals with_reducible rfl
     simp only [Act.put, zA, zB, zC]
     refine takeL 6 (v := ?_) ?_ ‹_› ?_
     rotate_left
     ·intro w hSw; go_simp; all_goals with_reducible rfl
     simp only [Act.put, zA, zB, zC]
     refine wpAnyH_ready (rs := [7]) (by kernel_rfl) (by simp) (.cons rfl (fun K hK => ?_) .nil)
     go_simp
     obtain ⟨vB, hv2⟩ : ∃ V, V = vA.alloc (.cells #[.nilFunc, .nilFunc] 85) := ⟨_, rfl⟩
     have hb : Below vA.heap.size vA vB := by rw [hv2]; exact below_al bR _
     have HKr : Hid (RowB vB vA.heap.size [.nilFunc, .nilFunc]) := by rw [hv2]; exact RowB.new vA _ _
     have HKs : Hid (W.heap.size ≤ vA.heap.size ∧ vA.heap.size < vB.heap.size) := ⟨F.size, by rw [hv2]; simp⟩
     replace F := below_on F hb
     rw [← hv2]
     clear hb hv2
     refine hK.out _ _ (HX.out _ F).1 (fun hHeld => ?_)
     clear hK K
     try simp only [Act.put, zA, zB, zC]
     refine wpAnyH_ready (rs := [8]) (by kernel_rfl) (by simp) (.cons rfl (fun K hK => ?_) .nil)
     have s0 := HKr.out.1 0 _ rfl
     have s1 := HKr.out.1 1 _ rfl
     have g0 := HKr.out.2 0
     have g1 := HKr.out.2 1
     go_simp
     obtain ⟨v3, hv3⟩ : ∃ V, V = (vB.setCell ⟨vA.heap.size, 0, none⟩ (.nilFunc)).setCell ⟨vA.heap.size, 1, none⟩ (.nilFunc) := ⟨_, rfl⟩
     have HKq : Hid (RowB v3 vA.heap.size [.nilFunc, .nilFunc]) := by rw [hv3]; exact (HKr.out.set 0 _).set 1 _
     have F3 : Below W.heap.size W v3 := by rw [hv3]; exact (F.setCell (p := ⟨vA.heap.size, 0, none⟩) HKs.out.1 _).setCell (p := ⟨vA.heap.size, 1, none⟩) HKs.out.1 _
     have HV3 : Hid (vA.heap.size < v3.heap.size) := by rw [Hid, hv3, World.size_setCell, World.size_setCell]; exact HKs.out.2
     rw [← hv3]
     clear hv3 s0 s1 g0 g1 F
     refine hK.out _ _ (HX.out _ F3).1 (fun hHeld => ?_)
     clear hK K
     try simp only [Act.put, zA, zB, zC]
     refine takeL 9 (v := ?_) ?_ ‹_› ?_
     rotate_left
     ·intro w hSw; go_simp; all_goals with_reducible rfl
     simp only [Act.put, zA, zB, zC]
     clear hHeld
     refine wpAnyH_done (by kernel_rfl) ?_ _
     have HFx : Hid (Below W.heap.size W v3 ∧ RowB v3 vA.heap.size [.nilFunc, .nilFunc] ∧ vA.heap.size < v3.heap.size) := ⟨F3, HKq.out, HV3.out⟩
     clear F3
     go_wp2_with fail
     go_meet
     case rel => exact ⟨_, rfl, rfl, HFx.out⟩
    ·go_simp
     obtain ⟨vB, hv2⟩ : ∃ V, V = vA.alloc (.cells #[.nilFunc, .nilFunc] 85) := ⟨_, rfl⟩
     have hb : Below vA.heap.size vA vB := by rw [hv2]; exact below_al bR _
     have HKr : Hid (RowB vB vA.heap.size [.nilFunc, .nilFunc]) := by rw [hv2]; exact RowB.new vA _ _
     have HKs : Hid (W.heap.size ≤ vA.heap.size ∧ vA.heap.size < vB.heap.size) := ⟨F.size, by rw [hv2]; simp⟩
     replace HMp : Hid (vB.heap[V0.heap.size]? = some (.map dMap 5)) := (hb.block _ (Array.getElem?_eq_some_iff.1 HMp.out).1).trans HMp.out
     replace F := below_on F hb
     rw [← hv2]
     clear hb hv2
     refine hK.out _ _ (HX.out _ F).1 (fun hHeld => ?_)
     clear hK K
     try simp only [Act.put, zA, zB, zC]
     refine wpAnyH_ready (rs := [3]) (by kernel_rfl) (by simp) (.cons rfl (fun K hK => ?_) .nil)
     have hlk : (Instr.lookup 86 (.map (some V0.heap.size)) (.int .i64 r.k) true).run Tryz.prog vB = .ok (.tuple #[.agg #[.nilFunc, .nilFunc], .bool false]) vB := by
      have h := run_dlookup vB _ r.k _ HMp.out (dfind_ent r.k)
      rw [HDe.out] at h
      exact h
     go_simp
     clear hlk HMp
     refine hK.out _ _ (HX.out _ F).1 (fun hHeld => ?_)
     clear hK K
     try simp only [Act.put, zA, zB, zC]
     refine takeL 4 (v := ?_) ?_ ‹_› ?_
     rotate_left
     ·intro w hSw; go_simp; all_goals with_reducible rfl
     simp only [Act.put, zA, zB, zC]
     refine takeL 5 (v := ?_) ?_ ‹_› ?_
     rotate_left
     ·intro w hSw; go_simp; all_goals with_reducible rfl
     simp only [Act.put, zA, zB, zC]
     refine takeL 6 (v := ?_) ?_ ‹_› ?_
     rotate_left
     ·intro w hSw; go_simp; all_goals with_reducible rfl
     simp only [Act.put, zA, zB, zC]
     refine wpAnyH_ready (rs := [8]) (by kernel_rfl) (by simp) (.cons rfl (fun K hK => ?_) .nil)
     have s0 := HKr.out.1 0 _ rfl
     have s1 := HKr.out.1 1 _ rfl
     have g0 := HKr.out.2 0
     have g1 := HKr.out.2 1
     go_simp
     obtain ⟨v3, hv3⟩ : ∃ V, V = (vB.setCell ⟨vA.heap.size, 0, none⟩ (.nilFunc)).setCell ⟨vA.heap.size, 1, none⟩ (.nilFunc) := ⟨_, rfl⟩
     have HKq : Hid (RowB v3 vA.heap.size [.nilFunc, .nilFunc]) := by rw [hv3]; exact (HKr.out.set 0 _).set 1 _
     have F3 : Below W.heap.size W v3 := by rw [hv3]; exact (F.setCell (p := ⟨vA.heap.size, 0, none⟩) HKs.out.1 _).setCell (p := ⟨vA.heap.size, 1, none⟩) HKs.out.1 _
     have HV3 : Hid (vA.heap.size < v3.heap.size) := by rw [Hid, hv3, World.size_setCell, World.size_setCell]; exact HKs.out.2
     rw [← hv3]
     clear hv3 s0 s1 g0 g1 F
     refine hK.out _ _ (HX.out _ F3).1 (fun hHeld => ?_)
     clear hK K
     try simp only [Act.put, zA, zB, zC]
     refine takeL 9 (v := ?_) ?_ ‹_› ?_
     rotate_left
     ·intro w hSw; go_simp; all_goals with_reducible rfl
     simp only [Act.put, zA, zB, zC]
     clear hHeld
     refine wpAnyH_done (by kernel_rfl) ?_ _
     have HFx : Hid (Below W.heap.size W v3 ∧ RowB v3 vA.heap.size [.nilFunc, .nilFunc] ∧ vA.heap.size < v3.heap.size) := ⟨F3, HKq.out, HV3.out⟩
     clear F3
     go_wp2_with fail
     go_meet
     case rel => exact ⟨_, rfl, rfl, HFx.out⟩
   ·go_simp
    obtain ⟨vB, hv2⟩ : ∃ V, V = V0.alloc (.cells #[.nilFunc, .nilFunc] 85) := ⟨_, rfl⟩
    have hb : Below V0.heap.size V0 vB := by rw [hv2]; exact below_al bR _
    have HKr : Hid (RowB vB V0.heap.size [.nilFunc, .nilFunc]) := by rw [hv2]; exact RowB.new V0 _ _
    have HKs : Hid (W.heap.size ≤ V0.heap.size ∧ V0.heap.size < vB.heap.size) := ⟨F.size, by rw [hv2]; simp⟩
    replace F := below_on F hb
    rw [← hv2]
    clear hb hv2
    refine hK.out _ _ (HX.out _ F).1 (fun hHeld => ?_)
    clear hK K
    try simp only [Act.put, zA, zB, zC]
    refine wpAnyH_ready (rs := [0]) (by kernel_rfl) (by simp) (.cons rfl (fun K hK => ?_) .nil)
    go_simp
    refine (dkinds_any _).mono ?_
    rintro e vA ⟨rfl, hw2⟩
    have hb : Below vB.heap.size vB vA := by rw [hw2]; exact below_al bR _
    have HMp : Hid (vA.heap[vB.heap.size]? = some (.map dMap 5)) := by rw [Hid, hw2]; exact map_at _ _ _
    replace F := below_on F hb
    replace HKr := h_ (HKr.out.on hb HKs.out.2)
    replace HKs := h_ (⟨HKs.out.1, Nat.lt_of_lt_of_le HKs.out.2 hb.size⟩ : _ ∧ _)
    clear hb hw2
    refine hK.out _ _ (HX.out _ F).1 (fun hHeld => ?_)
    clear hK K
    try simp only [Act.put, zA, zB, zC]
    refine wpAnyH_ready (rs := [3]) (by kernel_rfl) (by simp) (.cons rfl (fun K hK => ?_) .nil)
    have hlk : (Instr.lookup 86 (.map (some vB.heap.size)) (.int .i64 r.k) true).run Tryz.prog vA = .ok (.tuple #[.agg #[.nilFunc, .nilFunc], .bool false]) vA := by
     have h := run_dlookup vA _ r.k _ HMp.out (dfind_ent r.k)
     rw [HDe.out] at h
     exact h
    go_simp
    clear hlk HMp
    refine hK.out _ _ (HX.out _ F).1 (fun hHeld => ?_)
    clear hK K
    try simp only [Act.put, zA, zB, zC]
    refine takeL 4 (v := ?_) ?_ ‹_› ?_
    rotate_left
    ·intro w hSw; go_simp; all_goals with_reducible rfl
    simp only [Act.put, zA, zB, zC]
    refine takeL 5 (v := ?_) ?_ ‹_› ?_
    rotate_left
    ·intro w hSw; go_simp; all_goals with_reducible rfl
    simp only [Act.put, zA, zB, zC]
    refine takeL 6 (v := ?_) ?_ ‹_› ?_
    rotate_left
    ·intro w hSw; go_simp; all_goals with_reducible rfl
    simp only [Act.put, zA, zB, zC]
    refine wpAnyH_ready (rs := [8]) (by kernel_rfl) (by simp) (.cons rfl (fun K hK => ?_) .nil)
    have s0 := HKr.out.1 0 _ rfl
    have s1 := HKr.out.1 1 _ rfl
    have g0 := HKr.out.2 0
    have g1 := HKr.out.2 1
    go_simp
    obtain ⟨v3, hv3⟩ : ∃ V, V = (vA.setCell ⟨V0.heap.size, 0, none⟩ (.nilFunc)).setCell ⟨V0.heap.size, 1, none⟩ (.nilFunc) := ⟨_, rfl⟩
    have HKq : Hid (RowB v3 V0.heap.size [.nilFunc, .nilFunc]) := by rw [hv3]; exact (HKr.out.set 0 _).set 1 _
    have F3 : Below W.heap.size W v3 := by rw [hv3]; exact (F.setCell (p := ⟨V0.heap.size, 0, none⟩) HKs.out.1 _).setCell (p := ⟨V0.heap.size, 1, none⟩) HKs.out.1 _
    have HV3 : Hid (V0.heap.size < v3.heap.size) := by rw [Hid, hv3, World.size_setCell, World.size_setCell]; exact HKs.out.2
    rw [← hv3]
    clear hv3 s0 s1 g0 g1 F
    refine hK.out _ _ (HX.out _ F3).1 (fun hHeld => ?_)
    clear hK K
    try simp only [Act.put, zA, zB, zC]
    refine takeL 9 (v := ?_) ?_ ‹_› ?_
    rotate_left
    ·intro w hSw; go_simp; all_goals with_reducible rfl
    simp only [Act.put, zA, zB, zC]
    clear hHeld
    refine wpAnyH_done (by kernel_rfl) ?_ _
    have HFx : Hid (Below W.heap.size W v3 ∧ RowB v3 V0.heap.size [.nilFunc, .nilFunc] ∧ V0.heap.size < v3.heap.size) := ⟨F3, HKq.out, HV3.out⟩
    clear F3
    go_wp2_with fail
    go_meet
    case rel => exact ⟨_, rfl, rfl, HFx.out⟩
  case rest =>
  obtain ⟨gb, rfl, rfl, hcut⟩ := hcut
  have HCt := h_ hcut.out
  clear hcut F
  have HF : Hid (Below w.heap.size w wc) := HB0.out.trans (HCt.out.1.mono HB0.out.size)
  go_wp2_with fail
  refine (dneed_no _).mono ?_
  rintro e w1 ⟨rfl, h9⟩
  rw [← h9]
  clear h9 w1
  rw [gives_def]
  go_wp2_with fail
  exact ⟨rfl, HF.out, .inr ⟨HE.out, rfl⟩⟩
 obtain ⟨n, hn⟩ : ∃ n : Nat, (n : Int) = r.k ∧ 1 ≤ n ∧ n ≤ 5 := ⟨r.k.toNat, by omega, by omega, by omega⟩
 have HN := h_ hn
 have hrn : r.k.toNat = n := by omega
 have HEq : Hid (itemR r = if rdR (layR n r) = some r then some (layR n r) else none) := by rw [Hid, itemR, if_pos hk, hrn]
 have hent := flK_enters hn.2.1 hn.2.2
 have HLy := h_ (fun w => flK_any hn.2.1 hn.2.2 r HOk.out w)
 obtain ⟨fl, hfl⟩ : ∃ f, f = flK n := ⟨_, rfl⟩
 obtain ⟨fr, hfr⟩ : ∃ f, f = frK n := ⟨_, rfl⟩
 have hde := dEntV_k hn.2.1 hn.2.2
 rw [hn.1, ← hfl, ← hfr] at hde
 have hds : (dEnt r.k).isSome = true := dEnt_some hk.1 hk.2
 rw [← hfl] at hent HLy
 have HDe : Hid (∃ q, dEnt r.k = some (q, kV fl fr)) := by
  cases hd : dEnt r.k with
  | none => rw [hd] at hds; cases hds
  | some p =>
   obtain ⟨q, v⟩ := p
   rw [hd] at hde
   exact ⟨q, by rw [show v = kV fl fr from hde]⟩
 obtain ⟨dq, hdq⟩ := HDe.out
 have HDe := h_ hdq
 obtain ⟨x, hx⟩ : ∃ x, x = layR n r := ⟨_, rfl⟩
 have HDp : Hid (∀ y ∈ x.l, y.depth ≤ 60000) := by rw [hx]; exact layR_depth n r
 rw [← hx] at HEq HLy
 clear hk hn hrn hfl hfr hde hds hdq hx
 go_enter Tryz.func24, Tryz.ntmps24
 go_upto_region 1 with fail
 rw [← HW.out]
 clear x0 x1 x2 x3 x4 x5 x6 x7 x8 x9 x10 x11 x12 x13 x14
 go_cut [3, 4] from 6 to 13 (fun v3 v4 wx => ∃ g, v3 = .pointer (some ⟨g, 0, none⟩) ∧ v4 = .bool true ∧ Hid (Below W.heap.size W wx ∧ RowB wx g [.func (.func fl) #[] #[], .func (.func fr) #[] #[]] ∧ g < wx.heap.size))
 case first =>
  refine wp_region_held_drew (S := fun w' => w'.cell? ⟨w.heap.size, 0, none⟩ = some (.int .i64 r.k) ∧ w'.cell? ⟨w.heap.size, 1, none⟩ = some (.int .u32 r.n) ∧ w'.cell? ⟨w.heap.size, 2, none⟩ = some (.int .u32 r.m) ∧ w'.cell? ⟨w.heap.size, 3, none⟩ = some (.int .u64 r.t) ∧ w'.cell? ⟨w.heap.size, 4, none⟩ = some (.int .u32 r.q) ∧ w'.cell? ⟨w.heap.size, 5, none⟩ = some (.int .i64 r.wh) ∧ w'.cell? ⟨w.heap.size, 6, none⟩ = some (.int .i64 r.wy) ∧ w'.cell? ⟨w.heap.size, 7, none⟩ = some (.int .u64 r.at0) ∧ w'.cell? ⟨w.heap.size, 8, none⟩ = some (.int .u64 r.no) ∧ w'.cell? ⟨w.heap.size, 9, none⟩ = some (.int .u32 r.nd) ∧ w'.cell? ⟨w.heap.size, 10, none⟩ = some (.int .u32 r.rg) ∧ w'.cell? ⟨w.heap.size, 11, none⟩ = some (.bool r.ys) ∧ w'.cell? ⟨w.heap.size, 12, none⟩ = some (.int .u64 r.fr) ∧ w'.cell? ⟨w.heap.size, 13, none⟩ = some (.int .u64 r.un) ∧ w'.cell? ⟨w.heap.size, 14, none⟩ = some (.int .u8 r.lv)) (by kernel_rfl) (HX.out _ F).1 (fun hHeld => ?_)
  obtain ⟨V0, hV0⟩ : ∃ V, V = W.drew := ⟨_, rfl⟩
  rw [← hV0] at F hHeld ⊢
  clear hV0
  refine takeL 1 (v := ?_) ?_ ‹_› ?_
  rotate_left
  ·intro w hSw; go_simp; all_goals with_reducible rfl
  simp only [Act.put, zA, zB, zC]
  refine takeL 2 (v := ?_) ?_ ‹_› ?_
  rotate_left
  ·intro w hSw; go_simp; all_goals with_reducible rfl
  simp only [Act.put, zA, zB, zC]
  refine wpAnyH_ready (rs := [0, 7]) (by kernel_rfl) (by simp) ?_
  refine AllReadyH.cons rfl (fun K hK => ?_) (AllReadyH.cons rfl (fun K hK => ?_) AllReadyH.nil)
  ·go_simp
   refine (dkinds_any _).mono ?_
   rintro e vA ⟨rfl, hw2⟩
   have hb : Below V0.heap.size V0 vA := by rw [hw2]; exact below_al bR _
   have HMp : Hid (vA.heap[V0.heap.size]? = some (.map dMap 5)) := by rw [Hid, hw2]; exact map_at _ _ _
   replace F := below_on F hb
   clear hb hw2
   refine hK.out _ _ (HX.out _ F).1 (fun hHeld => ?_)
   clear hK K
   try simp only [Act.put, zA, zB, zC]
   refine wpAnyH_ready (rs := [3, 7]) (by kernel_rfl) (by simp) ?_
   refine AllReadyH.cons rfl (fun K hK => ?_) (AllReadyH.cons rfl (fun K hK => ?_) AllReadyH.nil)
   ·have hlk : (Instr.lookup 86 (.map (some V0.heap.size)) (.int .i64 r.k) true).run Tryz.prog vA = .ok (.tuple #[.agg #[.func (.func fl) #[] #[], .func (.func fr) #[] #[]], .bool true]) vA := by
      have h := run_dlookup vA _ r.k _ HMp.out (dfind_ent r.k)
      rw [HDe.out] at h
      exact h
    go_simp
    clear hlk HMp
    refine hK.out _ _ (HX.out _ F).1 (fun hHeld => ?_)
    clear hK K
    try simp only [Act.put, zA, zB, zC]
    refine takeL 4 (v := ?_) ?_ ‹_› ?_
    rotate_left
    ·intro w hSw; go_simp; all_goals with_reducible rfl
    simp only [Act.put, zA, zB, zC]
    refine takeL 5 (v := ?_) ?_ ‹_› ?_
    rotate_left
    ·intro w hSw; go_simp; all_goals with_reducible rfl
    simp only [Act.put, zA, zB, zC]
    refine takeL 6 (v := ?_) ?_ ‹_› ?_
    rotate_left
    ·intro w hSw; go_simp; all_goals with_reducible rfl
    simp only [Act.put, zA, zB, zC]
    refine wpAnyH_ready (rs := [7]) (by kernel_rfl) (by simp) (.cons rfl (fun K hK => ?_) .nil)
    go_simp
    obtain ⟨vB, hv2⟩ : ∃ V, V = vA.alloc (.cells #[.nilFunc, .nilFunc] 85) := ⟨_, rfl⟩
    have hb : Below vA.heap.size vA vB := by rw [hv2]; exact below_al bR _
    have HKr : Hid (RowB vB vA.heap.size [.nilFunc, .nilFunc]) := by rw [hv2]; exact RowB.new vA _ _
    have HKs : Hid (W.heap.size ≤ vA.heap.size ∧ vA.heap.size < vB.heap.size) := ⟨F.size, by rw [hv2]; simp⟩
    replace F := below_on F hb
    rw [← hv2]
    clear hb hv2
    refine hK.out _ _ (HX.out _ F).1 (fun hHeld => ?_)
    clear hK K
    try simp only [Act.put, zA, zB, zC]
    refine wpAnyH_ready (rs := [8]) (by kernel_rfl) (by simp) (.cons rfl (fun K hK => ?_) .nil)
    have s0 := HKr.out.1 0 _ rfl
    have s1 := HKr.out.1 1 _ rfl
    have g0 := HKr.out.2 0
    have g1 := HKr.out.2 1
    go_simp
    obtain ⟨v3, hv3⟩ : ∃ V, V = (vB.setCell ⟨vA.heap.size, 0, none⟩ (.func (.func fl) #[] #[])).setCell ⟨vA.heap.size, 1, none⟩ (.func (.func fr) #[] #[]) := ⟨_, rfl⟩
    have HKq : Hid (RowB v3 vA.heap.size [.func (.func fl) #[] #[], .func (.func fr) #[] #[]]) := by rw [hv3]; exact (HKr.out.set 0 _).set 1 _
    have F3 : Below W.heap.size W v3 := by rw [hv3]; exact (F.setCell (p := ⟨vA.heap.size, 0, none⟩) HKs.out.1 _).setCell (p := ⟨vA.heap.size, 1, none⟩) HKs.out.1 _
    have HV3 : Hid (vA.heap.size < v3.heap.size) := by rw [Hid, hv3, World.size_setCell, World.size_setCell]; exact HKs.out.2
    rw [← hv3]
    clear hv3 s0 s1 g0 g1 F
    refine hK.out _ _ (HX.out _ F3).1 (fun hHeld => ?_)
    clear hK K
    try simp only [Act.put, zA, zB, zC]
    refine takeL 9 (v := ?_) ?_ ‹_› ?_
    rotate_left
    ·intro w hSw; go_simp; all_goals with_reducible rfl
    simp only [Act.put, zA, zB, zC]
    clear hHeld
    refine wpAnyH_done (by kernel_rfl) ?_ _
    have HFx : Hid (Below W.heap.size W v3 ∧ RowB v3 vA.heap.size [.func (.func fl) #[] #[], .func (.func fr) #[] #[]] ∧ vA.heap.size < v3.heap.size) := ⟨F3, HKq.out, HV3.out⟩
    clear F3
    go_wp2_with fail
    go_meet
    case rel => exact ⟨_, rfl, rfl, HFx.out⟩
   ·go_simp
    obtain ⟨vB, hv2⟩ : ∃ V, V = vA.alloc (.cells #[.nilFunc, .nilFunc] 85) := ⟨_, rfl⟩
    have hb : Below vA.heap.size vA vB := by rw [hv2]; exact below_al bR _
    have HKr : Hid (RowB vB vA.heap.size [.nilFunc, .nilFunc]) := by rw [hv2]; exact RowB.new vA _ _
    have HKs : Hid (W.heap.size ≤ vA.heap.size ∧ vA.heap.size < vB.heap.size) := ⟨F.size, by rw [hv2]; simp⟩
    replace HMp : Hid (vB.heap[V0.heap.size]? = some (.map dMap 5)) := (hb.block _ (Array.getElem?_eq_some_iff.1 HMp.out).1).trans HMp.out
    replace F := below_on F hb
    rw [← hv2]
    clear hb hv2
    refine hK.out _ _ (HX.out _ F).1 (fun hHeld => ?_)
    clear hK K
    try simp only [Act.put, zA, zB, zC]
    refine wpAnyH_ready (rs := [3]) (by kernel_rfl) (by simp) (.cons rfl (fun K hK => ?_) .nil)
    have hlk : (Instr.lookup 86 (.map (some V0.heap.size)) (.int .i64 r.k) true).run Tryz.prog vB = .ok (.tuple #[.agg #[.func (.func fl) #[] #[], .func (.func fr) #[] #[]], .bool true]) vB := by
     have h := run_dlookup vB _ r.k _ HMp.out (dfind_ent r.k)
     rw [HDe.out] at h
     exact h
    go_simp
    clear hlk HMp
    refine hK.out _ _ (HX.out _ F).1 (fun hHeld => ?_)
    clear hK K
    try simp only [Act.put, zA, zB, zC]
    refine takeL 4 (v := ?_) ?_ ‹_› ?_
    rotate_left
    ·intro w hSw; go_simp; all_goals with_reducible rfl
    simp only [Act.put, zA, zB, zC]
    refine takeL 5 (v := ?_) ?_ ‹_› ?_
    rotate_left
    ·intro w hSw; go_simp; all_goals with_reducible rfl
    simp only [Act.put, zA, zB, zC]
    refine takeL 6 (v := ?_) ?_ ‹_› ?_
    rotate_left
    ·intro w hSw; go_simp; all_goals with_reducible rfl
    simp only [Act.put, zA, zB, zC]
    refine wpAnyH_ready (rs := [8]) (by kernel_rfl) (by simp) (.cons rfl (fun K hK => ?_) .nil)
    have s0 := HKr.out.1 0 _ rfl
    have s1 := HKr.out.1 1 _ rfl
    have g0 := HKr.out.2 0
    have g1 := HKr.out.2 1
    go_simp
    obtain ⟨v3, hv3⟩ : ∃ V, V = (vB.setCell ⟨vA.heap.size, 0, none⟩ (.func (.func fl) #[] #[])).setCell ⟨vA.heap.size, 1, none⟩ (.func (.func fr) #[] #[]) := ⟨_, rfl⟩
    have HKq : Hid (RowB v3 vA.heap.size [.func (.func fl) #[] #[], .func (.func fr) #[] #[]]) := by rw [hv3]; exact (HKr.out.set 0 _).set 1 _
    have F3 : Below W.heap.size W v3 := by rw [hv3]; exact (F.setCell (p := ⟨vA.heap.size, 0, none⟩) HKs.out.1 _).setCell (p := ⟨vA.heap.size, 1, none⟩) HKs.out.1 _
    have HV3 : Hid (vA.heap.size < v3.heap.size) := by rw [Hid, hv3, World.size_setCell, World.size_setCell]; exact HKs.out.2
    rw [← hv3]
    clear hv3 s0 s1 g0 g1 F
    refine hK.out _ _ (HX.out _ F3).1 (fun hHeld => ?_)
    clear hK K
    try simp only [Act.put, zA, zB, zC]
    refine takeL 9 (v := ?_) ?_ ‹_› ?_
    rotate_left
    ·intro w hSw; go_simp; all_goals with_reducible rfl
    simp only [Act.put, zA, zB, zC]
    clear hHeld
    refine wpAnyH_done (by kernel_rfl) ?_ _
    have HFx : Hid (Below W.heap.size W v3 ∧ RowB v3 vA.heap.size [.func (.func fl) #[] #[], .func (.func fr) #[] #[]] ∧ vA.heap.size < v3.heap.size) := ⟨F3, HKq.out, HV3.out⟩
    clear F3
    go_wp2_with fail
    go_meet
    case rel => exact ⟨_, rfl, rfl, HFx.out⟩
  ·go_simp
   obtain ⟨vB, hv2⟩ : ∃ V, V = V0.alloc (.cells #[.nilFunc, .nilFunc] 85) := ⟨_, rfl⟩
   have hb : Below V0.heap.size V0 vB := by rw [hv2]; exact below_al bR _
   have HKr : Hid (RowB vB V0.heap.size [.nilFunc, .nilFunc]) := by rw [hv2]; exact RowB.new V0 _ _
   have HKs : Hid (W.heap.size ≤ V0.heap.size ∧ V0.heap.size < vB.heap.size) := ⟨F.size, by rw [hv2]; simp⟩
   replace F := below_on F hb
   rw [← hv2]
   clear hb hv2
   refine hK.out _ _ (HX.out _ F).1 (fun hHeld => ?_)
   clear hK K
   try simp only [Act.put, zA, zB, zC]
   refine wpAnyH_ready (rs := [0]) (by kernel_rfl) (by simp) (.cons rfl (fun K hK => ?_) .nil)
   go_simp
   refine (dkinds_any _).mono ?_
   rintro e vA ⟨rfl, hw2⟩
   have hb : Below vB.heap.size vB vA := by rw [hw2]; exact below_al bR _
   have HMp : Hid (vA.heap[vB.heap.size]? = some (.map dMap 5)) := by rw [Hid, hw2]; exact map_at _ _ _
   replace F := below_on F hb
   replace HKr := h_ (HKr.out.on hb HKs.out.2)
   replace HKs := h_ (⟨HKs.out.1, Nat.lt_of_lt_of_le HKs.out.2 hb.size⟩ : _ ∧ _)
   clear hb hw2
   refine hK.out _ _ (HX.out _ F).1 (fun hHeld => ?_)
   clear hK K
   try simp only [Act.put, zA, zB, zC]
   refine wpAnyH_ready (rs := [3]) (by kernel_rfl) (by simp) (.cons rfl (fun K hK => ?_) .nil)
   have hlk : (Instr.lookup 86 (.map (some vB.heap.size)) (.int .i64 r.k) true).run Tryz.prog vA = .ok (.tuple #[.agg #[.func (.func fl) #[] #[], .func (.func fr) #[] #[]], .bool true]) vA := by
    have h := run_dlookup vA _ r.k _ HMp.out (dfind_ent r.k)
    rw [HDe.out] at h
    exact h
   go_simp
   clear hlk HMp
   refine hK.out _ _ (HX.out _ F).1 (fun hHeld => ?_)
   clear hK K
   try simp only [Act.put, zA, zB, zC]
   refine takeL 4 (v := ?_) ?_ ‹_› ?_
   rotate_left
   ·intro w hSw; go_simp; all_goals with_reducible rfl
   simp only [Act.put, zA, zB, zC]
   refine takeL 5 (v := ?_) ?_ ‹_› ?_
   rotate_left
   ·intro w hSw; go_simp; all_goals with_reducible rfl
   simp only [Act.put, zA, zB, zC]
   refine takeL 6 (v := ?_) ?_ ‹_› ?_
   rotate_left
   ·intro w hSw; go_simp; all_goals with_reducible rfl
   simp only [Act.put, zA, zB, zC]
   refine wpAnyH_ready (rs := [8]) (by kernel_rfl) (by simp) (.cons rfl (fun K hK => ?_) .nil)
   have s0 := HKr.out.1 0 _ rfl
   have s1 := HKr.out.1 1 _ rfl
   have g0 := HKr.out.2 0
   have g1 := HKr.out.2 1
   go_simp
   obtain ⟨v3, hv3⟩ : ∃ V, V = (vA.setCell ⟨V0.heap.size, 0, none⟩ (.func (.func fl) #[] #[])).setCell ⟨V0.heap.size, 1, none⟩ (.func (.func fr) #[] #[]) := ⟨_, rfl⟩
   have HKq : Hid (RowB v3 V0.heap.size [.func (.func fl) #[] #[], .func (.func fr) #[] #[]]) := by rw [hv3]; exact (HKr.out.set 0 _).set 1 _
   have F3 : Below W.heap.size W v3 := by rw [hv3]; exact (F.setCell (p := ⟨V0.heap.size, 0, none⟩) HKs.out.1 _).setCell (p := ⟨V0.heap.size, 1, none⟩) HKs.out.1 _
   have HV3 : Hid (V0.heap.size < v3.heap.size) := by rw [Hid, hv3, World.size_setCell, World.size_setCell]; exact HKs.out.2
   rw [← hv3]
   clear hv3 s0 s1 g0 g1 F
   refine hK.out _ _ (HX.out _ F3).1 (fun hHeld => ?_)
   clear hK K
   try simp only [Act.put, zA, zB, zC]
   refine takeL 9 (v := ?_) ?_ ‹_› ?_
   rotate_left
   ·intro w hSw; go_simp; all_goals with_reducible rfl
   simp only [Act.put, zA, zB, zC]
   clear hHeld
   refine wpAnyH_done (by kernel_rfl) ?_ _
   have HFx : Hid (Below W.heap.size W v3 ∧ RowB v3 V0.heap.size [.func (.func fl) #[] #[], .func (.func fr) #[] #[]] ∧ V0.heap.size < v3.heap.size) := ⟨F3, HKq.out, HV3.out⟩
   clear F3
   go_wp2_with fail
   go_meet
   case rel => exact ⟨_, rfl, rfl, HFx.out⟩
 case rest =>
 obtain ⟨gb, rfl, rfl, hcut⟩ := hcut
 have HCt := h_ hcut.out
 clear hcut F
 have HF3 := h_ HCt.out.1
 have HKq := h_ HCt.out.2.1
 clear HCt
 go_wp2_with fail
 refine (dneed_yes _).mono ?_
 rintro e w1 ⟨rfl, h9⟩
 rw [← h9]
 clear h9 w1
 obtain ⟨⟨x0, x1, x2, x3, x4, x5, x6, x7, x8, x9, x10, x11, x12, x13, x14⟩, _⟩ := HX.out wc HF3.out
 have s0 := HKq.out.1 0 _ rfl
 go_wp2_with fail
 clear x0 x1 x2 x3 x4 x5 x6 x7 x8 x9 x10 x11 x12 x13 x14 s0
 refine (HLy.out _).mono ?_
 rintro e v4 ⟨hb, a, c, A, C, rfl, hit⟩
 have F4 : Below W.heap.size W v4 := below_on HF3.out hb
 obtain ⟨v5, hv5⟩ : ∃ V, V = v4.alloc (.cells #[.int .i64 x.k, .int .u64 x.n, .slice a x.b.length c, .string ⟨x.s.toArray⟩, .slice A x.l.length C] 45) := ⟨_, rfl⟩
 have hb5 : Below v4.heap.size v4 v5 := by rw [hv5]; exact below_al bR _
 have HF5 : Hid (Below W.heap.size W v5) := below_on F4 hb5
 have HI5 : Hid (ItS v5 (newB W v5) (.agg #[.int .i64 x.k, .int .u64 x.n, .slice a x.b.length c, .string ⟨x.s.toArray⟩, .slice A x.l.length C]) x) := (hit.new_on hb5).from_ HF3.out.size
 have HQ5 : Hid (RowB v5 v4.heap.size [.int .i64 x.k, .int .u64 x.n, .slice a x.b.length c, .string ⟨x.s.toArray⟩, .slice A x.l.length C]) := by rw [hv5]; exact RowB.new v4 _ _
 have HS5 : Hid (v4.heap.size < v5.heap.size) := by rw [Hid, hv5]; simp
 have HV5 := h_ hv5
 clear hb hb5 hit hv5 F4 hent
 go_upto_region 4 with fail
 rw [← HV5.out]
 have F : Below v5.heap.size v5 v5.drew := bR.drew
 have hBx : ∀ w', Below v5.heap.size v5 w' → w'.cell? ⟨w.heap.size, 0, none⟩ = some (.int .i64 r.k) ∧ w'.cell? ⟨w.heap.size, 1, none⟩ = some (.int .u32 r.n) ∧ w'.cell? ⟨w.heap.size, 2, none⟩ = some (.int .u32 r.m) ∧ w'.cell? ⟨w.heap.size, 3, none⟩ = some (.int .u64 r.t) ∧ w'.cell? ⟨w.heap.size, 4, none⟩ = some (.int .u32 r.q) ∧ w'.cell? ⟨w.heap.size, 5, none⟩ = some (.int .i64 r.wh) ∧ w'.cell? ⟨w.heap.size, 6, none⟩ = some (.int .i64 r.wy) ∧ w'.cell? ⟨w.heap.size, 7, none⟩ = some (.int .u64 r.at0) ∧ w'.cell? ⟨w.heap.size, 8, none⟩ = some (.int .u64 r.no) ∧ w'.cell? ⟨w.heap.size, 9, none⟩ = some (.int .u32 r.nd) ∧ w'.cell? ⟨w.heap.size, 10, none⟩ = some (.int .u32 r.rg) ∧ w'.cell? ⟨w.heap.size, 11, none⟩ = some (.bool r.ys) ∧ w'.cell? ⟨w.heap.size, 12, none⟩ = some (.int .u64 r.fr) ∧ w'.cell? ⟨w.heap.size, 13, none⟩ = some (.int .u64 r.un) ∧ w'.cell? ⟨w.heap.size, 14, none⟩ = some (.int .u8 r.lv) ∧ w'.cell? ⟨v4.heap.size, 0, none⟩ = some (.int .i64 x.k) ∧ w'.cell? ⟨v4.heap.size, 1, none⟩ = some (.int .u64 x.n) ∧ w'.cell? ⟨v4.heap.size, 2, none⟩ = some (.slice a x.b.length c) ∧ w'.cell? ⟨v4.heap.size, 3, none⟩ = some (.string ⟨x.s.toArray⟩) ∧ w'.cell? ⟨v4.heap.size, 4, none⟩ = some (.slice A x.l.length C) := fun w' h => by
  obtain ⟨⟨x0, x1, x2, x3, x4, x5, x6, x7, x8, x9, x10, x11, x12, x13, x14⟩, _⟩ := HX.out w' (below_on HF5.out h)
  have hq := HQ5.out.on h HS5.out
  exact ⟨x0, x1, x2, x3, x4, x5, x6, x7, x8, x9, x10, x11, x12, x13, x14, hq.1 0 _ rfl, hq.1 1 _ rfl, hq.1 2 _ rfl, hq.1 3 _ rfl, hq.1 4 _ rfl⟩
 have HBx := h_ hBx
 clear hBx
 refine wp_region_held_drew (S := fun w' => w'.cell? ⟨w.heap.size, 0, none⟩ = some (.int .i64 r.k) ∧ w'.cell? ⟨w.heap.size, 1, none⟩ = some (.int .u32 r.n) ∧ w'.cell? ⟨w.heap.size, 2, none⟩ = some (.int .u32 r.m) ∧ w'.cell? ⟨w.heap.size, 3, none⟩ = some (.int .u64 r.t) ∧ w'.cell? ⟨w.heap.size, 4, none⟩ = some (.int .u32 r.q) ∧ w'.cell? ⟨w.heap.size, 5, none⟩ = some (.int .i64 r.wh) ∧ w'.cell? ⟨w.heap.size, 6, none⟩ = some (.int .i64 r.wy) ∧ w'.cell? ⟨w.heap.size, 7, none⟩ = some (.int .u64 r.at0) ∧ w'.cell? ⟨w.heap.size, 8, none⟩ = some (.int .u64 r.no) ∧ w'.cell? ⟨w.heap.size, 9, none⟩ = some (.int .u32 r.nd) ∧ w'.cell? ⟨w.heap.size, 10, none⟩ = some (.int .u32 r.rg) ∧ w'.cell? ⟨w.heap.size, 11, none⟩ = some (.bool r.ys) ∧ w'.cell? ⟨w.heap.size, 12, none⟩ = some (.int .u64 r.fr) ∧ w'.cell? ⟨w.heap.size, 13, none⟩ = some (.int .u64 r.un) ∧ w'.cell? ⟨w.heap.size, 14, none⟩ = some (.int .u8 r.lv) ∧ w'.cell? ⟨v4.heap.size, 0, none⟩ = some (.int .i64 x.k) ∧ w'.cell? ⟨v4.heap.size, 1, none⟩ = some (.int .u64 x.n) ∧ w'.cell? ⟨v4.heap.size, 2, none⟩ = some (.slice a x.b.length c) ∧ w'.cell? ⟨v4.heap.size, 3, none⟩ = some (.string ⟨x.s.toArray⟩) ∧ w'.cell? ⟨v4.heap.size, 4, none⟩ = some (.slice A x.l.length C)) (by kernel_rfl) (HBx.out _ F) (fun hHeld => ?_)
 refine takeL 0 (v := ?_) ?_ ‹_› ?_
 rotate_left
 ·intro w hSw; go_simp; all_goals with_reducible rfl
 simp only [Act.put, zA, zB, zC]
 refine takeL 2 (v := ?_) ?_ ‹_› ?_
 rotate_left
 ·intro w hSw; go_simp; all_goals with_reducible rfl
 simp only [Act.put, zA, zB, zC]
 refine wpAnyH_ready (rs := [1]) (by kernel_rfl) (by simp) (.cons rfl (fun K hK => ?_) .nil)
 go_simp
 refine (dread_any x _ _ HDp.out ((HI5.out.new_on F).new_itV)).mono ?_
 rintro e v6 ⟨hb, ⟨q, hq, rfl⟩ | ⟨hq, rfl⟩⟩
 rotate_left
 ·have HE : Hid (itemR r = none) := by rw [Hid, HEq.out, hq, if_neg (by simp)]
  have HF6 : Hid (Below w.heap.size w v6) := below_on HB0.out (below_on HF5.out (below_on F hb))
  clear hb hq
  rw [gives_def]
  exact ⟨rfl, HF6.out, .inr ⟨HE.out, rfl⟩⟩
 have HRq := h_ hq
 replace F := below_on F hb
 clear hb hq
 unfold Rc.val
 refine hK.out _ _ (HBx.out _ F) (fun hHeld => ?_)
 clear hK K
 try simp only [Act.put, zA, zB, zC]
 refine wpAnyH_ready (rs := [3]) (by kernel_rfl) (by simp) (.cons rfl (fun K hK => ?_) .nil)
 have hqr := fun w => eqRc_run q r w
 go_simp
 clear hqr
 refine hK.out _ _ (HBx.out _ F) (fun hHeld => ?_)
 clear hK K
 try simp only [Act.put, zA, zB, zC]
 refine wpAnyH_ready (rs := [4]) (by kernel_rfl) (by simp) (.cons rfl (fun K hK => ?_) .nil)
 go_simp
 refine (dneed_any (sameRc q r) _).mono ?_
 rintro e v7 ⟨h9, ⟨rfl, hsm⟩ | ⟨rfl, hsm⟩⟩
 rotate_left
 ·have HE : Hid (itemR r = none) := by
    rw [Hid, HEq.out, HRq.out, if_neg]
    intro h
    injection h with h
    rw [(sameRc_iff q r).2 h] at hsm
    cases hsm
  have HF6 : Hid (Below w.heap.size w v6) := below_on HB0.out (below_on HF5.out F)
  rw [← h9]
  clear hsm h9
  rw [gives_def]
  exact ⟨rfl, HF6.out, .inr ⟨HE.out, rfl⟩⟩
 rw [← h9]
 clear h9 v7
 have HSm : Hid (itemR r = some x) := by rw [Hid, HEq.out, HRq.out, if_pos (by rw [(sameRc_iff q r).1 hsm])]
 clear hsm
 refine hK.out _ _ (HBx.out _ F) (fun hHeld => ?_)
 clear hK K
 try simp only [Act.put, zA, zB, zC]
 clear hHeld
 refine wpAnyH_done (by kernel_rfl) ?_ _
 have HF6 := h_ F
 have HI6 := h_ (HI5.out.new_on F)
 clear F
 obtain ⟨_, hbx⟩ := HX.out v6 (below_on HF5.out HF6.out)
 obtain ⟨r0, f0⟩ := hbx 0
 obtain ⟨r1, f1⟩ := hbx 1
 obtain ⟨r2, f2⟩ := hbx 2
 obtain ⟨r3, f3⟩ := hbx 3
 obtain ⟨r4, f4⟩ := hbx 4
 have hq5 := HQ5.out.on HF6.out HS5.out
 obtain ⟨y0, y1, y2, y3, y4⟩ := r5 hq5
 clear hbx hq5
 go_wp2_with fail
 change bodyPost _ _ _ _ _ (put5 v6 (w.heap.size + 1) (.int .i64 x.k) (.int .u64 x.n) (.slice a x.b.length c) (.string ⟨x.s.toArray⟩) (.slice A x.l.length C))
 have hc5 := put5_cells r0 r1 r2 r3 r4 (.int .i64 x.k) (.int .u64 x.n) (.slice a x.b.length c) (.string ⟨x.s.toArray⟩) (.slice A x.l.length C)
 have hbel := put5_bel (b := w.heap.size + 1) (below_on HB0.out (below_on HF5.out HF6.out)) (Nat.le_succ _) (.int .i64 x.k) (.int .u64 x.n) (.slice a x.b.length c) (.string ⟨x.s.toArray⟩) (.slice A x.l.length C)
 have hs := put5_S HI6.out (b := w.heap.size + 1) (by have := HS0.out; omega) (.int .i64 x.k) (.int .u64 x.n) (.slice a x.b.length c) (.string ⟨x.s.toArray⟩) (.slice A x.l.length C)
 generalize put5 v6 (w.heap.size + 1) (.int .i64 x.k) (.int .u64 x.n) (.slice a x.b.length c) (.string ⟨x.s.toArray⟩) (.slice A x.l.length C) = w30 at *
 have hs2 : ItS w30 (newB w w30) _ x := ItS.more (fun j hj => ⟨by have := hj.1; have := HS0.out; omega, hj.2⟩) _ hs
 obtain ⟨k0, k1, k2, k3, k4⟩ := hc5
 exact bodyPost_ret (v := .agg #[.int .i64 x.k, .int .u64 x.n, .slice a x.b.length c, .string ⟨x.s.toArray⟩, .slice A x.l.length C]) (by simp [results, Tryz.results24, go_sem, k0, k1, k2, k3, k4]) rfl ⟨hbel, .inl ⟨x, a, c, A, C, HSm.out, rfl, hs2⟩⟩

end Go.Proofs.YteldifnkeekafaaGreatDoor

