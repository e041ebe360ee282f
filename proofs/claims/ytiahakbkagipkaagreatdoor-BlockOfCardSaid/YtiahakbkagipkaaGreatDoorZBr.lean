/- Joined texts. -/
import Derived.Test.YtiahakbkagipkaaGreatDoorZBq
import Derived.Maps.AppendAt
import Derived.Laws.IdiomCopy
import Derived.Laws.OwnMore
import Derived.Deep.RegionLawGrows
import Derived.Test.YtiahakbkagipkaaGreatDoorZBu
import Derived.Test.YtiahakbkagipkaaGreatDoorZMe
set_option maxHeartbeats 4000000
set_option linter.unusedSimpArgs false
set_option linter.unusedVariables false
set_option maxRecDepth 100000
namespace Go.Proofs.YtiahakbkagipkaaGreatDoor
open Go Go.RowKit Go.Shelf

def RowX (w : World) (g : Nat) (zs : List Cr) : Prop := ∀ j, j < zs.length → CellX w g (j * 2) (atX zs j) ∧ ∀ i, i < 2 → w.frozen? ⟨g, j * 2 + i, none⟩ = false

theorem RowX.kept {w w' : World} {g : Nat} {zs : List Cr} (h : RowX w g zs) (hb : w'.heap[g]? = w.heap[g]?) : RowX w' g zs := fun j hj =>
 ⟨(h j hj).1.kept hb, fun i hi => (World.frozen?_of_block (a := ⟨g, j * 2 + i, none⟩) hb).trans ((h j hj).2 i hi)⟩

theorem RowX.rd {w : World} {g : Nat} {zs : List Cr} (h : RowX w g zs) {B : Nat} (hg : g < B) : RdX w B (some ⟨g, 0, none⟩) zs := .inr ⟨g, 0, rfl, hg, fun j hj => by rw [Nat.zero_add]; exact (h j hj).1⟩

def flatX : List Cr → List Value
 | [] => []
 | p :: r => .int .u32 p.1.toNat :: .bool p.2 :: flatX r

theorem flatX_length : ∀ xs : List Cr, (flatX xs).length = xs.length * 2
 | [] => rfl
 | p :: r => by simp [flatX, flatX_length r]; omega

theorem flatX_at : ∀ (xs : List Cr) (k : Nat), k < xs.length → (flatX xs)[k * 2]? = some (.int .u32 (atX xs k).1.toNat) ∧ (flatX xs)[k * 2 + 1]? = some (.bool (atX xs k).2)
 | [], k, h => absurd h (Nat.not_lt_zero _)
 | p :: r, 0, _ => ⟨rfl, rfl⟩
 | p :: r, k + 1, h => by
  have := flatX_at r k (by simpa using h)
  rw [show (k + 1) * 2 = k * 2 + 1 + 1 by omega]
  simp only [flatX, List.getElem?_cons_succ]
  simpa [atX] using this

theorem flatX_one : ∀ (xs : List Cr) (u : Value), u ∈ flatX xs → u.oneCell' = true
 | [], u, h => by cases h
 | p :: r, u, h => by
  simp only [flatX, List.mem_cons] at h
  rcases h with rfl | rfl | h
  ·rfl
  ·rfl
  ·exact flatX_one r u h

theorem flatX_append : ∀ xs ys : List Cr, flatX (xs ++ ys) = flatX xs ++ flatX ys
 | [], ys => rfl
 | p :: r, ys => by simp [flatX, flatX_append r ys]

theorem flatX_cell {w : World} {g o : Nat} {xs : List Cr} (h : ∀ j, j < xs.length → CellX w g (o + j * 2) (atX xs j)) (i : Nat) (u : Value) (hu : (flatX xs)[i]? = some u) : w.cell? ⟨g, o + i, none⟩ = some u := by
 have hi : i < xs.length * 2 := by
  have := (List.getElem?_eq_some_iff.1 hu).1
  rwa [flatX_length] at this
 have hk : i / 2 < xs.length := by omega
 obtain ⟨f0, f1⟩ := flatX_at xs _ hk
 obtain ⟨c0, c1⟩ := h _ hk
 rcases (show i % 2 = 0 ∨ i % 2 = 1 by omega) with hm | hm
 ·have e : i = i / 2 * 2 := by omega
  rw [e, f0] at hu
  rw [e, ← hu]
  exact c0
 ·have e : i = i / 2 * 2 + 1 := by omega
  rw [e, f1] at hu
  rw [e, ← hu]
  exact c1

theorem info_cross : (Tryz.prog.info? 138).map (fun i => (i.zero, i.size, i.bytes)) = some (some (.agg #[.int .u32 0, .bool false]), 2, 8) := by kernel_rfl

theorem ownX_form {w' : World} {B : Nat} {v : Value} {xs : List Cr} (h : w'.ownsRow B 138 2 v xs.length (flatX xs)) :
  (v = .slice none 0 0 ∧ xs = []) ∨ ∃ g C, v = .slice (some ⟨g, 0, none⟩) xs.length C ∧ xs.length ≤ C ∧ B ≤ g ∧ g < w'.heap.size ∧ RowX w' g xs := by
 rcases h.2 with ⟨rfl, h0⟩ | ⟨gg, cp, cur, rfl, hb0, hg, hn9, hm9, hs9, htk⟩
 ·exact .inl ⟨rfl, List.eq_nil_of_length_eq_zero h0⟩
 ·have hlt := (Array.getElem?_eq_some_iff.1 hg).1
  refine .inr ⟨gg, cp, rfl, hn9, hb0, hlt, fun j hj => ?_⟩
  have hcell : ∀ i, i < xs.length * 2 → w'.cell? ⟨gg, i, none⟩ = (flatX xs)[i]? := fun i hi => by
   have h1 : w'.cell? ⟨gg, i, none⟩ = cur[i]? := by simp [World.cell?, hg]
   rw [h1, ← htk]
   simp [List.getElem?_take, hi]
  have hfr : ∀ i, w'.frozen? ⟨gg, i, none⟩ = false := fun i => h.frozenAt i
  obtain ⟨f0, f1⟩ := flatX_at xs j hj
  unfold CellX
  rw [hcell _ (by omega), hcell _ (by omega)]
  exact ⟨⟨f0, f1⟩, fun i _ => hfr _⟩

theorem step_runX {P : Program} {ops : Array Oper} {o : Oper} {a : Act} {w : World} {K : Act → World → Prop} {Q : Exit → Act → World → Prop} {E : Prop} (hgd : o.guard = none) (s x : Operand) (t u : TypeId)
  (ho : o.op = .call { callee := .builtin .append, args := #[s, x], argTypes := #[t, u] }) (v y v' : Value) (w' : World) (hv : a.eval s = v) (hy : a.eval x = y)
  (hrun : (Builtin.append_ #[t, u] o.type #[v, y]).run P w = .ok v' w') (h : K (a.put o.dst v') w') : if Region.wanted o (yielded ops a.tmps) = true then Oper.wp P o a w K Q else E := by
 have hw : Region.wanted o (yielded ops a.tmps) = true := by simp [Region.wanted, hgd]
 rw [if_pos hw]
 unfold Oper.wp execOp
 simp only [ho, resolve, invoke, builtin, Sem.run_bind, Sem.run_pure, Result.andThen_ok, List.map_toArray, List.map_cons, List.map_nil, hv, hy, hrun]
 exact h

theorem run_app_nil {P : Program} (w : World) (base size : Nat) (t ty e : TypeId) (i : TypeInfo) (ht : P.underlying t = some (.slice e)) (hi : P.info? e = some i)
  (v : Value) (n : Nat) (xs : List Value) (hown : w.ownsRow base e size v n xs) (c : Nat) : (Builtin.append_ #[t, t] ty #[v, .slice none 0 c]).run P w = .ok v w := by
 rcases hown.2 with ⟨rfl, _⟩ | ⟨g, cap, cur, rfl, _, _, hn, _⟩
 ·simp [Builtin.append_, run_underlying ht, sizeOf, typeInfo, hi, Builtin.lenOf, Builtin.firstCells]
 ·simp [Builtin.append_, run_underlying ht, sizeOf, typeInfo, hi, Builtin.lenOf, Builtin.firstCells, hn, storeCells]

theorem appX (w : World) (base : Nat) (v : Value) (zs : List Cr) (hown : w.ownsRow base 138 2 v zs.length (flatX zs)) (hbase : base ≤ w.heap.size) (a : Option Addr) (c B : Nat) (xs : List Cr) (hr : RdX w B a xs)
  (hlen : zs.length + xs.length ≤ 1000000) :
  ∃ v' w', (Builtin.append_ #[42, 42] 42 #[v, .slice a xs.length c]).run Tryz.prog w = .ok v' w' ∧ w'.ownsRow base 138 2 v' (zs ++ xs).length (flatX (zs ++ xs)) ∧ w.grownBy w' v.ownBlock := by
 obtain ⟨i, hi, hz, hs, hb⟩ := info_parts info_cross
 rcases a with _ | ad
 ·obtain rfl : xs = [] := by
    rcases hr with h | ⟨g, o, h, _⟩
    ·exact h
    ·cases h
  refine ⟨v, w, run_app_nil w base 2 42 42 138 i Tryz.underlying42 hi v zs.length (flatX zs) hown c, ?_, World.grownBy.refl w _⟩
  rw [List.append_nil]
  exact hown
 ·obtain ⟨v', w', hrun, h2, h3, _⟩ := run_append_own_at (P := Tryz.prog) w base 42 42 138 i _ 2 8 Tryz.underlying42 hi hz hs hb rfl (by decide) v zs.length (flatX zs) hown ad xs.length c (flatX xs) (flatX_length xs) (fun j u hu => by
    rcases hr with rfl | ⟨b, o, e, _, hc⟩
    ·simp [flatX] at hu
    ·cases e
     rw [mk_addr_add]
     exact flatX_cell hc j u hu) (flatX_one xs) (by unfold maxLen; omega) (by omega) hbase
  rw [flatX_append, List.length_append]
  exact ⟨v', w', hrun, h2, h3⟩

theorem set2_cells {w : World} {b : Nat} {v0 v1 : Value} (h0 : w.cell? ⟨b, 0, none⟩ = some v0) (h1 : w.cell? ⟨b, 1, none⟩ = some v1) (u0 u1 : Value) :
  ((w.setCell ⟨b, 0, none⟩ u0).setCell ⟨b, 1, none⟩ u1).cell? ⟨b, 0, none⟩ = some u0 ∧ ((w.setCell ⟨b, 0, none⟩ u0).setCell ⟨b, 1, none⟩ u1).cell? ⟨b, 1, none⟩ = some u1 := by
 constructor <;> go_simp

theorem puint_any (n : Int) (w : World) : Calls Tryz.prog 148 #[.int .u64 n] w fun e w' => e = .returned (.agg #[.int .i64 1, .int .u64 n, .slice none 0 0, .string ⟨#[]⟩, .slice none 0 0]) ∧ Below w.heap.size w w' := by
 go_enter Tryz.func148, Tryz.ntmps148
 go_wp2
 exact bodyPost_ret (v := .agg #[.int .i64 1, .int .u64 n, .slice none 0 0, .string ⟨#[]⟩, .slice none 0 0]) (by simp [results, Tryz.results148, go_sem]) rfl ⟨rfl, below_al bR _⟩

theorem plist_any (a : Option Addr) (n c : Nat) (w : World) : Calls Tryz.prog 147 #[.slice a n c] w fun e w' => e = .returned (.agg #[.int .i64 4, .int .u64 0, .slice none 0 0, .string ⟨#[]⟩, .slice a n c]) ∧ Below w.heap.size w w' := by
 go_enter Tryz.func147, Tryz.ntmps147
 go_wp2
 exact bodyPost_ret (v := .agg #[.int .i64 4, .int .u64 0, .slice none 0 0, .string ⟨#[]⟩, .slice a n c]) (by simp [results, Tryz.results147, go_sem]) rfl ⟨rfl, below_al bR _⟩

def bN (q : Bool) : Int := if q = true then 1 else 0
def itB (q : Bool) : It := .mk 5 (bN q) [] [] []
theorem itS_bool (w : World) (S : Nat → Prop) (q : Bool) : ItS w S (.agg #[.int .i64 5, .int .u64 (bN q), .slice none 0 0, .string ⟨#[]⟩, .slice none 0 0]) (itB q) :=
 itS_plain w S 5 (bN q) [] (by decide) (by cases q <;> exact ⟨by decide, by decide⟩) (Nat.zero_le _)

theorem pbool_any (q : Bool) (w : World) : Calls Tryz.prog 149 #[.bool q] w fun e w' => e = .returned (.agg #[.int .i64 5, .int .u64 (bN q), .slice none 0 0, .string ⟨#[]⟩, .slice none 0 0]) ∧ Below w.heap.size w w' := by
 cases q
 ·go_enter Tryz.func149, Tryz.ntmps149
  go_wp2
  exact bodyPost_ret (v := .agg #[.int .i64 5, .int .u64 0, .slice none 0 0, .string ⟨#[]⟩, .slice none 0 0]) (by simp [results, Tryz.results149, go_sem]) rfl ⟨rfl, below_al (below_al bR _) _⟩
 ·go_enter Tryz.func149, Tryz.ntmps149
  go_wp2
  exact bodyPost_ret (v := .agg #[.int .i64 5, .int .u64 1, .slice none 0 0, .string ⟨#[]⟩, .slice none 0 0]) (by simp [results, Tryz.results149, go_sem]) rfl ⟨rfl, below_al (below_al bR _) _⟩

def itX (x : Cr) : It := itLs [itU x.1.toNat, itB x.2]

theorem item1_any (x : Cr) (w : World) : Calls Tryz.prog 146 #[.agg #[.int .u32 x.1.toNat, .bool x.2]] w (NewP w (itX x)) := by
 have hgl := gate_lt x
 obtain ⟨W, hW⟩ : ∃ W, W = (w.alloc (.cells #[.int .u32 x.1.toNat, .bool x.2] 138)).alloc (.cells #[.int .i64 0, .int .u64 0, .slice none 0 0, .string ⟨#[]⟩, .slice none 0 0] 83) := ⟨_, rfl⟩
 have HB0 : Hid (Below w.heap.size w W) := by rw [hW]; exact below_al (below_al bR _) _
 have HX : Hid (∀ w', Below W.heap.size W w' → (w'.cell? ⟨w.heap.size, 0, none⟩ = some (.int .u32 x.1.toNat) ∧ w'.cell? ⟨w.heap.size, 1, none⟩ = some (.bool x.2)) ∧ ∀ i, w'.cell? ⟨w.heap.size + 1, i, none⟩ = (#[Value.int .i64 0, .int .u64 0, .slice none 0 0, .string ⟨#[]⟩, .slice none 0 0])[i]? ∧ w'.frozen? ⟨w.heap.size + 1, i, none⟩ = false) := fun w' h => by
  rw [hW] at h
  have h1 := below_on (below_al (Below.refl _ (w.alloc (.cells #[.int .u32 x.1.toNat, .bool x.2] 138))) (.cells #[.int .i64 0, .int .u64 0, .slice none 0 0, .string ⟨#[]⟩, .slice none 0 0] 83)) h
  refine ⟨⟨box_at h1 0, box_at h1 1⟩, fun i => ?_⟩
  have q2 := box_at h i
  have f2 := frozen_at h i
  rw [World.size_alloc] at q2 f2
  exact ⟨q2, f2⟩
 have hWs : w.heap.size + 1 + 1 = W.heap.size := by rw [hW]; simp
 have HW := h_ hW
 have HWs := h_ hWs
 have hS0 := (HX.out W.drew bR.drew).1
 have hcv : IntKind.u64.wrap (x.1.toNat : Int) = (x.1.toNat : Int) := by
  have := x.1.toNat_lt
  simp [IntKind.wrap, IntKind.signed, IntKind.bits]
  omega
 clear hW hWs
 go_enter Tryz.func146, Tryz.ntmps146
 go_wp2_with fail
 rw [← HW.out]
 refine wp_region_T (fun w' => w'.cell? ⟨w.heap.size, 0, none⟩ = some (.int .u32 x.1.toNat) ∧ w'.cell? ⟨w.heap.size, 1, none⟩ = some (.bool x.2)) 9 (by kernel_rfl) ?_
 refine wpAnyT_take (i := 0) (v := ?_) rfl (by kernel_rfl) (by kernel_rfl) (by kernel_rfl) (by kernel_rfl) (fun _ _ _ h => h) (Or.inl ⟨by rfl, ?_⟩) hS0 ?_
 rotate_left
 ·intro w hSw; (try dsimp only at hSw); go_simp; all_goals with_reducible rfl
 simp only [Act.put, zA, zB, zC]
 refine wpAnyT_take (i := 1) (v := ?_) rfl (by kernel_rfl) (by kernel_rfl) (by kernel_rfl) (by kernel_rfl) (fun _ _ _ h => h) (Or.inl ⟨by rfl, ?_⟩) hS0 ?_
 rotate_left
 ·intro w hSw; (try dsimp only at hSw); go_simp; all_goals with_reducible rfl
 simp only [Act.put, zA, zB, zC]
 refine wpAnyT_take (i := 2) (v := ?_) rfl (by kernel_rfl) (by kernel_rfl) (by kernel_rfl) (by kernel_rfl) (fun _ _ _ h => h) (Or.inl ⟨by rfl, ?_⟩) hS0 ?_
 rotate_left
 ·intro w hSw; (try dsimp only at hSw); go_simp; all_goals with_reducible rfl
 simp only [Act.put, zA, zB, zC]
 refine wpAnyT_take (i := 4) (v := ?_) rfl (by kernel_rfl) (by kernel_rfl) (by kernel_rfl) (by kernel_rfl) (fun _ _ _ h => h) (Or.inl ⟨by rfl, ?_⟩) hS0 ?_
 rotate_left
 ·intro w hSw; (try dsimp only at hSw); go_simp; all_goals with_reducible rfl
 simp only [Act.put, zA, zB, zC]
 refine wpAnyT_take (i := 5) (v := ?_) rfl (by kernel_rfl) (by kernel_rfl) (by kernel_rfl) (by kernel_rfl) (fun _ _ _ h => h) (Or.inl ⟨by rfl, ?_⟩) hS0 ?_
 rotate_left
 ·intro w hSw; (try dsimp only at hSw); go_simp; all_goals with_reducible rfl
 simp only [Act.put, zA, zB, zC]
 refine wpAnyT_one (i := 3) (by kernel_rfl) rfl (fun K hK => ?_)
 go_simp
 refine (puint_any _ _).mono ?_
 rintro e w1 ⟨rfl, hb1⟩
 have HB1 := h_ (below_on (Below.refl W.heap.size W).drew hb1)
 refine hK.out _ _ (fun _ => (HX.out _ HB1.out).1) ?_
 clear hK K
 try simp only [Act.put, zA, zB, zC]
 refine wpAnyT_one (i := 6) (by kernel_rfl) rfl (fun K hK => ?_)
 go_simp
 refine (pbool_any _ _).mono ?_
 rintro e w2 ⟨rfl, hb2⟩
 have HB2 := h_ (below_on HB1.out hb2)
 refine hK.out _ _ (fun _ => (HX.out _ HB2.out).1) ?_
 clear hK K
 try simp only [Act.put, zA, zB, zC]
 clear hb1 hb2
 refine wpAnyT_one (i := 7) (by kernel_rfl) rfl (fun K hK => ?_)
 go_simp
 have HB3 : Hid (Below W.heap.size W (w2.alloc (.cells #[.int .i64 1, .int .u64 x.1.toNat, .slice none 0 0, .string ⟨#[]⟩, .slice none 0 0, .int .i64 5, .int .u64 (bN x.2), .slice none 0 0, .string ⟨#[]⟩, .slice none 0 0] 83))) := below_al HB2.out _
 have HI : Hid (∀ w', Below (w2.alloc (.cells #[.int .i64 1, .int .u64 x.1.toNat, .slice none 0 0, .string ⟨#[]⟩, .slice none 0 0, .int .i64 5, .int .u64 (bN x.2), .slice none 0 0, .string ⟨#[]⟩, .slice none 0 0] 83)).heap.size (w2.alloc (.cells #[.int .i64 1, .int .u64 x.1.toNat, .slice none 0 0, .string ⟨#[]⟩, .slice none 0 0, .int .i64 5, .int .u64 (bN x.2), .slice none 0 0, .string ⟨#[]⟩, .slice none 0 0] 83)) w' → ItS w' (newB w2 w') (listV (some ⟨w2.heap.size, 0, none⟩) 2 2) (itX x)) := fun w' h =>
  itS_two ⟨Nat.le_refl _, Nat.lt_of_lt_of_le (by simp) h.size⟩ ⟨_, _, _, _, _, rfl, box_at h 0, box_at h 1, box_at h 2, box_at h 3, box_at h 4⟩ ⟨_, _, _, _, _, rfl, box_at h 5, box_at h 6, box_at h 7, box_at h 8, box_at h 9⟩ (itS_uint _ _ _ ⟨by omega, by omega⟩) (itS_bool _ _ _)
 refine hK.out _ _ (fun _ => (HX.out _ HB3.out).1) ?_
 clear hK K
 try simp only [Act.put, zA, zB, zC]
 refine wpAnyT_one (i := 8) (by kernel_rfl) rfl (fun K hK => ?_)
 go_simp
 refine (plist_any _ _ _ _).mono ?_
 rintro e w4 ⟨rfl, hb4⟩
 have HI4 := h_ (HI.out w4 hb4)
 have HB4 := h_ (below_on HB3.out hb4)
 refine hK.out _ _ (fun _ => (HX.out _ HB4.out).1) ?_
 clear hK K
 try simp only [Act.put, zA, zB, zC]
 obtain ⟨_, hbx⟩ := HX.out w4 HB4.out
 obtain ⟨d0, f0⟩ := hbx 0
 obtain ⟨d1, f1⟩ := hbx 1
 obtain ⟨d2, f2⟩ := hbx 2
 obtain ⟨d3, f3⟩ := hbx 3
 obtain ⟨d4, f4⟩ := hbx 4
 clear hbx hb4 hS0
 refine wpAnyT_one (i := 9) (by kernel_rfl) rfl (fun K hK => ?_)
 go_simp
 refine hK.out _ _ (fun h => absurd h (by decide)) ?_
 clear hK K
 try simp only [Act.put, zA, zB, zC]
 refine wpAnyT_done (by kernel_rfl) ?_ _
 have hq := set5_cells d0 d1 d2 d3 d4 (.int .i64 4) (.int .u64 0) (.slice none 0 0) (.string ⟨#[]⟩) (.slice (some ⟨w2.heap.size, 0, none⟩) 2 2)
 have hbel := set5_on (g := w.heap.size + 1) (HB0.out.trans (HB4.out.mono HB0.out.size)) (by omega) (.int .i64 4) (.int .u64 0) (.slice none 0 0) (.string ⟨#[]⟩) (.slice (some ⟨w2.heap.size, 0, none⟩) 2 2)
 have h20 : w.heap.size + 1 + 1 ≤ w2.heap.size := by have := HB2.out.size; have := HWs.out; omega
 have hit : ItS (set5 w4 (w.heap.size + 1) (.int .i64 4) (.int .u64 0) (.slice none 0 0) (.string ⟨#[]⟩) (.slice (some ⟨w2.heap.size, 0, none⟩) 2 2)) (newB w (set5 w4 (w.heap.size + 1) (.int .i64 4) (.int .u64 0) (.slice none 0 0) (.string ⟨#[]⟩) (.slice (some ⟨w2.heap.size, 0, none⟩) 2 2))) (listV (some ⟨w2.heap.size, 0, none⟩) 2 2) (itX x) :=
  ItS.more (fun b hb => ⟨by have := hb.1; omega, by rw [set5_size]; exact hb.2⟩) _ (ItS.keep (fun b hb => set5_block (by have := hb.1; omega) _ _ _ _ _) _ HI4.out)
 have HF := h_ (⟨hq, hbel, hit⟩ : _ ∧ _ ∧ _)
 clear hq hbel hit h20 d0 d1 d2 d3 d4 f0 f1 f2 f3 f4
 unfold set5 at HF
 obtain ⟨⟨q0, q1, q2, q3, q4⟩, hbel, hit⟩ := HF.out
 go_wp2
 exact bodyPost_ret (v := .agg #[.int .i64 4, .int .u64 0, .slice none 0 0, .string ⟨#[]⟩, .slice (some ⟨w2.heap.size, 0, none⟩) 2 2]) (by simp [results, Tryz.results146, go_sem, q0, q1, q2, q3, q4]) rfl ⟨hbel, _, rfl, hit⟩

end Go.Proofs.YtiahakbkagipkaaGreatDoor
