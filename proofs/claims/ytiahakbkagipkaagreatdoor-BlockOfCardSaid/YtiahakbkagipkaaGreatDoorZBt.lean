/- Joined texts. -/
import Derived.Test.YtiahakbkagipkaaGreatDoorZBs
import Derived.Test.YtiahakbkagipkaaGreatDoorZBr
import Derived.Test.YtiahakbkagipkaaGreatDoorZKl
set_option maxHeartbeats 8000000
set_option linter.unusedSimpArgs false
set_option linter.unusedVariables false
set_option maxRecDepth 100000
namespace Go.Proofs.YtiahakbkagipkaaGreatDoor
open Go Go.RowKit Go.Shelf

def crG (x : It) : Cr := if shX x.l = true then (match x.l with | [y, z] => (UInt32.ofNat y.n.toNat, z.n == 1) | _ => (0, false)) else (0, false)

theorem crG_no {x : It} (h : shX x.l = false) : crG x = (0, false) := by
 unfold crG
 rw [h]
 rfl

theorem crG_yes {x y z : It} (h : shX x.l = true) (hl : x.l = [y, z]) : crG x = (UInt32.ofNat y.n.toNat, z.n == 1) := by
 unfold crG
 rw [h, hl]
 rfl

theorem shX_two {l : List It} (h : shX l = true) : ∃ y z, l = [y, z] := by
 by_cases h2 : l.length = 2
 ·exact len_two h2
 ·rw [shX_len h2] at h
  cases h

theorem ItV.parts {w : World} {B : Nat} {v : Value} {x : It} (h : ItV w B v x) : U64 x.n ∧ x.l.length ≤ 140737488355328 := by
 obtain ⟨k, n, b, s, l⟩ := x
 simp only [ItV] at h
 obtain ⟨A, ⟨a, c, C, _, _, _, h4, _, _, _, h6⟩, _⟩ := h
 exact ⟨h4, h6⟩

theorem ItV.listP {w : World} {B : Nat} {x : It} {a A : Option Addr} {c C : Nat} (h : ItV w B (.agg #[.int .i64 x.k, .int .u64 x.n, .slice a x.b.length c, .string ⟨x.s.toArray⟩, .slice A x.l.length C]) x) : x.l.length ≤ C ∧ (x.l = [] ∨ ∃ g o, A = some ⟨g, o, none⟩ ∧ g < B ∧ ItL w B g o x.l) := by
 obtain ⟨k, n, b, s, l⟩ := x
 simp only [ItV] at h
 obtain ⟨A1, ⟨a1, c1, C1, e, ⟨_, h2⟩, _⟩, hl⟩ := h
 have e' : [Value.int .i64 k, .int .u64 n, .slice a b.length c, .string ⟨s.toArray⟩, .slice A l.length C] = [.int .i64 k, .int .u64 n, .slice a1 b.length c1, .string ⟨s.toArray⟩, .slice A1 l.length C1] := congrArg (fun v => match v with | .agg l => l.toList | _ => []) e
 simp only [List.cons.injEq, Value.slice.injEq, and_true, true_and] at e'
 obtain ⟨⟨rfl, rfl⟩, rfl, rfl⟩ := e'
 exact ⟨h2, hl⟩

theorem guess1_any (x : It) (v : Value) (w : World) (hv : ItV w w.heap.size v x) :
  Calls Tryz.prog 191 #[v] w fun e w' => e = .returned (.agg #[.int .u32 (crG x).1.toNat, .bool (crG x).2]) ∧ Below w.heap.size w w' := by
 obtain ⟨a, c, A, C, rfl⟩ := hv.form
 obtain ⟨W, hW⟩ : ∃ W, W = (w.alloc (.cells #[.int .i64 x.k, .int .u64 x.n, .slice a x.b.length c, .string ⟨x.s.toArray⟩, .slice A x.l.length C] 83)).alloc (.cells #[.int .u32 0, .bool false] 138) := ⟨_, rfl⟩
 have HB0 : Hid (Below w.heap.size w W) := by rw [hW]; exact below_al (below_al bR _) _
 have HX : Hid (∀ w', Below W.heap.size W w' → w'.cell? ⟨w.heap.size, 4, none⟩ = some (.slice A x.l.length C) ∧ (w'.cell? ⟨w.heap.size + 1, 0, none⟩ = some (.int .u32 0) ∧ w'.cell? ⟨w.heap.size + 1, 1, none⟩ = some (.bool false) ∧ w'.frozen? ⟨w.heap.size + 1, 0, none⟩ = false ∧ w'.frozen? ⟨w.heap.size + 1, 1, none⟩ = false)) := fun w' h => by
  rw [hW] at h
  have h1 := below_on (below_al (Below.refl _ (w.alloc (.cells #[.int .i64 x.k, .int .u64 x.n, .slice a x.b.length c, .string ⟨x.s.toArray⟩, .slice A x.l.length C] 83))) (.cells #[.int .u32 0, .bool false] 138)) h
  have q0 := box_at h1 4
  have q1 := box_at h 0
  have q2 := box_at h 1
  have f1 := frozen_at h 0
  have f2 := frozen_at h 1
  rw [World.size_alloc] at q1 q2 f1 f2
  exact ⟨q0, q1, q2, f1, f2⟩
 obtain ⟨hC, hlist⟩ := hv.listP
 obtain ⟨_, hlen⟩ := hv.parts
 have hsl : ItSl W A x.l := hlist.imp id fun ⟨g, o, e, hg, h⟩ => ⟨g, o, e, Nat.lt_of_lt_of_le hg HB0.out.size, ItL.mono HB0.out.size _ (ItL.below HB0.out hg _ h)⟩
 have HSh := h_ (shaped_any A C x.l W hlen hsl)
 have HL := h_ hlist
 have HW := h_ hW
 clear hW hv hlist hsl
 obtain ⟨x4, _⟩ := HX.out W bR
 cases hq : shX x.l
 ·rw [hq] at HSh
  rw [crG_no hq]
  clear hq
  go_enter Tryz.func191, Tryz.ntmps191
  go_wp2_with fail
  rw [← HW.out]
  refine HSh.out.mono ?_
  rintro e w1 ⟨rfl, hb⟩
  have HB1 := h_ hb
  clear hb x4
  obtain ⟨x4, y0, y1, y2, y3⟩ := HX.out w1 HB1.out
  go_wp2_with fail
  have s2 := set2_cells y0 y1 (.int .u32 0) (.bool false)
  refine bodyPost_ret (v := .agg #[.int .u32 0, .bool false]) (by obtain ⟨s2, s3⟩ := s2; simp [results, Tryz.results191, go_sem, s2, s3]) rfl ⟨rfl, ?_⟩
  exact HB0.out.trans (((HB1.out.mono HB0.out.size).setCell (by simp) _).setCell (by simp) _)
 ·rw [hq] at HSh
  obtain ⟨y, z, hyz⟩ := shX_two hq
  rw [crG_yes hq hyz]
  rw [hyz] at HSh HX HL HW x4 hC hlen
  have hl2 : [y, z].length = 2 := rfl
  obtain ⟨g, o, rfl, hg, hL⟩ : ∃ g o, A = some ⟨g, o, none⟩ ∧ g < w.heap.size ∧ ItL w w.heap.size g o [y, z] := by
   rcases HL.out with h | h
   ·cases h
   ·exact h
  obtain ⟨_, _, _, _, hy0, _⟩ := hL.get (i := 0) (x := y) rfl (Below.refl _ w) hg
  obtain ⟨_, _, _, _, hz0, _⟩ := hL.get (i := 1) (x := z) rfl (Below.refl _ w) hg
  have uy := hy0.parts.1
  have uz := hz0.parts.1
  rw [hl2] at HX x4 hC
  have HSd : Hid (∀ w', Below W.heap.size W w' → (w'.cell? ⟨w.heap.size, 4, none⟩ = some (.slice (some ⟨g, o, none⟩) 2 C)) ∧ (w'.cell? ⟨g, o + 1, none⟩ = some (.int .u64 y.n) ∧ w'.cell? ⟨g, o + 5 + 1, none⟩ = some (.int .u64 z.n))) := fun w' h => by
   have hb := HB0.out.trans (h.mono HB0.out.size)
   obtain ⟨_, _, _, _, _, _, c1, _⟩ := hL.get (i := 0) (x := y) rfl hb hg
   obtain ⟨_, _, _, _, _, _, c6, _⟩ := hL.get (i := 1) (x := z) rfl hb hg
   exact ⟨(HX.out w' h).1, by simpa using c1, by simpa using c6⟩
  have HW2 : Hid (W = (w.alloc (.cells #[.int .i64 x.k, .int .u64 x.n, .slice a x.b.length c, .string ⟨x.s.toArray⟩, .slice (some ⟨g, o, none⟩) x.l.length C] 83)).alloc (.cells #[.int .u32 0, .bool false] 138)) := by rw [hyz]; exact HW.out
  have HSh2 : Hid (Calls Tryz.prog 192 #[.slice (some ⟨g, o, none⟩) 2 C] W fun e w' => e = .returned (.bool true) ∧ Below W.heap.size W w') := HSh.out
  have hu1 : (UInt32.ofNat y.n.toNat).toNat = y.n.toNat % 4294967296 := by simp
  have hwrap : IntKind.u32.wrap y.n = ((UInt32.ofNat y.n.toNat).toNat : Int) := by
   rw [hu1]
   have := uy.1
   simp [IntKind.wrap, IntKind.signed, IntKind.bits]
   omega
  have HL2 : x.l.length = 2 := by rw [hyz]; rfl
  have HYZ := h_ hl2
  have hz1 : ((z.n : Int) == 1) = (z.n == 1) := rfl
  clear hq HL HW HSh hyz hL hy0 hz0 hl2 hu1 hlen
  have hxl := h_ HL2
  go_enter Tryz.func191, Tryz.ntmps191
  rw [HL2]
  rw [HL2] at HW2
  clear HL2
  generalize (UInt32.ofNat y.n.toNat).toNat = gv at *
  generalize hbz : (z.n == 1) = bz at *
  have HBZ := h_ hbz
  go_wp2_with fail
  rw [← HW2.out]
  refine HSh2.out.mono ?_
  rintro e w1 ⟨rfl, hb⟩
  have HB1 := h_ hb
  clear hb x4
  have hS0 := HSd.out w1.drew (HB1.out.drew)
  obtain ⟨x4, y0, y1, y2, y3⟩ := HX.out w1 HB1.out
  have hrest : ∀ w', Below w1.heap.size w1 w' → (w'.cell? ⟨w.heap.size, 4, none⟩ = some (.slice (some ⟨g, o, none⟩) 2 C)) ∧ (w'.cell? ⟨g, o + 1, none⟩ = some (.int .u64 y.n) ∧ w'.cell? ⟨g, o + 5 + 1, none⟩ = some (.int .u64 z.n)) := fun w' h => HSd.out w' (below_on HB1.out h)
  have HRest := h_ hrest
  clear hrest
  go_wp2_with fail
  refine wp_region_T (fun w' => (w'.cell? ⟨w.heap.size, 4, none⟩ = some (.slice (some ⟨g, o, none⟩) 2 C)) ∧ (w'.cell? ⟨g, o + 1, none⟩ = some (.int .u64 y.n) ∧ w'.cell? ⟨g, o + 5 + 1, none⟩ = some (.int .u64 z.n))) 13 (by kernel_rfl) ?_
  refine wpAnyT_take (i := 0) (v := ?_) rfl (by kernel_rfl) (by kernel_rfl) (by kernel_rfl) (by kernel_rfl) (fun _ _ _ h => h) (Or.inl ⟨by rfl, ?_⟩) hS0 ?_
  rotate_left
  ·intro w hSw; (try dsimp only at hSw); go_simp; all_goals with_reducible rfl
  simp only [Act.put, zA, zB, zC]
  refine wpAnyT_take (i := 1) (v := ?_) rfl (by kernel_rfl) (by kernel_rfl) (by kernel_rfl) (by kernel_rfl) (fun _ _ _ h => h) (Or.inl ⟨by rfl, ?_⟩) hS0 ?_
  rotate_left
  ·intro w hSw; (try dsimp only at hSw); go_simp; all_goals with_reducible rfl
  simp only [Act.put, zA, zB, zC]
  refine wpAnyT_take (i := 2) (v := ?_) rfl (by kernel_rfl) (by kernel_rfl) (by kernel_rfl) (by kernel_rfl) (fun _ _ _ h => h) (Or.inl ⟨by rfl, ?_⟩) hS0 ?_
  rotate_left
  ·intro w hSw; (try dsimp only at hSw); go_simp; all_goals with_reducible rfl
  simp only [Act.put, zA, zB, zC]
  refine wpAnyT_take (i := 3) (v := ?_) rfl (by kernel_rfl) (by kernel_rfl) (by kernel_rfl) (by kernel_rfl) (fun _ _ _ h => h) (Or.inl ⟨by rfl, ?_⟩) hS0 ?_
  rotate_left
  ·intro w hSw; (try dsimp only at hSw); go_simp; all_goals with_reducible rfl
  simp only [Act.put, zA, zB, zC]
  refine wpAnyT_take (i := 4) (v := ?_) rfl (by kernel_rfl) (by kernel_rfl) (by kernel_rfl) (by kernel_rfl) (fun _ _ _ h => h) (Or.inl ⟨by rfl, ?_⟩) hS0 ?_
  rotate_left
  ·intro w hSw; (try dsimp only at hSw); go_simp; all_goals with_reducible rfl
  simp only [Act.put, zA, zB, zC]
  refine wpAnyT_take (i := 5) (v := ?_) rfl (by kernel_rfl) (by kernel_rfl) (by kernel_rfl) (by kernel_rfl) (fun _ _ _ h => h) (Or.inl ⟨by rfl, ?_⟩) hS0 ?_
  rotate_left
  ·intro w hSw; (try dsimp only at hSw); go_simp; all_goals with_reducible rfl
  simp only [Act.put, zA, zB, zC]
  refine wpAnyT_take (i := 6) (v := ?_) rfl (by kernel_rfl) (by kernel_rfl) (by kernel_rfl) (by kernel_rfl) (fun _ _ _ h => h) (Or.inl ⟨by rfl, ?_⟩) hS0 ?_
  rotate_left
  ·intro w hSw; (try dsimp only at hSw); go_simp; all_goals with_reducible rfl
  simp only [Act.put, zA, zB, zC]
  refine wpAnyT_take (i := 7) (v := ?_) rfl (by kernel_rfl) (by kernel_rfl) (by kernel_rfl) (by kernel_rfl) (fun _ _ _ h => h) (Or.inl ⟨by rfl, ?_⟩) hS0 ?_
  rotate_left
  ·intro w hSw; (try dsimp only at hSw); go_simp; all_goals with_reducible rfl
  simp only [Act.put, zA, zB, zC]
  refine wpAnyT_take (i := 8) (v := ?_) rfl (by kernel_rfl) (by kernel_rfl) (by kernel_rfl) (by kernel_rfl) (fun _ _ _ h => h) (Or.inl ⟨by rfl, ?_⟩) hS0 ?_
  rotate_left
  ·intro w hSw; (try dsimp only at hSw); go_simp; all_goals with_reducible rfl
  simp only [Act.put, zA, zB, zC]
  refine wpAnyT_take (i := 9) (v := ?_) rfl (by kernel_rfl) (by kernel_rfl) (by kernel_rfl) (by kernel_rfl) (fun _ _ _ h => h) (Or.inl ⟨by rfl, ?_⟩) hS0 ?_
  rotate_left
  ·intro w hSw; (try dsimp only at hSw); go_simp; all_goals with_reducible rfl
  simp only [Act.put, zA, zB, zC]
  refine wpAnyT_take (i := 10) (v := ?_) rfl (by kernel_rfl) (by kernel_rfl) (by kernel_rfl) (by kernel_rfl) (fun _ _ _ h => h) (Or.inl ⟨by rfl, ?_⟩) hS0 ?_
  rotate_left
  ·intro w hSw; (try dsimp only at hSw); go_simp; all_goals with_reducible rfl
  simp only [Act.put, zA, zB, zC]
  refine wpAnyT_take (i := 11) (v := ?_) rfl (by kernel_rfl) (by kernel_rfl) (by kernel_rfl) (by kernel_rfl) (fun _ _ _ h => h) (Or.inl ⟨by rfl, ?_⟩) hS0 ?_
  rotate_left
  ·intro w hSw; (try dsimp only at hSw); go_simp; all_goals with_reducible rfl
  simp only [Act.put, zA, zB, zC]
  refine wpAnyT_take (i := 12) (v := ?_) rfl (by kernel_rfl) (by kernel_rfl) (by kernel_rfl) (by kernel_rfl) (fun _ _ _ h => h) (Or.inl ⟨by rfl, ?_⟩) hS0 ?_
  rotate_left
  ·intro w hSw; (try dsimp only at hSw); go_simp; all_goals with_reducible rfl
  simp only [Act.put, zA, zB, zC]
  refine wpAnyT_one (i := 13) (by kernel_rfl) rfl (fun K hK => ?_)
  go_simp
  refine hK.out _ _ (fun h => absurd h (by decide)) ?_
  clear hK K
  try simp only [Act.put, zA, zB, zC]
  refine wpAnyT_done (by kernel_rfl) ?_ _
  have s2 := set2_cells y0 y1 (.int .u32 gv) (.bool bz)
  clear hS0 x4 y0 y1 y2 y3
  go_wp2_with fail
  refine bodyPost_ret (v := .agg #[.int .u32 gv, .bool bz]) (by obtain ⟨s2, s3⟩ := s2; simp [results, Tryz.results191, go_sem, s2, s3]) rfl ⟨rfl, ?_⟩
  exact (HB0.out.trans (((HB1.out.mono HB0.out.size).setCell (by simp) _).setCell (by simp) _)).drew

theorem rd_new (w : World) (x : Cr) : RdX (w.alloc (.cells #[.int .u32 x.1.toNat, .bool x.2] 138)) (w.alloc (.cells #[.int .u32 x.1.toNat, .bool x.2] 138)).heap.size (some ⟨w.heap.size, 0, none⟩) [x] := by
 refine .inr ⟨w.heap.size, 0, rfl, by simp, fun j hj => ?_⟩
 obtain rfl : j = 0 := by simp at hj; omega
 exact ⟨(box_at bR 0), (box_at bR 1)⟩

theorem cut_l5 (a : Option Addr) (n cap l : Nat) (h1 : l ≤ n) (w : World) :
  (Instr.slice 71 (.slice a n cap) (some (.int .i64 (l : Int))) none none).run Tryz.prog w = .ok (.slice (if cap = l then a else a.map (·.add (l * 5))) (n - l) (cap - l)) w := by
 have ht' : Tryz.prog.underlying 71 = some (.slice (Tryz.prog.elem 71)) := by simp [Program.elem, Tryz.underlying71]
 have he : Tryz.prog.elem 71 = 83 := by simp [Program.elem, Tryz.underlying71]
 rw [run_slice_l w 71 a n cap ht' .i64 l (by omega) (by omega), he, size_item]
 simp [Result.andThen, sliced]

theorem take_get (l : List It) (k : Nat) (hk : k < l.length) : l.take (k + 1) = l.take k ++ [l[k]] := List.take_succ_eq_append_getElem hk

theorem ownX_alloc {w : World} {B n : Nat} {v : Value} {xs : List Value} (h : w.ownsRow B 138 2 v n xs) {w' : World} (hb : Below w.heap.size w w') : w'.ownsRow B 138 2 v n xs := by
 obtain ⟨h1, h2⟩ := h
 refine ⟨h1, h2.imp id ?_⟩
 rintro ⟨g, cap, cur, hv, hg0, hg, r⟩
 exact ⟨g, cap, cur, hv, hg0, (hb.block g (Array.getElem?_eq_some_iff.1 hg).1).trans hg, r⟩

theorem listedI_any (A : Option Addr) (C : Nat) (l : List It) (w : World) (hlen : l.length ≤ 1000) (hl : ItSl w A l) :
  Calls Tryz.prog 190 #[.slice A l.length C, .func (.func 191) #[] #[]] w fun e w' => ∃ v, e = .returned v ∧ w'.ownsRow w.heap.size 138 2 v (l.map crG).length (flatX (l.map crG)) ∧ Below w.heap.size w w' := by
 have HL := h_ hl
 have HF := h_ (fun x v w hv => guess1_any x v w hv)
 clear hl
 go_enter Tryz.func190, Tryz.ntmps190
 go_wp2_with fail
 go_loopw [5, 10] (fun v i wr => ∃ k : Nat, k ≤ l.length ∧ i = .int .i64 k ∧ Hid (wr.ownsRow w.heap.size 138 2 v ((l.take k).map crG).length (flatX ((l.take k).map crG)) ∧ Below w.heap.size w wr)) (fun _ i _ => l.length - (intOf i).toNat)
 case atStart => exact ⟨0, Nat.zero_le _, rfl, World.ownsRow_nil _ _ _ _, Below.refl _ _⟩
 case round =>
  obtain ⟨k, hk, rfl, HI⟩ := hrel
  by_cases hlt : k < l.length
  ·obtain ⟨g, o, rfl, hg, hL⟩ : ∃ g o, A = some ⟨g, o, none⟩ ∧ g < w.heap.size ∧ ItL w w.heap.size g o l := by
     rcases HL.out with rfl | h
     ·simp at hlt
     ·exact h
   have hBw := HI.out.2
   obtain ⟨p1, p2, p3, p4, hv5, e0, e1, e2, e3, e4⟩ := hL.get (List.getElem?_eq_getElem hlt) hBw hg
   have HV := h_ (ItV.mono hBw.size _ hv5)
   have HE : Hid ((l.take (k + 1)).map crG = (l.take k).map crG ++ [crG l[k]]) := by
    rw [Hid, take_get l k hlt, List.map_append]
    rfl
   have hzl : ((l.take k).map crG).length ≤ 1000 := by simp; omega
   clear hL hv5 hBw
   generalize l[k] = x at *
   obtain ⟨zs, hzs⟩ : ∃ zs, zs = (l.take k).map crG := ⟨_, rfl⟩
   rw [← hzs] at HI HE hzl
   clear hzs
   go_wp2_with fail
   refine (HF.out x _ _ (HV.out.on (below_al bR _))).mono ?_
   rintro e w1 ⟨rfl, hb1⟩
   have hbw : Below wr.heap.size wr w1 := below_on (below_al bR _) hb1
   generalize crG x = cx at *
   have hbw2 : Below wr.heap.size wr (w1.alloc (.cells #[.int .u32 cx.1.toNat, .bool cx.2] 138)) := below_al hbw _
   obtain ⟨v', w2, hrun, hown, hgr⟩ := appX (w1.alloc (.cells #[.int .u32 cx.1.toNat, .bool cx.2] 138)) w.heap.size _ zs (ownX_alloc HI.out.1 hbw2) (by have := HI.out.2.size; have := hbw2.size; omega) (some ⟨w1.heap.size, 0, none⟩) 1 _ [cx] (rd_new w1 cx) (by simp; omega)
   have HRun := h_ hrun
   have HN : Hid (w2.ownsRow w.heap.size 138 2 v' (zs ++ [cx]).length (flatX (zs ++ [cx])) ∧ Below w.heap.size w w2) :=
    ⟨hown, (HI.out.2.trans (hbw2.mono HI.out.2.size)).grown hgr (by have := HI.out.2.size; have := hbw2.size; omega) (fun r e => ((World.ownsRow.lt HI.out.1) r e).1)⟩
   clear hrun hown hgr hbw hbw2 hb1 e0 e1 e2 e3 e4
   go_wp2_with (at_builtin; refine wpList_run (by rfl) _ _ _ _ (by rfl) _ _ _ _ (by rfl) (by rfl) HRun.out ?_)
   go_roundw
   case rel => exact ⟨k + 1, by omega, by go_num, by rw [Hid, HE.out]; exact HN.out⟩
   case measure => simp [intOf]; omega
  ·obtain rfl : k = l.length := by omega
   have h := HI.out
   rw [List.take_length] at h
   have HI2 := h_ h
   clear h HI
   go_wp2_with fail
   go_ret
   exact ⟨_, rfl, HI2.out⟩

def guP (x : It) : Bool × List Cr := if x.l.length = 0 ∨ 65 < x.l.length then (false, []) else ((match x.l with | y :: _ => y.n == 1 | [] => false), (x.l.drop 1).map crG)

def NewX (w w' : World) (A : Option Addr) (zs : List Cr) : Prop := zs = [] ∨ ∃ g, A = some ⟨g, 0, none⟩ ∧ w.heap.size ≤ g ∧ g < w'.heap.size ∧ RowX w' g zs

theorem NewX.rd {w w' : World} {A : Option Addr} {zs : List Cr} (h : NewX w w' A zs) : RdX w' w'.heap.size A zs := by
 rcases h with h | ⟨g, rfl, _, h2, h3⟩
 ·exact .inl h
 ·exact h3.rd h2

theorem NewX.on {w w' w'' : World} {A : Option Addr} {zs : List Cr} (h : NewX w w' A zs) (hb : Below w'.heap.size w' w'') : NewX w w'' A zs := by
 rcases h with h | ⟨g, rfl, h1, h2, h3⟩
 ·exact .inl h
 ·exact .inr ⟨g, rfl, h1, Nat.lt_of_lt_of_le h2 hb.size, h3.kept (hb.block g h2)⟩

theorem NewX.set {w w' : World} {A : Option Addr} {zs : List Cr} (h : NewX w w' A zs) {b i : Nat} (hb : b < w.heap.size) (u : Value) : NewX w (w'.setCell ⟨b, i, none⟩ u) A zs := by
 rcases h with h | ⟨g, rfl, h1, h2, h3⟩
 ·exact .inl h
 ·exact .inr ⟨g, rfl, h1, by rw [World.size_setCell]; exact h2, h3.kept (Below.heap_setCell _ _ _ _ (by show g ≠ b; omega))⟩

theorem NewX.low {w0 w w' : World} {A : Option Addr} {zs : List Cr} (h : NewX w w' A zs) (hs : w0.heap.size ≤ w.heap.size) : NewX w0 w' A zs := by
 rcases h with h | ⟨g, rfl, h1, h2, h3⟩
 ·exact .inl h
 ·exact .inr ⟨g, rfl, Nat.le_trans hs h1, h2, h3⟩

def GuP (w : World) (x : It) (e : Ending) (w' : World) : Prop :=
 Below w.heap.size w w' ∧ ∃ A C, e = .returned (.agg #[.bool (guP x).1, .slice A (guP x).2.length C]) ∧ (guP x).2.length ≤ C ∧ (guP x).2.length ≤ 64 ∧ NewX w w' A (guP x).2

theorem guessed_any (x : It) (v : Value) (w : World) (hv : ItV w w.heap.size v x) : Calls Tryz.prog 173 #[v] w (GuP w x) := by
 obtain ⟨a, c, A, C, rfl⟩ := hv.form
 obtain ⟨W, hW⟩ : ∃ W, W = (w.alloc (.cells #[.int .i64 x.k, .int .u64 x.n, .slice a x.b.length c, .string ⟨x.s.toArray⟩, .slice A x.l.length C] 83)).alloc (.cells #[.bool false, .slice none 0 0] 174) := ⟨_, rfl⟩
 have HB0 : Hid (Below w.heap.size w W) := by rw [hW]; exact below_al (below_al bR _) _
 have HX : Hid (∀ w', Below W.heap.size W w' → w'.cell? ⟨w.heap.size, 4, none⟩ = some (.slice A x.l.length C) ∧ (w'.cell? ⟨w.heap.size + 1, 0, none⟩ = some (.bool false) ∧ w'.cell? ⟨w.heap.size + 1, 1, none⟩ = some (.slice none 0 0) ∧ w'.frozen? ⟨w.heap.size + 1, 0, none⟩ = false ∧ w'.frozen? ⟨w.heap.size + 1, 1, none⟩ = false)) := fun w' h => by
  rw [hW] at h
  have h1 := below_on (below_al (Below.refl _ (w.alloc (.cells #[.int .i64 x.k, .int .u64 x.n, .slice a x.b.length c, .string ⟨x.s.toArray⟩, .slice A x.l.length C] 83))) (.cells #[.bool false, .slice none 0 0] 174)) h
  have q0 := box_at h1 4
  have q1 := box_at h 0
  have q2 := box_at h 1
  have f1 := frozen_at h 0
  have f2 := frozen_at h 1
  rw [World.size_alloc] at q1 q2 f1 f2
  exact ⟨q0, q1, q2, f1, f2⟩
 obtain ⟨hC, hlist⟩ := hv.listP
 obtain ⟨_, hlen⟩ := hv.parts
 have hWs : W.heap.size = w.heap.size + 1 + 1 := by rw [hW]; simp
 have HL := h_ hlist
 have HW := h_ hW
 have HWs := h_ hWs
 clear hW hv hlist hWs
 obtain ⟨x4, y0, y1, y2, y3⟩ := HX.out W bR
 by_cases h0 : x.l.length = 0
 ·have HG : Hid (guP x = (false, [])) := by rw [Hid, guP, if_pos (.inl h0)]
  unfold GuP
  rw [HG.out]
  have e0 : ((x.l.length : Int) == 0) = true := by rw [h0]; rfl
  clear h0
  go_enter Tryz.func173, Tryz.ntmps173
  go_wp2_with fail
  exact bodyPost_ret (v := .agg #[.bool false, .slice none 0 0]) (by simp [results, Tryz.results173, go_sem]) rfl ⟨below_al (below_al bR _) _, none, 0, rfl, Nat.le_refl _, Nat.zero_le _, .inl rfl⟩
 have e0 : ((x.l.length : Int) == 0) = false := by
  have : ¬ ((x.l.length : Nat) : Int) = 0 := by omega
  simpa using this
 by_cases h65 : 65 < x.l.length
 ·have HG : Hid (guP x = (false, [])) := by rw [Hid, guP, if_pos (.inr h65)]
  unfold GuP
  rw [HG.out]
  clear h0
  go_enter Tryz.func173, Tryz.ntmps173
  go_wp2_with fail
  exact bodyPost_ret (v := .agg #[.bool false, .slice none 0 0]) (by simp [results, Tryz.results173, go_sem]) rfl ⟨below_al (below_al bR _) _, none, 0, rfl, Nat.le_refl _, Nat.zero_le _, .inl rfl⟩
 ·obtain ⟨y, l, hyl⟩ : ∃ y l, x.l = y :: l := by
    cases h : x.l with
    | nil => rw [h] at h0; exact absurd rfl h0
    | cons y l => exact ⟨y, l, rfl⟩
  have HG : Hid (guP x = (y.n == 1, l.map crG)) := by
   rw [Hid, guP, if_neg (by omega), hyl]
   rfl
  have hn : x.l.length = l.length + 1 := by rw [hyl]; rfl
  obtain ⟨g, o, rfl, hg, hL⟩ : ∃ g o, A = some ⟨g, o, none⟩ ∧ g < w.heap.size ∧ ItL w w.heap.size g o x.l := by
   rcases HL.out with h | h
   ·rw [h] at h0; exact absurd rfl h0
   ·exact h
  have HSd : Hid (∀ w', Below W.heap.size W w' → w'.cell? ⟨w.heap.size, 4, none⟩ = some (.slice (some ⟨g, o, none⟩) x.l.length C) ∧ w'.cell? ⟨g, o + 1, none⟩ = some (.int .u64 y.n)) := fun w' h => by
   have hb := HB0.out.trans (h.mono HB0.out.size)
   obtain ⟨_, _, _, _, _, _, c1, _⟩ := hL.get (i := 0) (x := y) (by rw [hyl]; rfl) hb hg
   exact ⟨(HX.out w' h).1, by simpa using c1⟩
  obtain ⟨A1, hA1, hsl1⟩ : ∃ A1, (∀ w : World, (Instr.slice 71 (.slice (some ⟨g, o, none⟩) x.l.length C) (some (.int .i64 1)) none none).run Tryz.prog w = .ok (.slice A1 l.length (C - 1)) w) ∧ ItSl W A1 l := by
   refine ⟨if C = 1 then some ⟨g, o, none⟩ else some ⟨g, o + 5, none⟩, fun w => ?_, ?_⟩
   ·have h := cut_l5 (some ⟨g, o, none⟩) x.l.length C 1 (by omega) w
    rw [show (((1 : Nat) : Int)) = 1 from rfl] at h
    rw [h, hn, Nat.add_sub_cancel]
    split <;> simp [mk_addr_add]
   ·by_cases hl0 : l = []
    ·exact .inl hl0
    ·have : l.length ≠ 0 := fun h => hl0 (List.eq_nil_of_length_eq_zero h)
     refine .inr ⟨g, o + 5, by rw [if_neg (by omega)], Nat.lt_of_lt_of_le hg HB0.out.size, ?_⟩
     have h2 := ItL.mono HB0.out.size _ (ItL.below HB0.out hg _ hL)
     rw [hyl] at h2
     simp only [ItL] at h2
     exact h2.2
  have HLi := h_ (listedI_any A1 (C - 1) l W (by omega) hsl1)
  unfold GuP
  rw [HG.out]
  have hl64 : l.length ≤ 64 := by omega
  generalize hbz : (y.n == 1) = bz at *
  have HBZ := h_ hbz
  have HLen := h_ hn
  have hlo : 1 ≤ x.l.length := by omega
  have hlo2 : ¬ 65 < x.l.length := h65
  clear hL hyl hsl1 h0 hn hl64
  go_enter Tryz.func173, Tryz.ntmps173
  go_wp2_with fail
  rw [← HW.out]
  refine HLi.out.mono ?_
  rintro e w1 ⟨v1, rfl, hown, hb⟩
  have HB1 := h_ hb
  have hform := ownX_form hown
  obtain ⟨A2, C2, rfl, hC2, hrd⟩ : ∃ A2 C2, v1 = .slice A2 (l.map crG).length C2 ∧ (l.map crG).length ≤ C2 ∧ (l.map crG = [] ∨ ∃ g2, A2 = some ⟨g2, 0, none⟩ ∧ W.heap.size ≤ g2 ∧ g2 < w1.heap.size ∧ RowX w1 g2 (l.map crG)) := by
   rcases hform with ⟨rfl, h⟩ | ⟨g2, C2, rfl, h2, h3, h4, h5⟩
   ·rw [h]
    exact ⟨none, 0, rfl, Nat.le_refl _, .inl rfl⟩
   ·exact ⟨_, _, rfl, h2, .inr ⟨g2, rfl, h3, h4, h5⟩⟩
  have HRd := h_ hrd
  clear hb hown hform hrd x4 y0 y1 y2 y3
  obtain ⟨x4, y0, y1, y2, y3⟩ := HX.out w1 HB1.out
  obtain ⟨x4', z1⟩ := HSd.out w1 HB1.out
  have hml : (l.map crG).length = l.length := by simp
  have HML := h_ hml
  clear x4' hA1
  go_wp2_with fail
  have s2 := set2_cells y0 y1 (.bool bz) (.slice A2 (l.map crG).length C2)
  rw [HML.out] at s2 hC2
  refine bodyPost_ret (v := .agg #[.bool bz, .slice A2 l.length C2]) (by obtain ⟨s2, s3⟩ := s2; simp [results, Tryz.results173, go_sem, s2, s3]) rfl ⟨?_, A2, C2, ?_, ?_, ?_, ?_⟩
  ·exact HB0.out.trans (((HB1.out.mono HB0.out.size).setCell (by simp) _).setCell (by simp) _)
  ·simp
  ·simpa using hC2
  ·have := HLen.out
   simp
   omega
  ·have hn : NewX W w1 A2 (l.map crG) := HRd.out
   have hw : w.heap.size + 1 < W.heap.size := by have := HWs.out; omega
   exact ((hn.set hw _).set hw _).low HB0.out.size

def isP (x : It) : Bool := rightX (guP x).2 && (itP (guP x).1 (guP x).2).same x

def OfN (w : World) (x : It) (e : Ending) (w' : World) : Prop :=
 Below w.heap.size w w' ∧ ((isP x = true ∧ ∃ A C, e = .returned (.tuple #[.agg #[.bool (guP x).1, .slice A (guP x).2.length C], .int .i64 0]) ∧ (guP x).2.length ≤ C ∧ NewX w w' A (guP x).2) ∨
  (isP x = false ∧ e = .returned (.tuple #[.agg #[.bool false, .slice none 0 0], .int .i64 152])))

theorem depthL_map : ∀ xs : List Cr, It.depth.depthL (xs.map itX) ≤ 2
 | [] => by simp [It.depth.depthL]
 | x :: xs => by
  have := depthL_map xs
  simp only [List.map_cons, It.depth.depthL, itX, itLs, itU, itB, It.depth]
  omega

theorem itP_depth (bk : Bool) (xs : List Cr) : (itP bk xs).depth ≤ 60000 := by
 have := depthL_map xs
 simp only [itP, itLs, It.depth, It.depth.depthL, itB]
 omega

theorem pofN_any (x : It) (v : Value) (w : World) (hv : ItV w w.heap.size v x) : Calls Tryz.prog 152 #[v] w (OfN w x) := by
 obtain ⟨a, c, A, C, rfl⟩ := hv.form
 obtain ⟨W, hW⟩ : ∃ W, W = (w.alloc (.cells #[.int .i64 x.k, .int .u64 x.n, .slice a x.b.length c, .string ⟨x.s.toArray⟩, .slice A x.l.length C] 83)).alloc (.cells #[.bool false, .slice none 0 0] 44) := ⟨_, rfl⟩
 have HB0 : Hid (Below w.heap.size w W) := by rw [hW]; exact below_al (below_al bR _) _
 have HX : Hid (∀ w', Below W.heap.size W w' → (w'.cell? ⟨w.heap.size, 0, none⟩ = some (.int .i64 x.k) ∧ w'.cell? ⟨w.heap.size, 1, none⟩ = some (.int .u64 x.n) ∧ w'.cell? ⟨w.heap.size, 2, none⟩ = some (.slice a x.b.length c) ∧ w'.cell? ⟨w.heap.size, 3, none⟩ = some (.string ⟨x.s.toArray⟩) ∧ w'.cell? ⟨w.heap.size, 4, none⟩ = some (.slice A x.l.length C)) ∧ (w'.cell? ⟨w.heap.size + 1, 0, none⟩ = some (.bool false) ∧ w'.cell? ⟨w.heap.size + 1, 1, none⟩ = some (.slice none 0 0) ∧ w'.frozen? ⟨w.heap.size + 1, 0, none⟩ = false ∧ w'.frozen? ⟨w.heap.size + 1, 1, none⟩ = false)) := fun w' h => by
  rw [hW] at h
  have h1 := below_on (below_al (Below.refl _ (w.alloc (.cells #[.int .i64 x.k, .int .u64 x.n, .slice a x.b.length c, .string ⟨x.s.toArray⟩, .slice A x.l.length C] 83))) (.cells #[.bool false, .slice none 0 0] 44)) h
  have q1 := box_at h 0
  have q2 := box_at h 1
  have f1 := frozen_at h 0
  have f2 := frozen_at h 1
  rw [World.size_alloc] at q1 q2 f1 f2
  exact ⟨⟨box_at h1 0, box_at h1 1, box_at h1 2, box_at h1 3, box_at h1 4⟩, q1, q2, f1, f2⟩
 have HV : Hid (∀ w', Below W.heap.size W w' → ItV w' w'.heap.size (.agg #[.int .i64 x.k, .int .u64 x.n, .slice a x.b.length c, .string ⟨x.s.toArray⟩, .slice A x.l.length C]) x) := fun w' h => (hv.on HB0.out).on h
 have HGu := h_ (guessed_any x _ W (hv.on HB0.out))
 have hWs : W.heap.size = w.heap.size + 1 + 1 := by rw [hW]; simp
 have HW := h_ hW
 have HWs := h_ hWs
 clear hW hv hWs
 obtain ⟨⟨x0, x1, x2, x3, x4⟩, y0, y1, y2, y3⟩ := HX.out W bR
 go_enter Tryz.func152, Tryz.ntmps152
 go_wp2_with fail
 refine wp_scope_on 0 rfl ?_
 go_wp2_with fail
 rw [← HW.out]
 refine HGu.out.mono ?_
 rintro e w1 ⟨hb, A2, C2, rfl, hC2, h64, hrd⟩
 have HI : Hid (isP x = (rightX (guP x).2 && (itP (guP x).1 (guP x).2).same x)) := rfl
 obtain ⟨gb, hgb⟩ : ∃ gb, gb = (guP x).1 := ⟨_, rfl⟩
 obtain ⟨gl, hgl⟩ : ∃ gl, gl = (guP x).2 := ⟨_, rfl⟩
 rw [← hgb, ← hgl] at HI
 rw [← hgl] at hC2 h64 hrd
 rw [← hgb, ← hgl]
 have HGB := h_ hgb
 have HGL := h_ hgl
 clear hgb hgl
 obtain ⟨W2, hW2⟩ : ∃ W, W = w1.alloc (.cells #[.bool gb, .slice A2 gl.length C2] 174) := ⟨_, rfl⟩
 have HB2 : Hid (Below W.heap.size W W2) := by rw [hW2]; exact below_al hb _
 have HSd : Hid (∀ w', Below W2.heap.size W2 w' → (w'.cell? ⟨w.heap.size, 0, none⟩ = some (.int .i64 x.k) ∧ w'.cell? ⟨w.heap.size, 1, none⟩ = some (.int .u64 x.n) ∧ w'.cell? ⟨w.heap.size, 2, none⟩ = some (.slice a x.b.length c) ∧ w'.cell? ⟨w.heap.size, 3, none⟩ = some (.string ⟨x.s.toArray⟩) ∧ w'.cell? ⟨w.heap.size, 4, none⟩ = some (.slice A x.l.length C)) ∧ (w'.cell? ⟨w1.heap.size, 0, none⟩ = some (.bool gb) ∧ w'.cell? ⟨w1.heap.size, 1, none⟩ = some (.slice A2 gl.length C2))) := fun w' h => by
  refine ⟨(HX.out w' (below_on HB2.out h)).1, ?_⟩
  rw [hW2] at h
  exact ptBox2_all h
 have HNw : Hid (∀ w', Below W2.heap.size W2 w' → NewX W w' A2 gl) := fun w' h => by
  rw [hW2] at h
  exact hrd.on (below_on (below_al bR _) h)
 have HRd : Hid (∀ w', Below W2.heap.size W2 w' → RdX w' w'.heap.size A2 gl) := fun w' h => (HNw.out w' h).rd
 have HCk : Hid (∀ w', Below W2.heap.size W2 w' → Calls Tryz.prog 109 #[.agg #[.bool gb, .slice A2 gl.length C2]] w' fun e w'' => e = .returned (.int .i64 (chX gl)) ∧ Below w'.heap.size w' w'') := fun w' h => pcheck_any gb A2 C2 gl w' (by omega) (HRd.out w' h)
 have HIt : Hid (∀ w', Below W2.heap.size W2 w' → Calls Tryz.prog 110 #[.agg #[.bool gb, .slice A2 gl.length C2]] w' (NewP w' (itP gb gl))) := fun w' h => pitem_any gb A2 C2 gl w' (by omega) (HRd.out w' h)
 have HC : Hid (chX gl = if rightX gl = true then 0 else 2) := rfl
 have hs1 : W.heap.size ≤ w1.heap.size := hb.size
 have hs2 : W2.heap.size = w1.heap.size + 1 := by rw [hW2]; simp
 have HS1 := h_ (⟨hs1, hs2⟩ : _ ∧ _)
 have HW2 := h_ hW2
 have HL2 := h_ hC2
 clear hb hC2 h64 hrd hW2 hs1 hs2 x0 x1 x2 x3 x4 y0 y1 y2 y3
 obtain ⟨sameB, hsb⟩ : ∃ q, q = (itP gb gl).same x := ⟨_, rfl⟩
 rw [← hsb] at HI
 have HSB := h_ hsb
 clear hsb
 have hS0 := HSd.out W2.drew bR.drew
 cases hq : rightX gl
 ·rw [hq, Bool.false_and] at HI
  rw [hq, if_neg (by decide)] at HC
  rw [HC.out] at HCk
  clear hq HC
  go_wp2_with fail
  rw [← HW2.out]
  refine wp_region_T (fun w' => (w'.cell? ⟨w.heap.size, 0, none⟩ = some (.int .i64 x.k) ∧ w'.cell? ⟨w.heap.size, 1, none⟩ = some (.int .u64 x.n) ∧ w'.cell? ⟨w.heap.size, 2, none⟩ = some (.slice a x.b.length c) ∧ w'.cell? ⟨w.heap.size, 3, none⟩ = some (.string ⟨x.s.toArray⟩) ∧ w'.cell? ⟨w.heap.size, 4, none⟩ = some (.slice A x.l.length C)) ∧ (w'.cell? ⟨w1.heap.size, 0, none⟩ = some (.bool gb) ∧ w'.cell? ⟨w1.heap.size, 1, none⟩ = some (.slice A2 gl.length C2))) 11 (by kernel_rfl) ?_
  refine wpAnyT_take (i := 0) (v := ?_) rfl (by kernel_rfl) (by kernel_rfl) (by kernel_rfl) (by kernel_rfl) (fun _ _ _ h => h) (Or.inl ⟨by rfl, ?_⟩) hS0 ?_
  rotate_left
  ·intro w hSw; (try dsimp only at hSw); go_simp; all_goals with_reducible rfl
  simp only [Act.put, zA, zB, zC]
  refine wpAnyT_take (i := 1) (v := ?_) rfl (by kernel_rfl) (by kernel_rfl) (by kernel_rfl) (by kernel_rfl) (fun _ _ _ h => h) (Or.inl ⟨by rfl, ?_⟩) hS0 ?_
  rotate_left
  ·intro w hSw; (try dsimp only at hSw); go_simp; all_goals with_reducible rfl
  simp only [Act.put, zA, zB, zC]
  refine wpAnyT_one (i := 2) (by kernel_rfl) rfl (fun K hK => ?_)
  go_simp
  refine (HCk.out _ bR.drew).mono ?_
  rintro e w3 ⟨rfl, hb3⟩
  have HB3 := h_ (below_on (Below.refl W2.heap.size W2).drew hb3)
  refine hK.out _ _ (fun _ => HSd.out _ HB3.out) ?_
  clear hK K
  try simp only [Act.put, zA, zB, zC]
  have hS1 := HSd.out w3 HB3.out
  clear hb3 hS0
  refine wpAnyT_take (i := 3) (v := ?_) rfl (by kernel_rfl) (by kernel_rfl) (by kernel_rfl) (by kernel_rfl) (fun _ _ _ h => h) (Or.inl ⟨by rfl, ?_⟩) hS1 ?_
  rotate_left
  ·intro w hSw; (try dsimp only at hSw); go_simp; all_goals with_reducible rfl
  simp only [Act.put, zA, zB, zC]
  refine wpAnyT_take (i := 4) (v := ?_) rfl (by kernel_rfl) (by kernel_rfl) (by kernel_rfl) (by kernel_rfl) (fun _ _ _ h => h) (Or.inl ⟨by rfl, ?_⟩) hS1 ?_
  rotate_left
  ·intro w hSw; (try dsimp only at hSw); go_simp; all_goals with_reducible rfl
  simp only [Act.put, zA, zB, zC]
  refine wpAnyT_take (i := 5) (v := undef) rfl (by kernel_rfl) (by kernel_rfl) (by kernel_rfl) (by kernel_rfl) (fun _ _ _ h => h) (Or.inr ⟨by rfl, rfl⟩) hS1 ?_
  simp only [Act.put, zA, zB, zC]
  refine wpAnyT_take (i := 6) (v := undef) rfl (by kernel_rfl) (by kernel_rfl) (by kernel_rfl) (by kernel_rfl) (fun _ _ _ h => h) (Or.inr ⟨by rfl, rfl⟩) hS1 ?_
  simp only [Act.put, zA, zB, zC]
  refine wpAnyT_take (i := 7) (v := undef) rfl (by kernel_rfl) (by kernel_rfl) (by kernel_rfl) (by kernel_rfl) (fun _ _ _ h => h) (Or.inr ⟨by rfl, rfl⟩) hS1 ?_
  simp only [Act.put, zA, zB, zC]
  refine wpAnyT_take (i := 8) (v := undef) rfl (by kernel_rfl) (by kernel_rfl) (by kernel_rfl) (by kernel_rfl) (fun _ _ _ h => h) (Or.inr ⟨by rfl, rfl⟩) hS1 ?_
  simp only [Act.put, zA, zB, zC]
  refine wpAnyT_take (i := 9) (v := undef) rfl (by kernel_rfl) (by kernel_rfl) (by kernel_rfl) (by kernel_rfl) (fun _ _ _ h => h) (Or.inr ⟨by rfl, rfl⟩) hS1 ?_
  simp only [Act.put, zA, zB, zC]
  refine wpAnyT_take (i := 10) (v := ?_) rfl (by kernel_rfl) (by kernel_rfl) (by kernel_rfl) (by kernel_rfl) (fun _ _ _ h => h) (Or.inl ⟨by rfl, ?_⟩) hS1 ?_
  rotate_left
  ·intro w hSw; (try dsimp only at hSw); go_simp; all_goals with_reducible rfl
  simp only [Act.put, zA, zB, zC]
  refine wpAnyT_done (by kernel_rfl) ?_ _
  obtain ⟨_, y0, y1, y2, y3⟩ := HX.out w3 (below_on HB2.out HB3.out)
  clear hS1
  go_wp2_with fail
  go_step3
  refine ⟨rfl, ?_⟩
  show Code.wp _ _ _ _ _
  go_wp2_with fail
  rw [Exit.noGoto_ret]
  have s2 := set2_cells y0 y1 (.bool false) (.slice none 0 0)
  refine bodyPost_ret (v := .tuple #[.agg #[.bool false, .slice none 0 0], .int .i64 152]) (by obtain ⟨s2, s3⟩ := s2; simp [results, Tryz.results152, go_sem, s2, s3]) rfl ⟨?_, .inr ⟨HI.out, rfl⟩⟩
  exact HB0.out.trans ((((below_on HB2.out HB3.out).mono HB0.out.size).setCell (by simp) _).setCell (by simp) _)
 ·rw [hq, Bool.true_and] at HI
  rw [hq, if_pos rfl] at HC
  rw [HC.out] at HCk
  clear hq HC
  go_wp2_with fail
  rw [← HW2.out]
  refine wp_region_T (fun w' => (w'.cell? ⟨w.heap.size, 0, none⟩ = some (.int .i64 x.k) ∧ w'.cell? ⟨w.heap.size, 1, none⟩ = some (.int .u64 x.n) ∧ w'.cell? ⟨w.heap.size, 2, none⟩ = some (.slice a x.b.length c) ∧ w'.cell? ⟨w.heap.size, 3, none⟩ = some (.string ⟨x.s.toArray⟩) ∧ w'.cell? ⟨w.heap.size, 4, none⟩ = some (.slice A x.l.length C)) ∧ (w'.cell? ⟨w1.heap.size, 0, none⟩ = some (.bool gb) ∧ w'.cell? ⟨w1.heap.size, 1, none⟩ = some (.slice A2 gl.length C2))) 11 (by kernel_rfl) ?_
  refine wpAnyT_take (i := 0) (v := ?_) rfl (by kernel_rfl) (by kernel_rfl) (by kernel_rfl) (by kernel_rfl) (fun _ _ _ h => h) (Or.inl ⟨by rfl, ?_⟩) hS0 ?_
  rotate_left
  ·intro w hSw; (try dsimp only at hSw); go_simp; all_goals with_reducible rfl
  simp only [Act.put, zA, zB, zC]
  refine wpAnyT_take (i := 1) (v := ?_) rfl (by kernel_rfl) (by kernel_rfl) (by kernel_rfl) (by kernel_rfl) (fun _ _ _ h => h) (Or.inl ⟨by rfl, ?_⟩) hS0 ?_
  rotate_left
  ·intro w hSw; (try dsimp only at hSw); go_simp; all_goals with_reducible rfl
  simp only [Act.put, zA, zB, zC]
  refine wpAnyT_one (i := 2) (by kernel_rfl) rfl (fun K hK => ?_)
  go_simp
  refine (HCk.out _ bR.drew).mono ?_
  rintro e w3 ⟨rfl, hb3⟩
  have HB3 := h_ (below_on (Below.refl W2.heap.size W2).drew hb3)
  refine hK.out _ _ (fun _ => HSd.out _ HB3.out) ?_
  clear hK K
  try simp only [Act.put, zA, zB, zC]
  have hS1 := HSd.out w3 HB3.out
  clear hb3 hS0
  refine wpAnyT_take (i := 3) (v := ?_) rfl (by kernel_rfl) (by kernel_rfl) (by kernel_rfl) (by kernel_rfl) (fun _ _ _ h => h) (Or.inl ⟨by rfl, ?_⟩) hS1 ?_
  rotate_left
  ·intro w hSw; (try dsimp only at hSw); go_simp; all_goals with_reducible rfl
  simp only [Act.put, zA, zB, zC]
  refine wpAnyT_take (i := 4) (v := ?_) rfl (by kernel_rfl) (by kernel_rfl) (by kernel_rfl) (by kernel_rfl) (fun _ _ _ h => h) (Or.inl ⟨by rfl, ?_⟩) hS1 ?_
  rotate_left
  ·intro w hSw; (try dsimp only at hSw); go_simp; all_goals with_reducible rfl
  simp only [Act.put, zA, zB, zC]
  refine wpAnyT_take (i := 5) (v := ?_) rfl (by kernel_rfl) (by kernel_rfl) (by kernel_rfl) (by kernel_rfl) (fun _ _ _ h => h) (Or.inl ⟨by rfl, ?_⟩) hS1 ?_
  rotate_left
  ·intro w hSw; (try dsimp only at hSw); go_simp; all_goals with_reducible rfl
  simp only [Act.put, zA, zB, zC]
  refine wpAnyT_take (i := 7) (v := ?_) rfl (by kernel_rfl) (by kernel_rfl) (by kernel_rfl) (by kernel_rfl) (fun _ _ _ h => h) (Or.inl ⟨by rfl, ?_⟩) hS1 ?_
  rotate_left
  ·intro w hSw; (try dsimp only at hSw); go_simp; all_goals with_reducible rfl
  simp only [Act.put, zA, zB, zC]
  refine wpAnyT_one (i := 6) (by kernel_rfl) rfl (fun K hK => ?_)
  go_simp
  refine (HIt.out w3 HB3.out).mono ?_
  rintro e w4 ⟨hb4, v4, rfl, hit⟩
  have HB34 := h_ hb4
  have HB4 := h_ (below_on HB3.out hb4)
  have HIt4 := h_ hit
  refine hK.out _ _ (fun _ => HSd.out _ HB4.out) ?_
  clear hK K
  try simp only [Act.put, zA, zB, zC]
  clear hb4 hit
  refine wpAnyT_one (i := 8) (by kernel_rfl) rfl (fun K hK => ?_)
  go_simp
  refine (cSame_any (itP gb gl) x v4 _ w4 (itP_depth _ _) HIt4.out.new_itV (HV.out w4 (below_on HB2.out HB4.out))).mono ?_
  rintro e w5 ⟨rfl, hb5⟩
  rw [← HSB.out]
  have HB5 := h_ (below_on HB4.out hb5)
  refine hK.out _ _ (fun _ => HSd.out _ HB5.out) ?_
  clear hK K
  try simp only [Act.put, zA, zB, zC]
  have hS2 := HSd.out w5 HB5.out
  clear hb5 hS1
  refine wpAnyT_take (i := 9) (v := ?_) rfl (by kernel_rfl) (by kernel_rfl) (by kernel_rfl) (by kernel_rfl) (fun _ _ _ h => h) (Or.inl ⟨by rfl, ?_⟩) hS2 ?_
  rotate_left
  ·intro w hSw; (try dsimp only at hSw); go_simp; all_goals with_reducible rfl
  simp only [Act.put, zA, zB, zC]
  refine wpAnyT_take (i := 10) (v := ?_) rfl (by kernel_rfl) (by kernel_rfl) (by kernel_rfl) (by kernel_rfl) (fun _ _ _ h => h) (Or.inl ⟨by rfl, ?_⟩) hS2 ?_
  rotate_left
  ·intro w hSw; (try dsimp only at hSw); go_simp; all_goals with_reducible rfl
  simp only [Act.put, zA, zB, zC]
  refine wpAnyT_done (by kernel_rfl) ?_ _
  obtain ⟨_, y0, y1, y2, y3⟩ := HX.out w5 (below_on HB2.out HB5.out)
  obtain ⟨_, z0, z1⟩ := hS2
  cases sameB
  ·go_wp2_with fail
   go_step3
   refine ⟨rfl, ?_⟩
   show Code.wp _ _ _ _ _
   go_wp2_with fail
   rw [Exit.noGoto_ret]
   have s2 := set2_cells y0 y1 (.bool false) (.slice none 0 0)
   refine bodyPost_ret (v := .tuple #[.agg #[.bool false, .slice none 0 0], .int .i64 152]) (by obtain ⟨s2, s3⟩ := s2; simp [results, Tryz.results152, go_sem, s2, s3]) rfl ⟨?_, .inr ⟨HI.out, rfl⟩⟩
   exact HB0.out.trans ((((below_on HB2.out HB5.out).mono HB0.out.size).setCell (by simp) _).setCell (by simp) _)

  ·go_wp2_with fail
   simp only [Exit.jump]
   have s2 := set2_cells y0 y1 (.bool gb) (.slice A2 gl.length C2)
   refine bodyPost_ret (v := .tuple #[.agg #[.bool gb, .slice A2 gl.length C2], .int .i64 0]) (by obtain ⟨s2, s3⟩ := s2; simp [results, Tryz.results152, go_sem, s2, s3]) rfl ⟨?_, .inl ⟨HI.out, A2, C2, by rw [← HGB.out, ← HGL.out], by rw [← HGL.out]; exact HL2.out, ?_⟩⟩
   ·exact HB0.out.trans ((((below_on HB2.out HB5.out).mono HB0.out.size).setCell (by simp) _).setCell (by simp) _)
   ·have hw : w.heap.size + 1 < W.heap.size := by have := HWs.out; omega
    rw [← HGL.out]
    exact (((HNw.out w5 HB5.out).set hw _).set hw _).low HB0.out.size

end Go.Proofs.YtiahakbkagipkaaGreatDoor
