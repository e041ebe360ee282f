/- Joined texts. -/
import Derived.Test.YteldifnkeekafaaGreatDoorZKh
import Derived.Test.YteldifnkeekafaaGreatDoorZKl
set_option maxHeartbeats 8000000
set_option linter.unusedSimpArgs false
set_option linter.unusedVariables false
set_option maxRecDepth 100000
namespace Go.Proofs.YteldifnkeekafaaGreatDoor
open Go Go.RowKit Go.Shelf

theorem nk_take_listed {P : Program} {l : List Oper} {Q : Exit → Act → World → Prop} {md : Region.Mode} {S : World → Prop} {i : Nat} {oi : Oper} {v : Value} {fuel : Nat} {listed : Array Bool} {a : Act} {w : World} (hi : l[i]? = some oi)
  (hs : Region.noSelect l.toArray = true) (hf : Region.free md l.toArray listed i = true) (hr : (Region.ready md l.toArray listed).contains i = true)
  (hQ : ∀ c a w, Q (.panic c) (a.put oi.dst v) w → Q (.panic c) a w) (hy : YieldsIf P l.toArray S oi v a) (hS : S w)
  (h : wpAnyH P md l.toArray Q S fuel (listed.setIfInBounds i true) (a.put oi.dst v) w) : wpAnyH P md l.toArray Q S (fuel + 1) listed a w :=
 wpAnyH_take (by simpa using hi) hs hf hr hQ hy hS h

theorem ItV.u64 {w : World} {B : Nat} {v : Value} {x : It} (h : ItV w B v x) : U64 x.n := by
 obtain ⟨k, n, b, s, l⟩ := x
 simp only [ItV] at h
 obtain ⟨A, ⟨a, c, C, _, _, _, h4, _⟩, _⟩ := h
 exact h4

def nuN (x : It) : Option Nat := if x.same (itU x.n) = true then some x.n.toNat else none

theorem nuN_itU (n : Nat) : nuN (itU n) = some n := by
 have e : (itU n).n = (n : Int) := rfl
 rw [nuN, e, if_pos (same_self _)]
 simp

theorem nuN_some {x : It} {n : Nat} (hx : 0 ≤ x.n) (h : nuN x = some n) : x = itU n := by
 unfold nuN at h
 by_cases h1 : x.same (itU x.n) = true
 ·rw [if_pos h1] at h
  have h2 := (It.same_iff _ _).1 h1
  have h3 : x.n = (n : Int) := by simp at h; omega
  rw [← h3]
  exact h2
 ·rw [if_neg h1] at h
  cases h

def NuP (w : World) (x : It) (e : Ending) (w' : World) : Prop := Below w.heap.size w w' ∧ ((∃ n : Nat, e = .returned (.int .u64 n) ∧ nuN x = some n ∧ n < 18446744073709551616) ∨ (e = .panicked [{ v := .iface 33 (.int .i64 130), recovered := false }] ∧ nuN x = none))

theorem numberOf_any (x : It) (v : Value) (w : World) (hd : x.depth ≤ 60000) (hv : ItV w w.heap.size v x) : Calls Tryz.prog 150 #[v] w (NuP w x) := by
 have hu := hv.u64
 obtain ⟨a, c, A, C, rfl⟩ := hv.form
 obtain ⟨W, hW⟩ : ∃ W, W = w.alloc (.cells #[.int .i64 x.k, .int .u64 x.n, .slice a x.b.length c, .string ⟨x.s.toArray⟩, .slice A x.l.length C] 45) := ⟨_, rfl⟩
 have HB : Hid (Below w.heap.size w W) := by rw [hW]; exact below_al bR _
 have HV : Hid (∀ w', Below W.heap.size W w' → ItV w' w'.heap.size (.agg #[.int .i64 x.k, .int .u64 x.n, .slice a x.b.length c, .string ⟨x.s.toArray⟩, .slice A x.l.length C]) x) := fun w' h => hv.on (HB.out.trans (h.mono HB.out.size))
 have HC : Hid (∀ w', Below W.heap.size W w' → (w'.cell? ⟨w.heap.size, 0, none⟩ = some (.int .i64 x.k) ∧ w'.cell? ⟨w.heap.size, 1, none⟩ = some (.int .u64 x.n) ∧ w'.cell? ⟨w.heap.size, 2, none⟩ = some (.slice a x.b.length c) ∧ w'.cell? ⟨w.heap.size, 3, none⟩ = some (.string ⟨x.s.toArray⟩) ∧ w'.cell? ⟨w.heap.size, 4, none⟩ = some (.slice A x.l.length C))) := fun w' h => by
  have hs : w.heap.size < W.heap.size := by rw [hW]; simp
  have hh := fun i => (h.cell (p := ⟨w.heap.size, i, none⟩) hs).trans (by rw [hW, World.cell?_alloc_mark] : W.cell? ⟨w.heap.size, i, none⟩ = (#[.int .i64 x.k, .int .u64 x.n, .slice a x.b.length c, .string ⟨x.s.toArray⟩, .slice A x.l.length C])[i]?)
  exact ⟨hh 0, hh 1, hh 2, hh 3, hh 4⟩
 have HW := h_ hW
 have HD := h_ hd
 have HU := h_ hu
 clear hW hv hd hu
 have HS : Hid (∀ w', Below W.heap.size W w' → Calls Tryz.prog 153 #[.agg #[.int .i64 x.k, .int .u64 x.n, .slice a x.b.length c, .string ⟨x.s.toArray⟩, .slice A x.l.length C], .agg #[.int .i64 1, .int .u64 x.n, .slice none 0 0, .string ⟨#[]⟩, .slice none 0 0]] w' fun e w'' => e = .returned (.bool (x.same (itU x.n))) ∧ Below w'.heap.size w' w'') := fun w' h =>
  cSame_any x (itU x.n) _ (uintV x.n) w' HD.out (HV.out w' h) (ItS.itV (S := fun _ => False) (fun _ q => q.elim) _ (itS_uint _ _ _ HU.out))
 have HFIN : Hid (∀ q : Bool, x.same (itU x.n) = q → (q = true → nuN x = some x.n.toNat) ∧ (q = false → nuN x = none)) := fun q hq =>
  ⟨fun h => by rw [nuN, hq, h, if_pos rfl], fun h => by rw [nuN, hq, h, if_neg (by simp)]⟩
 obtain ⟨q, hq⟩ : ∃ q, q = x.same (itU x.n) := ⟨_, rfl⟩
 have HQ := h_ (HFIN.out q hq.symm)
 rw [← hq] at HS
 clear hq HFIN
 have F0 : Below W.heap.size W W.drew := bR.drew
 go_enter Tryz.func150, Tryz.ntmps150
 go_wp2_with fail
 rw [← HW.out]
 refine wp_region_held_drew (S := fun w' => (w'.cell? ⟨w.heap.size, 0, none⟩ = some (.int .i64 x.k) ∧ w'.cell? ⟨w.heap.size, 1, none⟩ = some (.int .u64 x.n) ∧ w'.cell? ⟨w.heap.size, 2, none⟩ = some (.slice a x.b.length c) ∧ w'.cell? ⟨w.heap.size, 3, none⟩ = some (.string ⟨x.s.toArray⟩) ∧ w'.cell? ⟨w.heap.size, 4, none⟩ = some (.slice A x.l.length C))) (by kernel_rfl) (HC.out _ F0) (fun hHeld => ?_)
 refine nk_take_listed (i := 0) (v := ?_) rfl (by kernel_rfl) (by kernel_rfl) (by kernel_rfl) (fun _ _ _ h => h) (Or.inl ⟨by rfl, ?_⟩) (by assumption) ?_
 rotate_left
 ·intro w hSw; go_simp; all_goals with_reducible rfl
 simp only [Act.put, zA, zB, zC]
 refine nk_take_listed (i := 1) (v := ?_) rfl (by kernel_rfl) (by kernel_rfl) (by kernel_rfl) (fun _ _ _ h => h) (Or.inl ⟨by rfl, ?_⟩) (by assumption) ?_
 rotate_left
 ·intro w hSw; go_simp; all_goals with_reducible rfl
 simp only [Act.put, zA, zB, zC]
 refine nk_take_listed (i := 2) (v := ?_) rfl (by kernel_rfl) (by kernel_rfl) (by kernel_rfl) (fun _ _ _ h => h) (Or.inl ⟨by rfl, ?_⟩) (by assumption) ?_
 rotate_left
 ·intro w hSw; go_simp; all_goals with_reducible rfl
 simp only [Act.put, zA, zB, zC]
 refine wpAnyH_ready (rs := [3]) (by kernel_rfl) (by simp) (.cons rfl (fun K hK => ?_) .nil)
 go_simp
 refine (uintItem_any x.n _).mono ?_
 rintro e w1 ⟨rfl, hb1⟩
 have F1 : Below W.heap.size W w1 := below_on F0 hb1
 refine hK.out _ _ (HC.out _ F1) (fun hHeld => ?_)
 clear hK K
 try simp only [Act.put, zA, zB, zC]
 refine wpAnyH_ready (rs := [4]) (by kernel_rfl) (by simp) (.cons rfl (fun K hK => ?_) .nil)
 go_simp
 refine (HS.out _ F1).mono ?_
 rintro e w2 ⟨rfl, hb2⟩
 have F2 : Below W.heap.size W w2 := below_on F1 hb2
 refine hK.out _ _ (HC.out _ F2) (fun hHeld => ?_)
 clear hK K
 try simp only [Act.put, zA, zB, zC]
 cases q
 ·refine wpAnyH_ready (rs := [5]) (by kernel_rfl) (by simp) (.cons rfl (fun K hK => ?_) .nil)
  go_simp
  refine (need_no _).mono ?_
  rintro e w3 ⟨rfl, rfl⟩
  exact ⟨rfl, HB.out.trans (F2.mono HB.out.size), .inr ⟨rfl, HQ.out.2 (by first | trivial | rfl)⟩⟩
 ·refine wpAnyH_ready (rs := [5]) (by kernel_rfl) (by simp) (.cons rfl (fun K hK => ?_) .nil)
  go_simp
  refine (need_yes _).mono ?_
  rintro e w3 ⟨rfl, rfl⟩
  refine hK.out _ _ (HC.out _ F2) (fun hHeld => ?_)
  clear hK K
  try simp only [Act.put, zA, zB, zC]
  refine wpAnyH_done (by kernel_rfl) ?_ _
  obtain ⟨c0, c1, c2, c3, c4⟩ := HC.out _ F2
  have HF2 := h_ F2
  clear F0 F1 F2
  go_wp2
  go_ret
  refine ⟨HB.out.trans (HF2.out.mono HB.out.size), .inl ⟨x.n.toNat, ?_, HQ.out.1 (by first | trivial | rfl), ?_⟩⟩
  ·have h0 := HU.out.1
   show Ending.returned (Value.int IntKind.u64 x.n) = _
   rw [Int.toNat_of_nonneg h0]
  ·have := HU.out.1
   have := HU.out.2
   omega

def shL (x : It) (n : Nat) : Bool := decide (x.l.length = n) && (It.mk x.k x.n x.b x.s []).same (itLs [])

def ShP (w : World) (x : It) (n : Nat) (A : Option Addr) (C : Nat) (e : Ending) (w' : World) : Prop := Below w.heap.size w w' ∧ ((e = .returned (.slice A x.l.length C) ∧ shL x n = true) ∨ (e = .panicked [{ v := .iface 33 (.int .i64 130), recovered := false }] ∧ shL x n = false))

theorem ItV.bare {w : World} {B : Nat} {x : It} {a A : Option Addr} {c C : Nat} (h : ItV w B (.agg #[.int .i64 x.k, .int .u64 x.n, .slice a x.b.length c, .string ⟨x.s.toArray⟩, .slice A x.l.length C]) x) : ItV w B (.agg #[.int .i64 x.k, .int .u64 x.n, .slice a x.b.length c, .string ⟨x.s.toArray⟩, .slice none 0 0]) (.mk x.k x.n x.b x.s []) := by
 obtain ⟨k, n, b, s, l⟩ := x
 simp only [ItV] at h ⊢
 obtain ⟨A1, ⟨a1, c1, C1, e, ⟨h1, _⟩, h2, h3, h4, h5, h6, _⟩, _⟩ := h
 simp only [It.k, It.n, It.b, It.s, It.l] at e ⊢
 injection e with e
 have e' := congrArg Array.toList e
 simp only [List.cons.injEq, Value.slice.injEq, and_true, true_and] at e'
 obtain ⟨⟨rfl, rfl⟩, rfl, rfl⟩ := e'
 exact ⟨none, ⟨a, c, 0, rfl, ⟨h1, Nat.le_refl _⟩, h2, h3, h4, h5, h6, Nat.zero_le _⟩, .inl trivial⟩

theorem shape1_any (x : It) (a A : Option Addr) (c C : Nat) (P n : Nat) (w : World) (hn : n ≤ 100) (hv : ItV w w.heap.size (.agg #[.int .i64 x.k, .int .u64 x.n, .slice a x.b.length c, .string ⟨x.s.toArray⟩, .slice A x.l.length C]) x) (hp : w.cell? ⟨P, 0, none⟩ = some (.int .i64 n)) : Calls Tryz.prog 151 #[.agg #[.int .i64 x.k, .int .u64 x.n, .slice a x.b.length c, .string ⟨x.s.toArray⟩, .slice A x.l.length C], .pointer (some ⟨P, 0, none⟩)] w (ShP w x n A C) := by
 have hP : P < w.heap.size := World.block_lt_of_cell? w _ hp
 have hll : x.l.length ≤ 140737488355328 := by
  obtain ⟨k, n, b, s, l⟩ := x
  simp only [ItV] at hv
  obtain ⟨A1, ⟨a1, c1, C1, _, _, _, _, _, _, _, h6⟩, _⟩ := hv
  exact h6
 obtain ⟨W, hW⟩ : ∃ W, W = w.alloc (.cells #[.int .i64 x.k, .int .u64 x.n, .slice a x.b.length c, .string ⟨x.s.toArray⟩, .slice none 0 0] 45) := ⟨_, rfl⟩
 have HB : Hid (Below w.heap.size w W) := by rw [hW]; exact below_al bR _
 have HV : Hid (∀ w', Below W.heap.size W w' → ItV w' w'.heap.size (.agg #[.int .i64 x.k, .int .u64 x.n, .slice a x.b.length c, .string ⟨x.s.toArray⟩, .slice none 0 0]) (.mk x.k x.n x.b x.s [])) := fun w' h => hv.bare.on (HB.out.trans (h.mono HB.out.size))
 have HC : Hid (∀ w', Below W.heap.size W w' → w'.cell? ⟨P, 0, none⟩ = some (.int .i64 n) ∧ (w'.cell? ⟨w.heap.size, 0, none⟩ = some (.int .i64 x.k) ∧ w'.cell? ⟨w.heap.size, 1, none⟩ = some (.int .u64 x.n) ∧ w'.cell? ⟨w.heap.size, 2, none⟩ = some (.slice a x.b.length c) ∧ w'.cell? ⟨w.heap.size, 3, none⟩ = some (.string ⟨x.s.toArray⟩) ∧ w'.cell? ⟨w.heap.size, 4, none⟩ = some (.slice none 0 0))) := fun w' h => by
  have hs : w.heap.size < W.heap.size := by rw [hW]; simp
  have hh := fun i => (h.cell (p := ⟨w.heap.size, i, none⟩) hs).trans (by rw [hW, World.cell?_alloc_mark] : W.cell? ⟨w.heap.size, i, none⟩ = (#[.int .i64 x.k, .int .u64 x.n, .slice a x.b.length c, .string ⟨x.s.toArray⟩, .slice none 0 0])[i]?)
  exact ⟨((HB.out.trans (h.mono HB.out.size)).cell (p := ⟨P, 0, none⟩) hP).trans hp, hh 0, hh 1, hh 2, hh 3, hh 4⟩
 have HW := h_ hW
 clear hW hv
 have HS : Hid (∀ w', Below W.heap.size W w' → Calls Tryz.prog 153 #[.agg #[.int .i64 x.k, .int .u64 x.n, .slice a x.b.length c, .string ⟨x.s.toArray⟩, .slice none 0 0], .agg #[.int .i64 4, .int .u64 0, .slice none 0 0, .string ⟨#[]⟩, .slice none 0 0]] w' fun e w'' => e = .returned (.bool ((It.mk x.k x.n x.b x.s []).same (itLs []))) ∧ Below w'.heap.size w' w'') := fun w' h =>
  cSame_any (.mk x.k x.n x.b x.s []) (itLs []) _ _ w' (by simp [It.depth, It.depth.depthL]) (HV.out w' h) (ItS.itV (S := fun _ => False) (fun _ q => q.elim) _ (itS_plain _ _ 4 0 [] (by decide) ⟨by decide, by decide⟩ (Nat.zero_le _)))
 obtain ⟨q, hq⟩ : ∃ q, q = (It.mk x.k x.n x.b x.s []).same (itLs []) := ⟨_, rfl⟩
 have HQ : Hid (shL x n = (decide (x.l.length = n) && q)) := by rw [hq]; rfl
 rw [← hq] at HS
 clear hq
 have F0 : Below W.heap.size W W.drew := bR.drew
 by_cases hlen : x.l.length = n
 ·have hl : ((x.l.length : Int) == (n : Int)) = true := by simp; omega
  have HL := h_ hlen
  clear hlen
  go_enter Tryz.func151, Tryz.ntmps151
  go_wp2_with fail
  rw [← HW.out]
  refine wp_region_held_drew (S := fun w' => w'.cell? ⟨P, 0, none⟩ = some (.int .i64 n) ∧ (w'.cell? ⟨w.heap.size, 0, none⟩ = some (.int .i64 x.k) ∧ w'.cell? ⟨w.heap.size, 1, none⟩ = some (.int .u64 x.n) ∧ w'.cell? ⟨w.heap.size, 2, none⟩ = some (.slice a x.b.length c) ∧ w'.cell? ⟨w.heap.size, 3, none⟩ = some (.string ⟨x.s.toArray⟩) ∧ w'.cell? ⟨w.heap.size, 4, none⟩ = some (.slice none 0 0))) (by kernel_rfl) (HC.out _ F0) (fun hHeld => ?_)
  refine nk_take_listed (i := 0) (v := ?_) rfl (by kernel_rfl) (by kernel_rfl) (by kernel_rfl) (fun _ _ _ h => h) (Or.inl ⟨by rfl, ?_⟩) (by assumption) ?_
  rotate_left
  ·intro w hSw; go_simp; all_goals with_reducible rfl
  simp only [Act.put, zA, zB, zC]
  refine nk_take_listed (i := 1) (v := ?_) rfl (by kernel_rfl) (by kernel_rfl) (by kernel_rfl) (fun _ _ _ h => h) (Or.inl ⟨by rfl, ?_⟩) (by assumption) ?_
  rotate_left
  ·intro w hSw; go_simp; all_goals with_reducible rfl
  simp only [Act.put, zA, zB, zC]
  refine nk_take_listed (i := 2) (v := ?_) rfl (by kernel_rfl) (by kernel_rfl) (by kernel_rfl) (fun _ _ _ h => h) (Or.inl ⟨by rfl, ?_⟩) (by assumption) ?_
  rotate_left
  ·intro w hSw; go_simp; all_goals with_reducible rfl
  simp only [Act.put, zA, zB, zC]
  refine nk_take_listed (i := 3) (v := ?_) rfl (by kernel_rfl) (by kernel_rfl) (by kernel_rfl) (fun _ _ _ h => h) (Or.inl ⟨by rfl, ?_⟩) (by assumption) ?_
  rotate_left
  ·intro w hSw; go_simp; all_goals with_reducible rfl
  simp only [Act.put, zA, zB, zC]
  refine nk_take_listed (i := 4) (v := ?_) rfl (by kernel_rfl) (by kernel_rfl) (by kernel_rfl) (fun _ _ _ h => h) (Or.inl ⟨by rfl, ?_⟩) (by assumption) ?_
  rotate_left
  ·intro w hSw; go_simp; all_goals with_reducible rfl
  simp only [Act.put, zA, zB, zC]
  refine nk_take_listed (i := 5) (v := ?_) rfl (by kernel_rfl) (by kernel_rfl) (by kernel_rfl) (fun _ _ _ h => h) (Or.inl ⟨by rfl, ?_⟩) (by assumption) ?_
  rotate_left
  ·intro w hSw; go_simp; all_goals with_reducible rfl
  simp only [Act.put, zA, zB, zC]
  refine wpAnyH_ready (rs := [6]) (by kernel_rfl) (by simp) (.cons rfl (fun K hK => ?_) .nil)
  go_simp
  refine (listItem_any _ _ _ _).mono ?_
  rintro e w1 ⟨rfl, hb1⟩
  have F1 : Below W.heap.size W w1 := below_on F0 hb1
  refine hK.out _ _ (HC.out _ F1) (fun hHeld => ?_)
  clear hK K
  try simp only [Act.put, zA, zB, zC]
  refine wpAnyH_ready (rs := [7]) (by kernel_rfl) (by simp) (.cons rfl (fun K hK => ?_) .nil)
  go_simp
  refine (HS.out _ F1).mono ?_
  rintro e w2 ⟨rfl, hb2⟩
  have F2 : Below W.heap.size W w2 := below_on F1 hb2
  refine hK.out _ _ (HC.out _ F2) (fun hHeld => ?_)
  clear hK K
  try simp only [Act.put, zA, zB, zC]
  refine nk_take_listed (i := 8) (v := ?_) rfl (by kernel_rfl) (by kernel_rfl) (by kernel_rfl) (fun _ _ _ h => h) (Or.inl ⟨by rfl, ?_⟩) (by assumption) ?_
  rotate_left
  ·intro w hSw; go_simp; all_goals with_reducible rfl
  simp only [Act.put, zA, zB, zC]
  cases q
  ·refine wpAnyH_ready (rs := [9]) (by kernel_rfl) (by simp) (.cons rfl (fun K hK => ?_) .nil)
   go_simp
   refine (need_no _).mono ?_
   rintro e w3 ⟨rfl, rfl⟩
   exact ⟨rfl, HB.out.trans (F2.mono HB.out.size), .inr ⟨rfl, by rw [HQ.out]; simp⟩⟩
  ·refine wpAnyH_ready (rs := [9]) (by kernel_rfl) (by simp) (.cons rfl (fun K hK => ?_) .nil)
   go_simp
   refine (need_yes _).mono ?_
   rintro e w3 ⟨rfl, rfl⟩
   refine hK.out _ _ (HC.out _ F2) (fun hHeld => ?_)
   clear hK K
   try simp only [Act.put, zA, zB, zC]
   refine wpAnyH_done (by kernel_rfl) ?_ _
   have HF2 := h_ F2
   clear F0 F1 F2
   go_wp2
   go_ret
   refine ⟨HB.out.trans (HF2.out.mono HB.out.size), .inl ⟨rfl, ?_⟩⟩
   rw [HQ.out, decide_eq_true HL.out]
   rfl
 ·have hl : ((x.l.length : Int) == (n : Int)) = false := by simp; omega
  have HL : Hid (shL x n = false) := by rw [Hid, HQ.out, decide_eq_false hlen]; rfl
  clear hlen
  go_enter Tryz.func151, Tryz.ntmps151
  go_wp2_with fail
  rw [← HW.out]
  refine wp_region_held_drew (S := fun w' => w'.cell? ⟨P, 0, none⟩ = some (.int .i64 n) ∧ (w'.cell? ⟨w.heap.size, 0, none⟩ = some (.int .i64 x.k) ∧ w'.cell? ⟨w.heap.size, 1, none⟩ = some (.int .u64 x.n) ∧ w'.cell? ⟨w.heap.size, 2, none⟩ = some (.slice a x.b.length c) ∧ w'.cell? ⟨w.heap.size, 3, none⟩ = some (.string ⟨x.s.toArray⟩) ∧ w'.cell? ⟨w.heap.size, 4, none⟩ = some (.slice none 0 0))) (by kernel_rfl) (HC.out _ F0) (fun hHeld => ?_)
  refine nk_take_listed (i := 0) (v := ?_) rfl (by kernel_rfl) (by kernel_rfl) (by kernel_rfl) (fun _ _ _ h => h) (Or.inl ⟨by rfl, ?_⟩) (by assumption) ?_
  rotate_left
  ·intro w hSw; go_simp; all_goals with_reducible rfl
  simp only [Act.put, zA, zB, zC]
  refine nk_take_listed (i := 1) (v := ?_) rfl (by kernel_rfl) (by kernel_rfl) (by kernel_rfl) (fun _ _ _ h => h) (Or.inl ⟨by rfl, ?_⟩) (by assumption) ?_
  rotate_left
  ·intro w hSw; go_simp; all_goals with_reducible rfl
  simp only [Act.put, zA, zB, zC]
  refine nk_take_listed (i := 2) (v := ?_) rfl (by kernel_rfl) (by kernel_rfl) (by kernel_rfl) (fun _ _ _ h => h) (Or.inl ⟨by rfl, ?_⟩) (by assumption) ?_
  rotate_left
  ·intro w hSw; go_simp; all_goals with_reducible rfl
  simp only [Act.put, zA, zB, zC]
  refine nk_take_listed (i := 3) (v := ?_) rfl (by kernel_rfl) (by kernel_rfl) (by kernel_rfl) (fun _ _ _ h => h) (Or.inl ⟨by rfl, ?_⟩) (by assumption) ?_
  rotate_left
  ·intro w hSw; go_simp; all_goals with_reducible rfl
  simp only [Act.put, zA, zB, zC]
  refine nk_take_listed (i := 4) (v := ?_) rfl (by kernel_rfl) (by kernel_rfl) (by kernel_rfl) (fun _ _ _ h => h) (Or.inl ⟨by rfl, ?_⟩) (by assumption) ?_
  rotate_left
  ·intro w hSw; go_simp; all_goals with_reducible rfl
  simp only [Act.put, zA, zB, zC]
  refine nk_take_listed (i := 5) (v := undef) rfl (by kernel_rfl) (by kernel_rfl) (by kernel_rfl) (fun _ _ _ h => h) (Or.inr ⟨by rfl, rfl⟩) (by assumption) ?_
  simp only [Act.put, zA, zB, zC]
  refine wpAnyH_ready (rs := [6]) (by kernel_rfl) (by simp) (.cons rfl (fun K hK => ?_) .nil)
  go_simp
  refine hK.out _ _ (HC.out _ F0) (fun hHeld => ?_)
  clear hK K
  try simp only [Act.put, zA, zB, zC]
  refine wpAnyH_ready (rs := [7]) (by kernel_rfl) (by simp) (.cons rfl (fun K hK => ?_) .nil)
  go_simp
  refine hK.out _ _ (HC.out _ F0) (fun hHeld => ?_)
  clear hK K
  try simp only [Act.put, zA, zB, zC]
  refine nk_take_listed (i := 8) (v := ?_) rfl (by kernel_rfl) (by kernel_rfl) (by kernel_rfl) (fun _ _ _ h => h) (Or.inl ⟨by rfl, ?_⟩) (by assumption) ?_
  rotate_left
  ·intro w hSw; go_simp; all_goals with_reducible rfl
  simp only [Act.put, zA, zB, zC]
  refine wpAnyH_ready (rs := [9]) (by kernel_rfl) (by simp) (.cons rfl (fun K hK => ?_) .nil)
  go_simp
  refine (need_no _).mono ?_
  rintro e w3 ⟨rfl, rfl⟩
  exact ⟨rfl, HB.out.trans (F0.mono HB.out.size), .inr ⟨rfl, HL.out⟩⟩

theorem shape_any (n : Int) (w : World) : Calls Tryz.prog 147 #[.int .i64 n] w fun e w' => e = .returned (.func (.func 151) #[] #[.pointer (some ⟨w.heap.size, 0, none⟩)]) ∧ w' = w.alloc (.cells #[.int .i64 n] 3) := by
 have hmf : ∀ (fn : Fn) (first cap : Array Value) (w : World), (Instr.makeFunc fn first cap).run Tryz.prog w = .ok (.func fn first cap) w := fun _ _ _ _ => rfl
 go_enter Tryz.func147, Tryz.ntmps147
 go_wp2
 go_ret
 exact ⟨rfl, rfl⟩

def epZ (z0 z1 : It) : Option (Nat × Nat) := match nuN z0, nuN z1 with
 | some n, some m => if sv n m = true then some (n, m) else none
 | _, _ => none
def epY (y1 : It) : Option (Nat × Nat) := if shL y1 2 = true then (match y1.l with
 | [z0, z1] => epZ z0 z1
 | _ => none) else none
def epI (x : It) : Option (Nat × Nat) := if shL x 2 = true then (match x.l with
 | [y0, y1] => (match nuN y0 with
  | some 1 => (match nuN y1 with
   | some 0 => some (0, 0)
   | _ => none)
  | some 2 => epY y1
  | _ => none)
 | _ => none) else none

theorem epI_sh {x : It} (h : shL x 2 = false) : epI x = none := by rw [epI, h, if_neg (by simp)]
theorem epI_two {x y0 y1 : It} (h : shL x 2 = true) (hl : x.l = [y0, y1]) : epI x = (match nuN y0 with
  | some 1 => (match nuN y1 with
   | some 0 => some (0, 0)
   | _ => none)
  | some 2 => epY y1
  | _ => none) := by rw [epI, h, if_pos rfl, hl]
theorem epY_sh {x : It} (h : shL x 2 = false) : epY x = none := by rw [epY, h, if_neg (by simp)]
theorem epY_two {x z0 z1 : It} (h : shL x 2 = true) (hl : x.l = [z0, z1]) : epY x = epZ z0 z1 := by rw [epY, h, if_pos rfl, hl]

theorem shL_two {x : It} (h : shL x 2 = true) : ∃ y0 y1, x.l = [y0, y1] := by
 have h1 : x.l.length = 2 := by
  simp only [shL, Bool.and_eq_true, decide_eq_true_eq] at h
  exact h.1
 match hl : x.l, h1 with
 | [y0, y1], _ => exact ⟨y0, y1, rfl⟩

def EpP (w : World) (x : It) (e : Ending) (w' : World) : Prop := Below w.heap.size w w' ∧ ((∃ n m : Nat, e = .returned (.agg #[.int .u32 n, .int .u32 m]) ∧ epI x = some (n, m)) ∨ (e = .panicked [{ v := .iface 33 (.int .i64 130), recovered := false }] ∧ epI x = none))

theorem ItV.list {w : World} {B : Nat} {x : It} {a A : Option Addr} {c C : Nat} (h : ItV w B (.agg #[.int .i64 x.k, .int .u64 x.n, .slice a x.b.length c, .string ⟨x.s.toArray⟩, .slice A x.l.length C]) x) : (x.l = [] ∨ ∃ g o, A = some ⟨g, o, none⟩ ∧ g < B ∧ ItL w B g o x.l) ∧ x.l.length ≤ C := by
 obtain ⟨k, n, b, s, l⟩ := x
 simp only [ItV] at h
 obtain ⟨A1, ⟨a1, c1, C1, e, ⟨_, h1⟩, _⟩, h2⟩ := h
 simp only [It.k, It.n, It.b, It.s, It.l] at e ⊢
 injection e with e
 have e' := congrArg Array.toList e
 simp only [List.cons.injEq, Value.slice.injEq, and_true, true_and] at e'
 obtain ⟨_, rfl, rfl⟩ := e'
 exact ⟨h2, h1⟩

theorem depth_mem {x y : It} (h : y ∈ x.l) : y.depth ≤ x.depth := by
 obtain ⟨k, n, b, s, l⟩ := x
 have := depthL_mem h
 simp only [It.depth, It.l] at *
 omega

theorem ItV.pair {w : World} {B : Nat} {x y0 y1 : It} {a A : Option Addr} {c C : Nat} (h : ItV w B (.agg #[.int .i64 x.k, .int .u64 x.n, .slice a x.b.length c, .string ⟨x.s.toArray⟩, .slice A x.l.length C]) x) (hl : x.l = [y0, y1]) : ∃ g o a0 c0 A0 C0 a1 c1 A1 C1, A = some ⟨g, o, none⟩ ∧ ∀ w', Below B w w' →
  (ItV w' B (.agg #[.int .i64 y0.k, .int .u64 y0.n, .slice a0 y0.b.length c0, .string ⟨y0.s.toArray⟩, .slice A0 y0.l.length C0]) y0 ∧ ItV w' B (.agg #[.int .i64 y1.k, .int .u64 y1.n, .slice a1 y1.b.length c1, .string ⟨y1.s.toArray⟩, .slice A1 y1.l.length C1]) y1) ∧ (w'.cell? ⟨g, o, none⟩ = some (.int .i64 y0.k) ∧ w'.cell? ⟨g, o + 1, none⟩ = some (.int .u64 y0.n) ∧ w'.cell? ⟨g, o + 2, none⟩ = some (.slice a0 y0.b.length c0) ∧ w'.cell? ⟨g, o + 3, none⟩ = some (.string ⟨y0.s.toArray⟩) ∧ w'.cell? ⟨g, o + 4, none⟩ = some (.slice A0 y0.l.length C0)) ∧ (w'.cell? ⟨g, o + 5, none⟩ = some (.int .i64 y1.k) ∧ w'.cell? ⟨g, o + 5 + 1, none⟩ = some (.int .u64 y1.n) ∧ w'.cell? ⟨g, o + 5 + 2, none⟩ = some (.slice a1 y1.b.length c1) ∧ w'.cell? ⟨g, o + 5 + 3, none⟩ = some (.string ⟨y1.s.toArray⟩) ∧ w'.cell? ⟨g, o + 5 + 4, none⟩ = some (.slice A1 y1.l.length C1)) := by
 obtain ⟨hl2, _⟩ := h.list
 rw [hl] at hl2
 rcases hl2 with h0 | ⟨g, o, rfl, hg, hL⟩
 ·cases h0
 ·obtain ⟨v0, p0, q0⟩ := ItL.at hL (i := 0) (x := y0) rfl
  obtain ⟨v1, p1, q1⟩ := ItL.at hL (i := 1) (x := y1) rfl
  obtain ⟨a0, c0, A0, C0, rfl⟩ := q0.form
  obtain ⟨a1, c1, A1, C1, rfl⟩ := q1.form
  refine ⟨g, o, a0, c0, A0, C0, a1, c1, A1, C1, rfl, fun w' hb => ⟨⟨ItV.below hb _ q0, ItV.below hb _ q1⟩, ?_, ?_⟩⟩
  ·obtain ⟨u0, u1, u2, u3, u4, e, h0, h1, h2, h3, h4⟩ := p0.below hb hg
   injection e with e
   have e' := congrArg Array.toList e
   simp only [List.cons.injEq, and_true] at e'
   obtain ⟨rfl, rfl, rfl, rfl, rfl⟩ := e'
   simp only [Nat.zero_mul, Nat.add_zero] at h0 h1 h2 h3 h4
   exact ⟨h0, h1, h2, h3, h4⟩
  ·obtain ⟨u0, u1, u2, u3, u4, e, h0, h1, h2, h3, h4⟩ := p1.below hb hg
   injection e with e
   have e' := congrArg Array.toList e
   simp only [List.cons.injEq, and_true] at e'
   obtain ⟨rfl, rfl, rfl, rfl, rfl⟩ := e'
   simp only [Nat.one_mul] at h0 h1 h2 h3 h4
   exact ⟨h0, h1, h2, h3, h4⟩

theorem endpointOf_any (x : It) (v : Value) (w : World) (hd : x.depth ≤ 60000) (hv : ItV w w.heap.size v x) : Calls Tryz.prog 149 #[v] w (EpP w x) := by
 obtain ⟨a, c, A, C, rfl⟩ := hv.form
 obtain ⟨W, hW⟩ : ∃ W, W = (w.alloc (.cells #[.int .i64 x.k, .int .u64 x.n, .slice a x.b.length c, .string ⟨x.s.toArray⟩, .slice A x.l.length C] 45)).alloc (.cells #[.int .u32 0, .int .u32 0] 27) := ⟨_, rfl⟩
 have HB : Hid (Below w.heap.size w W) := by rw [hW]; exact below_al (below_al bR _) _
 have hsW : W.heap.size ≤ w.heap.size + 2 ∧ w.heap.size + 2 ≤ W.heap.size := by rw [hW]; simp
 have HX : Hid (∀ w', Below W.heap.size W w' → (w'.cell? ⟨w.heap.size, 0, none⟩ = some (.int .i64 x.k) ∧ w'.cell? ⟨w.heap.size, 1, none⟩ = some (.int .u64 x.n) ∧ w'.cell? ⟨w.heap.size, 2, none⟩ = some (.slice a x.b.length c) ∧ w'.cell? ⟨w.heap.size, 3, none⟩ = some (.string ⟨x.s.toArray⟩) ∧ w'.cell? ⟨w.heap.size, 4, none⟩ = some (.slice A x.l.length C))) := fun w' h => by
  have e : ∀ i, W.cell? ⟨w.heap.size, i, none⟩ = (#[.int .i64 x.k, .int .u64 x.n, .slice a x.b.length c, .string ⟨x.s.toArray⟩, .slice A x.l.length C])[i]? := fun i => by
   rw [hW]
   exact ((below_al (Below.refl (w.alloc (.cells #[.int .i64 x.k, .int .u64 x.n, .slice a x.b.length c, .string ⟨x.s.toArray⟩, .slice A x.l.length C] 45)).heap.size (w.alloc (.cells #[.int .i64 x.k, .int .u64 x.n, .slice a x.b.length c, .string ⟨x.s.toArray⟩, .slice A x.l.length C] 45))) _).cell (p := ⟨w.heap.size, i, none⟩) (by simp)).trans (World.cell?_alloc_mark _ _ _ _ _)
  have hh := fun i => (h.cell (p := ⟨w.heap.size, i, none⟩) (show w.heap.size < W.heap.size by omega)).trans (e i)
  exact ⟨hh 0, hh 1, hh 2, hh 3, hh 4⟩
 have HR : Hid (∀ w', Below W.heap.size W w' → (w'.cell? ⟨w.heap.size + 1, 0, none⟩ = some (.int .u32 0) ∧ w'.cell? ⟨w.heap.size + 1, 1, none⟩ = some (.int .u32 0)) ∧ ∀ i, w'.frozen? ⟨w.heap.size + 1, i, none⟩ = false) := fun w' h => by
  have hh := fun i => (h.cell (p := ⟨w.heap.size + 1, i, none⟩) (show w.heap.size + 1 < W.heap.size by omega)).trans (by rw [hW, ← World.size_alloc w (.cells #[.int .i64 x.k, .int .u64 x.n, .slice a x.b.length c, .string ⟨x.s.toArray⟩, .slice A x.l.length C] 45), World.cell?_alloc_mark] : W.cell? ⟨w.heap.size + 1, i, none⟩ = (#[Value.int .u32 0, .int .u32 0])[i]?)
  refine ⟨⟨hh 0, hh 1⟩, fun i => (h.frozen (p := ⟨w.heap.size + 1, i, none⟩) (show w.heap.size + 1 < W.heap.size by omega)).trans ?_⟩
  rw [hW, ← World.size_alloc w (.cells #[.int .i64 x.k, .int .u64 x.n, .slice a x.b.length c, .string ⟨x.s.toArray⟩, .slice A x.l.length C] 45)]
  exact World.frozen?_alloc_new _ _ _ _
 obtain ⟨W1, hW1⟩ : ∃ W', W' = W.alloc (.cells #[.int .i64 2] 3) := ⟨_, rfl⟩
 have HB1 : Hid (Below W.heap.size W W1) := by rw [hW1]; exact below_al bR _
 have HP : Hid (∀ w', Below W1.heap.size W1 w' → w'.cell? ⟨W.heap.size, 0, none⟩ = some (.int .i64 ((2 : Nat) : Int))) := fun w' h => by
  refine (h.cell (p := ⟨W.heap.size, 0, none⟩) (show W.heap.size < W1.heap.size by rw [hW1]; simp)).trans ?_
  rw [hW1]
  simp
 have HBW1 : Hid (Below w.heap.size w W1) := HB.out.trans (HB1.out.mono HB.out.size)
 have HW := h_ hW
 have HW1 := h_ hW1
 have HD := h_ hd
 have HV := h_ hv
 clear hW hW1 hd hv
 obtain ⟨x0, x1, x2, x3, x4⟩ := HX.out W1 HB1.out
 go_enter Tryz.func149, Tryz.ntmps149
 go_wp2_with fail
 rw [← HW.out]
 refine (shape_any 2 W).mono ?_
 rintro e w' ⟨rfl, rfl⟩
 rw [← HW1.out]
 go_wp2_with fail
 refine (shape1_any x a A c C W.heap.size 2 W1 (by decide) (HV.out.on HBW1.out) (HP.out W1 bR)).mono ?_
 rintro e w2 ⟨hb2, ⟨rfl, hsh⟩ | ⟨rfl, hsh⟩⟩
 rotate_left
 ·have HB2 := h_ (HBW1.out.trans (hb2.mono HBW1.out.size))
  have HSH := h_ hsh
  clear hb2 hsh x0 x1 x2 x3 x4
  go_wp2_with fail
  exact ⟨rfl, HB2.out, .inr ⟨rfl, epI_sh HSH.out⟩⟩
 obtain ⟨y0, y1, hxl⟩ := shL_two hsh
 obtain ⟨g, o, a0, c0, A0, C0, a1, c1, A1, C1, rfl, hpair⟩ := HV.out.pair hxl
 have HB12 := h_ hb2
 have HB2 : Hid (Below w.heap.size w w2) := HBW1.out.trans (hb2.mono HBW1.out.size)
 have HSH := h_ (epI_two hsh hxl)
 have HPR := h_ hpair
 have hlen : x.l.length = 2 := by rw [hxl]; rfl
 have HD0 : Hid (y0.depth ≤ 60000) := Nat.le_trans (depth_mem (by rw [hxl]; simp)) HD.out
 have HD1 : Hid (y1.depth ≤ 60000) := Nat.le_trans (depth_mem (by rw [hxl]; simp)) HD.out
 rw [hlen]
 clear hb2 hsh hxl hpair hlen x0 x1 x2 x3 x4
 obtain ⟨-, ⟨d0, d1, d2, d3, d4⟩, -⟩ := HPR.out w2 HB2.out
 go_wp2_with fail
 refine (numberOf_any y0 _ w2 HD0.out (ItV.mono HB2.out.size _ (HPR.out w2 HB2.out).1.1)).mono ?_
 rintro e w3 ⟨hb3, ⟨k0, rfl, hk0, hkl⟩ | ⟨rfl, hk0⟩⟩
 rotate_left
 ·have HB3 := h_ (below_on HB2.out hb3)
  have HK0 := h_ hk0
  clear hb3 hk0 d0 d1 d2 d3 d4
  go_wp2_with fail
  exact ⟨rfl, HB3.out, .inr ⟨rfl, by rw [HSH.out, HK0.out]⟩⟩
 have HB3 := h_ (below_on HB2.out hb3)
 have HB13 := h_ (below_on HB12.out hb3)
 have HK0 := h_ hk0
 clear hb3 hk0 d0 d1 d2 d3 d4
 obtain ⟨-, -, e0, e1, e2, e3, e4⟩ := HPR.out w3 HB3.out
 by_cases h1 : k0 = 1
 ·subst h1
  go_wp2_with fail
  refine (numberOf_any y1 _ w3 HD1.out (ItV.mono HB3.out.size _ (HPR.out w3 HB3.out).1.2)).mono ?_
  rintro e w4 ⟨hb4, ⟨k1, rfl, hk1, _⟩ | ⟨rfl, hk1⟩⟩
  rotate_left
  ·have HB4 := h_ (below_on HB3.out hb4)
   have HK1 := h_ hk1
   clear hb4 hk1 e0 e1 e2 e3 e4
   go_wp2_with fail
   exact ⟨rfl, HB4.out, .inr ⟨rfl, by rw [HSH.out, HK0.out, HK1.out]; rfl⟩⟩
  have HB4 := h_ (below_on HB3.out hb4)
  have HB14 := h_ (below_on HB13.out hb4)
  have HK1 := h_ hk1
  clear hb4 hk1 e0 e1 e2 e3 e4
  by_cases h2 : k1 = 0
  ·subst h2
   go_wp2_with fail
   refine (need_yes _).mono ?_
   rintro e w5 ⟨rfl, rfl⟩
   obtain ⟨⟨r0, r1⟩, rf⟩ := HR.out _ (HB1.out.trans (HB14.out.mono HB1.out.size))
   have f0 := rf 0
   have f1 := rf 1
   go_wp2_with fail
   obtain ⟨s0, s1⟩ := put2 (.int .u32 0) (.int .u32 0) r0 r1
   have HB5 := h_ ((HB4.out.setCell (p := ⟨w.heap.size + 1, 0, none⟩) (Nat.le_succ _) (.int .u32 0)).setCell (p := ⟨w.heap.size + 1, 1, none⟩) (Nat.le_succ _) (.int .u32 0))
   refine bodyPost_ret (v := .agg #[.int .u32 0, .int .u32 0]) (by simp [results, Tryz.results149, go_sem, s0, s1]) rfl ⟨HB5.out, .inl ⟨0, 0, rfl, ?_⟩⟩
   rw [HSH.out, HK0.out, HK1.out]
   rfl
  ·have h2' : ((k1 : Int) == 0) = false := by simp; omega
   have h2'' : ¬ (k1 : Int) = 0 := by omega
   have H2 := h_ h2
   clear h2
   go_wp2_with fail
   refine (need_no _).mono ?_
   rintro e w5 ⟨rfl, rfl⟩
   rw [nmGives_def]
   go_wp2_with fail
   refine ⟨rfl, HB4.out, .inr ⟨rfl, ?_⟩⟩
   rw [HSH.out, HK0.out, HK1.out]
   obtain ⟨j, rfl⟩ : ∃ j, k1 = j + 1 := ⟨k1 - 1, by have := H2.out; omega⟩
   rfl
 ·have h1' : ((k0 : Int) == 1) = false := by simp; omega
  have h1'' : ¬ (k0 : Int) = 1 := by omega
  by_cases h2 : k0 = 2
  ·subst h2
   clear h1 h1' h1''
   go_wp2_with fail
   refine (shape1_any y1 a1 A1 c1 C1 W.heap.size 2 w3 (by decide) (ItV.mono HB3.out.size _ (HPR.out w3 HB3.out).1.2) (HP.out w3 HB13.out)).mono ?_
   rintro e w4 ⟨hb4, ⟨rfl, hsh⟩ | ⟨rfl, hsh⟩⟩
   rotate_left
   ·have HB4 := h_ (below_on HB3.out hb4)
    have HSH2 := h_ hsh
    clear hb4 hsh e0 e1 e2 e3 e4
    go_wp2_with fail
    exact ⟨rfl, HB4.out, .inr ⟨rfl, by rw [HSH.out, HK0.out]; exact epY_sh HSH2.out⟩⟩
   obtain ⟨z0, z1, hyl⟩ := shL_two hsh
   obtain ⟨g2, o2, a2, c2, A2, C2, a3, c3, A3, C3, rfl, hpair2⟩ := (HPR.out w bR).1.2.pair hyl
   have HPR2 := h_ hpair2
   have HB4 := h_ (below_on HB3.out hb4)
   have HB14 := h_ (below_on HB13.out hb4)
   have hlen2 : y1.l.length = 2 := by rw [hyl]; rfl
   have HE2 : Hid (epI x = epZ z0 z1) := by rw [Hid, HSH.out, HK0.out]; exact epY_two hsh hyl
   have HD2 : Hid (z0.depth ≤ 60000) := Nat.le_trans (depth_mem (by rw [hyl]; simp)) HD1.out
   have HD3 : Hid (z1.depth ≤ 60000) := Nat.le_trans (depth_mem (by rw [hyl]; simp)) HD1.out
   rw [hlen2]
   clear hb4 hsh hyl hpair2 hlen2 e0 e1 e2 e3 e4
   have HC : Hid (∀ w', Below w.heap.size w w' → (w'.cell? ⟨g2, o2, none⟩ = some (.int .i64 z0.k) ∧ w'.cell? ⟨g2, o2 + 1, none⟩ = some (.int .u64 z0.n) ∧ w'.cell? ⟨g2, o2 + 2, none⟩ = some (.slice a2 z0.b.length c2) ∧ w'.cell? ⟨g2, o2 + 3, none⟩ = some (.string ⟨z0.s.toArray⟩) ∧ w'.cell? ⟨g2, o2 + 4, none⟩ = some (.slice A2 z0.l.length C2)) ∧ (w'.cell? ⟨g2, o2 + 5, none⟩ = some (.int .i64 z1.k) ∧ w'.cell? ⟨g2, o2 + 5 + 1, none⟩ = some (.int .u64 z1.n) ∧ w'.cell? ⟨g2, o2 + 5 + 2, none⟩ = some (.slice a3 z1.b.length c3) ∧ w'.cell? ⟨g2, o2 + 5 + 3, none⟩ = some (.string ⟨z1.s.toArray⟩) ∧ w'.cell? ⟨g2, o2 + 5 + 4, none⟩ = some (.slice A3 z1.l.length C3))) := fun w' h => (HPR2.out w' h).2
   have F0 : Below w4.heap.size w4 w4.drew := bR.drew
   have HF : Hid (∀ w', Below w4.heap.size w4 w' → Below w.heap.size w w') := fun w' h => below_on HB4.out h
   go_wp2_with fail
   refine wp_region_held_drew (S := fun w' => (w'.cell? ⟨g2, o2, none⟩ = some (.int .i64 z0.k) ∧ w'.cell? ⟨g2, o2 + 1, none⟩ = some (.int .u64 z0.n) ∧ w'.cell? ⟨g2, o2 + 2, none⟩ = some (.slice a2 z0.b.length c2) ∧ w'.cell? ⟨g2, o2 + 3, none⟩ = some (.string ⟨z0.s.toArray⟩) ∧ w'.cell? ⟨g2, o2 + 4, none⟩ = some (.slice A2 z0.l.length C2)) ∧ (w'.cell? ⟨g2, o2 + 5, none⟩ = some (.int .i64 z1.k) ∧ w'.cell? ⟨g2, o2 + 5 + 1, none⟩ = some (.int .u64 z1.n) ∧ w'.cell? ⟨g2, o2 + 5 + 2, none⟩ = some (.slice a3 z1.b.length c3) ∧ w'.cell? ⟨g2, o2 + 5 + 3, none⟩ = some (.string ⟨z1.s.toArray⟩) ∧ w'.cell? ⟨g2, o2 + 5 + 4, none⟩ = some (.slice A3 z1.l.length C3))) (by kernel_rfl) (HC.out _ (HF.out _ F0)) (fun hHeld => ?_)
   refine nk_take_listed (i := 0) (v := ?_) rfl (by kernel_rfl) (by kernel_rfl) (by kernel_rfl) (fun _ _ _ h => h) (Or.inl ⟨by rfl, ?_⟩) (by assumption) ?_
   rotate_left
   ·intro w hSw; go_simp; all_goals with_reducible rfl
   simp only [Act.put, zA, zB, zC]
   refine nk_take_listed (i := 1) (v := ?_) rfl (by kernel_rfl) (by kernel_rfl) (by kernel_rfl) (fun _ _ _ h => h) (Or.inl ⟨by rfl, ?_⟩) (by assumption) ?_
   rotate_left
   ·intro w hSw; go_simp; all_goals with_reducible rfl
   simp only [Act.put, zA, zB, zC]
   refine nk_take_listed (i := 2) (v := ?_) rfl (by kernel_rfl) (by kernel_rfl) (by kernel_rfl) (fun _ _ _ h => h) (Or.inl ⟨by rfl, ?_⟩) (by assumption) ?_
   rotate_left
   ·intro w hSw; go_simp; all_goals with_reducible rfl
   simp only [Act.put, zA, zB, zC]
   refine nk_take_listed (i := 4) (v := ?_) rfl (by kernel_rfl) (by kernel_rfl) (by kernel_rfl) (fun _ _ _ h => h) (Or.inl ⟨by rfl, ?_⟩) (by assumption) ?_
   rotate_left
   ·intro w hSw; go_simp; all_goals with_reducible rfl
   simp only [Act.put, zA, zB, zC]
   refine nk_take_listed (i := 5) (v := ?_) rfl (by kernel_rfl) (by kernel_rfl) (by kernel_rfl) (fun _ _ _ h => h) (Or.inl ⟨by rfl, ?_⟩) (by assumption) ?_
   rotate_left
   ·intro w hSw; go_simp; all_goals with_reducible rfl
   simp only [Act.put, zA, zB, zC]
   refine nk_take_listed (i := 6) (v := ?_) rfl (by kernel_rfl) (by kernel_rfl) (by kernel_rfl) (fun _ _ _ h => h) (Or.inl ⟨by rfl, ?_⟩) (by assumption) ?_
   rotate_left
   ·intro w hSw; go_simp; all_goals with_reducible rfl
   simp only [Act.put, zA, zB, zC]
   refine wpAnyH_ready (rs := [3]) (by kernel_rfl) (by simp) (.cons rfl (fun K hK => ?_) .nil)
   go_simp
   refine (numberOf_any z0 _ _ HD2.out (ItV.mono (HF.out _ F0).size _ (HPR2.out _ (HF.out _ F0)).1.1)).mono ?_
   rintro e w5 ⟨hb5, ⟨n, rfl, hn, hnl⟩ | ⟨rfl, hn⟩⟩
   rotate_left
   ·exact ⟨rfl, HF.out _ (below_on F0 hb5), .inr ⟨rfl, by rw [HE2.out, epZ, hn]⟩⟩
   have HN := h_ hn
   clear hn
   have F1 : Below w4.heap.size w4 w5 := below_on F0 hb5
   refine hK.out _ _ (HC.out _ (HF.out _ F1)) (fun hHeld => ?_)
   clear hK K
   try simp only [Act.put, zA, zB, zC]
   refine wpAnyH_ready (rs := [7]) (by kernel_rfl) (by simp) (.cons rfl (fun K hK => ?_) .nil)
   go_simp
   refine (numberOf_any z1 _ _ HD3.out (ItV.mono (HF.out _ F1).size _ (HPR2.out _ (HF.out _ F1)).1.2)).mono ?_
   rintro e w6 ⟨hb6, ⟨m, rfl, hm, hml⟩ | ⟨rfl, hm⟩⟩
   rotate_left
   ·exact ⟨rfl, HF.out _ (below_on F1 hb6), .inr ⟨rfl, by rw [HE2.out, epZ, HN.out, hm]⟩⟩
   have HM := h_ hm
   clear hm
   have F2 : Below w4.heap.size w4 w6 := below_on F1 hb6
   refine hK.out _ _ (HC.out _ (HF.out _ F2)) (fun hHeld => ?_)
   clear hK K
   try simp only [Act.put, zA, zB, zC]
   cases hsv : sv n m
   ·have HSV := h_ hsv
    have HSN := h_ (fun w => served_no n m hsv w)
    clear hsv
    refine wpAnyH_ready (rs := [8]) (by kernel_rfl) (by simp) (.cons rfl (fun K hK => ?_) .nil)
    go_simp
    refine (HSN.out _).mono ?_
    rintro e w7 ⟨rfl, hb7⟩
    exact ⟨rfl, HF.out _ (below_on F2 hb7), .inr ⟨rfl, by rw [HE2.out, epZ, HN.out, HM.out]; simp [HSV.out]⟩⟩
   ·have HSV := h_ hsv
    have HSN := h_ (fun w => served_yes n m hsv w)
    clear hsv
    refine wpAnyH_ready (rs := [8]) (by kernel_rfl) (by simp) (.cons rfl (fun K hK => ?_) .nil)
    go_simp
    refine (HSN.out _).mono ?_
    rintro e w7 ⟨rfl, hb7⟩
    have F3 : Below w4.heap.size w4 w7 := below_on F2 hb7
    obtain ⟨⟨r0, r1⟩, rf⟩ := HR.out w7 (HB1.out.trans ((HB14.out.trans (F3.mono HB14.out.size)).mono HB1.out.size))
    have f0 := rf 0
    have f1 := rf 1
    refine hK.out _ _ (HC.out _ (HF.out _ F3)) (fun hHeld => ?_)
    clear hK K
    try simp only [Act.put, zA, zB, zC]
    refine wpAnyH_ready (rs := [9]) (by kernel_rfl) (by simp) (.cons rfl (fun K hK => ?_) .nil)
    go_simp
    refine hK.out _ _ (HC.out _ ((HF.out _ F3).setCell (p := ⟨w.heap.size + 1, 0, none⟩) (Nat.le_succ _) _ |>.setCell (p := ⟨w.heap.size + 1, 1, none⟩) (Nat.le_succ _) _)) (fun hHeld => ?_)
    clear hK K
    try simp only [Act.put, zA, zB, zC]
    refine wpAnyH_done (by kernel_rfl) ?_ _
    have HF3 := h_ F3
    clear F0 F1 F2 F3
    go_wp2
    obtain ⟨s0, s1⟩ := put2 (.int .u32 (n : Int)) (.int .u32 (m : Int)) r0 r1
    have HB9 := h_ (((HF.out _ HF3.out).setCell (p := ⟨w.heap.size + 1, 0, none⟩) (Nat.le_succ _) (.int .u32 (n : Int))).setCell (p := ⟨w.heap.size + 1, 1, none⟩) (Nat.le_succ _) (.int .u32 (m : Int)))
    refine bodyPost_ret (v := .agg #[.int .u32 n, .int .u32 m]) (by simp [results, Tryz.results149, go_sem, s0, s1]) rfl ⟨HB9.out, .inl ⟨n, m, rfl, ?_⟩⟩
    rw [HE2.out, epZ, HN.out, HM.out]
    simp [HSV.out]
  ·have h2' : ((k0 : Int) == 2) = false := by simp; omega
   have h2'' : ¬ (k0 : Int) = 2 := by omega
   have HH : Hid (k0 ≠ 1 ∧ k0 ≠ 2) := ⟨h1, h2⟩
   clear h1 h2 e0 e1 e2 e3 e4
   go_wp2_with fail
   refine ⟨rfl, HB3.out, .inr ⟨rfl, ?_⟩⟩
   rw [HSH.out, HK0.out]
   obtain ⟨n1, n2⟩ := HH.out
   match k0, n1, n2 with
   | 0, _, _ => rfl
   | j + 3, _, _ => rfl

def BoxI (w : World) (B P : Nat) (x : It) : Prop := ∃ a c A C, ItV w B (.agg #[.int .i64 x.k, .int .u64 x.n, .slice a x.b.length c, .string ⟨x.s.toArray⟩, .slice A x.l.length C]) x ∧ P < w.heap.size ∧
 w.cell? ⟨P, 0, none⟩ = some (.int .i64 x.k) ∧ w.cell? ⟨P, 1, none⟩ = some (.int .u64 x.n) ∧ w.cell? ⟨P, 2, none⟩ = some (.slice a x.b.length c) ∧ w.cell? ⟨P, 3, none⟩ = some (.string ⟨x.s.toArray⟩) ∧ w.cell? ⟨P, 4, none⟩ = some (.slice A x.l.length C)

theorem BoxI.on {w w' : World} {P : Nat} {x : It} (h : BoxI w w.heap.size P x) (hb : Below w.heap.size w w') : BoxI w' w'.heap.size P x := by
 obtain ⟨a, c, A, C, hv, hP, h0, h1, h2, h3, h4⟩ := h
 have hh : ∀ i, w'.cell? ⟨P, i, none⟩ = w.cell? ⟨P, i, none⟩ := fun i => hb.cell (p := ⟨P, i, none⟩) hP
 exact ⟨a, c, A, C, hv.on hb, Nat.lt_of_lt_of_le hP hb.size, (hh 0).trans h0, (hh 1).trans h1, (hh 2).trans h2, (hh 3).trans h3, (hh 4).trans h4⟩

theorem boxI_new {w : World} {x : It} {a A : Option Addr} {c C : Nat} (t : TypeId) (hv : ItV w w.heap.size (.agg #[.int .i64 x.k, .int .u64 x.n, .slice a x.b.length c, .string ⟨x.s.toArray⟩, .slice A x.l.length C]) x) :
  BoxI (w.alloc (.cells #[.int .i64 x.k, .int .u64 x.n, .slice a x.b.length c, .string ⟨x.s.toArray⟩, .slice A x.l.length C] t)) (w.alloc (.cells #[.int .i64 x.k, .int .u64 x.n, .slice a x.b.length c, .string ⟨x.s.toArray⟩, .slice A x.l.length C] t)).heap.size w.heap.size x :=
 ⟨a, c, A, C, hv.on (below_al bR _), by simp, by simp, by simp, by simp, by simp, by simp⟩

theorem epI_itE (n m : Nat) (h : 0 < n ∨ m = 0) (hn : n ≤ 4294967295) (hm : m ≤ 4294967295) : epI (itE n m) = some (n, m) := by
 by_cases h0 : n = 0
 ·subst h0
  obtain rfl : m = 0 := by omega
  decide +kernel
 ·have e : itE n m = itLs [itU 2, itLs [itU n, itU m]] := if_neg h0
  have s1 : shL (itLs [itU 2, itLs [itU n, itU m]]) 2 = true := rfl
  have s2 : shL (itLs [itU n, itU m]) 2 = true := rfl
  have k2 : nuN (itU 2) = some 2 := nuN_itU 2
  have hsv : sv n m = true := by simp [sv]; omega
  rw [e, epI_two s1 rfl, k2]
  show epY _ = _
  rw [epY_two s2 rfl, epZ, nuN_itU, nuN_itU]
  simp [hsv]

theorem depth_itE (n m : Nat) : (itE n m).depth ≤ 3 := by
 unfold itE
 split <;> simp [itLs, itU, It.depth, It.depth.depthL]

end Go.Proofs.YteldifnkeekafaaGreatDoor
