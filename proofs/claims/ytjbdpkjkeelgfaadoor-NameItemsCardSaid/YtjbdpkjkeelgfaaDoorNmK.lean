/- Package name reads items: numberOf, shape. -/
import Derived.Test.YtjbdpkjkeelgfaaDoorNmRi
import Derived.Test.YtjbdpkjkeelgfaaDoorCbS3
namespace Go.Proofs.YtjbdpkjkeelgfaaDoor
open Go Go.RowKit Go.Shelf
set_option linter.unusedSimpArgs false
set_option linter.unusedVariables false
set_option maxRecDepth 100000

/-- An operation of a region that draws its order, taken first: of a written list. -/
theorem take_listed {P : Program} {l : List Oper} {Q : Exit → Act → World → Prop} {md : Region.Mode} {S : World → Prop} {i : Nat} {oi : Oper} {v : Value} {fuel : Nat} {listed : Array Bool} {a : Act} {w : World} (hi : l[i]? = some oi)
    (hs : Region.noSelect l.toArray = true) (hf : Region.free md l.toArray listed i = true) (hr : (Region.ready md l.toArray listed).contains i = true)
    (hQ : ∀ c a w, Q (.panic c) (a.put oi.dst v) w → Q (.panic c) a w) (hy : YieldsIf P l.toArray S oi v a) (hS : S w)
    (h : wpAnyH P md l.toArray Q S fuel (listed.setIfInBounds i true) (a.put oi.dst v) w) : wpAnyH P md l.toArray Q S (fuel + 1) listed a w :=
  wpAnyH_take (by simpa using hi) hs hf hr hQ hy hS h

theorem ItV.u64 {w : World} {B : Nat} {v : Value} {x : It} (h : ItV w B v x) : U64 x.n := by
  obtain ⟨k, n, b, s, l⟩ := x
  simp only [ItV] at h
  obtain ⟨A, ⟨a, c, C, _, _, _, h4, _⟩, _⟩ := h
  exact h4

/-- The number of an item that is nothing else. -/
def nuN (x : It) : Option Nat := if x.same (itU x.n) = true then some x.n.toNat else none

theorem nuN_itU (n : Nat) : nuN (itU n) = some n := by
  have e : (itU n).n = (n : Int) := rfl
  rw [nuN, e, if_pos (same_self _)]
  simp

theorem nuN_some {x : It} {n : Nat} (hx : 0 ≤ x.n) (h : nuN x = some n) : x = itU n := by
  unfold nuN at h
  by_cases h1 : x.same (itU x.n) = true
  · rw [if_pos h1] at h
    have h2 := (It.same_iff _ _).1 h1
    have h3 : x.n = (n : Int) := by simp at h; omega
    rw [← h3]
    exact h2
  · rw [if_neg h1] at h
    cases h

/-- What numberOf answers. -/
def NuP (w : World) (x : It) (e : Ending) (w' : World) : Prop := Below w.heap.size w w' ∧ ((∃ n : Nat, e = .returned (.int .u64 n) ∧ nuN x = some n ∧ n < 18446744073709551616) ∨ (e = .panicked [{ v := .iface 25 (.int .i64 130), recovered := false }] ∧ nuN x = none))

set_option maxHeartbeats 4000000 in
theorem numberOf_any (x : It) (v : Value) (w : World) (hd : x.depth ≤ 60000) (hv : ItV w w.heap.size v x) : Calls Tryd.prog 78 #[v] w (NuP w x) := by
  have hu := hv.u64
  obtain ⟨a, c, A, C, rfl⟩ := hv.form
  obtain ⟨W, hW⟩ : ∃ W, W = w.alloc (.cells #[.int .i64 x.k, .int .u64 x.n, .slice a x.b.length c, .string ⟨x.s.toArray⟩, .slice A x.l.length C] 33) := ⟨_, rfl⟩
  have HB : Hid (Below w.heap.size w W) := by rw [hW]; exact below_al (Below.refl _ _) _
  have HV : Hid (∀ w', Below W.heap.size W w' → ItV w' w'.heap.size (.agg #[.int .i64 x.k, .int .u64 x.n, .slice a x.b.length c, .string ⟨x.s.toArray⟩, .slice A x.l.length C]) x) := fun w' h => hv.on (HB.out.trans (h.mono HB.out.size))
  have HC : Hid (∀ w', Below W.heap.size W w' → (w'.cell? ⟨w.heap.size, 0, none⟩ = some (.int .i64 x.k) ∧ w'.cell? ⟨w.heap.size, 1, none⟩ = some (.int .u64 x.n) ∧ w'.cell? ⟨w.heap.size, 2, none⟩ = some (.slice a x.b.length c) ∧ w'.cell? ⟨w.heap.size, 3, none⟩ = some (.string ⟨x.s.toArray⟩) ∧ w'.cell? ⟨w.heap.size, 4, none⟩ = some (.slice A x.l.length C))) := fun w' h => by
    have hs : w.heap.size < W.heap.size := by rw [hW]; simp
    have hh := fun i => (h.cell (p := ⟨w.heap.size, i, none⟩) hs).trans (by rw [hW, World.cell?_alloc_mark] : W.cell? ⟨w.heap.size, i, none⟩ = (#[.int .i64 x.k, .int .u64 x.n, .slice a x.b.length c, .string ⟨x.s.toArray⟩, .slice A x.l.length C])[i]?)
    exact ⟨hh 0, hh 1, hh 2, hh 3, hh 4⟩
  have HW := Lib.hid hW
  have HD := Lib.hid hd
  have HU := Lib.hid hu
  clear hW hv hd hu
  have HS : Hid (∀ w', Below W.heap.size W w' → Calls Tryd.prog 91 #[.agg #[.int .i64 x.k, .int .u64 x.n, .slice a x.b.length c, .string ⟨x.s.toArray⟩, .slice A x.l.length C], .agg #[.int .i64 1, .int .u64 x.n, .slice none 0 0, .string ⟨#[]⟩, .slice none 0 0]] w' fun e w'' => e = .returned (.bool (x.same (itU x.n))) ∧ Below w'.heap.size w' w'') := fun w' h =>
    cSame_any x (itU x.n) _ (uintV x.n) w' HD.out (HV.out w' h) (ItS.itV (S := fun _ => False) (fun _ q => q.elim) _ (itS_uint _ _ _ HU.out))
  have HFIN : Hid (∀ q : Bool, x.same (itU x.n) = q → (q = true → nuN x = some x.n.toNat) ∧ (q = false → nuN x = none)) := fun q hq =>
    ⟨fun h => by rw [nuN, hq, h, if_pos rfl], fun h => by rw [nuN, hq, h, if_neg (by simp)]⟩
  obtain ⟨q, hq⟩ : ∃ q, q = x.same (itU x.n) := ⟨_, rfl⟩
  have HQ := Lib.hid (HFIN.out q hq.symm)
  rw [← hq] at HS
  clear hq HFIN
  have F0 : Below W.heap.size W W.drew := (Below.refl _ _).drew
  go_enter Tryd.func78, Tryd.ntmps78
  go_wp2_with fail
  rw [← HW.out]
  refine wp_region_held_drew (S := fun w' => (w'.cell? ⟨w.heap.size, 0, none⟩ = some (.int .i64 x.k) ∧ w'.cell? ⟨w.heap.size, 1, none⟩ = some (.int .u64 x.n) ∧ w'.cell? ⟨w.heap.size, 2, none⟩ = some (.slice a x.b.length c) ∧ w'.cell? ⟨w.heap.size, 3, none⟩ = some (.string ⟨x.s.toArray⟩) ∧ w'.cell? ⟨w.heap.size, 4, none⟩ = some (.slice A x.l.length C))) (by kernel_rfl) (HC.out _ F0) (fun hHeld => ?_)
  refine take_listed (i := 0) (v := ?_) rfl (by kernel_rfl) (by kernel_rfl) (by kernel_rfl) (fun _ _ _ h => h) (Or.inl ⟨by rfl, ?_⟩) (by assumption) ?_
  rotate_left
  · intro w hSw
    (try dsimp only at hSw)
    go_simp
    all_goals with_reducible rfl
  simp only [Act.put, List.setIfInBounds_toArray, List.set_cons_zero, List.set_cons_succ]
  refine take_listed (i := 1) (v := ?_) rfl (by kernel_rfl) (by kernel_rfl) (by kernel_rfl) (fun _ _ _ h => h) (Or.inl ⟨by rfl, ?_⟩) (by assumption) ?_
  rotate_left
  · intro w hSw
    (try dsimp only at hSw)
    go_simp
    all_goals with_reducible rfl
  simp only [Act.put, List.setIfInBounds_toArray, List.set_cons_zero, List.set_cons_succ]
  refine take_listed (i := 2) (v := ?_) rfl (by kernel_rfl) (by kernel_rfl) (by kernel_rfl) (fun _ _ _ h => h) (Or.inl ⟨by rfl, ?_⟩) (by assumption) ?_
  rotate_left
  · intro w hSw
    (try dsimp only at hSw)
    go_simp
    all_goals with_reducible rfl
  simp only [Act.put, List.setIfInBounds_toArray, List.set_cons_zero, List.set_cons_succ]
  refine wpAnyH_ready (rs := [3]) (by kernel_rfl) (by simp) ?_
  refine AllReadyH.cons rfl (fun K hK => ?_) AllReadyH.nil
  go_simp
  refine (uintItem_any x.n _).mono ?_
  rintro e w1 ⟨rfl, hb1⟩
  have F1 : Below W.heap.size W w1 := below_on F0 hb1
  refine hK.out _ _ (HC.out _ F1) (fun hHeld => ?_)
  clear hK K
  try simp only [Act.put, List.setIfInBounds_toArray, List.set_cons_zero, List.set_cons_succ]
  refine wpAnyH_ready (rs := [4]) (by kernel_rfl) (by simp) ?_
  refine AllReadyH.cons rfl (fun K hK => ?_) AllReadyH.nil
  go_simp
  refine (HS.out _ F1).mono ?_
  rintro e w2 ⟨rfl, hb2⟩
  have F2 : Below W.heap.size W w2 := below_on F1 hb2
  refine hK.out _ _ (HC.out _ F2) (fun hHeld => ?_)
  clear hK K
  try simp only [Act.put, List.setIfInBounds_toArray, List.set_cons_zero, List.set_cons_succ]
  cases q
  · refine wpAnyH_ready (rs := [5]) (by kernel_rfl) (by simp) ?_
    refine AllReadyH.cons rfl (fun K hK => ?_) AllReadyH.nil
    go_simp
    refine (need_no _).mono ?_
    rintro e w3 ⟨rfl, rfl⟩
    exact ⟨rfl, HB.out.trans (F2.mono HB.out.size), .inr ⟨rfl, HQ.out.2 (by first | trivial | rfl)⟩⟩
  · refine wpAnyH_ready (rs := [5]) (by kernel_rfl) (by simp) ?_
    refine AllReadyH.cons rfl (fun K hK => ?_) AllReadyH.nil
    go_simp
    refine (need_yes _).mono ?_
    rintro e w3 ⟨rfl, rfl⟩
    refine hK.out _ _ (HC.out _ F2) (fun hHeld => ?_)
    clear hK K
    try simp only [Act.put, List.setIfInBounds_toArray, List.set_cons_zero, List.set_cons_succ]
    refine wpAnyH_done (by kernel_rfl) ?_ _
    obtain ⟨c0, c1, c2, c3, c4⟩ := HC.out _ F2
    have HF2 := Lib.hid F2
    clear F0 F1 F2
    go_wp2
    go_ret
    refine ⟨HB.out.trans (HF2.out.mono HB.out.size), .inl ⟨x.n.toNat, ?_, HQ.out.1 (by first | trivial | rfl), ?_⟩⟩
    · have h0 := HU.out.1
      show Ending.returned (Value.int IntKind.u64 x.n) = _
      rw [Int.toNat_of_nonneg h0]
    · have := HU.out.1
      have := HU.out.2
      omega

/-- Is an item a bare list of so many? -/
def shL (x : It) (n : Nat) : Bool := decide (x.l.length = n) && (It.mk x.k x.n x.b x.s []).same (itLs [])

/-- What shape's closure answers. -/
def ShP (w : World) (x : It) (n : Nat) (A : Option Addr) (C : Nat) (e : Ending) (w' : World) : Prop := Below w.heap.size w w' ∧ ((e = .returned (.slice A x.l.length C) ∧ shL x n = true) ∨ (e = .panicked [{ v := .iface 25 (.int .i64 130), recovered := false }] ∧ shL x n = false))

theorem ItV.bare {w : World} {B : Nat} {x : It} {a A : Option Addr} {c C : Nat} (h : ItV w B (.agg #[.int .i64 x.k, .int .u64 x.n, .slice a x.b.length c, .string ⟨x.s.toArray⟩, .slice A x.l.length C]) x) : ItV w B (.agg #[.int .i64 x.k, .int .u64 x.n, .slice a x.b.length c, .string ⟨x.s.toArray⟩, .slice none 0 0]) (.mk x.k x.n x.b x.s []) := by
  obtain ⟨k, n, b, s, l⟩ := x
  simp only [ItV] at h ⊢
  obtain ⟨A1, ⟨a1, c1, C1, e, ⟨h1, _⟩, h2, h3, h4, h5, h6, _⟩, _⟩ := h
  simp only [It.k, It.n, It.b, It.s, It.l] at e ⊢
  injection e with e
  have e' := congrArg Array.toList e
  simp only [List.cons.injEq, Value.slice.injEq, and_true, true_and] at e'
  obtain ⟨⟨rfl, rfl⟩, rfl, rfl⟩ := e'
  exact ⟨none, ⟨a, c, 0, rfl, ⟨h1, Nat.le_refl _⟩, h2, h3, h4, h5, h6, Nat.zero_le _⟩, .inl trivial⟩

set_option maxHeartbeats 4000000 in
theorem shape1_any (x : It) (a A : Option Addr) (c C : Nat) (P n : Nat) (w : World) (hn : n ≤ 100) (hv : ItV w w.heap.size (.agg #[.int .i64 x.k, .int .u64 x.n, .slice a x.b.length c, .string ⟨x.s.toArray⟩, .slice A x.l.length C]) x) (hp : w.cell? ⟨P, 0, none⟩ = some (.int .i64 n)) : Calls Tryd.prog 90 #[.agg #[.int .i64 x.k, .int .u64 x.n, .slice a x.b.length c, .string ⟨x.s.toArray⟩, .slice A x.l.length C], .pointer (some ⟨P, 0, none⟩)] w (ShP w x n A C) := by
  have hP : P < w.heap.size := World.block_lt_of_cell? w _ hp
  have hll : x.l.length ≤ 140737488355328 := by
    obtain ⟨k, n, b, s, l⟩ := x
    simp only [ItV] at hv
    obtain ⟨A1, ⟨a1, c1, C1, _, _, _, _, _, _, _, h6⟩, _⟩ := hv
    exact h6
  obtain ⟨W, hW⟩ : ∃ W, W = w.alloc (.cells #[.int .i64 x.k, .int .u64 x.n, .slice a x.b.length c, .string ⟨x.s.toArray⟩, .slice none 0 0] 33) := ⟨_, rfl⟩
  have HB : Hid (Below w.heap.size w W) := by rw [hW]; exact below_al (Below.refl _ _) _
  have HV : Hid (∀ w', Below W.heap.size W w' → ItV w' w'.heap.size (.agg #[.int .i64 x.k, .int .u64 x.n, .slice a x.b.length c, .string ⟨x.s.toArray⟩, .slice none 0 0]) (.mk x.k x.n x.b x.s [])) := fun w' h => hv.bare.on (HB.out.trans (h.mono HB.out.size))
  have HC : Hid (∀ w', Below W.heap.size W w' → w'.cell? ⟨P, 0, none⟩ = some (.int .i64 n) ∧ (w'.cell? ⟨w.heap.size, 0, none⟩ = some (.int .i64 x.k) ∧ w'.cell? ⟨w.heap.size, 1, none⟩ = some (.int .u64 x.n) ∧ w'.cell? ⟨w.heap.size, 2, none⟩ = some (.slice a x.b.length c) ∧ w'.cell? ⟨w.heap.size, 3, none⟩ = some (.string ⟨x.s.toArray⟩) ∧ w'.cell? ⟨w.heap.size, 4, none⟩ = some (.slice none 0 0))) := fun w' h => by
    have hs : w.heap.size < W.heap.size := by rw [hW]; simp
    have hh := fun i => (h.cell (p := ⟨w.heap.size, i, none⟩) hs).trans (by rw [hW, World.cell?_alloc_mark] : W.cell? ⟨w.heap.size, i, none⟩ = (#[.int .i64 x.k, .int .u64 x.n, .slice a x.b.length c, .string ⟨x.s.toArray⟩, .slice none 0 0])[i]?)
    exact ⟨((HB.out.trans (h.mono HB.out.size)).cell (p := ⟨P, 0, none⟩) hP).trans hp, hh 0, hh 1, hh 2, hh 3, hh 4⟩
  have HW := Lib.hid hW
  clear hW hv
  have HS : Hid (∀ w', Below W.heap.size W w' → Calls Tryd.prog 91 #[.agg #[.int .i64 x.k, .int .u64 x.n, .slice a x.b.length c, .string ⟨x.s.toArray⟩, .slice none 0 0], .agg #[.int .i64 4, .int .u64 0, .slice none 0 0, .string ⟨#[]⟩, .slice none 0 0]] w' fun e w'' => e = .returned (.bool ((It.mk x.k x.n x.b x.s []).same (itLs []))) ∧ Below w'.heap.size w' w'') := fun w' h =>
    cSame_any (.mk x.k x.n x.b x.s []) (itLs []) _ _ w' (by simp [It.depth, It.depth.depthL]) (HV.out w' h) (ItS.itV (S := fun _ => False) (fun _ q => q.elim) _ (itS_plain _ _ 4 0 [] (by decide) ⟨by decide, by decide⟩ (Nat.zero_le _)))
  obtain ⟨q, hq⟩ : ∃ q, q = (It.mk x.k x.n x.b x.s []).same (itLs []) := ⟨_, rfl⟩
  have HQ : Hid (shL x n = (decide (x.l.length = n) && q)) := by rw [hq]; rfl
  rw [← hq] at HS
  clear hq
  have F0 : Below W.heap.size W W.drew := (Below.refl _ _).drew
  by_cases hlen : x.l.length = n
  · have hl : ((x.l.length : Int) == (n : Int)) = true := by simp; omega
    have HL := Lib.hid hlen
    clear hlen
    go_enter Tryd.func90, Tryd.ntmps90
    go_wp2_with fail
    rw [← HW.out]
    refine wp_region_held_drew (S := fun w' => w'.cell? ⟨P, 0, none⟩ = some (.int .i64 n) ∧ (w'.cell? ⟨w.heap.size, 0, none⟩ = some (.int .i64 x.k) ∧ w'.cell? ⟨w.heap.size, 1, none⟩ = some (.int .u64 x.n) ∧ w'.cell? ⟨w.heap.size, 2, none⟩ = some (.slice a x.b.length c) ∧ w'.cell? ⟨w.heap.size, 3, none⟩ = some (.string ⟨x.s.toArray⟩) ∧ w'.cell? ⟨w.heap.size, 4, none⟩ = some (.slice none 0 0))) (by kernel_rfl) (HC.out _ F0) (fun hHeld => ?_)
    refine take_listed (i := 0) (v := ?_) rfl (by kernel_rfl) (by kernel_rfl) (by kernel_rfl) (fun _ _ _ h => h) (Or.inl ⟨by rfl, ?_⟩) (by assumption) ?_
    rotate_left
    · intro w hSw
      (try dsimp only at hSw)
      go_simp
      all_goals with_reducible rfl
    simp only [Act.put, List.setIfInBounds_toArray, List.set_cons_zero, List.set_cons_succ]
    refine take_listed (i := 1) (v := ?_) rfl (by kernel_rfl) (by kernel_rfl) (by kernel_rfl) (fun _ _ _ h => h) (Or.inl ⟨by rfl, ?_⟩) (by assumption) ?_
    rotate_left
    · intro w hSw
      (try dsimp only at hSw)
      go_simp
      all_goals with_reducible rfl
    simp only [Act.put, List.setIfInBounds_toArray, List.set_cons_zero, List.set_cons_succ]
    refine take_listed (i := 2) (v := ?_) rfl (by kernel_rfl) (by kernel_rfl) (by kernel_rfl) (fun _ _ _ h => h) (Or.inl ⟨by rfl, ?_⟩) (by assumption) ?_
    rotate_left
    · intro w hSw
      (try dsimp only at hSw)
      go_simp
      all_goals with_reducible rfl
    simp only [Act.put, List.setIfInBounds_toArray, List.set_cons_zero, List.set_cons_succ]
    refine take_listed (i := 3) (v := ?_) rfl (by kernel_rfl) (by kernel_rfl) (by kernel_rfl) (fun _ _ _ h => h) (Or.inl ⟨by rfl, ?_⟩) (by assumption) ?_
    rotate_left
    · intro w hSw
      (try dsimp only at hSw)
      go_simp
      all_goals with_reducible rfl
    simp only [Act.put, List.setIfInBounds_toArray, List.set_cons_zero, List.set_cons_succ]
    refine take_listed (i := 4) (v := ?_) rfl (by kernel_rfl) (by kernel_rfl) (by kernel_rfl) (fun _ _ _ h => h) (Or.inl ⟨by rfl, ?_⟩) (by assumption) ?_
    rotate_left
    · intro w hSw
      (try dsimp only at hSw)
      go_simp
      all_goals with_reducible rfl
    simp only [Act.put, List.setIfInBounds_toArray, List.set_cons_zero, List.set_cons_succ]
    refine take_listed (i := 5) (v := ?_) rfl (by kernel_rfl) (by kernel_rfl) (by kernel_rfl) (fun _ _ _ h => h) (Or.inl ⟨by rfl, ?_⟩) (by assumption) ?_
    rotate_left
    · intro w hSw
      (try dsimp only at hSw)
      go_simp
      all_goals with_reducible rfl
    simp only [Act.put, List.setIfInBounds_toArray, List.set_cons_zero, List.set_cons_succ]
    refine wpAnyH_ready (rs := [6]) (by kernel_rfl) (by simp) ?_
    refine AllReadyH.cons rfl (fun K hK => ?_) AllReadyH.nil
    go_simp
    refine (listItem_any _ _ _ _).mono ?_
    rintro e w1 ⟨rfl, hb1⟩
    have F1 : Below W.heap.size W w1 := below_on F0 hb1
    refine hK.out _ _ (HC.out _ F1) (fun hHeld => ?_)
    clear hK K
    try simp only [Act.put, List.setIfInBounds_toArray, List.set_cons_zero, List.set_cons_succ]
    refine wpAnyH_ready (rs := [7]) (by kernel_rfl) (by simp) ?_
    refine AllReadyH.cons rfl (fun K hK => ?_) AllReadyH.nil
    go_simp
    refine (HS.out _ F1).mono ?_
    rintro e w2 ⟨rfl, hb2⟩
    have F2 : Below W.heap.size W w2 := below_on F1 hb2
    refine hK.out _ _ (HC.out _ F2) (fun hHeld => ?_)
    clear hK K
    try simp only [Act.put, List.setIfInBounds_toArray, List.set_cons_zero, List.set_cons_succ]
    refine take_listed (i := 8) (v := ?_) rfl (by kernel_rfl) (by kernel_rfl) (by kernel_rfl) (fun _ _ _ h => h) (Or.inl ⟨by rfl, ?_⟩) (by assumption) ?_
    rotate_left
    · intro w hSw
      (try dsimp only at hSw)
      go_simp
      all_goals with_reducible rfl
    simp only [Act.put, List.setIfInBounds_toArray, List.set_cons_zero, List.set_cons_succ]
    cases q
    · refine wpAnyH_ready (rs := [9]) (by kernel_rfl) (by simp) ?_
      refine AllReadyH.cons rfl (fun K hK => ?_) AllReadyH.nil
      go_simp
      refine (need_no _).mono ?_
      rintro e w3 ⟨rfl, rfl⟩
      exact ⟨rfl, HB.out.trans (F2.mono HB.out.size), .inr ⟨rfl, by rw [HQ.out]; simp⟩⟩
    · refine wpAnyH_ready (rs := [9]) (by kernel_rfl) (by simp) ?_
      refine AllReadyH.cons rfl (fun K hK => ?_) AllReadyH.nil
      go_simp
      refine (need_yes _).mono ?_
      rintro e w3 ⟨rfl, rfl⟩
      refine hK.out _ _ (HC.out _ F2) (fun hHeld => ?_)
      clear hK K
      try simp only [Act.put, List.setIfInBounds_toArray, List.set_cons_zero, List.set_cons_succ]
      refine wpAnyH_done (by kernel_rfl) ?_ _
      have HF2 := Lib.hid F2
      clear F0 F1 F2
      go_wp2
      go_ret
      refine ⟨HB.out.trans (HF2.out.mono HB.out.size), .inl ⟨rfl, ?_⟩⟩
      rw [HQ.out, decide_eq_true HL.out]
      rfl
  · have hl : ((x.l.length : Int) == (n : Int)) = false := by simp; omega
    have HL : Hid (shL x n = false) := by rw [Hid, HQ.out, decide_eq_false hlen]; rfl
    clear hlen
    go_enter Tryd.func90, Tryd.ntmps90
    go_wp2_with fail
    rw [← HW.out]
    refine wp_region_held_drew (S := fun w' => w'.cell? ⟨P, 0, none⟩ = some (.int .i64 n) ∧ (w'.cell? ⟨w.heap.size, 0, none⟩ = some (.int .i64 x.k) ∧ w'.cell? ⟨w.heap.size, 1, none⟩ = some (.int .u64 x.n) ∧ w'.cell? ⟨w.heap.size, 2, none⟩ = some (.slice a x.b.length c) ∧ w'.cell? ⟨w.heap.size, 3, none⟩ = some (.string ⟨x.s.toArray⟩) ∧ w'.cell? ⟨w.heap.size, 4, none⟩ = some (.slice none 0 0))) (by kernel_rfl) (HC.out _ F0) (fun hHeld => ?_)
    refine take_listed (i := 0) (v := ?_) rfl (by kernel_rfl) (by kernel_rfl) (by kernel_rfl) (fun _ _ _ h => h) (Or.inl ⟨by rfl, ?_⟩) (by assumption) ?_
    rotate_left
    · intro w hSw
      (try dsimp only at hSw)
      go_simp
      all_goals with_reducible rfl
    simp only [Act.put, List.setIfInBounds_toArray, List.set_cons_zero, List.set_cons_succ]
    refine take_listed (i := 1) (v := ?_) rfl (by kernel_rfl) (by kernel_rfl) (by kernel_rfl) (fun _ _ _ h => h) (Or.inl ⟨by rfl, ?_⟩) (by assumption) ?_
    rotate_left
    · intro w hSw
      (try dsimp only at hSw)
      go_simp
      all_goals with_reducible rfl
    simp only [Act.put, List.setIfInBounds_toArray, List.set_cons_zero, List.set_cons_succ]
    refine take_listed (i := 2) (v := ?_) rfl (by kernel_rfl) (by kernel_rfl) (by kernel_rfl) (fun _ _ _ h => h) (Or.inl ⟨by rfl, ?_⟩) (by assumption) ?_
    rotate_left
    · intro w hSw
      (try dsimp only at hSw)
      go_simp
      all_goals with_reducible rfl
    simp only [Act.put, List.setIfInBounds_toArray, List.set_cons_zero, List.set_cons_succ]
    refine take_listed (i := 3) (v := ?_) rfl (by kernel_rfl) (by kernel_rfl) (by kernel_rfl) (fun _ _ _ h => h) (Or.inl ⟨by rfl, ?_⟩) (by assumption) ?_
    rotate_left
    · intro w hSw
      (try dsimp only at hSw)
      go_simp
      all_goals with_reducible rfl
    simp only [Act.put, List.setIfInBounds_toArray, List.set_cons_zero, List.set_cons_succ]
    refine take_listed (i := 4) (v := ?_) rfl (by kernel_rfl) (by kernel_rfl) (by kernel_rfl) (fun _ _ _ h => h) (Or.inl ⟨by rfl, ?_⟩) (by assumption) ?_
    rotate_left
    · intro w hSw
      (try dsimp only at hSw)
      go_simp
      all_goals with_reducible rfl
    simp only [Act.put, List.setIfInBounds_toArray, List.set_cons_zero, List.set_cons_succ]
    refine take_listed (i := 5) (v := undef) rfl (by kernel_rfl) (by kernel_rfl) (by kernel_rfl) (fun _ _ _ h => h) (Or.inr ⟨by rfl, rfl⟩) (by assumption) ?_
    simp only [Act.put, List.setIfInBounds_toArray, List.set_cons_zero, List.set_cons_succ]
    refine wpAnyH_ready (rs := [6]) (by kernel_rfl) (by simp) ?_
    refine AllReadyH.cons rfl (fun K hK => ?_) AllReadyH.nil
    go_simp
    refine hK.out _ _ (HC.out _ F0) (fun hHeld => ?_)
    clear hK K
    try simp only [Act.put, List.setIfInBounds_toArray, List.set_cons_zero, List.set_cons_succ]
    refine wpAnyH_ready (rs := [7]) (by kernel_rfl) (by simp) ?_
    refine AllReadyH.cons rfl (fun K hK => ?_) AllReadyH.nil
    go_simp
    refine hK.out _ _ (HC.out _ F0) (fun hHeld => ?_)
    clear hK K
    try simp only [Act.put, List.setIfInBounds_toArray, List.set_cons_zero, List.set_cons_succ]
    refine take_listed (i := 8) (v := ?_) rfl (by kernel_rfl) (by kernel_rfl) (by kernel_rfl) (fun _ _ _ h => h) (Or.inl ⟨by rfl, ?_⟩) (by assumption) ?_
    rotate_left
    · intro w hSw
      (try dsimp only at hSw)
      go_simp
      all_goals with_reducible rfl
    simp only [Act.put, List.setIfInBounds_toArray, List.set_cons_zero, List.set_cons_succ]
    refine wpAnyH_ready (rs := [9]) (by kernel_rfl) (by simp) ?_
    refine AllReadyH.cons rfl (fun K hK => ?_) AllReadyH.nil
    go_simp
    refine (need_no _).mono ?_
    rintro e w3 ⟨rfl, rfl⟩
    exact ⟨rfl, HB.out.trans (F0.mono HB.out.size), .inr ⟨rfl, HL.out⟩⟩

theorem shape_any (n : Int) (w : World) : Calls Tryd.prog 77 #[.int .i64 n] w fun e w' => e = .returned (.func (.func 90) #[] #[.pointer (some ⟨w.heap.size, 0, none⟩)]) ∧ w' = w.alloc (.cells #[.int .i64 n] 3) := by
  have hmf : ∀ (fn : Fn) (first cap : Array Value) (w : World), (Instr.makeFunc fn first cap).run Tryd.prog w = .ok (.func fn first cap) w := fun _ _ _ _ => rfl
  go_enter Tryd.func77, Tryd.ntmps77
  go_wp2
  go_ret
  exact ⟨rfl, rfl⟩

end Go.Proofs.YtjbdpkjkeelgfaaDoor
