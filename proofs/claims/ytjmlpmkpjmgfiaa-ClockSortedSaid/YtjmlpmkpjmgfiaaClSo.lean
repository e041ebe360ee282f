/- Package clock's order of spans. -/
import Derived.Test.YtjmlpmkpjmgfiaaClF
import Derived.Deep.RegionHeld3
import Derived.Shelf.SlSortCmp.NoneTotal
namespace Go.Proofs.Ytjmlpmkpjmgfiaa
open Go.RowKit Go.Shelf Go.Sort
set_option linter.unusedSimpArgs false
set_option linter.unusedVariables false

/-- Which span is ahead. -/
def ordS (x y : Int × Int) : Int := if x.1 < y.1 then -1 else if y.1 < x.1 then 1 else if x.2 < y.2 then -1 else if y.2 < x.2 then 1 else 0

/-- What cmp.Compare answers. -/
def cmpT (x y : Int) : Int := if x < y then -1 else if y < x then 1 else 0

set_option maxHeartbeats 1000000 in
theorem isNaN_any (x : Int) (w : World) :
    Calls Try.prog 55 #[.int .u64 x] w fun e w' => e = .returned (.bool false) ∧ w = w' := by
  go_enter Try.func55, Try.ntmps55
  go_wp2
  go_ret
  exact ⟨rfl, rfl⟩

set_option maxHeartbeats 1000000 in
theorem cmp_any (x y : Int) (w : World) :
    Calls Try.prog 49 #[.int .u64 x, .int .u64 y] w fun e w' => e = .returned (.int .i64 (cmpT x y)) ∧ w = w' := by
  unfold cmpT
  by_cases h1 : x < y
  · go_enter Try.func49, Try.ntmps49
    go_wp2_with (go_at_call 55; refine (isNaN_any _ _).mono ?_; rintro e w' ⟨rfl, rfl⟩)
    go_ret
    exact ⟨by simp [h1], rfl⟩
  · by_cases h2 : y < x
    · go_enter Try.func49, Try.ntmps49
      go_wp2_with (go_at_call 55; refine (isNaN_any _ _).mono ?_; rintro e w' ⟨rfl, rfl⟩)
      go_ret
      exact ⟨by simp [h1, h2], rfl⟩
    · go_enter Try.func49, Try.ntmps49
      go_wp2_with (go_at_call 55; refine (isNaN_any _ _).mono ?_; rintro e w' ⟨rfl, rfl⟩)
      go_ret
      exact ⟨by simp [h1, h2], rfl⟩

theorem ordS_ne {f u g v : Int} (h : cmpT f g ≠ 0) : cmpT f g = ordS (f, u) (g, v) := by
  unfold cmpT at *
  unfold ordS
  simp only
  split <;> simp_all

theorem ordS_eq {f u g v : Int} (h : cmpT f g = 0) : cmpT u v = ordS (f, u) (g, v) := by
  unfold cmpT at *
  unfold ordS
  simp only
  have h1 : ¬ f < g := fun hh => by simp [hh] at h
  have h2 : ¬ g < f := fun hh => by simp [hh, h1] at h
  simp [h1, h2]

set_option maxRecDepth 100000 in
set_option maxHeartbeats 2000000 in
theorem compare2_any (f u g v : Int) (b5 b6 : Nat) (C D : Nat) (w : World) (c0 : w.cell? ⟨b5, 0, none⟩ = some (.int .u64 f)) (c1 : w.cell? ⟨b5, 1, none⟩ = some (.int .u64 u))
    (c2 : w.cell? ⟨b6, 0, none⟩ = some (.int .u64 g)) (c3 : w.cell? ⟨b6, 1, none⟩ = some (.int .u64 v)) :
    Calls Try.prog 35 #[.slice (some ⟨b5, 0, none⟩) 2 C, .slice (some ⟨b6, 0, none⟩) 2 D] w fun e w' => e = .returned (.int .i64 (ordS (f, u) (g, v))) ∧ w = w' := by
  go_enter Try.func35, Try.ntmps35
  go_wp2
  go_loop [11] (fun i => ∃ k : Nat, k ≤ 2 ∧ i = .int .i64 k ∧ Hid (0 < k → cmpT f g = 0) ∧ Hid (1 < k → cmpT u v = 0)) (fun i => 2 - (intOf i).toNat)
  case atStart => exact ⟨0, Nat.zero_le _, rfl, fun h => absurd h (Nat.not_lt_zero _), fun h => absurd h (by omega)⟩
  case round =>
    obtain ⟨k, hk, rfl, HA, HB⟩ := hrel
    have hk3 : k = 0 ∨ k = 1 ∨ k = 2 := by omega
    rcases hk3 with rfl | rfl | rfl
    · obtain ⟨t, ht⟩ : ∃ t, t = cmpT f g := ⟨_, rfl⟩
      have HT := Lib.hid ht
      have HC : Hid (∀ w, Calls Try.prog 49 #[.int .u64 f, .int .u64 g] w fun e w' => e = .returned (.int .i64 t) ∧ w = w') := by rw [ht]; exact fun w => cmp_any f g w
      clear ht
      by_cases h0 : t = 0
      · subst h0
        go_wp2_with (go_at_call 49; refine (HC.out _).mono ?_; rintro e w' ⟨rfl, rfl⟩)
        go_round
        case rel => exact ⟨1, by omega, by go_num, fun _ => HT.out.symm, fun h => absurd h (by omega)⟩
        case measure => simp [intOf]
      · go_wp2_with (go_at_call 49; refine (HC.out _).mono ?_; rintro e w' ⟨rfl, rfl⟩)
        go_ret
        have h1 := HT.out
        subst h1
        exact ⟨congrArg (fun z => Ending.returned (.int .i64 z)) (ordS_ne (u := u) (v := v) h0), rfl⟩
    · obtain ⟨t, ht⟩ : ∃ t, t = cmpT u v := ⟨_, rfl⟩
      have HT := Lib.hid ht
      have HC : Hid (∀ w, Calls Try.prog 49 #[.int .u64 u, .int .u64 v] w fun e w' => e = .returned (.int .i64 t) ∧ w = w') := by rw [ht]; exact fun w => cmp_any u v w
      clear ht
      by_cases h0 : t = 0
      · subst h0
        go_wp2_with (go_at_call 49; refine (HC.out _).mono ?_; rintro e w' ⟨rfl, rfl⟩)
        go_round
        case rel => exact ⟨2, by omega, by go_num, fun _ => HA.out (by omega), fun _ => HT.out.symm⟩
        case measure => simp [intOf]
      · go_wp2_with (go_at_call 49; refine (HC.out _).mono ?_; rintro e w' ⟨rfl, rfl⟩)
        go_ret
        have h1 := HT.out
        subst h1
        exact ⟨congrArg (fun z => Ending.returned (.int .i64 z)) (ordS_eq (u := u) (v := v) (HA.out (by omega))), rfl⟩
    · go_wp2
      go_ret
      exact ⟨congrArg (fun z => Ending.returned (.int .i64 z)) ((HB.out (by omega)).symm.trans (ordS_eq (u := u) (v := v) (HA.out (by omega)))), rfl⟩

/-- What has come of w by draws and new blocks alone. -/
def GrownQ (w w' : World) : Prop := ∃ q os, w' = grow (w.drewN q) os

theorem drewN_grow (w : World) (os : Array Obj) (q : Nat) : (grow w os).drewN q = grow (w.drewN q) os := rfl

theorem GrownQ.refl (w : World) : GrownQ w w := ⟨0, #[], by rw [grow_empty]; rfl⟩
theorem GrownQ.drew {w w' : World} (h : GrownQ w w') (n : Nat) : GrownQ w (w'.drewN n) := by
  obtain ⟨q, os, rfl⟩ := h
  exact ⟨q + n, os, by rw [drewN_grow, World.drewN_drewN]⟩
theorem GrownQ.drew1 {w w' : World} (h : GrownQ w w') : GrownQ w w'.drew := h.drew 1
theorem GrownQ.alloc {w w' : World} (h : GrownQ w w') (o : Obj) : GrownQ w (w'.alloc o) := by
  obtain ⟨q, os, rfl⟩ := h
  exact ⟨q, os ++ #[o], by rw [alloc_eq_grow, grow_grow]⟩

theorem GrownQ.trans {a b c : World} (h : GrownQ a b) (k : GrownQ b c) : GrownQ a c := by
  obtain ⟨q, os, rfl⟩ := h
  obtain ⟨p, os', rfl⟩ := k
  exact ⟨q + p, os ++ os', by rw [drewN_grow, grow_grow, World.drewN_drewN]⟩
theorem GrownQ.cell {w w' : World} (h : GrownQ w w') {a : Addr} (ha : a.block < w.heap.size) : w'.cell? a = w.cell? a := by
  obtain ⟨q, os, rfl⟩ := h
  refine World.cell?_of_block ?_
  show ((w.drewN q).heap ++ os)[a.block]? = _
  rw [Array.getElem?_append_left (by simpa using ha)]
  rfl

set_option maxRecDepth 100000 in
set_option maxHeartbeats 4000000 in
theorem order_any (f u g v : Int) (w : World) :
    Calls Try.prog 20 #[.agg #[.int .u64 f, .int .u64 u], .agg #[.int .u64 g, .int .u64 v]] w fun e w' => e = .returned (.int .i64 (ordS (f, u) (g, v))) ∧ GrownQ w w' := by
  obtain ⟨W0, hW0⟩ : ∃ W0, W0 = (w.alloc (.cells #[.int .u64 f, .int .u64 u] 30)).alloc (.cells #[.int .u64 g, .int .u64 v] 30) := ⟨_, rfl⟩
  have HG0 : Hid (GrownQ w W0) := by rw [hW0]; exact ((GrownQ.refl w).alloc _).alloc _
  have hs0 : W0.heap.size = w.heap.size + 2 := by rw [hW0]; simp
  have c0 : W0.cell? ⟨w.heap.size, 0, none⟩ = some (.int .u64 f) := by rw [hW0]; simp
  have c1 : W0.cell? ⟨w.heap.size, 1, none⟩ = some (.int .u64 u) := by rw [hW0]; simp
  have c2 : W0.cell? ⟨w.heap.size + 1, 0, none⟩ = some (.int .u64 g) := by rw [hW0]; simp
  have c3 : W0.cell? ⟨w.heap.size + 1, 1, none⟩ = some (.int .u64 v) := by rw [hW0]; simp
  have HELD : Hid (∀ w', GrownQ W0 w' → ((w'.cell? ⟨w.heap.size, 0, none⟩ = some (.int .u64 f) ∧ w'.cell? ⟨w.heap.size, 1, none⟩ = some (.int .u64 u)) ∧ (w'.cell? ⟨w.heap.size + 1, 0, none⟩ = some (.int .u64 g) ∧ w'.cell? ⟨w.heap.size + 1, 1, none⟩ = some (.int .u64 v))) ∧ GrownQ W0 w') :=
    fun w' h => ⟨⟨⟨(h.cell (by simp; omega)).trans c0, (h.cell (by simp; omega)).trans c1⟩, (h.cell (by simp; omega)).trans c2, (h.cell (by simp; omega)).trans c3⟩, h⟩
  have HW0 := Lib.hid hW0
  clear hW0 c0 c1 c2 c3
  have F0 : GrownQ W0 W0.drew := (GrownQ.refl W0).drew 1
  go_enter Try.func20, Try.ntmps20
  go_wp2_with fail
  rw [← HW0.out]
  rename_i Q' K' hK
  have HREST : Hid (∀ (b5 b6 : Nat) (v7 v8 v9 v10 v11 v12 : Value) (W' : World), W'.cell? ⟨b5, 0, none⟩ = some (.int .u64 f) → W'.cell? ⟨b5, 1, none⟩ = some (.int .u64 u) → W'.cell? ⟨b6, 0, none⟩ = some (.int .u64 g) → W'.cell? ⟨b6, 1, none⟩ = some (.int .u64 v) → GrownQ W0 W' →
      K' { tmps := #[.agg #[.int .u64 f, .int .u64 u], .agg #[.int .u64 g, .int .u64 v], .pointer (some ⟨w.heap.size, 0, none⟩), .pointer (some ⟨w.heap.size + 1, 0, none⟩), .int .i64 0, .pointer (some ⟨b5, 0, none⟩), .pointer (some ⟨b6, 0, none⟩), v7, v8, v9, v10, v11, v12, undef, undef, undef], defers := [] } W') := by
    intro b5 b6 v7 v8 v9 v10 v11 v12 W' c0 c1 c2 c3 hg
    have HG := Lib.hid hg
    clear hg
    refine hK _ _ ?_
    clear hK
    go_wp2_with fail
    have HC : Hid (∀ (n C D : Nat), Calls Try.prog 35 #[.slice (some ⟨b5, 0, none⟩) 2 C, .slice (some ⟨b6, 0, none⟩) 2 D] (W'.drewN n) fun e w' => e = .returned (.int .i64 (ordS (f, u) (g, v))) ∧ w' = W'.drewN n) :=
      fun n C D => (compare2_any f u g v b5 b6 C D (W'.drewN n) (by simpa using c0) (by simpa using c1) (by simpa using c2) (by simpa using c3)).mono fun e w' h => ⟨h.1, h.2.symm⟩
    go_quiet ((go_at_call 35; exact Calls.quiet_of_same (HC.out _ _ _)))
    go_wp2
    go_ret
    exact ⟨rfl, HG0.out.trans (HG.out.drew _)⟩
  clear hK
  go_region_held3 (fun w' => ((w'.cell? ⟨w.heap.size, 0, none⟩ = some (.int .u64 f) ∧ w'.cell? ⟨w.heap.size, 1, none⟩ = some (.int .u64 u)) ∧ (w'.cell? ⟨w.heap.size + 1, 0, none⟩ = some (.int .u64 g) ∧ w'.cell? ⟨w.heap.size + 1, 1, none⟩ = some (.int .u64 v))) ∧ GrownQ W0 w')
    (first | (refine HELD.out _ ?_; repeat (first | with_reducible exact GrownQ.refl _ | refine GrownQ.alloc ?_ _ | refine GrownQ.drew ?_ _ | refine GrownQ.drew1 ?_)))
    (first | (go_at_call 34; refine (ends_any _ _ _).mono ?_; rintro e w' ⟨rfl, rfl⟩))
  all_goals refine HREST.out _ _ _ _ _ _ _ _ _ ?_ ?_ ?_ ?_ ?_
  all_goals first | ((repeat (first | with_reducible exact GrownQ.refl _ | refine GrownQ.alloc ?_ _ | refine GrownQ.drew ?_ _ | refine GrownQ.drew1 ?_)); done) | (rw [← hs0]; simp; done) | (rw [← hs0]; simp [go_sem]; done)

/-- A span's cells. -/
def encS (x : Int × Int) : List Value := [.int .u64 x.1, .int .u64 x.2]

theorem order_lays (blk off size : Nat) (w : World) : CmpLays Try.prog 20 #[] encS 2 ordS blk off size w :=
  fun _ _ _ _ x y => order_any x.1 x.2 y.1 y.2 _

theorem ltS (x y : Int × Int) : ltOf ordS x y = decide (x.1 < y.1 ∨ (x.1 = y.1 ∧ x.2 < y.2)) := by
  unfold ltOf ordS
  by_cases h1 : x.1 < y.1
  · simp [h1]
  · by_cases h2 : y.1 < x.1
    · simp only [h1, h2, if_true, if_false]
      simp; omega
    · by_cases h3 : x.2 < y.2
      · simp only [h1, h2, h3, if_true, if_false]
        simp; omega
      · by_cases h4 : y.2 < x.2
        · simp only [h1, h2, h3, h4, if_true, if_false]
          simp
        · simp only [h1, h2, h3, h4, if_false]
          simp

theorem ordS_swo : SWO (ltOf ordS) where
  irrefl x := by rw [ltS]; simp
  trans x y z h1 h2 := by rw [ltS] at *; simp at *; omega
  ntrans x y z h1 h2 := by rw [ltS] at *; simp at *; omega

theorem ordS_total (x y : Int × Int) (h1 : ltOf ordS x y = false) (h2 : ltOf ordS y x = false) : x = y := by
  rw [ltS] at *
  simp at h1 h2
  apply Prod.ext <;> omega

end Go.Proofs.Ytjmlpmkpjmgfiaa
