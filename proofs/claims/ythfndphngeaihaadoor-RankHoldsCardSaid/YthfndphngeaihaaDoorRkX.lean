/- slices.Sort of numbers: cmp.Less, the insertion sort. -/
import Derived.Test.YthfndphngeaihaaDoorRkV
namespace Go.Proofs.YthfndphngeaihaaDoor
open Go Go.RowKit Go.Shelf
open Go.ChangeMaps (setBlock)
set_option linter.unusedSimpArgs false
set_option linter.unusedVariables false
set_option linter.unusedSectionVars false
set_option maxRecDepth 100000

attribute [local go_sem] Oper.semAt_some

theorem nan_any (x : Int) (w : World) : Calls Tryd.prog 87 #[.int .u32 x] w fun e w' => e = .returned (.bool false) ∧ w' = w := by
  go_enter Tryd.func87, Tryd.ntmps87
  go_wp2_with fail
  go_ret
  exact ⟨by simp, rfl⟩
theorem less_any (x y : Int) (w : World) : Calls Tryd.prog 77 #[.int .u32 x, .int .u32 y] w fun e w' => e = .returned (.bool (decide (x < y))) ∧ w' = w := by
  go_enter Tryd.func77, Tryd.ntmps77
  go_wp2_with fail
  refine (nan_any x w).mono ?_
  rintro e w' ⟨rfl, rfl⟩
  go_wp2_with fail
  go_ret
  exact ⟨rfl, rfl⟩

/-- A block that holds these numbers ahead of what room it has. -/
def SR (w : World) (g N : Nat) (e : TypeId) (xs : List Int) : Prop := ∃ cur, w.heap[g]? = some (.cells cur e (0, 0)) ∧ cur.size = N ∧ xs.length ≤ N ∧ ∀ j, j < xs.length → cur[j]? = some (.int .u32 (atU xs j))
theorem SR.cell {w : World} {g N : Nat} {e : TypeId} {xs : List Int} (h : SR w g N e xs) {j : Nat} (hj : j < xs.length) : w.cell? ⟨g, j, none⟩ = some (.int .u32 (atU xs j)) := by
  obtain ⟨cur, h1, h2, h3, h4⟩ := h
  simp [World.cell?, h1, h4 j hj]
theorem SR.frozen {w : World} {g N : Nat} {e : TypeId} {xs : List Int} (h : SR w g N e xs) (j : Nat) : w.frozen? ⟨g, j, none⟩ = false := by
  obtain ⟨cur, h1, h2, h3, h4⟩ := h
  simp [World.frozen?, h1]
theorem SR.kept {w w' : World} {g N : Nat} {e : TypeId} {xs : List Int} (h : SR w g N e xs) (hb : w'.heap[g]? = w.heap[g]?) : SR w' g N e xs := by
  obtain ⟨cur, h1, h2⟩ := h
  exact ⟨cur, hb.trans h1, h2⟩
theorem ButS.drewN {B : Nat} {S : Nat → Prop} {w0 w : World} (h : ButS B S w0 w) (n : Nat) : ButS B S w0 (w.drewN n) := ⟨h.os, h.tape, h.output, h.size, h.block⟩
theorem atU_set (xs : List Int) (j k : Nat) (y : Int) (hj : j < xs.length) : atU (xs.set j y) k = if k = j then y else atU xs k := by
  unfold atU
  rw [List.getElem?_set]
  by_cases h : j = k
  · subst h
    simp [hj]
  · rw [if_neg h, if_neg (fun e => h e.symm)]
theorem SR.set {w : World} {g N : Nat} {e : TypeId} {xs : List Int} (h : SR w g N e xs) {j : Nat} (hj : j < xs.length) (y : Int) : SR (w.setCell ⟨g, j, none⟩ (.int .u32 y)) g N e (xs.set j y) := by
  obtain ⟨cur, h1, h2, h3, h4⟩ := h
  refine ⟨cur.setIfInBounds j (.int .u32 y), ?_, by simpa using h2, by simpa using h3, fun k hk => ?_⟩
  · show (w.heap.modify g _)[g]? = _
    rw [Array.getElem?_modify, if_pos rfl, h1]
    rfl
  · rw [List.length_set] at hk
    rw [atU_set xs j k y hj]
    by_cases e : k = j
    · subst e
      rw [if_pos rfl, Array.getElem?_setIfInBounds, if_pos rfl, if_pos (by omega)]
    · rw [if_neg e, Array.getElem?_setIfInBounds_ne (fun h => e h.symm)]
      exact h4 k hk

/-- Rising as far as i, the place j apart. -/
def Upto (xs : List Int) (i j : Nat) : Prop := ∀ p q, p < q → q ≤ i → q ≠ j → atU xs p ≤ atU xs q
def swapU (xs : List Int) (j : Nat) : List Int := (xs.set j (atU xs (j - 1))).set (j - 1) (atU xs j)
theorem swapU_len (xs : List Int) (j : Nat) : (swapU xs j).length = xs.length := by simp [swapU]
theorem swapU_at (xs : List Int) (j k : Nat) (hj : j < xs.length) (h0 : 0 < j) : atU (swapU xs j) k = if k = j - 1 then atU xs j else if k = j then atU xs (j - 1) else atU xs k := by
  unfold swapU
  rw [atU_set _ _ _ _ (by rw [List.length_set]; omega), atU_set _ _ _ _ hj]
theorem swapU_perm (xs : List Int) (j : Nat) (hj : j < xs.length) (h0 : 0 < j) : (swapU xs j).Perm xs := by
  have h1 : j - 1 < xs.length := by omega
  have e1 : atU xs j = xs[j] := by unfold atU; rw [List.getElem?_eq_getElem hj]; rfl
  have e2 : atU xs (j - 1) = xs[j - 1] := by unfold atU; rw [List.getElem?_eq_getElem h1]; rfl
  unfold swapU
  rw [e1, e2]
  exact List.set_set_perm hj h1
theorem Upto.swap {xs : List Int} {i j : Nat} (h : Upto xs i j) (hj : j < xs.length) (hji : j ≤ i) (h0 : 0 < j) (hlt : atU xs j < atU xs (j - 1)) : Upto (swapU xs j) i (j - 1) := fun p q hpq hq hne => by
  rw [swapU_at xs j p hj h0, swapU_at xs j q hj h0, if_neg hne]
  by_cases hqj : q = j
  · subst hqj
    rw [if_pos rfl]
    by_cases hp : p = q - 1
    · rw [if_pos hp]; omega
    · rw [if_neg hp, if_neg (by omega)]
      exact h p (q - 1) (by omega) (by omega) (by omega)
  · rw [if_neg hqj]
    by_cases hp : p = j - 1
    · rw [if_pos hp]
      exact h j q (by omega) hq hqj
    · rw [if_neg hp]
      by_cases hp2 : p = j
      · rw [if_pos hp2]
        exact h (j - 1) q (by omega) hq hqj
      · rw [if_neg hp2]
        exact h p q hpq hq hqj
theorem Upto.stop {xs : List Int} {i j : Nat} (h : Upto xs i j) (hs : j = 0 ∨ atU xs (j - 1) ≤ atU xs j) : ∀ p q, p < q → q ≤ i → atU xs p ≤ atU xs q := fun p q hpq hq => by
  by_cases hqj : q = j
  · subst hqj
    rcases hs with h0 | hs
    · omega
    · by_cases hp : p = q - 1
      · rw [hp]; exact hs
      · have := h p (q - 1) (by omega) (by omega) (by omega)
        omega
  · exact h p q hpq hq hqj

set_option maxHeartbeats 4000000 in
theorem insertion_any (g cap N : Nat) (e : TypeId) (xs : List Int) (w : World) (hs : SR w g N e xs) (hl : xs.length ≤ 1000000) :
    Calls Tryd.prog 71 #[.slice (some ⟨g, 0, none⟩) xs.length cap, .int .i64 0, .int .i64 xs.length] w fun x w' => x = .returned (.tuple #[]) ∧ (∃ ys, SR w' g N e ys ∧ ys.Perm xs ∧ ∀ p q, p < q → q < ys.length → atU ys p ≤ atU ys q) ∧ ButS w.heap.size (fun b => b = g) w w' := by
  obtain ⟨n, hn⟩ : ∃ n, n = xs.length := ⟨_, rfl⟩
  have HN := Lib.hid hn
  have HS0 := Lib.hid hs
  rw [← hn] at hl ⊢
  clear hn hs
  go_enter Tryd.func71, Tryd.ntmps71
  go_wp2_with fail
  go_loopw [6] (fun v6 wr => ∃ (i : Nat) (ys : List Int), v6 = .int .i64 i ∧ (1 ≤ i ∧ (i ≤ n ∨ i = 1)) ∧ Hid (SR wr g N e ys ∧ ys.Perm xs ∧ (∀ p q, p < q → q < i → atU ys p ≤ atU ys q) ∧ ButS w.heap.size (fun b => b = g) w wr)) (fun v6 _ => n - (intOf v6).toNat)
  case atStart => exact ⟨1, xs, rfl, ⟨Nat.le_refl _, .inr rfl⟩, HS0.out, List.Perm.refl _, fun p q h1 h2 => by omega, ButS.refl _ _ _⟩
  case round =>
    obtain ⟨i, ys, rfl, ⟨hi1, hi2⟩, HI⟩ := hrel
    by_cases hin : i < n
    · have hini : (i : Int) < (n : Int) := by omega
      go_wp2_with fail
      go_loopw [7] (fun v7 wx => ∃ (j : Nat) (zs : List Int), v7 = .int .i64 j ∧ j ≤ i ∧ Hid (SR wx g N e zs ∧ zs.Perm xs ∧ Upto zs i j ∧ ButS w.heap.size (fun b => b = g) w wx)) (fun v7 _ => (intOf v7).toNat)
      case atStart => exact ⟨i, ys, rfl, Nat.le_refl _, HI.out.1, HI.out.2.1, fun p q h1 h2 h3 => HI.out.2.2.1 p q h1 (by omega), HI.out.2.2.2⟩
      case round =>
        obtain ⟨j, zs, rfl, hji, HJ⟩ := hrel
        have hzl : zs.length = n := HJ.out.2.1.length_eq.trans HN.out.symm
        rcases Nat.eq_zero_or_pos j with rfl | hj0
        · have HU : Hid (∀ p q, p < q → q ≤ i → atU zs p ≤ atU zs q) := HJ.out.2.2.1.stop (.inl rfl)
          go_upto_region 4 with fail
          go_quiet (fail)
          go_wp2_with fail
          go_roundw
          case rel => exact ⟨i + 1, zs, by go_num, ⟨by omega, by omega⟩, HJ.out.1.kept rfl, HJ.out.2.1, fun p q h1 h2 => HU.out p q h1 (by omega), HJ.out.2.2.2.drewN _⟩
          case measure => simp [intOf]; omega
        · obtain ⟨k, rfl⟩ : ∃ k, j = k + 1 := ⟨j - 1, by omega⟩
          obtain ⟨x, hx⟩ : ∃ x, x = atU zs (k + 1) := ⟨_, rfl⟩
          obtain ⟨y, hy⟩ : ∃ y, y = atU zs k := ⟨_, rfl⟩
          have hc1 := HJ.out.1.cell (j := k + 1) (by omega)
          have hc2 := HJ.out.1.cell (j := k) (by omega)
          have hf1 := HJ.out.1.frozen (k + 1)
          have hf2 := HJ.out.1.frozen k
          rw [← hx] at hc1
          rw [← hy] at hc2
          have HXY : Hid (x = atU zs (k + 1) ∧ y = atU zs k) := ⟨hx, hy⟩
          clear hx hy
          by_cases hxy : x < y
          · have hd : decide (x < y) = true := decide_eq_true hxy
            have HLt := Lib.hid hxy
            clear hxy hf1 hf2
            go_upto_region 4 with fail
            go_quiet (first | (go_at_call 77; exact Calls.quiet_of_same (less_any _ _ _)))
            go_upto_region 6 with fail
            obtain ⟨W6, hW6⟩ : ∃ W, W = wr.drewN nq := ⟨_, rfl⟩
            rw [← hW6]
            have HW6 := Lib.hid hW6
            have HR6 : Hid (SR W6 g N e zs) := by rw [Hid, hW6]; exact HJ.out.1.kept rfl
            have hc1 := HR6.out.cell (j := k + 1) (by omega)
            have hc2 := HR6.out.cell (j := k) (by omega)
            have hf1 := HR6.out.frozen (k + 1)
            have hf2 := HR6.out.frozen k
            rw [← HXY.out.1] at hc1
            rw [← HXY.out.2] at hc2
            clear hW6 hd
            go_region
            obtain ⟨W7, hW7⟩ : ∃ W, W = ((W6.setCell ⟨g, k + 1, none⟩ (.int .u32 y)).setCell ⟨g, k, none⟩ (.int .u32 x)).drew := ⟨_, rfl⟩
            rw [← hW7]
            have HR7 : Hid (SR W7 g N e (swapU zs (k + 1))) := by
              rw [Hid, hW7]
              refine SR.kept (w := (W6.setCell ⟨g, k + 1, none⟩ (.int .u32 y)).setCell ⟨g, k, none⟩ (.int .u32 x)) ?_ rfl
              rw [HXY.out.1, HXY.out.2]
              exact (HR6.out.set (j := k + 1) (by omega) _).set (j := k) (by rw [List.length_set]; omega) _
            have HB7 : Hid (ButS w.heap.size (fun b => b = g) w W7) := by
              rw [Hid, hW7, HW6.out]
              exact (((HJ.out.2.2.2.drewN nq).set (.inl rfl) _ _).set (.inl rfl) _ _).drew
            clear hW7 hc1 hc2 hf1 hf2
            go_wp2_with fail
            go_roundw
            case rel => exact ⟨k, swapU zs (k + 1), by go_num, by omega, HR7.out, (swapU_perm zs (k + 1) (by omega) (by omega)).trans HJ.out.2.1, HJ.out.2.2.1.swap (by omega) hji (by omega) (by rw [← HXY.out.1, show k + 1 - 1 = k from rfl, ← HXY.out.2]; exact HLt.out), HB7.out⟩
            case measure => simp [intOf]
          · have hd : decide (x < y) = false := decide_eq_false hxy
            have HU : Hid (∀ p q, p < q → q ≤ i → atU zs p ≤ atU zs q) := HJ.out.2.2.1.stop (.inr (by rw [← HXY.out.1, show k + 1 - 1 = k from rfl, ← HXY.out.2]; omega))
            clear hxy hf1 hf2
            go_upto_region 4 with fail
            go_quiet (first | (go_at_call 77; exact Calls.quiet_of_same (less_any _ _ _)))
            go_wp2_with fail
            go_roundw
            case rel => exact ⟨i + 1, zs, by go_num, ⟨by omega, by omega⟩, HJ.out.1.kept rfl, HJ.out.2.1, fun p q h1 h2 => HU.out p q h1 (by omega), HJ.out.2.2.2.drewN _⟩
            case measure => simp [intOf]; omega
    · go_wp2_with fail
      refine bodyPost_end (results_none rfl _ _ _) rfl ?_
      obtain ⟨h1, h2, h3, h4⟩ := HI.out
      have hl := h2.length_eq
      have := HN.out
      exact ⟨rfl, ⟨ys, h1, h2, fun p q hpq hq => h3 p q hpq (by omega)⟩, h4⟩

theorem len64_small (n : Nat) (hn : n ≤ 12) (w : World) : Calls Tryd.prog 81 #[.int .u64 n] w fun x w' => (∃ m : Int, x = .returned (.int .i64 m)) ∧ w' = w := by
  have h1 : (n : Int) < 13 := by omega
  rcases (by omega : n = 0 ∨ n = 1 ∨ n = 2 ∨ n = 3 ∨ n = 4 ∨ n = 5 ∨ n = 6 ∨ n = 7 ∨ n = 8 ∨ n = 9 ∨ n = 10 ∨ n = 11 ∨ n = 12) with rfl | rfl | rfl | rfl | rfl | rfl | rfl | rfl | rfl | rfl | rfl | rfl | rfl <;>
  · go_enter Tryd.func81, Tryd.ntmps81
    go_wp2_with fail
    go_ret
    exact ⟨⟨_, rfl⟩, rfl⟩

theorem len_small (n : Nat) (hn : n ≤ 12) (w : World) : Calls Tryd.prog 70 #[.int .u64 n] w fun x w' => (∃ m : Int, x = .returned (.int .i64 m)) ∧ w' = w := by
  go_enter Tryd.func70, Tryd.ntmps70
  go_wp2_with fail
  refine (len64_small n hn w).mono ?_
  rintro e w' ⟨⟨m, rfl⟩, rfl⟩
  go_wp2_with fail
  go_ret
  exact ⟨⟨m, rfl⟩, rfl⟩

set_option maxHeartbeats 4000000 in
theorem pdq_small (g cap N : Nat) (e : TypeId) (xs : List Int) (m : Int) (w : World) (hs : SR w g N e xs) (hl : xs.length ≤ 12) :
    Calls Tryd.prog 69 #[.slice (some ⟨g, 0, none⟩) xs.length cap, .int .i64 0, .int .i64 xs.length, .int .i64 m] w fun x w' => x = .returned (.tuple #[]) ∧ (∃ ys, SR w' g N e ys ∧ ys.Perm xs ∧ ∀ p q, p < q → q < ys.length → atU ys p ≤ atU ys q) ∧ ButS w.heap.size (fun b => b = g) w w' := by
  obtain ⟨n, hn⟩ : ∃ n, n = xs.length := ⟨_, rfl⟩
  have HI := Lib.hid (insertion_any g cap N e xs w hs (by omega))
  rw [← hn] at hl HI ⊢
  clear hn hs
  go_enter Tryd.func69, Tryd.ntmps69
  go_upto_region 2 with fail
  go_loopw [1, 2] (fun v1 v2 wx => v1 = .int .i64 0 ∧ v2 = .int .i64 n ∧ wx = w) (fun _ _ _ => 0)
  case atStart => exact ⟨rfl, rfl, rfl⟩
  case round =>
    obtain ⟨rfl, rfl, rfl⟩ := hrel
    have hle : (n : Int) ≤ 12 := by omega
    go_wp2_with fail
    refine HI.out.mono ?_
    rintro x w' ⟨rfl, h1, h2⟩
    have H1 := Lib.hid h1
    have H2 := Lib.hid h2
    clear h1 h2 HI
    go_wp2_with fail
    (try simp only [Exit.inBlock, Exit.then])
    refine bodyPost_ret (results_none rfl _ _ _) rfl ?_
    exact ⟨rfl, H1.out, H2.out⟩

set_option maxHeartbeats 4000000 in
theorem sort_small (g cap N : Nat) (e : TypeId) (xs : List Int) (w : World) (hs : SR w g N e xs) (hl : xs.length ≤ 12) :
    Calls Tryd.prog 63 #[.slice (some ⟨g, 0, none⟩) xs.length cap] w fun x w' => x = .returned (.tuple #[]) ∧ (∃ ys, SR w' g N e ys ∧ ys.Perm xs ∧ ∀ p q, p < q → q < ys.length → atU ys p ≤ atU ys q) ∧ ButS w.heap.size (fun b => b = g) w w' := by
  have HP := Lib.hid (fun m => pdq_small g cap N e xs m w hs hl)
  obtain ⟨n, hn⟩ : ∃ n, n = xs.length := ⟨_, rfl⟩
  rw [← hn] at hl HP ⊢
  have HL := Lib.hid hl
  have hw : IntKind.u64.wrap (n : Int) = (n : Int) := by
    simp [IntKind.wrap, IntKind.signed, IntKind.bits]
    omega
  clear hn hs
  go_enter Tryd.func63, Tryd.ntmps63
  go_wp2_with fail
  refine (len_small n hl w).mono ?_
  rintro e w' ⟨⟨m, rfl⟩, rfl⟩
  go_wp2_with fail
  refine (HP.out m).mono ?_
  rintro x w3 ⟨rfl, h1, h2⟩
  have H1 := Lib.hid h1
  have H2 := Lib.hid h2
  clear h1 h2 HP
  go_wp2_with fail
  (try simp only [Exit.inBlock, Exit.then])
  refine bodyPost_end (results_none rfl _ _ _) rfl ?_
  exact ⟨rfl, H1.out, H2.out⟩

end Go.Proofs.YthfndphngeaihaaDoor
