/- Contracts of the document's own answers for Put, Least and the widths. -/
import Derived.Test.YtncemmhbbkpieaaDoorOctC
namespace Go.Proofs.YtncemmhbbkpieaaDoor
open Go.RowKit Go.Shelf

set_option maxHeartbeats 400000 in
theorem width_any (x : Int) (w : World) :
    Calls Tryd.prog 68 #[.int .i64 x] w fun e w' => e = .returned (.bool (isW x)) ∧ w = w' := by
  unfold isW
  cases h1 : (x == 1)
  · cases h2 : (x == 2)
    · cases h4 : (x == 4)
      · go_enter Tryd.func68, Tryd.ntmps68
        go_wp2
        go_ret
        exact ⟨rfl, rfl⟩
      · go_enter Tryd.func68, Tryd.ntmps68
        go_wp2
        go_ret
        exact ⟨rfl, rfl⟩
    · go_enter Tryd.func68, Tryd.ntmps68
      go_wp2
      go_ret
      exact ⟨rfl, rfl⟩
  · go_enter Tryd.func68, Tryd.ntmps68
    go_wp2
    go_ret
    exact ⟨rfl, rfl⟩

theorem sb_eq (n : Int) (i : Nat) : sb n i = n / 256 ^ i % 256 := by
  unfold sb
  rw [Int.pow_mul]
  rfl

set_option maxHeartbeats 400000 in
theorem refPut_arg (x n : Int) (w : World) (hx : isW x = false) :
    Calls Tryd.prog 70 #[.int .u64 n, .int .i64 x] w fun e w' => e = .returned (.tuple #[.slice none 0 0, .int .i64 2]) ∧ w = w' := by
  go_enter Tryd.func70, Tryd.ntmps70
  go_wp2_with (go_at_call 68; refine (width_any _ _).mono ?_; rintro e w' ⟨rfl, rfl⟩)
  go_ret2
  exact ⟨rfl, rfl⟩

/-- What is left of a number whose bytes have been told. -/
theorem div_step (n : Int) (k : Nat) : n / 256 ^ k / 256 = n / 256 ^ (k + 1) := by
  rw [Int.ediv_ediv_of_nonneg (Int.le_of_lt (Int.pow_pos (by omega))), Int.pow_succ]

theorem pow256_pos (k : Nat) : (0 : Int) < 256 ^ k := Int.pow_pos (by omega)

theorem div_pow_le (n : Int) (hn : 0 ≤ n) (k : Nat) : 0 ≤ n / 256 ^ k ∧ n / 256 ^ k ≤ n :=
  ⟨Int.ediv_nonneg hn (Int.le_of_lt (pow256_pos k)), Int.ediv_le_self _ hn⟩

/-- A quotient of 64 bits, as the walk writes it. -/
theorem quo_u64 (q : Int) (h : U64 q) : IntKind.u64.wrap (q.tdiv 256) = q / 256 := by
  unfold U64 at h
  rw [IntKind.wrap_u64, Int.tdiv_eq_ediv_of_nonneg h.1]
  omega

theorem u64_div (n : Int) (h : U64 n) (k : Nat) : U64 (n / 256 ^ k) := by
  have := div_pow_le n h.1 k
  unfold U64 at *
  omega

set_option maxRecDepth 100000 in
set_option maxHeartbeats 1000000 in
theorem refPut_row (W : Nat) (n : Int) (w : World) (hx : isW W = true) (hn : U64 n) :
    Calls Tryd.prog 70 #[.int .u64 n, .int .i64 W] w fun e w' =>
      ((n / 256 ^ W = 0 ∧ e = .returned (.tuple #[.slice (some ⟨w.heap.size, 0, none⟩) W W, .int .i64 0])) ∨ (0 < n / 256 ^ W ∧ e = .returned (.tuple #[.slice none 0 0, .int .i64 4]))) ∧
      Below w.heap.size w w' ∧ w'.rowIs w.heap.size 5 W (fun j => .int .u8 (sb n (W - 1 - j))) := by
  have hW : 1 ≤ W ∧ W ≤ 8 := by
    have := isW_cases hx
    omega
  have hn0 : 0 ≤ n := hn.1
  have Hn := Lib.hid hn
  clear hn
  have hmk := fun w : World => run_make_row' (P := Tryd.prog) 22 5 (.int .u8 0) 1 Tryd.underlying22 (by kernel_rfl) rfl .i64 .i64 W (by omega) (by omega) w
  go_enter Tryd.func70, Tryd.ntmps70
  go_wp2_with (go_at_call 68; refine (width_any _ _).mono ?_; rintro e w' ⟨rfl, rfl⟩)
  go_loopw [0, 7] (fun m i wr => ∃ (k : Nat) (q : Int), k ≤ W ∧ i = .int .i64 ((W : Int) - 1 - k) ∧ m = .int .u64 q ∧ 0 ≤ q ∧ Hid (q = n / 256 ^ k) ∧ Below w.heap.size w wr ∧
      wr.rowIs w.heap.size 5 W (fun j => if W - k ≤ j then .int .u8 (sb n (W - 1 - j)) else .int .u8 0)) (fun _ i _ => (intOf i + 1).toNat)
  case atStart =>
    refine ⟨0, n, Nat.zero_le _, by simp, rfl, hn0, by simp [Hid], (Below.refl _ _).alloc (Nat.le_refl _) _, ?_⟩
    exact (World.rowIs_made _ _ _ _).congr fun i hi => by rw [if_neg (by omega)]
  case round =>
    obtain ⟨k, q, hk, rfl, rfl, hq0, Hq, hb, hr⟩ := hrel
    by_cases hlt : k < W
    · have hcl := hr.cell (i := W - 1 - k) (by omega)
      have hfz := hr.frozen (W - 1 - k)
      have HR := Lib.hid hr
      clear hr
      obtain ⟨v, hv⟩ : ∃ v, wr.cell? ⟨w.heap.size, W - 1 - k, none⟩ = some v := ⟨_, hcl⟩
      clear hcl
      go_wp2
      go_roundw
      case rel =>
        have hq : q / 256 = n / 256 ^ (k + 1) := by rw [Hq.out, div_step]
        have hU : U64 q := by rw [Hq.out]; exact u64_div n Hn.out k
        refine ⟨k + 1, q / 256, by omega, by go_num, by rw [quo_u64 q hU], by omega, hq, hb.setCell (by simp) _, ?_⟩
        refine (HR.out.set (W - 1 - k) (.int .u8 (q % 256))).congr fun j hj => ?_
        by_cases e : j = W - 1 - k
        · subst e
          rw [if_pos rfl, if_pos (by omega), sb_eq, Hq.out, show W - 1 - (W - 1 - k) = k by omega]
        · rw [if_neg e]
          by_cases e2 : W - k ≤ j
          · rw [if_pos e2, if_pos (by omega)]
          · rw [if_neg e2, if_neg (by omega)]
      case measure => simp [intOf]; omega
    · obtain rfl : k = W := by omega
      have HR := Lib.hid hr
      clear hr
      by_cases hz : 0 < q
      · go_wp2
        go_ret2
        exact ⟨.inr ⟨by rw [← Hq.out]; exact hz, rfl⟩, hb, HR.out.congr fun j hj => by rw [if_pos (by omega)]⟩
      · obtain rfl : q = 0 := by omega
        go_wp2
        go_ret2
        exact ⟨.inl ⟨Hq.out.symm, rfl⟩, hb, HR.out.congr fun j hj => by rw [if_pos (by omega)]⟩

theorem fits_iff (W : Nat) (n : Int) (hx : isW W = true) (hn : U64 n) : fits W n = true ↔ n / 256 ^ W = 0 := by
  have hn' := hn
  unfold U64 at hn'
  have hc : W = 1 ∨ W = 2 ∨ W = 4 ∨ W = 8 := by
    have := isW_cases hx
    omega
  rcases hc with rfl | rfl | rfl | rfl
  · simp [fits]
  · simp [fits]
  · simp [fits]
  · simp [fits]
    omega

set_option maxHeartbeats 400000 in
theorem refPut_no (W : Nat) (n : Int) (w : World) (hx : isW W = true) (hn : U64 n) (hf : fits W n = false) :
    Calls Tryd.prog 70 #[.int .u64 n, .int .i64 W] w fun e w' => e = .returned (.tuple #[.slice none 0 0, .int .i64 4]) ∧ Below w.heap.size w w' := by
  refine (refPut_row W n w hx hn).mono ?_
  rintro e w' ⟨h | h, hb, _⟩
  · rw [(fits_iff W n hx hn).2 h.1] at hf
    cases hf
  · exact ⟨h.2, hb⟩

theorem refPut_yes (W : Nat) (n : Int) (w : World) (hx : isW W = true) (hn : U64 n) (hf : fits W n = true) :
    Calls Tryd.prog 70 #[.int .u64 n, .int .i64 W] w (PutPost w W n) := by
  refine (refPut_row W n w hx hn).mono ?_
  rintro e w' ⟨h | h, hb, hr⟩
  · have hL := beB_length W n
    refine ⟨_, h.2, ⟨some ⟨w.heap.size, 0, none⟩, W, by rw [hL], by rw [hL]; exact Nat.le_refl _, RdB.of_row ((hL.symm ▸ hr).congr fun j hj => by rw [byteAt_beB W n j (by omega), hL]), ?_⟩, hb⟩
    rintro p ⟨⟩
    exact Nat.le_refl _
  · have := (fits_iff W n hx hn).1 hf
    omega

/-- A block of integers that is known whole. -/
theorem blk_keep {w w' : World} {g : Nat} {o : Obj} (h : w.heap[g]? = some o) (hb : Below w.heap.size w w') : w'.heap[g]? = some o :=
  (hb.block g (Array.getElem?_eq_some_iff.1 h).1).trans h

set_option maxRecDepth 100000 in
set_option maxHeartbeats 2000000 in
theorem refLeast_any (n : Int) (w : World) (hn : U64 n) :
    Calls Tryd.prog 69 #[.int .u64 n] w fun e w' => e = .returned (.int .i64 (leastOf n)) ∧ Below w.heap.size w w' := by
  have Hn := Lib.hid hn
  clear hn
  go_enter Tryd.func69, Tryd.ntmps69
  go_wp2
  go_loopw [4] (fun i wr => ∃ k : Nat, k ≤ 3 ∧ i = .int .i64 k ∧ (1 ≤ k → fits 1 n = false) ∧ (2 ≤ k → fits 2 n = false) ∧ (3 ≤ k → fits 4 n = false) ∧ Below w.heap.size w wr ∧
      wr.heap[w.heap.size]? = some (.cells #[.int .i64 1, .int .i64 2, .int .i64 4] 3 (0, 0))) (fun i _ => 3 - (intOf i).toNat)
  case atStart => exact ⟨0, Nat.zero_le _, rfl, by omega, by omega, by omega, (Below.refl _ _).alloc (Nat.le_refl _) _, heap_alloc_new w _⟩
  case round =>
    obtain ⟨k, hk, rfl, hp1, hp2, hp4, hb, hh⟩ := hrel
    have hc0 : wr.cell? ⟨w.heap.size, 0, none⟩ = some (.int .i64 1) := by simp [World.cell?, hh]
    have hc1 : wr.cell? ⟨w.heap.size, 1, none⟩ = some (.int .i64 2) := by simp [World.cell?, hh]
    have hc2 : wr.cell? ⟨w.heap.size, 2, none⟩ = some (.int .i64 4) := by simp [World.cell?, hh]
    have HH := Lib.hid hh
    clear hh
    have hk5 : k = 0 ∨ k = 1 ∨ k = 2 ∨ k = 3 := by omega
    rcases hk5 with rfl | rfl | rfl | rfl
    · clear hp1 hp2 hp4
      cases hf : fits 1 n
      · have Hf := Lib.hid hf
        clear hf
        go_wp2_with fail
        refine (refPut_no 1 n _ rfl Hn.out Hf.out).mono ?_
        rintro e w1 ⟨rfl, hb1⟩
        go_wp2
        go_roundw
        case rel => exact ⟨1, by omega, by go_num, by simp, by omega, by omega, hb.trans (hb1.mono hb.size), blk_keep HH.out hb1⟩
        case measure => simp [intOf]
      · have Hf := Lib.hid hf
        clear hf
        go_wp2_with fail
        refine (refPut_yes 1 n _ rfl Hn.out Hf.out).mono ?_
        rintro e w1 ⟨v, rfl, _, hb1⟩
        have hd0 : w1.cell? ⟨w.heap.size, 0, none⟩ = some (.int .i64 1) := by simp [World.cell?, blk_keep HH.out hb1]
        go_wp2
        go_ret
        exact ⟨by simp [leastOf, firstW, Hf.out], hb.trans (hb1.mono hb.size)⟩
    · have h1 := Lib.hid (hp1 (by omega))
      clear hp1 hp2 hp4
      cases hf : fits 2 n
      · have Hf := Lib.hid hf
        clear hf
        go_wp2_with fail
        refine (refPut_no 2 n _ rfl Hn.out Hf.out).mono ?_
        rintro e w1 ⟨rfl, hb1⟩
        go_wp2
        go_roundw
        case rel => exact ⟨2, by omega, by go_num, fun _ => h1.out, by simp, by omega, hb.trans (hb1.mono hb.size), blk_keep HH.out hb1⟩
        case measure => simp [intOf]
      · have Hf := Lib.hid hf
        clear hf
        go_wp2_with fail
        refine (refPut_yes 2 n _ rfl Hn.out Hf.out).mono ?_
        rintro e w1 ⟨v, rfl, _, hb1⟩
        have hd1 : w1.cell? ⟨w.heap.size, 1, none⟩ = some (.int .i64 2) := by simp [World.cell?, blk_keep HH.out hb1]
        go_wp2
        go_ret
        exact ⟨by simp [leastOf, firstW, Hf.out, h1.out], hb.trans (hb1.mono hb.size)⟩
    · have h1 := Lib.hid (hp1 (by omega))
      have h2 := Lib.hid (hp2 (by omega))
      clear hp1 hp2 hp4
      cases hf : fits 4 n
      · have Hf := Lib.hid hf
        clear hf
        go_wp2_with fail
        refine (refPut_no 4 n _ rfl Hn.out Hf.out).mono ?_
        rintro e w1 ⟨rfl, hb1⟩
        go_wp2
        go_roundw
        case rel => exact ⟨3, by omega, by go_num, fun _ => h1.out, fun _ => h2.out, by simp, hb.trans (hb1.mono hb.size), blk_keep HH.out hb1⟩
        case measure => simp [intOf]
      · have Hf := Lib.hid hf
        clear hf
        go_wp2_with fail
        refine (refPut_yes 4 n _ rfl Hn.out Hf.out).mono ?_
        rintro e w1 ⟨v, rfl, _, hb1⟩
        have hd2 : w1.cell? ⟨w.heap.size, 2, none⟩ = some (.int .i64 4) := by simp [World.cell?, blk_keep HH.out hb1]
        go_wp2
        go_ret
        exact ⟨by simp [leastOf, firstW, Hf.out, h1.out, h2.out], hb.trans (hb1.mono hb.size)⟩
    · have h1 := Lib.hid (hp1 (by omega))
      have h2 := Lib.hid (hp2 (by omega))
      have h4 := Lib.hid (hp4 (by omega))
      clear hp1 hp2 hp4
      go_wp2
      go_ret
      have h8 : fits 8 n = true := by simp [fits]
      exact ⟨by simp [leastOf, firstW, h1.out, h2.out, h4.out, h8], hb⟩

end Go.Proofs.YtncemmhbbkpieaaDoor
