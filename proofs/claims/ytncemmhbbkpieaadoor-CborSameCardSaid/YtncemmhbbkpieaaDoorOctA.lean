/- Contracts of the small functions of package octet and of its document's answers: which widths there are, whether a number fits one, the least one. -/
import Derived.Test.YtncemmhbbkpieaaDoorRows
import Derived.WalkKit
import Derived.WalkSpells
import Derived.WalkLawsBesides
import Derived.Lib.Hide
namespace Go.Proofs.YtncemmhbbkpieaaDoor
open Go.RowKit

/-- Is it a width? -/
def isW (n : Int) : Bool := n == 1 || (n == 2 || (n == 4 || n == 8))

/-- Does a number fit a width? -/
def fits (x n : Int) : Bool := if x = 1 then n / 256 == 0 else if x = 2 then n / 65536 == 0 else if x = 4 then n / 4294967296 == 0 else true

/-- A number of 64 bits. -/
def U64 (n : Int) : Prop := 0 ≤ n ∧ n < 18446744073709551616

theorem U64.div (n : Int) (h : U64 n) : (n / 18446744073709551616 == 0) = true := by
  unfold U64 at h
  have : n / 18446744073709551616 = 0 := by omega
  simp [this]

theorem isW_cases {n : Int} (h : isW n = true) : n = 1 ∨ n = 2 ∨ n = 4 ∨ n = 8 := by
  simpa [isW] using h

set_option maxHeartbeats 400000 in
theorem widths_any (w : World) :
    Calls Tryd.prog 73 #[] w fun e w' => e = .returned (.agg #[.int .i64 1, .int .i64 2, .int .i64 4, .int .i64 8]) ∧ w' = w.alloc (.cells #[.int .i64 1, .int .i64 2, .int .i64 4, .int .i64 8] 114) := by
  go_enter Tryd.func73, Tryd.ntmps73
  go_wp2
  refine bodyPost_ret (v := .agg #[.int .i64 1, .int .i64 2, .int .i64 4, .int .i64 8]) (by simp [results, Tryd.results73, go_sem]) rfl ⟨rfl, rfl⟩

set_option maxHeartbeats 400000 in
theorem rightC_any (x y : Int) (p : Addr) (w : World) (h : w.cell? p = some (.int .i64 y)) :
    Calls Tryd.prog 80 #[.int .i64 x, .pointer (some p)] w fun e w' => e = .returned (.bool (x == y)) ∧ w = w' := by
  go_enter Tryd.func80, Tryd.ntmps80
  go_wp2
  go_ret
  exact ⟨rfl, rfl⟩

set_option maxHeartbeats 400000 in
theorem says_any (x n : Int) (w : World) (hx : isW x = true) (hn : U64 n) :
    Calls Tryd.prog 75 #[.int .i64 x, .int .u64 n] w fun e w' => e = .returned (.bool (fits x n)) ∧ w = w' := by
  rcases isW_cases hx with rfl | rfl | rfl | rfl <;> clear hx
  · clear hn
    go_enter Tryd.func75, Tryd.ntmps75
    go_wp2
    go_ret
    exact ⟨rfl, rfl⟩
  · clear hn
    go_enter Tryd.func75, Tryd.ntmps75
    go_wp2
    go_ret
    exact ⟨rfl, rfl⟩
  · clear hn
    go_enter Tryd.func75, Tryd.ntmps75
    go_wp2
    go_ret
    exact ⟨rfl, rfl⟩
  · have H := Lib.hid (hn.div)
    clear hn
    go_enter Tryd.func75, Tryd.ntmps75
    go_wp2
    go_ret
    exact ⟨congrArg (fun b => Ending.returned (.bool b)) H.out, rfl⟩

set_option maxHeartbeats 400000 in
theorem leastC_any (x n : Int) (p : Addr) (w : World) (hx : isW x = true) (hn : U64 n) (h : w.cell? p = some (.int .u64 n)) :
    Calls Tryd.prog 74 #[.int .i64 x, .pointer (some p)] w fun e w' => e = .returned (.bool (fits x n)) ∧ w = w' := by
  have Hx := Lib.hid hx
  have Hn := Lib.hid hn
  clear hx hn
  go_enter Tryd.func74, Tryd.ntmps74
  go_wp2_with (go_at_call 75; refine (says_any _ _ _ Hx.out Hn.out).mono ?_; rintro e w' ⟨rfl, rfl⟩)
  go_ret
  exact ⟨rfl, rfl⟩

/-- The first of the widths that is such; none: 0. -/
def firstW (b1 b2 b4 b8 : Bool) : Int := if b1 then 1 else if b2 then 2 else if b4 then 4 else if b8 then 8 else 0

set_option maxRecDepth 100000 in
set_option maxHeartbeats 1000000 in
theorem first_any (g : Nat) (q : Addr) (b1 b2 b4 b8 : Bool) (w : World) (eg : ∀ args w, (callFunc g args).run Tryd.prog w = .ok (.enter g args) w)
    (hg : ∀ w', Below w.heap.size w w' →
      Calls Tryd.prog g #[.int .i64 1, .pointer (some q)] w' (fun e w'' => e = .returned (.bool b1) ∧ w' = w'') ∧
      Calls Tryd.prog g #[.int .i64 2, .pointer (some q)] w' (fun e w'' => e = .returned (.bool b2) ∧ w' = w'') ∧
      Calls Tryd.prog g #[.int .i64 4, .pointer (some q)] w' (fun e w'' => e = .returned (.bool b4) ∧ w' = w'') ∧
      Calls Tryd.prog g #[.int .i64 8, .pointer (some q)] w' (fun e w'' => e = .returned (.bool b8) ∧ w' = w'')) :
    Calls Tryd.prog 72 #[.agg #[.int .i64 1, .int .i64 2, .int .i64 4, .int .i64 8], .func (.func g) #[] #[.pointer (some q)]] w fun e w' =>
      e = .returned (.tuple #[.int .i64 (firstW b1 b2 b4 b8), .bool (b1 || (b2 || (b4 || b8)))]) ∧ Below w.heap.size w w' := by
  have i0 : ∀ w : World, (Instr.index 114 (.agg #[.int .i64 1, .int .i64 2, .int .i64 4, .int .i64 8]) (.int .i64 0)).run Tryd.prog w = .ok (.int .i64 1) w := fun _ => by kernel_rfl
  have i1 : ∀ w : World, (Instr.index 114 (.agg #[.int .i64 1, .int .i64 2, .int .i64 4, .int .i64 8]) (.int .i64 1)).run Tryd.prog w = .ok (.int .i64 2) w := fun _ => by kernel_rfl
  have i2 : ∀ w : World, (Instr.index 114 (.agg #[.int .i64 1, .int .i64 2, .int .i64 4, .int .i64 8]) (.int .i64 2)).run Tryd.prog w = .ok (.int .i64 4) w := fun _ => by kernel_rfl
  have i3 : ∀ w : World, (Instr.index 114 (.agg #[.int .i64 1, .int .i64 2, .int .i64 4, .int .i64 8]) (.int .i64 3)).run Tryd.prog w = .ok (.int .i64 8) w := fun _ => by kernel_rfl
  have hb : Below w.heap.size w (w.alloc (.cells #[.int .i64 1, .int .i64 2, .int .i64 4, .int .i64 8] 114)) := (Below.refl _ _).alloc (Nat.le_refl _) _
  have H := Lib.hid (hg _ hb)
  clear hg
  go_enter Tryd.func72, Tryd.ntmps72
  go_wp2
  go_loop [10] (fun i => ∃ k : Nat, k ≤ 4 ∧ i = .int .i64 k ∧ (1 ≤ k → b1 = false) ∧ (2 ≤ k → b2 = false) ∧ (3 ≤ k → b4 = false) ∧ (4 ≤ k → b8 = false)) (fun i => 4 - (intOf i).toNat)
  case atStart => exact ⟨0, Nat.zero_le _, rfl, by omega, by omega, by omega, by omega⟩
  case round =>
    obtain ⟨k, hk, rfl, hp1, hp2, hp3, hp4⟩ := hrel
    have hk5 : k = 0 ∨ k = 1 ∨ k = 2 ∨ k = 3 ∨ k = 4 := by omega
    rcases hk5 with rfl | rfl | rfl | rfl | rfl
    · clear hp1 hp2 hp3 hp4
      cases b1
      · go_wp2_with fail
        refine (H.out.1).mono ?_
        rintro e w' ⟨rfl, rfl⟩
        go_wp2
        go_round
        case rel => exact ⟨1, by omega, by go_num, by simp, by omega, by omega, by omega⟩
        case measure => simp [intOf]
      · go_wp2_with fail
        refine (H.out.1).mono ?_
        rintro e w' ⟨rfl, rfl⟩
        go_wp2
        go_ret2
        exact ⟨rfl, hb⟩
    · obtain rfl := hp1 (by omega)
      clear hp1 hp2 hp3 hp4
      cases b2
      · go_wp2_with fail
        refine (H.out.2.1).mono ?_
        rintro e w' ⟨rfl, rfl⟩
        go_wp2
        go_round
        case rel => exact ⟨2, by omega, by go_num, by simp, by simp, by omega, by omega⟩
        case measure => simp [intOf]
      · go_wp2_with fail
        refine (H.out.2.1).mono ?_
        rintro e w' ⟨rfl, rfl⟩
        go_wp2
        go_ret2
        exact ⟨rfl, hb⟩
    · obtain rfl := hp1 (by omega)
      obtain rfl := hp2 (by omega)
      clear hp1 hp2 hp3 hp4
      cases b4
      · go_wp2_with fail
        refine (H.out.2.2.1).mono ?_
        rintro e w' ⟨rfl, rfl⟩
        go_wp2
        go_round
        case rel => exact ⟨3, by omega, by go_num, by simp, by simp, by simp, by omega⟩
        case measure => simp [intOf]
      · go_wp2_with fail
        refine (H.out.2.2.1).mono ?_
        rintro e w' ⟨rfl, rfl⟩
        go_wp2
        go_ret2
        exact ⟨rfl, hb⟩
    · obtain rfl := hp1 (by omega)
      obtain rfl := hp2 (by omega)
      obtain rfl := hp3 (by omega)
      clear hp1 hp2 hp3 hp4
      cases b8
      · go_wp2_with fail
        refine (H.out.2.2.2).mono ?_
        rintro e w' ⟨rfl, rfl⟩
        go_wp2
        go_round
        case rel => exact ⟨4, by omega, by go_num, by simp, by simp, by simp, by simp⟩
        case measure => simp [intOf]
      · go_wp2_with fail
        refine (H.out.2.2.2).mono ?_
        rintro e w' ⟨rfl, rfl⟩
        go_wp2
        go_ret2
        exact ⟨rfl, hb⟩
    · obtain rfl := hp1 (by omega)
      obtain rfl := hp2 (by omega)
      obtain rfl := hp3 (by omega)
      obtain rfl := hp4 (by omega)
      clear hp1 hp2 hp3 hp4
      go_wp2
      go_ret2
      exact ⟨rfl, hb⟩

/-- What a boxed variable holds is still there later. -/
theorem cell_box {w w' : World} {v : Value} {t : TypeId} (hb : Below (w.alloc (.cells #[v] t)).heap.size (w.alloc (.cells #[v] t)) w') : w'.cell? ⟨w.heap.size, 0, none⟩ = some v := by
  rw [hb.cell (by simp)]
  simp

end Go.Proofs.YtncemmhbbkpieaaDoor
