/- Joined texts. -/
import Derived.Test.YtkbnglcpcehaiaaDoorRows
import Derived.Test.YtkbnglcpcehaiaaDoorZJa
import Derived.WalkKit
import Derived.WalkSpells
import Derived.WalkLawsBesides
import Derived.Lib.Hide
import Derived.Shelf.Abstract
import Derived.Deep.QuietTactic
import Derived.BigQuiet
namespace Go.Proofs.YtkbnglcpcehaiaaDoor
open Go.RowKit

/-- Is it a width? -/
def isW (n : Int) : Bool := n == 1 || (n == 2 || (n == 4 || n == 8))

/-- Does a number fit a width? -/
def fits (x n : Int) : Bool := if x = 1 then n / 256 == 0 else if x = 2 then n / 65536 == 0 else if x = 4 then n / 4294967296 == 0 else true

theorem isW_cases {n : Int} (h : isW n = true) : n = 1 ∨ n = 2 ∨ n = 4 ∨ n = 8 := by
  simpa [isW] using h

set_option maxHeartbeats 400000 in
theorem widths_any (w : World) :
    Calls Tryd.prog 94 #[] w fun e w' => e = .returned (.agg #[.int .i64 1, .int .i64 2, .int .i64 4, .int .i64 8]) ∧ w' = w.alloc (.cells #[.int .i64 1, .int .i64 2, .int .i64 4, .int .i64 8] 133) := by
  go_enter Tryd.func94, Tryd.ntmps94
  go_wp2
  refine bodyPost_ret (v := .agg #[.int .i64 1, .int .i64 2, .int .i64 4, .int .i64 8]) (by simp [results, Tryd.results94, go_sem]) rfl ⟨rfl, rfl⟩

set_option maxHeartbeats 400000 in
theorem rightC_any (x y : Int) (p : Addr) (w : World) (h : w.cell? p = some (.int .i64 y)) :
    Calls Tryd.prog 109 #[.int .i64 x, .pointer (some p)] w fun e w' => e = .returned (.bool (x == y)) ∧ w = w' := by
  go_enter Tryd.func109, Tryd.ntmps109
  go_wp2
  go_ret
  exact ⟨rfl, rfl⟩

set_option maxHeartbeats 400000 in
theorem says_any (x n : Int) (w : World) (hx : isW x = true) (hn : U64 n) :
    Calls Tryd.prog 96 #[.int .i64 x, .int .u64 n] w fun e w' => e = .returned (.bool (fits x n)) ∧ w = w' := by
  rcases isW_cases hx with rfl | rfl | rfl | rfl <;> clear hx
  · clear hn
    go_enter Tryd.func96, Tryd.ntmps96
    go_wp2
    go_ret
    exact ⟨rfl, rfl⟩
  · clear hn
    go_enter Tryd.func96, Tryd.ntmps96
    go_wp2
    go_ret
    exact ⟨rfl, rfl⟩
  · clear hn
    go_enter Tryd.func96, Tryd.ntmps96
    go_wp2
    go_ret
    exact ⟨rfl, rfl⟩
  · have H := Lib.hid (hn.div)
    clear hn
    go_enter Tryd.func96, Tryd.ntmps96
    go_wp2
    go_ret
    exact ⟨congrArg (fun b => Ending.returned (.bool b)) H.out, rfl⟩

set_option maxHeartbeats 400000 in
theorem leastC_any (x n : Int) (p : Addr) (w : World) (hx : isW x = true) (hn : U64 n) (h : w.cell? p = some (.int .u64 n)) :
    Calls Tryd.prog 95 #[.int .i64 x, .pointer (some p)] w fun e w' => e = .returned (.bool (fits x n)) ∧ w = w' := by
  have Hx := Lib.hid hx
  have Hn := Lib.hid hn
  clear hx hn
  go_enter Tryd.func95, Tryd.ntmps95
  go_wp2_with (go_at_call 96; refine (says_any _ _ _ Hx.out Hn.out).mono ?_; rintro e w' ⟨rfl, rfl⟩)
  go_ret
  exact ⟨rfl, rfl⟩

/-- The first of the widths that is such; none: 0. -/
def firstW (b1 b2 b4 b8 : Bool) : Int := if b1 then 1 else if b2 then 2 else if b4 then 4 else if b8 then 8 else 0

set_option maxRecDepth 100000 in
set_option maxHeartbeats 1000000 in
theorem first_any (g : Nat) (q : Addr) (b1 b2 b4 b8 : Bool) (w : World) (eg : ∀ args w, (callFunc g args).run Tryd.prog w = .ok (.enter g args) w)
    (hg : ∀ w', Below w.heap.size w w' →
      Calls Tryd.prog g #[.int .i64 1, .pointer (some q)] w' (fun e w'' => e = .returned (.bool b1) ∧ w' = w'') ∧
      Calls Tryd.prog g #[.int .i64 2, .pointer (some q)] w' (fun e w'' => e = .returned (.bool b2) ∧ w' = w'') ∧
      Calls Tryd.prog g #[.int .i64 4, .pointer (some q)] w' (fun e w'' => e = .returned (.bool b4) ∧ w' = w'') ∧
      Calls Tryd.prog g #[.int .i64 8, .pointer (some q)] w' (fun e w'' => e = .returned (.bool b8) ∧ w' = w'')) :
    Calls Tryd.prog 93 #[.agg #[.int .i64 1, .int .i64 2, .int .i64 4, .int .i64 8], .func (.func g) #[] #[.pointer (some q)]] w fun e w' =>
      e = .returned (.tuple #[.int .i64 (firstW b1 b2 b4 b8), .bool (b1 || (b2 || (b4 || b8)))]) ∧ Below w.heap.size w w' := by
  have i0 : ∀ w : World, (Instr.index 133 (.agg #[.int .i64 1, .int .i64 2, .int .i64 4, .int .i64 8]) (.int .i64 0)).run Tryd.prog w = .ok (.int .i64 1) w := fun _ => by kernel_rfl
  have i1 : ∀ w : World, (Instr.index 133 (.agg #[.int .i64 1, .int .i64 2, .int .i64 4, .int .i64 8]) (.int .i64 1)).run Tryd.prog w = .ok (.int .i64 2) w := fun _ => by kernel_rfl
  have i2 : ∀ w : World, (Instr.index 133 (.agg #[.int .i64 1, .int .i64 2, .int .i64 4, .int .i64 8]) (.int .i64 2)).run Tryd.prog w = .ok (.int .i64 4) w := fun _ => by kernel_rfl
  have i3 : ∀ w : World, (Instr.index 133 (.agg #[.int .i64 1, .int .i64 2, .int .i64 4, .int .i64 8]) (.int .i64 3)).run Tryd.prog w = .ok (.int .i64 8) w := fun _ => by kernel_rfl
  have hb : Below w.heap.size w (w.alloc (.cells #[.int .i64 1, .int .i64 2, .int .i64 4, .int .i64 8] 133)) := (Below.refl _ _).alloc (Nat.le_refl _) _
  have H := Lib.hid (hg _ hb)
  clear hg
  go_enter Tryd.func93, Tryd.ntmps93
  go_wp2
  go_loop [10] (fun i => ∃ k : Nat, k ≤ 4 ∧ i = .int .i64 k ∧ (1 ≤ k → b1 = false) ∧ (2 ≤ k → b2 = false) ∧ (3 ≤ k → b4 = false) ∧ (4 ≤ k → b8 = false)) (fun i => 4 - (intOf i).toNat)
  case atStart => exact ⟨0, Nat.zero_le _, rfl, by omega, by omega, by omega, by omega⟩
  case round =>
    obtain ⟨k, hk, rfl, hp1, hp2, hp3, hp4⟩ := hrel
    have hk5 : k = 0 ∨ k = 1 ∨ k = 2 ∨ k = 3 ∨ k = 4 := by omega
    rcases hk5 with rfl | rfl | rfl | rfl | rfl
    · clear hp1 hp2 hp3 hp4
      cases b1
      · go_wp2_with fail
        refine (H.out.1).mono ?_
        rintro e w' ⟨rfl, rfl⟩
        go_wp2
        go_round
        case rel => exact ⟨1, by omega, by go_num, by simp, by omega, by omega, by omega⟩
        case measure => simp [intOf]
      · go_wp2_with fail
        refine (H.out.1).mono ?_
        rintro e w' ⟨rfl, rfl⟩
        go_wp2
        go_ret2
        exact ⟨rfl, hb⟩
    · obtain rfl := hp1 (by omega)
      clear hp1 hp2 hp3 hp4
      cases b2
      · go_wp2_with fail
        refine (H.out.2.1).mono ?_
        rintro e w' ⟨rfl, rfl⟩
        go_wp2
        go_round
        case rel => exact ⟨2, by omega, by go_num, by simp, by simp, by omega, by omega⟩
        case measure => simp [intOf]
      · go_wp2_with fail
        refine (H.out.2.1).mono ?_
        rintro e w' ⟨rfl, rfl⟩
        go_wp2
        go_ret2
        exact ⟨rfl, hb⟩
    · obtain rfl := hp1 (by omega)
      obtain rfl := hp2 (by omega)
      clear hp1 hp2 hp3 hp4
      cases b4
      · go_wp2_with fail
        refine (H.out.2.2.1).mono ?_
        rintro e w' ⟨rfl, rfl⟩
        go_wp2
        go_round
        case rel => exact ⟨3, by omega, by go_num, by simp, by simp, by simp, by omega⟩
        case measure => simp [intOf]
      · go_wp2_with fail
        refine (H.out.2.2.1).mono ?_
        rintro e w' ⟨rfl, rfl⟩
        go_wp2
        go_ret2
        exact ⟨rfl, hb⟩
    · obtain rfl := hp1 (by omega)
      obtain rfl := hp2 (by omega)
      obtain rfl := hp3 (by omega)
      clear hp1 hp2 hp3 hp4
      cases b8
      · go_wp2_with fail
        refine (H.out.2.2.2).mono ?_
        rintro e w' ⟨rfl, rfl⟩
        go_wp2
        go_round
        case rel => exact ⟨4, by omega, by go_num, by simp, by simp, by simp, by simp⟩
        case measure => simp [intOf]
      · go_wp2_with fail
        refine (H.out.2.2.2).mono ?_
        rintro e w' ⟨rfl, rfl⟩
        go_wp2
        go_ret2
        exact ⟨rfl, hb⟩
    · obtain rfl := hp1 (by omega)
      obtain rfl := hp2 (by omega)
      obtain rfl := hp3 (by omega)
      obtain rfl := hp4 (by omega)
      clear hp1 hp2 hp3 hp4
      go_wp2
      go_ret2
      exact ⟨rfl, hb⟩

/-- What a boxed variable holds is still there later. -/
theorem cell_box {w w' : World} {v : Value} {t : TypeId} (hb : Below (w.alloc (.cells #[v] t)).heap.size (w.alloc (.cells #[v] t)) w') : w'.cell? ⟨w.heap.size, 0, none⟩ = some v := by
  rw [hb.cell (by simp)]
  simp

end Go.Proofs.YtkbnglcpcehaiaaDoor

namespace Go.Proofs.YtkbnglcpcehaiaaDoor
open Go.RowKit Go.Shelf

theorem isW_turned (x : Int) : ((1 : Int) == x || (2 == x || (4 == x || 8 == x))) = isW x := by
  unfold isW
  rw [BEq.comm (a := (1 : Int)), BEq.comm (a := (2 : Int)), BEq.comm (a := (4 : Int)), BEq.comm (a := (8 : Int))]

set_option maxHeartbeats 1000000 in
theorem right_any (x : Int) (w : World) :
    Calls Tryd.prog 97 #[.int .i64 x] w fun e w' => e = .returned (.bool (isW x)) ∧ Below w.heap.size w w' := by
  have hmf : ∀ (fn : Fn) (first cap : Array Value) (w : World), (Instr.makeFunc fn first cap).run Tryd.prog w = .ok (.func fn first cap) w := fun _ _ _ _ => rfl
  go_enter Tryd.func97, Tryd.ntmps97
  go_wp2_with (go_at_call 94; refine (widths_any _).mono ?_; rintro e w' ⟨rfl, rfl⟩)
  refine (first_any 109 _ (1 == x) (2 == x) (4 == x) (8 == x) _ (enters_of Tryd.func109 (by kernel_rfl) rfl) ?_).mono ?_
  · intro w' hb
    have hc : w'.cell? ⟨w.heap.size, 0, none⟩ = some (.int .i64 x) := cell_box (Below.trans ((Below.refl _ _).alloc (Nat.le_refl _) _) (hb.mono (by simp)))
    exact ⟨rightC_any 1 x _ w' hc, rightC_any 2 x _ w' hc, rightC_any 4 x _ w' hc, rightC_any 8 x _ w' hc⟩
  · rintro e w1 ⟨rfl, hb⟩
    go_wp2
    go_ret
    exact ⟨congrArg (fun b => Ending.returned (.bool b)) (isW_turned x), (((Below.refl _ _).alloc (Nat.le_refl _) _).alloc (by simp) _).trans (hb.mono (by simp; omega))⟩

def leastOf (n : Int) : Int := firstW (fits 1 n) (fits 2 n) (fits 4 n) (fits 8 n)

set_option maxHeartbeats 1000000 in
theorem least_any (n : Int) (w : World) (hn : U64 n) :
    Calls Tryd.prog 77 #[.int .u64 n] w fun e w' => e = .returned (.int .i64 (leastOf n)) ∧ Below w.heap.size w w' := by
  have hmf : ∀ (fn : Fn) (first cap : Array Value) (w : World), (Instr.makeFunc fn first cap).run Tryd.prog w = .ok (.func fn first cap) w := fun _ _ _ _ => rfl
  have Hn := Lib.hid hn
  clear hn
  go_enter Tryd.func77, Tryd.ntmps77
  go_wp2_with (go_at_call 94; refine (widths_any _).mono ?_; rintro e w' ⟨rfl, rfl⟩)
  refine (first_any 95 _ (fits 1 n) (fits 2 n) (fits 4 n) (fits 8 n) _ (enters_of Tryd.func95 (by kernel_rfl) rfl) ?_).mono ?_
  · intro w' hb
    have hc : w'.cell? ⟨w.heap.size, 0, none⟩ = some (.int .u64 n) := cell_box (Below.trans ((Below.refl _ _).alloc (Nat.le_refl _) _) (hb.mono (by simp)))
    exact ⟨leastC_any 1 n _ w' rfl Hn.out hc, leastC_any 2 n _ w' rfl Hn.out hc, leastC_any 4 n _ w' rfl Hn.out hc, leastC_any 8 n _ w' rfl Hn.out hc⟩
  · rintro e w1 ⟨rfl, hb⟩
    go_wp2
    go_ret
    exact ⟨rfl, (((Below.refl _ _).alloc (Nat.le_refl _) _).alloc (by simp) _).trans (hb.mono (by simp; omega))⟩

end Go.Proofs.YtkbnglcpcehaiaaDoor

namespace Go.Proofs.YtkbnglcpcehaiaaDoor
open Go.RowKit Go.Shelf

/-- The number of byte i from behind, as a shift says it. -/
def sb (n : Int) (i : Nat) : Int := n / 2 ^ (8 * i) % 256

set_option maxRecDepth 100000 in
set_option maxHeartbeats 1000000 in
theorem bytes_row (W : Nat) (n : Int) (w : World) (h1 : 1 ≤ W) (h8 : W ≤ 8) :
    Calls Tryd.prog 98 #[.agg #[.int .i64 W, .int .u64 n]] w fun e w' => e = .returned (.slice (some ⟨w.heap.size + 1, 0, none⟩) W W) ∧
      Below w.heap.size w w' ∧ w'.rowIs (w.heap.size + 1) 5 W (fun j => .int .u8 (sb n (W - 1 - j))) := by
  have hmk := fun w : World => run_make_row' (P := Tryd.prog) 42 5 (.int .u8 0) 1 Tryd.underlying42 (by kernel_rfl) rfl .i64 .i64 W (by omega) (by omega) w
  go_enter Tryd.func98, Tryd.ntmps98
  go_wp2
  go_loopw [10] (fun i wr => ∃ k : Nat, k ≤ W ∧ i = .int .i64 k ∧ wr.cell? ⟨w.heap.size, 1, none⟩ = some (.int .u64 n) ∧ Below w.heap.size w wr ∧
      wr.rowIs (w.heap.size + 1) 5 W (fun j => if W - k ≤ j then .int .u8 (sb n (W - 1 - j)) else .int .u8 0)) (fun i _ => W - (intOf i).toNat)
  case atStart =>
    refine ⟨0, Nat.zero_le _, rfl, by simp, ((Below.refl _ _).alloc (Nat.le_refl _) _).alloc (by simp) _, ?_⟩
    have hm := World.rowIs_made (w.alloc (.cells #[.int .i64 W, .int .u64 n] 138)) (.int .u8 0) W 5
    rw [World.size_alloc] at hm
    exact hm.congr fun i hi => by rw [if_neg (by omega)]
  case round =>
    obtain ⟨k, hk, rfl, hc, hb, hr⟩ := hrel
    by_cases hlt : k < W
    · have hcl := hr.cell (i := W - 1 - k) (by omega)
      have hfz := hr.frozen (W - 1 - k)
      have HR := Lib.hid hr
      clear hr
      obtain ⟨v, hv⟩ : ∃ v, wr.cell? ⟨w.heap.size + 1, W - 1 - k, none⟩ = some v := ⟨_, hcl⟩
      clear hcl
      go_wp2
      go_roundw
      case rel =>
        refine ⟨k + 1, by omega, by go_num, ?_, hb.setCell (by simp) _, ?_⟩
        · rw [World.cell?_setCell_other _ _ _ _ (by simp)]
          exact hc
        · refine (HR.out.set (W - 1 - k) (.int .u8 (n / 2 ^ (8 * k) % 256))).congr fun j hj => ?_
          by_cases e : j = W - 1 - k
          · subst e
            rw [if_pos rfl, if_pos (by omega)]
            simp only [sb]
            rw [show W - 1 - (W - 1 - k) = k by omega]
          · rw [if_neg e]
            by_cases e2 : W - k ≤ j
            · rw [if_pos e2, if_pos (by omega)]
            · rw [if_neg e2, if_neg (by omega)]
      case measure => simp [intOf]; omega
    · obtain rfl : k = W := by omega
      go_wp2
      go_ret
      exact ⟨rfl, hb, hr.congr fun j hj => by rw [if_pos (by omega)]⟩

/-- A number's bytes, the highest ahead. -/
def beB (W : Nat) (n : Int) : List UInt8 := (List.range W).map fun j => UInt8.ofNat (sb n (W - 1 - j)).toNat

theorem beB_length (W : Nat) (n : Int) : (beB W n).length = W := by simp [beB]

theorem byteAt_beB (W : Nat) (n : Int) (j : Nat) (hj : j < W) : byteAt (beB W n) j = sb n (W - 1 - j) := by
  have h0 : 0 ≤ sb n (W - 1 - j) := Int.emod_nonneg _ (by omega)
  have h1 : sb n (W - 1 - j) < 256 := Int.emod_lt_of_pos _ (by omega)
  simp only [byteAt, beB, List.getElem?_map, List.getElem?_range hj, Option.map_some, Option.getD_some, UInt8.toNat_ofNat']
  omega

set_option maxRecDepth 100000 in
set_option maxHeartbeats 1000000 in
theorem put_arg (x n : Int) (w : World) (hx : isW x = false) :
    Calls Tryd.prog 78 #[.int .u64 n, .int .i64 x] w fun e w' => e = .returned (.tuple #[.slice none 0 0, .int .i64 2]) ∧ Below w.heap.size w w' := by
  go_enter Tryd.func78, Tryd.ntmps78
  go_wp2
  refine wp_scope_on 0 rfl ?_
  go_wp2_with (go_at_call 97; refine (right_any _ _).mono ?_; rintro e w' ⟨rfl, hb⟩)
  go_step3
  refine ⟨rfl, ?_⟩
  show Code.wp _ _ _ _ _
  go_wp2
  rw [Exit.noGoto_ret]
  go_ret2
  exact ⟨rfl, ((Below.refl _ _).alloc (Nat.le_refl _) _).trans (hb.mono (by simp))⟩

/-- What the boxed number holds, in a later world. -/
theorem cells_box2 {w w' : World} {u v : Value} {t : TypeId} (hb : Below (w.alloc (.cells #[u, v] t)).heap.size (w.alloc (.cells #[u, v] t)) w') :
    w'.cell? ⟨w.heap.size, 0, none⟩ = some u ∧ w'.cell? ⟨w.heap.size, 1, none⟩ = some v := by
  constructor
  · rw [hb.cell (by simp)]
    simp
  · rw [hb.cell (by simp)]
    simp

set_option maxRecDepth 100000 in
set_option maxHeartbeats 1000000 in
theorem put_range (x n : Int) (w : World) (hx : isW x = true) (hn : U64 n) (hf : fits x n = false) :
    Calls Tryd.prog 78 #[.int .u64 n, .int .i64 x] w fun e w' => e = .returned (.tuple #[.slice none 0 0, .int .i64 4]) ∧ Below w.heap.size w w' := by
  have Hn := Lib.hid hn
  have Hx := Lib.hid hx
  clear hn
  go_enter Tryd.func78, Tryd.ntmps78
  go_wp2
  refine wp_scope_on 0 rfl ?_
  go_wp2_with (go_at_call 97; refine (right_any _ _).mono ?_; rintro e w' ⟨rfl, hb⟩; obtain ⟨hc0, hc1⟩ := cells_box2 hb)
  refine (says_any _ _ _ Hx.out Hn.out).mono ?_
  rintro e w2 ⟨rfl, rfl⟩
  go_wp2
  go_step3
  refine ⟨rfl, ?_⟩
  show Code.wp _ _ _ _ _
  go_wp2
  rw [Exit.noGoto_ret]
  go_ret2
  exact ⟨rfl, ((Below.refl _ _).alloc (Nat.le_refl _) _).trans (hb.mono (by simp))⟩

/-- A new slice of bytes, made since the world w. -/
def NewB (w w' : World) (v : Value) (bs : List UInt8) : Prop :=
  ∃ a c, v = .slice a bs.length c ∧ bs.length ≤ c ∧ RdB w' w'.heap.size a bs ∧ (∀ p, a = some p → w.heap.size ≤ p.block)

def PutPost (w : World) (W : Nat) (n : Int) (e : Ending) (w' : World) : Prop :=
  ∃ v, e = .returned (.tuple #[v, .int .i64 0]) ∧ NewB w w' v (beB W n) ∧ Below w.heap.size w w'

set_option maxRecDepth 100000 in
set_option maxHeartbeats 1000000 in
theorem put_ok (W : Nat) (n : Int) (w : World) (hx : isW W = true) (hn : U64 n) (hf : fits W n = true) :
    Calls Tryd.prog 78 #[.int .u64 n, .int .i64 W] w (PutPost w W n) := by
  have hW : 1 ≤ W ∧ W ≤ 8 := by
    have := isW_cases hx
    omega
  have Hn := Lib.hid hn
  have Hx := Lib.hid hx
  clear hn
  go_enter Tryd.func78, Tryd.ntmps78
  go_wp2
  refine wp_scope_on 0 rfl ?_
  go_wp2_with (go_at_call 97; refine (right_any _ _).mono ?_; rintro e w' ⟨rfl, hb⟩; obtain ⟨hc0, hc1⟩ := cells_box2 hb)
  refine (says_any _ _ _ Hx.out Hn.out).mono ?_
  rintro e w2 ⟨rfl, rfl⟩
  go_wp2_with fail
  refine (bytes_row W n _ hW.1 hW.2).mono ?_
  rintro e w3 ⟨rfl, hb3, hr⟩
  go_wp2
  simp only [Exit.jump]
  go_ret2
  have hL := beB_length W n
  refine ⟨_, rfl, ⟨some ⟨w'.heap.size + 1, 0, none⟩, W, by rw [hL]; rfl, by rw [hL]; exact Nat.le_refl _, RdB.of_row ((hL.symm ▸ hr).congr fun j hj => by rw [byteAt_beB W n j (by omega), hL]), ?_⟩, ?_⟩
  · rintro p ⟨⟩
    have := hb.size
    simp at this ⊢
    omega
  · exact (((Below.refl _ _).alloc (Nat.le_refl _) _).trans (hb.mono (by simp))).trans (hb3.mono (by have := hb.size; simp at this; omega))

end Go.Proofs.YtkbnglcpcehaiaaDoor

namespace Go.Proofs.YtkbnglcpcehaiaaDoor
open Go.RowKit Go.Shelf

theorem sb_eq (n : Int) (i : Nat) : sb n i = n / 256 ^ i % 256 := by
  unfold sb
  rw [Int.pow_mul]
  rfl

/-- What is left of a number whose bytes have been told. -/
theorem div_step (n : Int) (k : Nat) : n / 256 ^ k / 256 = n / 256 ^ (k + 1) := by
  rw [Int.ediv_ediv_of_nonneg (Int.le_of_lt (Int.pow_pos (by omega))), Int.pow_succ]

theorem pow256_pos (k : Nat) : (0 : Int) < 256 ^ k := Int.pow_pos (by omega)

theorem div_pow_le (n : Int) (hn : 0 ≤ n) (k : Nat) : 0 ≤ n / 256 ^ k ∧ n / 256 ^ k ≤ n :=
  ⟨Int.ediv_nonneg hn (Int.le_of_lt (pow256_pos k)), Int.ediv_le_self _ hn⟩

/-- A quotient of 64 bits, as the walk writes it. -/
theorem quo_u64 (q : Int) (h : U64 q) : IntKind.u64.wrap (q.tdiv 256) = q / 256 := by
  unfold U64 at h
  rw [IntKind.wrap_u64, Int.tdiv_eq_ediv_of_nonneg h.1]
  omega

theorem u64_div (n : Int) (h : U64 n) (k : Nat) : U64 (n / 256 ^ k) := by
  have := div_pow_le n h.1 k
  unfold U64 at *
  omega

theorem fits_iff (W : Nat) (n : Int) (hx : isW W = true) (hn : U64 n) : fits W n = true ↔ n / 256 ^ W = 0 := by
  have hn' := hn
  unfold U64 at hn'
  have hc : W = 1 ∨ W = 2 ∨ W = 4 ∨ W = 8 := by
    have := isW_cases hx
    omega
  rcases hc with rfl | rfl | rfl | rfl
  · simp [fits]
  · simp [fits]
  · simp [fits]
  · simp [fits]
    omega

/-- A block of integers that is known whole. -/
theorem blk_keep {w w' : World} {g : Nat} {o : Obj} (h : w.heap[g]? = some o) (hb : Below w.heap.size w w') : w'.heap[g]? = some o :=
  (hb.block g (Array.getElem?_eq_some_iff.1 h).1).trans h

end Go.Proofs.YtkbnglcpcehaiaaDoor

namespace Go.Proofs.YtkbnglcpcehaiaaDoor
open Go.RowKit Go.Shelf

attribute [local go_sem] Oper.semAt_some

/-- What the way over bytes hands over, round by round: the place, the byte. -/
def encE (bs : List UInt8) (k : Nat) : Array Value := #[.int .i64 (k : Int), .int .u8 (byteAt bs k)]

/-- The number of the first k bytes. -/
def valB (bs : List UInt8) : Nat → Int
  | 0 => 0
  | k + 1 => valB bs k * 256 + byteAt bs k

theorem valB_bd (bs : List UInt8) (k : Nat) : 0 ≤ valB bs k ∧ valB bs k < 256 ^ k := by
  induction k with
  | zero => exact ⟨Int.le_refl _, by simp [valB]⟩
  | succ k ih =>
    have h0 := byteAt_lo bs k
    have h1 := byteAt_hi bs k
    have e : (256 : Int) ^ (k + 1) = 256 ^ k * 256 := Int.pow_succ _ _
    simp only [valB]
    rw [e]
    omega

theorem pow256_le {k m : Nat} (h : k ≤ m) : (256 : Int) ^ k ≤ 256 ^ m := by
  have h1 : (256 : Nat) ^ k ≤ 256 ^ m := Nat.pow_le_pow_right (by omega) h
  have h2 := Int.ofNat_le.2 h1
  rwa [Int.natCast_pow, Int.natCast_pow] at h2

/-- One byte more, as the program reckons it. -/
theorem valB_step (bs : List UInt8) (k : Nat) (hk : k < 8) : bits BinOp.or IntKind.u64 (IntKind.u64.wrap (valB bs k * 256)) (byteAt bs k) = valB bs (k + 1) := by
  have hb := valB_bd bs k
  have h0 := byteAt_lo bs k
  have h1 := byteAt_hi bs k
  have h7 : (256 : Int) ^ k ≤ 72057594037927936 := by
    have := pow256_le (k := k) (m := 7) (by omega)
    have e : (256 : Int) ^ 7 = 72057594037927936 := by decide
    omega
  have hw : IntKind.u64.wrap (valB bs k * 256) = valB bs k * 256 := by
    rw [IntKind.wrap_u64]
    omega
  rw [hw]
  have p64 : (2 : Int) ^ 64 = 18446744073709551616 := by decide
  have p8 : (2 : Int) ^ 8 = 256 := by decide
  have hj := bits_join .u64 64 (by decide) (fun n h0 h1 => by rw [IntKind.wrap_u64]; rw [p64] at h1; omega) 8 (valB bs k * 256) (byteAt bs k)
  rw [p64, p8] at hj
  exact hj (by omega) (by omega) (by omega) h0 (by omega) (by omega)

end Go.Proofs.YtkbnglcpcehaiaaDoor

namespace Go.Proofs.YtkbnglcpcehaiaaDoor
open Go.RowKit Go.Shelf

attribute [local go_sem] Oper.semAt_some

/-- Do the bytes begin so? -/
def begins (b a : List UInt8) : Bool := decide (a.length ≤ b.length) && (b.take a.length == a)

theorem begins_iff (b a : List UInt8) : begins b a = true ↔ ∀ j, j < a.length → j < b.length ∧ byteAt b j = byteAt a j := by
  simp only [begins, Bool.and_eq_true, decide_eq_true_eq, beq_iff_eq]
  constructor
  · rintro ⟨hl, he⟩ j hj
    exact ⟨by omega, by rw [← byteAt_take b a.length j hj, he]⟩
  · intro h
    have hl : a.length ≤ b.length := by
      rcases Nat.eq_zero_or_pos a.length with h0 | h0
      · omega
      · have := (h (a.length - 1) (by omega)).1
        omega
    refine ⟨hl, ext_bytes (by simp; omega) fun j hj => ?_⟩
    have hj' : j < a.length := by simp at hj; omega
    rw [byteAt_take b a.length j hj']
    exact (h j hj').2

/-- What the third of three new boxes holds. -/
theorem cell_box2 (w : World) (u v x : Value) (s t r : TypeId) : (((w.alloc (.cells #[u] s)).alloc (.cells #[v] t)).alloc (.cells #[x] r)).cell? ⟨w.heap.size + 1 + 1, 0, none⟩ = some x := by
  have h := (Boxed.new ((w.alloc (.cells #[u] s)).alloc (.cells #[v] t)) r x).cell
  simpa using h

end Go.Proofs.YtkbnglcpcehaiaaDoor

namespace Go.Proofs.YtkbnglcpcehaiaaDoor
open Go.RowKit Go.Shelf

theorem info_u8 : (Tryd.prog.info? 5).map (fun i => (i.zero, i.size, i.bytes)) = some (some (.int .u8 0), 1, 1) := by kernel_rfl
theorem info_bytes : (Tryd.prog.info? 42).map (fun i => (i.zero, i.size, i.bytes)) = some (some (.slice none 0 0), 1, 24) := by kernel_rfl

/-- What a copy of bytes is. -/
def CloneP (w : World) (bs : List UInt8) (e : Ending) (w' : World) : Prop :=
  ∃ v, e = .returned v ∧ OwnV w' w.heap.size 5 v (bs.map encB) ∧ Below w.heap.size w w'

end Go.Proofs.YtkbnglcpcehaiaaDoor

namespace Go.Proofs.YtkbnglcpcehaiaaDoor
open Go.RowKit Go.Shelf

/-- A slice at a reads as these integers. -/
def RdI (w : World) (B : Nat) (a : Option Addr) (zs : List Int) : Prop :=
  zs = [] ∨ ∃ b o, a = some ⟨b, o, none⟩ ∧ b < B ∧ ∀ j, j < zs.length → w.cell? ⟨b, o + j, none⟩ = some (.int .i64 (zs[j]?.getD 0))

theorem RdI.below {w w' : World} {B : Nat} {a : Option Addr} {zs : List Int} (h : RdI w B a zs) (hb : Below B w w') : RdI w' B a zs := by
  rcases h with h | ⟨b, o, e, hlt, hc⟩
  · exact .inl h
  · exact .inr ⟨b, o, e, hlt, fun j hj => (hb.cell (p := ⟨b, o + j, none⟩) hlt).trans (hc j hj)⟩

theorem RdI.mono {w : World} {B B' : Nat} {a : Option Addr} {zs : List Int} (h : RdI w B a zs) (hB : B ≤ B') : RdI w B' a zs := by
  rcases h with h | ⟨b, o, e, hlt, hc⟩
  · exact .inl h
  · exact .inr ⟨b, o, e, by omega, hc⟩

/-- The pieces of bytes from f on, cut at these places; none: it can't be cut there. -/
def cutAt (bs : List UInt8) : Nat → List Int → Option (List (List UInt8))
  | f, [] => some [bs.drop f]
  | f, t :: ts => if t < (f : Int) ∨ (bs.length : Int) < t then none else (cutAt bs t.toNat ts).map (((bs.drop f).take (t.toNat - f)) :: ·)

/-- What is left to do, k places being done. -/
def LeftCut (bs : List UInt8) (zs : List Int) (k f : Nat) (ps : List (List UInt8)) : Prop :=
  cutAt bs 0 zs = (cutAt bs f (zs.drop k)).map (ps ++ ·)

theorem leftCut_start (bs : List UInt8) (zs : List Int) : LeftCut bs zs 0 0 [] := by
  unfold LeftCut
  cases h : cutAt bs 0 zs <;> simp [h]

theorem drop_step {α : Type} (l : List α) (k : Nat) (h : k < l.length) : l.drop k = l[k] :: l.drop (k + 1) := List.drop_eq_getElem_cons h

theorem leftCut_no {bs : List UInt8} {zs : List Int} {k f : Nat} {ps : List (List UInt8)} (h : LeftCut bs zs k f ps) (hk : k < zs.length) (hbad : zs[k]?.getD 0 < (f : Int) ∨ (bs.length : Int) < zs[k]?.getD 0) : cutAt bs 0 zs = none := by
  unfold LeftCut at h
  rw [drop_step zs k hk] at h
  rw [List.getElem?_eq_getElem hk, Option.getD_some] at hbad
  rw [h, cutAt, if_pos hbad]
  rfl

theorem leftCut_step {bs : List UInt8} {zs : List Int} {k f t : Nat} {ps : List (List UInt8)} (h : LeftCut bs zs k f ps) (hk : k < zs.length) (ht : zs[k]?.getD 0 = (t : Int)) (h1 : f ≤ t) (h2 : t ≤ bs.length) :
    LeftCut bs zs (k + 1) t (ps ++ [(bs.drop f).take (t - f)]) := by
  unfold LeftCut at h ⊢
  rw [drop_step zs k hk] at h
  rw [List.getElem?_eq_getElem hk, Option.getD_some] at ht
  rw [h, cutAt, ht, if_neg (by omega), Int.toNat_natCast]
  cases cutAt bs t (zs.drop (k + 1)) <;> simp

theorem leftCut_end {bs : List UInt8} {zs : List Int} {f : Nat} {ps : List (List UInt8)} (h : LeftCut bs zs zs.length f ps) : cutAt bs 0 zs = some (ps ++ [bs.drop f]) := by
  unfold LeftCut at h
  rw [h, List.drop_length, cutAt]
  rfl

/-- What Split answers. -/
def SplitP (w : World) (bs : List UInt8) (zs : List Int) (e : Ending) (w' : World) : Prop :=
  ((cutAt bs 0 zs = none ∧ e = .returned (.tuple #[.slice none 0 0, .int .i64 4])) ∨
   ∃ ps v vs, cutAt bs 0 zs = some ps ∧ e = .returned (.tuple #[v, .int .i64 0]) ∧ OwnV w' w.heap.size 42 v vs ∧ Pcs w' w.heap.size w'.heap.size vs ps) ∧ Below w.heap.size w w'

theorem size_u8 (w : World) : (Go.sizeOf 5).run Tryd.prog w = .ok 1 w := by kernel_rfl

end Go.Proofs.YtkbnglcpcehaiaaDoor

namespace Go.Proofs.YtkbnglcpcehaiaaDoor
open Go.RowKit Go.Shelf

/-- A slice at a reads as these values (of one cell each). -/
def RdV (w : World) (a : Option Addr) (vs : List Value) : Prop :=
  vs = [] ∨ ∃ b o, a = some ⟨b, o, none⟩ ∧ ∀ j, j < vs.length → w.cell? ⟨b, o + j, none⟩ = vs[j]?

theorem OwnV.rdV {w : World} {base : Nat} {e : TypeId} {v : Value} {xs : List Value} (h : OwnV w base e v xs) : ∃ A c, v = .slice A xs.length c ∧ RdV w A xs := by
  rcases h.form with ⟨rfl, rfl⟩ | ⟨g, cap, rfl, _, _, _, _, hc, _⟩
  · exact ⟨none, 0, rfl, .inl rfl⟩
  · exact ⟨_, _, rfl, .inr ⟨g, 0, rfl, fun j hj => by rw [Nat.zero_add]; exact hc j hj⟩⟩

/-- A list of pieces, read. -/
def RdP (w : World) (B : Nat) (a : Option Addr) (ps : List (List UInt8)) : Prop :=
  ps = [] ∨ ∃ b o, a = some ⟨b, o, none⟩ ∧ b < B ∧ ∀ j, j < ps.length → ∃ A c, w.cell? ⟨b, o + j, none⟩ = some (.slice A (ps[j]?.getD []).length c) ∧ (ps[j]?.getD []).length ≤ c ∧ RdB w B A (ps[j]?.getD [])

theorem RdP.drewN {w : World} {B : Nat} {a : Option Addr} {ps : List (List UInt8)} (h : RdP w B a ps) (q : Nat) : RdP (w.drewN q) B a ps := h

theorem RdP.below {w w' : World} {B : Nat} {a : Option Addr} {ps : List (List UInt8)} (h : RdP w B a ps) (hb : Below B w w') : RdP w' B a ps := by
  rcases h with h | ⟨b, o, e, hlt, hc⟩
  · exact .inl h
  · refine .inr ⟨b, o, e, hlt, fun j hj => ?_⟩
    obtain ⟨A, c, h1, h2, h3⟩ := hc j hj
    exact ⟨A, c, (hb.cell (p := ⟨b, o + j, none⟩) hlt).trans h1, h2, h3.below hb⟩

theorem RdP.mono {w : World} {B B' : Nat} {a : Option Addr} {ps : List (List UInt8)} (h : RdP w B a ps) (hB : B ≤ B') : RdP w B' a ps := by
  rcases h with h | ⟨b, o, e, hlt, hc⟩
  · exact .inl h
  · refine .inr ⟨b, o, e, by omega, fun j hj => ?_⟩
    obtain ⟨A, c, h1, h2, h3⟩ := hc j hj
    exact ⟨A, c, h1, h2, h3.mono hB⟩

theorem rdP_own {w : World} {base B0 : Nat} {e : TypeId} {v : Value} {vs : List Value} {ps : List (List UInt8)} (h : OwnV w base e v vs) (hp : Pcs w B0 w.heap.size vs ps) :
    ∃ A c, v = .slice A ps.length c ∧ RdP w w.heap.size A ps := by
  rcases h.form with ⟨rfl, rfl⟩ | ⟨g, cap, rfl, _, hg, _, _, hc, _⟩
  · have : ps = [] := List.eq_nil_of_length_eq_zero (by rw [← hp.1]; rfl)
    subst this
    exact ⟨none, 0, rfl, .inl rfl⟩
  · refine ⟨_, _, by rw [hp.1], .inr ⟨g, 0, rfl, hg, fun j hj => ?_⟩⟩
    obtain ⟨A, c, hv, hle, hr, _⟩ := hp.2 j hj
    refine ⟨A, c, ?_, hle, hr⟩
    have hj' : j < vs.length := by rw [hp.1]; exact hj
    rw [Nat.zero_add, hc j hj', List.getElem?_eq_getElem hj', ← hv]
    simp [List.getElem?_eq_getElem hj']

end Go.Proofs.YtkbnglcpcehaiaaDoor
