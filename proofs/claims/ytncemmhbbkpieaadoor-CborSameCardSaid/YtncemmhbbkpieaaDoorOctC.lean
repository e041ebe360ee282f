/- Contracts of a number's bytes and of Put. -/
import Derived.Test.YtncemmhbbkpieaaDoorBase
import Derived.Test.YtncemmhbbkpieaaDoorOctB
namespace Go.Proofs.YtncemmhbbkpieaaDoor
open Go.RowKit Go.Shelf

/-- The number of byte i from behind, as a shift says it. -/
def sb (n : Int) (i : Nat) : Int := n / 2 ^ (8 * i) % 256

set_option maxRecDepth 100000 in
set_option maxHeartbeats 1000000 in
theorem bytes_row (W : Nat) (n : Int) (w : World) (h1 : 1 ≤ W) (h8 : W ≤ 8) :
    Calls Tryd.prog 76 #[.agg #[.int .i64 W, .int .u64 n]] w fun e w' => e = .returned (.slice (some ⟨w.heap.size + 1, 0, none⟩) W W) ∧
      Below w.heap.size w w' ∧ w'.rowIs (w.heap.size + 1) 5 W (fun j => .int .u8 (sb n (W - 1 - j))) := by
  have hmk := fun w : World => run_make_row' (P := Tryd.prog) 22 5 (.int .u8 0) 1 Tryd.underlying22 (by kernel_rfl) rfl .i64 .i64 W (by omega) (by omega) w
  go_enter Tryd.func76, Tryd.ntmps76
  go_wp2
  go_loopw [10] (fun i wr => ∃ k : Nat, k ≤ W ∧ i = .int .i64 k ∧ wr.cell? ⟨w.heap.size, 1, none⟩ = some (.int .u64 n) ∧ Below w.heap.size w wr ∧
      wr.rowIs (w.heap.size + 1) 5 W (fun j => if W - k ≤ j then .int .u8 (sb n (W - 1 - j)) else .int .u8 0)) (fun i _ => W - (intOf i).toNat)
  case atStart =>
    refine ⟨0, Nat.zero_le _, rfl, by simp, ((Below.refl _ _).alloc (Nat.le_refl _) _).alloc (by simp) _, ?_⟩
    have hm := World.rowIs_made (w.alloc (.cells #[.int .i64 W, .int .u64 n] 118)) (.int .u8 0) W 5
    rw [World.size_alloc] at hm
    exact hm.congr fun i hi => by rw [if_neg (by omega)]
  case round =>
    obtain ⟨k, hk, rfl, hc, hb, hr⟩ := hrel
    by_cases hlt : k < W
    · have hcl := hr.cell (i := W - 1 - k) (by omega)
      have hfz := hr.frozen (W - 1 - k)
      have HR := Lib.hid hr
      clear hr
      obtain ⟨v, hv⟩ : ∃ v, wr.cell? ⟨w.heap.size + 1, W - 1 - k, none⟩ = some v := ⟨_, hcl⟩
      clear hcl
      go_wp2
      go_roundw
      case rel =>
        refine ⟨k + 1, by omega, by go_num, ?_, hb.setCell (by simp) _, ?_⟩
        · rw [World.cell?_setCell_other _ _ _ _ (by simp)]
          exact hc
        · refine (HR.out.set (W - 1 - k) (.int .u8 (n / 2 ^ (8 * k) % 256))).congr fun j hj => ?_
          by_cases e : j = W - 1 - k
          · subst e
            rw [if_pos rfl, if_pos (by omega)]
            simp only [sb]
            rw [show W - 1 - (W - 1 - k) = k by omega]
          · rw [if_neg e]
            by_cases e2 : W - k ≤ j
            · rw [if_pos e2, if_pos (by omega)]
            · rw [if_neg e2, if_neg (by omega)]
      case measure => simp [intOf]; omega
    · obtain rfl : k = W := by omega
      go_wp2
      go_ret
      exact ⟨rfl, hb, hr.congr fun j hj => by rw [if_pos (by omega)]⟩

/-- A number's bytes, the highest ahead. -/
def beB (W : Nat) (n : Int) : List UInt8 := (List.range W).map fun j => UInt8.ofNat (sb n (W - 1 - j)).toNat

theorem beB_length (W : Nat) (n : Int) : (beB W n).length = W := by simp [beB]

theorem byteAt_beB (W : Nat) (n : Int) (j : Nat) (hj : j < W) : byteAt (beB W n) j = sb n (W - 1 - j) := by
  have h0 : 0 ≤ sb n (W - 1 - j) := Int.emod_nonneg _ (by omega)
  have h1 : sb n (W - 1 - j) < 256 := Int.emod_lt_of_pos _ (by omega)
  simp only [byteAt, beB, List.getElem?_map, List.getElem?_range hj, Option.map_some, Option.getD_some, UInt8.toNat_ofNat']
  omega

set_option maxRecDepth 100000 in
set_option maxHeartbeats 1000000 in
theorem put_arg (x n : Int) (w : World) (hx : isW x = false) :
    Calls Tryd.prog 61 #[.int .u64 n, .int .i64 x] w fun e w' => e = .returned (.tuple #[.slice none 0 0, .int .i64 2]) ∧ Below w.heap.size w w' := by
  go_enter Tryd.func61, Tryd.ntmps61
  go_wp2
  refine wp_scope_on 0 rfl ?_
  go_wp2_with (go_at_call 65; refine (right_any _ _).mono ?_; rintro e w' ⟨rfl, hb⟩)
  go_step3
  refine ⟨rfl, ?_⟩
  show Code.wp _ _ _ _ _
  go_wp2
  rw [Exit.noGoto_ret]
  go_ret2
  exact ⟨rfl, ((Below.refl _ _).alloc (Nat.le_refl _) _).trans (hb.mono (by simp))⟩

/-- What the boxed number holds, in a later world. -/
theorem cells_box2 {w w' : World} {u v : Value} {t : TypeId} (hb : Below (w.alloc (.cells #[u, v] t)).heap.size (w.alloc (.cells #[u, v] t)) w') :
    w'.cell? ⟨w.heap.size, 0, none⟩ = some u ∧ w'.cell? ⟨w.heap.size, 1, none⟩ = some v := by
  constructor
  · rw [hb.cell (by simp)]
    simp
  · rw [hb.cell (by simp)]
    simp

set_option maxRecDepth 100000 in
set_option maxHeartbeats 1000000 in
theorem put_range (x n : Int) (w : World) (hx : isW x = true) (hn : U64 n) (hf : fits x n = false) :
    Calls Tryd.prog 61 #[.int .u64 n, .int .i64 x] w fun e w' => e = .returned (.tuple #[.slice none 0 0, .int .i64 4]) ∧ Below w.heap.size w w' := by
  have Hn := Lib.hid hn
  have Hx := Lib.hid hx
  clear hn
  go_enter Tryd.func61, Tryd.ntmps61
  go_wp2
  refine wp_scope_on 0 rfl ?_
  go_wp2_with (go_at_call 65; refine (right_any _ _).mono ?_; rintro e w' ⟨rfl, hb⟩; obtain ⟨hc0, hc1⟩ := cells_box2 hb)
  refine (says_any _ _ _ Hx.out Hn.out).mono ?_
  rintro e w2 ⟨rfl, rfl⟩
  go_wp2
  go_step3
  refine ⟨rfl, ?_⟩
  show Code.wp _ _ _ _ _
  go_wp2
  rw [Exit.noGoto_ret]
  go_ret2
  exact ⟨rfl, ((Below.refl _ _).alloc (Nat.le_refl _) _).trans (hb.mono (by simp))⟩

/-- A new slice of bytes, made since the world w. -/
def NewB (w w' : World) (v : Value) (bs : List UInt8) : Prop :=
  ∃ a c, v = .slice a bs.length c ∧ bs.length ≤ c ∧ RdB w' w'.heap.size a bs ∧ (∀ p, a = some p → w.heap.size ≤ p.block)

def PutPost (w : World) (W : Nat) (n : Int) (e : Ending) (w' : World) : Prop :=
  ∃ v, e = .returned (.tuple #[v, .int .i64 0]) ∧ NewB w w' v (beB W n) ∧ Below w.heap.size w w'

set_option maxRecDepth 100000 in
set_option maxHeartbeats 1000000 in
theorem put_ok (W : Nat) (n : Int) (w : World) (hx : isW W = true) (hn : U64 n) (hf : fits W n = true) :
    Calls Tryd.prog 61 #[.int .u64 n, .int .i64 W] w (PutPost w W n) := by
  have hW : 1 ≤ W ∧ W ≤ 8 := by
    have := isW_cases hx
    omega
  have Hn := Lib.hid hn
  have Hx := Lib.hid hx
  clear hn
  go_enter Tryd.func61, Tryd.ntmps61
  go_wp2
  refine wp_scope_on 0 rfl ?_
  go_wp2_with (go_at_call 65; refine (right_any _ _).mono ?_; rintro e w' ⟨rfl, hb⟩; obtain ⟨hc0, hc1⟩ := cells_box2 hb)
  refine (says_any _ _ _ Hx.out Hn.out).mono ?_
  rintro e w2 ⟨rfl, rfl⟩
  go_wp2_with fail
  refine (bytes_row W n _ hW.1 hW.2).mono ?_
  rintro e w3 ⟨rfl, hb3, hr⟩
  go_wp2
  simp only [Exit.jump]
  go_ret2
  have hL := beB_length W n
  refine ⟨_, rfl, ⟨some ⟨w'.heap.size + 1, 0, none⟩, W, by rw [hL]; rfl, by rw [hL]; exact Nat.le_refl _, RdB.of_row ((hL.symm ▸ hr).congr fun j hj => by rw [byteAt_beB W n j (by omega), hL]), ?_⟩, ?_⟩
  · rintro p ⟨⟩
    have := hb.size
    simp at this ⊢
    omega
  · exact (((Below.refl _ _).alloc (Nat.le_refl _) _).trans (hb.mono (by simp))).trans (hb3.mono (by have := hb.size; simp at this; omega))

end Go.Proofs.YtncemmhbbkpieaaDoor
