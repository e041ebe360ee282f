/- The document's Flags. -/
import Derived.Test.YtlmdbeccfoncpaaGreatDoorZPmK
namespace Go.Proofs.YtlmdbeccfoncpaaGreatDoor
open Go Go.RowKit Go.Shelf
set_option linter.unusedSimpArgs false
set_option linter.unusedVariables false
set_option maxRecDepth 100000


/-- A flag's bits, if it is among these. -/
def inN (φ : Nat) (zs : List Nat) : Nat := if φ ∈ zs then φ else 0

theorem inN_yes {zs : List Nat} {k φ : Nat} (h : k < zs.length) (h2 : zs[k]?.getD 0 = φ) : inN φ (zs.take (k + 1)) = φ := by
  unfold inN
  rw [List.take_succ_eq_append_getElem h]
  rw [List.getElem?_eq_getElem h] at h2
  rw [if_pos]
  simp only [List.mem_append, List.mem_singleton]
  exact .inr h2.symm

theorem inN_no {zs : List Nat} {k φ : Nat} (h : k < zs.length) (h2 : zs[k]?.getD 0 ≠ φ) : inN φ (zs.take (k + 1)) = inN φ (zs.take k) := by
  unfold inN
  rw [List.take_succ_eq_append_getElem h]
  rw [List.getElem?_eq_getElem h] at h2
  have h3 : ¬ φ = zs[k] := fun e => h2 (by simp [e])
  simp only [List.mem_append, List.mem_singleton, h3, or_false]

theorem inN_le (φ : Nat) (zs : List Nat) : inN φ zs ≤ φ := by
  unfold inN
  split <;> omega

theorem upN_inN (r : Int) (zs : List Nat) : upN r zs 2 = rkN r + inN 2 zs + inN 32 zs := by
  simp [upN, inN]

set_option maxHeartbeats 8000000 in
theorem refFlags_any (r : Int) (a : Option Addr) (c : Nat) (zs : List Nat) (w : World) (hlen : zs.length ≤ 1000000) (hr : RdU3 w w.heap.size a zs) :
    Calls Tryz.prog 20 #[.int .i64 r, .slice a zs.length c] w fun e w' => e = .returned (.int .u32 (upN r zs 2 : Nat)) ∧ w = w' := by
  have HR := Lib.hid hr
  clear hr
  go_enter Tryz.func20, Tryz.ntmps20
  go_upto_region 2 with fail
  go_cut [14] from 9 to 13 (fun v14 wx => v14 = .bool (decide (0 ≤ r ∧ r ≤ 2)) ∧ w = wx)
  case first =>
    by_cases h0 : 0 ≤ r
    · have h0' : decide (0 ≤ r) = true := by simp; omega
      by_cases h2 : r ≤ 2
      · have h2' : decide (r ≤ 2) = true := by simp; omega
        have HK : Hid (decide (0 ≤ r ∧ r ≤ 2) = true) := by rw [Hid]; simp; omega
        generalize decide (0 ≤ r ∧ r ≤ 2) = q at *
        clear h0 h2
        go_wp2_with fail
        go_meet
        case rel => exact ⟨by rw [HK.out], rfl⟩
      · have h2' : decide (r ≤ 2) = false := by simp; omega
        have HK : Hid (decide (0 ≤ r ∧ r ≤ 2) = false) := by rw [Hid]; simp; omega
        generalize decide (0 ≤ r ∧ r ≤ 2) = q at *
        clear h0 h2
        go_wp2_with fail
        go_meet
        case rel => exact ⟨by rw [HK.out], rfl⟩
    · have h0' : decide (0 ≤ r) = false := by simp; omega
      have HK : Hid (decide (0 ≤ r ∧ r ≤ 2) = false) := by rw [Hid]; simp; omega
      generalize decide (0 ≤ r ∧ r ≤ 2) = q at *
      clear h0
      go_wp2_with fail
      go_meet
      case rel => exact ⟨by rw [HK.out], rfl⟩
  case rest =>
  obtain ⟨rfl, rfl⟩ := hcut
  go_upto_if 14 with fail
  go_cut [5] from 9 to 17 (fun v5 wx => v5 = .int .u32 (rkN r : Nat) ∧ w = wx)
  case first =>
    by_cases h0 : 0 ≤ r ∧ r ≤ 2
    · obtain ⟨r2, rfl⟩ : ∃ r2 : Nat, r = r2 := ⟨r.toNat, by omega⟩
      have HK : Hid (rkN (r2 : Int) = 128 * r2) := by rw [Hid]; unfold rkN; rw [if_pos h0]; simp
      have hw1 : IntKind.i64.wrap (128 * (r2 : Int)) = 128 * (r2 : Int) := by
        simp [IntKind.wrap, IntKind.signed, IntKind.bits]
        omega
      have hw2 : (128 * (r2 : Int)) % 4294967296 = 128 * (r2 : Int) := by omega
      rw [decide_eq_true h0]
      clear h0
      go_wp2_with fail
      go_meet
      case rel => exact ⟨by rw [HK.out]; simp, rfl⟩
    · have HK : Hid (rkN r = 0) := by rw [Hid]; unfold rkN; rw [if_neg h0]
      rw [decide_eq_false h0]
      clear h0
      go_wp2_with fail
      go_meet
      case rel => exact ⟨by rw [HK.out]; rfl, rfl⟩
  case rest =>
  obtain ⟨rfl, rfl⟩ := hcut
  go_wp2_with fail
  go_loopw [6, 7, 8] (fun s6 s7 i wr => ∃ k : Nat, k ≤ zs.length ∧ i = .int .i64 k ∧ s6 = .int .u32 (inN 2 (zs.take k) : Nat) ∧ s7 = .int .u32 (inN 32 (zs.take k) : Nat) ∧ w = wr) (fun _ _ i _ => zs.length - (intOf i).toNat)
  case atStart => exact ⟨0, Nat.zero_le _, rfl, by simp [inN], by simp [inN], rfl⟩
  case round =>
    obtain ⟨k, hk, rfl, rfl, rfl, rfl⟩ := hrel
    by_cases hlt : k < zs.length
    · obtain ⟨g, o, rfl, hg, hc0⟩ := HR.out.at k hlt
      have HS : Hid (∀ φ, zs[k]?.getD 0 = φ → inN φ (zs.take (k + 1)) = φ) := fun φ h => inN_yes hlt h
      have HH2 : Hid (zs[k]?.getD 0 ≠ 2 → inN 2 (zs.take (k + 1)) = inN 2 (zs.take k)) := fun h => inN_no hlt h
      have HH32 : Hid (zs[k]?.getD 0 ≠ 32 → inN 32 (zs.take (k + 1)) = inN 32 (zs.take k)) := fun h => inN_no hlt h
      generalize zs[k]?.getD 0 = x at *
      generalize inN 2 (zs.take k) = y2 at *
      generalize inN 32 (zs.take k) = y32 at *
      by_cases h2 : x = 2
      · subst h2
        have HA := Lib.hid (HS.out 2 rfl)
        have HB := Lib.hid (HH32.out (by decide))
        go_wp2_with fail
        go_roundw
        case rel => exact ⟨k + 1, by omega, by go_num, by rw [HA.out]; rfl, by rw [HB.out], trivial⟩
        case measure => simp [intOf]; omega
      · have hn2 : ((x : Int) == 2) = false := by simp; omega
        have HA := Lib.hid (HH2.out h2)
        clear h2
        by_cases h32 : x = 32
        · subst h32
          have HB := Lib.hid (HS.out 32 rfl)
          go_wp2_with fail
          go_roundw
          case rel => exact ⟨k + 1, by omega, by go_num, by rw [HA.out], by rw [HB.out]; rfl, trivial⟩
          case measure => simp [intOf]; omega
        · have hn32 : ((x : Int) == 32) = false := by simp; omega
          have HB := Lib.hid (HH32.out h32)
          clear h32
          go_wp2_with fail
          go_roundw
          case rel => exact ⟨k + 1, by omega, by go_num, by rw [HA.out], by rw [HB.out], trivial⟩
          case measure => simp [intOf]; omega
    · obtain rfl : k = zs.length := by omega
      rw [List.take_length]
      have HU : Hid (upN r zs 2 = rkN r + inN 2 zs + inN 32 zs) := upN_inN r zs
      have h3 := rkN_or r
      have h4 := inN_le 2 zs
      have h5 := inN_le 32 zs
      generalize inN 2 zs = y2 at *
      generalize inN 32 zs = y32 at *
      generalize rkN r = y at *
      have hs1 : ((y : Int) + (y2 : Int)) % 4294967296 = (y : Int) + (y2 : Int) := by omega
      have hs2 : ((y : Int) + (y2 : Int) + (y32 : Int)) % 4294967296 = (y : Int) + (y2 : Int) + (y32 : Int) := by omega
      clear h3 h4 h5
      go_wp2_with fail
      go_ret
      exact ⟨by rw [HU.out]; simp [Array.getD, Int.add_assoc], rfl⟩

end Go.Proofs.YtlmdbeccfoncpaaGreatDoor
