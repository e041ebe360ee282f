/- Joined texts. -/
import Derived.Test.YtpffmpjdkpfpmaaGreatDoorZKr
namespace Go.Proofs.YtpffmpjdkpfpmaaGreatDoor
open Go.RowKit Go.Shelf

theorem RdB.of_own {w : World} {base G n C : Nat} {e : TypeId} {bs : List UInt8} (h : OwnV w base e (.slice (some ⟨G, 0, none⟩) n C) (bs.map encB)) : RdB w w.heap.size (some ⟨G, 0, none⟩) bs := by
  obtain ⟨A, C', hv, _, hr, _⟩ := h.bytes
  injection hv with e1
  rw [e1]
  exact hr

theorem own_cell {w : World} {base G n C : Nat} {e : TypeId} {bs : List UInt8} (h : OwnV w base e (.slice (some ⟨G, 0, none⟩) n C) (bs.map encB)) (i : Nat) (hi : i < bs.length) : w.cell? ⟨G, i, none⟩ = some (.int .u8 ((bs[i]?.getD 0).toNat : Int)) := by
  rcases h.form with ⟨h0, _⟩ | ⟨g, cap, hv, _, _, _, _, hc, _⟩
  · cases h0
  · injection hv with e1
    cases e1
    rw [hc i (by simpa using hi), encB_at bs i hi]
    rfl

theorem flip_val {x j : Nat} (hx : x < 256) (hj : j < 8) : bits .xor .u8 (x : Int) (2 ^ j % 256) = ((x ^^^ 2 ^ j : Nat) : Int) := by
  have hp : 2 ^ j ≤ 128 := by
    have := Nat.pow_le_pow_right (n := 2) (by omega) (show j ≤ 7 by omega)
    omega
  have e : ((2 : Int) ^ j % 256) = ((2 ^ j : Nat) : Int) := by
    have e2 : ((2 ^ j : Nat) : Int) = (2 : Int) ^ j := by rw [Int.natCast_pow]; rfl
    have h3 : 2 ^ j % 256 = 2 ^ j := Nat.mod_eq_of_lt (by omega)
    rw [← e2, show (256 : Int) = ((256 : Nat) : Int) from rfl, ← Int.natCast_emod, h3]
  have hlt : x ^^^ 2 ^ j < 2 ^ 8 := Nat.xor_lt_two_pow (by omega) (by omega)
  have h1 : (BitVec.ofInt 8 (x : Int)).toNat = x := by
    rw [BitVec.ofInt_natCast, BitVec.toNat_ofNat]; exact Nat.mod_eq_of_lt (by omega)
  have h2 : (BitVec.ofInt 8 ((2 ^ j : Nat) : Int)).toNat = 2 ^ j := by
    rw [BitVec.ofInt_natCast, BitVec.toNat_ofNat]; exact Nat.mod_eq_of_lt (by omega)
  rw [e]
  show IntKind.u8.wrap ((BitVec.ofInt 8 (x : Int) ^^^ BitVec.ofInt 8 ((2 ^ j : Nat) : Int)).toNat : Int) = _
  rw [BitVec.toNat_xor, h1, h2, IntKind.wrap_u8]
  omega

theorem own_frozen {w : World} {base G n C : Nat} {e : TypeId} {xs : List Value} (h : OwnV w base e (.slice (some ⟨G, 0, none⟩) n C) xs) (i : Nat) : w.frozen? ⟨G, i, none⟩ = false := by
  rcases h.form with ⟨h0, _⟩ | ⟨g, cap, hv, _, _, _, _, _, hf⟩
  · cases h0
  · injection hv with e1
    cases e1
    exact hf i

end Go.Proofs.YtpffmpjdkpfpmaaGreatDoor
