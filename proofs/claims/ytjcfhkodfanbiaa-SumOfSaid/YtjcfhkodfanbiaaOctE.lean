/- Package octet's way over bytes ('each', and the function that it hands out), and Get. -/
import Derived.Test.YtjcfhkodfanbiaaOctD
import Derived.Test.YtjcfhkodfanbiaaRange
namespace Go.Proofs.Ytjcfhkodfanbiaa
open Go.RowKit Go.Shelf

attribute [local go_sem] Oper.semAt_some

/-- What the way over bytes hands over, round by round: the place, the byte. -/
def encE (bs : List UInt8) (k : Nat) : Array Value := #[.int .i64 (k : Int), .int .u8 (byteAt bs k)]

/-- The number of the first k bytes. -/
def valB (bs : List UInt8) : Nat → Int
  | 0 => 0
  | k + 1 => valB bs k * 256 + byteAt bs k

theorem valB_bd (bs : List UInt8) (k : Nat) : 0 ≤ valB bs k ∧ valB bs k < 256 ^ k := by
  induction k with
  | zero => exact ⟨Int.le_refl _, by simp [valB]⟩
  | succ k ih =>
    have h0 := byteAt_lo bs k
    have h1 := byteAt_hi bs k
    have e : (256 : Int) ^ (k + 1) = 256 ^ k * 256 := Int.pow_succ _ _
    simp only [valB]
    rw [e]
    omega

theorem pow256_le {k m : Nat} (h : k ≤ m) : (256 : Int) ^ k ≤ 256 ^ m := by
  have h1 : (256 : Nat) ^ k ≤ 256 ^ m := Nat.pow_le_pow_right (by omega) h
  have h2 := Int.ofNat_le.2 h1
  rwa [Int.natCast_pow, Int.natCast_pow] at h2

/-- One byte more, as the program reckons it. -/
theorem valB_step (bs : List UInt8) (k : Nat) (hk : k < 8) : bits BinOp.or IntKind.u64 (IntKind.u64.wrap (valB bs k * 256)) (byteAt bs k) = valB bs (k + 1) := by
  have hb := valB_bd bs k
  have h0 := byteAt_lo bs k
  have h1 := byteAt_hi bs k
  have h7 : (256 : Int) ^ k ≤ 72057594037927936 := by
    have := pow256_le (k := k) (m := 7) (by omega)
    have e : (256 : Int) ^ 7 = 72057594037927936 := by decide
    omega
  have hw : IntKind.u64.wrap (valB bs k * 256) = valB bs k * 256 := by
    rw [IntKind.wrap_u64]
    omega
  rw [hw]
  have p64 : (2 : Int) ^ 64 = 18446744073709551616 := by decide
  have p8 : (2 : Int) ^ 8 = 256 := by decide
  have hj := bits_join .u64 64 (by decide) (fun n h0 h1 => by rw [IntKind.wrap_u64]; rw [p64] at h1; omega) 8 (valB bs k * 256) (byteAt bs k)
  rw [p64, p8] at hj
  exact hj (by omega) (by omega) (by omega) h0 (by omega) (by omega)

end Go.Proofs.Ytjcfhkodfanbiaa
