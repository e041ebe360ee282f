/- The small functions of package sum, and of its document's answers: which kinds there are, who is meant. -/
import Derived.Test.YtjcfhkodfanbiaaOctC
import Derived.Test.YtjcfhkodfanbiaaSumA
import Derived.Test.YtjcfhkodfanbiaaRange
import Derived.RangeFuncBox
namespace Go.Proofs.Ytjcfhkodfanbiaa
open Go.RowKit Go.Shelf

/-- How many bytes a kind's sum has. -/
def wdN (k : Nat) : Nat := if k = 1 then 2 else if k = 2 then 4 else 0
/-- A kind's word of all bits 1. -/
def onN (k : Nat) : Nat := if k = 1 then 65535 else if k = 2 then 4294967295 else 0
/-- A kind's fixed word. -/
def fxN (k : Nat) : Nat := if k = 1 then 33800 else if k = 2 then 2197175160 else 0

/-- The sum of bytes. -/
def sumN (k : Nat) (bs : List UInt8) : Nat := onN k - crcN (fxN k) (onN k) bs bs.length

/-- Is it a kind? -/
def isK (x : Int) : Bool := decide (0 ≤ x) && decide (x ≤ 2)

theorem isK_nat {x : Int} (h : isK x = true) : ∃ k : Nat, k ≤ 2 ∧ x = (k : Int) := by
  simp [isK] at h
  exact ⟨x.toNat, by omega, by omega⟩

theorem isK_of {k : Nat} (h : k ≤ 2) : isK (k : Int) = true := by
  simp [isK]
  omega

theorem isK_no {x : Int} (h : isK x = false) : x < 0 ∨ 2 < x := by
  simp [isK] at h
  omega

set_option maxHeartbeats 400000 in
theorem num_any (x : Int) (w : World) :
    Calls Try.prog 10 #[.int .i64 x] w fun e w' => e = .returned (.int .i64 x) ∧ w = w' := by
  go_enter Try.func10, Try.ntmps10
  go_wp2
  go_ret
  exact ⟨rfl, rfl⟩

set_option maxHeartbeats 400000 in
theorem refKind_any (x : Int) (w : World) :
    Calls Try.prog 9 #[.int .i64 x] w fun e w' => e = .returned (.bool (isK x)) ∧ w = w' := by
  by_cases h : 0 ≤ x
  · go_enter Try.func9, Try.ntmps9
    go_wp2
    go_ret
    refine ⟨?_, rfl⟩
    simp [isK, h]
  · go_enter Try.func9, Try.ntmps9
    go_wp2
    go_ret
    refine ⟨?_, rfl⟩
    simp [isK]
    omega

set_option maxHeartbeats 400000 in
theorem refWidth_any (k : Nat) (hk : k ≤ 2) (w : World) :
    Calls Try.prog 12 #[.int .i64 k] w fun e w' => e = .returned (.int .i64 (wdN k)) ∧ w = w' := by
  have hw : (2 : Int) * (k : Int) = (wdN k : Int) := by
    have : k = 0 ∨ k = 1 ∨ k = 2 := by omega
    rcases this with rfl | rfl | rfl <;> rfl
  go_enter Try.func12, Try.ntmps12
  go_wp2
  go_ret
  first
    | exact ⟨rfl, rfl⟩
    | (refine ⟨?_, rfl⟩; rw [← hw])

set_option maxRecDepth 100000 in
set_option maxHeartbeats 1000000 in
theorem kinds_any (w : World) :
    Calls Try.prog 18 #[] w fun e w' =>
      e = .returned (.agg #[.int .i64 0, .int .u32 0, .int .u32 0, .int .i64 2, .int .u32 65535, .int .u32 33800, .int .i64 4, .int .u32 4294967295, .int .u32 2197175160]) ∧ Below w.heap.size w w' := by
  go_enter Try.func18, Try.ntmps18
  go_wp2
  refine bodyPost_ret (v := .agg #[.int .i64 0, .int .u32 0, .int .u32 0, .int .i64 2, .int .u32 65535, .int .u32 33800, .int .i64 4, .int .u32 4294967295, .int .u32 2197175160]) (by simp [results, Try.results18, go_sem]) rfl ⟨rfl, ?_⟩
  exact (Below.refl _ _).alloc (Nat.le_refl _) _

/-- A kind, as it lies. -/
def kindV (k : Nat) : Value := .agg #[.int .i64 (wdN k), .int .u32 (onN k), .int .u32 (fxN k)]

set_option maxRecDepth 100000 in
set_option maxHeartbeats 1000000 in
theorem meant_no (x : Int) (hx : isK x = false) (w : World) :
    Calls Try.prog 17 #[.agg #[.int .i64 0, .int .u32 0, .int .u32 0, .int .i64 2, .int .u32 65535, .int .u32 33800, .int .i64 4, .int .u32 4294967295, .int .u32 2197175160], .int .i64 x] w fun e w' =>
      e = .returned (.tuple #[.agg #[.int .i64 0, .int .u32 0, .int .u32 0], .bool false]) ∧ Below w.heap.size w w' := by
  have hx' := isK_no hx
  clear hx
  by_cases h : x < 0
  · clear hx'
    go_enter Try.func17, Try.ntmps17
    go_wp2
    refine bodyPost_ret (v := .tuple #[.agg #[.int .i64 0, .int .u32 0, .int .u32 0], .bool false]) (by simp [results, Try.results17, go_sem]) rfl ⟨rfl, ?_⟩
    exact (((Below.refl _ _).alloc (Nat.le_refl _) _).alloc (by simp) _).alloc (by simp; omega) _
  · have h2 : 3 ≤ x := by omega
    clear hx'
    go_enter Try.func17, Try.ntmps17
    go_wp2
    refine bodyPost_ret (v := .tuple #[.agg #[.int .i64 0, .int .u32 0, .int .u32 0], .bool false]) (by simp [results, Try.results17, go_sem]) rfl ⟨rfl, ?_⟩
    exact (((Below.refl _ _).alloc (Nat.le_refl _) _).alloc (by simp) _).alloc (by simp; omega) _

theorem kind_cases {k : Nat} (h : k ≤ 2) : k = 0 ∨ k = 1 ∨ k = 2 := by omega

set_option maxRecDepth 100000 in
set_option maxHeartbeats 1000000 in
theorem meant_ok (k : Nat) (hk : k ≤ 2) (w : World) :
    Calls Try.prog 17 #[.agg #[.int .i64 0, .int .u32 0, .int .u32 0, .int .i64 2, .int .u32 65535, .int .u32 33800, .int .i64 4, .int .u32 4294967295, .int .u32 2197175160], .int .i64 k] w fun e w' =>
      e = .returned (.tuple #[kindV k, .bool true]) ∧ Below w.heap.size w w' := by
  rcases kind_cases hk with rfl | rfl | rfl <;> clear hk
  · go_enter Try.func17, Try.ntmps17
    go_wp2
    refine bodyPost_ret (v := .tuple #[.agg #[.int .i64 0, .int .u32 0, .int .u32 0], .bool true]) (by simp [results, Try.results17, go_sem]) rfl ⟨rfl, ?_⟩
    exact ((Below.refl _ _).alloc (Nat.le_refl _) _).alloc (by simp) _
  · go_enter Try.func17, Try.ntmps17
    go_wp2
    refine bodyPost_ret (v := .tuple #[.agg #[.int .i64 2, .int .u32 65535, .int .u32 33800], .bool true]) (by simp [results, Try.results17, go_sem]) rfl ⟨rfl, ?_⟩
    exact ((Below.refl _ _).alloc (Nat.le_refl _) _).alloc (by simp) _
  · go_enter Try.func17, Try.ntmps17
    go_wp2
    refine bodyPost_ret (v := .tuple #[.agg #[.int .i64 4, .int .u32 4294967295, .int .u32 2197175160], .bool true]) (by simp [results, Try.results17, go_sem]) rfl ⟨rfl, ?_⟩
    exact ((Below.refl _ _).alloc (Nat.le_refl _) _).alloc (by simp) _

/-- A word under way lies in block M. -/
def WordAt (M k wo : Nat) (w : World) : Prop := w.heap[M]? = some (.cells #[.int .i64 (wdN k), .int .u32 (onN k), .int .u32 (fxN k), .int .u32 wo] 61 (0, 0))

theorem fxN_lt {k : Nat} (hk : k ≤ 2) : fxN k < 4294967296 := by rcases kind_cases hk with rfl | rfl | rfl <;> decide
theorem onN_lt {k : Nat} (hk : k ≤ 2) : onN k < 4294967296 := by rcases kind_cases hk with rfl | rfl | rfl <;> decide

theorem WordAt.set {M k wo : Nat} {w : World} (h : WordAt M k wo w) (wo' : Nat) : WordAt M k wo' (w.setCell ⟨M, 3, none⟩ (.int .u32 wo')) := by
  unfold WordAt at *
  obtain ⟨hlt, hk⟩ := Array.getElem?_eq_some_iff.1 h
  show (w.heap.modify M _)[M]? = _
  rw [Array.getElem?_eq_getElem (by rw [Array.size_modify]; exact hlt), Array.getElem_modify_self, hk]
  rfl

theorem grownBy_setCell3 (W : World) (b : Nat) (v : Value) : W.grownBy (W.setCell ⟨b, 3, none⟩ v) (some b) :=
  ⟨rfl, rfl, rfl, (KeepsWalks.setCell W _ v).size, fun k _ hk => Below.heap_setCell _ _ _ k (fun e => hk (by rw [e]))⟩

/-- What the closure does with a bit: the word goes on, and nothing else turns. -/
def PutC (M k wo b : Nat) (w : World) (e : Ending) (w' : World) : Prop := (∃ v, e = .returned v) ∧ WordAt M k (stepN (fxN k) wo b) w' ∧ w.grownBy w' (some M)

set_option maxRecDepth 100000 in
set_option maxHeartbeats 1000000 in
theorem putC_any (M k wo b : Nat) (hk : k ≤ 2) (w : World) (hM : WordAt M k wo w) (hwo : wo < 4294967296) (hb : b < 256) :
    Calls Try.prog 25 #[.int .u8 b, .pointer (some ⟨M, 0, none⟩)] w (PutC M k wo b w) := by
  have hM' := hM
  unfold WordAt at hM'
  have c3 : w.cell? ⟨M, 3, none⟩ = some (.int .u32 wo) := by simp [World.cell?, hM']
  have c2 : w.cell? ⟨M, 2, none⟩ = some (.int .u32 (fxN k)) := by simp [World.cell?, hM']
  have f3 : w.frozen? ⟨M, 3, none⟩ = false := by simp [World.frozen?, hM']
  have HM := Lib.hid hM
  clear hM hM'
  obtain ⟨fx, hfx⟩ : ∃ fx, fx = fxN k := ⟨_, rfl⟩
  have hfl : fx < 4294967296 := by rw [hfx]; exact fxN_lt hk
  rw [← hfx] at c2
  have HF := Lib.hid hfx
  clear hfx
  have hx : bits .xor .u32 (wo : Int) (b : Int) = ((wo ^^^ b : Nat) : Int) := bits_xor_u32_nat _ _ hwo (by omega)
  have hlt : wo ^^^ b < 4294967296 := Nat.xor_lt_two_pow (n := 32) (by omega) (by omega)
  have hm := xor_mod2 wo b
  by_cases he : wo % 2 = b % 2
  · have ha : (bits .and .u32 ((wo ^^^ b : Nat) : Int) 1 == 1) = false := by
      rw [bits_and1_u32 _ (by omega) (by omega)]
      simp
      omega
    have hs : stepN (fxN k) wo b = wo / 2 := if_pos he
    have HS := Lib.hid hs
    clear hm he hs
    go_enter Try.func25, Try.ntmps25
    go_wp2
    go_end0
    refine ⟨⟨_, rfl⟩, ?_, grownBy_setCell3 _ _ _⟩
    rw [HS.out]
    exact HM.out.set (wo / 2)
  · have ha : (bits .and .u32 ((wo ^^^ b : Nat) : Int) 1 == 1) = true := by
      rw [bits_and1_u32 _ (by omega) (by omega)]
      simp
      omega
    have hs : stepN (fxN k) wo b = wo / 2 ^^^ fxN k := if_neg he
    have HS := Lib.hid hs
    have hx2 : bits .xor .u32 ((wo : Int) / 2) (fx : Int) = ((wo / 2 ^^^ fx : Nat) : Int) := by
      have := bits_xor_u32_nat (wo / 2) fx (by omega) hfl
      rwa [Int.natCast_ediv] at this
    clear hm he hs
    go_enter Try.func25, Try.ntmps25
    go_wp2
    go_end0
    refine ⟨⟨_, rfl⟩, ?_, (grownBy_setCell3 w M (.int .u32 ((wo : Int) / 2))).trans (grownBy_setCell3 _ _ _)⟩
    rw [HS.out, ← HF.out]
    exact (HM.out.set (wo / 2)).set (wo / 2 ^^^ fx)

end Go.Proofs.Ytjcfhkodfanbiaa
