/- Joined texts. -/
import Derived.Test.YteldifnkeekafaaGreatDoorZKv
import Derived.Lib.Strings
import Derived.Lib.Walk
import Derived.Lib.Slices
import Derived.Laws.Strings3
import Derived.Laws.RangeAny
import Derived.Test.YteldifnkeekafaaGreatDoorZJf
set_option maxHeartbeats 2000000
set_option linter.unusedSimpArgs false
namespace Go.Proofs.YteldifnkeekafaaGreatDoor
open Go.RowKit Go.Shelf

def lead (a : Nat) : Nat × Nat × Nat :=
 if a ≤ 127 then (1, 0, 127) else if 194 ≤ a ∧ a ≤ 223 then (2, 128, 191) else if a = 224 then (3, 160, 191) else if a = 237 then (3, 128, 159)
 else if 225 ≤ a ∧ a ≤ 239 then (3, 128, 191) else if a = 240 then (4, 144, 191) else if a = 244 then (4, 128, 143) else if 241 ≤ a ∧ a ≤ 243 then (4, 128, 191) else (0, 0, 0)

def bt (l : List UInt8) (i : Nat) : Nat := (l[i]?.getD 0).toNat

def inB (l : List UInt8) (i lo hi : Nat) : Bool := decide (i < l.length) && decide (lo ≤ bt l i) && decide (bt l i ≤ hi)

def rl (l : List UInt8) : Nat :=
 let (n, lo, hi) := lead (bt l 0)
 if n ≤ 1 then n
 else if inB l 1 lo hi && (n < 3 || inB l 2 128 191) && (n < 4 || inB l 3 128 191) then n else 0

def pre (l : List UInt8) : Bool := Lib.hasPrefix l [239, 191, 189]

def decP (n b0 b1 b2 b3 : Nat) : Nat × Nat :=
 if b0 < 128 then (b0, 1)
 else if b0 / 32 = 6 ∧ (1 < n ∧ b1 / 64 = 2) then
  if 128 ≤ (b0 % 32) * 64 + b1 % 64 then ((b0 % 32) * 64 + b1 % 64, 2) else (65533, 1)
 else if (b0 / 16 = 14 ∧ (1 < n ∧ b1 / 64 = 2)) ∧ (2 < n ∧ b2 / 64 = 2) then
  if 2048 ≤ (b0 % 16) * 4096 + (b1 % 64) * 64 + b2 % 64 ∧ Utf8.valid ((b0 % 16) * 4096 + (b1 % 64) * 64 + b2 % 64 : Nat) = true then ((b0 % 16) * 4096 + (b1 % 64) * 64 + b2 % 64, 3) else (65533, 1)
 else if ((b0 / 8 = 30 ∧ (1 < n ∧ b1 / 64 = 2)) ∧ (2 < n ∧ b2 / 64 = 2)) ∧ (3 < n ∧ b3 / 64 = 2) then
  if 65536 ≤ (b0 % 8) * 262144 + (b1 % 64) * 4096 + (b2 % 64) * 64 + b3 % 64 ∧ Utf8.valid ((b0 % 8) * 262144 + (b1 % 64) * 4096 + (b2 % 64) * 64 + b3 % 64 : Nat) = true then
   ((b0 % 8) * 262144 + (b1 % 64) * 4096 + (b2 % 64) * 64 + b3 % 64, 4) else (65533, 1)
 else (65533, 1)

theorem get_eq (s : ByteArray) (i : Nat) (h : i < s.size) : s.get! i = s[i]'h := get_at s i h

theorem get_bt (s : ByteArray) (pos k : Nat) (h : pos + k < s.size) : (s.get! (pos + k)).toNat = bt (s.data.toList.drop pos) k := by
 rw [get_eq s (pos + k) h, bt, List.getElem?_drop, Array.getElem?_toList, Array.getElem?_eq_getElem h]
 rfl

theorem len_drop (s : ByteArray) (pos : Nat) : (s.data.toList.drop pos).length = s.size - pos := by
 rw [List.length_drop, Array.length_toList]
 rfl

theorem decode_decP (s : ByteArray) (pos : Nat) (h : pos < s.size) :
  Utf8.decode s pos = decP (s.data.toList.drop pos).length (bt (s.data.toList.drop pos) 0) (bt (s.data.toList.drop pos) 1) (bt (s.data.toList.drop pos) 2) (bt (s.data.toList.drop pos) 3) := by
 rw [len_drop]
 have g0 := get_bt s pos 0 (by omega)
 have l1 : (1 < s.size - pos) = (pos + 1 < s.size) := by simp; omega
 have l2 : (2 < s.size - pos) = (pos + 2 < s.size) := by simp; omega
 have l3 : (3 < s.size - pos) = (pos + 3 < s.size) := by simp; omega
 unfold decP Utf8.decode
 simp only [l1, l2, l3, g0, Utf8.runeError, Bool.and_eq_true, beq_iff_eq, decide_eq_true_eq, ge_iff_le]
 by_cases h1 : pos + 1 < s.size
 ·have g1 := get_bt s pos 1 h1
  by_cases h2 : pos + 2 < s.size
  ·have g2 := get_bt s pos 2 h2
   by_cases h3 : pos + 3 < s.size
   ·have g3 := get_bt s pos 3 h3
    simp only [g1, g2, g3]
   ·simp only [g1, g2, h3, false_and, and_false, if_false]
  ·have h3 : ¬ pos + 3 < s.size := by omega
   simp only [g1, h2, h3, false_and, and_false, if_false]
 ·have h2 : ¬ pos + 2 < s.size := by omega
  have h3 : ¬ pos + 3 < s.size := by omega
  simp only [h1, h2, h3, false_and, and_false, if_false]

theorem bt_lt (l : List UInt8) (i : Nat) : bt l i < 256 := UInt8.toNat_lt _

theorem pre_iff (l : List UInt8) : pre l = (decide (2 < l.length) && bt l 0 == 239 && bt l 1 == 191 && bt l 2 == 189) := by
 unfold pre Lib.hasPrefix
 match l with
 | [] => rfl
 | [a] => simp [bt, List.isPrefixOf]
 | [a, b] => simp [bt, List.isPrefixOf]
 | a :: b :: c :: r =>
  have e (x y : UInt8) : (x == y) = decide (x.toNat = y.toNat) := by
   rw [Bool.eq_iff_iff]; simp [UInt8.toNat_inj]
  simp only [List.isPrefixOf, bt, e, List.length_cons]
  rw [Bool.eq_iff_iff]
  simp
  omega

theorem valid_nat (c : Nat) : (Utf8.valid (c : Int) = true) = (c < 55296 ∨ (57343 < c ∧ c ≤ 1114111)) := by
 rw [validRune_eq, validRune]
 simp
 omega

theorem decP_rl (l : List UInt8) :
  (rl l = 0 → decP l.length (bt l 0) (bt l 1) (bt l 2) (bt l 3) = (65533, 1) ∧ pre l = false) ∧
  (rl l ≠ 0 → (decP l.length (bt l 0) (bt l 1) (bt l 2) (bt l 3)).2 = rl l ∧ ((decP l.length (bt l 0) (bt l 1) (bt l 2) (bt l 3)).1 = 65533 → pre l = true)) := by
 rw [pre_iff]
 have h0 := bt_lt l 0; have h1 := bt_lt l 1; have h2 := bt_lt l 2; have h3 := bt_lt l 3
 unfold rl inB
 generalize bt l 0 = b0 at *
 generalize bt l 1 = b1 at *
 generalize bt l 2 = b2 at *
 generalize bt l 3 = b3 at *
 generalize l.length = n at *
 unfold decP lead
 simp only [valid_nat]
 by_cases c1 : b0 ≤ 127
 ·have e1 : b0 < 128 := by omega
  simp [c1, e1]
  omega
 have e1 : ¬ b0 < 128 := by omega
 simp only [c1, e1, if_false]
 by_cases c2 : 194 ≤ b0 ∧ b0 ≤ 223
 ·simp only [c2, and_self, if_true, Nat.reduceLeDiff, if_false, Nat.reduceLT, decide_true, decide_false, Bool.true_or, Bool.and_true, Bool.and_eq_true, decide_eq_true_eq]
  by_cases g : (1 < n ∧ 128 ≤ b1) ∧ b1 ≤ 191
  ·have d1 : b0 / 32 = 6 ∧ (1 < n ∧ b1 / 64 = 2) := by omega
   have d2 : 128 ≤ b0 % 32 * 64 + b1 % 64 := by omega
   simp only [g, d1, d2, and_self, if_true]
   simp
   omega
  ·have d1 : ¬ (b0 / 32 = 6 ∧ (1 < n ∧ b1 / 64 = 2)) := by omega
   have d2 : ¬ (b0 / 16 = 14) := by omega
   have d3 : ¬ (b0 / 8 = 30) := by omega
   simp only [g, d1, d2, d3, false_and, if_false]
   simp
   omega
 simp only [c2, if_false]
 by_cases c3 : b0 = 224
 ·have e := eq_true c3
  simp only [e, if_true, Nat.reduceLeDiff, if_false, Nat.reduceLT, Nat.lt_irrefl, decide_true, decide_false, Bool.true_or, Bool.false_or, Bool.and_true, Bool.and_eq_true, decide_eq_true_eq, and_self]
  have d0 : ¬ (b0 / 32 = 6) := by omega
  have d9 : ¬ (b0 / 8 = 30) := by omega
  by_cases g : ((1 < n ∧ 160 ≤ b1) ∧ b1 ≤ 191) ∧ (2 < n ∧ 128 ≤ b2) ∧ b2 ≤ 191
  ·have d1 : (b0 / 16 = 14 ∧ (1 < n ∧ b1 / 64 = 2)) ∧ (2 < n ∧ b2 / 64 = 2) := by omega
   have d2 : 2048 ≤ (b0 % 16) * 4096 + (b1 % 64) * 64 + b2 % 64 ∧ ((b0 % 16) * 4096 + (b1 % 64) * 64 + b2 % 64 < 55296 ∨ (57343 < (b0 % 16) * 4096 + (b1 % 64) * 64 + b2 % 64 ∧ (b0 % 16) * 4096 + (b1 % 64) * 64 + b2 % 64 ≤ 1114111)) := by omega
   simp only [g, d0, d1, d2, and_self, if_true, false_and, if_false]
   simp
   omega
  ·have d2 : ¬ (((b0 / 16 = 14 ∧ (1 < n ∧ b1 / 64 = 2)) ∧ (2 < n ∧ b2 / 64 = 2)) ∧ (2048 ≤ (b0 % 16) * 4096 + (b1 % 64) * 64 + b2 % 64 ∧ ((b0 % 16) * 4096 + (b1 % 64) * 64 + b2 % 64 < 55296 ∨ (57343 < (b0 % 16) * 4096 + (b1 % 64) * 64 + b2 % 64 ∧ (b0 % 16) * 4096 + (b1 % 64) * 64 + b2 % 64 ≤ 1114111)))) := by omega
   have e3 : (if (b0 / 16 = 14 ∧ (1 < n ∧ b1 / 64 = 2)) ∧ (2 < n ∧ b2 / 64 = 2) then (if 2048 ≤ (b0 % 16) * 4096 + (b1 % 64) * 64 + b2 % 64 ∧ ((b0 % 16) * 4096 + (b1 % 64) * 64 + b2 % 64 < 55296 ∨ (57343 < (b0 % 16) * 4096 + (b1 % 64) * 64 + b2 % 64 ∧ (b0 % 16) * 4096 + (b1 % 64) * 64 + b2 % 64 ≤ 1114111)) then ((b0 % 16) * 4096 + (b1 % 64) * 64 + b2 % 64, 3) else (65533, 1)) else (65533, 1)) = (65533, 1) := by
    by_cases q : (b0 / 16 = 14 ∧ (1 < n ∧ b1 / 64 = 2)) ∧ (2 < n ∧ b2 / 64 = 2)
    ·rw [if_pos q, if_neg fun r => d2 ⟨q, r⟩]
    ·rw [if_neg q]
   simp only [g, d0, d9, e3, false_and, if_false]
   simp
   omega
 simp only [c3, if_false]
 by_cases c4 : b0 = 237
 ·have e := eq_true c4
  simp only [e, if_true, Nat.reduceLeDiff, if_false, Nat.reduceLT, Nat.lt_irrefl, decide_true, decide_false, Bool.true_or, Bool.false_or, Bool.and_true, Bool.and_eq_true, decide_eq_true_eq, and_self]
  have d0 : ¬ (b0 / 32 = 6) := by omega
  have d9 : ¬ (b0 / 8 = 30) := by omega
  by_cases g : ((1 < n ∧ 128 ≤ b1) ∧ b1 ≤ 159) ∧ (2 < n ∧ 128 ≤ b2) ∧ b2 ≤ 191
  ·have d1 : (b0 / 16 = 14 ∧ (1 < n ∧ b1 / 64 = 2)) ∧ (2 < n ∧ b2 / 64 = 2) := by omega
   have d2 : 2048 ≤ (b0 % 16) * 4096 + (b1 % 64) * 64 + b2 % 64 ∧ ((b0 % 16) * 4096 + (b1 % 64) * 64 + b2 % 64 < 55296 ∨ (57343 < (b0 % 16) * 4096 + (b1 % 64) * 64 + b2 % 64 ∧ (b0 % 16) * 4096 + (b1 % 64) * 64 + b2 % 64 ≤ 1114111)) := by omega
   simp only [g, d0, d1, d2, and_self, if_true, false_and, if_false]
   simp
   omega
  ·have d2 : ¬ (((b0 / 16 = 14 ∧ (1 < n ∧ b1 / 64 = 2)) ∧ (2 < n ∧ b2 / 64 = 2)) ∧ (2048 ≤ (b0 % 16) * 4096 + (b1 % 64) * 64 + b2 % 64 ∧ ((b0 % 16) * 4096 + (b1 % 64) * 64 + b2 % 64 < 55296 ∨ (57343 < (b0 % 16) * 4096 + (b1 % 64) * 64 + b2 % 64 ∧ (b0 % 16) * 4096 + (b1 % 64) * 64 + b2 % 64 ≤ 1114111)))) := by omega
   have e3 : (if (b0 / 16 = 14 ∧ (1 < n ∧ b1 / 64 = 2)) ∧ (2 < n ∧ b2 / 64 = 2) then (if 2048 ≤ (b0 % 16) * 4096 + (b1 % 64) * 64 + b2 % 64 ∧ ((b0 % 16) * 4096 + (b1 % 64) * 64 + b2 % 64 < 55296 ∨ (57343 < (b0 % 16) * 4096 + (b1 % 64) * 64 + b2 % 64 ∧ (b0 % 16) * 4096 + (b1 % 64) * 64 + b2 % 64 ≤ 1114111)) then ((b0 % 16) * 4096 + (b1 % 64) * 64 + b2 % 64, 3) else (65533, 1)) else (65533, 1)) = (65533, 1) := by
    by_cases q : (b0 / 16 = 14 ∧ (1 < n ∧ b1 / 64 = 2)) ∧ (2 < n ∧ b2 / 64 = 2)
    ·rw [if_pos q, if_neg fun r => d2 ⟨q, r⟩]
    ·rw [if_neg q]
   simp only [g, d0, d9, e3, false_and, if_false]
   simp
   omega
 simp only [c4, if_false]
 by_cases c5 : 225 ≤ b0 ∧ b0 ≤ 239
 ·have e := eq_true c5
  simp only [e, if_true, Nat.reduceLeDiff, if_false, Nat.reduceLT, Nat.lt_irrefl, decide_true, decide_false, Bool.true_or, Bool.false_or, Bool.and_true, Bool.and_eq_true, decide_eq_true_eq, and_self]
  have d0 : ¬ (b0 / 32 = 6) := by omega
  have d9 : ¬ (b0 / 8 = 30) := by omega
  by_cases g : ((1 < n ∧ 128 ≤ b1) ∧ b1 ≤ 191) ∧ (2 < n ∧ 128 ≤ b2) ∧ b2 ≤ 191
  ·have d1 : (b0 / 16 = 14 ∧ (1 < n ∧ b1 / 64 = 2)) ∧ (2 < n ∧ b2 / 64 = 2) := by omega
   have d2 : 2048 ≤ (b0 % 16) * 4096 + (b1 % 64) * 64 + b2 % 64 ∧ ((b0 % 16) * 4096 + (b1 % 64) * 64 + b2 % 64 < 55296 ∨ (57343 < (b0 % 16) * 4096 + (b1 % 64) * 64 + b2 % 64 ∧ (b0 % 16) * 4096 + (b1 % 64) * 64 + b2 % 64 ≤ 1114111)) := by omega
   simp only [g, d0, d1, d2, and_self, if_true, false_and, if_false]
   simp
   omega
  ·have d2 : ¬ (((b0 / 16 = 14 ∧ (1 < n ∧ b1 / 64 = 2)) ∧ (2 < n ∧ b2 / 64 = 2)) ∧ (2048 ≤ (b0 % 16) * 4096 + (b1 % 64) * 64 + b2 % 64 ∧ ((b0 % 16) * 4096 + (b1 % 64) * 64 + b2 % 64 < 55296 ∨ (57343 < (b0 % 16) * 4096 + (b1 % 64) * 64 + b2 % 64 ∧ (b0 % 16) * 4096 + (b1 % 64) * 64 + b2 % 64 ≤ 1114111)))) := by omega
   have e3 : (if (b0 / 16 = 14 ∧ (1 < n ∧ b1 / 64 = 2)) ∧ (2 < n ∧ b2 / 64 = 2) then (if 2048 ≤ (b0 % 16) * 4096 + (b1 % 64) * 64 + b2 % 64 ∧ ((b0 % 16) * 4096 + (b1 % 64) * 64 + b2 % 64 < 55296 ∨ (57343 < (b0 % 16) * 4096 + (b1 % 64) * 64 + b2 % 64 ∧ (b0 % 16) * 4096 + (b1 % 64) * 64 + b2 % 64 ≤ 1114111)) then ((b0 % 16) * 4096 + (b1 % 64) * 64 + b2 % 64, 3) else (65533, 1)) else (65533, 1)) = (65533, 1) := by
    by_cases q : (b0 / 16 = 14 ∧ (1 < n ∧ b1 / 64 = 2)) ∧ (2 < n ∧ b2 / 64 = 2)
    ·rw [if_pos q, if_neg fun r => d2 ⟨q, r⟩]
    ·rw [if_neg q]
   simp only [g, d0, d9, e3, false_and, if_false]
   simp
   omega
 simp only [c5, if_false]
 by_cases c6 : b0 = 240
 ·have e := eq_true c6
  simp only [e, if_true, Nat.reduceLeDiff, if_false, Nat.reduceLT, Nat.lt_irrefl, decide_true, decide_false, Bool.true_or, Bool.false_or, Bool.and_true, Bool.and_eq_true, decide_eq_true_eq, and_self]
  have d0 : ¬ (b0 / 32 = 6) := by omega
  have d9 : ¬ (b0 / 16 = 14) := by omega
  by_cases g : (((1 < n ∧ 144 ≤ b1) ∧ b1 ≤ 191) ∧ (2 < n ∧ 128 ≤ b2) ∧ b2 ≤ 191) ∧ (3 < n ∧ 128 ≤ b3) ∧ b3 ≤ 191
  ·have d1 : ((b0 / 8 = 30 ∧ (1 < n ∧ b1 / 64 = 2)) ∧ (2 < n ∧ b2 / 64 = 2)) ∧ (3 < n ∧ b3 / 64 = 2) := by omega
   have d2 : 65536 ≤ (b0 % 8) * 262144 + (b1 % 64) * 4096 + (b2 % 64) * 64 + b3 % 64 ∧ ((b0 % 8) * 262144 + (b1 % 64) * 4096 + (b2 % 64) * 64 + b3 % 64 < 55296 ∨ (57343 < (b0 % 8) * 262144 + (b1 % 64) * 4096 + (b2 % 64) * 64 + b3 % 64 ∧ (b0 % 8) * 262144 + (b1 % 64) * 4096 + (b2 % 64) * 64 + b3 % 64 ≤ 1114111)) := by omega
   simp only [g, d0, d9, d1, d2, and_self, if_true, false_and, if_false]
   simp
   omega
  ·have d2 : ¬ ((((b0 / 8 = 30 ∧ (1 < n ∧ b1 / 64 = 2)) ∧ (2 < n ∧ b2 / 64 = 2)) ∧ (3 < n ∧ b3 / 64 = 2)) ∧ (65536 ≤ (b0 % 8) * 262144 + (b1 % 64) * 4096 + (b2 % 64) * 64 + b3 % 64 ∧ ((b0 % 8) * 262144 + (b1 % 64) * 4096 + (b2 % 64) * 64 + b3 % 64 < 55296 ∨ (57343 < (b0 % 8) * 262144 + (b1 % 64) * 4096 + (b2 % 64) * 64 + b3 % 64 ∧ (b0 % 8) * 262144 + (b1 % 64) * 4096 + (b2 % 64) * 64 + b3 % 64 ≤ 1114111)))) := by omega
   have e3 : (if ((b0 / 8 = 30 ∧ (1 < n ∧ b1 / 64 = 2)) ∧ (2 < n ∧ b2 / 64 = 2)) ∧ (3 < n ∧ b3 / 64 = 2) then (if 65536 ≤ (b0 % 8) * 262144 + (b1 % 64) * 4096 + (b2 % 64) * 64 + b3 % 64 ∧ ((b0 % 8) * 262144 + (b1 % 64) * 4096 + (b2 % 64) * 64 + b3 % 64 < 55296 ∨ (57343 < (b0 % 8) * 262144 + (b1 % 64) * 4096 + (b2 % 64) * 64 + b3 % 64 ∧ (b0 % 8) * 262144 + (b1 % 64) * 4096 + (b2 % 64) * 64 + b3 % 64 ≤ 1114111)) then ((b0 % 8) * 262144 + (b1 % 64) * 4096 + (b2 % 64) * 64 + b3 % 64, 4) else (65533, 1)) else (65533, 1)) = (65533, 1) := by
    by_cases q : ((b0 / 8 = 30 ∧ (1 < n ∧ b1 / 64 = 2)) ∧ (2 < n ∧ b2 / 64 = 2)) ∧ (3 < n ∧ b3 / 64 = 2)
    ·rw [if_pos q, if_neg fun r => d2 ⟨q, r⟩]
    ·rw [if_neg q]
   simp only [g, d0, d9, e3, false_and, if_false]
   simp
   omega
 simp only [c6, if_false]
 by_cases c7 : b0 = 244
 ·have e := eq_true c7
  simp only [e, if_true, Nat.reduceLeDiff, if_false, Nat.reduceLT, Nat.lt_irrefl, decide_true, decide_false, Bool.true_or, Bool.false_or, Bool.and_true, Bool.and_eq_true, decide_eq_true_eq, and_self]
  have d0 : ¬ (b0 / 32 = 6) := by omega
  have d9 : ¬ (b0 / 16 = 14) := by omega
  by_cases g : (((1 < n ∧ 128 ≤ b1) ∧ b1 ≤ 143) ∧ (2 < n ∧ 128 ≤ b2) ∧ b2 ≤ 191) ∧ (3 < n ∧ 128 ≤ b3) ∧ b3 ≤ 191
  ·have d1 : ((b0 / 8 = 30 ∧ (1 < n ∧ b1 / 64 = 2)) ∧ (2 < n ∧ b2 / 64 = 2)) ∧ (3 < n ∧ b3 / 64 = 2) := by omega
   have d2 : 65536 ≤ (b0 % 8) * 262144 + (b1 % 64) * 4096 + (b2 % 64) * 64 + b3 % 64 ∧ ((b0 % 8) * 262144 + (b1 % 64) * 4096 + (b2 % 64) * 64 + b3 % 64 < 55296 ∨ (57343 < (b0 % 8) * 262144 + (b1 % 64) * 4096 + (b2 % 64) * 64 + b3 % 64 ∧ (b0 % 8) * 262144 + (b1 % 64) * 4096 + (b2 % 64) * 64 + b3 % 64 ≤ 1114111)) := by omega
   simp only [g, d0, d9, d1, d2, and_self, if_true, false_and, if_false]
   simp
   omega
  ·have d2 : ¬ ((((b0 / 8 = 30 ∧ (1 < n ∧ b1 / 64 = 2)) ∧ (2 < n ∧ b2 / 64 = 2)) ∧ (3 < n ∧ b3 / 64 = 2)) ∧ (65536 ≤ (b0 % 8) * 262144 + (b1 % 64) * 4096 + (b2 % 64) * 64 + b3 % 64 ∧ ((b0 % 8) * 262144 + (b1 % 64) * 4096 + (b2 % 64) * 64 + b3 % 64 < 55296 ∨ (57343 < (b0 % 8) * 262144 + (b1 % 64) * 4096 + (b2 % 64) * 64 + b3 % 64 ∧ (b0 % 8) * 262144 + (b1 % 64) * 4096 + (b2 % 64) * 64 + b3 % 64 ≤ 1114111)))) := by omega
   have e3 : (if ((b0 / 8 = 30 ∧ (1 < n ∧ b1 / 64 = 2)) ∧ (2 < n ∧ b2 / 64 = 2)) ∧ (3 < n ∧ b3 / 64 = 2) then (if 65536 ≤ (b0 % 8) * 262144 + (b1 % 64) * 4096 + (b2 % 64) * 64 + b3 % 64 ∧ ((b0 % 8) * 262144 + (b1 % 64) * 4096 + (b2 % 64) * 64 + b3 % 64 < 55296 ∨ (57343 < (b0 % 8) * 262144 + (b1 % 64) * 4096 + (b2 % 64) * 64 + b3 % 64 ∧ (b0 % 8) * 262144 + (b1 % 64) * 4096 + (b2 % 64) * 64 + b3 % 64 ≤ 1114111)) then ((b0 % 8) * 262144 + (b1 % 64) * 4096 + (b2 % 64) * 64 + b3 % 64, 4) else (65533, 1)) else (65533, 1)) = (65533, 1) := by
    by_cases q : ((b0 / 8 = 30 ∧ (1 < n ∧ b1 / 64 = 2)) ∧ (2 < n ∧ b2 / 64 = 2)) ∧ (3 < n ∧ b3 / 64 = 2)
    ·rw [if_pos q, if_neg fun r => d2 ⟨q, r⟩]
    ·rw [if_neg q]
   simp only [g, d0, d9, e3, false_and, if_false]
   simp
   omega
 simp only [c7, if_false]
 by_cases c8 : 241 ≤ b0 ∧ b0 ≤ 243
 ·have e := eq_true c8
  simp only [e, if_true, Nat.reduceLeDiff, if_false, Nat.reduceLT, Nat.lt_irrefl, decide_true, decide_false, Bool.true_or, Bool.false_or, Bool.and_true, Bool.and_eq_true, decide_eq_true_eq, and_self]
  have d0 : ¬ (b0 / 32 = 6) := by omega
  have d9 : ¬ (b0 / 16 = 14) := by omega
  by_cases g : (((1 < n ∧ 128 ≤ b1) ∧ b1 ≤ 191) ∧ (2 < n ∧ 128 ≤ b2) ∧ b2 ≤ 191) ∧ (3 < n ∧ 128 ≤ b3) ∧ b3 ≤ 191
  ·have d1 : ((b0 / 8 = 30 ∧ (1 < n ∧ b1 / 64 = 2)) ∧ (2 < n ∧ b2 / 64 = 2)) ∧ (3 < n ∧ b3 / 64 = 2) := by omega
   have d2 : 65536 ≤ (b0 % 8) * 262144 + (b1 % 64) * 4096 + (b2 % 64) * 64 + b3 % 64 ∧ ((b0 % 8) * 262144 + (b1 % 64) * 4096 + (b2 % 64) * 64 + b3 % 64 < 55296 ∨ (57343 < (b0 % 8) * 262144 + (b1 % 64) * 4096 + (b2 % 64) * 64 + b3 % 64 ∧ (b0 % 8) * 262144 + (b1 % 64) * 4096 + (b2 % 64) * 64 + b3 % 64 ≤ 1114111)) := by omega
   simp only [g, d0, d9, d1, d2, and_self, if_true, false_and, if_false]
   simp
   omega
  ·have d2 : ¬ ((((b0 / 8 = 30 ∧ (1 < n ∧ b1 / 64 = 2)) ∧ (2 < n ∧ b2 / 64 = 2)) ∧ (3 < n ∧ b3 / 64 = 2)) ∧ (65536 ≤ (b0 % 8) * 262144 + (b1 % 64) * 4096 + (b2 % 64) * 64 + b3 % 64 ∧ ((b0 % 8) * 262144 + (b1 % 64) * 4096 + (b2 % 64) * 64 + b3 % 64 < 55296 ∨ (57343 < (b0 % 8) * 262144 + (b1 % 64) * 4096 + (b2 % 64) * 64 + b3 % 64 ∧ (b0 % 8) * 262144 + (b1 % 64) * 4096 + (b2 % 64) * 64 + b3 % 64 ≤ 1114111)))) := by omega
   have e3 : (if ((b0 / 8 = 30 ∧ (1 < n ∧ b1 / 64 = 2)) ∧ (2 < n ∧ b2 / 64 = 2)) ∧ (3 < n ∧ b3 / 64 = 2) then (if 65536 ≤ (b0 % 8) * 262144 + (b1 % 64) * 4096 + (b2 % 64) * 64 + b3 % 64 ∧ ((b0 % 8) * 262144 + (b1 % 64) * 4096 + (b2 % 64) * 64 + b3 % 64 < 55296 ∨ (57343 < (b0 % 8) * 262144 + (b1 % 64) * 4096 + (b2 % 64) * 64 + b3 % 64 ∧ (b0 % 8) * 262144 + (b1 % 64) * 4096 + (b2 % 64) * 64 + b3 % 64 ≤ 1114111)) then ((b0 % 8) * 262144 + (b1 % 64) * 4096 + (b2 % 64) * 64 + b3 % 64, 4) else (65533, 1)) else (65533, 1)) = (65533, 1) := by
    by_cases q : ((b0 / 8 = 30 ∧ (1 < n ∧ b1 / 64 = 2)) ∧ (2 < n ∧ b2 / 64 = 2)) ∧ (3 < n ∧ b3 / 64 = 2)
    ·rw [if_pos q, if_neg fun r => d2 ⟨q, r⟩]
    ·rw [if_neg q]
   simp only [g, d0, d9, e3, false_and, if_false]
   simp
   omega
 simp only [c8, if_false]
 have d9 : ¬ (b0 / 16 = 14) := by omega
 have d2 : ¬ ((((b0 / 8 = 30 ∧ (1 < n ∧ b1 / 64 = 2)) ∧ (2 < n ∧ b2 / 64 = 2)) ∧ (3 < n ∧ b3 / 64 = 2)) ∧ (65536 ≤ (b0 % 8) * 262144 + (b1 % 64) * 4096 + (b2 % 64) * 64 + b3 % 64 ∧ ((b0 % 8) * 262144 + (b1 % 64) * 4096 + (b2 % 64) * 64 + b3 % 64 < 55296 ∨ (57343 < (b0 % 8) * 262144 + (b1 % 64) * 4096 + (b2 % 64) * 64 + b3 % 64 ∧ (b0 % 8) * 262144 + (b1 % 64) * 4096 + (b2 % 64) * 64 + b3 % 64 ≤ 1114111)))) := by omega
 have e3 : (if ((b0 / 8 = 30 ∧ (1 < n ∧ b1 / 64 = 2)) ∧ (2 < n ∧ b2 / 64 = 2)) ∧ (3 < n ∧ b3 / 64 = 2) then (if 65536 ≤ (b0 % 8) * 262144 + (b1 % 64) * 4096 + (b2 % 64) * 64 + b3 % 64 ∧ ((b0 % 8) * 262144 + (b1 % 64) * 4096 + (b2 % 64) * 64 + b3 % 64 < 55296 ∨ (57343 < (b0 % 8) * 262144 + (b1 % 64) * 4096 + (b2 % 64) * 64 + b3 % 64 ∧ (b0 % 8) * 262144 + (b1 % 64) * 4096 + (b2 % 64) * 64 + b3 % 64 ≤ 1114111)) then ((b0 % 8) * 262144 + (b1 % 64) * 4096 + (b2 % 64) * 64 + b3 % 64, 4) else (65533, 1)) else (65533, 1)) = (65533, 1) := by
  by_cases q : ((b0 / 8 = 30 ∧ (1 < n ∧ b1 / 64 = 2)) ∧ (2 < n ∧ b2 / 64 = 2)) ∧ (3 < n ∧ b3 / 64 = 2)
  ·rw [if_pos q, if_neg fun r => d2 ⟨q, r⟩]
  ·rw [if_neg q]
 simp only [d9, e3, false_and, if_false]
 by_cases q : b0 / 32 = 6 ∧ (1 < n ∧ b1 / 64 = 2)
 ·have d4 : ¬ 128 ≤ (b0 % 32) * 64 + b1 % 64 := by omega
  simp only [q, d4, and_self, if_true, if_false]
  simp
  omega
 ·simp only [q, if_false]
  simp
  omega

theorem decode_rl (s : ByteArray) (pos : Nat) (h : pos < s.size) :
  (rl (s.data.toList.drop pos) = 0 → Utf8.decode s pos = (65533, 1) ∧ pre (s.data.toList.drop pos) = false) ∧
  (rl (s.data.toList.drop pos) ≠ 0 → (Utf8.decode s pos).2 = rl (s.data.toList.drop pos) ∧ ((Utf8.decode s pos).1 = 65533 → pre (s.data.toList.drop pos) = true)) := by
 rw [decode_decP s pos h]
 exact decP_rl _

def runesF : Nat → List UInt8 → Nat × Bool
 | 0, _ => (0, true)
 | f + 1, l => if l = [] then (0, true) else ((runesF f (l.drop (max 1 (rl l)))).1 + 1, decide (rl l ≠ 0) && (runesF f (l.drop (max 1 (rl l)))).2)

def runesL (l : List UInt8) : Nat × Bool := runesF l.length l

theorem runesF_nil (f : Nat) : runesF f [] = (0, true) := by
 cases f <;> simp [runesF]

theorem runesF_more : ∀ (f : Nat) (l : List UInt8), l.length ≤ f → runesF f l = runesF l.length l := by
 intro f
 induction f using Nat.strongRecOn with
 | ind f ih =>
  intro l hl
  cases l with
  | nil => rw [runesF_nil, runesF_nil]
  | cons x xs =>
   cases f with
   | zero => simp at hl
   | succ f =>
    have hd : ((x :: xs).drop (max 1 (rl (x :: xs)))).length ≤ xs.length := by
     rw [List.length_drop]
     simp
     omega
    have h1 := ih f (by omega) ((x :: xs).drop (max 1 (rl (x :: xs)))) (by simp at hl; omega)
    have h2 : runesF xs.length ((x :: xs).drop (max 1 (rl (x :: xs)))) = runesF ((x :: xs).drop (max 1 (rl (x :: xs)))).length ((x :: xs).drop (max 1 (rl (x :: xs)))) := by
     by_cases e : xs.length < f + 1
     ·exact ih xs.length e _ hd
     ·simp at hl
      omega
    simp only [runesF, List.length_cons, h1, h2]

theorem runesL_step (l : List UInt8) (hne : l ≠ []) : runesL l = ((runesL (l.drop (max 1 (rl l)))).1 + 1, decide (rl l ≠ 0) && (runesL (l.drop (max 1 (rl l)))).2) := by
 cases l with
 | nil => exact absurd rfl hne
 | cons x xs =>
  have hd : ((x :: xs).drop (max 1 (rl (x :: xs)))).length ≤ xs.length := by
   rw [List.length_drop]
   simp
   omega
  have h2 := runesF_more xs.length _ hd
  unfold runesL
  rw [← h2]
  simp only [runesF, List.length_cons]
  rw [if_neg (by simp)]

theorem hasPrefixI_any (s p : ByteArray) (w : World) :
  Calls Tryz.prog 144 #[.string s, .string p] w fun e w' => e = .returned (.bool (Lib.hasPrefix s.data.toList p.data.toList)) ∧ w' = w := by
 rw [← Lib.hasPrefix_of_take, ← Lib.size_eq, ← Lib.size_eq]
 go_enter Tryz.func144, Tryz.ntmps144
 go_wp2
 ·rename_i h
  go_ret
  refine ⟨?_, rfl⟩
  show Ending.returned (Value.bool ((s.extract 0 p.size).toList == p.toList)) = _
  rw [Lib.extract_toList, Lib.toList_data]
  simp [h]
 ·rename_i h
  go_ret
  refine ⟨?_, rfl⟩
  show Ending.returned (Value.bool false) = _
  simp [h]

theorem hasPrefix_any (s p : ByteArray) (w : World) :
  Calls Tryz.prog 133 #[.string s, .string p] w fun e w' => e = .returned (.bool (Lib.hasPrefix s.data.toList p.data.toList)) ∧ w' = w := by
 go_enter Tryz.func133, Tryz.ntmps133
 go_wp2_with (go_at_call 144; refine (hasPrefixI_any _ _ _).mono ?_; rintro e w' ⟨rfl, hw⟩; rw [hw])
 go_ret
 exact ⟨rfl, rfl⟩

theorem tail_list (s : ByteArray) (pos : Nat) : (s.extract pos s.size).data.toList = s.data.toList.drop pos := by
 have hl : s.data.toList.length = s.size := Array.length_toList
 rw [ByteArray.data_extract, Array.toList_extract]
 show (s.data.toList.drop pos).take (s.size - pos) = _
 exact List.take_of_length_le (by rw [List.length_drop, hl]; exact Nat.le_refl _)

def RunesP (l : List UInt8) (w : World) (e : Ending) (w' : World) : Prop := e = .returned (.tuple #[.int .i64 (runesL l).1, .bool (runesL l).2]) ∧ Below w.heap.size w w'

theorem runesL_len (l : List UInt8) : (runesL l).1 ≤ l.length := by
 unfold runesL
 generalize hf : l.length = f
 have : l.length ≤ f := by omega
 clear hf
 induction f generalizing l with
 | zero => simp [runesF]
 | succ f ih =>
  simp only [runesF]
  split
  ·simp
  ·have := ih (l.drop (max 1 (rl l))) (by rw [List.length_drop]; omega)
   simp
   omega

def RunesI (l : List UInt8) (pos m : Nat) (ok : Bool) : Prop :=
 pos ≤ l.length ∧ m + (runesL (l.drop pos)).1 = (runesL l).1 ∧ (ok && (runesL (l.drop pos)).2) = (runesL l).2

theorem RunesI.step {l : List UInt8} {pos m : Nat} {ok : Bool} (h : RunesI l pos m ok) (hp : pos < l.length) (hr : rl (l.drop pos) ≤ l.length - pos) :
  RunesI l (pos + max 1 (rl (l.drop pos))) (m + 1) (ok && decide (rl (l.drop pos) ≠ 0)) := by
 obtain ⟨h1, h2, h3⟩ := h
 have hs := runesL_step (l.drop pos) (by rw [ne_eq, List.drop_eq_nil_iff]; omega)
 rw [List.drop_drop] at hs
 rw [hs] at h2 h3
 refine ⟨by omega, by simp only at h2; omega, ?_⟩
 rw [Bool.and_assoc]
 exact h3

theorem rl_le (l : List UInt8) (hne : l ≠ []) : rl l ≤ l.length := by
 have hl : 0 < l.length := List.length_pos_iff.2 hne
 unfold rl
 have h4 : (lead (bt l 0)).1 ≤ 4 := by
  unfold lead
  repeat' split
  all_goals simp
 generalize lead (bt l 0) = q at *
 obtain ⟨n, lo, hi⟩ := q
 simp only at h4 ⊢
 split
 ·omega
 ·split
  ·rename_i h
   simp [inB] at h
   omega
  ·omega

theorem pre_call (s : ByteArray) (pos : Nat) (q : Bool) (h : pre (s.data.toList.drop pos) = q) (w : World) :
  Calls Tryz.prog 133 #[.string (s.extract pos s.size), .string ⟨#[239, 191, 189]⟩] w fun e w' => e = .returned (.bool q) ∧ w' = w := by
 have h1 := hasPrefix_any (s.extract pos s.size) ⟨#[239, 191, 189]⟩ w
 rw [tail_list] at h1
 subst h
 exact h1

set_option maxRecDepth 100000 in
theorem runes_any (s : ByteArray) (w : World) (hs : s.size ≤ 140737488355328) :
  Calls Tryz.prog 109 #[.string s] w (RunesP s.data.toList w) := by
 have HS : Hid (s.data.toList.length = s.size) := Array.length_toList
 go_enter Tryz.func109, Tryz.ntmps109
 go_wp2_with fail
 go_loopw [4, 5] (fun n r wr => ∃ (pos m : Nat) (ok : Bool), wr = w.iter s pos ∧ n = .int .i64 m ∧ r = .bool ok ∧ Hid (RunesI s.data.toList pos m ok)) (fun _ _ w' => s.size - w'.iterPos w.heap.size)
 case atStart => exact ⟨0, 0, true, rfl, rfl, rfl, by simp [Hid, RunesI]⟩
 case round =>
  obtain ⟨pos, m, ok, rfl, rfl, rfl, HI⟩ := hrel
  have hpos := HI.out.1
  rw [HS.out] at hpos
  have hm : m ≤ s.size := by
   have := HI.out.2.1
   have := runesL_len s.data.toList
   rw [HS.out] at this
   omega
  by_cases hp : pos < s.size
  ·have hnx : ∀ ty, (Instr.next (.pointer (some ⟨w.heap.size, 0, none⟩)) true ty).run Tryz.prog (w.iter s pos) = _ := fun ty => run_next_any w s pos ty hp
   have hd := decode_rl s pos hp
   have hne : s.data.toList.drop pos ≠ [] := by
    rw [ne_eq, List.drop_eq_nil_iff, HS.out]
    omega
   have hrl := rl_le _ hne
   rw [List.length_drop, HS.out] at hrl
   have HN : Hid (RunesI s.data.toList (pos + max 1 (rl (s.data.toList.drop pos))) (m + 1) (ok && decide (rl (s.data.toList.drop pos) ≠ 0))) :=
    HI.out.step (by rw [HS.out]; exact hp) (by rw [HS.out]; exact hrl)
   obtain ⟨c, wd, hdec⟩ : ∃ c wd, Utf8.decode s pos = (c, wd) := ⟨_, _, rfl⟩
   have HDec := h_ hdec
   have hcle := decode_le s pos
   rw [hdec] at hd hnx hcle
   clear hdec hne
   simp only at hd hnx hcle
   by_cases hr : rl (s.data.toList.drop pos) = 0
   ·obtain ⟨he, hpre⟩ := hd.1 hr
    rw [hr] at HN
    injection he with e1 e2
    subst e1 e2
    have HP := h_ (pre_call s pos false hpre)
    clear hpre hr hd
    go_wp2_with (go_at_call 133; refine (HP.out _).mono ?_; rintro e w' ⟨rfl, rfl⟩)
    go_roundw
    case rel => exact ⟨_, _, _, rfl, by go_num, rfl, by simpa using HN⟩
    case measure =>
     simp
     omega
   ·obtain ⟨he, hpre⟩ := hd.2 hr
    subst he
    have HN' : Hid (RunesI s.data.toList (pos + rl (s.data.toList.drop pos)) (m + 1) ok) := by
     have h1 : max 1 (rl (s.data.toList.drop pos)) = rl (s.data.toList.drop pos) := by omega
     have h2 := HN.out
     rw [h1] at h2
     simpa [Hid, hr] using h2
    have hr0 : 0 < rl (s.data.toList.drop pos) := by omega
    clear HN hd hr
    by_cases hc : c = 65533
    ·subst hc
     have HP := h_ (pre_call s pos true (hpre rfl))
     clear hpre
     go_wp2_with (go_at_call 133; refine (HP.out _).mono ?_; rintro e w' ⟨rfl, rfl⟩)
     go_roundw
     case rel => exact ⟨_, _, _, rfl, by go_num, rfl, HN'⟩
     case measure =>
      simp
      omega
    ·have hc' : ((c : Int) == 65533) = false := by simp; omega
     clear hpre
     go_wp2_with fail
     go_roundw
     case rel => exact ⟨_, _, _, rfl, by go_num, rfl, HN'⟩
     case measure =>
      simp
      omega
  ·have hnx : ∀ ty, (Instr.next (.pointer (some ⟨w.heap.size, 0, none⟩)) true ty).run Tryz.prog (w.iter s pos) = _ := fun ty => run_next_end w s pos ty hp
   have HE : Hid (m = (runesL s.data.toList).1 ∧ ok = (runesL s.data.toList).2) := by
    have h1 := HI.out
    have h2 : s.data.toList.drop pos = [] := by
     rw [List.drop_eq_nil_iff, HS.out]
     omega
    rw [RunesI, h2] at h1
    simpa [Hid, runesL, runesF_nil] using h1.2
   go_wp2_with fail
   go_ret2
   exact ⟨by rw [HE.out.1, HE.out.2]; rfl, bR.alloc (Nat.le_refl _) _⟩

end Go.Proofs.YteldifnkeekafaaGreatDoor
