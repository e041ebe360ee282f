/- There and back: the item that is read of an item's bytes, and the bytes of an item that is read. -/
import Derived.Test.YtncemmhbbkpieaaDoorCbU
namespace Go.Proofs.YtncemmhbbkpieaaDoor
open Go.RowKit Go.Shelf

mutual
/-- Do an item's numbers fit? -/
def It.fit : It → Prop
  | .mk _ n b s l => (U64 n ∧ b.length < 18446744073709551616 ∧ s.length < 18446744073709551616 ∧ l.length < 18446744073709551616) ∧ fitL l
def fitL : List It → Prop
  | [] => True
  | x :: xs => x.fit ∧ fitL xs
end

mutual
theorem ItV.fit {w : World} {B : Nat} : ∀ (x : It) {v : Value}, ItV w B v x → x.fit
  | .mk k n b s l, v, h => by
    simp only [ItV] at h
    obtain ⟨A, ⟨a, c, C, _, _, _, hn, _, h1, h2, h3⟩, hl⟩ := h
    simp only [Sz] at h1 h2 h3
    simp only [It.fit]
    refine ⟨⟨hn, by omega, by omega, by omega⟩, ?_⟩
    rcases hl with rfl | ⟨g, o, _, _, hl⟩
    · simp only [fitL]
    · exact ItL.fit l hl
theorem ItL.fit {w : World} {B g : Nat} : ∀ (l : List It) {o : Nat}, ItL w B g o l → fitL l
  | [], _, _ => by simp only [fitL]
  | x :: xs, o, h => by
    simp only [ItL] at h
    obtain ⟨⟨v, _, hv⟩, hr⟩ := h
    simp only [fitL]
    exact ⟨ItV.fit x hv, ItL.fit xs hr⟩
end

theorem ownB1 (n : Int) (b s : List UInt8) (m : Nat) : ownB 1 n b s m = headB 0 n := by simp [ownB]
theorem ownB2 (n : Int) (b s : List UInt8) (m : Nat) : ownB 2 n b s m = headB 2 b.length ++ b := by simp [ownB]
theorem ownB3 (n : Int) (b s : List UInt8) (m : Nat) : ownB 3 n b s m = headB 3 s.length ++ s := by simp [ownB]
theorem ownB4 (n : Int) (b s : List UInt8) (m : Nat) : ownB 4 n b s m = headB 4 m := by simp [ownB]
theorem ownB5 (n : Int) (b s : List UInt8) (m : Nat) : ownB 5 n b s m = headB 7 (20 + n) := by simp [ownB]
theorem ownB6 (n : Int) (b s : List UInt8) (m : Nat) : ownB 6 n b s m = headB 7 22 := by simp [ownB]

theorem u64_nat {n : Nat} (h : n < 18446744073709551616) : U64 (n : Int) := ⟨by omega, by omega⟩

mutual
/-- An item is read of its bytes, whatever stands behind. -/
theorem itemN_of : ∀ (x : It) (k : Nat) (r : List UInt8), x.right = true → x.fit → x.depth ≤ k → itemN k (x.bytes ++ r) = .ok (x, r)
  | .mk k n b s l, 0, r, _, _, hd => by simp [It.depth] at hd
  | .mk k n b s l, j + 1, r, hr, hf, hd => by
    simp only [It.fit] at hf
    obtain ⟨⟨hn, hb, hs, hl⟩, hfl⟩ := hf
    simp only [It.right, Bool.and_eq_true] at hr
    obtain ⟨hr, hrl⟩ := hr
    simp only [It.depth] at hd
    simp only [rightN, Bool.and_eq_true, decide_eq_true_eq] at hr
    obtain ⟨h0, h1, h2, h3, h4⟩ := hr
    simp only [It.bytes]
    rw [itemN]
    by_cases k1 : k = 1
    · subst k1
      obtain rfl : b = [] := by simpa using h2
      obtain rfl : s = [] := by simpa using h3
      obtain rfl : l = [] := List.eq_nil_of_length_eq_zero (by simpa using h4)
      rw [ownB1, bytesL, List.append_nil, headN_headB 0 n r (by decide) hn]
      simp
    by_cases k2 : k = 2
    · subst k2
      obtain rfl : n = 0 := by simpa using h1
      obtain rfl : s = [] := by simpa using h3
      obtain rfl : l = [] := List.eq_nil_of_length_eq_zero (by simpa using h4)
      rw [ownB2, bytesL, List.append_nil, List.append_assoc, headN_headB 2 (b.length : Int) (b ++ r) (by decide) (u64_nat hb)]
      simp
    by_cases k3 : k = 3
    · subst k3
      obtain rfl : n = 0 := by simpa using h1
      obtain rfl : b = [] := by simpa using h2
      obtain rfl : l = [] := List.eq_nil_of_length_eq_zero (by simpa using h4)
      have hu : (runesL s).2 = true := by simpa using h0
      rw [ownB3, bytesL, List.append_nil, List.append_assoc, headN_headB 3 (s.length : Int) (s ++ r) (by decide) (u64_nat hs)]
      simp [textN, hu]
    by_cases k4 : k = 4
    · subst k4
      obtain rfl : n = 0 := by simpa using h1
      obtain rfl : b = [] := by simpa using h2
      obtain rfl : s = [] := by simpa using h3
      have h := listN_of l j r hrl hfl (by omega)
      rw [ownB4, List.append_assoc, headN_headB 4 (l.length : Int) (bytesL l ++ r) (by decide) (u64_nat hl)]
      simp [h]
    have h4' : l.length = 0 := by simpa [k4] using h4
    obtain rfl : b = [] := by simpa [k2] using h2
    obtain rfl : s = [] := by simpa [k3] using h3
    obtain rfl : l = [] := List.eq_nil_of_length_eq_zero h4'
    by_cases k5 : k = 5
    · subst k5
      have hn1 : n ≤ 1 := by simpa using h0
      have hn0 : 0 ≤ n := hn.1
      have hc : n = 0 ∨ n = 1 := by omega
      rw [ownB5, bytesL, List.append_nil, headN_headB 7 (20 + n) r (by decide) ⟨by omega, by omega⟩]
      rcases hc with rfl | rfl <;> simp [bareN]
    · have k6 : k = 6 := by simpa [k1, k2, k3, k4, k5] using h0
      subst k6
      obtain rfl : n = 0 := by simpa using h1
      rw [ownB6, bytesL, List.append_nil, headN_headB 7 22 r (by decide) ⟨by decide, by decide⟩]
      simp [bareN]
theorem listN_of : ∀ (l : List It) (k : Nat) (r : List UInt8), rightL l = true → fitL l → It.depth.depthL l ≤ k → listN (itemN k) l.length (bytesL l ++ r) = .ok (l, r)
  | [], k, r, _, _, _ => by simp [listN, bytesL]
  | x :: xs, k, r, hr, hf, hd => by
    simp only [rightL, Bool.and_eq_true] at hr
    simp only [fitL] at hf
    simp only [It.depth.depthL] at hd
    have h1 := itemN_of x k (bytesL xs ++ r) hr.1 hf.1 (by omega)
    have h2 := listN_of xs k r hr.2 hf.2 (by omega)
    simp only [bytesL, List.length_cons, listN, List.append_assoc]
    rw [h1]
    simp only []
    rw [h2]
end

end Go.Proofs.YtncemmhbbkpieaaDoor
