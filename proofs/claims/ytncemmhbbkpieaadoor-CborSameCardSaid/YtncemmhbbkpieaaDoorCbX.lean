/- The law's count: what is counted is not deep, and its bytes are not many. -/
import Derived.Test.YtncemmhbbkpieaaDoorCbI
namespace Go.Proofs.YtncemmhbbkpieaaDoor
open Go.RowKit Go.Shelf

theorem ownB_length (k n : Int) (b s : List UInt8) (m : Nat) : (ownB k n b s m).length ≤ 9 + b.length + s.length := by
  have h0 := (head_length 0 n).2
  have h2 := (head_length 2 b.length).2
  have h3 := (head_length 3 s.length).2
  have h4 := (head_length 4 m).2
  have h7 := (head_length 7 (20 + n)).2
  have h8 := (head_length 7 22).2
  unfold ownB
  split
  · omega
  · split
    · rw [List.length_append]; omega
    · split
      · rw [List.length_append]; omega
      · split
        · omega
        · split <;> omega

set_option maxRecDepth 100000 in
set_option maxHeartbeats 4000000 in
theorem count_any : ∀ (x : It) (m : Nat) (v : Value) (w : World), m ≤ 100 → ItV w w.heap.size v x →
    Calls Tryd.prog 13 #[v, .int .i64 m] w fun e w' => (∃ q : Nat, e = .returned (.int .i64 q) ∧ q ≤ 3001 ∧ (q ≤ 3000 → x.depth ≤ m + 1 ∧ x.bytes.length ≤ 9 * q)) ∧ Below w.heap.size w w' := by
  refine It.ind fun k n b s l ih m v w hm hv => ?_
  simp only [ItV] at hv
  obtain ⟨A, ⟨a, c, C, rfl, ⟨hc, hC⟩, hrb, hn, hk, hsb, hss, hsl⟩, hl⟩ := hv
  simp only [Sz] at hsb hss hsl
  have HL := Lib.hid hl
  have IH := Lib.hid ih
  clear hrb hl hn ih hk
  have HO := Lib.hid (ownB_length k n b s l.length)
  have hs1 : (⟨s.toArray⟩ : ByteArray).size = s.length := by simp [ByteArray.size]
  go_enter Tryd.func13, Tryd.ntmps13
  go_wp2_with fail
  go_loopw [5, 6] (fun d i wr => ∃ j q : Nat, j ≤ l.length ∧ i = .int .i64 j ∧ d = .int .i64 q ∧ q ≤ 281474976710657 ∧ Hid (q ≤ 3000 → It.depth.depthL (l.take j) ≤ m ∧ (bytesL (l.take j)).length + (ownB k n b s l.length).length ≤ 9 * q) ∧
      Hid (Below (w.alloc (.cells #[.int .i64 k, .int .u64 n, .slice a b.length c, .string ⟨s.toArray⟩, .slice A l.length C] 28)).heap.size (w.alloc (.cells #[.int .i64 k, .int .u64 n, .slice a b.length c, .string ⟨s.toArray⟩, .slice A l.length C] 28)) wr))
    (fun _ i _ => l.length - (intOf i).toNat)
  case atStart => exact ⟨0, 1 + b.length + s.length, Nat.zero_le _, rfl, by simp, by omega, fun _ => ⟨by simp [It.depth.depthL], by have := HO.out; simp [bytesL]; omega⟩, Below.refl _ _⟩
  case round =>
    obtain ⟨j, q, hj, rfl, rfl, hq, HD, HB⟩ := hrel
    have hcell : wr.cell? ⟨w.heap.size, 4, none⟩ = some (.slice A l.length C) := by
      rw [HB.out.cell (by simp)]
      simp
    by_cases hlt : j < l.length
    · by_cases hq3 : q ≤ 3000
      · by_cases hm0 : m = 0
        · subst hm0
          go_wp2_with fail
          go_ret
          exact ⟨⟨3001, by simp, Nat.le_refl _, fun h => absurd h (by decide)⟩, ((Below.refl _ _).alloc (Nat.le_refl _) _).trans (HB.out.mono (by simp))⟩
        · obtain ⟨g, o, rfl, hg, hlL⟩ : ∃ g o, A = some ⟨g, o, none⟩ ∧ g < w.heap.size ∧ ItL w w.heap.size g o l := by
            rcases HL.out with rfl | h
            · simp at hlt
            · exact h
          obtain ⟨v5, h5, hv5⟩ := ItL.at hlL (List.getElem?_eq_getElem hlt)
          have hB0 : Below w.heap.size w wr := ((Below.refl _ _).alloc (Nat.le_refl _) _).trans (HB.out.mono (by simp))
          have h5' := h5.below hB0 hg
          obtain ⟨v0, v1, v2, v3, v4, rfl, e0, e1, e2, e3, e4⟩ := h5'
          clear hlL h5
          have HV5 := Lib.hid (ItV.mono hB0.size _ (ItV.below hB0 _ hv5))
          clear hv5
          have HST := Lib.hid (depthL_step l j hlt)
          have HSB := Lib.hid (bytesL_step l j hlt)
          have IH1 : Hid (∀ (v : Value) (w : World), ItV w w.heap.size v l[j] → Calls Tryd.prog 13 #[v, .int .i64 ((m : Int) - 1)] w fun e w' => (∃ q : Nat, e = .returned (.int .i64 q) ∧ q ≤ 3001 ∧ (q ≤ 3000 → l[j].depth ≤ m ∧ l[j].bytes.length ≤ 9 * q)) ∧ Below w.heap.size w w') := by
            intro v w hv
            have h := IH.out l[j] (List.getElem_mem hlt) (m - 1) v w (by omega) hv
            have e1 : ((m - 1 : Nat) : Int) = (m : Int) - 1 := by omega
            have e2 : m - 1 + 1 = m := by omega
            rw [e1, e2] at h
            exact h
          go_wp2_with fail
          refine (IH1.out _ _ HV5.out).mono ?_
          rintro e w1 ⟨⟨q1, rfl, hq1, hd1⟩, hb1⟩
          have HD1 := Lib.hid hd1
          have HB1 : Hid (Below (w.alloc (.cells #[.int .i64 k, .int .u64 n, .slice a b.length c, .string ⟨s.toArray⟩, .slice (some ⟨g, o, none⟩) l.length C] 28)).heap.size (w.alloc (.cells #[.int .i64 k, .int .u64 n, .slice a b.length c, .string ⟨s.toArray⟩, .slice (some ⟨g, o, none⟩) l.length C] 28)) w1) := below_on HB.out hb1
          clear hb1 hd1 e0 e1 e2 e3 e4 hcell
          go_wp2_with fail
          go_roundw
          case rel => exact ⟨j + 1, q + q1, by omega, by go_num, by go_num, by omega, fun h => by
            rw [HST.out, HSB.out, List.length_append]
            have h1 := HD.out hq3
            have h2 := HD1.out (by omega)
            exact ⟨by omega, by omega⟩, HB1⟩
          case measure => simp [intOf]; omega
      · by_cases hq4 : (3001 : Int) < q
        · go_wp2_with fail
          go_ret
          exact ⟨⟨3001, by simp; omega, Nat.le_refl _, fun h => absurd h (by decide)⟩, ((Below.refl _ _).alloc (Nat.le_refl _) _).trans (HB.out.mono (by simp))⟩
        · go_wp2_with fail
          go_ret
          exact ⟨⟨q, by simp; omega, by omega, fun h => absurd h hq3⟩, ((Below.refl _ _).alloc (Nat.le_refl _) _).trans (HB.out.mono (by simp))⟩
    · obtain rfl : j = l.length := by omega
      rw [List.take_length] at HD
      by_cases hq4 : (3001 : Int) < q
      · go_wp2_with fail
        go_ret
        exact ⟨⟨3001, by simp; omega, Nat.le_refl _, fun h => absurd h (by decide)⟩, ((Below.refl _ _).alloc (Nat.le_refl _) _).trans (HB.out.mono (by simp))⟩
      · go_wp2_with fail
        go_ret
        exact ⟨⟨q, by simp; omega, by omega, fun h => by have := HD.out h; simp only [It.depth, It.bytes, List.length_append]; exact ⟨by omega, by omega⟩⟩, ((Below.refl _ _).alloc (Nat.le_refl _) _).trans (HB.out.mono (by simp))⟩

end Go.Proofs.YtncemmhbbkpieaaDoor
