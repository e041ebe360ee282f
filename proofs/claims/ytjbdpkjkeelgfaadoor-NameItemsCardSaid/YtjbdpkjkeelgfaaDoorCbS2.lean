/- Items that are the same: slices.EqualFunc over the closure of cbor.same. -/
import Derived.Test.YtjbdpkjkeelgfaaDoorCbR
namespace Go.Proofs.YtjbdpkjkeelgfaaDoor
open Go.RowKit Go.Shelf
set_option linter.unusedSimpArgs false

/-- A slice of items that reads as a list. -/
def ItSl (w : World) (A : Option Addr) (l : List It) : Prop := l = [] ∨ ∃ g o, A = some ⟨g, o, none⟩ ∧ g < w.heap.size ∧ ItL w w.heap.size g o l

set_option maxRecDepth 100000 in
set_option maxHeartbeats 8000000 in
theorem equalFunc_any (l m : List It) (A A' : Option Addr) (C C' : Nat) (P : Nat) (w : World) (hl : ItSl w A l) (hm : ItSl w A' m) (hC : l.length ≤ C) (hC' : m.length ≤ C') (hsl : l.length ≤ 140737488355328) (hsm : m.length ≤ 140737488355328)
    (hf : ∀ (i : Nat) (hi : i < l.length) (y : It) (v u : Value) (w1 : World), y ∈ m → Below w.heap.size w w1 → ItV w1 w1.heap.size v l[i] → ItV w1 w1.heap.size u y →
      Calls Tryd.prog 127 #[v, u, .pointer (some ⟨P, 0, none⟩)] w1 fun e w' => e = .returned (.bool (l[i].same y)) ∧ Below w1.heap.size w1 w') :
    Calls Tryd.prog 126 #[.slice A l.length C, .slice A' m.length C', .func (.func 127) #[] #[.pointer (some ⟨P, 0, none⟩)]] w fun e w' => e = .returned (.bool (sameL l m)) ∧ Below w.heap.size w w' := by
  have HL := Lib.hid hl
  have HM := Lib.hid hm
  have HF := Lib.hid hf
  clear hl hm hf
  by_cases q5 : ¬ l.length = m.length
  · have q5' : ((l.length : Int) == (m.length : Int)) = false := by simp; omega
    have hSL := sameL_len q5
    go_enter Tryd.func126, Tryd.ntmps126
    go_wp2_with fail
    go_ret
    exact ⟨by simp [hSL], Below.refl _ _⟩
  have q5 := Decidable.not_not.1 q5
  have HLen := Lib.hid q5
  rw [← q5] at hC' hsm ⊢
  clear q5
  go_enter Tryd.func126, Tryd.ntmps126
  go_wp2_with fail
  go_loopw [17] (fun i wr => ∃ j : Nat, j ≤ l.length ∧ i = .int .i64 j ∧ Hid (Below w.heap.size w wr ∧ sameL (l.take j) (m.take j) = true)) (fun i _ => l.length - (intOf i).toNat)
  case atStart => exact ⟨0, Nat.zero_le _, rfl, Below.refl _ _, rfl⟩
  case round =>
    obtain ⟨j, hj, rfl, HI⟩ := hrel
    by_cases hlt : j < l.length
    · have hlt' : j < m.length := by rw [← HLen.out]; exact hlt
      obtain ⟨g, o, rfl, hg, hlL⟩ : ∃ g o, A = some ⟨g, o, none⟩ ∧ g < w.heap.size ∧ ItL w w.heap.size g o l := by
        rcases HL.out with rfl | h
        · simp at hlt
        · exact h
      obtain ⟨g', o', rfl, hg', hlL'⟩ : ∃ g o, A' = some ⟨g, o, none⟩ ∧ g < w.heap.size ∧ ItL w w.heap.size g o m := by
        rcases HM.out with rfl | h
        · simp at hlt'
        · exact h
      have hBw := HI.out.1
      obtain ⟨p1, p2, p3, p4, hv5, e0, e1, e2, e3, e4⟩ := hlL.get (List.getElem?_eq_getElem hlt) hBw hg
      have hgr : g < wr.heap.size := Nat.lt_of_lt_of_le hg hBw.size
      have hgr' : g' < wr.heap.size := Nat.lt_of_lt_of_le hg' hBw.size
      obtain ⟨r1, r2, r3, r4, hu5, f0', f1', f2', f3', f4'⟩ := hlL'.get (List.getElem?_eq_getElem hlt') hBw hg'
      clear hlL hlL'
      have HV := Lib.hid (ItV.mono hBw.size _ hv5)
      have HU := Lib.hid (ItV.mono hBw.size _ hu5)
      have HBw := Lib.hid hBw
      clear hv5 hu5 hBw
      go_wp2_with fail
      have hB2 : Below wr.heap.size wr ((wr.alloc (.cells #[.int .i64 l[j].k, .int .u64 l[j].n, .slice p1 l[j].b.length p2, .string ⟨l[j].s.toArray⟩, .slice p3 l[j].l.length p4] 33)).alloc (.cells #[.int .i64 m[j].k, .int .u64 m[j].n, .slice r1 m[j].b.length r2, .string ⟨m[j].s.toArray⟩, .slice r3 m[j].l.length r4] 33)) := below_al (below_al (Below.refl _ _) _) _
      refine (HF.out j hlt m[j] _ _ _ (List.getElem_mem hlt') (below_on HBw.out hB2) (HV.out.on hB2) (HU.out.on hB2)).mono ?_
      rintro e w1 ⟨rfl, hb1⟩
      have HB1 := Lib.hid (below_on (below_on HBw.out hB2) hb1)
      clear hb1 hB2 e0 e1 e2 e3 e4 f0' f1' f2' f3' f4'
      obtain ⟨t, ht⟩ : ∃ t, t = l[j].same m[j] := ⟨_, rfl⟩
      rw [← ht]
      have HTt := Lib.hid ht
      clear ht
      cases t
      · go_wp2_with fail
        go_ret
        exact ⟨by simp [sameL_no hlt hlt' HTt.out.symm], HB1.out⟩
      · have hst := sameL_step hlt hlt' HI.out.2
        rw [← HTt.out] at hst
        have HST := Lib.hid hst
        clear hst
        go_wp2_with fail
        go_roundw
        case rel => exact ⟨j + 1, by omega, by go_num, HB1.out, HST.out⟩
        case measure => simp [intOf]; omega
    · obtain rfl : j = l.length := by omega
      have h1 := HI.out.2
      have h2 : m.take l.length = m := List.take_of_length_le (by rw [HLen.out]; exact Nat.le_refl _)
      rw [List.take_length, h2] at h1
      have H1 := Lib.hid h1
      clear h1 h2
      go_wp2_with fail
      go_ret
      exact ⟨by simp [H1.out], HI.out.1⟩

end Go.Proofs.YtjbdpkjkeelgfaaDoor
