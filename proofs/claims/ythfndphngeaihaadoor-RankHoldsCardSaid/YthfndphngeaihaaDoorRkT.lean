/- Package rank: here, All. -/
import Derived.Test.YthfndphngeaihaaDoorRkS
namespace Go.Proofs.YthfndphngeaihaaDoor
open Go Go.RowKit Go.Shelf
open Go.ChangeMaps (setBlock)
set_option linter.unusedSimpArgs false
set_option linter.unusedVariables false
set_option linter.unusedSectionVars false
set_option maxRecDepth 100000

attribute [local go_sem] Oper.semAt_some

theorem here_any (p b : Nat) (w : World) (h : w.cell? ⟨p, 1, none⟩ = some (.map (some b))) : Calls Tryd.prog 36 #[.pointer (some ⟨p, 0, none⟩)] w fun e w' => e = .returned (.pointer (some ⟨p, 0, none⟩)) ∧ w' = w := by
  go_enter Tryd.func36, Tryd.ntmps36
  go_wp2_with fail
  refine (none_any p b w h).mono ?_
  rintro e w1 ⟨rfl, rfl⟩
  go_wp2_with fail
  go_ret
  exact ⟨rfl, rfl⟩

/-- A slice of waits that may be gone over: the closure's box, the row. -/
def WaysW (w0 w : World) (v : Value) (l : List Wt) : Prop :=
  ∃ Bs A C, v = .func (.func 67) #[] #[.pointer (some ⟨Bs, 0, none⟩)] ∧ w.cell? ⟨Bs, 0, none⟩ = some (.slice A l.length C) ∧ RdK w A (flatWt l) ∧ w0.heap.size ≤ Bs ∧ Bs < w.heap.size ∧ ∀ q, A = some q → w0.heap.size ≤ q.block ∧ q.block < w.heap.size

theorem allOf_len (D : List Wt) (node : Int) : (allOf D node).length ≤ 3 * D.length := by
  unfold allOf allR
  have f := fun r : Int => List.length_filter_le (fun y : Wt => decide (y.qk = ⟨node, r⟩)) D
  have f0 := f 0
  have f1 := f 1
  have f2 := f 2
  simp only [List.length_append]
  omega

set_option maxHeartbeats 2000000 in
theorem all_any (S : Nat → Prop) (p : Nat) (most node : Int) (D : List Wt) (w : World) (h : LineAt w S p most D) (hS : ∀ b, S b → b < w.heap.size) (hT : TabR w) (hlen : D.length ≤ 100000) :
    Calls Tryd.prog 16 #[.pointer (some ⟨p, 0, none⟩), .int .u32 node] w fun e w' => ∃ v, e = .returned v ∧ WaysW w w' v (allOf D node) ∧ Below w.heap.size w w' := by
  have HL := Lib.hid h
  have HSb := Lib.hid hS
  have HT := Lib.hid hT
  have HLe := Lib.hid hlen
  obtain ⟨bq, bw, lq, lw, h1, _⟩ := h
  have d1 := h1.1 1 _ rfl
  clear h1 hS hT hlen
  go_enter Tryd.func16, Tryd.ntmps16
  go_wp2_with fail
  refine (here_any p bq w d1).mono ?_
  rintro e w1 ⟨rfl, rfl⟩
  clear d1
  go_wp2_with fail
  refine (ordered_any p node w1).mono ?_
  rintro e w4 ⟨rfl, hw4⟩
  have HW4 := Lib.hid hw4
  have HBv : Hid (Below w1.heap.size w1 w4) := by rw [Hid, hw4]; exact below_al (below_al (Below.refl _ _) _) _
  have HZ4 : Hid (w4.heap.size = w1.heap.size + 1 + 1) := by rw [Hid, hw4]; simp
  clear hw4
  go_wp2_with fail
  have hsb : ∀ b, ordS S w1.heap.size (w1.heap.size + 1) b → b < w4.heap.size := fun b hb => by
    have h1 := HZ4.out
    have h3 := HT.out.lt
    rcases hb with h | h | h | h
    · have := HSb.out b h; omega
    · omega
    · omega
    · omega
  refine (wcollect_any 59 #[.pointer (some ⟨w1.heap.size, 0, none⟩), .pointer (some ⟨w1.heap.size + 1, 0, none⟩)] (ordS S w1.heap.size (w1.heap.size + 1)) (allOf D node) w4 ent_ordered1 (fun X hX => ordered_goM S p most node D w1 w4 HL.out HSb.out HT.out HLe.out HW4.out X (fun b hb => hX.block b (hsb b hb)) hX.size) hsb (by have := allOf_len D node; have := HLe.out; omega)).mono ?_
  rintro e w5 ⟨v, rfl, ho, hb5⟩
  have HB5 := Lib.hid hb5
  obtain ⟨A, C, rfl, hrd⟩ := own_rdK ho
  obtain ⟨n, hn⟩ : ∃ n, n = (allOf D node).length := ⟨_, rfl⟩
  have HN := Lib.hid hn
  rw [← hn]
  have HO := Lib.hid ho
  have HR := Lib.hid hrd
  clear hb5 ho hrd hn
  go_wp2_with fail
  refine (wvalues_any A n C w5).mono ?_
  rintro e w6 ⟨rfl, hw6⟩
  have HW6 := Lib.hid hw6
  have HB6 : Hid (Below w5.heap.size w5 w6) := by rw [Hid, hw6]; exact below_al (Below.refl _ _) _
  clear hw6
  go_wp2_with fail
  go_ret
  have s1 := HBv.out.size
  have s2 := HB5.out.size
  have s3 := HB6.out.size
  refine ⟨_, rfl, ⟨w5.heap.size, A, C, rfl, ?_, HR.out.on HB6.out, by omega, by rw [HW6.out]; simp, fun q hq => ?_⟩, HBv.out.trans ((HB5.out.trans (HB6.out.mono s2)).mono s1)⟩
  · rw [HW6.out, ← HN.out]
    exact (RowB.new w5 [.slice A n C] _).1 0 _ rfl
  · have := World.ownsRow.lt HO.out q.block (by rw [hq]; rfl)
    omega

end Go.Proofs.YthfndphngeaihaaDoor
