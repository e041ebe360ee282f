/- Clock's statements: the walk of the law of spans. -/
import Derived.Test.YtjcdmmlnmhkggaaClH
import Derived.Lib.SliceRun
namespace Go.Proofs.Ytjcdmmlnmhkggaa
open Go.RowKit Go.Shelf

theorem bothA_form (f u g v : Int) : ∃ p q b, bothA f u g v = .tuple #[.agg #[.int .u64 p, .int .u64 q], .bool b] := ⟨_, _, _, rfl⟩

/-- The cells of a pair's box. -/
def Pair (W : World) (b : Nat) (x y : Value) : Prop := W.cell? ⟨b, 0, none⟩ = some x ∧ W.cell? ⟨b, 1, none⟩ = some y

theorem Pair.later {W W' : World} {b B : Nat} {x y : Value} (h : Pair W b x y) (hb : Below B W W') (hlt : b < B) : Pair W' b x y :=
  ⟨(hb.cell (p := ⟨b, 0, none⟩) hlt).trans h.1, (hb.cell (p := ⟨b, 1, none⟩) hlt).trans h.2⟩

theorem pair_new (w : World) (x y : Value) (t : TypeId) : Pair (w.alloc (.cells #[x, y] t)) w.heap.size x y := by
  constructor <;> simp

theorem pair_of {w w' : World} {x y : Value} {t : TypeId} (hb : Below (w.alloc (.cells #[x, y] t)).heap.size (w.alloc (.cells #[x, y] t)) w') : Pair w' w.heap.size x y :=
  (pair_new w x y t).later hb (by simp)

set_option maxRecDepth 100000 in
set_option maxHeartbeats 4000000 in
theorem walk_clockSpans (f u g v m r : Int) (w : World) (hf : 0 ≤ f) (hr : 0 ≤ r) :
    Calls Try.prog 4 #[.agg #[.int .u64 f, .int .u64 u], .agg #[.int .u64 g, .int .u64 v], .agg #[.int .u64 m, .int .u64 r]] w fun e w' => e = .returned (.bool true) ∧ Below w.heap.size w w' := by
  have B1 := Lib.hid (fun w => both_any f u g v w)
  have B2 := Lib.hid (fun w => refBoth_any f u g v w)
  have R1 := Lib.hid (fun w => right_any f u w)
  have R2 : Hid (∀ w, Calls Try.prog 19 #[.agg #[.int .u64 f, .int .u64 u]] w fun e w' => e = .returned (.bool (rightT f u)) ∧ Below w.heap.size w w') :=
    fun w => (refRight_any f u w).mono (by rintro e w' ⟨he, rfl⟩; exact ⟨he, (Below.refl _ _).alloc (Nat.le_refl _) _⟩)
  have I1 := Lib.hid (fun w => in_any f u m w)
  have I2 := Lib.hid (fun w => refIn_any f u m w)
  have C1 := Lib.hid (fun w => carries_any f u r w hf hr)
  have C2 := Lib.hid (fun w => refCarries_any f u r w hf hr)
  obtain ⟨p, q, b, hp⟩ := bothA_form f u g v
  rw [hp] at B1 B2
  generalize rightT f u = R at R1 R2
  generalize inT f u m = I at I1 I2
  generalize carT f u r = C at C1 C2
  clear hp hf hr
  go_enter Try.func4, Try.ntmps4
  go_wp2_with fail
  refine (B1.out _).mono ?_
  rintro e w1 ⟨rfl, hb1⟩
  have x0 := (pair_of (later_step (later_step hb1)))
  have x1 := (pair_of (later_step hb1))
  have x2 := (pair_of hb1)
  obtain ⟨x00, x01⟩ := x0
  obtain ⟨x10, x11⟩ := x1
  obtain ⟨x20, x21⟩ := x2
  simp only [World.size_alloc] at x10 x11 x20 x21
  have hs1 : w.heap.size + 3 ≤ w1.heap.size := by have := hb1.size; simp at this; omega
  have y00 := Lib.cell?_alloc_some (.cells #[.int .u64 p, .int .u64 q] 30) x00
  have y01 := Lib.cell?_alloc_some (.cells #[.int .u64 p, .int .u64 q] 30) x01
  have y10 := Lib.cell?_alloc_some (.cells #[.int .u64 p, .int .u64 q] 30) x10
  have y11 := Lib.cell?_alloc_some (.cells #[.int .u64 p, .int .u64 q] 30) x11
  go_wp2_with fail
  refine (B2.out _).mono ?_
  rintro e w2 ⟨rfl, hb2⟩
  have H1 : Hid (Below w.heap.size w w1) := later_step (later_step (later_step hb1))
  obtain ⟨W0, hW0⟩ : ∃ W0, W0 = w2.alloc (.cells #[.int .u64 p, .int .u64 q] 30) := ⟨_, rfl⟩
  have HB0 : Hid (Below w.heap.size w W0) := by rw [hW0]; exact below_al (below_on (below_al H1.out _) hb2) _
  have HELD : Hid (∀ w', Below W0.heap.size W0 w' → (((w'.cell? ⟨w.heap.size, 0, none⟩ = some (.int .u64 f) ∧ w'.cell? ⟨w.heap.size, 1, none⟩ = some (.int .u64 u)) ∧ (w'.cell? ⟨w.heap.size + 1 + 1, 0, none⟩ = some (.int .u64 m) ∧ w'.cell? ⟨w.heap.size + 1 + 1, 1, none⟩ = some (.int .u64 r))) ∧
      ((w'.cell? ⟨w1.heap.size, 0, none⟩ = some (.int .u64 p) ∧ w'.cell? ⟨w1.heap.size, 1, none⟩ = some (.int .u64 q)) ∧ (w'.cell? ⟨w2.heap.size, 0, none⟩ = some (.int .u64 p) ∧ w'.cell? ⟨w2.heap.size, 1, none⟩ = some (.int .u64 q)))) ∧ Below W0.heap.size W0 w') := by
    intro w' hb
    have hb' := hb
    rw [hW0] at hb'
    have b2 := later_step hb'
    have b1 : Below w1.heap.size w1 w' := (later_step hb2).trans (b2.mono (by have := hb2.size; simp at this; omega))
    have P0 := Pair.later ⟨x00, x01⟩ b1 (by omega)
    have P2 := Pair.later ⟨x20, x21⟩ b1 (by omega)
    have Pp : Pair w' w1.heap.size (.int .u64 p) (.int .u64 q) := (pair_of hb2).later b2 (by have := hb2.size; simp at this; omega)
    have Pq : Pair w' w2.heap.size (.int .u64 p) (.int .u64 q) := pair_of hb'
    exact ⟨⟨⟨P0, P2⟩, Pp, Pq⟩, hb⟩
  have F0 : Below W0.heap.size W0 W0.drew := (Below.refl _ _).drew
  clear B1 B2 x00 x01 x10 x11 x20 x21 y00 y01 y10 y11 hs1 H1 hb1 hb2
  go_wp2
  rw [← hW0]
  clear hW0
  go_region_held (fun w' => (((w'.cell? ⟨w.heap.size, 0, none⟩ = some (.int .u64 f) ∧ w'.cell? ⟨w.heap.size, 1, none⟩ = some (.int .u64 u)) ∧ (w'.cell? ⟨w.heap.size + 1 + 1, 0, none⟩ = some (.int .u64 m) ∧ w'.cell? ⟨w.heap.size + 1 + 1, 1, none⟩ = some (.int .u64 r))) ∧
      ((w'.cell? ⟨w1.heap.size, 0, none⟩ = some (.int .u64 p) ∧ w'.cell? ⟨w1.heap.size, 1, none⟩ = some (.int .u64 q)) ∧ (w'.cell? ⟨w2.heap.size, 0, none⟩ = some (.int .u64 p) ∧ w'.cell? ⟨w2.heap.size, 1, none⟩ = some (.int .u64 q)))) ∧ Below W0.heap.size W0 w')
    (first | (refine HELD.out _ ?_; with_reducible exact F0) | (refine HELD.out _ ?_; with_reducible exact F1) | (refine HELD.out _ ?_; with_reducible exact F2) | (refine HELD.out _ ?_; with_reducible exact F3) | (refine HELD.out _ ?_; with_reducible exact F4) | (refine HELD.out _ ?_; with_reducible exact F5) | (refine HELD.out _ ?_; with_reducible exact F6) | (refine HELD.out _ ?_; with_reducible exact F7))
    (first
      | (go_at_call 18; refine (R1.out _).mono ?_; rintro e W1 ⟨rfl, h1⟩; have F1 := F0.trans (h1.mono F0.size); clear h1)
      | (go_at_call 19; refine (R2.out _).mono ?_; rintro e W2 ⟨rfl, h2⟩; have F2 := F1.trans (h2.mono F1.size); clear h2)
      | (go_at_call 20; refine (I1.out _).mono ?_; rintro e W3 ⟨rfl, h3⟩; have F3 := F2.trans (h3.mono F2.size); clear h3)
      | (go_at_call 21; refine (I2.out _).mono ?_; rintro e W4 ⟨rfl, h4⟩; have F4 := F3.trans (h4.mono F3.size); clear h4)
      | (go_at_call 22; refine (C1.out _).mono ?_; rintro e W5 ⟨rfl, h5⟩; have F5 := F4.trans (h5.mono F4.size); clear h5)
      | (go_at_call 23; refine (C2.out _).mono ?_; rintro e W6 ⟨rfl, h6⟩; have F6 := F5.trans (h6.mono F5.size); clear h6)
      | (go_at_call 15; refine (works_any _).mono ?_; rintro e W7 ⟨rfl, h7⟩; have F7 := F6.trans (h7.mono F6.size); clear h7))
  all_goals
    go_wp2
    go_ret
    exact ⟨rfl, HB0.out.trans (F7.mono HB0.out.size)⟩

end Go.Proofs.Ytjcdmmlnmhkggaa
