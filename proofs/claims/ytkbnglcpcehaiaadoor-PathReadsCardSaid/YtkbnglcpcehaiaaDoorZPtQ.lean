/- The chapter's rows of paths: works. -/
import Derived.Test.YtkbnglcpcehaiaaDoorZJf
import Derived.Test.YtkbnglcpcehaiaaDoorZJc
import Derived.Test.YtkbnglcpcehaiaaDoorZJk
namespace Go.Proofs.YtkbnglcpcehaiaaDoor
open Go Go.RowKit Go.Shelf
set_option linter.unusedSimpArgs false
set_option linter.unusedVariables false
set_option maxRecDepth 100000

theorem ptNum_any (x : Int) (w : World) : Calls Tryd.prog 14 #[.int .i64 x] w fun e w' => e = .returned (.int .i64 x) ∧ w = w' := by
  go_enter Tryd.func14, Tryd.ntmps14
  go_wp2
  go_ret
  exact ⟨rfl, rfl⟩

theorem prUint_any (n : Int) (w : World) : Calls Tryd.prog 28 #[.int .u64 n] w fun e w' => e = .returned (.agg #[.int .i64 1, .int .u64 n, .slice none 0 0, .string ⟨#[]⟩, .slice none 0 0]) ∧ Below w.heap.size w w' := by
  go_enter Tryd.func28, Tryd.ntmps28
  go_wp2
  exact bodyPost_ret (v := .agg #[.int .i64 1, .int .u64 n, .slice none 0 0, .string ⟨#[]⟩, .slice none 0 0]) (by simp [results, Tryd.results28, go_sem]) rfl ⟨rfl, below_al (Below.refl _ _) _⟩

theorem prList_any (a : Option Addr) (n c : Nat) (w : World) : Calls Tryd.prog 27 #[.slice a n c] w fun e w' => e = .returned (.agg #[.int .i64 4, .int .u64 0, .slice none 0 0, .string ⟨#[]⟩, .slice a n c]) ∧ Below w.heap.size w w' := by
  go_enter Tryd.func27, Tryd.ntmps27
  go_wp2
  exact bodyPost_ret (v := .agg #[.int .i64 4, .int .u64 0, .slice none 0 0, .string ⟨#[]⟩, .slice a n c]) (by simp [results, Tryd.results27, go_sem]) rfl ⟨rfl, below_al (Below.refl _ _) _⟩

theorem prBool_any (q : Bool) (w : World) : Calls Tryd.prog 38 #[.bool q] w fun e w' => e = .returned (.agg #[.int .i64 5, .int .u64 (bN q), .slice none 0 0, .string ⟨#[]⟩, .slice none 0 0]) ∧ Below w.heap.size w w' := by
  cases q
  · go_enter Tryd.func38, Tryd.ntmps38
    go_wp2
    exact bodyPost_ret (v := .agg #[.int .i64 5, .int .u64 0, .slice none 0 0, .string ⟨#[]⟩, .slice none 0 0]) (by simp [results, Tryd.results38, go_sem]) rfl ⟨rfl, by first | exact below_al (Below.refl _ _) _ | exact below_al (below_al (Below.refl _ _) _) _⟩
  · go_enter Tryd.func38, Tryd.ntmps38
    go_wp2
    exact bodyPost_ret (v := .agg #[.int .i64 5, .int .u64 1, .slice none 0 0, .string ⟨#[]⟩, .slice none 0 0]) (by simp [results, Tryd.results38, go_sem]) rfl ⟨rfl, by first | exact below_al (Below.refl _ _) _ | exact below_al (below_al (Below.refl _ _) _) _⟩

def crU : Cr := (5, true)
def crD : Cr := (5, false)

theorem wk1 : wiE [] crU = 0 := by decide +kernel
theorem wk2 : wiE [crU] crU = 150 := by decide +kernel
theorem wk3 : wiE [crU] crD = 0 := by decide +kernel
theorem wk4 : wiE [] (0, true) = 2 := by decide +kernel
theorem wk5 : rightX [crU] = true := by decide +kernel
theorem wk6 : (itP true [crU]).err = 0 := by decide +kernel
theorem wk7 : (itP true [crU]).bytes = [130, 245, 130, 5, 245] := by decide +kernel
theorem wk8 : isP (itLs [itU 1]) = false := by decide +kernel

/-- With on what is written out. -/
theorem with_new (w : World) (bk : Bool) (a : Option Addr) (c : Nat) (xs : List Cr) (x : Cr) (hlen : xs.length ≤ 1000) (hcap : xs.length ≤ c) (hr : RdX w w.heap.size a xs) (h : wiE xs x = 0) :
    Calls Tryd.prog 9 #[.agg #[.bool bk, .slice a xs.length c], .agg #[.int .u32 x.1.toNat, .bool x.2]] w fun e w' => ∃ g C, e = .returned (.tuple #[.agg #[.bool bk, .slice (some ⟨g, 0, none⟩) (xs.length + 1) C], .int .i64 0]) ∧ xs.length + 1 ≤ C ∧ RdX w' w'.heap.size (some ⟨g, 0, none⟩) (xs ++ [x]) ∧ Below w.heap.size w w' := by
  refine (pwith_any bk a c xs x w (by omega) hcap hr).mono ?_
  rintro e w' ⟨hb, ⟨h1, _⟩ | ⟨_, g, C, rfl, hC, _, hg, hrow⟩⟩
  · exact absurd h h1
  · exact ⟨g, C, rfl, hC, hrow.rd hg, hb⟩

theorem with_not (w : World) (bk : Bool) (a : Option Addr) (c : Nat) (xs : List Cr) (x : Cr) (hlen : xs.length ≤ 1000) (hcap : xs.length ≤ c) (hr : RdX w w.heap.size a xs) (E : Int) (h : wiE xs x = E) (hE : E ≠ 0) :
    Calls Tryd.prog 9 #[.agg #[.bool bk, .slice a xs.length c], .agg #[.int .u32 x.1.toNat, .bool x.2]] w fun e w' => e = .returned (.tuple #[.agg #[.bool false, .slice none 0 0], .int .i64 E]) ∧ Below w.heap.size w w' := by
  refine (pwith_any bk a c xs x w (by omega) hcap hr).mono ?_
  rintro e w' ⟨hb, ⟨_, rfl⟩ | ⟨h1, _⟩⟩
  · exact ⟨by rw [h], hb⟩
  · rw [h] at h1
    exact absurd h1 hE

set_option maxHeartbeats 16000000 in
theorem ptWorks_any (w : World) (ht : TabW w) : Calls Tryd.prog 8 #[] w fun e w' => e = .returned (.bool true) ∧ Below w.heap.size w w' := by
  obtain ⟨W, hW⟩ : ∃ W, W = (w.alloc (.cells #[.int .u32 5, .bool true] 27)).alloc (.cells #[.int .u32 5, .bool false] 27) := ⟨_, rfl⟩
  have HB0 : Hid (Below w.heap.size w W) := by rw [hW]; exact below_al (below_al (Below.refl _ _) _) _
  have HX : Hid (∀ w', Below W.heap.size W w' → (w'.cell? ⟨w.heap.size, 0, none⟩ = some (.int .u32 5) ∧ w'.cell? ⟨w.heap.size, 1, none⟩ = some (.bool true)) ∧ (w'.cell? ⟨w.heap.size + 1, 0, none⟩ = some (.int .u32 5) ∧ w'.cell? ⟨w.heap.size + 1, 1, none⟩ = some (.bool false))) := fun w' h => by
    rw [hW] at h
    have h1 := below_on (below_al (Below.refl _ (w.alloc (.cells #[.int .u32 5, .bool true] 27))) (.cells #[.int .u32 5, .bool false] 27)) h
    have q1 := box_at h 0
    have q2 := box_at h 1
    rw [World.size_alloc] at q1 q2
    exact ⟨⟨box_at h1 0, box_at h1 1⟩, q1, q2⟩
  have HT : Hid (∀ w', Below W.heap.size W w' → TabW w') := fun w' h => (ht.on HB0.out).on h
  have HW := Lib.hid hW
  clear hW ht
  obtain ⟨⟨x0, x1⟩, x2, x3⟩ := HX.out W (Below.refl _ _)
  have HN1 : Hid (∀ w, Calls Tryd.prog 9 #[.agg #[.bool false, .slice none 0 0], .agg #[.int .u32 5, .bool true]] w fun e w' => ∃ g C, e = .returned (.tuple #[.agg #[.bool false, .slice (some ⟨g, 0, none⟩) 1 C], .int .i64 0]) ∧ 1 ≤ C ∧ RdX w' w'.heap.size (some ⟨g, 0, none⟩) [crU] ∧ Below w.heap.size w w') := fun w => with_new w false none 0 [] crU (by decide) (Nat.le_refl _) (.inl rfl) wk1
  have HN4 : Hid (∀ w, Calls Tryd.prog 9 #[.agg #[.bool false, .slice none 0 0], .agg #[.int .u32 0, .bool true]] w fun e w' => e = .returned (.tuple #[.agg #[.bool false, .slice none 0 0], .int .i64 2]) ∧ Below w.heap.size w w') := fun w => with_not w false none 0 [] (0, true) (by decide) (Nat.le_refl _) (.inl rfl) 2 wk4 (by decide)
  go_enter Tryd.func8, Tryd.ntmps8
  go_wp2_with fail
  rw [← HW.out]
  refine (HN1.out W).mono ?_
  rintro e w1 ⟨g, C, rfl, hC, hrd, hb⟩
  obtain ⟨W1, hW1⟩ : ∃ W, W = w1.alloc (.cells #[.bool false, .slice (some ⟨g, 0, none⟩) 1 C] 24) := ⟨_, rfl⟩
  have HB1 : Hid (Below W.heap.size W W1) := by rw [hW1]; exact below_al hb _
  have HBw := Lib.hid hb
  have HA1 : Hid (∀ w', Below W1.heap.size W1 w' → (w'.cell? ⟨w1.heap.size, 0, none⟩ = some (.bool false) ∧ w'.cell? ⟨w1.heap.size, 1, none⟩ = some (.slice (some ⟨g, 0, none⟩) 1 C)) ∧ RdX w' w'.heap.size (some ⟨g, 0, none⟩) [crU]) := fun w' h => by
    rw [hW1] at h
    exact ⟨box2_all h, hrd.on (below_on (below_al (Below.refl _ _) _) h)⟩
  have HW1 := Lib.hid hW1
  have HC := Lib.hid hC
  have HRd1 := Lib.hid hrd
  have HN2 : Hid (∀ w', Below W1.heap.size W1 w' → Calls Tryd.prog 9 #[.agg #[.bool false, .slice (some ⟨g, 0, none⟩) 1 C], .agg #[.int .u32 5, .bool true]] w' fun e w'' => e = .returned (.tuple #[.agg #[.bool false, .slice none 0 0], .int .i64 150]) ∧ Below w'.heap.size w' w'') := fun w' h => with_not w' false _ C [crU] crU (by decide) hC (HA1.out w' h).2 150 wk2 (by decide)
  have HN3 : Hid (∀ w', Below W1.heap.size W1 w' → Calls Tryd.prog 9 #[.agg #[.bool false, .slice (some ⟨g, 0, none⟩) 1 C], .agg #[.int .u32 5, .bool false]] w' fun e w'' => ∃ g C, e = .returned (.tuple #[.agg #[.bool false, .slice (some ⟨g, 0, none⟩) 2 C], .int .i64 0]) ∧ 2 ≤ C ∧ RdX w'' w''.heap.size (some ⟨g, 0, none⟩) [crU, crD] ∧ Below w'.heap.size w' w'') := fun w' h => with_new w' false _ C [crU] crD (by decide) hC (HA1.out w' h).2 wk3
  clear hW1 hb hrd hC x0 x1 x2 x3
  obtain ⟨⟨x0, x1⟩, x2, x3⟩ := HX.out W1 HB1.out
  obtain ⟨⟨y0, y1⟩, _⟩ := HA1.out W1 (Below.refl _ _)
  rw [HW1.out] at x0 x1 x2 x3 y0 y1
  go_wp2_with fail
  rw [← HW1.out]
  refine (HN2.out W1 (Below.refl _ _)).mono ?_
  rintro e w2 ⟨rfl, hb⟩
  obtain ⟨W2, hW2⟩ : ∃ W, W = w2.alloc (.cells #[.bool false, .slice none 0 0] 24) := ⟨_, rfl⟩
  have HB2 : Hid (Below W1.heap.size W1 W2) := by rw [hW2]; exact below_al hb _
  have HW2 := Lib.hid hW2
  clear hW2 hb x0 x1 x2 x3 y0 y1
  obtain ⟨⟨x0, x1⟩, x2, x3⟩ := HX.out W2 (below_on HB1.out HB2.out)
  obtain ⟨⟨y0, y1⟩, _⟩ := HA1.out W2 HB2.out
  rw [HW2.out] at x0 x1 x2 x3 y0 y1
  go_wp2_with fail
  rw [← HW2.out]
  refine (HN3.out W2 HB2.out).mono ?_
  rintro e w3 ⟨g3, C3, rfl, hC3, hrd3, hb⟩
  obtain ⟨W3, hW3⟩ : ∃ W, W = w3.alloc (.cells #[.bool false, .slice (some ⟨g3, 0, none⟩) 2 C3] 24) := ⟨_, rfl⟩
  have HB3 : Hid (Below W1.heap.size W1 W3) := by rw [hW3]; exact below_al (below_on HB2.out hb) _
  have hs3 : W1.heap.size ≤ w3.heap.size := (below_on HB2.out hb).size
  have HA3 : Hid (∀ w', Below W3.heap.size W3 w' → (w'.cell? ⟨w3.heap.size, 0, none⟩ = some (.bool false) ∧ w'.cell? ⟨w3.heap.size, 1, none⟩ = some (.slice (some ⟨g3, 0, none⟩) 2 C3)) ∧ RdX w' w'.heap.size (some ⟨g3, 0, none⟩) [crU, crD]) := fun w' h => by
    rw [hW3] at h
    exact ⟨box2_all h, hrd3.on (below_on (below_al (Below.refl _ _) _) h)⟩
  have HW3 := Lib.hid hW3
  clear hW3 hb hrd3 hC3 x0 x1 x2 x3 y0 y1
  go_wp2_with fail
  rw [← HW3.out]
  refine (HN4.out W3).mono ?_
  rintro e w4 ⟨rfl, hb⟩
  have hs13 : w1.heap.size < w3.heap.size := by
    have h1 : w1.heap.size + 1 = W1.heap.size := by rw [HW1.out]; simp
    omega
  clear hs3
  obtain ⟨W4, hW4⟩ : ∃ W, W = w4.alloc (.cells #[.bool false, .slice none 0 0] 24) := ⟨_, rfl⟩
  have HB4 : Hid (Below W3.heap.size W3 W4) := by rw [hW4]; exact below_al hb _
  have HW4 := Lib.hid hW4
  obtain ⟨⟨y0, y1⟩, _⟩ := HA1.out W4 (below_on HB3.out HB4.out)
  have yf : W4.frozen? ⟨w1.heap.size, 0, none⟩ = false := by
    have h := (below_on HB3.out HB4.out)
    rw [HW1.out] at h
    exact frozen_at h 0
  rw [HW4.out] at y0 y1 yf
  clear hW4 hb
  go_wp2_with fail
  rw [← HW4.out]
  clear y0 y1 yf
  obtain ⟨W5, hW5⟩ : ∃ W, W = W4.setCell ⟨w1.heap.size, 0, none⟩ (.bool true) := ⟨_, rfl⟩
  rw [← hW5]
  have HB14 : Hid (Below w1.heap.size w1 W5) := by
    rw [hW5]
    have h1 : Below w1.heap.size w1 W1 := by rw [HW1.out]; exact below_al (Below.refl _ _) _
    exact (h1.trans ((below_on HB3.out HB4.out).mono h1.size)).setCell (Nat.le_refl _) _
  have hsW1 : W.heap.size ≤ w1.heap.size := HBw.out.size
  have HB5 : Hid (Below W.heap.size W W5) := HBw.out.trans (HB14.out.mono hsW1)
  have h34 := HA3.out W4 HB4.out
  have hy4 := (HA1.out W4 (below_on HB3.out HB4.out)).1
  have HA5 : Hid (∀ w', Below W5.heap.size W5 w' → (w'.cell? ⟨w3.heap.size, 0, none⟩ = some (.bool false) ∧ w'.cell? ⟨w3.heap.size, 1, none⟩ = some (.slice (some ⟨g3, 0, none⟩) 2 C3)) ∧ RdX w' w'.heap.size (some ⟨g3, 0, none⟩) [crU, crD]) := by
    have hfar : ∀ b i, b ≠ w1.heap.size → W5.cell? ⟨b, i, none⟩ = W4.cell? ⟨b, i, none⟩ := fun b i h => by
      rw [hW5, World.cell?_setCell_far _ _ _ _ (by show w1.heap.size ≠ b; omega)]
    have hsz : W5.heap.size = W4.heap.size := by rw [hW5]; simp
    have hblk : ∀ b, b ≠ w1.heap.size → W5.heap[b]? = W4.heap[b]? := fun b h => by rw [hW5, Below.heap_setCell _ _ _ _ h]
    obtain ⟨⟨z0, z1⟩, hr⟩ := h34
    have hr5 : RdX W5 W5.heap.size (some ⟨g3, 0, none⟩) [crU, crD] := by
      rcases hr with h | ⟨b, o, e, hlt, hc⟩
      · cases h
      · cases e
        have hne : g3 ≠ w1.heap.size := fun e => by
          have h0 := (hc 0 (by decide)).1
          subst e
          simp only [Nat.zero_mul, Nat.add_zero] at h0
          rw [hy4.1] at h0
          cases h0
        exact .inr ⟨g3, 0, rfl, by rw [hsz]; exact hlt, fun j hj => (hc j hj).kept (hblk g3 hne)⟩
    intro w' h
    have hlt3 : w3.heap.size < W5.heap.size := by
      have h3 : w3.heap.size + 1 = W3.heap.size := by rw [HW3.out]; simp
      have := HB4.out.size
      omega
    refine ⟨⟨(h.cell (p := ⟨w3.heap.size, 0, none⟩) hlt3).trans ?_, (h.cell (p := ⟨w3.heap.size, 1, none⟩) hlt3).trans ?_⟩, hr5.on h⟩
    · rw [hfar _ _ (by omega)]
      exact z0
    · rw [hfar _ _ (by omega)]
      exact z1
  have hI5 : RdX W5 W5.heap.size (some ⟨g, 0, none⟩) [crU] := HRd1.out.on HB14.out
  clear hW5 h34 hy4
  refine (ppItem_any true _ C [crU] W5 (by decide) hI5).mono ?_
  rintro e w6 ⟨hb, ⟨_, a6, c6, A6, C6, rfl, hit⟩ | ⟨hbad, _⟩⟩
  rotate_left
  · rw [wk5] at hbad
    cases hbad
  rw [show [crU].length + 1 = 2 from rfl] at hit ⊢
  obtain ⟨W6, hW6⟩ : ∃ W, W = w6.alloc (.cells #[.int .i64 4, .int .u64 0, .slice a6 0 c6, .string ⟨#[]⟩, .slice A6 2 C6] 45) := ⟨_, rfl⟩
  have HB6 : Hid (Below W5.heap.size W5 W6) := by rw [hW6]; exact below_al hb _
  have HIt : Hid (ItV W6 W6.heap.size (.agg #[.int .i64 4, .int .u64 0, .slice a6 0 c6, .string ⟨#[]⟩, .slice A6 2 C6]) (itP true [crU])) := by
    rw [hW6]
    exact hit.new_itV.on (below_al (Below.refl _ _) _)
  have HW6 := Lib.hid hW6
  clear hW6 hb hit hI5
  go_wp2_with fail
  rw [← HW6.out]
  refine (encode_any (itP true [crU]) _ W6 HIt.out (HT.out W6 (below_on HB5.out HB6.out)) (itP_depth _ _)).mono ?_
  rintro e w7 ⟨hb, ⟨hbad, _⟩ | ⟨_, u, rfl, hown⟩⟩
  · exact absurd wk6 hbad
  rw [wk7] at hown
  obtain ⟨a7, c7, rfl, _, hrb, _⟩ := hown.bytes
  rw [show ([130, 245, 130, 5, 245] : List UInt8).length = 5 from rfl]
  have HB7 := Lib.hid (below_on HB6.out hb)
  have HRb := Lib.hid hrb
  clear hb hown hrb
  go_wp2_with fail
  refine (prUint_any _ _).mono ?_
  rintro e w8 ⟨rfl, hb⟩
  have hb78 := hb
  obtain ⟨W8, hW8⟩ : ∃ W, W = w8.alloc (.cells #[.int .i64 1, .int .u64 1, .slice none 0 0, .string ⟨#[]⟩, .slice none 0 0] 45) := ⟨_, rfl⟩
  have HB8 : Hid (Below W5.heap.size W5 W8) := by rw [hW8]; exact below_al (below_on HB7.out hb) _
  have HIt8 : Hid (∀ w', Below W8.heap.size W8 w' → ItV w' w'.heap.size (.agg #[.int .i64 4, .int .u64 0, .slice none 0 0, .string ⟨#[]⟩, .slice (some ⟨w8.heap.size, 0, none⟩) 1 1]) (itLs [itU 1])) := fun w' h => by
    rw [hW8] at h
    have hs := h.size
    rw [World.size_alloc] at hs
    refine ItS.itV (S := newB w8 w') (fun b q => q.2) _ (itS_list (n := 1) rfl (Nat.le_refl _) (by decide) ⟨Nat.le_refl _, by omega⟩ ?_)
    simp only [ItSL]
    exact ⟨⟨_, ⟨_, _, _, _, _, rfl, box_at h 0, box_at h 1, box_at h 2, box_at h 3, box_at h 4⟩, itS_uint _ _ 1 ⟨by decide, by decide⟩⟩, trivial⟩
  have H78 : Hid (Below w7.heap.size w7 W8) := by rw [hW8]; exact below_al hb78 _
  have HW8 := Lib.hid hW8
  clear hW8 hb hb78
  go_wp2_with fail
  rw [← HW8.out]
  refine (prList_any _ _ _ _).mono ?_
  rintro e w9 ⟨rfl, hb⟩
  have HB9 := Lib.hid (below_on HB8.out hb)
  have H79 := Lib.hid (below_on H78.out hb)
  have hit9 := HIt8.out w9 hb
  clear hb
  go_wp2_with fail
  refine (pof_any (itLs [itU 1]) _ w9 hit9).mono ?_
  rintro e w10 ⟨hb, ⟨hbad, _⟩ | ⟨_, rfl⟩⟩
  · rw [wk8] at hbad
    cases hbad
  obtain ⟨W10, hW10⟩ : ∃ W, W = w10.alloc (.cells #[.bool false, .slice none 0 0] 24) := ⟨_, rfl⟩
  have HB10 : Hid (Below W5.heap.size W5 W10) := by rw [hW10]; exact below_al (below_on HB9.out hb) _
  have HB710 : Hid (Below w7.heap.size w7 W10) := by
    rw [hW10]
    exact below_al (below_on H79.out hb) _
  have HW10 := Lib.hid hW10
  obtain ⟨⟨x0, x1⟩, x2, x3⟩ := HX.out W10 (below_on HB5.out HB10.out)
  obtain ⟨⟨y0, y1⟩, _⟩ := HA5.out W10 HB10.out
  have htx := fun w' (h : Below W10.heap.size W10 w') => (((HRb.out.below HB710.out).mono HB710.out.size).below h).text (P := Tryd.prog) 42 9 5 5 c7 rfl Tryd.underlying42 Tryd.underlying5 Tryd.underlying9
  have HTX := Lib.hid htx
  rw [HW10.out] at x0 x1 x2 x3 y0 y1
  clear hW10 hb hit9 htx
  go_wp2_with (go_at_call 14; refine (ptNum_any _ _).mono ?_; rintro e w' ⟨rfl, rfl⟩)
  obtain ⟨W11, hW11⟩ : ∃ W, W = (w10.alloc (.cells #[.bool false, .slice none 0 0] 24)).alloc (.cells #[.int .u32 5, .bool true, .int .u32 5, .bool false] 27) := ⟨_, rfl⟩
  have HB11 : Hid (Below W10.heap.size W10 W11) := by rw [hW11, HW10.out]; exact below_al (Below.refl _ _) _
  have hr1 := (HA5.out W11 (below_on HB10.out HB11.out)).2
  have hr2 : RdX W11 W11.heap.size (some ⟨w10.heap.size + 1, 0, none⟩) [crU, crD] := by
    have hbx := box_at (w := w10.alloc (.cells #[.bool false, .slice none 0 0] 24)) (cs := #[.int .u32 5, .bool true, .int .u32 5, .bool false]) (t := 27) (Below.refl _ _)
    rw [World.size_alloc] at hbx
    rw [hW11]
    refine .inr ⟨w10.heap.size + 1, 0, rfl, by simp, fun j hj => ?_⟩
    rcases (show j = 0 ∨ j = 1 by simp at hj; omega) with rfl | rfl
    · exact ⟨hbx 0, hbx 1⟩
    · exact ⟨hbx 2, hbx 3⟩
  have hsm := refPSame_any false false (some ⟨g3, 0, none⟩) (some ⟨w10.heap.size + 1, 0, none⟩) C3 2 [crU, crD] [crU, crD] W11 (by decide) (by decide) hr1 hr2
  rw [show sameP false false [crU, crD] [crU, crD] = true from by simp [sameP]] at hsm
  have HSm := Lib.hid hsm
  rw [← hW11]
  clear hW11 hr1 hr2 hsm x0 x1 x2 x3 y0 y1
  refine HSm.out.mono ?_
  rintro e w12 ⟨rfl, hb⟩
  have HB12 := Lib.hid (below_on HB11.out hb)
  have htx := HTX.out w12 HB12.out
  clear hb
  go_wp2_with (go_at_call 14; refine (ptNum_any _ _).mono ?_; rintro e w' ⟨rfl, rfl⟩)
  go_ret
  exact ⟨rfl, HB0.out.trans ((HB5.out.trans ((below_on HB10.out HB12.out).mono HB5.out.size)).mono HB0.out.size)⟩

end Go.Proofs.YtkbnglcpcehaiaaDoor
