/- Joined texts. -/
import Derived.Test.YtiahakbkagipkaaGreatDoorZBq
import Derived.Test.YtiahakbkagipkaaGreatDoorZBg
set_option maxHeartbeats 8000000
set_option linter.unusedSimpArgs false
set_option linter.unusedVariables false
set_option maxRecDepth 100000
namespace Go.Proofs.YtiahakbkagipkaaGreatDoor
open Go Go.RowKit Go.Shelf

def sameP (b b' : Bool) (xs ys : List Cr) : Bool := decide (b = b' ∧ xs = ys)

theorem sameP_bool {b b' : Bool} {xs ys : List Cr} (h : ¬ b = b') : sameP b b' xs ys = false := by simp [sameP, h]
theorem sameP_len {b b' : Bool} {xs ys : List Cr} (h : ¬ xs.length = ys.length) : sameP b b' xs ys = false := by
 have : ¬ xs = ys := fun e => h (by rw [e])
 simp [sameP, this]
theorem sameP_at {b b' : Bool} {xs ys : List Cr} {k : Nat} (hk : k < xs.length) (hk' : k < ys.length) (h : ¬ atX xs k = atX ys k) : sameP b b' xs ys = false := by
 have : ¬ xs = ys := fun e => h (by rw [e])
 simp [sameP, this]
theorem sameX_step {xs ys : List Cr} {k : Nat} (hk : k < xs.length) (hk' : k < ys.length) (h : xs.take k = ys.take k) (h1 : atX xs k = atX ys k) : xs.take (k + 1) = ys.take (k + 1) := by
 rw [take_atX xs k hk, take_atX ys k hk', h, h1]

theorem refPSame_any (b b' : Bool) (a a' : Option Addr) (c c' : Nat) (xs ys : List Cr) (w : World) (hlen : xs.length ≤ 1000000) (hlen' : ys.length ≤ 1000000) (hr : RdX w w.heap.size a xs) (hr' : RdX w w.heap.size a' ys) :
  Calls Tryz.prog 46 #[.agg #[.bool b, .slice a xs.length c], .agg #[.bool b', .slice a' ys.length c']] w fun e w' => e = .returned (.bool (sameP b b' xs ys)) ∧ Below w.heap.size w w' := by
 have HR := h_ hr
 have HR' := h_ hr'
 obtain ⟨V, hV⟩ : ∃ V, V = w.alloc (.cells #[.bool b, .slice a xs.length c] 44) := ⟨_, rfl⟩
 have HBV : Hid (Below w.heap.size w V) := by rw [hV]; exact below_al bR _
 have hVs : V.heap.size = w.heap.size + 1 := by rw [hV]; simp
 have HXV : Hid (∀ w', Below V.heap.size V w' → w'.cell? ⟨w.heap.size, 0, none⟩ = some (.bool b) ∧ w'.cell? ⟨w.heap.size, 1, none⟩ = some (.slice a xs.length c)) := by
  rw [hV]
  exact fun w' h => ptBox2_all h
 obtain ⟨W, hW⟩ : ∃ W, W = V.alloc (.cells #[.bool b', .slice a' ys.length c'] 44) := ⟨_, rfl⟩
 have HBW : Hid (Below V.heap.size V W) := by rw [hW]; exact below_al bR _
 have HX : Hid (∀ w', Below W.heap.size W w' → (w'.cell? ⟨w.heap.size, 0, none⟩ = some (.bool b) ∧ w'.cell? ⟨w.heap.size, 1, none⟩ = some (.slice a xs.length c)) ∧ (w'.cell? ⟨w.heap.size + 1, 0, none⟩ = some (.bool b') ∧ w'.cell? ⟨w.heap.size + 1, 1, none⟩ = some (.slice a' ys.length c'))) := fun w' h => by
  refine ⟨HXV.out w' (below_on HBW.out h), ?_⟩
  rw [hW] at h
  have := ptBox2_all h
  rw [hVs] at this
  exact this
 have HB0 : Hid (Below w.heap.size w W) := below_on HBV.out HBW.out
 have HW : Hid (W = (w.alloc (.cells #[.bool b, .slice a xs.length c] 44)).alloc (.cells #[.bool b', .slice a' ys.length c'] 44)) := by rw [hW, hV]; rfl
 have HEQ := h_ (fun x y w => eqCross_run x y w)
 clear hr hr' hW hVs hV HXV
 by_cases hb : b = b'
 ·subst hb
  have eb : (b == b) = true := by simp
  have eb' : (b != b) = false := by simp
  by_cases hl : xs.length = ys.length
  ·have el : ((xs.length : Int) == (xs.length : Int)) = true := by simp
   have HLen := h_ hl
   rw [← hl] at HX HW hlen' ⊢
   clear hl
   go_enter Tryz.func46, Tryz.ntmps46
   go_wp2_with fail
   rw [← HW.out]
   go_loopw [5] (fun i wr => ∃ k : Nat, k ≤ xs.length ∧ i = .int .i64 k ∧ Hid (xs.take k = ys.take k ∧ Below W.heap.size W wr)) (fun i _ => xs.length - (intOf i).toNat)
   case atStart => exact ⟨0, Nat.zero_le _, rfl, by simp, Below.refl _ _⟩
   case round =>
    obtain ⟨k, hk, rfl, HI⟩ := hrel
    obtain ⟨⟨x0, x1⟩, x2, x3⟩ := HX.out wr HI.out.2
    by_cases hlt : k < xs.length
    ·have hlt' : k < ys.length := by rw [← HLen.out]; exact hlt
     have hBw := HB0.out.trans (HI.out.2.mono HB0.out.size)
     obtain ⟨g, o, rfl, hg, hc0⟩ := HR.out.cells k hlt
     obtain ⟨g', o', rfl, hg', hc0'⟩ := HR'.out.cells k hlt'
     obtain ⟨q0, q1⟩ := hc0.kept (hBw.block g hg)
     obtain ⟨r0, r1⟩ := hc0'.kept (hBw.block g' hg')
     clear hc0 hc0' hBw
     have HS : Hid (atX xs k = atX ys k → xs.take (k + 1) = ys.take (k + 1)) := sameX_step hlt hlt' HI.out.1
     have HN : Hid (¬ atX xs k = atX ys k → sameP b b xs ys = false) := sameP_at hlt hlt'
     have he := fun w => HEQ.out (atX xs k) (atX ys k) w
     generalize atX xs k = x at *
     generalize atX ys k = y at *
     by_cases hq : x = y
     ·rw [decide_eq_true hq] at he
      have HQ := h_ (HS.out hq)
      clear hq hlt'
      go_wp2_with fail
      go_quiet (fail)
      go_wp2_with fail
      go_roundw
      case rel => exact ⟨k + 1, by omega, by go_num, HQ.out, below_dr HI.out.2 _⟩
      case measure => simp [intOf]; omega
     ·rw [decide_eq_false hq] at he
      have HQ := h_ (HN.out hq)
      clear hq hlt'
      go_wp2_with fail
      go_quiet (fail)
      go_wp2_with fail
      go_ret
      exact ⟨by rw [HQ.out]; rfl, HB0.out.trans ((below_dr HI.out.2 _).mono HB0.out.size)⟩
    ·obtain rfl : k = xs.length := by omega
     have h := HI.out
     rw [List.take_length, HLen.out, List.take_length] at h
     have h2 : sameP b b xs ys = true := by simp [sameP, h.1]
     have HI2 := h_ h.2
     have H2 := h_ h2
     clear h h2 HI
     go_wp2_with fail
     go_ret
     exact ⟨by rw [H2.out]; rfl, HB0.out.trans (HI2.out.mono HB0.out.size)⟩
  ·have HQ := h_ (sameP_len (b := b) (b' := b) hl)
   have el : ((xs.length : Int) == (ys.length : Int)) = false := by simp; omega
   have el' : ((xs.length : Int) != (ys.length : Int)) = true := by simp; omega
   clear hl
   obtain ⟨⟨x0, x1⟩, x2, x3⟩ := HX.out W bR
   go_enter Tryz.func46, Tryz.ntmps46
   go_wp2_with fail
   go_ret
   exact ⟨by rw [HQ.out]; rfl, HW.out ▸ HB0.out⟩
 ·have HQ := h_ (sameP_bool (xs := xs) (ys := ys) hb)
  have eb : (b == b') = false := by simpa using hb
  have eb' : (b != b') = true := by simpa using hb
  clear hb
  go_enter Tryz.func46, Tryz.ntmps46
  go_wp2_with fail
  go_ret
  exact ⟨by rw [HQ.out]; rfl, HW.out ▸ HB0.out⟩

attribute [local go_sem] Oper.semAt_some

theorem sameP_and (b b' : Bool) (xs ys : List Cr) : sameP b b' xs ys = (b == b' && decide (xs = ys)) := by
 unfold sameP
 cases b <;> cases b' <;> simp

theorem refSameEx_any (x y : Ex) (A A' : Option Addr) (C C' : Nat) (w : World) (hl : RdX w w.heap.size A x.xs) (hm : RdX w w.heap.size A' y.xs) (hC : x.xs.length ≤ C) (hC' : y.xs.length ≤ C') (hsl : x.xs.length ≤ 800000) (hsm : y.xs.length ≤ 800000) :
  Calls Tryz.prog 19 #[.agg #[.int .u32 x.n, .int .u32 x.m, .int .u64 x.g, .int .u8 x.l, .int .u8 x.c, .bool x.b, .slice A x.xs.length C], .agg #[.int .u32 y.n, .int .u32 y.m, .int .u64 y.g, .int .u8 y.l, .int .u8 y.c, .bool y.b, .slice A' y.xs.length C']] w fun e w' => e = .returned (.bool (sameEx x y)) ∧ Below w.heap.size w w' := by
 obtain ⟨W, hW⟩ : ∃ W, W = (w.alloc (.cells #[.int .u32 x.n, .int .u32 x.m, .int .u64 x.g, .int .u8 x.l, .int .u8 x.c, .bool x.b, .slice A x.xs.length C] 46)).alloc (.cells #[.int .u32 y.n, .int .u32 y.m, .int .u64 y.g, .int .u8 y.l, .int .u8 y.c, .bool y.b, .slice A' y.xs.length C'] 46) := ⟨_, rfl⟩
 have HB0 : Hid (Below w.heap.size w W) := by rw [hW]; exact below_al (below_al bR _) _
 have HEq := h_ (refPSame_any x.b y.b A A' C C' x.xs y.xs W (by omega) (by omega) (hl.on HB0.out) (hm.on HB0.out))
 rw [sameP_and] at HEq
 have HD : Hid (sameEx x y = (((x.n : Int) == y.n && (x.m : Int) == y.m) && (((x.g : Int) == y.g) && (((x.l : Int) == y.l) && (((x.c : Int) == y.c) && (x.b == y.b && decide (x.xs = y.xs))))))) := rfl
 have HW := h_ hW
 have e1 : ∀ w, (Op.equalIn 10000 41 (.agg #[.int .u32 x.n, .int .u32 x.m]) (.agg #[.int .u32 y.n, .int .u32 y.m])).run Tryz.prog w = .ok ((x.n : Int) == y.n && (x.m : Int) == y.m) w := fun w => eqE_run _ _ _ _ w
 generalize ((x.n : Int) == y.n && (x.m : Int) == y.m) = q1 at *
 generalize (x.b == y.b && decide (x.xs = y.xs)) = q5 at *
 obtain ⟨q2, h2⟩ : ∃ q, ((x.g : Int) == y.g) = q := ⟨_, rfl⟩
 obtain ⟨q3, h3⟩ : ∃ q, ((x.l : Int) == y.l) = q := ⟨_, rfl⟩
 obtain ⟨q4, h4⟩ : ∃ q, ((x.c : Int) == y.c) = q := ⟨_, rfl⟩
 rw [h2, h3, h4] at HD
 generalize sameEx x y = r at *
 clear hW hl hm hC hC' hsl hsm
 cases q1
 ·clear HEq
  go_enter Tryz.func19, Tryz.ntmps19
  go_wp2_with fail
  rw [← HW.out]
  go_ret
  exact ⟨by rw [HD.out]; simp, HB0.out⟩
 cases q2
 ·clear HEq
  go_enter Tryz.func19, Tryz.ntmps19
  go_wp2_with fail
  rw [← HW.out]
  go_ret
  exact ⟨by rw [HD.out]; simp, HB0.out⟩
 cases q3
 ·clear HEq
  go_enter Tryz.func19, Tryz.ntmps19
  go_wp2_with fail
  rw [← HW.out]
  go_ret
  exact ⟨by rw [HD.out]; simp, HB0.out⟩
 cases q4
 ·clear HEq
  go_enter Tryz.func19, Tryz.ntmps19
  go_wp2_with fail
  rw [← HW.out]
  go_ret
  exact ⟨by rw [HD.out]; simp, HB0.out⟩
 go_enter Tryz.func19, Tryz.ntmps19
 go_wp2_with fail
 rw [← HW.out]
 refine HEq.out.mono ?_
 rintro e w1 ⟨rfl, hb⟩
 have HB1 := h_ (below_on HB0.out hb)
 clear hb
 go_wp2_with fail
 go_ret
 exact ⟨by rw [HD.out]; simp, HB1.out⟩


end Go.Proofs.YtiahakbkagipkaaGreatDoor
