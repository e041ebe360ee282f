/- Joined texts. -/
import Derived.Test.YthjgjkohogjjpaaGreatDoorZAc
import Derived.Test.YthjgjkohogjjpaaGreatDoorZKs
set_option maxHeartbeats 16000000
set_option linter.unusedSimpArgs false
set_option linter.unusedVariables false
set_option maxRecDepth 100000
namespace Go.Proofs.YthjgjkohogjjpaaGreatDoor
open Go Go.RowKit Go.Shelf

attribute [local go_sem] Oper.semAt_some

def wdL : List ByteArray := [⟨#[114, 101, 112, 111, 114, 116]⟩, ⟨#[97, 115, 107]⟩, ⟨#[116, 101, 108, 108]⟩, ⟨#[102, 111, 114, 101]⟩, ⟨#[109, 101, 109, 98, 101, 114]⟩]
def wyS (n : Int) : ByteArray := if n = 0 then ⟨#[110, 111, 110, 101]⟩ else if n = 1 then ⟨#[101, 120, 112, 105, 114, 101, 100]⟩ else if n = 2 then ⟨#[104, 111, 112, 115]⟩ else if n = 3 then ⟨#[112, 97, 116, 104]⟩ else if n = 4 then ⟨#[114, 111, 117, 116, 101]⟩ else if n = 5 then ⟨#[113, 117, 111, 116, 97]⟩ else ⟨#[]⟩

theorem dwords_any (w : World) : Calls Tryz.prog 45 #[] w fun e w' => e = .returned (.agg #[.string ⟨#[]⟩, .string ⟨#[114, 101, 112, 111, 114, 116]⟩, .string ⟨#[97, 115, 107]⟩, .string ⟨#[116, 101, 108, 108]⟩, .string ⟨#[102, 111, 114, 101]⟩, .string ⟨#[109, 101, 109, 98, 101, 114]⟩]) ∧ Below w.heap.size w w' := by
 have hR := RowB.new w [.string ⟨#[]⟩, .string ⟨#[]⟩, .string ⟨#[]⟩, .string ⟨#[]⟩, .string ⟨#[]⟩, .string ⟨#[]⟩] 89
 obtain ⟨W, hW⟩ : ∃ W, W = w.alloc (.cells #[.string ⟨#[]⟩, .string ⟨#[]⟩, .string ⟨#[]⟩, .string ⟨#[]⟩, .string ⟨#[]⟩, .string ⟨#[]⟩] 89) := ⟨_, rfl⟩
 have hb : Below w.heap.size w W := by rw [hW]; exact below_al bR _
 rw [← hW] at hR
 have HB := h_ hb
 have HR := h_ hR
 have HW := h_ hW
 clear hW hb
 go_enter Tryz.func45, Tryz.ntmps45
 go_upto_region 1 with fail
 rw [← HW.out]
 have c0 := HR.out.1 0 _ rfl
 have f0 := HR.out.2 0
 have c1 := HR.out.1 1 _ rfl
 have f1 := HR.out.2 1
 have c2 := HR.out.1 2 _ rfl
 have f2 := HR.out.2 2
 have c3 := HR.out.1 3 _ rfl
 have f3 := HR.out.2 3
 have c4 := HR.out.1 4 _ rfl
 have f4 := HR.out.2 4
 have c5 := HR.out.1 5 _ rfl
 have f5 := HR.out.2 5
 go_wp2_with fail
 change bodyPost _ _ _ _ _ (putL W w.heap.size 0 [.string ⟨#[]⟩, .string ⟨#[114, 101, 112, 111, 114, 116]⟩, .string ⟨#[97, 115, 107]⟩, .string ⟨#[116, 101, 108, 108]⟩, .string ⟨#[102, 111, 114, 101]⟩, .string ⟨#[109, 101, 109, 98, 101, 114]⟩])
 have hrow : RowB (putL W w.heap.size 0 [.string ⟨#[]⟩, .string ⟨#[114, 101, 112, 111, 114, 116]⟩, .string ⟨#[97, 115, 107]⟩, .string ⟨#[116, 101, 108, 108]⟩, .string ⟨#[102, 111, 114, 101]⟩, .string ⟨#[109, 101, 109, 98, 101, 114]⟩]) w.heap.size [.string ⟨#[]⟩, .string ⟨#[114, 101, 112, 111, 114, 116]⟩, .string ⟨#[97, 115, 107]⟩, .string ⟨#[116, 101, 108, 108]⟩, .string ⟨#[102, 111, 114, 101]⟩, .string ⟨#[109, 101, 109, 98, 101, 114]⟩] := putL_row _ _ 0 _ HR.out
 have hbk : Below w.heap.size w (putL W w.heap.size 0 [.string ⟨#[]⟩, .string ⟨#[114, 101, 112, 111, 114, 116]⟩, .string ⟨#[97, 115, 107]⟩, .string ⟨#[116, 101, 108, 108]⟩, .string ⟨#[102, 111, 114, 101]⟩, .string ⟨#[109, 101, 109, 98, 101, 114]⟩]) := putL_bel (Nat.le_refl _) _ 0 _ HB.out
 generalize putL W w.heap.size 0 [.string ⟨#[]⟩, .string ⟨#[114, 101, 112, 111, 114, 116]⟩, .string ⟨#[97, 115, 107]⟩, .string ⟨#[116, 101, 108, 108]⟩, .string ⟨#[102, 111, 114, 101]⟩, .string ⟨#[109, 101, 109, 98, 101, 114]⟩] = w30 at *
 have k0 := hrow.1 0 _ rfl
 have k1 := hrow.1 1 _ rfl
 have k2 := hrow.1 2 _ rfl
 have k3 := hrow.1 3 _ rfl
 have k4 := hrow.1 4 _ rfl
 have k5 := hrow.1 5 _ rfl
 exact bodyPost_ret (v := .agg #[.string ⟨#[]⟩, .string ⟨#[114, 101, 112, 111, 114, 116]⟩, .string ⟨#[97, 115, 107]⟩, .string ⟨#[116, 101, 108, 108]⟩, .string ⟨#[102, 111, 114, 101]⟩, .string ⟨#[109, 101, 109, 98, 101, 114]⟩]) (by simp [results, Tryz.results45, go_sem, k0, k1, k2, k3, k4, k5]) rfl ⟨rfl, hbk⟩

theorem dreasons_any (w : World) : Calls Tryz.prog 47 #[] w fun e w' => e = .returned (.agg #[.string ⟨#[110, 111, 110, 101]⟩, .string ⟨#[101, 120, 112, 105, 114, 101, 100]⟩, .string ⟨#[104, 111, 112, 115]⟩, .string ⟨#[112, 97, 116, 104]⟩, .string ⟨#[114, 111, 117, 116, 101]⟩, .string ⟨#[113, 117, 111, 116, 97]⟩]) ∧ Below w.heap.size w w' := by
 have hR := RowB.new w [.string ⟨#[]⟩, .string ⟨#[]⟩, .string ⟨#[]⟩, .string ⟨#[]⟩, .string ⟨#[]⟩, .string ⟨#[]⟩] 89
 obtain ⟨W, hW⟩ : ∃ W, W = w.alloc (.cells #[.string ⟨#[]⟩, .string ⟨#[]⟩, .string ⟨#[]⟩, .string ⟨#[]⟩, .string ⟨#[]⟩, .string ⟨#[]⟩] 89) := ⟨_, rfl⟩
 have hb : Below w.heap.size w W := by rw [hW]; exact below_al bR _
 rw [← hW] at hR
 have HB := h_ hb
 have HR := h_ hR
 have HW := h_ hW
 clear hW hb
 go_enter Tryz.func47, Tryz.ntmps47
 go_upto_region 1 with fail
 rw [← HW.out]
 have c0 := HR.out.1 0 _ rfl
 have f0 := HR.out.2 0
 have c1 := HR.out.1 1 _ rfl
 have f1 := HR.out.2 1
 have c2 := HR.out.1 2 _ rfl
 have f2 := HR.out.2 2
 have c3 := HR.out.1 3 _ rfl
 have f3 := HR.out.2 3
 have c4 := HR.out.1 4 _ rfl
 have f4 := HR.out.2 4
 have c5 := HR.out.1 5 _ rfl
 have f5 := HR.out.2 5
 go_wp2_with fail
 change bodyPost _ _ _ _ _ (putL W w.heap.size 0 [.string ⟨#[110, 111, 110, 101]⟩, .string ⟨#[101, 120, 112, 105, 114, 101, 100]⟩, .string ⟨#[104, 111, 112, 115]⟩, .string ⟨#[112, 97, 116, 104]⟩, .string ⟨#[114, 111, 117, 116, 101]⟩, .string ⟨#[113, 117, 111, 116, 97]⟩])
 have hrow : RowB (putL W w.heap.size 0 [.string ⟨#[110, 111, 110, 101]⟩, .string ⟨#[101, 120, 112, 105, 114, 101, 100]⟩, .string ⟨#[104, 111, 112, 115]⟩, .string ⟨#[112, 97, 116, 104]⟩, .string ⟨#[114, 111, 117, 116, 101]⟩, .string ⟨#[113, 117, 111, 116, 97]⟩]) w.heap.size [.string ⟨#[110, 111, 110, 101]⟩, .string ⟨#[101, 120, 112, 105, 114, 101, 100]⟩, .string ⟨#[104, 111, 112, 115]⟩, .string ⟨#[112, 97, 116, 104]⟩, .string ⟨#[114, 111, 117, 116, 101]⟩, .string ⟨#[113, 117, 111, 116, 97]⟩] := putL_row _ _ 0 _ HR.out
 have hbk : Below w.heap.size w (putL W w.heap.size 0 [.string ⟨#[110, 111, 110, 101]⟩, .string ⟨#[101, 120, 112, 105, 114, 101, 100]⟩, .string ⟨#[104, 111, 112, 115]⟩, .string ⟨#[112, 97, 116, 104]⟩, .string ⟨#[114, 111, 117, 116, 101]⟩, .string ⟨#[113, 117, 111, 116, 97]⟩]) := putL_bel (Nat.le_refl _) _ 0 _ HB.out
 generalize putL W w.heap.size 0 [.string ⟨#[110, 111, 110, 101]⟩, .string ⟨#[101, 120, 112, 105, 114, 101, 100]⟩, .string ⟨#[104, 111, 112, 115]⟩, .string ⟨#[112, 97, 116, 104]⟩, .string ⟨#[114, 111, 117, 116, 101]⟩, .string ⟨#[113, 117, 111, 116, 97]⟩] = w30 at *
 have k0 := hrow.1 0 _ rfl
 have k1 := hrow.1 1 _ rfl
 have k2 := hrow.1 2 _ rfl
 have k3 := hrow.1 3 _ rfl
 have k4 := hrow.1 4 _ rfl
 have k5 := hrow.1 5 _ rfl
 exact bodyPost_ret (v := .agg #[.string ⟨#[110, 111, 110, 101]⟩, .string ⟨#[101, 120, 112, 105, 114, 101, 100]⟩, .string ⟨#[104, 111, 112, 115]⟩, .string ⟨#[112, 97, 116, 104]⟩, .string ⟨#[114, 111, 117, 116, 101]⟩, .string ⟨#[113, 117, 111, 116, 97]⟩]) (by simp [results, Tryz.results47, go_sem, k0, k1, k2, k3, k4, k5]) rfl ⟨rfl, hbk⟩

def WhyP (w : World) (n : Int) (e : Ending) (w' : World) : Prop := e = .returned (.string (wyS n)) ∧ Below w.heap.size w w'

theorem dWhy_any (n : Int) (w : World) : Calls Tryz.prog 25 #[.int .i64 n] w (WhyP w n) := by
 have key : ∀ (n : Int) (w1 : World), Below w.heap.size w w1 → True := fun _ _ _ => trivial
 by_cases h0 : n < 0
 ·have h1 : decide (n < 0) = true := decide_eq_true h0
  have HS : Hid (wyS n = ⟨#[]⟩) := by
   rw [Hid, wyS, if_neg (by omega), if_neg (by omega), if_neg (by omega), if_neg (by omega), if_neg (by omega), if_neg (by omega)]
  clear h0 key
  go_enter Tryz.func25, Tryz.ntmps25
  go_wp2_with fail
  refine (dreasons_any _).mono ?_
  rintro e w1 ⟨rfl, hb1⟩
  have HB := h_ (below_al hb1 (.cells #[.string ⟨#[110, 111, 110, 101]⟩, .string ⟨#[101, 120, 112, 105, 114, 101, 100]⟩, .string ⟨#[104, 111, 112, 115]⟩, .string ⟨#[112, 97, 116, 104]⟩, .string ⟨#[114, 111, 117, 116, 101]⟩, .string ⟨#[113, 117, 111, 116, 97]⟩] 89))
  clear hb1
  go_wp2_with fail
  go_ret
  exact ⟨by rw [HS.out]; rfl, HB.out⟩
 by_cases h5 : 6 ≤ n
 ·have h1 : decide (n < 0) = false := decide_eq_false h0
  have h2 : decide (6 ≤ n) = true := decide_eq_true h5
  have HS : Hid (wyS n = ⟨#[]⟩) := by
   rw [Hid, wyS, if_neg (by omega), if_neg (by omega), if_neg (by omega), if_neg (by omega), if_neg (by omega), if_neg (by omega)]
  clear h0 h5 key
  go_enter Tryz.func25, Tryz.ntmps25
  go_wp2_with fail
  refine (dreasons_any _).mono ?_
  rintro e w1 ⟨rfl, hb1⟩
  have HB := h_ (below_al hb1 (.cells #[.string ⟨#[110, 111, 110, 101]⟩, .string ⟨#[101, 120, 112, 105, 114, 101, 100]⟩, .string ⟨#[104, 111, 112, 115]⟩, .string ⟨#[112, 97, 116, 104]⟩, .string ⟨#[114, 111, 117, 116, 101]⟩, .string ⟨#[113, 117, 111, 116, 97]⟩] 89))
  clear hb1
  go_wp2_with fail
  go_ret
  exact ⟨by rw [HS.out]; rfl, HB.out⟩
 rcases (show n = 0 ∨ n = 1 ∨ n = 2 ∨ n = 3 ∨ n = 4 ∨ n = 5 by omega) with rfl | rfl | rfl | rfl | rfl | rfl
 ·clear h0 h5 key
  go_enter Tryz.func25, Tryz.ntmps25
  go_wp2_with fail
  refine (dreasons_any _).mono ?_
  rintro e w1 ⟨rfl, hb1⟩
  have HB := h_ (below_al hb1 (.cells #[.string ⟨#[110, 111, 110, 101]⟩, .string ⟨#[101, 120, 112, 105, 114, 101, 100]⟩, .string ⟨#[104, 111, 112, 115]⟩, .string ⟨#[112, 97, 116, 104]⟩, .string ⟨#[114, 111, 117, 116, 101]⟩, .string ⟨#[113, 117, 111, 116, 97]⟩] 89))
  have hc := World.cell?_alloc_mark w1 #[.string ⟨#[110, 111, 110, 101]⟩, .string ⟨#[101, 120, 112, 105, 114, 101, 100]⟩, .string ⟨#[104, 111, 112, 115]⟩, .string ⟨#[112, 97, 116, 104]⟩, .string ⟨#[114, 111, 117, 116, 101]⟩, .string ⟨#[113, 117, 111, 116, 97]⟩] 89 (0, 0) 0
  clear hb1
  go_wp2_with fail
  go_ret
  exact ⟨rfl, HB.out⟩
 ·clear h0 h5 key
  go_enter Tryz.func25, Tryz.ntmps25
  go_wp2_with fail
  refine (dreasons_any _).mono ?_
  rintro e w1 ⟨rfl, hb1⟩
  have HB := h_ (below_al hb1 (.cells #[.string ⟨#[110, 111, 110, 101]⟩, .string ⟨#[101, 120, 112, 105, 114, 101, 100]⟩, .string ⟨#[104, 111, 112, 115]⟩, .string ⟨#[112, 97, 116, 104]⟩, .string ⟨#[114, 111, 117, 116, 101]⟩, .string ⟨#[113, 117, 111, 116, 97]⟩] 89))
  have hc := World.cell?_alloc_mark w1 #[.string ⟨#[110, 111, 110, 101]⟩, .string ⟨#[101, 120, 112, 105, 114, 101, 100]⟩, .string ⟨#[104, 111, 112, 115]⟩, .string ⟨#[112, 97, 116, 104]⟩, .string ⟨#[114, 111, 117, 116, 101]⟩, .string ⟨#[113, 117, 111, 116, 97]⟩] 89 (0, 0) 1
  clear hb1
  go_wp2_with fail
  go_ret
  exact ⟨rfl, HB.out⟩
 ·clear h0 h5 key
  go_enter Tryz.func25, Tryz.ntmps25
  go_wp2_with fail
  refine (dreasons_any _).mono ?_
  rintro e w1 ⟨rfl, hb1⟩
  have HB := h_ (below_al hb1 (.cells #[.string ⟨#[110, 111, 110, 101]⟩, .string ⟨#[101, 120, 112, 105, 114, 101, 100]⟩, .string ⟨#[104, 111, 112, 115]⟩, .string ⟨#[112, 97, 116, 104]⟩, .string ⟨#[114, 111, 117, 116, 101]⟩, .string ⟨#[113, 117, 111, 116, 97]⟩] 89))
  have hc := World.cell?_alloc_mark w1 #[.string ⟨#[110, 111, 110, 101]⟩, .string ⟨#[101, 120, 112, 105, 114, 101, 100]⟩, .string ⟨#[104, 111, 112, 115]⟩, .string ⟨#[112, 97, 116, 104]⟩, .string ⟨#[114, 111, 117, 116, 101]⟩, .string ⟨#[113, 117, 111, 116, 97]⟩] 89 (0, 0) 2
  clear hb1
  go_wp2_with fail
  go_ret
  exact ⟨rfl, HB.out⟩
 ·clear h0 h5 key
  go_enter Tryz.func25, Tryz.ntmps25
  go_wp2_with fail
  refine (dreasons_any _).mono ?_
  rintro e w1 ⟨rfl, hb1⟩
  have HB := h_ (below_al hb1 (.cells #[.string ⟨#[110, 111, 110, 101]⟩, .string ⟨#[101, 120, 112, 105, 114, 101, 100]⟩, .string ⟨#[104, 111, 112, 115]⟩, .string ⟨#[112, 97, 116, 104]⟩, .string ⟨#[114, 111, 117, 116, 101]⟩, .string ⟨#[113, 117, 111, 116, 97]⟩] 89))
  have hc := World.cell?_alloc_mark w1 #[.string ⟨#[110, 111, 110, 101]⟩, .string ⟨#[101, 120, 112, 105, 114, 101, 100]⟩, .string ⟨#[104, 111, 112, 115]⟩, .string ⟨#[112, 97, 116, 104]⟩, .string ⟨#[114, 111, 117, 116, 101]⟩, .string ⟨#[113, 117, 111, 116, 97]⟩] 89 (0, 0) 3
  clear hb1
  go_wp2_with fail
  go_ret
  exact ⟨rfl, HB.out⟩
 ·clear h0 h5 key
  go_enter Tryz.func25, Tryz.ntmps25
  go_wp2_with fail
  refine (dreasons_any _).mono ?_
  rintro e w1 ⟨rfl, hb1⟩
  have HB := h_ (below_al hb1 (.cells #[.string ⟨#[110, 111, 110, 101]⟩, .string ⟨#[101, 120, 112, 105, 114, 101, 100]⟩, .string ⟨#[104, 111, 112, 115]⟩, .string ⟨#[112, 97, 116, 104]⟩, .string ⟨#[114, 111, 117, 116, 101]⟩, .string ⟨#[113, 117, 111, 116, 97]⟩] 89))
  have hc := World.cell?_alloc_mark w1 #[.string ⟨#[110, 111, 110, 101]⟩, .string ⟨#[101, 120, 112, 105, 114, 101, 100]⟩, .string ⟨#[104, 111, 112, 115]⟩, .string ⟨#[112, 97, 116, 104]⟩, .string ⟨#[114, 111, 117, 116, 101]⟩, .string ⟨#[113, 117, 111, 116, 97]⟩] 89 (0, 0) 4
  clear hb1
  go_wp2_with fail
  go_ret
  exact ⟨rfl, HB.out⟩
 ·clear h0 h5 key
  go_enter Tryz.func25, Tryz.ntmps25
  go_wp2_with fail
  refine (dreasons_any _).mono ?_
  rintro e w1 ⟨rfl, hb1⟩
  have HB := h_ (below_al hb1 (.cells #[.string ⟨#[110, 111, 110, 101]⟩, .string ⟨#[101, 120, 112, 105, 114, 101, 100]⟩, .string ⟨#[104, 111, 112, 115]⟩, .string ⟨#[112, 97, 116, 104]⟩, .string ⟨#[114, 111, 117, 116, 101]⟩, .string ⟨#[113, 117, 111, 116, 97]⟩] 89))
  have hc := World.cell?_alloc_mark w1 #[.string ⟨#[110, 111, 110, 101]⟩, .string ⟨#[101, 120, 112, 105, 114, 101, 100]⟩, .string ⟨#[104, 111, 112, 115]⟩, .string ⟨#[112, 97, 116, 104]⟩, .string ⟨#[114, 111, 117, 116, 101]⟩, .string ⟨#[113, 117, 111, 116, 97]⟩] 89 (0, 0) 5
  clear hb1
  go_wp2_with fail
  go_ret
  exact ⟨rfl, HB.out⟩

theorem rWhy_any (n : Int) (w : World) : Calls Tryz.prog 26 #[.int .i64 n] w (WhyP w n) := by
 by_cases h0 : n < 0
 ·have h1 : decide (n < 0) = true := decide_eq_true h0
  have HS : Hid (wyS n = ⟨#[]⟩) := by
   rw [Hid, wyS, if_neg (by omega), if_neg (by omega), if_neg (by omega), if_neg (by omega), if_neg (by omega), if_neg (by omega)]
  clear h0
  go_enter Tryz.func26, Tryz.ntmps26
  go_wp2_with fail
  go_ret
  exact ⟨by rw [HS.out]; rfl, Below.refl _ _⟩
 by_cases h5 : 5 < n
 ·have h1 : decide (n < 0) = false := decide_eq_false h0
  have h2 : decide (5 < n) = true := decide_eq_true h5
  have HS : Hid (wyS n = ⟨#[]⟩) := by
   rw [Hid, wyS, if_neg (by omega), if_neg (by omega), if_neg (by omega), if_neg (by omega), if_neg (by omega), if_neg (by omega)]
  clear h0 h5
  go_enter Tryz.func26, Tryz.ntmps26
  go_wp2_with fail
  go_ret
  exact ⟨by rw [HS.out]; rfl, Below.refl _ _⟩
 rcases (show n = 0 ∨ n = 1 ∨ n = 2 ∨ n = 3 ∨ n = 4 ∨ n = 5 by omega) with rfl | rfl | rfl | rfl | rfl | rfl
 ·clear h0 h5
  have hc := World.cell?_alloc_mark w #[.string ⟨#[110, 111, 110, 101]⟩, .string ⟨#[101, 120, 112, 105, 114, 101, 100]⟩, .string ⟨#[104, 111, 112, 115]⟩, .string ⟨#[112, 97, 116, 104]⟩, .string ⟨#[114, 111, 117, 116, 101]⟩, .string ⟨#[113, 117, 111, 116, 97]⟩] 9 (0, 0) 0
  go_enter Tryz.func26, Tryz.ntmps26
  go_wp2_with fail
  go_ret
  exact ⟨rfl, below_al bR _⟩
 ·clear h0 h5
  have hc := World.cell?_alloc_mark w #[.string ⟨#[110, 111, 110, 101]⟩, .string ⟨#[101, 120, 112, 105, 114, 101, 100]⟩, .string ⟨#[104, 111, 112, 115]⟩, .string ⟨#[112, 97, 116, 104]⟩, .string ⟨#[114, 111, 117, 116, 101]⟩, .string ⟨#[113, 117, 111, 116, 97]⟩] 9 (0, 0) 1
  go_enter Tryz.func26, Tryz.ntmps26
  go_wp2_with fail
  go_ret
  exact ⟨rfl, below_al bR _⟩
 ·clear h0 h5
  have hc := World.cell?_alloc_mark w #[.string ⟨#[110, 111, 110, 101]⟩, .string ⟨#[101, 120, 112, 105, 114, 101, 100]⟩, .string ⟨#[104, 111, 112, 115]⟩, .string ⟨#[112, 97, 116, 104]⟩, .string ⟨#[114, 111, 117, 116, 101]⟩, .string ⟨#[113, 117, 111, 116, 97]⟩] 9 (0, 0) 2
  go_enter Tryz.func26, Tryz.ntmps26
  go_wp2_with fail
  go_ret
  exact ⟨rfl, below_al bR _⟩
 ·clear h0 h5
  have hc := World.cell?_alloc_mark w #[.string ⟨#[110, 111, 110, 101]⟩, .string ⟨#[101, 120, 112, 105, 114, 101, 100]⟩, .string ⟨#[104, 111, 112, 115]⟩, .string ⟨#[112, 97, 116, 104]⟩, .string ⟨#[114, 111, 117, 116, 101]⟩, .string ⟨#[113, 117, 111, 116, 97]⟩] 9 (0, 0) 3
  go_enter Tryz.func26, Tryz.ntmps26
  go_wp2_with fail
  go_ret
  exact ⟨rfl, below_al bR _⟩
 ·clear h0 h5
  have hc := World.cell?_alloc_mark w #[.string ⟨#[110, 111, 110, 101]⟩, .string ⟨#[101, 120, 112, 105, 114, 101, 100]⟩, .string ⟨#[104, 111, 112, 115]⟩, .string ⟨#[112, 97, 116, 104]⟩, .string ⟨#[114, 111, 117, 116, 101]⟩, .string ⟨#[113, 117, 111, 116, 97]⟩] 9 (0, 0) 4
  go_enter Tryz.func26, Tryz.ntmps26
  go_wp2_with fail
  go_ret
  exact ⟨rfl, below_al bR _⟩
 ·clear h0 h5
  have hc := World.cell?_alloc_mark w #[.string ⟨#[110, 111, 110, 101]⟩, .string ⟨#[101, 120, 112, 105, 114, 101, 100]⟩, .string ⟨#[104, 111, 112, 115]⟩, .string ⟨#[112, 97, 116, 104]⟩, .string ⟨#[114, 111, 117, 116, 101]⟩, .string ⟨#[113, 117, 111, 116, 97]⟩] 9 (0, 0) 5
  go_enter Tryz.func26, Tryz.ntmps26
  go_wp2_with fail
  go_ret
  exact ⟨rfl, below_al bR _⟩

theorem rWords_any (w : World) : Calls Tryz.prog 23 #[] w fun e w' => e = .returned (.slice (some ⟨w.heap.size, 0, none⟩) 5 5) ∧ w' = w.alloc (.cells #[.string ⟨#[114, 101, 112, 111, 114, 116]⟩, .string ⟨#[97, 115, 107]⟩, .string ⟨#[116, 101, 108, 108]⟩, .string ⟨#[102, 111, 114, 101]⟩, .string ⟨#[109, 101, 109, 98, 101, 114]⟩] 9) := by
 go_enter Tryz.func23, Tryz.ntmps23
 go_wp2_with fail
 go_ret
 exact ⟨rfl, rfl⟩

theorem dKinds_any (w : World) : Calls Tryz.prog 24 #[] w fun e w' => e = .returned (.func (.func 44) #[] #[]) ∧ w = w' := by
 go_enter Tryz.func24, Tryz.ntmps24
 go_wp2_with fail
 go_ret
 exact ⟨rfl, rfl⟩

theorem allS_any (a : Option Addr) (n c : Nat) (w : World) :
  Calls Tryz.prog 46 #[.slice a n c] w fun e w' => e = .returned (.func (.func 66) #[] #[.pointer (some ⟨w.heap.size, 0, none⟩)]) ∧ w' = w.alloc (.cells #[.slice a n c] 58) := by
 have hmf : ∀ (fn : Fn) (first cap : Array Value) (w : World), (Instr.makeFunc fn first cap).run Tryz.prog w = .ok (.func fn first cap) w := fun _ _ _ _ => rfl
 go_enter Tryz.func46, Tryz.ntmps46
 go_wp2
 go_ret
 exact ⟨rfl, rfl⟩

def RdS (w : World) (B : Nat) (a : Option Addr) (l : List ByteArray) : Prop := l = [] ∨ ∃ b o, a = some ⟨b, o, none⟩ ∧ b < B ∧ ∀ j, j < l.length → w.cell? ⟨b, o + j, none⟩ = some (.string (l[j]?.getD ⟨#[]⟩))
def sAt (l : List ByteArray) (k : Nat) : ByteArray := l[k]?.getD ⟨#[]⟩

theorem allS_goes (Bs : Nat) (S : Nat → Prop) (A : Option Addr) (C : Nat) (l : List ByteArray) (w : World) (hlen : l.length ≤ 140737488355328) (hBs : Bs < w.heap.size) (hS : ∀ p, A = some p → S p.block) (hSw : ∀ b, S b → b < w.heap.size)
  (hc : w.cell? ⟨Bs, 0, none⟩ = some (.slice A l.length C)) (hr : RdS w w.heap.size A l) :
  GoesO Tryz.prog 66 #[.pointer (some ⟨Bs, 0, none⟩)] (fun k => #[.int .i64 (k : Nat), .string (sAt l k)]) S l.length w := by
 intro L J Jx W hW hJ hJx hY h0
 have hcW := (hW.cell (p := ⟨Bs, 0, none⟩) hBs).trans hc
 have hWS := hW.size
 have HR : Hid (RdS W W.heap.size A l) := by
  rcases hr with h | ⟨b, o, e, hlt, hc⟩
  ·exact .inl h
  ·exact .inr ⟨b, o, e, Nat.lt_of_lt_of_le hlt hW.size, fun j hj => (hW.cell (p := ⟨b, o + j, none⟩) hlt).trans (hc j hj)⟩
 clear hc hr hW
 refine (callsIn_wide (n := 10)).1 (callsIn_of_wp Tryz.func66 rfl trivial ?_ rfl)
 simp only [Tryz.ntmps66, List.size_toArray, List.length_cons, List.length_nil, Nat.reduceAdd, Nat.reduceSub, Array.replicate_succ, Array.replicate_zero, List.push_toArray, List.append_toArray, List.nil_append, List.cons_append]
 gi_wp2
 gi_loopw [7] (fun i wr => ∃ k : Nat, k ≤ l.length ∧ i = .int .i64 k ∧ J k wr ∧ KeepB S W wr ∧ W.heap.size ≤ wr.heap.size) (fun i _ => l.length - (intOf i).toNat)
 case atStart => exact ⟨0, Nat.zero_le _, rfl, h0, KeepB.refl _ _, Nat.le_refl _⟩
 case round =>
  obtain ⟨k, hk, rfl, hJs, hnx, hsz⟩ := hrel
  by_cases hlt : k < l.length
  ·obtain ⟨g, o, rfl, hg, c0⟩ : ∃ g o, A = some ⟨g, o, none⟩ ∧ g < W.heap.size ∧ W.cell? ⟨g, o + k, none⟩ = some (.string (sAt l k)) := by
     rcases HR.out with h | ⟨b, o, e, hb, hc⟩
     ·rw [h] at hlt
      simp at hlt
     ·exact ⟨b, o, e, hb, hc k hlt⟩
   have hblk := hnx g (hS _ rfl)
   have x0 := (World.cell?_of_block (a := ⟨g, o + k, none⟩) hblk).trans c0
   obtain ⟨fn, tmps, assign, body, hy, hR⟩ := hY k wr hlt hJs hsz
   have HBK := h_ hnx
   have HSZ := h_ hsz
   clear c0 hblk hnx
   gi_wp2
   refine hR.mono ?_
   rintro e W3 (⟨rfl, hJ3, hz3, hk3⟩ | ⟨rfl, hJx3, _, _⟩)
   ·have HBK3 : Hid (KeepB S W W3) := fun b hb => (hk3 b (.inl hb)).trans (HBK.out b hb)
    have HSZ3 : Hid (W.heap.size ≤ W3.heap.size) := Nat.le_trans HSZ.out hz3
    clear hk3 hz3
    gi_wp2
    go_roundw
    case rel => exact ⟨k + 1, by omega, by simp, hJ3, HBK3.out, HSZ3.out⟩
    case measure => simp [intOf]; omega
   ·gi_wp2
    refine bodyPost_ret (results_none rfl _ _ _) rfl ?_
    exact ⟨⟨_, rfl⟩, .inr ⟨k, hlt, hJx3⟩⟩
  ·obtain rfl : k = l.length := by omega
   gi_wp2
   go_end0
   exact ⟨⟨_, rfl⟩, .inl hJs⟩

theorem ownFrom_up3 {β : Type} {B B' : Nat} {I : β → World → Prop} (h : OwnFrom B I) (hB : B ≤ B') : OwnFrom B' I := fun s W W' row hs hg hr => h s W W' row hs hg (fun r e => ⟨Nat.le_trans hB (hr r e).1, (hr r e).2⟩)

theorem kinds1_goes (w : World) : GoesO Tryz.prog 44 #[] (fun k => #[.int .i64 (1 + (k : Nat) : Int), .string (sAt wdL k)]) (fun _ => False) 5 w := by
 intro L J Jx W hW hJ hJx hY h0
 clear hW
 refine calls_of_marks Tryz.func44 rfl ?_
 simp only [Tryz.ntmps44, List.size_toArray, List.length_cons, List.length_nil, Nat.reduceAdd, Nat.reduceSub, Array.replicate_succ, Array.replicate_zero, List.push_toArray, List.append_toArray, List.nil_append, List.cons_append]
 go_wp2_with fail
 go_step3
 go_wp2_with fail
 refine (dwords_any _).mono ?_
 rintro e w1 ⟨rfl, hb1⟩
 have b0 : Boxed w1 W.heap.size 88 (.func (.yield L) #[] #[]) := (hb1.block W.heap.size (by simp)).trans (Boxed.new W _ _)
 have J1 : J 0 w1 := hJ 0 _ w1 none (hJ.alloc _ h0) ⟨hb1.os, hb1.tape, hb1.output, hb1.size, fun k hk _ => hb1.block k hk⟩ (fun r e => by cases e)
 have hs1 : W.heap.size + 1 ≤ w1.heap.size := by have := hb1.size; simpa using this
 obtain ⟨G, hG⟩ : ∃ G, G = w1.heap.size := ⟨_, rfl⟩
 have HG := h_ hG
 obtain ⟨w2, hw2⟩ : ∃ w2, w2 = w1.alloc (.cells #[.string ⟨#[]⟩, .string ⟨#[114, 101, 112, 111, 114, 116]⟩, .string ⟨#[97, 115, 107]⟩, .string ⟨#[116, 101, 108, 108]⟩, .string ⟨#[102, 111, 114, 101]⟩, .string ⟨#[109, 101, 109, 98, 101, 114]⟩] 89) := ⟨_, rfl⟩
 have HW2 := h_ hw2
 have hz2 : w2.heap.size = G + 1 := by rw [hw2, hG]; simp
 have HZ2 := h_ hz2
 obtain ⟨W2, hWW⟩ : ∃ W2, W2 = w2.alloc (.cells #[.slice (some ⟨G, 1, none⟩) 5 5] 58) := ⟨_, rfl⟩
 have HWW := h_ hWW
 have hs2 : W2.heap.size = G + 2 := by rw [hWW]; simp [hz2]
 have b1 : Boxed W2 W.heap.size 88 (.func (.yield L) #[] #[]) := by
  rw [hWW, hw2]
  exact (b0.alloc _).alloc _
 have J0 : J 0 W2 := by rw [hWW, hw2]; exact hJ.alloc _ (hJ.alloc _ J1)
 have b2 : W2.cell? ⟨G + 1, 0, none⟩ = some (.slice (some ⟨G, 1, none⟩) 5 5) := by
  have h := (Boxed.new w2 58 (.slice (some ⟨G, 1, none⟩) 5 5)).cell
  rw [hz2] at h
  rw [hWW]
  exact h
 have b3 : RdS W2 W2.heap.size (some ⟨G, 1, none⟩) wdL := .inr ⟨G, 1, rfl, by omega, fun j hj => by
  have hj5 : j < 5 := hj
  have h : W2.cell? ⟨G, 1 + j, none⟩ = (#[.string ⟨#[]⟩, .string ⟨#[114, 101, 112, 111, 114, 116]⟩, .string ⟨#[97, 115, 107]⟩, .string ⟨#[116, 101, 108, 108]⟩, .string ⟨#[102, 111, 114, 101]⟩, .string ⟨#[109, 101, 109, 98, 101, 114]⟩] : Array Value)[1 + j]? := by
   rw [hWW, hw2, hG]
   exact (Below.cell (below_al bR _) (p := ⟨w1.heap.size, 1 + j, none⟩) (by simp)).trans (World.cell?_alloc_mark _ _ _ _ _)
  rw [h]
  match j, hj5 with
  | 0, _ => rfl
  | 1, _ => rfl
  | 2, _ => rfl
  | 3, _ => rfl
  | 4, _ => rfl⟩
 have hsG : W.heap.size + 1 ≤ G := by omega
 clear hG hw2 hWW hb1 b0 J1 hs1
 go_wp2_with fail
 rw [← HG.out]
 rw [← HW2.out]
 go_wp2_with fail
 go_step3
 go_wp2_with fail
 refine (allS_any _ _ _ _).mono ?_
 rintro e w9 ⟨rfl, rfl⟩
 rw [← HWW.out, HZ2.out]
 go_wp2_with fail
 have hIO : OwnFrom W2.heap.size (fun (k : Nat) X => J k X ∧ Boxed X W.heap.size 88 (.func (.yield L) #[] #[]) ∧ W2.heap.size ≤ X.heap.size) :=
  OwnFrom.and (ownFrom_up3 (B := W.heap.size) (B' := W2.heap.size) hJ (by omega)) (OwnFrom.and ((boxed_own _ _ _).from _) (fun k X Y row hs hg hr => Nat.le_trans hs hg.size))
 have hJO : OwnFrom W2.heap.size J := ownFrom_up3 (B := W.heap.size) hJ (by omega)
 have hJxO : OwnFrom W2.heap.size Jx := ownFrom_up3 (B := W.heap.size) hJx (by omega)
 clear hz2
 refine wp_rangeGoesO_plain (gf := 66) (lb := #[.pointer (some ⟨G + 1, 0, none⟩)]) rfl (enters_of Tryz.func66 (by kernel_rfl) rfl)
  (allS_goes (G + 1) (fun b => b = G) (some ⟨G, 1, none⟩) 5 wdL W2 (by decide) (by omega) (fun p e => by injection e with e; rw [← e]) (fun b hb => by omega) b2 b3) (fun b hb => by omega) (fun _ => rfl)
  (fun k X => J k X ∧ Boxed X W.heap.size 88 (.func (.yield L) #[] #[]) ∧ W2.heap.size ≤ X.heap.size)
  (fun c k X => c = .exit 0 ∧ Jx k X)
  hIO (fun c => OwnFrom.and (ownFrom_pure _ (fun _ => c = .exit 0)) hJxO) ⟨J0, b1, Nat.le_refl _⟩
  (fun k => { tmps := #[.func (.yield L) #[] #[], .pointer (some ⟨W.heap.size, 0, none⟩), .pointer (some ⟨G, 0, none⟩), .int .i64 (k : Nat), .string (sAt wdL k), .agg #[.string ⟨#[]⟩, .string ⟨#[114, 101, 112, 111, 114, 116]⟩, .string ⟨#[97, 115, 107]⟩, .string ⟨#[116, 101, 108, 108]⟩, .string ⟨#[102, 111, 114, 101]⟩, .string ⟨#[109, 101, 109, 98, 101, 114]⟩], .slice (some ⟨G, 1, none⟩) 5 5, .func (.func 66) #[] #[.pointer (some ⟨G + 1, 0, none⟩)], .int .i64 (k : Nat), .string (sAt wdL k), undef, undef, undef, undef, undef, undef], defers := [] }) ?assign ?body ?done ?stop
 case assign =>
  intro ll k X K hK
  gi_wp2
  exact hK
 case body =>
  rintro ll k X hk hl _ ⟨hJk, hbx, hsz⟩
  have hk5 : k < 5 := hk
  have HBx := h_ hbx
  have hyc := hbx.cell
  obtain ⟨fn, tmps, assign, body, hy, hR⟩ := hY k X hk5 hJk (by omega)
  clear hJk hbx
  gi_wp2
  refine (roundIn_any hR).mono ?_
  rintro e X3 (⟨rfl, hJ3, hz3, hk3⟩ | ⟨rfl, hJx3, hz3, hk3⟩)
  ·have HK3 := h_ hk3
   have hbx3 : Boxed X3 W.heap.size 88 (.func (.yield L) #[] #[]) := (hk3 W.heap.size (.inr ⟨Nat.le_refl _, by omega⟩)).trans HBx.out
   have HB3 := h_ hbx3
   clear hk3 hbx3 hyc
   gi_wp2
   refine ⟨⟨hz3, fun i o' hi ho _ => ?_⟩, fun b hb => ?_, hJ3, HB3.out, by omega⟩
   ·exact (HK3.out i (.inr ⟨by omega, (Array.getElem?_eq_some_iff.1 ho).1⟩)).trans ho
   ·rcases hb with hb | hb
    ·exact HK3.out b (.inr ⟨by omega, by omega⟩)
    ·exact HK3.out b (.inr ⟨by omega, hb.2⟩)
  ·have HK3 := h_ hk3
   clear hk3 hyc
   gi_wp2
   refine ⟨⟨⟨hz3, fun i o' hi ho _ => (HK3.out i (.inr ⟨by omega, (Array.getElem?_eq_some_iff.1 ho).1⟩)).trans ho⟩, fun b hb => ?_⟩, rfl, hJx3⟩
   rcases hb with hb | hb
   ·exact HK3.out b (.inr ⟨by omega, by omega⟩)
   ·exact HK3.out b (.inr ⟨by omega, hb.2⟩)
 case done =>
  rintro D X hD ⟨hJk, hbx, hsz⟩ hK
  have HJk := h_ hJk
  clear hJk hbx
  go_wp2
  refine marks_one hK (results_none rfl _ _ _) ?_
  exact ⟨⟨_, rfl⟩, .inl (hJO.putObj _ HJk.out (by omega) hK rfl)⟩
 case stop =>
  rintro D c k X hD hk ⟨rfl, hJx3⟩ hK
  have HJx := h_ hJx3
  clear hJx3
  go_wp2
  refine marks_one hK (results_none rfl _ _ _) ?_
  exact ⟨⟨_, rfl⟩, .inr ⟨_, hk, hJxO.putObj _ HJx.out (by omega) hK rfl⟩⟩

attribute [local go_sem] Oper.semAt_some

theorem notF {B nb : Nat} {X : World} (h2 : nb < B) : ¬ SinceB (fun _ => False) (B + 2) X nb := fun h => h.elim id (fun h => by have := h.1; omega)
theorem boxed_bel {w w' : World} {b B : Nat} {t : TypeId} {v : Value} (h : Boxed w b t v) (hb : Below B w w') (hlt : b < B) : Boxed w' b t v := (hb.block b hlt).trans h

def TurnW (w3 : World) (tb ab : Nat) (t : Int) (D : World → Prop) (k : Nat) (X : World) : Prop :=
 Boxed X ab 3 (.int .i64 k) ∧ Boxed X tb 3 (.int .i64 t) ∧ Below w3.heap.size w3 X ∧ D X
theorem turnW_own {w3 : World} {tb ab : Nat} {t : Int} {D : World → Prop} {B : Nat} (hB : w3.heap.size ≤ B) (hD : OwnFrom B (fun (_ : Unit) X => D X)) : OwnFrom B (TurnW w3 tb ab t D) := fun m X Y row hs hg hr => by
 obtain ⟨h2, h3, h4, h5⟩ := hs
 have ob : ∀ (b : Nat) (v : Value), Boxed X b 3 v → Boxed Y b 3 v := fun b v h => ((boxed_own (β := Unit) b 3 (fun _ => v)).from B) () X Y row h hg hr
 exact ⟨ob _ _ h2, ob _ _ h3, (ownFrom_below (β := Unit) (n₀ := w3.heap.size) (B := B) (w₀ := w3) (Nat.le_refl _) hB) () X Y row h4 hg hr, hD () X Y row h5 hg hr⟩
theorem minmax_eq (many : Int) (m : Nat) (h1 : 1 ≤ m) (h5 : m ≤ 5) (ha : many ≤ m ∨ m = 5) (hb : m = 1 ∨ ¬ many ≤ (m : Int) - 1) : (if 5 < (if 1 < many then many else 1) then (5 : Int) else (if 1 < many then many else 1)) = m := by
 split <;> split <;> omega

theorem walk_awords (n many : Int) (w : World) (ht : TabW w) : Calls Tryz.prog 7 #[.int .i64 n, .int .i64 many] w fun e w' => e = .returned (.bool true) ∧ Below w.heap.size w w' := by
 obtain ⟨W0, hW0⟩ : ∃ W0, W0 = (w.alloc (.cells #[.int .i64 many] 3)).alloc (.cells #[.bool false] 4) := ⟨_, rfl⟩
 have hsW : W0.heap.size = w.heap.size + 2 := by rw [hW0]; simp
 have HB0 : Hid (Below w.heap.size w W0) := by rw [hW0]; exact below_al (below_al bR _) _
 have bM : Boxed W0 w.heap.size 3 (.int .i64 many) := by rw [hW0]; exact (Boxed.new w _ _).alloc _
 have bRes : Boxed W0 (w.heap.size + 1) 4 (.bool false) := by
  rw [hW0]
  have h := Boxed.new (w.alloc (.cells #[.int .i64 many] 3)) 4 (.bool false)
  simpa using h
 obtain ⟨w3, hw3⟩ : ∃ w3, w3 = (W0.alloc (.cells #[.string ⟨#[114, 101, 112, 111, 114, 116]⟩, .string ⟨#[97, 115, 107]⟩, .string ⟨#[116, 101, 108, 108]⟩, .string ⟨#[102, 111, 114, 101]⟩, .string ⟨#[109, 101, 109, 98, 101, 114]⟩] 9)).alloc (.cells #[.slice (some ⟨W0.heap.size, 0, none⟩) 5 5] 58) := ⟨_, rfl⟩
 have hb3 : Below W0.heap.size W0 w3 := by rw [hw3]; exact below_al (below_al bR _) _
 have hs3 : w3.heap.size = W0.heap.size + 2 := by rw [hw3]; simp
 have HX : Hid (∀ w', Below w3.heap.size w3 w' → w'.cell? ⟨w.heap.size, 0, none⟩ = some (.int .i64 many) ∧ w'.cell? ⟨W0.heap.size + 1, 0, none⟩ = some (.slice (some ⟨W0.heap.size, 0, none⟩) 5 5) ∧ (∀ j, j < 5 → w'.cell? ⟨W0.heap.size, j, none⟩ = some (.string (sAt wdL j))) ∧ Boxed w' (w.heap.size + 1) 4 (.bool false)) := fun w' h => by
  have h0 := below_on hb3 h
  refine ⟨(boxed_bel bM h0 (by omega)).cell, ?_, fun j hj => ?_, boxed_bel bRes h0 (by omega)⟩
  ·have q := (Boxed.new (W0.alloc (.cells #[.string ⟨#[114, 101, 112, 111, 114, 116]⟩, .string ⟨#[97, 115, 107]⟩, .string ⟨#[116, 101, 108, 108]⟩, .string ⟨#[102, 111, 114, 101]⟩, .string ⟨#[109, 101, 109, 98, 101, 114]⟩] 9)) 58 (.slice (some ⟨W0.heap.size, 0, none⟩) 5 5)).cell
   rw [World.size_alloc] at q
   refine (h.cell (p := ⟨W0.heap.size + 1, 0, none⟩) (by show W0.heap.size + 1 < w3.heap.size; omega)).trans ?_
   rw [hw3]
   exact q
  ·refine (h.cell (p := ⟨W0.heap.size, j, none⟩) (by show W0.heap.size < w3.heap.size; omega)).trans ?_
   rw [hw3]
   refine ((below_al bR _).cell (p := ⟨W0.heap.size, j, none⟩) (by simp)).trans ((World.cell?_alloc_mark _ _ _ _ _).trans ?_)
   match j, hj with
   | 0, _ => rfl
   | 1, _ => rfl
   | 2, _ => rfl
   | 3, _ => rfl
   | 4, _ => rfl
 have HT : Hid (∀ w', Below w3.heap.size w3 w' → TabW w') := fun w' h => ht.on (below_on HB0.out (below_on hb3 h))
 have B3 : Hid (Below w.heap.size w w3) := below_on HB0.out hb3
 have hz3 : w.heap.size + 4 = w3.heap.size := by omega
 have HZ3 := h_ hz3
 have HZ0 := h_ hsW
 have HW0 := h_ hW0
 have HW3 := h_ hw3
 have hg0 : w.heap.size + 2 ≤ W0.heap.size := by omega
 have hg3 : W0.heap.size + 2 ≤ w3.heap.size := by omega
 clear bM bRes hW0 ht hw3 hb3 hs3 hsW hz3
 have hnil : ∀ (w : World), (binOp .eql 61 (.func (.func 44) #[] #[]) .nilFunc).run Tryz.prog w = .ok (.bool false) w := fun w => eql_func_nil w _ _ _ _ _ _ _ Tryz.underlying61
 refine calls_of_marks Tryz.func7 rfl ?_
 simp only [Tryz.ntmps7, List.size_toArray, List.length_cons, List.length_nil, Nat.reduceAdd, Nat.reduceSub, Array.replicate_succ, Array.replicate_zero, List.push_toArray, List.append_toArray, List.nil_append, List.cons_append]
 go_wp2_with fail
 rw [← HW0.out]
 refine (rWords_any _).mono ?_
 rintro e w9 ⟨rfl, rfl⟩
 go_wp2_with fail
 rw [← HW3.out]
 refine (dKinds_any _).mono ?_
 rintro e w9 ⟨rfl, h9⟩
 rw [← h9]
 clear h9 w9
 have HbT0 : Hid (Boxed (w3.alloc (.cells #[.int .i64 0] 3)) w3.heap.size 3 (.int .i64 0)) := Boxed.new w3 _ _
 obtain ⟨W7, hW7⟩ : ∃ W, W = w3.alloc (.cells #[.int .i64 0] 3) := ⟨_, rfl⟩
 have BT0 : Hid (Below w3.heap.size w3 W7) := by rw [hW7]; exact below_al bR _
 have hs7 : W7.heap.size ≤ w3.heap.size + 1 ∧ w3.heap.size + 1 ≤ W7.heap.size := by rw [hW7]; simp
 rw [← hW7] at HbT0
 have HW7 := h_ hW7
 clear hW7
 go_wp2_with fail
 rw [← HW7.out]
 have hsz3 : W0.heap.size + 1 + 1 = w3.heap.size := by have := HZ3.out; have := HZ0.out; omega
 try rw [hsz3]
 clear hsz3
 refine wp_loop_rounds 3 ?_
 rw [rounds_succ]
 have t0c := (HbT0.out).cell
 go_wp2_with fail
 have b0a : Boxed (W7.alloc (.cells #[.int .i64 0] 3)) W7.heap.size 3 (.int .i64 ((0 : Nat) : Int)) := Boxed.new W7 _ _
 have b0t : Boxed (W7.alloc (.cells #[.int .i64 0] 3)) w3.heap.size 3 (.int .i64 0) := (HbT0.out).alloc _
 have b0w : Below w3.heap.size w3 (W7.alloc (.cells #[.int .i64 0] 3)) := below_al BT0.out _
 obtain ⟨X0, hX0⟩ : ∃ X, X = W7.alloc (.cells #[.int .i64 0] 3) := ⟨_, rfl⟩
 have hs0 : X0.heap.size ≤ W7.heap.size + 1 ∧ W7.heap.size + 1 ≤ X0.heap.size := by rw [hX0]; simp
 rw [← hX0] at b0a b0t b0w ⊢
 have hD0 : (fun _ => True) X0 := trivial
 have HI0 : Hid ((TurnW w3 w3.heap.size W7.heap.size 0 (fun _ => True)) 0 X0) := ⟨b0a, b0t, b0w, hD0⟩
 have hq0 : w3.heap.size ≤ W7.heap.size := BT0.out.size
 have HO0 := turnW_own (tb := w3.heap.size) (ab := W7.heap.size) (t := 0) (D := (fun _ => True)) (B := X0.heap.size) (w3 := w3) (by omega) (fun _ _ _ _ h _ _ => h)
 clear b0a b0t hD0 t0c hX0 b0w
 refine wp_rangeGoesO_brk2 (gf := 44) (lb := #[]) 9 10 (fun k => .int .i64 (1 + (k : Nat) : Int)) (fun k => .string (sAt wdL k)) rfl (enters_of Tryz.func44 (by kernel_rfl) rfl)
  (kinds1_goes X0) (fun b hb => hb.elim)
  (fun k X => (TurnW w3 w3.heap.size W7.heap.size 0 (fun _ => True)) k X ∧ (k = 0 ∨ ¬ many ≤ (k : Int))) (fun X => ∃ m : Nat, (TurnW w3 w3.heap.size W7.heap.size 0 (fun _ => True)) m X ∧ (1 ≤ m ∧ m ≤ 5) ∧ (many ≤ (m : Int) ∨ m = 5) ∧ (m = 1 ∨ ¬ many ≤ (m : Int) - 1)) 2
  (OwnFrom.and HO0 (ownFrom_pure _ (fun k : Nat => k = 0 ∨ ¬ many ≤ (k : Int)))) (fun _ X Y row hs hg hr => by obtain ⟨m, h, h2⟩ := hs; exact ⟨m, HO0 m X Y row h hg hr, h2⟩) ⟨HI0.out, .inl rfl⟩ ?assign0 ?body0 (fun X h => ⟨5, h.1, ⟨by omega, by omega⟩, .inr rfl, .inr (by have := h.2; omega)⟩) (fun a X h => wp_exit (by simpa only [Exit.inBlock, if_true, ite_true, beq_self_eq_true] using h)) ?after0
 case assign0 =>
  intro l' k Xq K hK
  simp only [zA, zC, zB] at hK ⊢
  have HK := h_ hK
  clear hK
  gi_wp2
  exact HK.out
 case body0 =>
  rintro lo k X hk hlo _ ⟨⟨hab, htb, hbw, hD⟩, hkm⟩
  have hk5 : k < 5 := hk
  simp only [zA, zC, zB]
  obtain ⟨x0, x1, x2, _⟩ := HX.out X hbw
  have x3 := x2 k hk5
  have a0 := hab.cell
  have af := hab.frozen
  have t0 := htb.cell
  have d1 : decide (5 ≤ (k : Int)) = false := decide_eq_false (by omega)
  have d2 : ((1 + (k : Int)) != ((k : Int) + 1)) = false := by simp; omega
  have d3 : ((k : Int) + 1).toNat = k + 1 := by omega
  generalize hsv : sAt wdL k = sv at *
  have d4 : (sv != sv) = false := by rw [bne, (MapKept.bytes_beq sv sv).2 rfl]; rfl
  have HSV := h_ hsv
  have FIN : Hid (KeepsFrom X0.heap.size X (X.setCell ⟨W7.heap.size, 0, none⟩ (.int .i64 ((k : Int) + 1))) ∧
    KeepB (SinceB (fun _ => False) (X0.heap.size + 2) X) X (X.setCell ⟨W7.heap.size, 0, none⟩ (.int .i64 ((k : Int) + 1))) ∧
    (TurnW w3 w3.heap.size W7.heap.size 0 (fun _ => True)) (k + 1) (X.setCell ⟨W7.heap.size, 0, none⟩ (.int .i64 ((k : Int) + 1)))) := by
   refine ⟨(KeepsOthers.setCell _ _ _).from _, KeepB.setCell (fun _ _ => rfl) (p := ⟨W7.heap.size, 0, none⟩) (notF (nb := W7.heap.size) (by omega)) _, ?_, htb.other (by omega) _, hbw.setCell (p := ⟨W7.heap.size, 0, none⟩) (show w3.heap.size ≤ W7.heap.size by omega) _, trivial⟩
   have h := hab.set (.int .i64 ((k : Int) + 1))
   simpa using h
  have HKM := h_ hkm
  clear hab htb hbw hD hkm x2 hsv
  by_cases hmany : many ≤ (k : Int) + 1
  ·have HM := h_ hmany
   gi_wp2
   exact ⟨⟨FIN.out.1, FIN.out.2.1⟩, rfl, k + 1, FIN.out.2.2, ⟨by omega, by omega⟩, .inl (by have := HM.out; omega), by have := HKM.out; omega⟩
  ·have HM := h_ hmany
   gi_wp2
   exact ⟨FIN.out.1, FIN.out.2.1, FIN.out.2.2, .inr (by have := HM.out; omega)⟩
 case after0 =>
  rintro D1 Xd hDD ⟨m, ⟨hab, htb, hbw, _⟩, hm, hma, hmb⟩ hK
  obtain ⟨x0, x1, _, _⟩ := HX.out Xd hbw
  have t0 := htb.cell
  have a0 := hab.cell
  have hmm := minmax_eq many m hm.1 hm.2 hma hmb
  have HbT1 : Hid (Boxed (Xd.alloc (.cells #[.int .i64 1] 3)) Xd.heap.size 3 (.int .i64 1)) := Boxed.new Xd _ _
  have HD1a : Hid ((Xd.alloc (.cells #[.int .i64 1] 3)).heap[D1]? = some (.deferred (some []))) := (Below.heap_alloc _ _ _ (Array.getElem?_eq_some_iff.1 hK).1).trans hK
  obtain ⟨W8, hW8⟩ : ∃ W, W = Xd.alloc (.cells #[.int .i64 1] 3) := ⟨_, rfl⟩
  have BT1 : Hid (Below w3.heap.size w3 W8) := by rw [hW8]; exact below_al hbw _
  have hs8 : W8.heap.size ≤ Xd.heap.size + 1 ∧ Xd.heap.size + 1 ≤ W8.heap.size := by rw [hW8]; simp
  rw [← hW8] at HbT1 HD1a
  have HD1 : Hid (W8.heap[D1]? = some (.deferred (some []))) := HD1a.out
  have hd1l : D1 < W8.heap.size := (Array.getElem?_eq_some_iff.1 HD1.out).1
  have HW8 := h_ hW8
  have hq9 : w3.heap.size ≤ Xd.heap.size := hbw.size
  clear hab htb hbw hK hW8 HD1a hm hma hmb
  go_wp2_with fail
  rw [← HW8.out]
  clear t0 a0 x0 x1 hmm
  rw [rounds_succ]
  have t1c := (HbT1.out).cell
  go_wp2_with fail
  have b1a : Boxed (W8.alloc (.cells #[.int .i64 0] 3)) W8.heap.size 3 (.int .i64 ((0 : Nat) : Int)) := Boxed.new W8 _ _
  have b1t : Boxed (W8.alloc (.cells #[.int .i64 0] 3)) Xd.heap.size 3 (.int .i64 1) := (HbT1.out).alloc _
  have b1w : Below w3.heap.size w3 (W8.alloc (.cells #[.int .i64 0] 3)) := below_al BT1.out _
  obtain ⟨X1, hX1⟩ : ∃ X, X = W8.alloc (.cells #[.int .i64 0] 3) := ⟨_, rfl⟩
  have hs1 : X1.heap.size ≤ W8.heap.size + 1 ∧ W8.heap.size + 1 ≤ X1.heap.size := by rw [hX1]; simp
  rw [← hX1] at b1a b1t b1w ⊢
  have hD1 : (fun X => X.heap[D1]? = some (.deferred (some []))) X1 := by rw [hX1]; exact (Below.heap_alloc _ _ _ (Array.getElem?_eq_some_iff.1 HD1.out).1).trans HD1.out
  have HI1 : Hid ((TurnW w3 Xd.heap.size W8.heap.size 1 (fun X => X.heap[D1]? = some (.deferred (some [])))) 0 X1) := ⟨b1a, b1t, b1w, hD1⟩
  have hq1 : w3.heap.size ≤ W8.heap.size := BT1.out.size
  have HO1 := turnW_own (tb := Xd.heap.size) (ab := W8.heap.size) (t := 1) (D := (fun X => X.heap[D1]? = some (.deferred (some [])))) (B := X1.heap.size) (w3 := w3) (by omega) (fun _ Xa Ya row h hg hr => (hg.block D1 (Array.getElem?_eq_some_iff.1 h).1 (fun e => by have h1 := (hr D1 e.symm).1; have h2 := (Array.getElem?_eq_some_iff.1 HD1.out).1; omega)).trans h)
  clear b1a b1t hD1 t1c hX1 b1w
  refine wp_rangeGoesO_brk2 (gf := 44) (lb := #[]) 9 10 (fun k => .int .i64 (1 + (k : Nat) : Int)) (fun k => .string (sAt wdL k)) rfl (enters_of Tryz.func44 (by kernel_rfl) rfl)
   (kinds1_goes X1) (fun b hb => hb.elim)
   (TurnW w3 Xd.heap.size W8.heap.size 1 (fun X => X.heap[D1]? = some (.deferred (some [])))) (fun X => (TurnW w3 Xd.heap.size W8.heap.size 1 (fun X => X.heap[D1]? = some (.deferred (some [])))) 5 X) 2
   HO1 (fun _ X Y row hs hg hr => HO1 _ X Y row hs hg hr) HI1.out ?assign1 ?body1 (fun X h => h) (fun a X h => wp_exit (by simpa only [Exit.inBlock, if_true, ite_true, beq_self_eq_true] using h)) ?after1
  case assign1 =>
   intro l' k Xq K hK
   simp only [zA, zC, zB] at hK ⊢
   have HK := h_ hK
   clear hK
   gi_wp2
   exact HK.out
  case body1 =>
   rintro lo k X hk hlo _ ⟨hab, htb, hbw, hD⟩
   have hk5 : k < 5 := hk
   simp only [zA, zC, zB]
   obtain ⟨x0, x1, x2, _⟩ := HX.out X hbw
   have x3 := x2 k hk5
   have a0 := hab.cell
   have af := hab.frozen
   have t0 := htb.cell
   have d1 : decide (5 ≤ (k : Int)) = false := decide_eq_false (by omega)
   have d2 : ((1 + (k : Int)) != ((k : Int) + 1)) = false := by simp; omega
   have d3 : ((k : Int) + 1).toNat = k + 1 := by omega
   generalize hsv : sAt wdL k = sv at *
   have d4 : (sv != sv) = false := by rw [bne, (MapKept.bytes_beq sv sv).2 rfl]; rfl
   have HSV := h_ hsv
   have FIN : Hid (KeepsFrom X1.heap.size X (X.setCell ⟨W8.heap.size, 0, none⟩ (.int .i64 ((k : Int) + 1))) ∧
     KeepB (SinceB (fun _ => False) (X1.heap.size + 2) X) X (X.setCell ⟨W8.heap.size, 0, none⟩ (.int .i64 ((k : Int) + 1))) ∧
     (TurnW w3 Xd.heap.size W8.heap.size 1 (fun X => X.heap[D1]? = some (.deferred (some [])))) (k + 1) (X.setCell ⟨W8.heap.size, 0, none⟩ (.int .i64 ((k : Int) + 1)))) := by
    refine ⟨(KeepsOthers.setCell _ _ _).from _, KeepB.setCell (fun _ _ => rfl) (p := ⟨W8.heap.size, 0, none⟩) (notF (nb := W8.heap.size) (by omega)) _, ?_, htb.other (by omega) _, hbw.setCell (p := ⟨W8.heap.size, 0, none⟩) (show w3.heap.size ≤ W8.heap.size by omega) _, (Below.heap_setCell _ _ _ D1 (show D1 ≠ W8.heap.size by omega)).trans hD⟩
    have h := hab.set (.int .i64 ((k : Int) + 1))
    simpa using h
   clear hab htb hbw hD x2 hsv
   gi_wp2
   exact FIN.out
  case after1 =>
   rintro D2 Xe hD2 ⟨hab, htb, hbw, hDd⟩ hK
   have hD2l : D2 < Xe.heap.size := (Array.getElem?_eq_some_iff.1 hK).1
   have hD1l : D1 < Xe.heap.size := (Array.getElem?_eq_some_iff.1 hDd).1
   obtain ⟨x0, x1, _, hbr⟩ := HX.out Xe hbw
   have t0 := htb.cell
   have a0 := hab.cell
   have BE := h_ (below_al hbw (.cells #[.int .i64 2] 3))
   have E1 : Hid ((Xe.alloc (.cells #[.int .i64 2] 3)).heap[D1]? = some (.deferred (some []))) := (Below.heap_alloc _ _ _ hD1l).trans hDd
   have E2 : Hid ((Xe.alloc (.cells #[.int .i64 2] 3)).heap[D2]? = some (.deferred (some []))) := (Below.heap_alloc _ _ _ hD2l).trans hK
   have HbT2 : Hid (Boxed (Xe.alloc (.cells #[.int .i64 2] 3)) Xe.heap.size 3 (.int .i64 2)) := Boxed.new Xe _ _
   obtain ⟨W9, hW9⟩ : ∃ W, W = Xe.alloc (.cells #[.int .i64 2] 3) := ⟨_, rfl⟩
   rw [← hW9] at BE E1 E2 HbT2
   have HW9 := h_ hW9
   clear hab htb hbw hDd hK hbr hW9
   go_wp2_with fail
   rw [← HW9.out]
   clear x0 x1 t0 a0
   rw [rounds_succ]
   have t2c := HbT2.out.cell
   go_wp2_with fail
   refine (dWhy_any n _).mono ?_
   rintro e u1 ⟨rfl, hb1⟩
   have C1 := h_ (below_on BE.out hb1)
   have HU1 := h_ hb1
   clear hb1 t2c
   generalize hsv : wyS n = sv
   have HSV := h_ hsv
   go_wp2_with fail
   refine (rWhy_any n _).mono ?_
   rintro e u2 ⟨rfl, hb2⟩
   have C2 := h_ (below_on C1.out hb2)
   have HU2 := h_ (below_on HU1.out hb2)
   rw [hsv]
   have d4 : (sv == sv) = true := (MapKept.bytes_beq sv sv).2 rfl
   clear hb2 hsv
   go_wp2_with fail
   refine (dworks_any _ (HT.out _ C2.out)).mono ?_
   rintro e u9 ⟨rfl, hb9⟩
   have C9 := h_ (below_on C2.out hb9)
   have HU9 := h_ (below_on HU2.out hb9)
   have HBR9 := h_ (HX.out u9 C9.out).2.2.2
   have hc9 := HBR9.out.cell
   have hf9 := HBR9.out.frozen
   have G1 : Hid (u9.heap[D1]? = some (.deferred (some []))) := (HU9.out.block D1 (Array.getElem?_eq_some_iff.1 E1.out).1).trans E1.out
   have G2 : Hid (u9.heap[D2]? = some (.deferred (some []))) := (HU9.out.block D2 (Array.getElem?_eq_some_iff.1 E2.out).1).trans E2.out
   clear hb9 d4
   go_wp2_with fail
   have f2 : (u9.setCell ⟨w.heap.size + 1, 0, none⟩ (.bool true)).heap[D2]? = some (.deferred (some [])) := (Below.heap_setCell _ _ _ D2 (by show D2 ≠ w.heap.size + 1; omega)).trans G2.out
   have f1 : (u9.setCell ⟨w.heap.size + 1, 0, none⟩ (.bool true)).heap[D1]? = some (.deferred (some [])) := (Below.heap_setCell _ _ _ D1 (by show D1 ≠ w.heap.size + 1; omega)).trans G1.out
   have f1' : ((u9.setCell ⟨w.heap.size + 1, 0, none⟩ (.bool true)).putObj D2 (.deferred none)).heap[D1]? = some (.deferred (some [])) := (World.putObj_heap_other (by omega)).trans f1
   have fr : Boxed (((u9.setCell ⟨w.heap.size + 1, 0, none⟩ (.bool true)).putObj D2 (.deferred none)).putObj D1 (.deferred none)) (w.heap.size + 1) 4 (.bool true) := (World.putObj_heap_other (by omega)).trans ((World.putObj_heap_other (by omega)).trans (HBR9.out.set (.bool true)))
   have hB9 : Below w.heap.size w (u9.setCell ⟨w.heap.size + 1, 0, none⟩ (.bool true)) := (B3.out.trans (C9.out.mono (by omega))).setCell (p := ⟨w.heap.size + 1, 0, none⟩) (show w.heap.size ≤ w.heap.size + 1 by omega) _
   refine marks_two (v := .bool true) f2 f1' (by simp [results, Tryz.results7, go_sem, fr.cell]) ⟨rfl, ?_⟩
   exact (hB9.grown (grownBy_putObj' _ _ _) hB9.size (fun r e => by cases e; omega)).grown (grownBy_putObj' _ _ _) (by simp [World.putObj]; have := hB9.size; simp at this; omega) (fun r e => by cases e; omega)

end Go.Proofs.YthjgjkohogjjpaaGreatDoor
