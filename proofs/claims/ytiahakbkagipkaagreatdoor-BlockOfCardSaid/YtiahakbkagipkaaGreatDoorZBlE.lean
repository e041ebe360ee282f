/- The chapter's rows of blocks: works. -/
import Derived.Test.YtiahakbkagipkaaGreatDoorZBj
import Derived.Test.YtiahakbkagipkaaGreatDoorZKs
import Derived.Test.YtiahakbkagipkaaGreatDoorZBk
import Derived.Test.YtiahakbkagipkaaGreatDoorZBl
import Derived.Lib.SlBytesConst
set_option maxHeartbeats 16000000
set_option linter.unusedSimpArgs false
set_option linter.unusedVariables false
set_option maxRecDepth 100000
namespace Go.Proofs.YtiahakbkagipkaaGreatDoor
open Go Go.RowKit Go.Shelf

attribute [local go_sem] Oper.semAt_some

def bl1 : Bl := ⟨1, 1, 0, [104, 105]⟩
def bl2 : Bl := ⟨1, 2, 0, []⟩
def bl3 : Bl := ⟨2, 2, 0, []⟩
def exW : Ex := ⟨3, 0, 5, 9, 1, false, []⟩
def lsW : List Bl := [⟨6, 2, 0, [130, 2, 130, 3, 0]⟩, ⟨7, 3, 0, [5]⟩, ⟨10, 4, 0, [130, 9, 1]⟩, ⟨200, 5, 0, [129, 244]⟩]
theorem bl1_err : errB bl1 = 0 := by decide +kernel
theorem bl2_err : errB bl2 = 2 := by decide +kernel
theorem bl3_err : errB bl3 = 2 := by decide +kernel
def lit1b : List UInt8 := [132, 1, 1, 0, 66, 104, 105]
theorem bl1_enc : encK bl1 bl1.s.toNat = lit1b := by decide +kernel
theorem exW_ls : extrasE exW 0 = .ok lsW := by kernel_rfl
theorem lsW_of : ofE lsW = .ok exW := by kernel_rfl
theorem nil_of : ofE [] = .error 161 := by kernel_rfl
theorem exW_fit : exW.fit := ⟨by decide, by decide, by decide, by decide, by decide, by decide⟩
theorem lsW_len : (kdsT lsW).length = 4 := by decide +kernel
def nW (k : Nat) : Nat := ([0, 6, 6007, 6007010, 6007010200] : List Nat).getD k 0
theorem nW_step : ∀ k, k < 4 → 1000 * nW k + kdAt lsW k * cnAt lsW k = nW (k + 1) ∧ nW k ≤ 6007010 ∧ kdAt lsW k ≤ 200 ∧ cnAt lsW k = 1 := by decide +kernel

theorem bnum8_any (x : Int) (w : World) : Calls Tryz.prog 10 #[.int .i64 x] w fun e w' => e = .returned (.int .i64 x) ∧ w = w' := by
 go_enter Tryz.func10, Tryz.ntmps10
 go_wp2
 go_ret
 exact ⟨rfl, rfl⟩

theorem rd_hi (w : World) : RdB (w.alloc (.cells #[.int .u8 104, .int .u8 105] 5 (2, 3))) (w.alloc (.cells #[.int .u8 104, .int .u8 105] 5 (2, 3))).heap.size (some ⟨w.heap.size, 0, none⟩) bl1.d := by
 refine .inr ⟨w.heap.size, 0, rfl, by simp, fun j hj => ?_⟩
 have hj2 : j = 0 ∨ j = 1 := by simp [bl1] at hj; omega
 rcases hj2 with rfl | rfl
 ·rw [World.cell?_alloc_mark]; rfl
 ·rw [World.cell?_alloc_mark]; rfl

theorem benc1_any (g : Nat) (w : World) (ht : TabW w) (hr : RdB w w.heap.size (some ⟨g, 0, none⟩) bl1.d) : Calls Tryz.prog 7 #[.agg #[.int .u64 1, .int .u64 1, .int .i64 0, .slice (some ⟨g, 0, none⟩) 2 2]] w fun e w' => ∃ A C, e = .returned (.tuple #[.slice A 7 C, .int .i64 0]) ∧ RdB w' w'.heap.size A lit1b ∧ Below w.heap.size w w' := by
 refine (blkEncode_any bl1 (some ⟨g, 0, none⟩) 2 ⟨by decide, by decide⟩ w hr (by decide) (by decide) ht).mono ?_
 rintro e w' ⟨hb, ⟨_, u, rfl, ho⟩ | ⟨h, _⟩⟩
 ·rw [bl1_enc] at ho
  obtain ⟨A, C, rfl, _, hr, _⟩ := ho.bytes
  exact ⟨A, C, rfl, hr, hb⟩
 ·exact absurd bl1_err h

theorem bchk_any (t n : Nat) (w : World) (ht : TabW w) (ho : t < 18446744073709551616 ∧ n < 18446744073709551616) (he : errB ⟨t, n, 0, []⟩ = 2) : Calls Tryz.prog 8 #[.agg #[.int .u64 t, .int .u64 n, .int .i64 0, .slice none 0 0]] w fun e w' => e = .returned (.int .i64 2) ∧ Below w.heap.size w w' := by
 have h := blkCheck_any ⟨t, n, 0, []⟩ none 0 ⟨ho.1, ho.2⟩ w (.inl rfl) (Nat.le_refl _) (by simp) ht
 rw [he] at h
 exact h

theorem bext_any (w : World) (ht : TabW w) : Calls Tryz.prog 14 #[.agg #[.int .u32 3, .int .u32 0, .int .u64 5, .int .u8 9, .int .u8 1, .bool false, .slice none 0 0], .int .i64 0] w fun e w' => ∃ A C xs, e = .returned (.tuple #[.slice A 4 C, .int .i64 0]) ∧ xs.length = 4 ∧ 4 ≤ C ∧ xs.map LB.b = lsW ∧ RdLs w' w'.heap.size A xs ∧ Below w.heap.size w w' := by
 refine (extras_any exW none 0 0 exW_fit w (.inl rfl) (Nat.le_refl _) ht).mono ?_
 rintro e w' ⟨hb, hm⟩
 rw [exW_ls] at hm
 obtain ⟨v, rfl, hls⟩ := hm
 obtain ⟨A, C, xs, rfl, hC, hx, hrd⟩ := hls.rd
 have hl : xs.length = 4 := by rw [← List.length_map (f := LB.b), hx]; rfl
 rw [hl] at hC
 exact ⟨A, C, xs, by rw [hl], hl, hC, hx, hrd, hb⟩

theorem bof_any (A : Option Addr) (C : Nat) (xs : List LB) (hl : xs.length = 4) (hC : 4 ≤ C) (hx : xs.map LB.b = lsW) (w : World) (hr : RdLs w w.heap.size A xs) (ht : TabW w) : Calls Tryz.prog 18 #[.slice A 4 C] w fun e w' => ∃ A C, e = .returned (.tuple #[.agg #[.int .u32 3, .int .u32 0, .int .u64 5, .int .u8 9, .int .u8 1, .bool false, .slice A 0 C], .int .i64 0]) ∧ Below w.heap.size w w' := by
 have h := blkOf_any xs A C w hr (by omega) (by omega) ht
 rw [hl, hx] at h
 refine h.mono ?_
 rintro e w' ⟨hb, hm⟩
 rw [lsW_of] at hm
 obtain ⟨A, C, rfl, _, _⟩ := hm
 exact ⟨A, C, rfl, hb⟩

theorem bof0_any (w : World) (ht : TabW w) : Calls Tryz.prog 18 #[.slice none 0 0] w fun e w' => e = .returned (.tuple #[.agg #[.int .u32 0, .int .u32 0, .int .u64 0, .int .u8 0, .int .u8 0, .bool false, .slice none 0 0], .int .i64 161]) ∧ Below w.heap.size w w' := by
 have h := blkOf_any [] none 0 w ⟨by simp, .inl rfl⟩ (Nat.le_refl _) (by simp) ht
 refine h.mono ?_
 rintro e w' ⟨hb, hm⟩
 rw [List.map_nil, nil_of] at hm
 exact ⟨hm, hb⟩

theorem bworks_any (w : World) (ht : TabW w) : Calls Tryz.prog 6 #[] w fun e w' => e = .returned (.bool true) ∧ Below w.heap.size w w' := by
 have HT : Hid (∀ w', Below w.heap.size w w' → TabW w') := fun w' h => ht.on h
 have HE := h_ (fun g w h1 h2 => benc1_any g w h1 h2)
 have HC2 : Hid (∀ w, TabW w → Calls Tryz.prog 8 #[.agg #[.int .u64 1, .int .u64 2, .int .i64 0, .slice none 0 0]] w fun e w' => e = .returned (.int .i64 2) ∧ Below w.heap.size w w') := fun w h => bchk_any 1 2 w h ⟨by decide, by decide⟩ bl2_err
 have HC3 : Hid (∀ w, TabW w → Calls Tryz.prog 8 #[.agg #[.int .u64 2, .int .u64 2, .int .i64 0, .slice none 0 0]] w fun e w' => e = .returned (.int .i64 2) ∧ Below w.heap.size w w') := fun w h => bchk_any 2 2 w h ⟨by decide, by decide⟩ bl3_err
 obtain ⟨W, hW⟩ : ∃ W, W = w.alloc (.cells #[.int .u8 104, .int .u8 105] 5 (2, 3)) := ⟨_, rfl⟩
 have HB0 : Hid (Below w.heap.size w W) := by rw [hW]; exact below_al bR _
 have HR0 : Hid (RdB W W.heap.size (some ⟨w.heap.size, 0, none⟩) bl1.d) := by rw [hW]; exact rd_hi w
 have HW := h_ hW
 have kc := fun (w : World) (C : Array Value) (n c : Nat) => Lib.run_convert_bytes_const (P := Tryz.prog) w 24 5 C n c Tryz.underlying24 Tryz.underlying5
 clear hW ht
 refine calls_of_marks Tryz.func6 rfl ?_
 simp only [Tryz.ntmps6, List.size_toArray, List.length_cons, List.length_nil, Nat.reduceAdd, Nat.reduceSub, Array.replicate_succ, Array.replicate_zero, List.push_toArray, List.append_toArray, List.nil_append, List.cons_append]
 go_wp2_with fail
 rw [← HW.out]
 refine (HE.out _ W (HT.out W HB0.out) HR0.out).mono ?_
 rintro e w1 ⟨A1, C1, rfl, hr1, hb1⟩
 have HB1 := h_ (below_on HB0.out hb1)
 have HR1 := h_ hr1
 clear hr1 hb1
 go_wp2_with fail
 refine (HC2.out w1 (HT.out w1 HB1.out)).mono ?_
 rintro e w2 ⟨rfl, hb2⟩
 have HB2 := h_ (below_on HB1.out hb2)
 have HK2 := h_ hb2
 clear hb2
 go_wp2_with fail
 refine (HC3.out w2 (HT.out w2 HB2.out)).mono ?_
 rintro e w3 ⟨rfl, hb3⟩
 have HB3 := h_ (below_on HB2.out hb3)
 have HK3 := h_ (below_on HK2.out hb3)
 clear hb3
 go_wp2_with fail
 obtain ⟨w4, hw4⟩ : ∃ w4, w4 = w3.alloc (.cells #[.int .u32 3, .int .u32 0, .int .u64 5, .int .u8 9, .int .u8 1, .bool false, .slice none 0 0] 46) := ⟨_, rfl⟩
 have hb4 : Below w3.heap.size w3 w4 := by rw [hw4]; exact below_al bR _
 have HX4 : Hid (RowB w4 w3.heap.size [.int .u32 3, .int .u32 0, .int .u64 5, .int .u8 9, .int .u8 1, .bool false, .slice none 0 0]) := by rw [hw4]; exact RowB.new w3 _ _
 have HB4 := h_ (below_on HB3.out hb4)
 have HK4 := h_ (below_on HK3.out hb4)
 have HW4 := h_ hw4
 rw [← hw4]
 clear hw4 hb4
 refine (bext_any w4 (HT.out w4 HB4.out)).mono ?_
 rintro e w5 ⟨A5, C5, xs, rfl, hl5, hC5, hx5, hr5, hb5⟩
 have HB5 := h_ (below_on HB4.out hb5)
 have HK5 := h_ (below_on HK4.out hb5)
 have HX5 := h_ (HX4.out.on hb5 (by have h1 := HW4.out; rw [h1]; simp))
 have HR5 : Hid (∀ w', Below w5.heap.size w5 w' → RdLs w' w'.heap.size A5 xs) := fun w' h => hr5.on h
 have HL5 : Hid (xs.length = 4 ∧ 4 ≤ C5 ∧ xs.map LB.b = lsW) := ⟨hl5, hC5, hx5⟩
 have HS5 : Hid (w3.heap.size < w5.heap.size) := by have h1 := HW4.out; have h2 := hb5.size; rw [h1] at h2; simp at h2; rw [Hid]; omega
 clear hl5 hC5 hx5 hr5 hb5
 go_wp2_with fail
 refine (bof_any A5 C5 xs HL5.out.1 HL5.out.2.1 HL5.out.2.2 w5 (HR5.out w5 bR) (HT.out w5 HB5.out)).mono ?_
 rintro e w6 ⟨A6, C6, rfl, hb6⟩
 go_wp2_with fail
 obtain ⟨w7, hw7⟩ : ∃ w7, w7 = w6.alloc (.cells #[.int .u32 3, .int .u32 0, .int .u64 5, .int .u8 9, .int .u8 1, .bool false, .slice A6 0 C6] 46) := ⟨_, rfl⟩
 have hb7 : Below w6.heap.size w6 w7 := by rw [hw7]; exact below_al bR _
 have HX7 : Hid (RowB w7 w6.heap.size [.int .u32 3, .int .u32 0, .int .u64 5, .int .u8 9, .int .u8 1, .bool false, .slice A6 0 C6]) := by rw [hw7]; exact RowB.new w6 _ _
 have HK7 := h_ (below_on hb6 hb7)
 have HB7 := h_ (below_on HB5.out HK7.out)
 have HS7 : Hid (w6.heap.size < w7.heap.size ∧ w5.heap.size ≤ w6.heap.size) := by rw [hw7]; exact ⟨by simp, hb6.size⟩
 rw [← hw7]
 clear hw7 hb7 hb6
 refine (bof0_any w7 (HT.out w7 HB7.out)).mono ?_
 rintro e w8 ⟨rfl, hb8⟩
 go_wp2_with fail
 obtain ⟨w10, hw10⟩ : ∃ w10, w10 = (w8.alloc (.cells #[.int .u32 0, .int .u32 0, .int .u64 0, .int .u8 0, .int .u8 0, .bool false, .slice none 0 0] 46)).alloc (.cells #[.int .u64 0] 22) := ⟨_, rfl⟩
 have hb10 : Below w8.heap.size w8 w10 := by rw [hw10]; exact below_al (below_al bR _) _
 have HN10 : Hid (Boxed w10 (w8.heap.size + 1) 22 (.int .u64 0)) := by
  rw [Hid, hw10]
  have h := Boxed.new (w8.alloc (.cells #[.int .u32 0, .int .u32 0, .int .u64 0, .int .u8 0, .int .u8 0, .bool false, .slice none 0 0] 46)) 22 (.int .u64 0)
  simpa using h
 have HK10 := h_ (below_on hb8 hb10)
 have HB10 := h_ (below_on HB7.out HK10.out)
 have HS10 : Hid (w10.heap.size = w8.heap.size + 2 ∧ w7.heap.size ≤ w8.heap.size) := by rw [hw10]; exact ⟨by simp, hb8.size⟩
 rw [← hw10]
 clear hw10 hb10 hb8
 have HTy : Hid (∀ w', Below w5.heap.size w5 w' → Calls Tryz.prog 22 #[.slice A5 4 C5] w' fun e w'' => e = .returned (.func (.func 50) #[] #[.pointer (some ⟨w'.heap.size, 0, none⟩), .pointer (some ⟨w'.heap.size + 1, 0, none⟩)]) ∧ Below w'.heap.size w' w'' ∧ TyW w'.heap.size w''.heap.size w'' w'.heap.size lsW) := fun w' h => by
  have h2 := typs_any xs A5 C5 w' (HR5.out w' h) (by have := HL5.out.1; have := HL5.out.2.1; omega) (by have := HL5.out.1; omega)
  rw [HL5.out.1, HL5.out.2.2] at h2
  exact h2
 have hnil : ∀ (w : World) (g h : Nat), (binOp .eql 62 (.func (.func 50) #[] #[.pointer (some ⟨g, 0, none⟩), .pointer (some ⟨h, 0, none⟩)]) .nilFunc).run Tryz.prog w = .ok (.bool false) w := fun w g h => eql_func_nil w _ _ _ _ _ _ _ Tryz.underlying62
 go_wp2_with fail
 have HK510 : Hid (Below w5.heap.size w5 w10) := below_on HK7.out HK10.out
 refine (HTy.out w10 HK510.out).mono ?_
 rintro e w11 ⟨rfl, hb11, _⟩
 have HK11 := h_ (below_on HK510.out hb11)
 have HK11b := h_ hb11
 clear hb11
 go_wp2_with fail
 refine (HTy.out w11 HK11.out).mono ?_
 rintro e w12 ⟨rfl, hb12, hty⟩
 have HK12 := h_ (below_on HK11b.out hb12)
 have HS12 : Hid (w10.heap.size ≤ w11.heap.size ∧ w11.heap.size ≤ w12.heap.size) := ⟨HK11b.out.size, hb12.size⟩
 have HN12 : Hid (Boxed w12 (w8.heap.size + 1) 22 (.int .u64 (nW 0 : Nat))) := boxed_below HN10.out HK12.out (by have := HS10.out.1; omega)
 clear hb12 hnil
 go_wp2_with fail
 have hs10 := HS10.out
 have hs12 := HS12.out
 have hs7 := HS7.out
 have hs5 := HS5.out
 obtain ⟨nb, hnb⟩ : ∃ nb, nb = w8.heap.size + 1 := ⟨_, rfl⟩
 have hnb1 : nb < w11.heap.size := by omega
 have hnb6 : w6.heap.size + 1 < nb := by omega
 rw [← hnb] at HN12 ⊢
 have HTW := h_ hty
 have HNb : Hid (w8.heap.size ≤ nb) := by rw [Hid, hnb]; omega
 clear hty hs10 hs7 hnb
 refine wp_rangeGoesO_at2 (gf := 50) (lb := #[.pointer (some ⟨w11.heap.size, 0, none⟩), .pointer (some ⟨w11.heap.size + 1, 0, none⟩)]) 13 14 (fun k => .int .u64 (kdAt lsW k : Nat)) (fun k => .int .i64 (cnAt lsW k : Nat)) rfl (enters_of Tryz.func50 (by kernel_rfl) rfl)
  (types1_goes w11.heap.size w12.heap.size w11.heap.size lsW w12 HTW.out (Nat.le_refl _) (by rw [lsW_len]; omega)) (fun b hb => hb.2)
  (fun k X => Boxed X nb 22 (.int .u64 (nW k : Nat)) ∧ ButL w12.heap.size nb w12 X) (fun _ _ _ => False)
  (OwnFrom.and (fun k X Y row hs hg hr => ((boxed_own (β := Unit) nb 22 (fun _ => .int .u64 (nW k : Nat))).from _) () X Y row hs hg hr) (butL_own (Nat.le_refl _) (Nat.le_refl _))) (fun c => ownFrom_pure _ _) ⟨HN12.out, ButL.refl _ _ _⟩ ?assign ?body ?done ?stop
 case assign =>
  intro l k X K hK
  simp only [zA, zC, zB] at hK ⊢
  have HK := h_ hK
  clear hK
  gi_wp2
  exact HK.out
 case body =>
  rintro l k X hk hl _ ⟨hb, hbt⟩
  rw [lsW_len] at hk
  obtain ⟨e1, e2, e3, e4⟩ := nW_step k hk
  have HBx := h_ hb
  have HBt := h_ hbt
  have hc := hb.cell
  have hf := hb.frozen
  simp only [zA, zC, zB]
  rw [e4] at e1 ⊢
  have HE1 := h_ e1
  generalize nW k = nk at *
  generalize kdAt lsW k = dk at *
  clear hb hbt e1
  gi_wp2
  refine ⟨(KeepsOthers.setCell _ _ _).from _, KeepB.setCell (fun b hb => rfl) ?_ _, ?_, HBt.out.trans (ButL.set _ _)⟩
  ·intro h
   have hs12 := HS12.out
   rcases h with h | h
   ·have h2 : w11.heap.size ≤ nb := h.1
    omega
   ·have h2 : w12.heap.size + 2 ≤ nb := h.1
    omega
  ·have h := HBx.out.set (.int .u64 (1000 * (nk : Int) + dk))
   have e : (1000 * (nk : Int) + dk) = ((nW (k + 1) : Nat) : Int) := by
    rw [← HE1.out]
    omega
   rw [e] at h ⊢
   exact h
 case stop =>
  rintro D c k X hD hk h hK
  exact h.elim
 case done =>
  rintro D X hD ⟨hb, hbt⟩ hK
  rw [lsW_len] at hb
  have hb : Boxed X nb 22 (.int .u64 6007010200) := hb
  have hc := hb.cell
  have hk1 : Below w8.heap.size w12 X := hbt.below HNb.out (by have := HS10.out; have := HS12.out; omega)
  have hS8 : w7.heap.size ≤ w8.heap.size ∧ w6.heap.size < w7.heap.size ∧ w5.heap.size ≤ w6.heap.size ∧ w3.heap.size < w5.heap.size := ⟨HS10.out.2, HS7.out.1, HS7.out.2, HS5.out⟩
  have hK7 : Below w7.heap.size w7 X := (below_on HK10.out HK12.out).trans (hk1.mono hS8.1)
  have hK5 : Below w5.heap.size w5 X := (below_on HK510.out HK12.out).trans (hk1.mono (by omega))
  have hK1 : Below w1.heap.size w1 X := (below_on HK5.out (below_on HK510.out HK12.out)).trans (hk1.mono (by have := HK5.out.size; omega))
  have hBX : Below w.heap.size w X := HB1.out.trans (hK1.mono HB1.out.size)
  have hr1 : RdB X w1.heap.size A1 lit1b := HR1.out.below hK1
  have kt := hr1.text (P := Tryz.prog) 24 9 5 7 C1 rfl Tryz.underlying24 Tryz.underlying5 Tryz.underlying9
  have rx := HX5.out.on hK5 hS8.2.2.2
  have ry := HX7.out.on hK7 hS8.2.1
  have x0 := rx.1 0 _ rfl
  have x1 := rx.1 1 _ rfl
  have x2 := rx.1 2 _ rfl
  have x3 := rx.1 3 _ rfl
  have x4 := rx.1 4 _ rfl
  have x5 := rx.1 5 _ rfl
  have x6 := rx.1 6 _ rfl
  have y0 := ry.1 0 _ rfl
  have y1 := ry.1 1 _ rfl
  have y2 := ry.1 2 _ rfl
  have y3 := ry.1 3 _ rfl
  have y4 := ry.1 4 _ rfl
  have y5 := ry.1 5 _ rfl
  have y6 := ry.1 6 _ rfl
  have HBX := h_ hBX
  have HKD := h_ hK
  have HDn : Hid (w.heap.size ≤ D) := by have h1 := HB10.out.size; have h2 := HS12.out; rw [Hid]; omega
  have HDl : Hid (D < X.heap.size) := (Array.getElem?_eq_some_iff.1 hK).1
  clear hb hbt hk1 hK7 hK5 hK1 hBX hr1 rx ry hK hS8
  go_wp2_with fail
  refine (bnum8_any 0 _).mono ?_
  rintro e9 w9 ⟨rfl, h9⟩
  rw [← h9]
  clear h9 w9
  go_wp2_with fail
  refine (bnum8_any 0 _).mono ?_
  rintro e9 w9 ⟨rfl, h9⟩
  rw [← h9]
  clear h9 w9
  go_wp2_with fail
  refine (bnum8_any 0 _).mono ?_
  rintro e9 w9 ⟨rfl, h9⟩
  rw [← h9]
  clear h9 w9
  go_wp2_with fail
  refine (bnum8_any 2 _).mono ?_
  rintro e9 w9 ⟨rfl, h9⟩
  rw [← h9]
  clear h9 w9
  go_wp2_with fail
  refine (bnum8_any 2 _).mono ?_
  rintro e9 w9 ⟨rfl, h9⟩
  rw [← h9]
  clear h9 w9
  go_wp2_with fail
  refine (refSameEx_any exW exW none A6 0 C6 X (.inl rfl) (.inl rfl) (Nat.le_refl _) (Nat.zero_le _) (Nat.zero_le _) (Nat.zero_le _)).mono ?_
  rintro e9 w9 ⟨rfl, hb9⟩
  rw [(sameEx_iff exW exW).2 rfl]
  have HB9 := h_ (below_on HBX.out hb9)
  have HD9 : Hid (w9.heap[D]? = some (.deferred (some []))) := (hb9.block D HDl.out).trans HKD.out
  clear hb9 kt hc x0 x1 x2 x3 x4 x5 x6 y0 y1 y2 y3 y4 y5 y6
  go_wp2_with fail
  refine (bnum8_any 161 _).mono ?_
  rintro e10 w10' ⟨rfl, h10⟩
  rw [← h10]
  clear h10 w10'
  go_wp2_with fail
  refine marks_one HD9.out (v := .bool true) (by simp [results, Tryz.results6, go_sem]) ⟨rfl, ?_⟩
  exact HB9.out.grown (grownBy_putObj' _ _ _) HB9.out.size (fun r e => by cases e; have h1 := HDn.out; omega)


end Go.Proofs.YtiahakbkagipkaaGreatDoor

