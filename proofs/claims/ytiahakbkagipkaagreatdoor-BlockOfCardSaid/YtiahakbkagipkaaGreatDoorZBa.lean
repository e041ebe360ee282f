/- Joined texts. -/
import Derived.Test.YtiahakbkagipkaaGreatDoorZKq
import Derived.Test.YtiahakbkagipkaaGreatDoorZKm
import Derived.Test.YtiahakbkagipkaaGreatDoorZBt
import Derived.Test.YtiahakbkagipkaaGreatDoorZMe
import Derived.Maps.Own
import Derived.WideMake
set_option maxHeartbeats 8000000
set_option linter.unusedSimpArgs false
set_option linter.unusedVariables false
set_option maxRecDepth 100000
namespace Go.Proofs.YtiahakbkagipkaaGreatDoor
open Go Go.RowKit Go.Shelf

attribute [local go_sem] Oper.semAt_some

theorem bneed_yes (w : World) : Calls Tryz.prog 86 #[.bool true] w fun e w' => e = .returned (.tuple #[]) ∧ w = w' := by
 go_enter Tryz.func86, Tryz.ntmps86
 go_wp2_with fail
 first | go_end0 | skip
 exact ⟨rfl, rfl⟩

theorem bneed_no (w : World) : Calls Tryz.prog 86 #[.bool false] w fun e w' => e = gives 160 ∧ w = w' := by
 go_enter Tryz.func86, Tryz.ntmps86
 go_wp2_with fail
 exact ⟨rfl, rfl, rfl⟩

theorem bneed_any (b : Bool) (w : World) : Calls Tryz.prog 86 #[.bool b] w fun e w' => w = w' ∧ ((e = .returned (.tuple #[]) ∧ b = true) ∨ (e = gives 160 ∧ b = false)) := by
 cases b
 ·exact (bneed_no w).mono fun e w' ⟨h1, h2⟩ => ⟨h2, .inr ⟨h1, rfl⟩⟩
 ·exact (bneed_yes w).mono fun e w' ⟨h1, h2⟩ => ⟨h2, .inl ⟨h1, rfl⟩⟩

def BNuR (w : World) (x : It) (e : Ending) (w' : World) : Prop := Below w.heap.size w w' ∧ ((∃ n : Nat, e = .returned (.int .u64 n) ∧ nuP x = some n ∧ n < 18446744073709551616) ∨ (e = gives 160 ∧ nuP x = none))

theorem bnum_any (x : It) (v : Value) (w : World) (hv : ItV w w.heap.size v x) : Calls Tryz.prog 102 #[v] w (BNuR w x) := by
 have hu := hv.u64
 obtain ⟨a, c, A, C, rfl⟩ := hv.form
 have HU : Hid (x.n = (x.n.toNat : Int) ∧ x.n.toNat < 18446744073709551616) := by
  unfold U64 at hu
  constructor <;> omega
 clear hv hu
 have HB : Hid (Below w.heap.size w (w.alloc (.cells #[.int .i64 x.k, .int .u64 x.n, .slice a x.b.length c, .string ⟨x.s.toArray⟩, .slice A x.l.length C] 83))) := below_al bR _
 have hc : (w.alloc (.cells #[.int .i64 x.k, .int .u64 x.n, .slice a x.b.length c, .string ⟨x.s.toArray⟩, .slice A x.l.length C] 83)).cell? ⟨w.heap.size, 0, none⟩ = some (.int .i64 x.k) := by simp
 have hc1 : (w.alloc (.cells #[.int .i64 x.k, .int .u64 x.n, .slice a x.b.length c, .string ⟨x.s.toArray⟩, .slice A x.l.length C] 83)).cell? ⟨w.heap.size, 1, none⟩ = some (.int .u64 x.n) := by simp
 go_enter Tryz.func102, Tryz.ntmps102
 go_wp2_with fail
 refine (bneed_any (x.k == 1) _).mono ?_
 rintro e w1 ⟨hw, ⟨rfl, hk⟩ | ⟨rfl, hk⟩⟩
 ·rw [← hw]
  have HN : Hid (nuP x = some x.n.toNat) := by simp at hk; simp [Hid, nuP, hk]
  clear hw hk
  go_wp2_with fail
  go_ret
  exact ⟨HB.out, .inl ⟨x.n.toNat, by rw [← HU.out.1]; rfl, HN.out, HU.out.2⟩⟩
 ·rw [← hw]
  have HN : Hid (nuP x = none) := by simp at hk; simp [Hid, nuP, hk]
  rw [gives_def]
  clear hw hk
  go_wp2_with fail
  exact ⟨rfl, HB.out, .inr ⟨rfl, HN.out⟩⟩

def BItR (w : World) (bs : List UInt8) (e : Ending) (w' : World) : Prop := Below w.heap.size w w' ∧ ((∃ x v, decodeN bs = .ok x ∧ e = .returned v ∧ ItS w' (newB w w') v x) ∨ (e = gives 160 ∧ ∃ c, decodeN bs = .error c))

theorem bitem_any (a : Option Addr) (n c : Nat) (bs : List UInt8) (hn : n = bs.length) (w : World) (hr : RdB w w.heap.size a bs) (hc : n ≤ c) (hc47 : bs.length ≤ 140737488355328) (ht : TabW w) :
  Calls Tryz.prog 151 #[.slice a n c] w (BItR w bs) := by
 obtain ⟨W, hW⟩ : ∃ W, W = w.alloc (.cells #[.int .i64 0, .int .u64 0, .slice none 0 0, .string ⟨#[]⟩, .slice none 0 0] 83) := ⟨_, rfl⟩
 have HB0 : Hid (Below w.heap.size w W) := by rw [hW]; exact below_al bR _
 have HS0 : Hid (W.heap.size = w.heap.size + 1) := by rw [hW]; simp [Hid]
 have HR0 : Hid (RowB W w.heap.size [.int .i64 0, .int .u64 0, .slice none 0 0, .string ⟨#[]⟩, .slice none 0 0]) := by rw [hW]; exact RowB.new w [.int .i64 0, .int .u64 0, .slice none 0 0, .string ⟨#[]⟩, .slice none 0 0] 83
 have HK := h_ (decode_any a n c bs hn W ((hr.below HB0.out).mono HB0.out.size) hc hc47 (ht.on HB0.out))
 have HW := h_ hW
 clear hW hr ht hn hc47
 go_enter Tryz.func151, Tryz.ntmps151
 go_wp2_with fail
 rw [← HW.out]
 refine HK.out.mono ?_
 rintro e w1 ⟨hb1, hm⟩
 have HB1 := h_ (HB0.out.trans (hb1.mono HB0.out.size))
 have HR1 := h_ (HR0.out.on hb1 (by have := HS0.out; omega))
 have HS1 : Hid (w.heap.size + 1 ≤ w1.heap.size) := by have h1 := HS0.out; have h2 := hb1.size; rw [Hid]; omega
 clear hb1
 cases hit : decodeN bs with
 | error q =>
  rw [hit] at hm
  have hm : e = .returned (.tuple #[itemV 0 0 [], .int .i64 q]) := hm
  subst hm
  have hq := decodeN_err hit
  have hq0 : ((q : Int) == 0) = false := by simp; omega
  have HD := h_ hit
  clear hit hm hq
  unfold itemV
  go_wp2_with fail
  refine (bneed_any false _).mono ?_
  rintro e w2 ⟨rfl, ⟨_, h⟩ | ⟨rfl, _⟩⟩
  ·cases h
  rw [gives_def]
  go_wp2_with fail
  exact ⟨rfl, below_al HB1.out _, .inr ⟨rfl, q, HD.out⟩⟩
 | ok x =>
  rw [hit] at hm
  obtain ⟨v, rfl, hx⟩ := hm
  obtain ⟨a, c, A, C, rfl⟩ := hx.form
  have HIt := h_ hit
  obtain ⟨w2, hw2⟩ : ∃ w2, w2 = w1.alloc (.cells #[.int .i64 x.k, .int .u64 x.n, .slice a x.b.length c, .string ⟨x.s.toArray⟩, .slice A x.l.length C] 83) := ⟨_, rfl⟩
  have hb2 : Below w1.heap.size w1 w2 := by rw [hw2]; exact below_al bR _
  have HX : Hid (ItS w2 (newB W w2) (.agg #[.int .i64 x.k, .int .u64 x.n, .slice a x.b.length c, .string ⟨x.s.toArray⟩, .slice A x.l.length C]) x) := hx.new_on hb2
  have HB2 := h_ (below_on HB1.out hb2)
  have HR2 := h_ (HR1.out.on hb2 (by have := HS1.out; omega))
  have hbx : (w2.cell? ⟨w1.heap.size, 0, none⟩ = some (.int .i64 x.k) ∧ w2.cell? ⟨w1.heap.size, 1, none⟩ = some (.int .u64 x.n) ∧ w2.cell? ⟨w1.heap.size, 2, none⟩ = some (.slice a x.b.length c) ∧ w2.cell? ⟨w1.heap.size, 3, none⟩ = some (.string ⟨x.s.toArray⟩) ∧ w2.cell? ⟨w1.heap.size, 4, none⟩ = some (.slice A x.l.length C)) := by rw [hw2]; exact ⟨by simp, by simp, by simp, by simp, by simp⟩
  have HBx := h_ hbx
  have HW2 := h_ hw2
  clear hit hx hb2 hw2 hbx
  go_wp2_with fail
  refine (bneed_any true _).mono ?_
  rintro e w3 ⟨hw3, ⟨rfl, _⟩ | ⟨_, h⟩⟩
  rotate_left
  ·cases h
  rw [← hw3, ← HW2.out]
  clear hw3
  obtain ⟨y0, y1, y2, y3, y4⟩ := HBx.out
  have r0 := HR2.out.1 0 _ rfl
  have r1 := HR2.out.1 1 _ rfl
  have r2 := HR2.out.1 2 _ rfl
  have r3 := HR2.out.1 3 _ rfl
  have r4 := HR2.out.1 4 _ rfl
  have f0 := HR2.out.2 0
  have f1 := HR2.out.2 1
  have f2 := HR2.out.2 2
  have f3 := HR2.out.2 3
  have f4 := HR2.out.2 4
  have HQ := h_ (set5_cells r0 r1 r2 r3 r4 (.int .i64 x.k) (.int .u64 x.n) (.slice a x.b.length c) (.string ⟨x.s.toArray⟩) (.slice A x.l.length C))
  have HBel : Hid (Below w.heap.size w (set5 w2 w.heap.size (.int .i64 x.k) (.int .u64 x.n) (.slice a x.b.length c) (.string ⟨x.s.toArray⟩) (.slice A x.l.length C))) := set5_on HB2.out (Nat.le_refl _) _ _ _ _ _
  have HIs : Hid (ItS (set5 w2 w.heap.size (.int .i64 x.k) (.int .u64 x.n) (.slice a x.b.length c) (.string ⟨x.s.toArray⟩) (.slice A x.l.length C)) (newB w (set5 w2 w.heap.size (.int .i64 x.k) (.int .u64 x.n) (.slice a x.b.length c) (.string ⟨x.s.toArray⟩) (.slice A x.l.length C))) (.agg #[.int .i64 x.k, .int .u64 x.n, .slice a x.b.length c, .string ⟨x.s.toArray⟩, .slice A x.l.length C]) x) :=
   ItS.more (S := newB W w2) (fun b hb => ⟨by have h1 := hb.1; have := HS0.out; omega, by rw [set5_size]; exact hb.2⟩) _ (ItS.keep (S := newB W w2) (fun b hb => set5_block (by have h1 := hb.1; have := HS0.out; omega) _ _ _ _ _) _ HX.out)
  go_wp2_with fail
  change bodyPost _ _ _ _ _ (set5 w2 w.heap.size (.int .i64 x.k) (.int .u64 x.n) (.slice a x.b.length c) (.string ⟨x.s.toArray⟩) (.slice A x.l.length C))
  obtain ⟨q0, q1, q2, q3, q4⟩ := HQ.out
  exact bodyPost_ret (v := .agg #[.int .i64 x.k, .int .u64 x.n, .slice a x.b.length c, .string ⟨x.s.toArray⟩, .slice A x.l.length C]) (by simp [results, Tryz.results151, go_sem, q0, q1, q2, q3, q4]) rfl ⟨HBel.out, .inl ⟨x, _, HIt.out, rfl, HIs.out⟩⟩

def datD {α : Type} (f : It → Option α) (bs : List UInt8) : Option α := match decodeN bs with
 | .ok x => f x
 | .error _ => none
def befI (x : It) : Option (Nat × Nat) := (epI x).bind fun p => if 0 < p.1 then some p else none
def ageI (x : It) : Option Nat := (nuP x).bind fun n => if isT n = true then some n else none
def hopI (x : It) : Option (Nat × Nat) := match x.l with
 | [y0, y1] => (nuP y0).bind fun n => (nuP y1).bind fun m => if n ≤ 255 ∧ m ≤ 255 then some (n, m) else none
 | _ => none
def patI (x : It) : Option (Bool × List Cr) := if isP x = true then some (guP x) else none

theorem datD_ok {α : Type} {f : It → Option α} {bs : List UInt8} {x : It} (h : decodeN bs = .ok x) : datD f bs = f x := by rw [datD, h]
theorem datD_err {α : Type} {f : It → Option α} {bs : List UInt8} {c : Nat} (h : decodeN bs = .error c) : datD f bs = none := by rw [datD, h]

theorem bbefore_any (a : Option Addr) (n c : Nat) (bs : List UInt8) (hn : n = bs.length) (w : World) (hr : RdB w w.heap.size a bs) (hc : n ≤ c) (hc47 : bs.length ≤ 140737488355328) (ht : TabW w) :
  Calls Tryz.prog 114 #[.slice a n c] w fun e w' => Below w.heap.size w w' ∧ ((∃ n m : Nat, e = .returned (.agg #[.int .u32 n, .int .u32 m]) ∧ datD befI bs = some (n, m)) ∨ (e = gives 160 ∧ datD befI bs = none)) := by
 obtain ⟨W, hW⟩ : ∃ W, W = w.alloc (.cells #[.int .u32 0, .int .u32 0] 41) := ⟨_, rfl⟩
 have HB0 : Hid (Below w.heap.size w W) := by rw [hW]; exact below_al bR _
 have HS0 : Hid (W.heap.size = w.heap.size + 1) := by rw [hW]; simp [Hid]
 have HR0 : Hid (RowB W w.heap.size [.int .u32 0, .int .u32 0]) := by rw [hW]; exact RowB.new w [.int .u32 0, .int .u32 0] 41
 have HK := h_ (bitem_any a n c bs hn W ((hr.below HB0.out).mono HB0.out.size) hc hc47 (ht.on HB0.out))
 have HW := h_ hW
 clear hW hr ht hn hc47
 go_enter Tryz.func114, Tryz.ntmps114
 go_wp2_with fail
 rw [← HW.out]
 refine HK.out.mono ?_
 rintro e w1 ⟨hb1, ⟨x, v, hit, rfl, hx⟩ | ⟨rfl, q, hit⟩⟩
 rotate_left
 ·have HD : Hid (datD befI bs = none) := datD_err hit
  have HB1 := h_ (HB0.out.trans (hb1.mono HB0.out.size))
  rw [gives_def]
  clear hb1 hit
  go_wp2_with fail
  exact ⟨rfl, HB1.out, .inr ⟨rfl, HD.out⟩⟩
 have HD : Hid (datD befI bs = befI x) := datD_ok hit
 have HDp := h_ (decodeN_ok hit)
 have HV : Hid (ItV w1 w1.heap.size v x) := hx.new_itV
 have HB1 := h_ (HB0.out.trans (hb1.mono HB0.out.size))
 have HR1 := h_ (HR0.out.on hb1 (by have := HS0.out; omega))
 have HS1 : Hid (w.heap.size + 1 ≤ w1.heap.size) := by have h1 := HS0.out; have h2 := hb1.size; rw [Hid]; omega
 clear hb1 hit hx
 go_wp2_with fail
 refine (nmOf_any x v w1 HDp.out.1 HV.out).mono ?_
 intro e w2 htr
 have hb2 := htr.1
 obtain ⟨n, m, c', rfl, hr⟩ := trE_agg htr
 have hr' : (c' = 0 ∧ epI x = some (n, m)) ∨ (c' = 130 ∧ epI x = none) := by
  unfold rdI at hr
  cases he : epI x with
  | none => rw [he] at hr; rcases hr with ⟨h, _⟩ | ⟨h, _⟩
            ·cases h
            ·injection h with h; exact .inr ⟨h.symm, rfl⟩
  | some q => rw [he] at hr; rcases hr with ⟨h, h0⟩ | ⟨h, _⟩
              ·injection h with h; exact .inl ⟨h0, by rw [h]⟩
              ·cases h
 obtain ⟨w3, hw3⟩ : ∃ w3, w3 = w2.alloc (.cells #[.int .u32 n, .int .u32 m] 41) := ⟨_, rfl⟩
 have hb3 : Below w2.heap.size w2 w3 := by rw [hw3]; exact below_al bR _
 have HB3 := h_ (below_on HB1.out (below_on hb2 hb3))
 have HR3 := h_ (HR1.out.on (below_on hb2 hb3) (by have := HS1.out; omega))
 have z0 : w3.cell? ⟨w2.heap.size, 0, none⟩ = some (.int .u32 n) := by rw [hw3]; simp
 have z1 : w3.cell? ⟨w2.heap.size, 1, none⟩ = some (.int .u32 m) := by rw [hw3]; simp
 have HZ := h_ (And.intro z0 z1)
 rw [hw3] at z0 z1
 have HW3 := h_ hw3
 clear hr htr hb2 hb3 hw3
 rcases hr' with ⟨rfl, hE⟩ | ⟨rfl, hE⟩
 rotate_left
 ·have HX : Hid (datD befI bs = none) := by rw [Hid, HD.out, befI, hE]; rfl
  clear hE
  go_wp2_with fail
  rw [← HW3.out]
  refine (bneed_any false _).mono ?_
  rintro e w4 ⟨rfl, ⟨_, h⟩ | ⟨rfl, _⟩⟩
  ·cases h
  rw [gives_def]
  go_wp2_with fail
  exact ⟨rfl, HB3.out, .inr ⟨rfl, HX.out⟩⟩
 have HE := h_ hE
 have HX : Hid (datD befI bs = if 0 < n then some (n, m) else none) := by rw [Hid, HD.out, befI, hE]; rfl
 clear hE
 go_wp2_with fail
 rw [← HW3.out]
 refine (bneed_any (decide (0 < n)) _).mono ?_
 rintro e w4 ⟨rfl, ⟨rfl, h0⟩ | ⟨rfl, h0⟩⟩
 rotate_left
 ·have HX2 : Hid (datD befI bs = none) := by rw [Hid, HX.out, if_neg (of_decide_eq_false h0)]
  rw [gives_def]
  clear h0 z0 z1
  go_wp2_with fail
  exact ⟨rfl, HB3.out, .inr ⟨rfl, HX2.out⟩⟩
 have HX2 : Hid (datD befI bs = some (n, m)) := by rw [Hid, HX.out, if_pos (of_decide_eq_true h0)]
 clear h0 z0 z1
 obtain ⟨z0, z1⟩ := HZ.out
 have r0 := HR3.out.1 0 _ rfl
 have r1 := HR3.out.1 1 _ rfl
 have f0 := HR3.out.2 0
 have f1 := HR3.out.2 1
 go_wp2_with fail
 obtain ⟨e0, e1⟩ := put2 (.int .u32 (n : Int)) (.int .u32 (m : Int)) r0 r1
 refine bodyPost_ret (v := .agg #[.int .u32 n, .int .u32 m]) (by simp [results, Tryz.results114, go_sem, e0, e1]) rfl ⟨?_, .inl ⟨n, m, rfl, HX2.out⟩⟩
 exact ((HB3.out.setCell (p := ⟨w.heap.size, 0, none⟩) (Nat.le_refl _) _).setCell (p := ⟨w.heap.size, 1, none⟩) (Nat.le_refl _) _)

theorem bage_any (a : Option Addr) (n c : Nat) (bs : List UInt8) (hn : n = bs.length) (w : World) (hr : RdB w w.heap.size a bs) (hc : n ≤ c) (hc47 : bs.length ≤ 140737488355328) (ht : TabW w) :
  Calls Tryz.prog 116 #[.slice a n c] w fun e w' => Below w.heap.size w w' ∧ ((∃ n : Nat, e = .returned (.int .u64 n) ∧ datD ageI bs = some n) ∨ (e = gives 160 ∧ datD ageI bs = none)) := by
 have HK := h_ (bitem_any a n c bs hn w hr hc hc47 ht)
 clear hr ht hn hc47
 go_enter Tryz.func116, Tryz.ntmps116
 go_wp2_with fail
 refine HK.out.mono ?_
 rintro e w1 ⟨hb1, ⟨x, v, hit, rfl, hx⟩ | ⟨rfl, q, hit⟩⟩
 rotate_left
 ·have HD : Hid (datD ageI bs = none) := datD_err hit
  have HB1 := h_ hb1
  rw [gives_def]
  clear hb1 hit
  go_wp2_with fail
  exact ⟨rfl, HB1.out, .inr ⟨rfl, HD.out⟩⟩
 have HD : Hid (datD ageI bs = ageI x) := datD_ok hit
 have HV : Hid (ItV w1 w1.heap.size v x) := hx.new_itV
 have HB1 := h_ hb1
 clear hb1 hit hx
 go_wp2_with fail
 refine (bnum_any x v w1 HV.out).mono ?_
 rintro e w2 ⟨hb2, ⟨u, rfl, hu, _⟩ | ⟨rfl, hu⟩⟩
 rotate_left
 ·have HX : Hid (datD ageI bs = none) := by rw [Hid, HD.out, ageI, hu]; rfl
  have HB2 := h_ (below_on HB1.out hb2)
  rw [gives_def]
  clear hb2 hu
  go_wp2_with fail
  exact ⟨rfl, HB2.out, .inr ⟨rfl, HX.out⟩⟩
 have HB2 := h_ (below_on HB1.out hb2)
 have HX : Hid (datD ageI bs = if isT u = true then some u else none) := by rw [Hid, HD.out, ageI, hu]; rfl
 clear hb2 hu
 obtain ⟨b, hb⟩ : ∃ b, b = isT (u : Int) := ⟨_, rfl⟩
 have HCk : Hid (∀ w : World, Calls Tryz.prog 108 #[.slice (some ⟨w.heap.size, 0, none⟩) 1 1] (w.alloc (.cells #[.int .u64 u] 22)) fun e w' => e = .returned (.int .i64 (chkT b)) ∧ w.alloc (.cells #[.int .u64 u] 22) = w') := fun w => by rw [hb]; exact check_one (u : Int) w
 rw [← hb] at HX
 clear hb
 go_wp2_with fail
 refine (HCk.out _).mono ?_
 rintro e w3 ⟨rfl, rfl⟩
 cases b
 ·have c2 : chkT false = 2 := rfl
  rw [c2]
  clear HCk
  go_wp2_with fail
  refine (bneed_any false _).mono ?_
  rintro e w4 ⟨hw4, ⟨_, h⟩ | ⟨rfl, _⟩⟩
  ·cases h
  rw [← hw4, gives_def]
  clear hw4
  go_wp2_with fail
  exact ⟨rfl, below_al HB2.out _, .inr ⟨rfl, by rw [HX.out]; rfl⟩⟩
 ·have c2 : chkT true = 0 := rfl
  rw [c2]
  clear HCk
  go_wp2_with fail
  refine (bneed_any true _).mono ?_
  rintro e w4 ⟨hw4, ⟨rfl, _⟩ | ⟨_, h⟩⟩
  rotate_left
  ·cases h
  rw [← hw4]
  clear hw4
  go_wp2_with fail
  go_ret
  exact ⟨below_al HB2.out _, .inl ⟨u, rfl, by rw [HX.out]; rfl⟩⟩

attribute [local go_sem] Oper.semAt_some

theorem bfield4 (v0 v1 v2 v3 v4 : Value) (w : World) : (Instr.field 83 (.agg #[v0, v1, v2, v3, v4]) 4).run Tryz.prog w = .ok v4 w := by
 first | rfl | kernel_rfl | simp [Instr.field]

attribute [local go_sem] bfield4

theorem bwrap8 {n : Nat} (h : n ≤ 255) : IntKind.u8.wrap (n : Int) = n := by
 simp [IntKind.wrap, IntKind.bits, IntKind.signed]
 omega

theorem hopI_len {x : It} (h : x.l.length ≠ 2) : hopI x = none := by
 unfold hopI
 split
 ·rename_i hl
  rw [hl] at h
  simp at h
 ·rfl
theorem hopI_two {x y0 y1 : It} (hl : x.l = [y0, y1]) : hopI x = (nuP y0).bind fun n => (nuP y1).bind fun m => if n ≤ 255 ∧ m ≤ 255 then some (n, m) else none := by rw [hopI, hl]

theorem bhops_any (a : Option Addr) (n c : Nat) (bs : List UInt8) (hn : n = bs.length) (w : World) (hr : RdB w w.heap.size a bs) (hc : n ≤ c) (hc47 : bs.length ≤ 140737488355328) (ht : TabW w) :
  Calls Tryz.prog 118 #[.slice a n c] w fun e w' => Below w.heap.size w w' ∧ ((∃ n m : Nat, e = .returned (.tuple #[.int .u8 n, .int .u8 m]) ∧ datD hopI bs = some (n, m)) ∨ (e = gives 160 ∧ datD hopI bs = none)) := by
 have HK := h_ (bitem_any a n c bs hn w hr hc hc47 ht)
 clear hr ht hn hc47
 go_enter Tryz.func118, Tryz.ntmps118
 go_wp2_with fail
 refine HK.out.mono ?_
 rintro e w1 ⟨hb1, ⟨x, v, hit, rfl, hx⟩ | ⟨rfl, q, hit⟩⟩
 rotate_left
 ·have HD : Hid (datD hopI bs = none) := datD_err hit
  have HB1 := h_ hb1
  rw [gives_def]
  clear hb1 hit
  go_wp2_with fail
  exact ⟨rfl, HB1.out, .inr ⟨rfl, HD.out⟩⟩
 have HD : Hid (datD hopI bs = hopI x) := datD_ok hit
 have hv : ItV w1 w1.heap.size v x := hx.new_itV
 have HB1 := h_ hb1
 obtain ⟨a, c, A, C, rfl⟩ := hv.form
 obtain ⟨hL, hC⟩ := hv.list
 clear hb1 hit hx hv
 go_wp2_with fail
 refine (bneed_any ((x.l.length : Int) == 2) _).mono ?_
 rintro e w2 ⟨rfl, ⟨rfl, h2⟩ | ⟨rfl, h2⟩⟩
 rotate_left
 ·have HX : Hid (datD hopI bs = none) := by
    rw [Hid, HD.out]
    exact hopI_len (fun h => by rw [h] at h2; cases h2)
  rw [gives_def]
  clear h2 hL hC
  go_wp2_with fail
  exact ⟨rfl, HB1.out, .inr ⟨rfl, HX.out⟩⟩
 have hl2 : x.l.length = 2 := by have := eq_of_beq h2; omega
 obtain ⟨y0, y1, hxl⟩ : ∃ y0 y1, x.l = [y0, y1] := by
  match hq : x.l, hl2 with
  | [y0, y1], _ => exact ⟨y0, y1, rfl⟩
 obtain ⟨g, o, rfl, hg, hI⟩ : ∃ g o, A = some ⟨g, o, none⟩ ∧ g < w1.heap.size ∧ ItL w1 w1.heap.size g o x.l := by
  rcases hL with h | h
  ·rw [h] at hl2
   cases hl2
  ·exact h
 obtain ⟨a0, c0, A0, C0, k0⟩ := hI.pcells hg (i := 0) (y := y0) (by rw [hxl]; rfl)
 simp only [Nat.zero_mul, Nat.add_zero] at k0
 have HV0 : Hid (∀ w', Below w1.heap.size w1 w' → ItV w' w1.heap.size (.agg #[.int .i64 y0.k, .int .u64 y0.n, .slice a0 y0.b.length c0, .string ⟨y0.s.toArray⟩, .slice A0 y0.l.length C0]) y0 ∧ (w'.cell? ⟨g, o, none⟩ = some (.int .i64 y0.k) ∧ w'.cell? ⟨g, o + 1, none⟩ = some (.int .u64 y0.n) ∧ w'.cell? ⟨g, o + 2, none⟩ = some (.slice a0 y0.b.length c0) ∧ w'.cell? ⟨g, o + 3, none⟩ = some (.string ⟨y0.s.toArray⟩) ∧ w'.cell? ⟨g, o + 4, none⟩ = some (.slice A0 y0.l.length C0))) := k0
 obtain ⟨a1, c1, A1, C1, k1⟩ := hI.pcells hg (i := 1) (y := y1) (by rw [hxl]; rfl)
 simp only [Nat.one_mul] at k1
 have HV1 : Hid (∀ w', Below w1.heap.size w1 w' → ItV w' w1.heap.size (.agg #[.int .i64 y1.k, .int .u64 y1.n, .slice a1 y1.b.length c1, .string ⟨y1.s.toArray⟩, .slice A1 y1.l.length C1]) y1 ∧ (w'.cell? ⟨g, o + 5, none⟩ = some (.int .i64 y1.k) ∧ w'.cell? ⟨g, o + 5 + 1, none⟩ = some (.int .u64 y1.n) ∧ w'.cell? ⟨g, o + 5 + 2, none⟩ = some (.slice a1 y1.b.length c1) ∧ w'.cell? ⟨g, o + 5 + 3, none⟩ = some (.string ⟨y1.s.toArray⟩) ∧ w'.cell? ⟨g, o + 5 + 4, none⟩ = some (.slice A1 y1.l.length C1))) := k1
 have HH : Hid (datD hopI bs = (nuP y0).bind fun n => (nuP y1).bind fun m => if n ≤ 255 ∧ m ≤ 255 then some (n, m) else none) := by rw [Hid, HD.out]; exact hopI_two hxl
 rw [hl2] at hC ⊢
 clear h2 hl2 hxl hI hg k0 k1 hL
 have HC : Hid (∀ w', Below w1.heap.size w1 w' → (w'.cell? ⟨g, o, none⟩ = some (.int .i64 y0.k) ∧ w'.cell? ⟨g, o + 1, none⟩ = some (.int .u64 y0.n) ∧ w'.cell? ⟨g, o + 2, none⟩ = some (.slice a0 y0.b.length c0) ∧ w'.cell? ⟨g, o + 3, none⟩ = some (.string ⟨y0.s.toArray⟩) ∧ w'.cell? ⟨g, o + 4, none⟩ = some (.slice A0 y0.l.length C0)) ∧ (w'.cell? ⟨g, o + 5, none⟩ = some (.int .i64 y1.k) ∧ w'.cell? ⟨g, o + 5 + 1, none⟩ = some (.int .u64 y1.n) ∧ w'.cell? ⟨g, o + 5 + 2, none⟩ = some (.slice a1 y1.b.length c1) ∧ w'.cell? ⟨g, o + 5 + 3, none⟩ = some (.string ⟨y1.s.toArray⟩) ∧ w'.cell? ⟨g, o + 5 + 4, none⟩ = some (.slice A1 y1.l.length C1))) := fun w' h => ⟨(HV0.out w' h).2, (HV1.out w' h).2⟩
 have F0 : Below w1.heap.size w1 w1.drew := bR.drew
 go_wp2_with fail
 refine wp_region_held_drew (S := fun w' => (w'.cell? ⟨g, o, none⟩ = some (.int .i64 y0.k) ∧ w'.cell? ⟨g, o + 1, none⟩ = some (.int .u64 y0.n) ∧ w'.cell? ⟨g, o + 2, none⟩ = some (.slice a0 y0.b.length c0) ∧ w'.cell? ⟨g, o + 3, none⟩ = some (.string ⟨y0.s.toArray⟩) ∧ w'.cell? ⟨g, o + 4, none⟩ = some (.slice A0 y0.l.length C0)) ∧ (w'.cell? ⟨g, o + 5, none⟩ = some (.int .i64 y1.k) ∧ w'.cell? ⟨g, o + 5 + 1, none⟩ = some (.int .u64 y1.n) ∧ w'.cell? ⟨g, o + 5 + 2, none⟩ = some (.slice a1 y1.b.length c1) ∧ w'.cell? ⟨g, o + 5 + 3, none⟩ = some (.string ⟨y1.s.toArray⟩) ∧ w'.cell? ⟨g, o + 5 + 4, none⟩ = some (.slice A1 y1.l.length C1))) (by kernel_rfl) (HC.out _ F0) (fun hHeld => ?_)
 refine takeL 0 (v := ?_) ?_ ‹_› ?_
 rotate_left
 ·intro w hSw; (try dsimp only at hSw); go_simp; all_goals with_reducible rfl
 simp only [Act.put, zA, zB, zC]
 refine takeL 1 (v := ?_) ?_ ‹_› ?_
 rotate_left
 ·intro w hSw; (try dsimp only at hSw); go_simp; all_goals with_reducible rfl
 simp only [Act.put, zA, zB, zC]
 refine takeL 2 (v := ?_) ?_ ‹_› ?_
 rotate_left
 ·intro w hSw; (try dsimp only at hSw); go_simp; all_goals with_reducible rfl
 simp only [Act.put, zA, zB, zC]
 refine takeL 4 (v := ?_) ?_ ‹_› ?_
 rotate_left
 ·intro w hSw; (try dsimp only at hSw); go_simp; all_goals with_reducible rfl
 simp only [Act.put, zA, zB, zC]
 refine takeL 5 (v := ?_) ?_ ‹_› ?_
 rotate_left
 ·intro w hSw; (try dsimp only at hSw); go_simp; all_goals with_reducible rfl
 simp only [Act.put, zA, zB, zC]
 refine takeL 6 (v := ?_) ?_ ‹_› ?_
 rotate_left
 ·intro w hSw; (try dsimp only at hSw); go_simp; all_goals with_reducible rfl
 simp only [Act.put, zA, zB, zC]
 refine wpAnyH_ready (rs := [3]) (by kernel_rfl) (by simp) (.cons rfl (fun K hK => ?_) .nil)
 go_simp
 refine (bnum_any y0 _ _ (ItV.mono F0.size _ (HV0.out _ F0).1)).mono ?_
 rintro e w2 ⟨hb, ⟨u, rfl, hu, _⟩ | ⟨rfl, hu⟩⟩
 rotate_left
 ·rw [gives_def]
  exact ⟨rfl, below_on HB1.out (below_on F0 hb), .inr ⟨rfl, by rw [HH.out, hu]; rfl⟩⟩
 have HU := h_ hu
 have F1 : Below w1.heap.size w1 w2 := below_on F0 hb
 clear hu hb
 refine hK.out _ _ (HC.out _ F1) (fun hHeld => ?_)
 clear hK K
 try simp only [Act.put, zA, zB, zC]
 refine wpAnyH_ready (rs := [7]) (by kernel_rfl) (by simp) (.cons rfl (fun K hK => ?_) .nil)
 go_simp
 refine (bnum_any y1 _ _ (ItV.mono F1.size _ (HV1.out _ F1).1)).mono ?_
 rintro e w3 ⟨hb, ⟨v, rfl, hv, _⟩ | ⟨rfl, hv⟩⟩
 rotate_left
 ·rw [gives_def]
  exact ⟨rfl, below_on HB1.out (below_on F1 hb), .inr ⟨rfl, by rw [HH.out, HU.out, hv]; rfl⟩⟩
 have HV := h_ hv
 have F2 : Below w1.heap.size w1 w3 := below_on F1 hb
 clear hv hb
 refine hK.out _ _ (HC.out _ F2) (fun hHeld => ?_)
 clear hK K
 try simp only [Act.put, zA, zB, zC]
 refine takeL 8 (v := ?_) ?_ ‹_› ?_
 rotate_left
 ·intro w hSw; (try dsimp only at hSw); go_simp; all_goals with_reducible rfl
 simp only [Act.put, zA, zB, zC]
 refine takeL 9 (v := ?_) ?_ ‹_› ?_
 rotate_left
 ·intro w hSw; (try dsimp only at hSw); go_simp; all_goals with_reducible rfl
 simp only [Act.put, zA, zB, zC]
 clear hHeld
 refine wpAnyH_done (by kernel_rfl) ?_ _
 have HB3 := h_ (below_on HB1.out F2)
 have HX : Hid (datD hopI bs = if u ≤ 255 ∧ v ≤ 255 then some (u, v) else none) := by rw [Hid, HH.out, HU.out, HV.out]; rfl
 clear F0 F1 F2
 by_cases h0 : u ≤ 255
 rotate_left
 ·have d0 : decide ((u : Int) ≤ 255) = false := decide_eq_false (by omega)
  have HX2 : Hid (datD hopI bs = none) := by rw [Hid, HX.out, if_neg (fun h => h0 h.1)]
  clear h0
  go_wp2_with fail
  refine (bneed_any false _).mono ?_
  rintro e w4 ⟨rfl, ⟨_, h⟩ | ⟨rfl, _⟩⟩
  ·cases h
  rw [gives_def]
  go_wp2_with fail
  exact ⟨rfl, HB3.out, .inr ⟨rfl, HX2.out⟩⟩
 by_cases h1 : v ≤ 255
 rotate_left
 ·have d0 : decide ((u : Int) ≤ 255) = true := decide_eq_true (by omega)
  have d1 : decide ((v : Int) ≤ 255) = false := decide_eq_false (by omega)
  have HX2 : Hid (datD hopI bs = none) := by rw [Hid, HX.out, if_neg (fun h => h1 h.2)]
  clear h0 h1
  go_wp2_with fail
  refine (bneed_any false _).mono ?_
  rintro e w4 ⟨rfl, ⟨_, h⟩ | ⟨rfl, _⟩⟩
  ·cases h
  rw [gives_def]
  go_wp2_with fail
  exact ⟨rfl, HB3.out, .inr ⟨rfl, HX2.out⟩⟩
 have d0 : decide ((u : Int) ≤ 255) = true := decide_eq_true (by omega)
 have d1 : decide ((v : Int) ≤ 255) = true := decide_eq_true (by omega)
 have w8u := bwrap8 h0
 have w8v := bwrap8 h1
 have HX2 : Hid (datD hopI bs = some (u, v)) := by rw [Hid, HX.out, if_pos ⟨h0, h1⟩]
 clear h0 h1
 go_wp2_with fail
 refine (bneed_any true _).mono ?_
 rintro e w4 ⟨rfl, ⟨rfl, _⟩ | ⟨_, h⟩⟩
 rotate_left
 ·cases h
 go_wp2_with fail
 first | go_ret2 | go_ret
 exact ⟨HB3.out, .inl ⟨u, v, rfl, HX2.out⟩⟩

theorem bpath_any (a : Option Addr) (n c : Nat) (bs : List UInt8) (hn : n = bs.length) (w : World) (hr : RdB w w.heap.size a bs) (hc : n ≤ c) (hc47 : bs.length ≤ 140737488355328) (ht : TabW w) :
  Calls Tryz.prog 120 #[.slice a n c] w fun e w' => Below w.heap.size w w' ∧ ((∃ (bk : Bool) (xs : List Cr) (A : Option Addr) (C : Nat), e = .returned (.agg #[.bool bk, .slice A xs.length C]) ∧ datD patI bs = some (bk, xs) ∧ xs.length ≤ C ∧ NewX w w' A xs) ∨ (e = gives 160 ∧ datD patI bs = none)) := by
 obtain ⟨W, hW⟩ : ∃ W, W = w.alloc (.cells #[.bool false, .slice none 0 0] 44) := ⟨_, rfl⟩
 have HB0 : Hid (Below w.heap.size w W) := by rw [hW]; exact below_al bR _
 have HS0 : Hid (W.heap.size = w.heap.size + 1) := by rw [hW]; simp [Hid]
 have HR0 : Hid (RowB W w.heap.size [.bool false, .slice none 0 0]) := by rw [hW]; exact RowB.new w [.bool false, .slice none 0 0] 44
 have HK := h_ (bitem_any a n c bs hn W ((hr.below HB0.out).mono HB0.out.size) hc hc47 (ht.on HB0.out))
 have HW := h_ hW
 clear hW hr ht hn hc47
 go_enter Tryz.func120, Tryz.ntmps120
 go_wp2_with fail
 rw [← HW.out]
 refine HK.out.mono ?_
 rintro e w1 ⟨hb1, ⟨x, v, hit, rfl, hx⟩ | ⟨rfl, q, hit⟩⟩
 rotate_left
 ·have HD : Hid (datD patI bs = none) := datD_err hit
  have HB1 := h_ (HB0.out.trans (hb1.mono HB0.out.size))
  rw [gives_def]
  clear hb1 hit
  go_wp2_with fail
  exact ⟨rfl, HB1.out, .inr ⟨rfl, HD.out⟩⟩
 have HD : Hid (datD patI bs = patI x) := datD_ok hit
 have HV : Hid (ItV w1 w1.heap.size v x) := hx.new_itV
 have HB1 := h_ (HB0.out.trans (hb1.mono HB0.out.size))
 have HR1 := h_ (HR0.out.on hb1 (by have := HS0.out; omega))
 have HS1 : Hid (w.heap.size + 1 ≤ w1.heap.size) := by have h1 := HS0.out; have h2 := hb1.size; rw [Hid]; omega
 clear hb1 hit hx
 go_wp2_with fail
 refine (pofN_any x v w1 HV.out).mono ?_
 rintro e w2 ⟨hb2, ⟨hp, A, C, rfl, hC, hnx⟩ | ⟨hp, rfl⟩⟩
 rotate_left
 ·have HX : Hid (datD patI bs = none) := by rw [Hid, HD.out, patI, if_neg (by rw [hp]; decide)]
  have HB2 := h_ (below_on HB1.out hb2)
  clear hb2 hp
  go_wp2_with fail
  refine (bneed_any false _).mono ?_
  rintro e w4 ⟨hw4, ⟨_, h⟩ | ⟨rfl, _⟩⟩
  ·cases h
  rw [← hw4, gives_def]
  clear hw4
  go_wp2_with fail
  exact ⟨rfl, below_al HB2.out _, .inr ⟨rfl, HX.out⟩⟩
 have HX : Hid (datD patI bs = some ((guP x).1, (guP x).2)) := by rw [Hid, HD.out, patI, if_pos hp]
 obtain ⟨bk, hbk⟩ : ∃ bk, bk = (guP x).1 := ⟨_, rfl⟩
 obtain ⟨xs, hxs⟩ : ∃ xs, xs = (guP x).2 := ⟨_, rfl⟩
 rw [← hbk, ← hxs] at HX ⊢
 rw [← hxs] at hnx hC
 obtain ⟨w3, hw3⟩ : ∃ w3, w3 = w2.alloc (.cells #[.bool bk, .slice A xs.length C] 44) := ⟨_, rfl⟩
 have hb3 : Below w2.heap.size w2 w3 := by rw [hw3]; exact below_al bR _
 have HB3 := h_ (below_on HB1.out (below_on hb2 hb3))
 have HR3 := h_ (HR1.out.on (below_on hb2 hb3) (by have := HS1.out; omega))
 have HNx : Hid (NewX w1 w3 A xs) := hnx.on hb3
 have z0 : w3.cell? ⟨w2.heap.size, 0, none⟩ = some (.bool bk) := by rw [hw3]; simp
 have z1 : w3.cell? ⟨w2.heap.size, 1, none⟩ = some (.slice A xs.length C) := by rw [hw3]; simp
 have HZ := h_ (And.intro z0 z1)
 have HW3 := h_ hw3
 have HCx := h_ hC
 clear hb2 hp hb3 hnx hbk hxs hw3 z0 z1 hC
 go_wp2_with fail
 rw [← HW3.out]
 refine (bneed_any true _).mono ?_
 rintro e w4 ⟨rfl, ⟨rfl, _⟩ | ⟨_, h⟩⟩
 rotate_left
 ·cases h
 obtain ⟨z0, z1⟩ := HZ.out
 have r0 := HR3.out.1 0 _ rfl
 have r1 := HR3.out.1 1 _ rfl
 have f0 := HR3.out.2 0
 have f1 := HR3.out.2 1
 go_wp2_with fail
 obtain ⟨e0, e1⟩ := put2 (.bool bk) (.slice A xs.length C) r0 r1
 have hw1 : w.heap.size < w1.heap.size := by have := HS1.out; omega
 refine bodyPost_ret (v := .agg #[.bool bk, .slice A xs.length C]) (by simp [results, Tryz.results120, go_sem, e0, e1]) rfl ⟨?_, .inl ⟨bk, xs, A, C, rfl, HX.out, HCx.out, ?_⟩⟩
 ·exact ((HB3.out.setCell (p := ⟨w.heap.size, 0, none⟩) (Nat.le_refl _) _).setCell (p := ⟨w.heap.size, 1, none⟩) (Nat.le_refl _) _)
 ·exact ((HNx.out.set hw1 _).set hw1 _).low (by omega)

end Go.Proofs.YtiahakbkagipkaaGreatDoor

namespace Go.Proofs.YtiahakbkagipkaaGreatDoor
open Go Go.RowKit Go.Shelf

attribute [local go_sem] Oper.semAt_some

structure Ex where
 n : Nat
 m : Nat
 g : Nat
 l : Nat
 c : Nat
 b : Bool
 xs : List Cr
def ex0 : Ex := ⟨0, 0, 0, 0, 0, false, []⟩

def PathAt (w : World) (X : Nat) (A : Option Addr) (xs : List Cr) : Prop := xs = [] ∨ ∃ g, A = some ⟨g, 0, none⟩ ∧ X < g ∧ g < w.heap.size ∧ RowX w g xs
def ExAt (w : World) (X : Nat) (x : Ex) : Prop := X < w.heap.size ∧ ∃ A C, RowB w X [.int .u32 x.n, .int .u32 x.m, .int .u64 x.g, .int .u8 x.l, .int .u8 x.c, .bool x.b, .slice A x.xs.length C] ∧ x.xs.length ≤ C ∧ PathAt w X A x.xs

theorem PathAt.on {w w' : World} {X : Nat} {A : Option Addr} {xs : List Cr} (h : PathAt w X A xs) (hb : Below w.heap.size w w') : PathAt w' X A xs := by
 rcases h with h | ⟨g, rfl, h1, h2, h3⟩
 ·exact .inl h
 ·exact .inr ⟨g, rfl, h1, Nat.lt_of_lt_of_le h2 hb.size, h3.kept (hb.block g h2)⟩
theorem PathAt.set {w : World} {X i : Nat} {A : Option Addr} {xs : List Cr} (h : PathAt w X A xs) (u : Value) : PathAt (w.setCell ⟨X, i, none⟩ u) X A xs := by
 rcases h with h | ⟨g, rfl, h1, h2, h3⟩
 ·exact .inl h
 ·exact .inr ⟨g, rfl, h1, by rw [World.size_setCell]; exact h2, h3.kept (Below.heap_setCell _ _ _ _ (Nat.ne_of_gt h1))⟩
theorem PathAt.new {w w' : World} {X : Nat} {A : Option Addr} {xs : List Cr} (h : NewX w w' A xs) (hX : X < w.heap.size) : PathAt w' X A xs := by
 rcases h with h | ⟨g, rfl, h1, h2, h3⟩
 ·exact .inl h
 ·exact .inr ⟨g, rfl, by omega, h2, h3⟩
theorem ExAt.on {w w' : World} {X : Nat} {x : Ex} (h : ExAt w X x) (hb : Below w.heap.size w w') : ExAt w' X x := by
 obtain ⟨hX, A, C, h1, h2, h3⟩ := h
 exact ⟨Nat.lt_of_lt_of_le hX hb.size, A, C, h1.on hb hX, h2, h3.on hb⟩

def TellR (w : World) (X : Nat) (r : Option Ex) (e : Ending) (w' : World) : Prop := But X w w' ∧ ((∃ y, r = some y ∧ e = .returned (.tuple #[]) ∧ ExAt w' X y) ∨ (e = gives 160 ∧ r = none))

theorem tell1_any (a : Option Addr) (n c X : Nat) (x : Ex) (w : World) (hx : ExAt w X x) : Calls Tryz.prog 112 #[.slice a n c] w (TellR w X (some x)) := by
 go_enter Tryz.func112, Tryz.ntmps112
 try go_wp2_with fail
 first | go_end0 | skip
 exact ⟨But.refl _ _, .inl ⟨x, rfl, rfl, hx⟩⟩

theorem tell2_any (a : Option Addr) (n c : Nat) (bs : List UInt8) (hn : n = bs.length) (Bx X : Nat) (x : Ex) (w : World) (hr : RdB w w.heap.size a bs) (hc : n ≤ c) (hc47 : bs.length ≤ 140737488355328) (ht : TabW w) (hx : ExAt w X x) (hB : w.cell? ⟨Bx, 0, none⟩ = some (.pointer (some ⟨X, 0, none⟩))) (hne : Bx ≠ X) :
  Calls Tryz.prog 113 #[.slice a n c, .pointer (some ⟨Bx, 0, none⟩)] w (TellR w X ((datD befI bs).map fun p => ⟨p.1, p.2, x.g, x.l, x.c, x.b, x.xs⟩)) := by
 have hBx := World.block_lt_of_cell? w _ hB
 have hX := hx.1
 have HK := h_ (fun w' (h : Below w.heap.size w w') => bbefore_any a n c bs hn w' ((hr.below h).mono h.size) hc hc47 (ht.on h))
 have HB : Hid (∀ w', Below w.heap.size w w' → w'.cell? ⟨Bx, 0, none⟩ = some (.pointer (some ⟨X, 0, none⟩))) := fun w' h => (h.cell (p := ⟨Bx, 0, none⟩) hBx).trans hB
 have HEx : Hid (∀ w', Below w.heap.size w w' → ExAt w' X x) := fun w' h => hx.on h
 have HX := h_ hX
 have HNe := h_ hne
 clear hr ht hn hc47 hx hB hBx hX hne
 have F0 : Below w.heap.size w w.drew := bR.drew
 go_enter Tryz.func113, Tryz.ntmps113
 try go_wp2_with fail
 refine wp_region_held_drew (S := fun w' => w'.cell? ⟨Bx, 0, none⟩ = some (.pointer (some ⟨X, 0, none⟩))) (by kernel_rfl) (HB.out _ F0) (fun hHeld => ?_)
 refine takeL 0 (v := ?_) ?_ ‹_› ?_
 rotate_left
 ·intro w hSw; (try dsimp only at hSw); go_simp; all_goals with_reducible rfl
 simp only [Act.put, zA, zB, zC]
 refine takeL 1 (v := ?_) ?_ ‹_› ?_
 rotate_left
 ·intro w hSw; (try dsimp only at hSw); go_simp; all_goals with_reducible rfl
 simp only [Act.put, zA, zB, zC]
 refine wpAnyH_ready (rs := [2]) (by kernel_rfl) (by simp) (.cons rfl (fun K hK => ?_) .nil)
 go_simp
 refine (HK.out _ F0).mono ?_
 rintro e w1 ⟨hb, ⟨p, q, rfl, hd⟩ | ⟨rfl, hd⟩⟩
 rotate_left
 ·rw [gives_def]
  exact ⟨rfl, But.of_below (F0.trans (hb.mono F0.size)), .inr ⟨rfl, by rw [hd]; rfl⟩⟩
 have F1 : Below w.heap.size w w1 := below_on F0 hb
 have HD := h_ hd
 obtain ⟨_, A, C, hrow, hC, hpa⟩ := HEx.out w1 F1
 have HRow := h_ hrow
 have HPa := h_ hpa
 have HCx := h_ hC
 clear hd hb hrow hpa hC
 have r0 := HRow.out.1 0 _ rfl
 have fr0 := HRow.out.2 0
 have r1 := HRow.out.1 1 _ rfl
 have fr1 := HRow.out.2 1
 refine hK.out _ _ (HB.out _ F1) (fun hHeld => ?_)
 clear hK K
 try simp only [Act.put, zA, zB, zC]
 refine takeL 3 (v := ?_) ?_ ‹_› ?_
 rotate_left
 ·intro w hSw; (try dsimp only at hSw); go_simp; all_goals with_reducible rfl
 simp only [Act.put, zA, zB, zC]
 refine takeL 4 (v := ?_) ?_ ‹_› ?_
 rotate_left
 ·intro w hSw; (try dsimp only at hSw); go_simp; all_goals with_reducible rfl
 simp only [Act.put, zA, zB, zC]
 refine wpAnyH_ready (rs := [5]) (by kernel_rfl) (by simp) (.cons rfl (fun K hK => ?_) .nil)
 go_simp
 refine hK.out _ _ ((World.cell?_setCell_other _ _ _ _ (by intro h; injection h with h; exact HNe.out h.symm)).trans ((World.cell?_setCell_other _ _ _ _ (by intro h; injection h with h; exact HNe.out h.symm)).trans (HB.out _ F1))) (fun hHeld => ?_)
 clear hK K
 try simp only [Act.put, zA, zB, zC]
 clear hHeld
 refine wpAnyH_done (by kernel_rfl) ?_ _
 have HBut : Hid (But X w ((w1.setCell ⟨X, 0, none⟩ (.int .u32 (p : Int))).setCell ⟨X, 1, none⟩ (.int .u32 (q : Int)))) := (((But.of_below F1).trans (But.set _ _)).trans (But.set _ _))
 have HEn : Hid (ExAt ((w1.setCell ⟨X, 0, none⟩ (.int .u32 (p : Int))).setCell ⟨X, 1, none⟩ (.int .u32 (q : Int))) X ⟨p, q, x.g, x.l, x.c, x.b, x.xs⟩) := ⟨by simp only [World.size_setCell]; exact Nat.lt_of_lt_of_le HX.out F1.size, _, _, ((HRow.out.set 0 (.int .u32 (p : Int))).set 1 (.int .u32 (q : Int))), HCx.out, ((HPa.out.set _).set _)⟩
 go_wp2_with fail
 first | go_end0 | skip
 exact ⟨HBut.out, .inl ⟨_, by rw [HD.out]; rfl, rfl, HEn.out⟩⟩

theorem tell3_any (a : Option Addr) (n c : Nat) (bs : List UInt8) (hn : n = bs.length) (Bx X : Nat) (x : Ex) (w : World) (hr : RdB w w.heap.size a bs) (hc : n ≤ c) (hc47 : bs.length ≤ 140737488355328) (ht : TabW w) (hx : ExAt w X x) (hB : w.cell? ⟨Bx, 0, none⟩ = some (.pointer (some ⟨X, 0, none⟩))) (hne : Bx ≠ X) :
  Calls Tryz.prog 115 #[.slice a n c, .pointer (some ⟨Bx, 0, none⟩)] w (TellR w X ((datD ageI bs).map fun p => ⟨x.n, x.m, p, x.l, x.c, x.b, x.xs⟩)) := by
 have hBx := World.block_lt_of_cell? w _ hB
 have hX := hx.1
 have HK := h_ (fun w' (h : Below w.heap.size w w') => bage_any a n c bs hn w' ((hr.below h).mono h.size) hc hc47 (ht.on h))
 have HB : Hid (∀ w', Below w.heap.size w w' → w'.cell? ⟨Bx, 0, none⟩ = some (.pointer (some ⟨X, 0, none⟩))) := fun w' h => (h.cell (p := ⟨Bx, 0, none⟩) hBx).trans hB
 have HEx : Hid (∀ w', Below w.heap.size w w' → ExAt w' X x) := fun w' h => hx.on h
 have HX := h_ hX
 have HNe := h_ hne
 clear hr ht hn hc47 hx hB hBx hX hne
 have F0 : Below w.heap.size w w.drew := bR.drew
 go_enter Tryz.func115, Tryz.ntmps115
 try go_wp2_with fail
 refine wp_region_held_drew (S := fun w' => w'.cell? ⟨Bx, 0, none⟩ = some (.pointer (some ⟨X, 0, none⟩))) (by kernel_rfl) (HB.out _ F0) (fun hHeld => ?_)
 refine takeL 0 (v := ?_) ?_ ‹_› ?_
 rotate_left
 ·intro w hSw; (try dsimp only at hSw); go_simp; all_goals with_reducible rfl
 simp only [Act.put, zA, zB, zC]
 refine takeL 1 (v := ?_) ?_ ‹_› ?_
 rotate_left
 ·intro w hSw; (try dsimp only at hSw); go_simp; all_goals with_reducible rfl
 simp only [Act.put, zA, zB, zC]
 refine wpAnyH_ready (rs := [2]) (by kernel_rfl) (by simp) (.cons rfl (fun K hK => ?_) .nil)
 go_simp
 refine (HK.out _ F0).mono ?_
 rintro e w1 ⟨hb, ⟨p, rfl, hd⟩ | ⟨rfl, hd⟩⟩
 rotate_left
 ·rw [gives_def]
  exact ⟨rfl, But.of_below (F0.trans (hb.mono F0.size)), .inr ⟨rfl, by rw [hd]; rfl⟩⟩
 have F1 : Below w.heap.size w w1 := below_on F0 hb
 have HD := h_ hd
 obtain ⟨_, A, C, hrow, hC, hpa⟩ := HEx.out w1 F1
 have HRow := h_ hrow
 have HPa := h_ hpa
 have HCx := h_ hC
 clear hd hb hrow hpa hC
 have r2 := HRow.out.1 2 _ rfl
 have fr2 := HRow.out.2 2
 refine hK.out _ _ (HB.out _ F1) (fun hHeld => ?_)
 clear hK K
 try simp only [Act.put, zA, zB, zC]
 refine takeL 3 (v := ?_) ?_ ‹_› ?_
 rotate_left
 ·intro w hSw; (try dsimp only at hSw); go_simp; all_goals with_reducible rfl
 simp only [Act.put, zA, zB, zC]
 refine takeL 4 (v := ?_) ?_ ‹_› ?_
 rotate_left
 ·intro w hSw; (try dsimp only at hSw); go_simp; all_goals with_reducible rfl
 simp only [Act.put, zA, zB, zC]
 refine wpAnyH_ready (rs := [5]) (by kernel_rfl) (by simp) (.cons rfl (fun K hK => ?_) .nil)
 go_simp
 refine hK.out _ _ ((World.cell?_setCell_other _ _ _ _ (by intro h; injection h with h; exact HNe.out h.symm)).trans (HB.out _ F1)) (fun hHeld => ?_)
 clear hK K
 try simp only [Act.put, zA, zB, zC]
 clear hHeld
 refine wpAnyH_done (by kernel_rfl) ?_ _
 have HBut : Hid (But X w (w1.setCell ⟨X, 2, none⟩ (.int .u64 (p : Int)))) := ((But.of_below F1).trans (But.set _ _))
 have HEn : Hid (ExAt (w1.setCell ⟨X, 2, none⟩ (.int .u64 (p : Int))) X ⟨x.n, x.m, p, x.l, x.c, x.b, x.xs⟩) := ⟨by simp only [World.size_setCell]; exact Nat.lt_of_lt_of_le HX.out F1.size, _, _, (HRow.out.set 2 (.int .u64 (p : Int))), HCx.out, (HPa.out.set _)⟩
 go_wp2_with fail
 first | go_end0 | skip
 exact ⟨HBut.out, .inl ⟨_, by rw [HD.out]; rfl, rfl, HEn.out⟩⟩

theorem tell4_any (a : Option Addr) (n c : Nat) (bs : List UInt8) (hn : n = bs.length) (Bx X : Nat) (x : Ex) (w : World) (hr : RdB w w.heap.size a bs) (hc : n ≤ c) (hc47 : bs.length ≤ 140737488355328) (ht : TabW w) (hx : ExAt w X x) (hB : w.cell? ⟨Bx, 0, none⟩ = some (.pointer (some ⟨X, 0, none⟩))) (hne : Bx ≠ X) :
  Calls Tryz.prog 117 #[.slice a n c, .pointer (some ⟨Bx, 0, none⟩)] w (TellR w X ((datD hopI bs).map fun p => ⟨x.n, x.m, x.g, p.1, p.2, x.b, x.xs⟩)) := by
 have hBx := World.block_lt_of_cell? w _ hB
 have hX := hx.1
 have HK := h_ (fun w' (h : Below w.heap.size w w') => bhops_any a n c bs hn w' ((hr.below h).mono h.size) hc hc47 (ht.on h))
 have HB : Hid (∀ w', Below w.heap.size w w' → w'.cell? ⟨Bx, 0, none⟩ = some (.pointer (some ⟨X, 0, none⟩))) := fun w' h => (h.cell (p := ⟨Bx, 0, none⟩) hBx).trans hB
 have HEx : Hid (∀ w', Below w.heap.size w w' → ExAt w' X x) := fun w' h => hx.on h
 have HX := h_ hX
 have HNe := h_ hne
 clear hr ht hn hc47 hx hB hBx hX hne
 have F0 : Below w.heap.size w w.drew := bR.drew
 go_enter Tryz.func117, Tryz.ntmps117
 try go_wp2_with fail
 refine wp_region_held_drew (S := fun w' => w'.cell? ⟨Bx, 0, none⟩ = some (.pointer (some ⟨X, 0, none⟩))) (by kernel_rfl) (HB.out _ F0) (fun hHeld => ?_)
 refine takeL 0 (v := ?_) ?_ ‹_› ?_
 rotate_left
 ·intro w hSw; (try dsimp only at hSw); go_simp; all_goals with_reducible rfl
 simp only [Act.put, zA, zB, zC]
 refine takeL 1 (v := ?_) ?_ ‹_› ?_
 rotate_left
 ·intro w hSw; (try dsimp only at hSw); go_simp; all_goals with_reducible rfl
 simp only [Act.put, zA, zB, zC]
 refine takeL 2 (v := ?_) ?_ ‹_› ?_
 rotate_left
 ·intro w hSw; (try dsimp only at hSw); go_simp; all_goals with_reducible rfl
 simp only [Act.put, zA, zB, zC]
 refine wpAnyH_ready (rs := [3]) (by kernel_rfl) (by simp) (.cons rfl (fun K hK => ?_) .nil)
 go_simp
 refine (HK.out _ F0).mono ?_
 rintro e w1 ⟨hb, ⟨p, q, rfl, hd⟩ | ⟨rfl, hd⟩⟩
 rotate_left
 ·rw [gives_def]
  exact ⟨rfl, But.of_below (F0.trans (hb.mono F0.size)), .inr ⟨rfl, by rw [hd]; rfl⟩⟩
 have F1 : Below w.heap.size w w1 := below_on F0 hb
 have HD := h_ hd
 obtain ⟨_, A, C, hrow, hC, hpa⟩ := HEx.out w1 F1
 have HRow := h_ hrow
 have HPa := h_ hpa
 have HCx := h_ hC
 clear hd hb hrow hpa hC
 have r3 := HRow.out.1 3 _ rfl
 have fr3 := HRow.out.2 3
 have r4 := HRow.out.1 4 _ rfl
 have fr4 := HRow.out.2 4
 refine hK.out _ _ (HB.out _ F1) (fun hHeld => ?_)
 clear hK K
 try simp only [Act.put, zA, zB, zC]
 refine takeL 4 (v := ?_) ?_ ‹_› ?_
 rotate_left
 ·intro w hSw; (try dsimp only at hSw); go_simp; all_goals with_reducible rfl
 simp only [Act.put, zA, zB, zC]
 refine takeL 5 (v := ?_) ?_ ‹_› ?_
 rotate_left
 ·intro w hSw; (try dsimp only at hSw); go_simp; all_goals with_reducible rfl
 simp only [Act.put, zA, zB, zC]
 refine takeL 6 (v := ?_) ?_ ‹_› ?_
 rotate_left
 ·intro w hSw; (try dsimp only at hSw); go_simp; all_goals with_reducible rfl
 simp only [Act.put, zA, zB, zC]
 refine takeL 7 (v := ?_) ?_ ‹_› ?_
 rotate_left
 ·intro w hSw; (try dsimp only at hSw); go_simp; all_goals with_reducible rfl
 simp only [Act.put, zA, zB, zC]
 refine takeL 8 (v := ?_) ?_ ‹_› ?_
 rotate_left
 ·intro w hSw; (try dsimp only at hSw); go_simp; all_goals with_reducible rfl
 simp only [Act.put, zA, zB, zC]
 refine wpAnyH_ready (rs := [9]) (by kernel_rfl) (by simp) (.cons rfl (fun K hK => ?_) .nil)
 go_simp
 refine hK.out _ _ ((World.cell?_setCell_other _ _ _ _ (by intro h; injection h with h; exact HNe.out h.symm)).trans (HB.out _ F1)) (fun hHeld => ?_)
 clear hK K
 try simp only [Act.put, zA, zB, zC]
 refine takeL 10 (v := ?_) ?_ ‹_› ?_
 rotate_left
 ·intro w hSw; (try dsimp only at hSw); go_simp; all_goals with_reducible rfl
 simp only [Act.put, zA, zB, zC]
 refine takeL 11 (v := ?_) ?_ ‹_› ?_
 rotate_left
 ·intro w hSw; (try dsimp only at hSw); go_simp; all_goals with_reducible rfl
 simp only [Act.put, zA, zB, zC]
 refine wpAnyH_ready (rs := [12]) (by kernel_rfl) (by simp) (.cons rfl (fun K hK => ?_) .nil)
 go_simp
 refine hK.out _ _ ((World.cell?_setCell_other _ _ _ _ (by intro h; injection h with h; exact HNe.out h.symm)).trans ((World.cell?_setCell_other _ _ _ _ (by intro h; injection h with h; exact HNe.out h.symm)).trans (HB.out _ F1))) (fun hHeld => ?_)
 clear hK K
 try simp only [Act.put, zA, zB, zC]
 clear hHeld
 refine wpAnyH_done (by kernel_rfl) ?_ _
 have HBut : Hid (But X w ((w1.setCell ⟨X, 3, none⟩ (.int .u8 (p : Int))).setCell ⟨X, 4, none⟩ (.int .u8 (q : Int)))) := (((But.of_below F1).trans (But.set _ _)).trans (But.set _ _))
 have HEn : Hid (ExAt ((w1.setCell ⟨X, 3, none⟩ (.int .u8 (p : Int))).setCell ⟨X, 4, none⟩ (.int .u8 (q : Int))) X ⟨x.n, x.m, x.g, p, q, x.b, x.xs⟩) := ⟨by simp only [World.size_setCell]; exact Nat.lt_of_lt_of_le HX.out F1.size, _, _, ((HRow.out.set 3 (.int .u8 (p : Int))).set 4 (.int .u8 (q : Int))), HCx.out, ((HPa.out.set _).set _)⟩
 go_wp2_with fail
 first | go_end0 | skip
 exact ⟨HBut.out, .inl ⟨_, by rw [HD.out]; rfl, rfl, HEn.out⟩⟩

theorem tell5_any (a : Option Addr) (n c : Nat) (bs : List UInt8) (hn : n = bs.length) (Bx X : Nat) (x : Ex) (w : World) (hr : RdB w w.heap.size a bs) (hc : n ≤ c) (hc47 : bs.length ≤ 140737488355328) (ht : TabW w) (hx : ExAt w X x) (hB : w.cell? ⟨Bx, 0, none⟩ = some (.pointer (some ⟨X, 0, none⟩))) (hne : Bx ≠ X) :
  Calls Tryz.prog 119 #[.slice a n c, .pointer (some ⟨Bx, 0, none⟩)] w (TellR w X ((datD patI bs).map fun p => ⟨x.n, x.m, x.g, x.l, x.c, p.1, p.2⟩)) := by
 have hBx := World.block_lt_of_cell? w _ hB
 have hX := hx.1
 have HK := h_ (fun w' (h : Below w.heap.size w w') => bpath_any a n c bs hn w' ((hr.below h).mono h.size) hc hc47 (ht.on h))
 have HB : Hid (∀ w', Below w.heap.size w w' → w'.cell? ⟨Bx, 0, none⟩ = some (.pointer (some ⟨X, 0, none⟩))) := fun w' h => (h.cell (p := ⟨Bx, 0, none⟩) hBx).trans hB
 have HEx : Hid (∀ w', Below w.heap.size w w' → ExAt w' X x) := fun w' h => hx.on h
 have HX := h_ hX
 have HNe := h_ hne
 clear hr ht hn hc47 hx hB hBx hX hne
 have F0 : Below w.heap.size w w.drew := bR.drew
 go_enter Tryz.func119, Tryz.ntmps119
 try go_wp2_with fail
 refine wp_region_held_drew (S := fun w' => w'.cell? ⟨Bx, 0, none⟩ = some (.pointer (some ⟨X, 0, none⟩))) (by kernel_rfl) (HB.out _ F0) (fun hHeld => ?_)
 refine takeL 0 (v := ?_) ?_ ‹_› ?_
 rotate_left
 ·intro w hSw; (try dsimp only at hSw); go_simp; all_goals with_reducible rfl
 simp only [Act.put, zA, zB, zC]
 refine takeL 1 (v := ?_) ?_ ‹_› ?_
 rotate_left
 ·intro w hSw; (try dsimp only at hSw); go_simp; all_goals with_reducible rfl
 simp only [Act.put, zA, zB, zC]
 refine wpAnyH_ready (rs := [2]) (by kernel_rfl) (by simp) (.cons rfl (fun K hK => ?_) .nil)
 go_simp
 refine (HK.out _ F0).mono ?_
 rintro e w1 ⟨hb, ⟨bk, xs, A5, C5, rfl, hd, hC5, hnx⟩ | ⟨rfl, hd⟩⟩
 rotate_left
 ·rw [gives_def]
  exact ⟨rfl, But.of_below (F0.trans (hb.mono F0.size)), .inr ⟨rfl, by rw [hd]; rfl⟩⟩
 have F1 : Below w.heap.size w w1 := below_on F0 hb
 have HD := h_ hd
 have HC5 := h_ hC5
 have HPn : Hid (PathAt w1 X A5 xs) := PathAt.new hnx (Nat.lt_of_lt_of_le HX.out F0.size)
 clear hC5 hnx
 obtain ⟨_, A, C, hrow, hC, hpa⟩ := HEx.out w1 F1
 have HRow := h_ hrow
 have HPa := h_ hpa
 have HCx := h_ hC
 clear hd hb hrow hpa hC
 have r5 := HRow.out.1 5 _ rfl
 have fr5 := HRow.out.2 5
 have r6 := HRow.out.1 6 _ rfl
 have fr6 := HRow.out.2 6
 refine hK.out _ _ (HB.out _ F1) (fun hHeld => ?_)
 clear hK K
 try simp only [Act.put, zA, zB, zC]
 refine takeL 3 (v := ?_) ?_ ‹_› ?_
 rotate_left
 ·intro w hSw; (try dsimp only at hSw); go_simp; all_goals with_reducible rfl
 simp only [Act.put, zA, zB, zC]
 refine takeL 4 (v := ?_) ?_ ‹_› ?_
 rotate_left
 ·intro w hSw; (try dsimp only at hSw); go_simp; all_goals with_reducible rfl
 simp only [Act.put, zA, zB, zC]
 refine wpAnyH_ready (rs := [5]) (by kernel_rfl) (by simp) (.cons rfl (fun K hK => ?_) .nil)
 go_simp
 refine hK.out _ _ ((World.cell?_setCell_other _ _ _ _ (by intro h; injection h with h; exact HNe.out h.symm)).trans ((World.cell?_setCell_other _ _ _ _ (by intro h; injection h with h; exact HNe.out h.symm)).trans (HB.out _ F1))) (fun hHeld => ?_)
 clear hK K
 try simp only [Act.put, zA, zB, zC]
 clear hHeld
 refine wpAnyH_done (by kernel_rfl) ?_ _
 have HBut : Hid (But X w ((w1.setCell ⟨X, 5, none⟩ (.bool bk)).setCell ⟨X, 6, none⟩ (.slice A5 xs.length C5))) := (((But.of_below F1).trans (But.set _ _)).trans (But.set _ _))
 have HEn : Hid (ExAt ((w1.setCell ⟨X, 5, none⟩ (.bool bk)).setCell ⟨X, 6, none⟩ (.slice A5 xs.length C5)) X ⟨x.n, x.m, x.g, x.l, x.c, bk, xs⟩) := ⟨by simp only [World.size_setCell]; exact Nat.lt_of_lt_of_le HX.out F1.size, A5, C5, ((HRow.out.set 5 (.bool bk)).set 6 (.slice A5 xs.length C5)), HC5.out, ((HPn.out.set _).set _)⟩
 go_wp2_with fail
 first | go_end0 | skip
 exact ⟨HBut.out, .inl ⟨_, by rw [HD.out]; rfl, rfl, HEn.out⟩⟩

theorem brun_update_new (w : World) (es : Array MapEntry) (c : Nat) (k : Int) (v : Value) (hf : Instr.findNow (.int .u64) (.int .u64 k) es.toList 0 = some none) :
  (Instr.mapUpdate 142 (.map (some w.heap.size)) (.int .u64 k) v).run Tryz.prog (w.alloc (.map es c)) = .ok () (w.alloc (.map (es.push { key := .int .u64 k, val := v, born := c }) (c + 1))) := by
 have hb := map_at w es c
 have hc : (Instr.checkKey false 10000 22 (.int .u64 k)).run Tryz.prog (w.alloc (.map es c)) = .ok () (w.alloc (.map es c)) := MapKept.run_checkKey (k := .int .u64 k) Tryz.underlying22 (by simp [MapKept.IsKey]) false 9999
 simp [Instr.mapUpdate, run_underlying Tryz.underlying142, MapKept.run_getObj_map hb, hc, MapKept.run_findKey Tryz.underlying22 hf, MapKept.run_setObj_map _ hb, Result.andThen]
 exact map_set w _ _ _ _

def bE (k f : Nat) (cs : Array Value) (c : Nat) : MapEntry := { key := .int .u64 k, val := .func (.func f) #[] cs, born := c }
def bMap (Bx : Nat) : Array MapEntry := #[bE 1 112 #[] 0, bE 6 113 #[.pointer (some ⟨Bx, 0, none⟩)] 1, bE 7 115 #[.pointer (some ⟨Bx, 0, none⟩)] 2, bE 10 117 #[.pointer (some ⟨Bx, 0, none⟩)] 3, bE 200 119 #[.pointer (some ⟨Bx, 0, none⟩)] 4]

theorem btypes_any (X : Nat) (w : World) : Calls Tryz.prog 84 #[.pointer (some ⟨X, 0, none⟩)] w fun e w' =>
  e = .returned (.map (some (w.heap.size + 1))) ∧ w' = (w.alloc (.cells #[.pointer (some ⟨X, 0, none⟩)] 144)).alloc (.map (bMap w.heap.size) 5) := by
 have hmm := @run_makeMap Tryz.prog
 have hmf : ∀ (fn : Fn) (first cap : Array Value) (w : World), (Instr.makeFunc fn first cap).run Tryz.prog w = .ok (.func fn first cap) w := fun _ _ _ _ => rfl
 obtain ⟨W, hW⟩ : ∃ W, W = w.alloc (.cells #[.pointer (some ⟨X, 0, none⟩)] 144) := ⟨_, rfl⟩
 have hs : W.heap.size = w.heap.size + 1 := by rw [hW]; simp
 have h0 := brun_update_new W #[] 0 1 (.func (.func 112) #[] #[]) rfl
 have h1 := brun_update_new W #[bE 1 112 #[] 0] 1 6 (.func (.func 113) #[] #[.pointer (some ⟨w.heap.size, 0, none⟩)]) rfl
 have h2 := brun_update_new W #[bE 1 112 #[] 0, bE 6 113 #[.pointer (some ⟨w.heap.size, 0, none⟩)] 1] 2 7 (.func (.func 115) #[] #[.pointer (some ⟨w.heap.size, 0, none⟩)]) rfl
 have h3 := brun_update_new W #[bE 1 112 #[] 0, bE 6 113 #[.pointer (some ⟨w.heap.size, 0, none⟩)] 1, bE 7 115 #[.pointer (some ⟨w.heap.size, 0, none⟩)] 2] 3 10 (.func (.func 117) #[] #[.pointer (some ⟨w.heap.size, 0, none⟩)]) rfl
 have h4 := brun_update_new W #[bE 1 112 #[] 0, bE 6 113 #[.pointer (some ⟨w.heap.size, 0, none⟩)] 1, bE 7 115 #[.pointer (some ⟨w.heap.size, 0, none⟩)] 2, bE 10 117 #[.pointer (some ⟨w.heap.size, 0, none⟩)] 3] 4 200 (.func (.func 119) #[] #[.pointer (some ⟨w.heap.size, 0, none⟩)]) rfl
 change _ = Result.ok () (W.alloc (.map #[bE 1 112 #[] 0] 1)) at h0
 change _ = Result.ok () (W.alloc (.map #[bE 1 112 #[] 0, bE 6 113 #[.pointer (some ⟨w.heap.size, 0, none⟩)] 1] 2)) at h1
 change _ = Result.ok () (W.alloc (.map #[bE 1 112 #[] 0, bE 6 113 #[.pointer (some ⟨w.heap.size, 0, none⟩)] 1, bE 7 115 #[.pointer (some ⟨w.heap.size, 0, none⟩)] 2] 3)) at h2
 change _ = Result.ok () (W.alloc (.map #[bE 1 112 #[] 0, bE 6 113 #[.pointer (some ⟨w.heap.size, 0, none⟩)] 1, bE 7 115 #[.pointer (some ⟨w.heap.size, 0, none⟩)] 2, bE 10 117 #[.pointer (some ⟨w.heap.size, 0, none⟩)] 3] 4)) at h3
 change _ = Result.ok () (W.alloc (.map (bMap w.heap.size) 5)) at h4
 rw [hW] at h0 h1 h2 h3 h4
 simp only [World.size_alloc] at h0 h1 h2 h3 h4
 clear hs hW
 go_enter Tryz.func84, Tryz.ntmps84
 go_wp2_with fail
 go_ret
 exact ⟨rfl, rfl⟩

theorem bzero_fn (w : World) : (zeroValue 177).run Tryz.prog w = .ok .nilFunc w := by
 first | rfl | kernel_rfl | simp [zeroValue]

def entV (r : Option (Nat × Value)) : Value := match r with
 | some (_, v) => v
 | none => .nilFunc

theorem run_blookup (w : World) (M Bx : Nat) (k : Int) (r : Option (Nat × Value)) (hb : w.heap[M]? = some (.map (bMap Bx) 5)) (hf : Instr.findNow (.int .u64) (.int .u64 k) (bMap Bx).toList 0 = some r) :
  (Instr.lookup 142 (.map (some M)) (.int .u64 k) true).run Tryz.prog w = .ok (.tuple #[entV r, .bool r.isSome]) w := by
 have hc : (Instr.checkKey false 10000 22 (.int .u64 k)).run Tryz.prog w = .ok () w := MapKept.run_checkKey (k := .int .u64 k) Tryz.underlying22 (by simp [MapKept.IsKey]) false 9999
 have he : (bMap Bx).isEmpty = false := rfl
 cases r with
 | none => simp [Instr.lookup, run_underlying Tryz.underlying142, MapKept.run_getObj_map hb, he, hc, MapKept.run_findKey Tryz.underlying22 hf, Result.andThen, bzero_fn, entV]
 | some p => simp [Instr.lookup, run_underlying Tryz.underlying142, MapKept.run_getObj_map hb, he, hc, MapKept.run_findKey Tryz.underlying22 hf, Result.andThen, entV]

end Go.Proofs.YtiahakbkagipkaaGreatDoor
