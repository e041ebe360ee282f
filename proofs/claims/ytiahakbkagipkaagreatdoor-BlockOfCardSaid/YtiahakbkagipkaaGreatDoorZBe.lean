/- Joined texts. -/
import Derived.Test.YtiahakbkagipkaaGreatDoorZBd
import Derived.Maps.AppendAt
set_option maxHeartbeats 8000000
set_option linter.unusedSimpArgs false
set_option linter.unusedVariables false
set_option maxRecDepth 100000
namespace Go.Proofs.YtiahakbkagipkaaGreatDoor
open Go Go.RowKit Go.Shelf

attribute [local go_sem] Oper.semAt_some

def dataO (x : It) : List UInt8 := if x.err = 0 then x.bytes else []

def ItO (w : World) (r : Except Int It) (e : Ending) (w' : World) : Prop :=
 Below w.heap.size w w' ∧ match r with
  | .ok x => ∃ v, e = .returned (.tuple #[v, .int .i64 0]) ∧ ItS w' (newB w w') v x
  | .error c => c ≠ 0 ∧ ∃ k n a m l s A M C, e = .returned (.tuple #[.agg #[.int .i64 k, .int .u64 n, .slice a m l, .string s, .slice A M C], .int .i64 c])

def madeB (t : Nat) : Except Int It → Except Int Bl
 | .error c => .error c
 | .ok x => .ok ⟨t, 0, 0, dataO x⟩

theorem berr_len {x : It} (h : x.err = 0) : x.bytes.length ≤ 65536 := by
 unfold It.err at h
 split at h
 ·split at h
  ·cases h
  ·split at h
   ·cases h
   ·omega
 ·cases h

theorem encO {w w' : World} {e : Ending} {x : It} (h : EncP w x e w') : ∃ A C z, e = .returned (.tuple #[.slice A (dataO x).length C, .int .i64 z]) ∧ RdBS w' (newB w w') A (dataO x) ∧ (dataO x).length ≤ C ∧ (dataO x).length ≤ 140737488355328 ∧ Below w.heap.size w w' := by
 obtain ⟨hb, ⟨he, rfl⟩ | ⟨he, u, rfl, hown⟩⟩ := h
 ·rw [dataO, if_neg he]
  exact ⟨none, 0, _, rfl, .inl rfl, Nat.le_refl _, Nat.zero_le _, hb⟩
 ·obtain ⟨A, C, rfl, hC, hr, hn⟩ := hown.bytes
  rw [dataO, if_pos he]
  refine ⟨A, C, 0, rfl, ?_, hC, ?_, hb⟩
  ·rcases hr with h | ⟨b, o, e, hlt, hc⟩
   ·exact .inl h
   ·exact .inr ⟨b, o, e, ⟨(hn _ e).1, hlt⟩, hc⟩
  ·have := berr_len he
   omega


theorem madeE_any (n m : Nat) (t : Nat) (r : Except Int It) (w : World) (ht : TabW w) (hd : ∀ x, r = .ok x → x.depth ≤ 60000) (hI : ∀ w', Below w.heap.size w w' → Calls Tryz.prog 73 #[.agg #[.int .u32 n, .int .u32 m]] w' (ItO w' r)) :
  Calls Tryz.prog 72 #[.int .u64 t, .agg #[.int .u32 n, .int .u32 m], .func (.func 73) #[] #[]] w (RdBl w (madeB t r)) := by
 obtain ⟨W, hW⟩ : ∃ W, W = (w.alloc (.cells #[.int .u32 n, .int .u32 m] 41)).alloc (.cells #[.int .u64 0, .int .u64 0, .int .i64 0, .slice none 0 0] 26) := ⟨_, rfl⟩
 have HB0 : Hid (Below w.heap.size w W) := by rw [hW]; exact below_al (below_al bR _) _
 have hsW : w.heap.size + 1 + 1 ≤ W.heap.size := by rw [hW]; simp
 have hR0 : RowB W (w.heap.size + 1) [.int .u64 0, .int .u64 0, .int .i64 0, .slice none 0 0] := by
  have h := RowB.new (w.alloc (.cells #[.int .u32 n, .int .u32 m] 41)) [.int .u64 0, .int .u64 0, .int .i64 0, .slice none 0 0] 26
  rw [hW]
  simpa only [World.size_alloc] using h
 have HR0 := h_ hR0
 have HSW := h_ hsW
 have HT : Hid (∀ w', Below w.heap.size w w' → TabW w') := fun w' h => ht.on h
 have HI := h_ (hI W HB0.out)
 have HD := h_ hd
 have HW := h_ hW
 clear hW hsW ht hd hI hR0
 go_enter Tryz.func72, Tryz.ntmps72
 go_wp2_with fail
 rw [← HW.out]
 refine HI.out.mono ?_
 rintro e w1 ⟨hb1, hm⟩
 have HB1 := h_ (HB0.out.trans (hb1.mono HB0.out.size))
 have HR1 := h_ (HR0.out.on hb1 (by have := HSW.out; omega))
 have HS1 : Hid (w.heap.size + 1 + 1 ≤ w1.heap.size) := Nat.le_trans HSW.out hb1.size
 clear hb1
 cases r with
 | error q =>
  obtain ⟨hq, k0, n0, a0, m0, l0, s0, A0, M0, C0, rfl⟩ := hm
  have hq0 : ((q : Int) == 0) = false := by simp; omega
  clear hq
  go_wp2_with fail
  refine ⟨by first | trivial | rfl, below_al HB1.out _, ?_⟩
  rfl
 | ok x =>
  have hm : ∃ v, e = .returned (.tuple #[v, .int .i64 0]) ∧ ItS w1 (newB W w1) v x := hm
  obtain ⟨v, rfl, hx⟩ := hm
  obtain ⟨a0, c0, A0, C0, rfl⟩ := hx.form
  have HDx := h_ (HD.out x rfl)
  obtain ⟨w2, hw2⟩ : ∃ w2, w2 = w1.alloc (.cells #[.int .i64 x.k, .int .u64 x.n, .slice a0 x.b.length c0, .string ⟨x.s.toArray⟩, .slice A0 x.l.length C0] 83) := ⟨_, rfl⟩
  have hb2 : Below w1.heap.size w1 w2 := by rw [hw2]; exact below_al bR _
  have HV : Hid (ItV w2 w2.heap.size (.agg #[.int .i64 x.k, .int .u64 x.n, .slice a0 x.b.length c0, .string ⟨x.s.toArray⟩, .slice A0 x.l.length C0]) x) := (hx.new_on hb2).new_itV
  have HB2 := h_ (below_on HB1.out hb2)
  have HR2 := h_ (HR1.out.on hb2 (by have := HS1.out; omega))
  have HS2 : Hid (w.heap.size + 1 + 1 ≤ w2.heap.size) := Nat.le_trans HS1.out hb2.size
  have HW2 := h_ hw2
  clear hx hb2 hw2
  go_wp2_with fail
  rw [← HW2.out]
  refine (encode_any x _ w2 HV.out (HT.out w2 HB2.out) HDx.out).mono ?_
  intro e w3 he
  obtain ⟨A, C, z, rfl, hrs, hC, h47, hb3⟩ := encO he
  have HB3 := h_ (below_on HB2.out hb3)
  have HR3 := h_ (HR2.out.on hb3 (by have := HS2.out; omega))
  have hat : BkAt w2 w3 ⟨t, 0, 0, dataO x⟩ (.agg #[.int .u64 t, .int .u64 0, .int .i64 0, .slice A (dataO x).length C]) := ⟨A, C, rfl, hC, h47, hrs⟩
  have HAt := h_ hat
  clear he hrs hC h47 hb3 hat
  obtain ⟨dd, hdd⟩ : ∃ dd, dd = dataO x := ⟨_, rfl⟩
  rw [← hdd] at HAt ⊢
  have HDd := h_ hdd
  clear hdd
  obtain ⟨L, hL⟩ : ∃ L, L = dd.length := ⟨_, rfl⟩
  rw [← hL] at HAt ⊢
  have HL := h_ hL
  clear hL
  have r0 := HR3.out.1 0 _ rfl
  have fr0 := HR3.out.2 0
  have r1 := HR3.out.1 1 _ rfl
  have fr1 := HR3.out.2 1
  have r2 := HR3.out.1 2 _ rfl
  have fr2 := HR3.out.2 2
  have r3 := HR3.out.1 3 _ rfl
  have fr3 := HR3.out.2 3
  go_wp2_with fail
  change bodyPost _ _ _ _ _ (bput4 w3 (w.heap.size + 1) (.int .u64 t) (.int .u64 0) (.int .i64 0) (.slice A L C))
  obtain ⟨s0, s1, s2, s3⟩ := bcells4 (bput4_row HR3.out (.int .u64 t) (.int .u64 0) (.int .i64 0) (.slice A L C))
  have hbk : Below w.heap.size w (bput4 w3 (w.heap.size + 1) (.int .u64 t) (.int .u64 0) (.int .i64 0) (.slice A L C)) := bput4_on HB3.out (by omega) (.int .u64 t) (.int .u64 0) (.int .i64 0) (.slice A L C)
  have hat : BkAt w (bput4 w3 (w.heap.size + 1) (.int .u64 t) (.int .u64 0) (.int .i64 0) (.slice A L C)) ⟨t, 0, 0, dd⟩ (.agg #[.int .u64 t, .int .u64 0, .int .i64 0, .slice A L C]) := (HAt.out.put (by have := HS2.out; omega) (.int .u64 t) (.int .u64 0) (.int .i64 0) (.slice A L C)).low HB2.out.size
  generalize bput4 w3 (w.heap.size + 1) (.int .u64 t) (.int .u64 0) (.int .i64 0) (.slice A L C) = w30 at *
  refine bodyPost_ret (v := .agg #[.int .u64 t, .int .u64 0, .int .i64 0, .slice A L C]) (by simp [results, Tryz.results72, go_sem, s0, s1, s2, s3]) rfl ⟨hbk, ?_⟩
  rw [HDd.out] at hat
  exact ⟨_, rfl, hat⟩

theorem madeU_any (g : Nat) (t : Nat) (r : Except Int It) (w : World) (ht : TabW w) (hd : ∀ x, r = .ok x → x.depth ≤ 60000) (hI : ∀ w', Below w.heap.size w w' → Calls Tryz.prog 75 #[.int .u64 g] w' (ItO w' r)) :
  Calls Tryz.prog 74 #[.int .u64 t, .int .u64 g, .func (.func 75) #[] #[]] w (RdBl w (madeB t r)) := by
 obtain ⟨W, hW⟩ : ∃ W, W = (w).alloc (.cells #[.int .u64 0, .int .u64 0, .int .i64 0, .slice none 0 0] 26) := ⟨_, rfl⟩
 have HB0 : Hid (Below w.heap.size w W) := by rw [hW]; exact below_al bR _
 have hsW : w.heap.size + 1 ≤ W.heap.size := by rw [hW]; simp
 have hR0 : RowB W (w.heap.size) [.int .u64 0, .int .u64 0, .int .i64 0, .slice none 0 0] := by
  have h := RowB.new (w) [.int .u64 0, .int .u64 0, .int .i64 0, .slice none 0 0] 26
  rw [hW]
  simpa only [World.size_alloc] using h
 have HR0 := h_ hR0
 have HSW := h_ hsW
 have HT : Hid (∀ w', Below w.heap.size w w' → TabW w') := fun w' h => ht.on h
 have HI := h_ (hI W HB0.out)
 have HD := h_ hd
 have HW := h_ hW
 clear hW hsW ht hd hI hR0
 go_enter Tryz.func74, Tryz.ntmps74
 go_wp2_with fail
 rw [← HW.out]
 refine HI.out.mono ?_
 rintro e w1 ⟨hb1, hm⟩
 have HB1 := h_ (HB0.out.trans (hb1.mono HB0.out.size))
 have HR1 := h_ (HR0.out.on hb1 (by have := HSW.out; omega))
 have HS1 : Hid (w.heap.size + 1 ≤ w1.heap.size) := Nat.le_trans HSW.out hb1.size
 clear hb1
 cases r with
 | error q =>
  obtain ⟨hq, k0, n0, a0, m0, l0, s0, A0, M0, C0, rfl⟩ := hm
  have hq0 : ((q : Int) == 0) = false := by simp; omega
  clear hq
  go_wp2_with fail
  refine ⟨by first | trivial | rfl, below_al HB1.out _, ?_⟩
  rfl
 | ok x =>
  have hm : ∃ v, e = .returned (.tuple #[v, .int .i64 0]) ∧ ItS w1 (newB W w1) v x := hm
  obtain ⟨v, rfl, hx⟩ := hm
  obtain ⟨a0, c0, A0, C0, rfl⟩ := hx.form
  have HDx := h_ (HD.out x rfl)
  obtain ⟨w2, hw2⟩ : ∃ w2, w2 = w1.alloc (.cells #[.int .i64 x.k, .int .u64 x.n, .slice a0 x.b.length c0, .string ⟨x.s.toArray⟩, .slice A0 x.l.length C0] 83) := ⟨_, rfl⟩
  have hb2 : Below w1.heap.size w1 w2 := by rw [hw2]; exact below_al bR _
  have HV : Hid (ItV w2 w2.heap.size (.agg #[.int .i64 x.k, .int .u64 x.n, .slice a0 x.b.length c0, .string ⟨x.s.toArray⟩, .slice A0 x.l.length C0]) x) := (hx.new_on hb2).new_itV
  have HB2 := h_ (below_on HB1.out hb2)
  have HR2 := h_ (HR1.out.on hb2 (by have := HS1.out; omega))
  have HS2 : Hid (w.heap.size + 1 ≤ w2.heap.size) := Nat.le_trans HS1.out hb2.size
  have HW2 := h_ hw2
  clear hx hb2 hw2
  go_wp2_with fail
  rw [← HW2.out]
  refine (encode_any x _ w2 HV.out (HT.out w2 HB2.out) HDx.out).mono ?_
  intro e w3 he
  obtain ⟨A, C, z, rfl, hrs, hC, h47, hb3⟩ := encO he
  have HB3 := h_ (below_on HB2.out hb3)
  have HR3 := h_ (HR2.out.on hb3 (by have := HS2.out; omega))
  have hat : BkAt w2 w3 ⟨t, 0, 0, dataO x⟩ (.agg #[.int .u64 t, .int .u64 0, .int .i64 0, .slice A (dataO x).length C]) := ⟨A, C, rfl, hC, h47, hrs⟩
  have HAt := h_ hat
  clear he hrs hC h47 hb3 hat
  obtain ⟨dd, hdd⟩ : ∃ dd, dd = dataO x := ⟨_, rfl⟩
  rw [← hdd] at HAt ⊢
  have HDd := h_ hdd
  clear hdd
  obtain ⟨L, hL⟩ : ∃ L, L = dd.length := ⟨_, rfl⟩
  rw [← hL] at HAt ⊢
  have HL := h_ hL
  clear hL
  have r0 := HR3.out.1 0 _ rfl
  have fr0 := HR3.out.2 0
  have r1 := HR3.out.1 1 _ rfl
  have fr1 := HR3.out.2 1
  have r2 := HR3.out.1 2 _ rfl
  have fr2 := HR3.out.2 2
  have r3 := HR3.out.1 3 _ rfl
  have fr3 := HR3.out.2 3
  go_wp2_with fail
  change bodyPost _ _ _ _ _ (bput4 w3 (w.heap.size) (.int .u64 t) (.int .u64 0) (.int .i64 0) (.slice A L C))
  obtain ⟨s0, s1, s2, s3⟩ := bcells4 (bput4_row HR3.out (.int .u64 t) (.int .u64 0) (.int .i64 0) (.slice A L C))
  have hbk : Below w.heap.size w (bput4 w3 (w.heap.size) (.int .u64 t) (.int .u64 0) (.int .i64 0) (.slice A L C)) := bput4_on HB3.out (by omega) (.int .u64 t) (.int .u64 0) (.int .i64 0) (.slice A L C)
  have hat : BkAt w (bput4 w3 (w.heap.size) (.int .u64 t) (.int .u64 0) (.int .i64 0) (.slice A L C)) ⟨t, 0, 0, dd⟩ (.agg #[.int .u64 t, .int .u64 0, .int .i64 0, .slice A L C]) := (HAt.out.put (by have := HS2.out; omega) (.int .u64 t) (.int .u64 0) (.int .i64 0) (.slice A L C)).low HB2.out.size
  generalize bput4 w3 (w.heap.size) (.int .u64 t) (.int .u64 0) (.int .i64 0) (.slice A L C) = w30 at *
  refine bodyPost_ret (v := .agg #[.int .u64 t, .int .u64 0, .int .i64 0, .slice A L C]) (by simp [results, Tryz.results74, go_sem, s0, s1, s2, s3]) rfl ⟨hbk, ?_⟩
  rw [HDd.out] at hat
  exact ⟨_, rfl, hat⟩

theorem madeH_any (p q : Nat) (t : Nat) (r : Except Int It) (w : World) (ht : TabW w) (hd : ∀ x, r = .ok x → x.depth ≤ 60000) (hI : ∀ w', Below w.heap.size w w' → Calls Tryz.prog 77 #[.agg #[.int .u8 p, .int .u8 q]] w' (ItO w' r)) :
  Calls Tryz.prog 76 #[.int .u64 t, .agg #[.int .u8 p, .int .u8 q], .func (.func 77) #[] #[]] w (RdBl w (madeB t r)) := by
 obtain ⟨W, hW⟩ : ∃ W, W = (w.alloc (.cells #[.int .u8 p, .int .u8 q] 133)).alloc (.cells #[.int .u64 0, .int .u64 0, .int .i64 0, .slice none 0 0] 26) := ⟨_, rfl⟩
 have HB0 : Hid (Below w.heap.size w W) := by rw [hW]; exact below_al (below_al bR _) _
 have hsW : w.heap.size + 1 + 1 ≤ W.heap.size := by rw [hW]; simp
 have hR0 : RowB W (w.heap.size + 1) [.int .u64 0, .int .u64 0, .int .i64 0, .slice none 0 0] := by
  have h := RowB.new (w.alloc (.cells #[.int .u8 p, .int .u8 q] 133)) [.int .u64 0, .int .u64 0, .int .i64 0, .slice none 0 0] 26
  rw [hW]
  simpa only [World.size_alloc] using h
 have HR0 := h_ hR0
 have HSW := h_ hsW
 have HT : Hid (∀ w', Below w.heap.size w w' → TabW w') := fun w' h => ht.on h
 have HI := h_ (hI W HB0.out)
 have HD := h_ hd
 have HW := h_ hW
 clear hW hsW ht hd hI hR0
 go_enter Tryz.func76, Tryz.ntmps76
 go_wp2_with fail
 rw [← HW.out]
 refine HI.out.mono ?_
 rintro e w1 ⟨hb1, hm⟩
 have HB1 := h_ (HB0.out.trans (hb1.mono HB0.out.size))
 have HR1 := h_ (HR0.out.on hb1 (by have := HSW.out; omega))
 have HS1 : Hid (w.heap.size + 1 + 1 ≤ w1.heap.size) := Nat.le_trans HSW.out hb1.size
 clear hb1
 cases r with
 | error q =>
  obtain ⟨hq, k0, n0, a0, m0, l0, s0, A0, M0, C0, rfl⟩ := hm
  have hq0 : ((q : Int) == 0) = false := by simp; omega
  clear hq
  go_wp2_with fail
  refine ⟨by first | trivial | rfl, below_al HB1.out _, ?_⟩
  rfl
 | ok x =>
  have hm : ∃ v, e = .returned (.tuple #[v, .int .i64 0]) ∧ ItS w1 (newB W w1) v x := hm
  obtain ⟨v, rfl, hx⟩ := hm
  obtain ⟨a0, c0, A0, C0, rfl⟩ := hx.form
  have HDx := h_ (HD.out x rfl)
  obtain ⟨w2, hw2⟩ : ∃ w2, w2 = w1.alloc (.cells #[.int .i64 x.k, .int .u64 x.n, .slice a0 x.b.length c0, .string ⟨x.s.toArray⟩, .slice A0 x.l.length C0] 83) := ⟨_, rfl⟩
  have hb2 : Below w1.heap.size w1 w2 := by rw [hw2]; exact below_al bR _
  have HV : Hid (ItV w2 w2.heap.size (.agg #[.int .i64 x.k, .int .u64 x.n, .slice a0 x.b.length c0, .string ⟨x.s.toArray⟩, .slice A0 x.l.length C0]) x) := (hx.new_on hb2).new_itV
  have HB2 := h_ (below_on HB1.out hb2)
  have HR2 := h_ (HR1.out.on hb2 (by have := HS1.out; omega))
  have HS2 : Hid (w.heap.size + 1 + 1 ≤ w2.heap.size) := Nat.le_trans HS1.out hb2.size
  have HW2 := h_ hw2
  clear hx hb2 hw2
  go_wp2_with fail
  rw [← HW2.out]
  refine (encode_any x _ w2 HV.out (HT.out w2 HB2.out) HDx.out).mono ?_
  intro e w3 he
  obtain ⟨A, C, z, rfl, hrs, hC, h47, hb3⟩ := encO he
  have HB3 := h_ (below_on HB2.out hb3)
  have HR3 := h_ (HR2.out.on hb3 (by have := HS2.out; omega))
  have hat : BkAt w2 w3 ⟨t, 0, 0, dataO x⟩ (.agg #[.int .u64 t, .int .u64 0, .int .i64 0, .slice A (dataO x).length C]) := ⟨A, C, rfl, hC, h47, hrs⟩
  have HAt := h_ hat
  clear he hrs hC h47 hb3 hat
  obtain ⟨dd, hdd⟩ : ∃ dd, dd = dataO x := ⟨_, rfl⟩
  rw [← hdd] at HAt ⊢
  have HDd := h_ hdd
  clear hdd
  obtain ⟨L, hL⟩ : ∃ L, L = dd.length := ⟨_, rfl⟩
  rw [← hL] at HAt ⊢
  have HL := h_ hL
  clear hL
  have r0 := HR3.out.1 0 _ rfl
  have fr0 := HR3.out.2 0
  have r1 := HR3.out.1 1 _ rfl
  have fr1 := HR3.out.2 1
  have r2 := HR3.out.1 2 _ rfl
  have fr2 := HR3.out.2 2
  have r3 := HR3.out.1 3 _ rfl
  have fr3 := HR3.out.2 3
  go_wp2_with fail
  change bodyPost _ _ _ _ _ (bput4 w3 (w.heap.size + 1) (.int .u64 t) (.int .u64 0) (.int .i64 0) (.slice A L C))
  obtain ⟨s0, s1, s2, s3⟩ := bcells4 (bput4_row HR3.out (.int .u64 t) (.int .u64 0) (.int .i64 0) (.slice A L C))
  have hbk : Below w.heap.size w (bput4 w3 (w.heap.size + 1) (.int .u64 t) (.int .u64 0) (.int .i64 0) (.slice A L C)) := bput4_on HB3.out (by omega) (.int .u64 t) (.int .u64 0) (.int .i64 0) (.slice A L C)
  have hat : BkAt w (bput4 w3 (w.heap.size + 1) (.int .u64 t) (.int .u64 0) (.int .i64 0) (.slice A L C)) ⟨t, 0, 0, dd⟩ (.agg #[.int .u64 t, .int .u64 0, .int .i64 0, .slice A L C]) := (HAt.out.put (by have := HS2.out; omega) (.int .u64 t) (.int .u64 0) (.int .i64 0) (.slice A L C)).low HB2.out.size
  generalize bput4 w3 (w.heap.size + 1) (.int .u64 t) (.int .u64 0) (.int .i64 0) (.slice A L C) = w30 at *
  refine bodyPost_ret (v := .agg #[.int .u64 t, .int .u64 0, .int .i64 0, .slice A L C]) (by simp [results, Tryz.results76, go_sem, s0, s1, s2, s3]) rfl ⟨hbk, ?_⟩
  rw [HDd.out] at hat
  exact ⟨_, rfl, hat⟩

theorem madeP_any (bk : Bool) (ap : Option Addr) (np cp : Nat) (t : Nat) (r : Except Int It) (w : World) (ht : TabW w) (hd : ∀ x, r = .ok x → x.depth ≤ 60000) (hI : ∀ w', Below w.heap.size w w' → Calls Tryz.prog 79 #[.agg #[.bool bk, .slice ap np cp]] w' (ItO w' r)) :
  Calls Tryz.prog 78 #[.int .u64 t, .agg #[.bool bk, .slice ap np cp], .func (.func 79) #[] #[]] w (RdBl w (madeB t r)) := by
 obtain ⟨W, hW⟩ : ∃ W, W = (w.alloc (.cells #[.bool bk, .slice ap np cp] 44)).alloc (.cells #[.int .u64 0, .int .u64 0, .int .i64 0, .slice none 0 0] 26) := ⟨_, rfl⟩
 have HB0 : Hid (Below w.heap.size w W) := by rw [hW]; exact below_al (below_al bR _) _
 have hsW : w.heap.size + 1 + 1 ≤ W.heap.size := by rw [hW]; simp
 have hR0 : RowB W (w.heap.size + 1) [.int .u64 0, .int .u64 0, .int .i64 0, .slice none 0 0] := by
  have h := RowB.new (w.alloc (.cells #[.bool bk, .slice ap np cp] 44)) [.int .u64 0, .int .u64 0, .int .i64 0, .slice none 0 0] 26
  rw [hW]
  simpa only [World.size_alloc] using h
 have HR0 := h_ hR0
 have HSW := h_ hsW
 have HT : Hid (∀ w', Below w.heap.size w w' → TabW w') := fun w' h => ht.on h
 have HI := h_ (hI W HB0.out)
 have HD := h_ hd
 have HW := h_ hW
 clear hW hsW ht hd hI hR0
 go_enter Tryz.func78, Tryz.ntmps78
 go_wp2_with fail
 rw [← HW.out]
 refine HI.out.mono ?_
 rintro e w1 ⟨hb1, hm⟩
 have HB1 := h_ (HB0.out.trans (hb1.mono HB0.out.size))
 have HR1 := h_ (HR0.out.on hb1 (by have := HSW.out; omega))
 have HS1 : Hid (w.heap.size + 1 + 1 ≤ w1.heap.size) := Nat.le_trans HSW.out hb1.size
 clear hb1
 cases r with
 | error q =>
  obtain ⟨hq, k0, n0, a0, m0, l0, s0, A0, M0, C0, rfl⟩ := hm
  have hq0 : ((q : Int) == 0) = false := by simp; omega
  clear hq
  go_wp2_with fail
  refine ⟨by first | trivial | rfl, below_al HB1.out _, ?_⟩
  rfl
 | ok x =>
  have hm : ∃ v, e = .returned (.tuple #[v, .int .i64 0]) ∧ ItS w1 (newB W w1) v x := hm
  obtain ⟨v, rfl, hx⟩ := hm
  obtain ⟨a0, c0, A0, C0, rfl⟩ := hx.form
  have HDx := h_ (HD.out x rfl)
  obtain ⟨w2, hw2⟩ : ∃ w2, w2 = w1.alloc (.cells #[.int .i64 x.k, .int .u64 x.n, .slice a0 x.b.length c0, .string ⟨x.s.toArray⟩, .slice A0 x.l.length C0] 83) := ⟨_, rfl⟩
  have hb2 : Below w1.heap.size w1 w2 := by rw [hw2]; exact below_al bR _
  have HV : Hid (ItV w2 w2.heap.size (.agg #[.int .i64 x.k, .int .u64 x.n, .slice a0 x.b.length c0, .string ⟨x.s.toArray⟩, .slice A0 x.l.length C0]) x) := (hx.new_on hb2).new_itV
  have HB2 := h_ (below_on HB1.out hb2)
  have HR2 := h_ (HR1.out.on hb2 (by have := HS1.out; omega))
  have HS2 : Hid (w.heap.size + 1 + 1 ≤ w2.heap.size) := Nat.le_trans HS1.out hb2.size
  have HW2 := h_ hw2
  clear hx hb2 hw2
  go_wp2_with fail
  rw [← HW2.out]
  refine (encode_any x _ w2 HV.out (HT.out w2 HB2.out) HDx.out).mono ?_
  intro e w3 he
  obtain ⟨A, C, z, rfl, hrs, hC, h47, hb3⟩ := encO he
  have HB3 := h_ (below_on HB2.out hb3)
  have HR3 := h_ (HR2.out.on hb3 (by have := HS2.out; omega))
  have hat : BkAt w2 w3 ⟨t, 0, 0, dataO x⟩ (.agg #[.int .u64 t, .int .u64 0, .int .i64 0, .slice A (dataO x).length C]) := ⟨A, C, rfl, hC, h47, hrs⟩
  have HAt := h_ hat
  clear he hrs hC h47 hb3 hat
  obtain ⟨dd, hdd⟩ : ∃ dd, dd = dataO x := ⟨_, rfl⟩
  rw [← hdd] at HAt ⊢
  have HDd := h_ hdd
  clear hdd
  obtain ⟨L, hL⟩ : ∃ L, L = dd.length := ⟨_, rfl⟩
  rw [← hL] at HAt ⊢
  have HL := h_ hL
  clear hL
  have r0 := HR3.out.1 0 _ rfl
  have fr0 := HR3.out.2 0
  have r1 := HR3.out.1 1 _ rfl
  have fr1 := HR3.out.2 1
  have r2 := HR3.out.1 2 _ rfl
  have fr2 := HR3.out.2 2
  have r3 := HR3.out.1 3 _ rfl
  have fr3 := HR3.out.2 3
  go_wp2_with fail
  change bodyPost _ _ _ _ _ (bput4 w3 (w.heap.size + 1) (.int .u64 t) (.int .u64 0) (.int .i64 0) (.slice A L C))
  obtain ⟨s0, s1, s2, s3⟩ := bcells4 (bput4_row HR3.out (.int .u64 t) (.int .u64 0) (.int .i64 0) (.slice A L C))
  have hbk : Below w.heap.size w (bput4 w3 (w.heap.size + 1) (.int .u64 t) (.int .u64 0) (.int .i64 0) (.slice A L C)) := bput4_on HB3.out (by omega) (.int .u64 t) (.int .u64 0) (.int .i64 0) (.slice A L C)
  have hat : BkAt w (bput4 w3 (w.heap.size + 1) (.int .u64 t) (.int .u64 0) (.int .i64 0) (.slice A L C)) ⟨t, 0, 0, dd⟩ (.agg #[.int .u64 t, .int .u64 0, .int .i64 0, .slice A L C]) := (HAt.out.put (by have := HS2.out; omega) (.int .u64 t) (.int .u64 0) (.int .i64 0) (.slice A L C)).low HB2.out.size
  generalize bput4 w3 (w.heap.size + 1) (.int .u64 t) (.int .u64 0) (.int .i64 0) (.slice A L C) = w30 at *
  refine bodyPost_ret (v := .agg #[.int .u64 t, .int .u64 0, .int .i64 0, .slice A L C]) (by simp [results, Tryz.results78, go_sem, s0, s1, s2, s3]) rfl ⟨hbk, ?_⟩
  rw [HDd.out] at hat
  exact ⟨_, rfl, hat⟩

attribute [local go_sem] Oper.semAt_some

def endR (n m : Nat) : Except Int It := if n = 0 ∧ m ≠ 0 then .error 2 else .ok (itE n m)
def ageR (g : Nat) : Except Int It := if isT g = true then .ok (itU g) else .error 2
def hopR (p q : Nat) : Except Int It := .ok (itLs [itU p, itU q])
def pathR (bk : Bool) (xs : List Cr) : Except Int It := if rightX xs = true then .ok (itP bk xs) else .error 2

theorem endO_any (n m : Nat) (hn : n ≤ 4294967295) (hm : m ≤ 4294967295) (w : World) :
  Calls Tryz.prog 73 #[.agg #[.int .u32 n, .int .u32 m]] w (ItO w (endR n m)) := by
 by_cases h : n = 0 ∧ m ≠ 0
 ·rw [endR, if_pos h]
  obtain ⟨rfl, hm0⟩ := h
  refine (item_no (m : Int) (by omega) w).mono ?_
  rintro e w' ⟨rfl, hb⟩
  exact ⟨hb, by decide, 0, 0, none, 0, 0, ⟨#[]⟩, none, 0, 0, rfl⟩
 ·rw [endR, if_neg h]
  refine (nitem_any n m (by omega) hn hm w).mono ?_
  rintro e w' ⟨⟨v, rfl, hv⟩, hb⟩
  exact ⟨hb, v, rfl, hv⟩

theorem pathO_any (bk : Bool) (a : Option Addr) (c : Nat) (xs : List Cr) (w : World) (hlen : xs.length ≤ 800000) (hr : RdX w w.heap.size a xs) :
  Calls Tryz.prog 79 #[.agg #[.bool bk, .slice a xs.length c]] w (ItO w (pathR bk xs)) := by
 refine (ppItem_any bk a c xs w hlen hr).mono ?_
 rintro e w' ⟨hb, ⟨h, a', c', A, C, rfl, hv⟩ | ⟨h, rfl⟩⟩
 ·rw [pathR, if_pos h]
  exact ⟨hb, _, rfl, hv⟩
 ·rw [pathR, if_neg (by rw [h]; decide)]
  exact ⟨hb, by decide, 0, 0, none, 0, 0, ⟨#[]⟩, none, 0, 0, rfl⟩

theorem ageO_any (g : Nat) (hg : g < 18446744073709551616) (w : World) :
  Calls Tryz.prog 75 #[.int .u64 g] w (ItO w (ageR g)) := by
 obtain ⟨W, hW⟩ : ∃ W, W = w.alloc (.cells #[.int .i64 0, .int .u64 0, .slice none 0 0, .string ⟨#[]⟩, .slice none 0 0] 83) := ⟨_, rfl⟩
 have HB0 : Hid (Below w.heap.size w W) := by rw [hW]; exact below_al bR _
 have hsW : w.heap.size + 1 ≤ W.heap.size := by rw [hW]; simp
 have HR0 : Hid (RowB W w.heap.size [.int .i64 0, .int .u64 0, .slice none 0 0, .string ⟨#[]⟩, .slice none 0 0]) := by rw [hW]; exact RowB.new w [.int .i64 0, .int .u64 0, .slice none 0 0, .string ⟨#[]⟩, .slice none 0 0] 83
 have HSW := h_ hsW
 have HG := h_ hg
 have HW := h_ hW
 have HA : Hid (ageR g = if isT g = true then .ok (itU g) else .error 2) := rfl
 have HC := h_ (fun w => check_one (g : Int) w)
 clear hW hsW hg
 obtain ⟨b, hb⟩ : ∃ b, b = isT g := ⟨_, rfl⟩
 rw [← hb] at HA HC
 clear hb
 go_enter Tryz.func75, Tryz.ntmps75
 go_wp2_with fail
 rw [← HW.out]
 refine (buint_any g W).mono ?_
 rintro e w1 ⟨rfl, hb1⟩
 have HB1 := h_ (HB0.out.trans (hb1.mono HB0.out.size))
 have HR1 := h_ (HR0.out.on hb1 (by have := HSW.out; omega))
 have HS1 : Hid (w.heap.size + 1 ≤ w1.heap.size) := Nat.le_trans HSW.out hb1.size
 clear hb1
 go_wp2_with fail
 refine (HC.out w1).mono ?_
 rintro e w2 ⟨rfl, rfl⟩
 obtain ⟨w2, hw2⟩ : ∃ w2, w2 = w1.alloc (.cells #[.int .u64 g] 22) := ⟨_, rfl⟩
 have hb2 : Below w1.heap.size w1 w2 := by rw [hw2]; exact below_al bR _
 have HB2 := h_ (below_on HB1.out hb2)
 have HR2 := h_ (HR1.out.on hb2 (by have := HS1.out; omega))
 rw [← hw2]
 clear hb2 hw2
 have r0 := HR2.out.1 0 _ rfl
 have fr0 := HR2.out.2 0
 have r1 := HR2.out.1 1 _ rfl
 have fr1 := HR2.out.2 1
 have r2 := HR2.out.1 2 _ rfl
 have fr2 := HR2.out.2 2
 have r3 := HR2.out.1 3 _ rfl
 have fr3 := HR2.out.2 3
 have r4 := HR2.out.1 4 _ rfl
 have fr4 := HR2.out.2 4
 go_wp2_with fail
 change bodyPost _ _ _ _ _ (set5 w2 w.heap.size (.int .i64 1) (.int .u64 g) (.slice none 0 0) (.string ⟨#[]⟩) (.slice none 0 0))
 obtain ⟨s0, s1, s2, s3, s4⟩ := set5_cells r0 r1 r2 r3 r4 (.int .i64 1) (.int .u64 g) (.slice none 0 0) (.string ⟨#[]⟩) (.slice none 0 0)
 have hbk : Below w.heap.size w (set5 w2 w.heap.size (.int .i64 1) (.int .u64 g) (.slice none 0 0) (.string ⟨#[]⟩) (.slice none 0 0)) := set5_on HB2.out (Nat.le_refl _) (.int .i64 1) (.int .u64 g) (.slice none 0 0) (.string ⟨#[]⟩) (.slice none 0 0)
 generalize set5 w2 w.heap.size (.int .i64 1) (.int .u64 g) (.slice none 0 0) (.string ⟨#[]⟩) (.slice none 0 0) = w30 at *
 refine bodyPost_ret (v := .tuple #[.agg #[.int .i64 1, .int .u64 g, .slice none 0 0, .string ⟨#[]⟩, .slice none 0 0], .int .i64 (chkT b)]) (by simp [results, Tryz.results75, go_sem, s0, s1, s2, s3, s4]) rfl ⟨hbk, ?_⟩
 rw [HA.out]
 cases b
 ·exact ⟨by decide, 1, g, none, 0, 0, ⟨#[]⟩, none, 0, 0, rfl⟩
 ·exact ⟨_, rfl, itS_uint _ _ _ ⟨by omega, by have := HG.out; omega⟩⟩

theorem hopO_any (p q : Nat) (hp : p ≤ 255) (hq : q ≤ 255) (w : World) :
  Calls Tryz.prog 77 #[.agg #[.int .u8 p, .int .u8 q]] w (ItO w (hopR p q)) := by
 obtain ⟨W, hW⟩ : ∃ W, W = (w.alloc (.cells #[.int .u8 p, .int .u8 q] 133)).alloc (.cells #[.int .i64 0, .int .u64 0, .slice none 0 0, .string ⟨#[]⟩, .slice none 0 0] 83) := ⟨_, rfl⟩
 have HB0 : Hid (Below w.heap.size w W) := by rw [hW]; exact below_al (below_al bR _) _
 have HX : Hid (∀ w', Below W.heap.size W w' → (w'.cell? ⟨w.heap.size, 0, none⟩ = some (.int .u8 p) ∧ w'.cell? ⟨w.heap.size, 1, none⟩ = some (.int .u8 q)) ∧ ∀ i, w'.cell? ⟨w.heap.size + 1, i, none⟩ = (#[Value.int .i64 0, .int .u64 0, .slice none 0 0, .string ⟨#[]⟩, .slice none 0 0])[i]? ∧ w'.frozen? ⟨w.heap.size + 1, i, none⟩ = false) := fun w' h => by
  rw [hW] at h
  have h1 := below_on (below_al (Below.refl _ (w.alloc (.cells #[.int .u8 p, .int .u8 q] 133))) (.cells #[.int .i64 0, .int .u64 0, .slice none 0 0, .string ⟨#[]⟩, .slice none 0 0] 83)) h
  refine ⟨⟨box_at h1 0, box_at h1 1⟩, fun i => ?_⟩
  have q2 := box_at h i
  have f2 := frozen_at h i
  rw [World.size_alloc] at q2 f2
  exact ⟨q2, f2⟩
 have HWs : Hid (W.heap.size = w.heap.size + 2) := by rw [hW]; simp [Hid]
 have HW := h_ hW
 clear hW
 have hcp : IntKind.u64.wrap (p : Int) = (p : Int) := by rw [IntKind.wrap_u64]; omega
 have hcq : IntKind.u64.wrap (q : Int) = (q : Int) := by rw [IntKind.wrap_u64]; omega
 go_enter Tryz.func77, Tryz.ntmps77
 go_wp2_with fail
 rw [← HW.out]
 have F : Below W.heap.size W W.drew := bR.drew
 refine wp_region_T (fun w' => w'.cell? ⟨w.heap.size, 0, none⟩ = some (.int .u8 p) ∧ w'.cell? ⟨w.heap.size, 1, none⟩ = some (.int .u8 q)) 10 (by kernel_rfl) ?_
 refine wpAnyT_take (i := 0) (v := ?_) rfl (by kernel_rfl) (by kernel_rfl) (by kernel_rfl) (by kernel_rfl) (fun _ _ _ h => h) (Or.inl ⟨by rfl, ?_⟩) (HX.out _ F).1 ?_
 rotate_left
 ·intro w hSw; (try dsimp only at hSw); go_simp; all_goals with_reducible rfl
 simp only [Act.put, zA, zB, zC]
 refine wpAnyT_take (i := 1) (v := ?_) rfl (by kernel_rfl) (by kernel_rfl) (by kernel_rfl) (by kernel_rfl) (fun _ _ _ h => h) (Or.inl ⟨by rfl, ?_⟩) (HX.out _ F).1 ?_
 rotate_left
 ·intro w hSw; (try dsimp only at hSw); go_simp; all_goals with_reducible rfl
 simp only [Act.put, zA, zB, zC]
 refine wpAnyT_take (i := 2) (v := ?_) rfl (by kernel_rfl) (by kernel_rfl) (by kernel_rfl) (by kernel_rfl) (fun _ _ _ h => h) (Or.inl ⟨by rfl, ?_⟩) (HX.out _ F).1 ?_
 rotate_left
 ·intro w hSw; (try dsimp only at hSw); go_simp; all_goals with_reducible rfl
 simp only [Act.put, zA, zB, zC]
 refine wpAnyT_take (i := 4) (v := ?_) rfl (by kernel_rfl) (by kernel_rfl) (by kernel_rfl) (by kernel_rfl) (fun _ _ _ h => h) (Or.inl ⟨by rfl, ?_⟩) (HX.out _ F).1 ?_
 rotate_left
 ·intro w hSw; (try dsimp only at hSw); go_simp; all_goals with_reducible rfl
 simp only [Act.put, zA, zB, zC]
 refine wpAnyT_take (i := 5) (v := ?_) rfl (by kernel_rfl) (by kernel_rfl) (by kernel_rfl) (by kernel_rfl) (fun _ _ _ h => h) (Or.inl ⟨by rfl, ?_⟩) (HX.out _ F).1 ?_
 rotate_left
 ·intro w hSw; (try dsimp only at hSw); go_simp; all_goals with_reducible rfl
 simp only [Act.put, zA, zB, zC]
 refine wpAnyT_take (i := 6) (v := ?_) rfl (by kernel_rfl) (by kernel_rfl) (by kernel_rfl) (by kernel_rfl) (fun _ _ _ h => h) (Or.inl ⟨by rfl, ?_⟩) (HX.out _ F).1 ?_
 rotate_left
 ·intro w hSw; (try dsimp only at hSw); go_simp; all_goals with_reducible rfl
 simp only [Act.put, zA, zB, zC]
 refine wpAnyT_one (i := 3) (by kernel_rfl) rfl (fun K hK => ?_)
 go_simp
 refine (buint_any _ _).mono ?_
 rintro e w1 ⟨rfl, hb⟩
 replace F := below_on F hb
 clear hb
 refine hK.out _ _ (fun _ => (HX.out _ F).1) ?_
 clear hK K
 try simp only [Act.put, zA, zB, zC]
 refine wpAnyT_one (i := 7) (by kernel_rfl) rfl (fun K hK => ?_)
 go_simp
 refine (buint_any _ _).mono ?_
 rintro e w2 ⟨rfl, hb⟩
 replace F := below_on F hb
 clear hb
 refine hK.out _ _ (fun _ => (HX.out _ F).1) ?_
 clear hK K
 try simp only [Act.put, zA, zB, zC]
 refine wpAnyT_one (i := 8) (by kernel_rfl) rfl (fun K hK => ?_)
 go_simp
 have hs2 := F.size
 replace F := below_al F (.cells #[.int .i64 1, .int .u64 p, .slice none 0 0, .string ⟨#[]⟩, .slice none 0 0, .int .i64 1, .int .u64 q, .slice none 0 0, .string ⟨#[]⟩, .slice none 0 0] 83)
 refine hK.out _ _ (fun _ => (HX.out _ F).1) ?_
 clear hK K
 try simp only [Act.put, zA, zB, zC]
 refine wpAnyT_one (i := 9) (by kernel_rfl) rfl (fun K hK => ?_)
 go_simp
 refine (blist_any _ _ _ _).mono ?_
 rintro e w4 ⟨rfl, hb⟩
 have hx : ItS w4 (newB W w4) (listV (some ⟨w2.heap.size, 0, none⟩) 2 2) (itLs [itU p, itU q]) := itS_two ⟨hs2, Nat.lt_of_lt_of_le (by simp) hb.size⟩ ⟨_, _, _, _, _, rfl, box_at hb 0, box_at hb 1, box_at hb 2, box_at hb 3, box_at hb 4⟩ ⟨_, _, _, _, _, rfl, box_at hb 5, box_at hb 6, box_at hb 7, box_at hb 8, box_at hb 9⟩ (itS_uint _ _ _ ⟨by omega, by omega⟩) (itS_uint _ _ _ ⟨by omega, by omega⟩)
 have HItl := h_ hx
 replace F := below_on F hb
 clear hb hx hs2
 obtain ⟨_, hbx⟩ := HX.out w4 F
 obtain ⟨d0, f0⟩ := hbx 0
 obtain ⟨d1, f1⟩ := hbx 1
 obtain ⟨d2, f2⟩ := hbx 2
 obtain ⟨d3, f3⟩ := hbx 3
 obtain ⟨d4, f4⟩ := hbx 4
 clear hbx
 refine hK.out _ _ (fun _ => (HX.out _ F).1) ?_
 clear hK K
 try simp only [Act.put, zA, zB, zC]
 refine wpAnyT_one (i := 10) (by kernel_rfl) rfl (fun K hK => ?_)
 go_simp
 refine hK.out _ _ (fun h => absurd h (by decide)) ?_
 clear hK K
 try simp only [Act.put, zA, zB, zC]
 refine wpAnyT_one (i := 11) (by kernel_rfl) rfl (fun K hK => ?_)
 go_simp
 refine hK.out _ _ (fun h => absurd h (by decide)) ?_
 clear hK K
 try simp only [Act.put, zA, zB, zC]
 refine wpAnyT_done (by kernel_rfl) ?_ _
 have HF0 := h_ F
 have hq := set5_cells d0 d1 d2 d3 d4 (.int .i64 4) (.int .u64 0) (.slice none 0 0) (.string ⟨#[]⟩) (.slice (some ⟨w2.heap.size, 0, none⟩) 2 2)
 have hbel := set5_on (g := w.heap.size + 1) (HB0.out.trans (F.mono HB0.out.size)) (by omega) (.int .i64 4) (.int .u64 0) (.slice none 0 0) (.string ⟨#[]⟩) (.slice (some ⟨w2.heap.size, 0, none⟩) 2 2)
 have hit : ItS (set5 w4 (w.heap.size + 1) (.int .i64 4) (.int .u64 0) (.slice none 0 0) (.string ⟨#[]⟩) (.slice (some ⟨w2.heap.size, 0, none⟩) 2 2)) (newB w (set5 w4 (w.heap.size + 1) (.int .i64 4) (.int .u64 0) (.slice none 0 0) (.string ⟨#[]⟩) (.slice (some ⟨w2.heap.size, 0, none⟩) 2 2))) (.agg #[.int .i64 4, .int .u64 0, .slice none 0 0, .string ⟨#[]⟩, .slice (some ⟨w2.heap.size, 0, none⟩) 2 2]) (itLs [itU p, itU q]) :=
  ItS.more (fun b hb => ⟨by have := hb.1; have := HWs.out; omega, by rw [set5_size]; exact hb.2⟩) _ (ItS.keep (fun b hb => set5_block (by have := hb.1; have := HWs.out; omega) _ _ _ _ _) _ HItl.out)
 have HF := h_ (⟨hq, hbel, hit⟩ : _ ∧ _ ∧ _)
 clear hq hbel hit d0 d1 d2 d3 d4 f0 f1 f2 f3 f4
 unfold set5 at HF
 go_wp2_with fail
 obtain ⟨⟨q0, q1, q2, q3, q4⟩, hbel, hit⟩ := HF.out
 exact bodyPost_ret (v := .tuple #[.agg #[.int .i64 4, .int .u64 0, .slice none 0 0, .string ⟨#[]⟩, .slice (some ⟨w2.heap.size, 0, none⟩) 2 2], .int .i64 0]) (by simp [results, Tryz.results77, go_sem, q0, q1, q2, q3, q4]) rfl ⟨hbel, _, rfl, hit⟩

attribute [local go_sem] Oper.semAt_some

structure LB where
 b : Bl
 a : Option Addr
 c : Nat
def LB.vs (x : LB) : List Value := [.int .u64 x.b.t, .int .u64 x.b.n, .int .i64 x.b.s, .slice x.a x.b.d.length x.c]
def flatB : List LB → List Value
 | [] => []
 | x :: r => x.vs ++ flatB r
theorem flatB_app : ∀ (xs ys : List LB), flatB (xs ++ ys) = flatB xs ++ flatB ys
 | [], _ => rfl
 | x :: r, ys => by simp [flatB, flatB_app r ys]
theorem flatB_one (x : LB) : flatB [x] = x.vs := by simp [flatB]

def LB.ok (w0 w : World) (v : Value) (x : LB) : Prop := x.b.d.length ≤ x.c ∧ x.b.d.length ≤ 140737488355328 ∧ RdBS w (newButs w0 w v) x.a x.b.d

def LsB (w0 w : World) (v : Value) (l : List Bl) : Prop := ∃ xs : List LB, xs.map LB.b = l ∧ w.ownsRow w0.heap.size 26 4 v xs.length (flatB xs) ∧ ∀ x ∈ xs, x.ok w0 w v

theorem LsB.nil (w0 w : World) : LsB w0 w (.slice none 0 0) [] := ⟨[], rfl, World.ownsRow_nil _ _ _ _, by simp⟩

theorem LB.ok.on {w0 w w' : World} {v : Value} {x : LB} (h : x.ok w0 w v) (hs : w.heap.size ≤ w'.heap.size) (hk : ∀ j, w0.heap.size ≤ j → j < w.heap.size → w'.heap[j]? = w.heap[j]?) : x.ok w0 w' v :=
 ⟨h.1, h.2.1, RdBS.more (RdBS.keep h.2.2 fun j hj => hk j hj.1.1 hj.1.2) fun j hj => ⟨⟨hj.1.1, Nat.lt_of_lt_of_le hj.1.2 hs⟩, hj.2⟩⟩

theorem LsB.on {w0 w w' : World} {v : Value} {l : List Bl} (h : LsB w0 w v l) (hs : w.heap.size ≤ w'.heap.size) (hk : ∀ j, w0.heap.size ≤ j → j < w.heap.size → w'.heap[j]? = w.heap[j]?) : LsB w0 w' v l := by
 obtain ⟨xs, hl, ho, hx⟩ := h
 refine ⟨xs, hl, ⟨ho.1, ?_⟩, fun x q => (hx x q).on hs hk⟩
 rcases ho.2 with hn | ⟨g, cap, cur, rfl, hb, hg, rest⟩
 ·exact .inl hn
 ·exact .inr ⟨g, cap, cur, rfl, hb, (hk g hb (Array.getElem?_eq_some_iff.1 hg).1).trans hg, rest⟩

theorem LsB.slice {w0 w : World} {v : Value} {l : List Bl} (h : LsB w0 w v l) : ∃ A C, v = .slice A l.length C ∧ l.length ≤ C := by
 obtain ⟨xs, rfl, ho, hx⟩ := h
 rw [List.length_map]
 rcases ho.2 with ⟨rfl, hn⟩ | ⟨g, cap, cur, rfl, hb, hg, hn, _⟩
 ·rw [hn]
  exact ⟨none, 0, rfl, Nat.le_refl _⟩
 ·exact ⟨_, cap, rfl, hn⟩

theorem LsB.own {w0 w : World} {v : Value} {l : List Bl} (h : LsB w0 w v l) : ∀ j, v.ownBlock = some j → w0.heap.size ≤ j ∧ j < w.heap.size := by
 obtain ⟨xs, _, ho, _⟩ := h
 exact ho.lt

theorem info_block : (Tryz.prog.info? 26).map (fun i => (i.zero, i.size, i.bytes)) = some (some (.agg #[.int .u64 0, .int .u64 0, .int .i64 0, .slice none 0 0]), 4, 48) := by kernel_rfl

theorem lsB_one {w0 w : World} {v : Value} {l : List Bl} (x : LB) (h : LsB w0 w v l) (h0 : w0.heap.size ≤ w.heap.size) (hx : x.ok w0 w v) (hlen : l.length ≤ 100000) :
  ∃ v' w2, (Builtin.append_ #[47, 47] 47 #[v, .slice (some ⟨w.heap.size, 0, none⟩) 1 1]).run Tryz.prog (w.alloc (.cells #[.int .u64 x.b.t, .int .u64 x.b.n, .int .i64 x.b.s, .slice x.a x.b.d.length x.c] 26)) = .ok v' w2 ∧
   LsB w0 w2 v' (l ++ [x.b]) ∧ Below w0.heap.size w w2 ∧ w.heap.size ≤ w2.heap.size := by
 obtain ⟨xs, rfl, ho, hxs⟩ := h
 rw [List.length_map] at hlen
 obtain ⟨i, hi, hz0, hsz0, hb⟩ := info_parts info_block
 have hsz : (w.alloc (.cells #[.int .u64 x.b.t, .int .u64 x.b.n, .int .i64 x.b.s, .slice x.a x.b.d.length x.c] 26)).heap.size = w.heap.size + 1 := by simp
 obtain ⟨v', w', hrun, h2, h3, _, h5⟩ := run_append_own_at (P := Tryz.prog) (w.alloc (.cells #[.int .u64 x.b.t, .int .u64 x.b.n, .int .i64 x.b.s, .slice x.a x.b.d.length x.c] 26)) w0.heap.size 47 47 26 i _ 4 48 Tryz.underlying47 hi hz0 hsz0 hb rfl (by decide) v xs.length (flatB xs) (ho.alloc _) ⟨w.heap.size, 0, none⟩ 1 1 x.vs rfl (by
   intro j u hu
   rw [mk_addr_add, Nat.zero_add, World.cell?_alloc_mark]
   simpa [LB.vs] using hu) (by intro u hu; simp [LB.vs] at hu; rcases hu with rfl | rfl | rfl | rfl <;> rfl) (by unfold maxLen; omega) (by omega) (by rw [hsz]; omega)
 refine ⟨v', w', hrun, ⟨xs ++ [x], by simp, ?_, ?_⟩, ?_, ?_⟩
 ·rw [List.length_append, flatB_app, flatB_one]
  exact h2
 ·have hok : ∀ y : LB, y.ok w0 w v → y.ok w0 w' v' := fun y hy => ⟨hy.1, hy.2.1, RdBS.more (RdBS.keep hy.2.2 fun j hj => (h3.block j (by rw [hsz]; have := hj.1.2; omega) (fun e => hj.2 e.symm)).trans (Below.heap_alloc _ _ _ hj.1.2)) fun j hj => ⟨⟨hj.1.1, by have := h3.size; rw [hsz] at this; have := hj.1.2; omega⟩, fun e => by
      rcases h5 with h5 | h5
      ·exact hj.2 (h5.symm.trans e)
      ·rw [h5, hsz] at e
       injection e with e
       have := hj.1.2
       omega⟩⟩
  intro y hy
  rcases List.mem_append.1 hy with h | h
  ·exact hok y (hxs y h)
  ·obtain rfl : y = x := by simpa using h
   exact hok y hx
 ·refine ((Below.refl w0.heap.size w).alloc h0 _).grown h3 (by rw [hsz]; omega) (fun r e => (ho.lt r e).1)
 ·have := h3.size
  rw [hsz] at this
  omega

structure ButL (B P : Nat) (w w' : World) : Prop where
 os : w'.os = w.os
 tape : w'.tape = w.tape
 output : w'.output = w.output
 size : w.heap.size ≤ w'.heap.size
 block : ∀ j, j < B → j ≠ P → w'.heap[j]? = w.heap[j]?

theorem ButL.refl (B P : Nat) (w : World) : ButL B P w w := ⟨rfl, rfl, rfl, Nat.le_refl _, fun _ _ _ => rfl⟩
theorem ButL.trans {B P : Nat} {a b c : World} (h : ButL B P a b) (k : ButL B P b c) : ButL B P a c :=
 ⟨k.os.trans h.os, k.tape.trans h.tape, k.output.trans h.output, Nat.le_trans h.size k.size, fun i hi hne => (k.block i hi hne).trans (h.block i hi hne)⟩
theorem ButL.of_below {B P : Nat} {w w' : World} (h : Below B w w') (hs : w.heap.size ≤ w'.heap.size) : ButL B P w w' := ⟨h.os, h.tape, h.output, hs, fun k hk _ => h.block k hk⟩
theorem ButL.set {B P : Nat} (w : World) (v : Value) : ButL B P w (w.setCell ⟨P, 0, none⟩ v) :=
 ⟨rfl, rfl, rfl, by rw [World.size_setCell]; exact Nat.le_refl _, fun k _ hne => Below.heap_setCell w _ _ k hne⟩
theorem ButL.below {B b P : Nat} {w w' : World} (h : ButL B P w w') (hb : b ≤ P) (hB : b ≤ B) : Below b w w' :=
 ⟨h.os, h.tape, h.output, h.size, fun k hk => h.block k (by omega) (by omega)⟩
theorem ButL.cell {B P b o : Nat} {w w' : World} (h : ButL B P w w') (hb : b < B) (hne : b ≠ P) : w'.cell? ⟨b, o, none⟩ = w.cell? ⟨b, o, none⟩ :=
 World.cell?_of_block (w := w) (h.block b hb hne)

theorem badd_any (P K : Nat) (x : LB) (w0 w : World) (v : Value) (l : List Bl) (k : Int) (hP : w.cell? ⟨P, 0, none⟩ = some v) (hPf : w.frozen? ⟨P, 0, none⟩ = false) (hPw : P < w0.heap.size) (hK : w.cell? ⟨K, 0, none⟩ = some (.int .i64 k)) (h0 : w0.heap.size ≤ w.heap.size) (hl : LsB w0 w v l) (hx : x.ok w0 w v) (hlen : l.length ≤ 1000) :
  Calls Tryz.prog 71 #[.agg #[.int .u64 x.b.t, .int .u64 x.b.n, .int .i64 x.b.s, .slice x.a x.b.d.length x.c], .pointer (some ⟨P, 0, none⟩), .pointer (some ⟨K, 0, none⟩)] w fun e w' => e = .returned (.tuple #[]) ∧
   ∃ v', w'.cell? ⟨P, 0, none⟩ = some v' ∧ w'.frozen? ⟨P, 0, none⟩ = false ∧ LsB w0 w' v' (l ++ [⟨x.b.t, 2 + l.length, k, x.b.d⟩]) ∧ ButL w0.heap.size P w w' := by
 obtain ⟨A, C, rfl, hC⟩ := hl.slice
 obtain ⟨W, hW⟩ : ∃ W, W = w.alloc (.cells #[.int .u64 x.b.t, .int .u64 x.b.n, .int .i64 x.b.s, .slice x.a x.b.d.length x.c] 26) := ⟨_, rfl⟩
 have hPW : P < w.heap.size := by omega
 have hKW := World.block_lt_of_cell? w _ hK
 have HB0 : Hid (Below w.heap.size w W) := by rw [hW]; exact below_al bR _
 have HR0 : Hid (RowB W w.heap.size [.int .u64 x.b.t, .int .u64 x.b.n, .int .i64 x.b.s, .slice x.a x.b.d.length x.c]) := by rw [hW]; exact RowB.new w _ _
 have HW := h_ hW
 have HH : Hid (P < w0.heap.size ∧ w0.heap.size ≤ w.heap.size ∧ LsB w0 w (.slice A l.length C) l ∧ x.ok w0 w (.slice A l.length C) ∧ l.length ≤ 1000) := ⟨hPw, h0, hl, hx, hlen⟩
 have hcv : IntKind.u64.wrap (wrap64 (2 + (l.length : Int))) = ((2 + l.length : Nat) : Int) := by
  rw [IntKind.wrap_u64]
  simp [wrap64]
  omega
 clear hW hPw h0 hl hx hlen hC
 go_enter Tryz.func71, Tryz.ntmps71
 go_wp2_with fail
 go_region
 have hH := HH.out
 obtain ⟨n2, hn2⟩ : ∃ n2, n2 = 2 + l.length := ⟨_, rfl⟩
 rw [show (2 : Int) + (l.length : Int) = (n2 : Int) by omega]
 obtain ⟨w1, hw1⟩ : ∃ w1, w1 = (w.alloc (.cells #[.int .u64 x.b.t, .int .u64 n2, .int .i64 k, .slice x.a x.b.d.length x.c] 26)).drew := ⟨_, rfl⟩
 rw [← hw1]
 have hb1 : Below w.heap.size w w1 := by rw [hw1]; exact (below_al bR _).drew
 have hR1 : RowB w1 w.heap.size [.int .u64 x.b.t, .int .u64 n2, .int .i64 k, .slice x.a x.b.d.length x.c] := by
  rw [hw1]
  exact (RowB.new w _ _).on bR.drew (by simp)
 have hP1 : w1.cell? ⟨P, 0, none⟩ = some (.slice A l.length C) := (hb1.cell (p := ⟨P, 0, none⟩) hPW).trans hP
 have hf1 : w1.frozen? ⟨P, 0, none⟩ = false := (hb1.frozen (p := ⟨P, 0, none⟩) hPW).trans hPf
 have hls1 : LsB w0 w1 (.slice A l.length C) l := hH.2.2.1.on hb1.size fun j _ hj => hb1.block j hj
 have hx1 : x.ok w0 w1 (.slice A l.length C) := hH.2.2.2.1.on hb1.size fun j _ hj => hb1.block j hj
 obtain ⟨v', w2, hrun, hls, hb2, hs2⟩ := lsB_one ⟨⟨x.b.t, n2, k, x.b.d⟩, x.a, x.c⟩ hls1 (Nat.le_trans hH.2.1 hb1.size) hx1 (by have := hH.2.2.2.2; omega)
 have hP2 : w2.cell? ⟨P, 0, none⟩ = some (.slice A l.length C) := (hb2.cell (p := ⟨P, 0, none⟩) hH.1).trans hP1
 have hf2 : w2.frozen? ⟨P, 0, none⟩ = false := (hb2.frozen (p := ⟨P, 0, none⟩) hH.1).trans hf1
 have r0 := hR1.1 0 _ rfl
 have r1 := hR1.1 1 _ rfl
 have r2 := hR1.1 2 _ rfl
 have r3 := hR1.1 3 _ rfl
 have HQ : Hid (LsB w0 (w2.setCell ⟨P, 0, none⟩ v') v' (l ++ [⟨x.b.t, n2, k, x.b.d⟩])) := hls.on (by rw [World.size_setCell]; exact Nat.le_refl _) fun j hj _ => Below.heap_setCell w2 _ _ j (by show j ≠ P; have := hH.1; omega)
 have HQ2 : Hid (ButL w0.heap.size P w (w2.setCell ⟨P, 0, none⟩ v')) := ((ButL.of_below (hb1.mono hH.2.1) hb1.size).trans (ButL.of_below hb2 (Nat.le_trans (Nat.le_refl _) hs2))).trans (ButL.set _ _)
 have HQ3 : Hid ((w2.setCell ⟨P, 0, none⟩ v').cell? ⟨P, 0, none⟩ = some v' ∧ (w2.setCell ⟨P, 0, none⟩ v').frozen? ⟨P, 0, none⟩ = false) := ⟨World.cell?_setCell_same _ _ _ hP2, by rw [World.frozen?_setCell]; exact hf2⟩
 have HN2 := h_ hn2
 have HRun := h_ hrun
 clear hrun hH hls hb2 hs2 hls1 hx1 hb1 hR1 hf1 hP hPf hK hPW hKW hcv hw1 hn2
 obtain ⟨A', n', C', rfl⟩ : ∃ A' n' C', v' = .slice A' n' C' := by
  obtain ⟨A', C', e, _⟩ := HQ.out.slice
  exact ⟨A', _, C', e⟩
 go_wp2_with (at_builtin; refine wpList_run (by rfl) _ _ _ _ (by rfl) _ _ _ _ (by rfl) (by rfl) HRun.out ?_)
 first | go_end0 | skip
 exact ⟨rfl, _, HQ3.out.1, HQ3.out.2, by rw [← HN2.out]; exact HQ.out, HQ2.out⟩

end Go.Proofs.YtiahakbkagipkaaGreatDoor
