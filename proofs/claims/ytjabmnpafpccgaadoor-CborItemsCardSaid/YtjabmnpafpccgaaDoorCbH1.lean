/- CborHolds, walked: what its boxes hold; how a text is judged. -/
import Derived.Test.YtjabmnpafpccgaaDoorCbX
import Derived.Test.YtjabmnpafpccgaaDoorCbZ
import Derived.Test.YtjabmnpafpccgaaDoorCbS3
import Derived.Test.YtjabmnpafpccgaaDoorCbT
import Derived.Deep.QuietTactic
import Derived.BigQuiet
namespace Go.Proofs.YtjabmnpafpccgaaDoor
open Go.RowKit Go.Shelf
set_option linter.unusedSimpArgs false

/-- An item's box. -/
def Box5 (W : World) (b : Nat) (v0 v1 v2 v3 v4 : Value) : Prop :=
  W.cell? ⟨b, 0, none⟩ = some v0 ∧ W.cell? ⟨b, 1, none⟩ = some v1 ∧ W.cell? ⟨b, 2, none⟩ = some v2 ∧ W.cell? ⟨b, 3, none⟩ = some v3 ∧ W.cell? ⟨b, 4, none⟩ = some v4

theorem Box5.later {W W' : World} {b B : Nat} {v0 v1 v2 v3 v4 : Value} (h : Box5 W b v0 v1 v2 v3 v4) (hb : Below B W W') (hlt : b < B) : Box5 W' b v0 v1 v2 v3 v4 :=
  ⟨(hb.cell (p := ⟨b, 0, none⟩) hlt).trans h.1, (hb.cell (p := ⟨b, 1, none⟩) hlt).trans h.2.1, (hb.cell (p := ⟨b, 2, none⟩) hlt).trans h.2.2.1, (hb.cell (p := ⟨b, 3, none⟩) hlt).trans h.2.2.2.1, (hb.cell (p := ⟨b, 4, none⟩) hlt).trans h.2.2.2.2⟩

theorem box5_new (w : World) (v0 v1 v2 v3 v4 : Value) (t : TypeId) : Box5 (w.alloc (.cells #[v0, v1, v2, v3, v4] t)) w.heap.size v0 v1 v2 v3 v4 := by
  refine ⟨?_, ?_, ?_, ?_, ?_⟩ <;> simp

theorem box5_alloc {W : World} {b : Nat} {v0 v1 v2 v3 v4 : Value} (h : Box5 W b v0 v1 v2 v3 v4) (hlt : b < W.heap.size) (o : Obj) : Box5 (W.alloc o) b v0 v1 v2 v3 v4 :=
  h.later ((Below.refl _ _).alloc (Nat.le_refl _) o) hlt

/-- Both boxes, in every later world. -/
theorem boxes_later (w : World) (v0 v1 v2 v3 v4 u0 u1 u2 u3 u4 : Value) (t : TypeId) (w' : World)
    (hb : Below ((w.alloc (.cells #[v0, v1, v2, v3, v4] t)).alloc (.cells #[u0, u1, u2, u3, u4] t)).heap.size ((w.alloc (.cells #[v0, v1, v2, v3, v4] t)).alloc (.cells #[u0, u1, u2, u3, u4] t)) w') :
    Box5 w' w.heap.size v0 v1 v2 v3 v4 ∧ Box5 w' (w.heap.size + 1) u0 u1 u2 u3 u4 := by
  have h1 := box5_new (w.alloc (.cells #[v0, v1, v2, v3, v4] t)) u0 u1 u2 u3 u4 t
  rw [World.size_alloc] at h1
  exact ⟨(box5_alloc (box5_new w v0 v1 v2 v3 v4 t) (by simp) _).later hb (by simp; omega), h1.later hb (by simp)⟩

theorem err_eq {n : Nat} (h : n ≠ 0) : ((n : Int) == 0) = false := by simp; omega

set_option maxRecDepth 100000 in
set_option maxHeartbeats 8000000 in
theorem cholds_ne (x y : It) (v0 v1 v2 v3 v4 u0 u1 u2 u3 u4 : Value) (a : Option Addr) (c : Nat) (bs : List UInt8) (w : World) (ht : TabW w) (hv : ItV w w.heap.size (.agg #[v0, v1, v2, v3, v4]) x) (hu : ItV w w.heap.size (.agg #[u0, u1, u2, u3, u4]) y)
    (hc : bs.length ≤ c) (hr : RdB w w.heap.size a bs) (hb47 : bs.length ≤ 140737488351232) (he : x.err ≠ 0) (q : Nat) (hf : firstN bs = .error q) :
    Calls Tryd.prog 7 #[.agg #[v0, v1, v2, v3, v4], .agg #[u0, u1, u2, u3, u4], .slice a bs.length c] w fun e w' => e = .returned (.bool true) ∧ Below w.heap.size w w' := by
  obtain ⟨W0, hW0⟩ : ∃ W0, W0 = (w.alloc (.cells #[v0, v1, v2, v3, v4] 27)).alloc (.cells #[u0, u1, u2, u3, u4] 27) := ⟨_, rfl⟩
  have HB0 : Hid (Below w.heap.size w W0) := by rw [hW0]; exact below_al (below_al (Below.refl _ _) _) _
  have HX : Hid (∀ w', Below W0.heap.size W0 w' → Box5 w' w.heap.size v0 v1 v2 v3 v4) := by
    intro w' h
    rw [hW0] at h
    exact (boxes_later w v0 v1 v2 v3 v4 u0 u1 u2 u3 u4 _ w' h).1
  have HY : Hid (∀ w', Below W0.heap.size W0 w' → Box5 w' (w.heap.size + 1) u0 u1 u2 u3 u4) := by
    intro w' h
    rw [hW0] at h
    exact (boxes_later w v0 v1 v2 v3 v4 u0 u1 u2 u3 u4 _ w' h).2
  have HV : Hid (∀ w', Below W0.heap.size W0 w' → ItV w' w'.heap.size (.agg #[v0, v1, v2, v3, v4]) x) := fun w' h => (hv.on HB0.out).on h
  have HU : Hid (∀ w', Below W0.heap.size W0 w' → ItV w' w'.heap.size (.agg #[u0, u1, u2, u3, u4]) y) := fun w' h => (hu.on HB0.out).on h
  have HT : Hid (∀ w', Below W0.heap.size W0 w' → TabW w') := fun w' h => (ht.on HB0.out).on h
  have HR : Hid (∀ w', Below W0.heap.size W0 w' → RdB w' w'.heap.size a bs) := fun w' h => (hr.below (HB0.out.trans (h.mono HB0.out.size))).mono (Nat.le_trans HB0.out.size h.size)
  have HFX := Lib.hid (hv.fit x)
  have HFY := Lib.hid (hu.fit y)
  have HW0 := Lib.hid hW0
  have HE := Lib.hid he
  have HF := Lib.hid hf
  clear hW0 hv hu ht hr he hf
  go_enter Tryd.func7, Tryd.ntmps7
  go_wp2_with fail
  rw [← HW0.out]
  clear HW0
  refine (count_any x 12 _ W0 (by omega) (HV.out W0 (Below.refl _ _))).mono ?_
  rintro e w1 ⟨⟨q1, rfl, hq1, hd1⟩, hb1⟩
  have B1 := Lib.hid hb1
  have HD1 := Lib.hid hd1
  clear hb1 hd1
  by_cases h1 : (3000 : Int) < q1
  · go_wp2_with fail
    refine (cworks_any _ (HT.out _ B1.out)).mono ?_
    rintro e w2 ⟨rfl, hb2⟩
    go_wp2_with fail
    go_ret
    exact ⟨rfl, HB0.out.trans ((below_on B1.out hb2).mono HB0.out.size)⟩
  obtain ⟨hdx, hlx⟩ := HD1.out (by omega)
  obtain ⟨d0, d1, d2, d3, d4⟩ := HY.out _ B1.out
  clear HD1
  go_wp2_with fail
  refine (count_any y 12 _ w1 (by omega) (HU.out _ B1.out)).mono ?_
  rintro e w2 ⟨⟨q2, rfl, hq2, hd2⟩, hb2⟩
  have B2 := Lib.hid (below_on B1.out hb2)
  have HD2 := Lib.hid hd2
  clear hb2 hd2 d0 d1 d2 d3 d4 B1
  by_cases h2 : (3000 : Int) < q2
  · go_wp2_with fail
    refine (cworks_any _ (HT.out _ B2.out)).mono ?_
    rintro e w3 ⟨rfl, hb3⟩
    go_wp2_with fail
    go_ret
    exact ⟨rfl, HB0.out.trans ((below_on B2.out hb3).mono HB0.out.size)⟩
  obtain ⟨hdy, hly⟩ := HD2.out (by omega)
  clear HD2
  by_cases h3 : (2000 : Int) < bs.length
  · go_wp2_with fail
    refine (cworks_any _ (HT.out _ B2.out)).mono ?_
    rintro e w3 ⟨rfl, hb3⟩
    go_wp2_with fail
    go_ret
    exact ⟨rfl, HB0.out.trans ((below_on B2.out hb3).mono HB0.out.size)⟩
  have hlx' : x.bytes.length ≤ 27000 := by omega
  have hly' : y.bytes.length ≤ 27000 := by omega
  have hlb : bs.length ≤ 2000 := by omega
  obtain ⟨d0, d1, d2, d3, d4⟩ := HX.out _ B2.out
  go_wp2_with fail
  clear hlx hly hq1 hq2 h1 h2 h3
  refine (encode_any x _ w2 (HV.out _ B2.out) (HT.out _ B2.out) (by omega)).mono ?_
  rintro e w3 ⟨hb3, hor⟩
  have B3 := Lib.hid (below_on B2.out hb3)
  clear d0 d1 d2 d3 d4 hb3 B2
  have hor' : e = .returned (.tuple #[.slice none 0 0, .int .i64 x.err]) := by
    rcases hor with ⟨_, rfl⟩ | ⟨h0, _⟩
    · rfl
    · exact absurd h0 HE.out
  subst hor'
  have hx0 := err_eq HE.out
  clear hor
  go_wp2_with (go_at_call 12; refine (cnum_any _ _).mono ?_; rintro e w' ⟨rfl, hw⟩; rw [hw]; clear hw)
  have BX := B3
  go_wp2_with fail
  refine (firstAll a _ c bs rfl _ (HR.out _ BX.out) hc (by omega) (HT.out _ BX.out)).mono ?_
  rintro e w7 ⟨hb7, hm⟩
  rw [HF.out] at hm
  have B7 := Lib.hid (below_on BX.out hb7)
  clear hb7
  have hm : e = .returned (.tuple #[itemV 0 0 [], .int .i64 0, .int .i64 q]) := hm
  subst hm
  have hq := firstN_err HF.out
  have hq0 := err_eq (n := q) (by omega)
  clear hq
  unfold itemV
  go_wp2_with (go_at_call 12; refine (cnum_any _ _).mono ?_; rintro e w' ⟨rfl, hw⟩; rw [hw]; clear hw)
  have B8 := Lib.hid (below_al B7.out (.cells #[.int .i64 0, .int .u64 0, .slice none 0 0, .string ⟨#[]⟩, .slice none 0 0] 27))
  refine (cworks_any _ (HT.out _ B8.out)).mono ?_
  rintro e w9 ⟨rfl, hb9⟩
  go_wp2_with fail
  go_ret
  exact ⟨rfl, HB0.out.trans ((below_on B8.out hb9).mono HB0.out.size)⟩

set_option maxRecDepth 100000 in
set_option maxHeartbeats 8000000 in
theorem cholds_no (x y : It) (v0 v1 v2 v3 v4 u0 u1 u2 u3 u4 : Value) (a : Option Addr) (c : Nat) (bs : List UInt8) (w : World) (ht : TabW w) (hv : ItV w w.heap.size (.agg #[v0, v1, v2, v3, v4]) x) (hu : ItV w w.heap.size (.agg #[u0, u1, u2, u3, u4]) y)
    (hc : bs.length ≤ c) (hr : RdB w w.heap.size a bs) (hb47 : bs.length ≤ 140737488351232) (he : x.err ≠ 0) (z : It) (m : Nat) (hf : firstN bs = .ok (z, m)) :
    Calls Tryd.prog 7 #[.agg #[v0, v1, v2, v3, v4], .agg #[u0, u1, u2, u3, u4], .slice a bs.length c] w fun e w' => e = .returned (.bool true) ∧ Below w.heap.size w w' := by
  obtain ⟨W0, hW0⟩ : ∃ W0, W0 = (w.alloc (.cells #[v0, v1, v2, v3, v4] 27)).alloc (.cells #[u0, u1, u2, u3, u4] 27) := ⟨_, rfl⟩
  have HB0 : Hid (Below w.heap.size w W0) := by rw [hW0]; exact below_al (below_al (Below.refl _ _) _) _
  have HX : Hid (∀ w', Below W0.heap.size W0 w' → Box5 w' w.heap.size v0 v1 v2 v3 v4) := by
    intro w' h
    rw [hW0] at h
    exact (boxes_later w v0 v1 v2 v3 v4 u0 u1 u2 u3 u4 _ w' h).1
  have HY : Hid (∀ w', Below W0.heap.size W0 w' → Box5 w' (w.heap.size + 1) u0 u1 u2 u3 u4) := by
    intro w' h
    rw [hW0] at h
    exact (boxes_later w v0 v1 v2 v3 v4 u0 u1 u2 u3 u4 _ w' h).2
  have HV : Hid (∀ w', Below W0.heap.size W0 w' → ItV w' w'.heap.size (.agg #[v0, v1, v2, v3, v4]) x) := fun w' h => (hv.on HB0.out).on h
  have HU : Hid (∀ w', Below W0.heap.size W0 w' → ItV w' w'.heap.size (.agg #[u0, u1, u2, u3, u4]) y) := fun w' h => (hu.on HB0.out).on h
  have HT : Hid (∀ w', Below W0.heap.size W0 w' → TabW w') := fun w' h => (ht.on HB0.out).on h
  have HR : Hid (∀ w', Below W0.heap.size W0 w' → RdB w' w'.heap.size a bs) := fun w' h => (hr.below (HB0.out.trans (h.mono HB0.out.size))).mono (Nat.le_trans HB0.out.size h.size)
  have HFX := Lib.hid (hv.fit x)
  have HFY := Lib.hid (hu.fit y)
  have HW0 := Lib.hid hW0
  have HE := Lib.hid he
  have HF := Lib.hid hf
  clear hW0 hv hu ht hr he hf
  go_enter Tryd.func7, Tryd.ntmps7
  go_wp2_with fail
  rw [← HW0.out]
  clear HW0
  refine (count_any x 12 _ W0 (by omega) (HV.out W0 (Below.refl _ _))).mono ?_
  rintro e w1 ⟨⟨q1, rfl, hq1, hd1⟩, hb1⟩
  have B1 := Lib.hid hb1
  have HD1 := Lib.hid hd1
  clear hb1 hd1
  by_cases h1 : (3000 : Int) < q1
  · go_wp2_with fail
    refine (cworks_any _ (HT.out _ B1.out)).mono ?_
    rintro e w2 ⟨rfl, hb2⟩
    go_wp2_with fail
    go_ret
    exact ⟨rfl, HB0.out.trans ((below_on B1.out hb2).mono HB0.out.size)⟩
  obtain ⟨hdx, hlx⟩ := HD1.out (by omega)
  obtain ⟨d0, d1, d2, d3, d4⟩ := HY.out _ B1.out
  clear HD1
  go_wp2_with fail
  refine (count_any y 12 _ w1 (by omega) (HU.out _ B1.out)).mono ?_
  rintro e w2 ⟨⟨q2, rfl, hq2, hd2⟩, hb2⟩
  have B2 := Lib.hid (below_on B1.out hb2)
  have HD2 := Lib.hid hd2
  clear hb2 hd2 d0 d1 d2 d3 d4 B1
  by_cases h2 : (3000 : Int) < q2
  · go_wp2_with fail
    refine (cworks_any _ (HT.out _ B2.out)).mono ?_
    rintro e w3 ⟨rfl, hb3⟩
    go_wp2_with fail
    go_ret
    exact ⟨rfl, HB0.out.trans ((below_on B2.out hb3).mono HB0.out.size)⟩
  obtain ⟨hdy, hly⟩ := HD2.out (by omega)
  clear HD2
  by_cases h3 : (2000 : Int) < bs.length
  · go_wp2_with fail
    refine (cworks_any _ (HT.out _ B2.out)).mono ?_
    rintro e w3 ⟨rfl, hb3⟩
    go_wp2_with fail
    go_ret
    exact ⟨rfl, HB0.out.trans ((below_on B2.out hb3).mono HB0.out.size)⟩
  have hlx' : x.bytes.length ≤ 27000 := by omega
  have hly' : y.bytes.length ≤ 27000 := by omega
  have hlb : bs.length ≤ 2000 := by omega
  obtain ⟨d0, d1, d2, d3, d4⟩ := HX.out _ B2.out
  go_wp2_with fail
  clear hlx hly hq1 hq2 h1 h2 h3
  refine (encode_any x _ w2 (HV.out _ B2.out) (HT.out _ B2.out) (by omega)).mono ?_
  rintro e w3 ⟨hb3, hor⟩
  have B3 := Lib.hid (below_on B2.out hb3)
  clear d0 d1 d2 d3 d4 hb3 B2
  have hor' : e = .returned (.tuple #[.slice none 0 0, .int .i64 x.err]) := by
    rcases hor with ⟨_, rfl⟩ | ⟨h0, _⟩
    · rfl
    · exact absurd h0 HE.out
  subst hor'
  have hx0 := err_eq HE.out
  clear hor
  go_wp2_with (go_at_call 12; refine (cnum_any _ _).mono ?_; rintro e w' ⟨rfl, hw⟩; rw [hw]; clear hw)
  have BX := B3
  go_wp2_with fail
  refine (firstAll a _ c bs rfl _ (HR.out _ BX.out) hc (by omega) (HT.out _ BX.out)).mono ?_
  rintro e w7 ⟨hb7, hm⟩
  rw [HF.out] at hm
  have B7 := Lib.hid (below_on BX.out hb7)
  clear hb7
  obtain ⟨vz, rfl, hz⟩ := hm
  obtain ⟨hze, hzm, hzb, hzl⟩ := firstN_back HF.out
  have hzv : ItV w7 w7.heap.size vz z := hz.itV (fun b hb => hb.2) z
  obtain ⟨az, cz, Az, Cz, rfl⟩ := hzv.form
  have HZV : Hid (ItV (w7.alloc (.cells #[.int .i64 z.k, .int .u64 z.n, .slice az z.b.length cz, .string ⟨z.s.toArray⟩, .slice Az z.l.length Cz] 27)) (w7.alloc (.cells #[.int .i64 z.k, .int .u64 z.n, .slice az z.b.length cz, .string ⟨z.s.toArray⟩, .slice Az z.l.length Cz] 27)).heap.size (.agg #[.int .i64 z.k, .int .u64 z.n, .slice az z.b.length cz, .string ⟨z.s.toArray⟩, .slice Az z.l.length Cz]) z) := hzv.on (below_al (Below.refl _ _) _)
  have HZE := Lib.hid hze
  have HZB := Lib.hid hzb
  have HZL := Lib.hid hzl
  clear hz hzv hze hzb hzl
  have B8 := Lib.hid (below_al B7.out (.cells #[.int .i64 z.k, .int .u64 z.n, .slice az z.b.length cz, .string ⟨z.s.toArray⟩, .slice Az z.l.length Cz] 27))
  go_wp2_with (go_at_call 12; refine (cnum_any _ _).mono ?_; rintro e w' ⟨rfl, hw⟩; rw [hw]; clear hw)
  refine (encode_any z _ _ HZV.out (HT.out _ B8.out) (by
    have := HZE.out
    unfold It.err at this
    split at this
    · split at this
      · omega
      · omega
    · omega)).mono ?_
  rintro e w9 ⟨hb9, hor⟩
  have B9 := Lib.hid (below_on B8.out hb9)
  clear hb9
  obtain ⟨ud, hud, hod⟩ : ∃ u, e = .returned (.tuple #[u, .int .i64 0]) ∧ OwnV w9 (w7.alloc (.cells #[.int .i64 z.k, .int .u64 z.n, .slice az z.b.length cz, .string ⟨z.s.toArray⟩, .slice Az z.l.length Cz] 27)).heap.size 5 u (z.bytes.map encB) := by
    rcases hor with ⟨h0, _⟩ | ⟨_, h⟩
    · exact absurd HZE.out h0
    · exact h
  subst hud
  clear hor
  obtain ⟨A9, C9, rfl, hC9, hr9, _⟩ := hod.bytes
  have hzz := HZB.out
  have hzn := HZL.out
  rw [hzn] at hC9 ⊢
  have k1 := fun n => (hr9.drewN n).text (P := Tryd.prog) 24 9 5 m C9 hzn.symm Tryd.underlying24 Tryd.underlying5 Tryd.underlying9
  have k2 := fun n => (((HR.out _ B9.out).take m).drewN n).text (P := Tryd.prog) 24 9 5 m c (by simp; omega) Tryd.underlying24 Tryd.underlying5 Tryd.underlying9
  rw [← hzz] at k2
  have hm1 : (m : Int) ≤ (bs.length : Int) := by omega
  have hm2 : (m : Int) ≤ (c : Int) := by omega
  clear hzz hzn hod hr9 HZV HZB HZL
  go_wp2_with fail
  go_quiet ((go_at_call 12; exact Calls.quiet_of_same (cnum_any _ _)))
  have B10 : Below W0.heap.size W0 (w9.drewN nq) := below_dr B9.out nq
  have HT10 := Lib.hid (HT.out _ B10)
  have H10 := Lib.hid B10
  clear k1 k2 B10
  go_wp2_with fail
  refine (cworks_any _ HT10.out).mono ?_
  rintro e w11 ⟨rfl, hb11⟩
  go_wp2_with fail
  go_ret
  exact ⟨rfl, HB0.out.trans ((below_on H10.out hb11).mono HB0.out.size)⟩

set_option maxRecDepth 100000 in
set_option maxHeartbeats 8000000 in
theorem cholds_ee (x y : It) (v0 v1 v2 v3 v4 u0 u1 u2 u3 u4 : Value) (a : Option Addr) (c : Nat) (bs : List UInt8) (w : World) (ht : TabW w) (hv : ItV w w.heap.size (.agg #[v0, v1, v2, v3, v4]) x) (hu : ItV w w.heap.size (.agg #[u0, u1, u2, u3, u4]) y)
    (hc : bs.length ≤ c) (hr : RdB w w.heap.size a bs) (hb47 : bs.length ≤ 140737488351232) (he : x.err = 0) (hy : y.err ≠ 0) (q : Nat) (hf : firstN bs = .error q) :
    Calls Tryd.prog 7 #[.agg #[v0, v1, v2, v3, v4], .agg #[u0, u1, u2, u3, u4], .slice a bs.length c] w fun e w' => e = .returned (.bool true) ∧ Below w.heap.size w w' := by
  obtain ⟨W0, hW0⟩ : ∃ W0, W0 = (w.alloc (.cells #[v0, v1, v2, v3, v4] 27)).alloc (.cells #[u0, u1, u2, u3, u4] 27) := ⟨_, rfl⟩
  have HB0 : Hid (Below w.heap.size w W0) := by rw [hW0]; exact below_al (below_al (Below.refl _ _) _) _
  have HX : Hid (∀ w', Below W0.heap.size W0 w' → Box5 w' w.heap.size v0 v1 v2 v3 v4) := by
    intro w' h
    rw [hW0] at h
    exact (boxes_later w v0 v1 v2 v3 v4 u0 u1 u2 u3 u4 _ w' h).1
  have HY : Hid (∀ w', Below W0.heap.size W0 w' → Box5 w' (w.heap.size + 1) u0 u1 u2 u3 u4) := by
    intro w' h
    rw [hW0] at h
    exact (boxes_later w v0 v1 v2 v3 v4 u0 u1 u2 u3 u4 _ w' h).2
  have HV : Hid (∀ w', Below W0.heap.size W0 w' → ItV w' w'.heap.size (.agg #[v0, v1, v2, v3, v4]) x) := fun w' h => (hv.on HB0.out).on h
  have HU : Hid (∀ w', Below W0.heap.size W0 w' → ItV w' w'.heap.size (.agg #[u0, u1, u2, u3, u4]) y) := fun w' h => (hu.on HB0.out).on h
  have HT : Hid (∀ w', Below W0.heap.size W0 w' → TabW w') := fun w' h => (ht.on HB0.out).on h
  have HR : Hid (∀ w', Below W0.heap.size W0 w' → RdB w' w'.heap.size a bs) := fun w' h => (hr.below (HB0.out.trans (h.mono HB0.out.size))).mono (Nat.le_trans HB0.out.size h.size)
  have HFX := Lib.hid (hv.fit x)
  have HFY := Lib.hid (hu.fit y)
  have HW0 := Lib.hid hW0
  have HE := Lib.hid he
  have HF := Lib.hid hf
  have HYE := Lib.hid hy
  clear hW0 hv hu ht hr he hf hy
  go_enter Tryd.func7, Tryd.ntmps7
  go_wp2_with fail
  rw [← HW0.out]
  clear HW0
  refine (count_any x 12 _ W0 (by omega) (HV.out W0 (Below.refl _ _))).mono ?_
  rintro e w1 ⟨⟨q1, rfl, hq1, hd1⟩, hb1⟩
  have B1 := Lib.hid hb1
  have HD1 := Lib.hid hd1
  clear hb1 hd1
  by_cases h1 : (3000 : Int) < q1
  · go_wp2_with fail
    refine (cworks_any _ (HT.out _ B1.out)).mono ?_
    rintro e w2 ⟨rfl, hb2⟩
    go_wp2_with fail
    go_ret
    exact ⟨rfl, HB0.out.trans ((below_on B1.out hb2).mono HB0.out.size)⟩
  obtain ⟨hdx, hlx⟩ := HD1.out (by omega)
  obtain ⟨d0, d1, d2, d3, d4⟩ := HY.out _ B1.out
  clear HD1
  go_wp2_with fail
  refine (count_any y 12 _ w1 (by omega) (HU.out _ B1.out)).mono ?_
  rintro e w2 ⟨⟨q2, rfl, hq2, hd2⟩, hb2⟩
  have B2 := Lib.hid (below_on B1.out hb2)
  have HD2 := Lib.hid hd2
  clear hb2 hd2 d0 d1 d2 d3 d4 B1
  by_cases h2 : (3000 : Int) < q2
  · go_wp2_with fail
    refine (cworks_any _ (HT.out _ B2.out)).mono ?_
    rintro e w3 ⟨rfl, hb3⟩
    go_wp2_with fail
    go_ret
    exact ⟨rfl, HB0.out.trans ((below_on B2.out hb3).mono HB0.out.size)⟩
  obtain ⟨hdy, hly⟩ := HD2.out (by omega)
  clear HD2
  by_cases h3 : (2000 : Int) < bs.length
  · go_wp2_with fail
    refine (cworks_any _ (HT.out _ B2.out)).mono ?_
    rintro e w3 ⟨rfl, hb3⟩
    go_wp2_with fail
    go_ret
    exact ⟨rfl, HB0.out.trans ((below_on B2.out hb3).mono HB0.out.size)⟩
  have hlx' : x.bytes.length ≤ 27000 := by omega
  have hly' : y.bytes.length ≤ 27000 := by omega
  have hlb : bs.length ≤ 2000 := by omega
  obtain ⟨d0, d1, d2, d3, d4⟩ := HX.out _ B2.out
  go_wp2_with fail
  clear hlx hly hq1 hq2 h1 h2 h3
  refine (encode_any x _ w2 (HV.out _ B2.out) (HT.out _ B2.out) (by omega)).mono ?_
  rintro e w3 ⟨hb3, hor⟩
  have B3 := Lib.hid (below_on B2.out hb3)
  clear d0 d1 d2 d3 d4 hb3 B2
  obtain ⟨ux, hux, hox⟩ : ∃ u, e = .returned (.tuple #[u, .int .i64 0]) ∧ OwnV w3 w2.heap.size 5 u (x.bytes.map encB) := by
    rcases hor with ⟨h0, _⟩ | ⟨_, h⟩
    · exact absurd HE.out h0
    · exact h
  subst hux
  clear hor
  obtain ⟨A3, C3, rfl, hC3, hr3, _⟩ := hox.bytes
  have HR3 : Hid (∀ w', Below w3.heap.size w3 w' → RdB w' w'.heap.size A3 x.bytes) := fun w' h => (hr3.below h).mono h.size
  have S3 := Lib.hid ((hr3.src).alloc (.cells #[] 5))
  have hob := OwnV.lit w3 w3.heap.size 5 #[] (Nat.le_refl _) (by decide)
  have o1 := Lib.hid (encB_one x.bytes)
  have o2 := Lib.hid (encB_one bs)
  have hL1 : Hid (([] : List Value).length + (x.bytes.map encB).length ≤ maxLen) := by simp [Hid, maxLen]; omega
  have hL2 : Hid ((([] : List Value).length + (x.bytes.map encB).length) * 1 ≤ 140737488355328) := by simp [Hid]; omega
  have hL3 : Hid (([] ++ x.bytes.map encB : List Value).length + (bs.map encB).length ≤ maxLen) := by simp [Hid, maxLen]; omega
  have hL4 : Hid ((([] ++ x.bytes.map encB : List Value).length + (bs.map encB).length) * 1 ≤ 140737488355328) := by simp [Hid]; omega
  have HS4 : Hid (∀ w', Below w3.heap.size (w3.alloc (.cells #[] 5)) w' → Src w' a (bs.map encB)) := fun w' h => (HR.out w' (below_on B3.out (((Below.refl _ _).alloc (Nat.le_refl _) _).trans h))).src
  clear hr3 hox
  go_wp2_with (first
    | (go_at_call 12; refine (cnum_any _ _).mono ?_; rintro e w' ⟨rfl, hw⟩; rw [hw]; clear hw)
    | (at_builtin; (refine wpList_app _ rfl _ _ 24 rfl w3.heap.size 5 (.int .u8 0) 1 Tryd.underlying24 info_u8 rfl _ _ rfl hp4.1 _ _ _ _ rfl (List.length_map _) (HS4.out w4 (hp4.below hob (by simp))) o2.out hL3.out hL4.out (by have hz4 := (hp4.below hob (by simp)).size; simp at hz4; omega) ?_); intro v5' w5 hp5)
    | (at_builtin; refine wpList_app _ rfl _ _ 24 rfl w3.heap.size 5 (.int .u8 0) 1 Tryd.underlying24 info_u8 rfl _ _ rfl hob _ _ _ _ rfl (List.length_map _) S3.out o1.out hL1.out hL2.out (by simp) ?_; intro v4' w4 hp4))
  have B5 : Below W0.heap.size W0 w5 := below_on B3.out (((Below.refl _ _).alloc (Nat.le_refl _) _).trans ((hp4.below hob (by simp)).trans (hp5.below hp4.1 (by have hz4 := (hp4.below hob (by simp)).size; simp at hz4; omega))))
  have K5 : Below w3.heap.size w3 w5 := ((Below.refl _ _).alloc (Nat.le_refl _) _).trans ((hp4.below hob (by simp)).trans (hp5.below hp4.1 (by have hz4 := (hp4.below hob (by simp)).size; simp at hz4; omega)))
  have o5 := hp5.1
  rw [List.nil_append, ← List.map_append] at o5
  obtain ⟨A5, C5, e5, hC5, hr5, _⟩ := o5.bytes
  subst e5
  have HB5 := Lib.hid B5
  have HK5 := Lib.hid K5
  have HR5 := Lib.hid hr5
  have HFirst := Lib.hid (firstN_of x bs HE.out HFX.out (by rw [List.length_append]; omega))
  clear hp4 hp5 o5 hr5 B5 K5 hL1 hL2 hL3 hL4 o1 o2 S3 HS4 hob B3
  refine (firstAll A5 _ C5 (x.bytes ++ bs) rfl _ HR5.out hC5 (by rw [List.length_append]; omega) (HT.out _ HB5.out)).mono ?_
  rintro e w6 ⟨hb6, hm⟩
  rw [HFirst.out] at hm
  obtain ⟨vz, rfl, hz⟩ := hm
  have hzv : ItV w6 w6.heap.size vz x := hz.itV (fun b hb => hb.2) x
  obtain ⟨az, cz, Az, Cz, rfl⟩ := hzv.form
  have B6 := Lib.hid (below_on HB5.out hb6)
  have HZV := Lib.hid (hzv.on (below_al (Below.refl _ _) (.cells #[.int .i64 x.k, .int .u64 x.n, .slice az x.b.length cz, .string ⟨x.s.toArray⟩, .slice Az x.l.length Cz] 27)))
  have B6a := Lib.hid (below_al B6.out (.cells #[.int .i64 x.k, .int .u64 x.n, .slice az x.b.length cz, .string ⟨x.s.toArray⟩, .slice Az x.l.length Cz] 27))
  have K6a := Lib.hid (below_al (below_on HK5.out hb6) (.cells #[.int .i64 x.k, .int .u64 x.n, .slice az x.b.length cz, .string ⟨x.s.toArray⟩, .slice Az x.l.length Cz] 27))
  clear hz hzv hb6 HR5 HFirst HB5 HK5
  obtain ⟨g0, g1, g2, g3, g4⟩ := HX.out _ B6a.out
  go_wp2_with (go_at_call 12; refine (cnum_any _ _).mono ?_; rintro e w' ⟨rfl, hw⟩; rw [hw]; clear hw)
  refine (cSame_any x x _ _ _ (by omega) HZV.out (HV.out _ B6a.out)).mono ?_
  rintro e w7 ⟨rfl, hb7⟩
  rw [same_self]
  have B7x := Lib.hid (below_on B6a.out hb7)
  have K7x := Lib.hid (below_on K6a.out hb7)
  clear g0 g1 g2 g3 g4 hb7 HZV B6 B6a K6a
  obtain ⟨g0, g1, g2, g3, g4⟩ := HY.out _ B7x.out
  go_wp2_with fail
  refine (encode_any y _ _ (HU.out _ B7x.out) (HT.out _ B7x.out) (by omega)).mono ?_
  rintro e w8 ⟨hb8, hor⟩
  have B8x := Lib.hid (below_on B7x.out hb8)
  have HR8 := Lib.hid (HR3.out _ (below_on K7x.out hb8))
  clear g0 g1 g2 g3 g4 hb8 B7x K7x HR3
  have hor' : e = .returned (.tuple #[.slice none 0 0, .int .i64 y.err]) := by
    rcases hor with ⟨_, rfl⟩ | ⟨h0, _⟩
    · rfl
    · exact absurd h0 HYE.out
  subst hor'
  have hy0 := err_eq HYE.out
  clear hor HR8
  go_wp2
  go_quiet ((go_at_call 12; exact Calls.quiet_of_same (cnum_any _ _)))
  have BX := Lib.hid (below_dr B8x.out nq)
  clear hy0 B8x
  go_wp2_with fail
  refine (firstAll a _ c bs rfl _ (HR.out _ BX.out) hc (by omega) (HT.out _ BX.out)).mono ?_
  rintro e w7 ⟨hb7, hm⟩
  rw [HF.out] at hm
  have B7 := Lib.hid (below_on BX.out hb7)
  clear hb7
  have hm : e = .returned (.tuple #[itemV 0 0 [], .int .i64 0, .int .i64 q]) := hm
  subst hm
  have hq := firstN_err HF.out
  have hq0 := err_eq (n := q) (by omega)
  clear hq
  unfold itemV
  go_wp2_with (go_at_call 12; refine (cnum_any _ _).mono ?_; rintro e w' ⟨rfl, hw⟩; rw [hw]; clear hw)
  have B8 := Lib.hid (below_al B7.out (.cells #[.int .i64 0, .int .u64 0, .slice none 0 0, .string ⟨#[]⟩, .slice none 0 0] 27))
  refine (cworks_any _ (HT.out _ B8.out)).mono ?_
  rintro e w9 ⟨rfl, hb9⟩
  go_wp2_with fail
  go_ret
  exact ⟨rfl, HB0.out.trans ((below_on B8.out hb9).mono HB0.out.size)⟩

set_option maxRecDepth 100000 in
set_option maxHeartbeats 8000000 in
theorem cholds_eo (x y : It) (v0 v1 v2 v3 v4 u0 u1 u2 u3 u4 : Value) (a : Option Addr) (c : Nat) (bs : List UInt8) (w : World) (ht : TabW w) (hv : ItV w w.heap.size (.agg #[v0, v1, v2, v3, v4]) x) (hu : ItV w w.heap.size (.agg #[u0, u1, u2, u3, u4]) y)
    (hc : bs.length ≤ c) (hr : RdB w w.heap.size a bs) (hb47 : bs.length ≤ 140737488351232) (he : x.err = 0) (hy : y.err ≠ 0) (z : It) (m : Nat) (hf : firstN bs = .ok (z, m)) :
    Calls Tryd.prog 7 #[.agg #[v0, v1, v2, v3, v4], .agg #[u0, u1, u2, u3, u4], .slice a bs.length c] w fun e w' => e = .returned (.bool true) ∧ Below w.heap.size w w' := by
  obtain ⟨W0, hW0⟩ : ∃ W0, W0 = (w.alloc (.cells #[v0, v1, v2, v3, v4] 27)).alloc (.cells #[u0, u1, u2, u3, u4] 27) := ⟨_, rfl⟩
  have HB0 : Hid (Below w.heap.size w W0) := by rw [hW0]; exact below_al (below_al (Below.refl _ _) _) _
  have HX : Hid (∀ w', Below W0.heap.size W0 w' → Box5 w' w.heap.size v0 v1 v2 v3 v4) := by
    intro w' h
    rw [hW0] at h
    exact (boxes_later w v0 v1 v2 v3 v4 u0 u1 u2 u3 u4 _ w' h).1
  have HY : Hid (∀ w', Below W0.heap.size W0 w' → Box5 w' (w.heap.size + 1) u0 u1 u2 u3 u4) := by
    intro w' h
    rw [hW0] at h
    exact (boxes_later w v0 v1 v2 v3 v4 u0 u1 u2 u3 u4 _ w' h).2
  have HV : Hid (∀ w', Below W0.heap.size W0 w' → ItV w' w'.heap.size (.agg #[v0, v1, v2, v3, v4]) x) := fun w' h => (hv.on HB0.out).on h
  have HU : Hid (∀ w', Below W0.heap.size W0 w' → ItV w' w'.heap.size (.agg #[u0, u1, u2, u3, u4]) y) := fun w' h => (hu.on HB0.out).on h
  have HT : Hid (∀ w', Below W0.heap.size W0 w' → TabW w') := fun w' h => (ht.on HB0.out).on h
  have HR : Hid (∀ w', Below W0.heap.size W0 w' → RdB w' w'.heap.size a bs) := fun w' h => (hr.below (HB0.out.trans (h.mono HB0.out.size))).mono (Nat.le_trans HB0.out.size h.size)
  have HFX := Lib.hid (hv.fit x)
  have HFY := Lib.hid (hu.fit y)
  have HW0 := Lib.hid hW0
  have HE := Lib.hid he
  have HF := Lib.hid hf
  have HYE := Lib.hid hy
  clear hW0 hv hu ht hr he hf hy
  go_enter Tryd.func7, Tryd.ntmps7
  go_wp2_with fail
  rw [← HW0.out]
  clear HW0
  refine (count_any x 12 _ W0 (by omega) (HV.out W0 (Below.refl _ _))).mono ?_
  rintro e w1 ⟨⟨q1, rfl, hq1, hd1⟩, hb1⟩
  have B1 := Lib.hid hb1
  have HD1 := Lib.hid hd1
  clear hb1 hd1
  by_cases h1 : (3000 : Int) < q1
  · go_wp2_with fail
    refine (cworks_any _ (HT.out _ B1.out)).mono ?_
    rintro e w2 ⟨rfl, hb2⟩
    go_wp2_with fail
    go_ret
    exact ⟨rfl, HB0.out.trans ((below_on B1.out hb2).mono HB0.out.size)⟩
  obtain ⟨hdx, hlx⟩ := HD1.out (by omega)
  obtain ⟨d0, d1, d2, d3, d4⟩ := HY.out _ B1.out
  clear HD1
  go_wp2_with fail
  refine (count_any y 12 _ w1 (by omega) (HU.out _ B1.out)).mono ?_
  rintro e w2 ⟨⟨q2, rfl, hq2, hd2⟩, hb2⟩
  have B2 := Lib.hid (below_on B1.out hb2)
  have HD2 := Lib.hid hd2
  clear hb2 hd2 d0 d1 d2 d3 d4 B1
  by_cases h2 : (3000 : Int) < q2
  · go_wp2_with fail
    refine (cworks_any _ (HT.out _ B2.out)).mono ?_
    rintro e w3 ⟨rfl, hb3⟩
    go_wp2_with fail
    go_ret
    exact ⟨rfl, HB0.out.trans ((below_on B2.out hb3).mono HB0.out.size)⟩
  obtain ⟨hdy, hly⟩ := HD2.out (by omega)
  clear HD2
  by_cases h3 : (2000 : Int) < bs.length
  · go_wp2_with fail
    refine (cworks_any _ (HT.out _ B2.out)).mono ?_
    rintro e w3 ⟨rfl, hb3⟩
    go_wp2_with fail
    go_ret
    exact ⟨rfl, HB0.out.trans ((below_on B2.out hb3).mono HB0.out.size)⟩
  have hlx' : x.bytes.length ≤ 27000 := by omega
  have hly' : y.bytes.length ≤ 27000 := by omega
  have hlb : bs.length ≤ 2000 := by omega
  obtain ⟨d0, d1, d2, d3, d4⟩ := HX.out _ B2.out
  go_wp2_with fail
  clear hlx hly hq1 hq2 h1 h2 h3
  refine (encode_any x _ w2 (HV.out _ B2.out) (HT.out _ B2.out) (by omega)).mono ?_
  rintro e w3 ⟨hb3, hor⟩
  have B3 := Lib.hid (below_on B2.out hb3)
  clear d0 d1 d2 d3 d4 hb3 B2
  obtain ⟨ux, hux, hox⟩ : ∃ u, e = .returned (.tuple #[u, .int .i64 0]) ∧ OwnV w3 w2.heap.size 5 u (x.bytes.map encB) := by
    rcases hor with ⟨h0, _⟩ | ⟨_, h⟩
    · exact absurd HE.out h0
    · exact h
  subst hux
  clear hor
  obtain ⟨A3, C3, rfl, hC3, hr3, _⟩ := hox.bytes
  have HR3 : Hid (∀ w', Below w3.heap.size w3 w' → RdB w' w'.heap.size A3 x.bytes) := fun w' h => (hr3.below h).mono h.size
  have S3 := Lib.hid ((hr3.src).alloc (.cells #[] 5))
  have hob := OwnV.lit w3 w3.heap.size 5 #[] (Nat.le_refl _) (by decide)
  have o1 := Lib.hid (encB_one x.bytes)
  have o2 := Lib.hid (encB_one bs)
  have hL1 : Hid (([] : List Value).length + (x.bytes.map encB).length ≤ maxLen) := by simp [Hid, maxLen]; omega
  have hL2 : Hid ((([] : List Value).length + (x.bytes.map encB).length) * 1 ≤ 140737488355328) := by simp [Hid]; omega
  have hL3 : Hid (([] ++ x.bytes.map encB : List Value).length + (bs.map encB).length ≤ maxLen) := by simp [Hid, maxLen]; omega
  have hL4 : Hid ((([] ++ x.bytes.map encB : List Value).length + (bs.map encB).length) * 1 ≤ 140737488355328) := by simp [Hid]; omega
  have HS4 : Hid (∀ w', Below w3.heap.size (w3.alloc (.cells #[] 5)) w' → Src w' a (bs.map encB)) := fun w' h => (HR.out w' (below_on B3.out (((Below.refl _ _).alloc (Nat.le_refl _) _).trans h))).src
  clear hr3 hox
  go_wp2_with (first
    | (go_at_call 12; refine (cnum_any _ _).mono ?_; rintro e w' ⟨rfl, hw⟩; rw [hw]; clear hw)
    | (at_builtin; (refine wpList_app _ rfl _ _ 24 rfl w3.heap.size 5 (.int .u8 0) 1 Tryd.underlying24 info_u8 rfl _ _ rfl hp4.1 _ _ _ _ rfl (List.length_map _) (HS4.out w4 (hp4.below hob (by simp))) o2.out hL3.out hL4.out (by have hz4 := (hp4.below hob (by simp)).size; simp at hz4; omega) ?_); intro v5' w5 hp5)
    | (at_builtin; refine wpList_app _ rfl _ _ 24 rfl w3.heap.size 5 (.int .u8 0) 1 Tryd.underlying24 info_u8 rfl _ _ rfl hob _ _ _ _ rfl (List.length_map _) S3.out o1.out hL1.out hL2.out (by simp) ?_; intro v4' w4 hp4))
  have B5 : Below W0.heap.size W0 w5 := below_on B3.out (((Below.refl _ _).alloc (Nat.le_refl _) _).trans ((hp4.below hob (by simp)).trans (hp5.below hp4.1 (by have hz4 := (hp4.below hob (by simp)).size; simp at hz4; omega))))
  have K5 : Below w3.heap.size w3 w5 := ((Below.refl _ _).alloc (Nat.le_refl _) _).trans ((hp4.below hob (by simp)).trans (hp5.below hp4.1 (by have hz4 := (hp4.below hob (by simp)).size; simp at hz4; omega)))
  have o5 := hp5.1
  rw [List.nil_append, ← List.map_append] at o5
  obtain ⟨A5, C5, e5, hC5, hr5, _⟩ := o5.bytes
  subst e5
  have HB5 := Lib.hid B5
  have HK5 := Lib.hid K5
  have HR5 := Lib.hid hr5
  have HFirst := Lib.hid (firstN_of x bs HE.out HFX.out (by rw [List.length_append]; omega))
  clear hp4 hp5 o5 hr5 B5 K5 hL1 hL2 hL3 hL4 o1 o2 S3 HS4 hob B3
  refine (firstAll A5 _ C5 (x.bytes ++ bs) rfl _ HR5.out hC5 (by rw [List.length_append]; omega) (HT.out _ HB5.out)).mono ?_
  rintro e w6 ⟨hb6, hm⟩
  rw [HFirst.out] at hm
  obtain ⟨vz, rfl, hz⟩ := hm
  have hzv : ItV w6 w6.heap.size vz x := hz.itV (fun b hb => hb.2) x
  obtain ⟨az, cz, Az, Cz, rfl⟩ := hzv.form
  have B6 := Lib.hid (below_on HB5.out hb6)
  have HZV := Lib.hid (hzv.on (below_al (Below.refl _ _) (.cells #[.int .i64 x.k, .int .u64 x.n, .slice az x.b.length cz, .string ⟨x.s.toArray⟩, .slice Az x.l.length Cz] 27)))
  have B6a := Lib.hid (below_al B6.out (.cells #[.int .i64 x.k, .int .u64 x.n, .slice az x.b.length cz, .string ⟨x.s.toArray⟩, .slice Az x.l.length Cz] 27))
  have K6a := Lib.hid (below_al (below_on HK5.out hb6) (.cells #[.int .i64 x.k, .int .u64 x.n, .slice az x.b.length cz, .string ⟨x.s.toArray⟩, .slice Az x.l.length Cz] 27))
  clear hz hzv hb6 HR5 HFirst HB5 HK5
  obtain ⟨g0, g1, g2, g3, g4⟩ := HX.out _ B6a.out
  go_wp2_with (go_at_call 12; refine (cnum_any _ _).mono ?_; rintro e w' ⟨rfl, hw⟩; rw [hw]; clear hw)
  refine (cSame_any x x _ _ _ (by omega) HZV.out (HV.out _ B6a.out)).mono ?_
  rintro e w7 ⟨rfl, hb7⟩
  rw [same_self]
  have B7x := Lib.hid (below_on B6a.out hb7)
  have K7x := Lib.hid (below_on K6a.out hb7)
  clear g0 g1 g2 g3 g4 hb7 HZV B6 B6a K6a
  obtain ⟨g0, g1, g2, g3, g4⟩ := HY.out _ B7x.out
  go_wp2_with fail
  refine (encode_any y _ _ (HU.out _ B7x.out) (HT.out _ B7x.out) (by omega)).mono ?_
  rintro e w8 ⟨hb8, hor⟩
  have B8x := Lib.hid (below_on B7x.out hb8)
  have HR8 := Lib.hid (HR3.out _ (below_on K7x.out hb8))
  clear g0 g1 g2 g3 g4 hb8 B7x K7x HR3
  have hor' : e = .returned (.tuple #[.slice none 0 0, .int .i64 y.err]) := by
    rcases hor with ⟨_, rfl⟩ | ⟨h0, _⟩
    · rfl
    · exact absurd h0 HYE.out
  subst hor'
  have hy0 := err_eq HYE.out
  clear hor HR8
  go_wp2
  go_quiet ((go_at_call 12; exact Calls.quiet_of_same (cnum_any _ _)))
  have BX := Lib.hid (below_dr B8x.out nq)
  clear hy0 B8x
  go_wp2_with fail
  refine (firstAll a _ c bs rfl _ (HR.out _ BX.out) hc (by omega) (HT.out _ BX.out)).mono ?_
  rintro e w7 ⟨hb7, hm⟩
  rw [HF.out] at hm
  have B7 := Lib.hid (below_on BX.out hb7)
  clear hb7
  obtain ⟨vz, rfl, hz⟩ := hm
  obtain ⟨hze, hzm, hzb, hzl⟩ := firstN_back HF.out
  have hzv : ItV w7 w7.heap.size vz z := hz.itV (fun b hb => hb.2) z
  obtain ⟨az, cz, Az, Cz, rfl⟩ := hzv.form
  have HZV : Hid (ItV (w7.alloc (.cells #[.int .i64 z.k, .int .u64 z.n, .slice az z.b.length cz, .string ⟨z.s.toArray⟩, .slice Az z.l.length Cz] 27)) (w7.alloc (.cells #[.int .i64 z.k, .int .u64 z.n, .slice az z.b.length cz, .string ⟨z.s.toArray⟩, .slice Az z.l.length Cz] 27)).heap.size (.agg #[.int .i64 z.k, .int .u64 z.n, .slice az z.b.length cz, .string ⟨z.s.toArray⟩, .slice Az z.l.length Cz]) z) := hzv.on (below_al (Below.refl _ _) _)
  have HZE := Lib.hid hze
  have HZB := Lib.hid hzb
  have HZL := Lib.hid hzl
  clear hz hzv hze hzb hzl
  have B8 := Lib.hid (below_al B7.out (.cells #[.int .i64 z.k, .int .u64 z.n, .slice az z.b.length cz, .string ⟨z.s.toArray⟩, .slice Az z.l.length Cz] 27))
  go_wp2_with (go_at_call 12; refine (cnum_any _ _).mono ?_; rintro e w' ⟨rfl, hw⟩; rw [hw]; clear hw)
  refine (encode_any z _ _ HZV.out (HT.out _ B8.out) (by
    have := HZE.out
    unfold It.err at this
    split at this
    · split at this
      · omega
      · omega
    · omega)).mono ?_
  rintro e w9 ⟨hb9, hor⟩
  have B9 := Lib.hid (below_on B8.out hb9)
  clear hb9
  obtain ⟨ud, hud, hod⟩ : ∃ u, e = .returned (.tuple #[u, .int .i64 0]) ∧ OwnV w9 (w7.alloc (.cells #[.int .i64 z.k, .int .u64 z.n, .slice az z.b.length cz, .string ⟨z.s.toArray⟩, .slice Az z.l.length Cz] 27)).heap.size 5 u (z.bytes.map encB) := by
    rcases hor with ⟨h0, _⟩ | ⟨_, h⟩
    · exact absurd HZE.out h0
    · exact h
  subst hud
  clear hor
  obtain ⟨A9, C9, rfl, hC9, hr9, _⟩ := hod.bytes
  have hzz := HZB.out
  have hzn := HZL.out
  rw [hzn] at hC9 ⊢
  have k1 := fun n => (hr9.drewN n).text (P := Tryd.prog) 24 9 5 m C9 hzn.symm Tryd.underlying24 Tryd.underlying5 Tryd.underlying9
  have k2 := fun n => (((HR.out _ B9.out).take m).drewN n).text (P := Tryd.prog) 24 9 5 m c (by simp; omega) Tryd.underlying24 Tryd.underlying5 Tryd.underlying9
  rw [← hzz] at k2
  have hm1 : (m : Int) ≤ (bs.length : Int) := by omega
  have hm2 : (m : Int) ≤ (c : Int) := by omega
  clear hzz hzn hod hr9 HZV HZB HZL
  go_wp2_with fail
  go_quiet ((go_at_call 12; exact Calls.quiet_of_same (cnum_any _ _)))
  have B10 : Below W0.heap.size W0 (w9.drewN nq) := below_dr B9.out nq
  have HT10 := Lib.hid (HT.out _ B10)
  have H10 := Lib.hid B10
  clear k1 k2 B10
  go_wp2_with fail
  refine (cworks_any _ HT10.out).mono ?_
  rintro e w11 ⟨rfl, hb11⟩
  go_wp2_with fail
  go_ret
  exact ⟨rfl, HB0.out.trans ((below_on H10.out hb11).mono HB0.out.size)⟩

set_option maxRecDepth 100000 in
set_option maxHeartbeats 8000000 in
theorem cholds_se (x y : It) (v0 v1 v2 v3 v4 u0 u1 u2 u3 u4 : Value) (a : Option Addr) (c : Nat) (bs : List UInt8) (w : World) (ht : TabW w) (hv : ItV w w.heap.size (.agg #[v0, v1, v2, v3, v4]) x) (hu : ItV w w.heap.size (.agg #[u0, u1, u2, u3, u4]) y)
    (hc : bs.length ≤ c) (hr : RdB w w.heap.size a bs) (hb47 : bs.length ≤ 140737488351232) (he : x.err = 0) (hy : y.err = 0) (hl : y.bytes.length ≤ x.bytes.length) (q : Nat) (hf : firstN bs = .error q) :
    Calls Tryd.prog 7 #[.agg #[v0, v1, v2, v3, v4], .agg #[u0, u1, u2, u3, u4], .slice a bs.length c] w fun e w' => e = .returned (.bool true) ∧ Below w.heap.size w w' := by
  obtain ⟨W0, hW0⟩ : ∃ W0, W0 = (w.alloc (.cells #[v0, v1, v2, v3, v4] 27)).alloc (.cells #[u0, u1, u2, u3, u4] 27) := ⟨_, rfl⟩
  have HB0 : Hid (Below w.heap.size w W0) := by rw [hW0]; exact below_al (below_al (Below.refl _ _) _) _
  have HX : Hid (∀ w', Below W0.heap.size W0 w' → Box5 w' w.heap.size v0 v1 v2 v3 v4) := by
    intro w' h
    rw [hW0] at h
    exact (boxes_later w v0 v1 v2 v3 v4 u0 u1 u2 u3 u4 _ w' h).1
  have HY : Hid (∀ w', Below W0.heap.size W0 w' → Box5 w' (w.heap.size + 1) u0 u1 u2 u3 u4) := by
    intro w' h
    rw [hW0] at h
    exact (boxes_later w v0 v1 v2 v3 v4 u0 u1 u2 u3 u4 _ w' h).2
  have HV : Hid (∀ w', Below W0.heap.size W0 w' → ItV w' w'.heap.size (.agg #[v0, v1, v2, v3, v4]) x) := fun w' h => (hv.on HB0.out).on h
  have HU : Hid (∀ w', Below W0.heap.size W0 w' → ItV w' w'.heap.size (.agg #[u0, u1, u2, u3, u4]) y) := fun w' h => (hu.on HB0.out).on h
  have HT : Hid (∀ w', Below W0.heap.size W0 w' → TabW w') := fun w' h => (ht.on HB0.out).on h
  have HR : Hid (∀ w', Below W0.heap.size W0 w' → RdB w' w'.heap.size a bs) := fun w' h => (hr.below (HB0.out.trans (h.mono HB0.out.size))).mono (Nat.le_trans HB0.out.size h.size)
  have HFX := Lib.hid (hv.fit x)
  have HFY := Lib.hid (hu.fit y)
  have HW0 := Lib.hid hW0
  have HE := Lib.hid he
  have HF := Lib.hid hf
  have HYE := Lib.hid hy
  clear hW0 hv hu ht hr he hf hy
  go_enter Tryd.func7, Tryd.ntmps7
  go_wp2_with fail
  rw [← HW0.out]
  clear HW0
  refine (count_any x 12 _ W0 (by omega) (HV.out W0 (Below.refl _ _))).mono ?_
  rintro e w1 ⟨⟨q1, rfl, hq1, hd1⟩, hb1⟩
  have B1 := Lib.hid hb1
  have HD1 := Lib.hid hd1
  clear hb1 hd1
  by_cases h1 : (3000 : Int) < q1
  · go_wp2_with fail
    refine (cworks_any _ (HT.out _ B1.out)).mono ?_
    rintro e w2 ⟨rfl, hb2⟩
    go_wp2_with fail
    go_ret
    exact ⟨rfl, HB0.out.trans ((below_on B1.out hb2).mono HB0.out.size)⟩
  obtain ⟨hdx, hlx⟩ := HD1.out (by omega)
  obtain ⟨d0, d1, d2, d3, d4⟩ := HY.out _ B1.out
  clear HD1
  go_wp2_with fail
  refine (count_any y 12 _ w1 (by omega) (HU.out _ B1.out)).mono ?_
  rintro e w2 ⟨⟨q2, rfl, hq2, hd2⟩, hb2⟩
  have B2 := Lib.hid (below_on B1.out hb2)
  have HD2 := Lib.hid hd2
  clear hb2 hd2 d0 d1 d2 d3 d4 B1
  by_cases h2 : (3000 : Int) < q2
  · go_wp2_with fail
    refine (cworks_any _ (HT.out _ B2.out)).mono ?_
    rintro e w3 ⟨rfl, hb3⟩
    go_wp2_with fail
    go_ret
    exact ⟨rfl, HB0.out.trans ((below_on B2.out hb3).mono HB0.out.size)⟩
  obtain ⟨hdy, hly⟩ := HD2.out (by omega)
  clear HD2
  by_cases h3 : (2000 : Int) < bs.length
  · go_wp2_with fail
    refine (cworks_any _ (HT.out _ B2.out)).mono ?_
    rintro e w3 ⟨rfl, hb3⟩
    go_wp2_with fail
    go_ret
    exact ⟨rfl, HB0.out.trans ((below_on B2.out hb3).mono HB0.out.size)⟩
  have hlx' : x.bytes.length ≤ 27000 := by omega
  have hly' : y.bytes.length ≤ 27000 := by omega
  have hlb : bs.length ≤ 2000 := by omega
  obtain ⟨d0, d1, d2, d3, d4⟩ := HX.out _ B2.out
  go_wp2_with fail
  clear hlx hly hq1 hq2 h1 h2 h3
  refine (encode_any x _ w2 (HV.out _ B2.out) (HT.out _ B2.out) (by omega)).mono ?_
  rintro e w3 ⟨hb3, hor⟩
  have B3 := Lib.hid (below_on B2.out hb3)
  clear d0 d1 d2 d3 d4 hb3 B2
  obtain ⟨ux, hux, hox⟩ : ∃ u, e = .returned (.tuple #[u, .int .i64 0]) ∧ OwnV w3 w2.heap.size 5 u (x.bytes.map encB) := by
    rcases hor with ⟨h0, _⟩ | ⟨_, h⟩
    · exact absurd HE.out h0
    · exact h
  subst hux
  clear hor
  obtain ⟨A3, C3, rfl, hC3, hr3, _⟩ := hox.bytes
  have HR3 : Hid (∀ w', Below w3.heap.size w3 w' → RdB w' w'.heap.size A3 x.bytes) := fun w' h => (hr3.below h).mono h.size
  have S3 := Lib.hid ((hr3.src).alloc (.cells #[] 5))
  have hob := OwnV.lit w3 w3.heap.size 5 #[] (Nat.le_refl _) (by decide)
  have o1 := Lib.hid (encB_one x.bytes)
  have o2 := Lib.hid (encB_one bs)
  have hL1 : Hid (([] : List Value).length + (x.bytes.map encB).length ≤ maxLen) := by simp [Hid, maxLen]; omega
  have hL2 : Hid ((([] : List Value).length + (x.bytes.map encB).length) * 1 ≤ 140737488355328) := by simp [Hid]; omega
  have hL3 : Hid (([] ++ x.bytes.map encB : List Value).length + (bs.map encB).length ≤ maxLen) := by simp [Hid, maxLen]; omega
  have hL4 : Hid ((([] ++ x.bytes.map encB : List Value).length + (bs.map encB).length) * 1 ≤ 140737488355328) := by simp [Hid]; omega
  have HS4 : Hid (∀ w', Below w3.heap.size (w3.alloc (.cells #[] 5)) w' → Src w' a (bs.map encB)) := fun w' h => (HR.out w' (below_on B3.out (((Below.refl _ _).alloc (Nat.le_refl _) _).trans h))).src
  clear hr3 hox
  go_wp2_with (first
    | (go_at_call 12; refine (cnum_any _ _).mono ?_; rintro e w' ⟨rfl, hw⟩; rw [hw]; clear hw)
    | (at_builtin; (refine wpList_app _ rfl _ _ 24 rfl w3.heap.size 5 (.int .u8 0) 1 Tryd.underlying24 info_u8 rfl _ _ rfl hp4.1 _ _ _ _ rfl (List.length_map _) (HS4.out w4 (hp4.below hob (by simp))) o2.out hL3.out hL4.out (by have hz4 := (hp4.below hob (by simp)).size; simp at hz4; omega) ?_); intro v5' w5 hp5)
    | (at_builtin; refine wpList_app _ rfl _ _ 24 rfl w3.heap.size 5 (.int .u8 0) 1 Tryd.underlying24 info_u8 rfl _ _ rfl hob _ _ _ _ rfl (List.length_map _) S3.out o1.out hL1.out hL2.out (by simp) ?_; intro v4' w4 hp4))
  have B5 : Below W0.heap.size W0 w5 := below_on B3.out (((Below.refl _ _).alloc (Nat.le_refl _) _).trans ((hp4.below hob (by simp)).trans (hp5.below hp4.1 (by have hz4 := (hp4.below hob (by simp)).size; simp at hz4; omega))))
  have K5 : Below w3.heap.size w3 w5 := ((Below.refl _ _).alloc (Nat.le_refl _) _).trans ((hp4.below hob (by simp)).trans (hp5.below hp4.1 (by have hz4 := (hp4.below hob (by simp)).size; simp at hz4; omega)))
  have o5 := hp5.1
  rw [List.nil_append, ← List.map_append] at o5
  obtain ⟨A5, C5, e5, hC5, hr5, _⟩ := o5.bytes
  subst e5
  have HB5 := Lib.hid B5
  have HK5 := Lib.hid K5
  have HR5 := Lib.hid hr5
  have HFirst := Lib.hid (firstN_of x bs HE.out HFX.out (by rw [List.length_append]; omega))
  clear hp4 hp5 o5 hr5 B5 K5 hL1 hL2 hL3 hL4 o1 o2 S3 HS4 hob B3
  refine (firstAll A5 _ C5 (x.bytes ++ bs) rfl _ HR5.out hC5 (by rw [List.length_append]; omega) (HT.out _ HB5.out)).mono ?_
  rintro e w6 ⟨hb6, hm⟩
  rw [HFirst.out] at hm
  obtain ⟨vz, rfl, hz⟩ := hm
  have hzv : ItV w6 w6.heap.size vz x := hz.itV (fun b hb => hb.2) x
  obtain ⟨az, cz, Az, Cz, rfl⟩ := hzv.form
  have B6 := Lib.hid (below_on HB5.out hb6)
  have HZV := Lib.hid (hzv.on (below_al (Below.refl _ _) (.cells #[.int .i64 x.k, .int .u64 x.n, .slice az x.b.length cz, .string ⟨x.s.toArray⟩, .slice Az x.l.length Cz] 27)))
  have B6a := Lib.hid (below_al B6.out (.cells #[.int .i64 x.k, .int .u64 x.n, .slice az x.b.length cz, .string ⟨x.s.toArray⟩, .slice Az x.l.length Cz] 27))
  have K6a := Lib.hid (below_al (below_on HK5.out hb6) (.cells #[.int .i64 x.k, .int .u64 x.n, .slice az x.b.length cz, .string ⟨x.s.toArray⟩, .slice Az x.l.length Cz] 27))
  clear hz hzv hb6 HR5 HFirst HB5 HK5
  obtain ⟨g0, g1, g2, g3, g4⟩ := HX.out _ B6a.out
  go_wp2_with (go_at_call 12; refine (cnum_any _ _).mono ?_; rintro e w' ⟨rfl, hw⟩; rw [hw]; clear hw)
  refine (cSame_any x x _ _ _ (by omega) HZV.out (HV.out _ B6a.out)).mono ?_
  rintro e w7 ⟨rfl, hb7⟩
  rw [same_self]
  have B7x := Lib.hid (below_on B6a.out hb7)
  have K7x := Lib.hid (below_on K6a.out hb7)
  clear g0 g1 g2 g3 g4 hb7 HZV B6 B6a K6a
  obtain ⟨g0, g1, g2, g3, g4⟩ := HY.out _ B7x.out
  go_wp2_with fail
  refine (encode_any y _ _ (HU.out _ B7x.out) (HT.out _ B7x.out) (by omega)).mono ?_
  rintro e w8 ⟨hb8, hor⟩
  have B8x := Lib.hid (below_on B7x.out hb8)
  have HR8 := Lib.hid (HR3.out _ (below_on K7x.out hb8))
  clear g0 g1 g2 g3 g4 hb8 B7x K7x HR3
  obtain ⟨uy, huy, hoy⟩ : ∃ u, e = .returned (.tuple #[u, .int .i64 0]) ∧ OwnV w8 w7.heap.size 5 u (y.bytes.map encB) := by
    rcases hor with ⟨h0, _⟩ | ⟨_, h⟩
    · exact absurd HYE.out h0
    · exact h
  subst huy
  clear hor
  obtain ⟨A8, C8, rfl, hC8, hr8, _⟩ := hoy.bytes
  clear hoy
  have hlg : decide (x.bytes.length < y.bytes.length) = false := by simp; omega
  clear hr8 HR8
  go_wp2
  go_quiet ((go_at_call 12; exact Calls.quiet_of_same (cnum_any _ _)))
  have BX := Lib.hid (below_dr B8x.out nq)
  clear hlg B8x
  go_wp2_with fail
  refine (firstAll a _ c bs rfl _ (HR.out _ BX.out) hc (by omega) (HT.out _ BX.out)).mono ?_
  rintro e w7 ⟨hb7, hm⟩
  rw [HF.out] at hm
  have B7 := Lib.hid (below_on BX.out hb7)
  clear hb7
  have hm : e = .returned (.tuple #[itemV 0 0 [], .int .i64 0, .int .i64 q]) := hm
  subst hm
  have hq := firstN_err HF.out
  have hq0 := err_eq (n := q) (by omega)
  clear hq
  unfold itemV
  go_wp2_with (go_at_call 12; refine (cnum_any _ _).mono ?_; rintro e w' ⟨rfl, hw⟩; rw [hw]; clear hw)
  have B8 := Lib.hid (below_al B7.out (.cells #[.int .i64 0, .int .u64 0, .slice none 0 0, .string ⟨#[]⟩, .slice none 0 0] 27))
  refine (cworks_any _ (HT.out _ B8.out)).mono ?_
  rintro e w9 ⟨rfl, hb9⟩
  go_wp2_with fail
  go_ret
  exact ⟨rfl, HB0.out.trans ((below_on B8.out hb9).mono HB0.out.size)⟩

set_option maxRecDepth 100000 in
set_option maxHeartbeats 8000000 in
theorem cholds_so (x y : It) (v0 v1 v2 v3 v4 u0 u1 u2 u3 u4 : Value) (a : Option Addr) (c : Nat) (bs : List UInt8) (w : World) (ht : TabW w) (hv : ItV w w.heap.size (.agg #[v0, v1, v2, v3, v4]) x) (hu : ItV w w.heap.size (.agg #[u0, u1, u2, u3, u4]) y)
    (hc : bs.length ≤ c) (hr : RdB w w.heap.size a bs) (hb47 : bs.length ≤ 140737488351232) (he : x.err = 0) (hy : y.err = 0) (hl : y.bytes.length ≤ x.bytes.length) (z : It) (m : Nat) (hf : firstN bs = .ok (z, m)) :
    Calls Tryd.prog 7 #[.agg #[v0, v1, v2, v3, v4], .agg #[u0, u1, u2, u3, u4], .slice a bs.length c] w fun e w' => e = .returned (.bool true) ∧ Below w.heap.size w w' := by
  obtain ⟨W0, hW0⟩ : ∃ W0, W0 = (w.alloc (.cells #[v0, v1, v2, v3, v4] 27)).alloc (.cells #[u0, u1, u2, u3, u4] 27) := ⟨_, rfl⟩
  have HB0 : Hid (Below w.heap.size w W0) := by rw [hW0]; exact below_al (below_al (Below.refl _ _) _) _
  have HX : Hid (∀ w', Below W0.heap.size W0 w' → Box5 w' w.heap.size v0 v1 v2 v3 v4) := by
    intro w' h
    rw [hW0] at h
    exact (boxes_later w v0 v1 v2 v3 v4 u0 u1 u2 u3 u4 _ w' h).1
  have HY : Hid (∀ w', Below W0.heap.size W0 w' → Box5 w' (w.heap.size + 1) u0 u1 u2 u3 u4) := by
    intro w' h
    rw [hW0] at h
    exact (boxes_later w v0 v1 v2 v3 v4 u0 u1 u2 u3 u4 _ w' h).2
  have HV : Hid (∀ w', Below W0.heap.size W0 w' → ItV w' w'.heap.size (.agg #[v0, v1, v2, v3, v4]) x) := fun w' h => (hv.on HB0.out).on h
  have HU : Hid (∀ w', Below W0.heap.size W0 w' → ItV w' w'.heap.size (.agg #[u0, u1, u2, u3, u4]) y) := fun w' h => (hu.on HB0.out).on h
  have HT : Hid (∀ w', Below W0.heap.size W0 w' → TabW w') := fun w' h => (ht.on HB0.out).on h
  have HR : Hid (∀ w', Below W0.heap.size W0 w' → RdB w' w'.heap.size a bs) := fun w' h => (hr.below (HB0.out.trans (h.mono HB0.out.size))).mono (Nat.le_trans HB0.out.size h.size)
  have HFX := Lib.hid (hv.fit x)
  have HFY := Lib.hid (hu.fit y)
  have HW0 := Lib.hid hW0
  have HE := Lib.hid he
  have HF := Lib.hid hf
  have HYE := Lib.hid hy
  clear hW0 hv hu ht hr he hf hy
  go_enter Tryd.func7, Tryd.ntmps7
  go_wp2_with fail
  rw [← HW0.out]
  clear HW0
  refine (count_any x 12 _ W0 (by omega) (HV.out W0 (Below.refl _ _))).mono ?_
  rintro e w1 ⟨⟨q1, rfl, hq1, hd1⟩, hb1⟩
  have B1 := Lib.hid hb1
  have HD1 := Lib.hid hd1
  clear hb1 hd1
  by_cases h1 : (3000 : Int) < q1
  · go_wp2_with fail
    refine (cworks_any _ (HT.out _ B1.out)).mono ?_
    rintro e w2 ⟨rfl, hb2⟩
    go_wp2_with fail
    go_ret
    exact ⟨rfl, HB0.out.trans ((below_on B1.out hb2).mono HB0.out.size)⟩
  obtain ⟨hdx, hlx⟩ := HD1.out (by omega)
  obtain ⟨d0, d1, d2, d3, d4⟩ := HY.out _ B1.out
  clear HD1
  go_wp2_with fail
  refine (count_any y 12 _ w1 (by omega) (HU.out _ B1.out)).mono ?_
  rintro e w2 ⟨⟨q2, rfl, hq2, hd2⟩, hb2⟩
  have B2 := Lib.hid (below_on B1.out hb2)
  have HD2 := Lib.hid hd2
  clear hb2 hd2 d0 d1 d2 d3 d4 B1
  by_cases h2 : (3000 : Int) < q2
  · go_wp2_with fail
    refine (cworks_any _ (HT.out _ B2.out)).mono ?_
    rintro e w3 ⟨rfl, hb3⟩
    go_wp2_with fail
    go_ret
    exact ⟨rfl, HB0.out.trans ((below_on B2.out hb3).mono HB0.out.size)⟩
  obtain ⟨hdy, hly⟩ := HD2.out (by omega)
  clear HD2
  by_cases h3 : (2000 : Int) < bs.length
  · go_wp2_with fail
    refine (cworks_any _ (HT.out _ B2.out)).mono ?_
    rintro e w3 ⟨rfl, hb3⟩
    go_wp2_with fail
    go_ret
    exact ⟨rfl, HB0.out.trans ((below_on B2.out hb3).mono HB0.out.size)⟩
  have hlx' : x.bytes.length ≤ 27000 := by omega
  have hly' : y.bytes.length ≤ 27000 := by omega
  have hlb : bs.length ≤ 2000 := by omega
  obtain ⟨d0, d1, d2, d3, d4⟩ := HX.out _ B2.out
  go_wp2_with fail
  clear hlx hly hq1 hq2 h1 h2 h3
  refine (encode_any x _ w2 (HV.out _ B2.out) (HT.out _ B2.out) (by omega)).mono ?_
  rintro e w3 ⟨hb3, hor⟩
  have B3 := Lib.hid (below_on B2.out hb3)
  clear d0 d1 d2 d3 d4 hb3 B2
  obtain ⟨ux, hux, hox⟩ : ∃ u, e = .returned (.tuple #[u, .int .i64 0]) ∧ OwnV w3 w2.heap.size 5 u (x.bytes.map encB) := by
    rcases hor with ⟨h0, _⟩ | ⟨_, h⟩
    · exact absurd HE.out h0
    · exact h
  subst hux
  clear hor
  obtain ⟨A3, C3, rfl, hC3, hr3, _⟩ := hox.bytes
  have HR3 : Hid (∀ w', Below w3.heap.size w3 w' → RdB w' w'.heap.size A3 x.bytes) := fun w' h => (hr3.below h).mono h.size
  have S3 := Lib.hid ((hr3.src).alloc (.cells #[] 5))
  have hob := OwnV.lit w3 w3.heap.size 5 #[] (Nat.le_refl _) (by decide)
  have o1 := Lib.hid (encB_one x.bytes)
  have o2 := Lib.hid (encB_one bs)
  have hL1 : Hid (([] : List Value).length + (x.bytes.map encB).length ≤ maxLen) := by simp [Hid, maxLen]; omega
  have hL2 : Hid ((([] : List Value).length + (x.bytes.map encB).length) * 1 ≤ 140737488355328) := by simp [Hid]; omega
  have hL3 : Hid (([] ++ x.bytes.map encB : List Value).length + (bs.map encB).length ≤ maxLen) := by simp [Hid, maxLen]; omega
  have hL4 : Hid ((([] ++ x.bytes.map encB : List Value).length + (bs.map encB).length) * 1 ≤ 140737488355328) := by simp [Hid]; omega
  have HS4 : Hid (∀ w', Below w3.heap.size (w3.alloc (.cells #[] 5)) w' → Src w' a (bs.map encB)) := fun w' h => (HR.out w' (below_on B3.out (((Below.refl _ _).alloc (Nat.le_refl _) _).trans h))).src
  clear hr3 hox
  go_wp2_with (first
    | (go_at_call 12; refine (cnum_any _ _).mono ?_; rintro e w' ⟨rfl, hw⟩; rw [hw]; clear hw)
    | (at_builtin; (refine wpList_app _ rfl _ _ 24 rfl w3.heap.size 5 (.int .u8 0) 1 Tryd.underlying24 info_u8 rfl _ _ rfl hp4.1 _ _ _ _ rfl (List.length_map _) (HS4.out w4 (hp4.below hob (by simp))) o2.out hL3.out hL4.out (by have hz4 := (hp4.below hob (by simp)).size; simp at hz4; omega) ?_); intro v5' w5 hp5)
    | (at_builtin; refine wpList_app _ rfl _ _ 24 rfl w3.heap.size 5 (.int .u8 0) 1 Tryd.underlying24 info_u8 rfl _ _ rfl hob _ _ _ _ rfl (List.length_map _) S3.out o1.out hL1.out hL2.out (by simp) ?_; intro v4' w4 hp4))
  have B5 : Below W0.heap.size W0 w5 := below_on B3.out (((Below.refl _ _).alloc (Nat.le_refl _) _).trans ((hp4.below hob (by simp)).trans (hp5.below hp4.1 (by have hz4 := (hp4.below hob (by simp)).size; simp at hz4; omega))))
  have K5 : Below w3.heap.size w3 w5 := ((Below.refl _ _).alloc (Nat.le_refl _) _).trans ((hp4.below hob (by simp)).trans (hp5.below hp4.1 (by have hz4 := (hp4.below hob (by simp)).size; simp at hz4; omega)))
  have o5 := hp5.1
  rw [List.nil_append, ← List.map_append] at o5
  obtain ⟨A5, C5, e5, hC5, hr5, _⟩ := o5.bytes
  subst e5
  have HB5 := Lib.hid B5
  have HK5 := Lib.hid K5
  have HR5 := Lib.hid hr5
  have HFirst := Lib.hid (firstN_of x bs HE.out HFX.out (by rw [List.length_append]; omega))
  clear hp4 hp5 o5 hr5 B5 K5 hL1 hL2 hL3 hL4 o1 o2 S3 HS4 hob B3
  refine (firstAll A5 _ C5 (x.bytes ++ bs) rfl _ HR5.out hC5 (by rw [List.length_append]; omega) (HT.out _ HB5.out)).mono ?_
  rintro e w6 ⟨hb6, hm⟩
  rw [HFirst.out] at hm
  obtain ⟨vz, rfl, hz⟩ := hm
  have hzv : ItV w6 w6.heap.size vz x := hz.itV (fun b hb => hb.2) x
  obtain ⟨az, cz, Az, Cz, rfl⟩ := hzv.form
  have B6 := Lib.hid (below_on HB5.out hb6)
  have HZV := Lib.hid (hzv.on (below_al (Below.refl _ _) (.cells #[.int .i64 x.k, .int .u64 x.n, .slice az x.b.length cz, .string ⟨x.s.toArray⟩, .slice Az x.l.length Cz] 27)))
  have B6a := Lib.hid (below_al B6.out (.cells #[.int .i64 x.k, .int .u64 x.n, .slice az x.b.length cz, .string ⟨x.s.toArray⟩, .slice Az x.l.length Cz] 27))
  have K6a := Lib.hid (below_al (below_on HK5.out hb6) (.cells #[.int .i64 x.k, .int .u64 x.n, .slice az x.b.length cz, .string ⟨x.s.toArray⟩, .slice Az x.l.length Cz] 27))
  clear hz hzv hb6 HR5 HFirst HB5 HK5
  obtain ⟨g0, g1, g2, g3, g4⟩ := HX.out _ B6a.out
  go_wp2_with (go_at_call 12; refine (cnum_any _ _).mono ?_; rintro e w' ⟨rfl, hw⟩; rw [hw]; clear hw)
  refine (cSame_any x x _ _ _ (by omega) HZV.out (HV.out _ B6a.out)).mono ?_
  rintro e w7 ⟨rfl, hb7⟩
  rw [same_self]
  have B7x := Lib.hid (below_on B6a.out hb7)
  have K7x := Lib.hid (below_on K6a.out hb7)
  clear g0 g1 g2 g3 g4 hb7 HZV B6 B6a K6a
  obtain ⟨g0, g1, g2, g3, g4⟩ := HY.out _ B7x.out
  go_wp2_with fail
  refine (encode_any y _ _ (HU.out _ B7x.out) (HT.out _ B7x.out) (by omega)).mono ?_
  rintro e w8 ⟨hb8, hor⟩
  have B8x := Lib.hid (below_on B7x.out hb8)
  have HR8 := Lib.hid (HR3.out _ (below_on K7x.out hb8))
  clear g0 g1 g2 g3 g4 hb8 B7x K7x HR3
  obtain ⟨uy, huy, hoy⟩ : ∃ u, e = .returned (.tuple #[u, .int .i64 0]) ∧ OwnV w8 w7.heap.size 5 u (y.bytes.map encB) := by
    rcases hor with ⟨h0, _⟩ | ⟨_, h⟩
    · exact absurd HYE.out h0
    · exact h
  subst huy
  clear hor
  obtain ⟨A8, C8, rfl, hC8, hr8, _⟩ := hoy.bytes
  clear hoy
  have hlg : decide (x.bytes.length < y.bytes.length) = false := by simp; omega
  clear hr8 HR8
  go_wp2
  go_quiet ((go_at_call 12; exact Calls.quiet_of_same (cnum_any _ _)))
  have BX := Lib.hid (below_dr B8x.out nq)
  clear hlg B8x
  go_wp2_with fail
  refine (firstAll a _ c bs rfl _ (HR.out _ BX.out) hc (by omega) (HT.out _ BX.out)).mono ?_
  rintro e w7 ⟨hb7, hm⟩
  rw [HF.out] at hm
  have B7 := Lib.hid (below_on BX.out hb7)
  clear hb7
  obtain ⟨vz, rfl, hz⟩ := hm
  obtain ⟨hze, hzm, hzb, hzl⟩ := firstN_back HF.out
  have hzv : ItV w7 w7.heap.size vz z := hz.itV (fun b hb => hb.2) z
  obtain ⟨az, cz, Az, Cz, rfl⟩ := hzv.form
  have HZV : Hid (ItV (w7.alloc (.cells #[.int .i64 z.k, .int .u64 z.n, .slice az z.b.length cz, .string ⟨z.s.toArray⟩, .slice Az z.l.length Cz] 27)) (w7.alloc (.cells #[.int .i64 z.k, .int .u64 z.n, .slice az z.b.length cz, .string ⟨z.s.toArray⟩, .slice Az z.l.length Cz] 27)).heap.size (.agg #[.int .i64 z.k, .int .u64 z.n, .slice az z.b.length cz, .string ⟨z.s.toArray⟩, .slice Az z.l.length Cz]) z) := hzv.on (below_al (Below.refl _ _) _)
  have HZE := Lib.hid hze
  have HZB := Lib.hid hzb
  have HZL := Lib.hid hzl
  clear hz hzv hze hzb hzl
  have B8 := Lib.hid (below_al B7.out (.cells #[.int .i64 z.k, .int .u64 z.n, .slice az z.b.length cz, .string ⟨z.s.toArray⟩, .slice Az z.l.length Cz] 27))
  go_wp2_with (go_at_call 12; refine (cnum_any _ _).mono ?_; rintro e w' ⟨rfl, hw⟩; rw [hw]; clear hw)
  refine (encode_any z _ _ HZV.out (HT.out _ B8.out) (by
    have := HZE.out
    unfold It.err at this
    split at this
    · split at this
      · omega
      · omega
    · omega)).mono ?_
  rintro e w9 ⟨hb9, hor⟩
  have B9 := Lib.hid (below_on B8.out hb9)
  clear hb9
  obtain ⟨ud, hud, hod⟩ : ∃ u, e = .returned (.tuple #[u, .int .i64 0]) ∧ OwnV w9 (w7.alloc (.cells #[.int .i64 z.k, .int .u64 z.n, .slice az z.b.length cz, .string ⟨z.s.toArray⟩, .slice Az z.l.length Cz] 27)).heap.size 5 u (z.bytes.map encB) := by
    rcases hor with ⟨h0, _⟩ | ⟨_, h⟩
    · exact absurd HZE.out h0
    · exact h
  subst hud
  clear hor
  obtain ⟨A9, C9, rfl, hC9, hr9, _⟩ := hod.bytes
  have hzz := HZB.out
  have hzn := HZL.out
  rw [hzn] at hC9 ⊢
  have k1 := fun n => (hr9.drewN n).text (P := Tryd.prog) 24 9 5 m C9 hzn.symm Tryd.underlying24 Tryd.underlying5 Tryd.underlying9
  have k2 := fun n => (((HR.out _ B9.out).take m).drewN n).text (P := Tryd.prog) 24 9 5 m c (by simp; omega) Tryd.underlying24 Tryd.underlying5 Tryd.underlying9
  rw [← hzz] at k2
  have hm1 : (m : Int) ≤ (bs.length : Int) := by omega
  have hm2 : (m : Int) ≤ (c : Int) := by omega
  clear hzz hzn hod hr9 HZV HZB HZL
  go_wp2_with fail
  go_quiet ((go_at_call 12; exact Calls.quiet_of_same (cnum_any _ _)))
  have B10 : Below W0.heap.size W0 (w9.drewN nq) := below_dr B9.out nq
  have HT10 := Lib.hid (HT.out _ B10)
  have H10 := Lib.hid B10
  clear k1 k2 B10
  go_wp2_with fail
  refine (cworks_any _ HT10.out).mono ?_
  rintro e w11 ⟨rfl, hb11⟩
  go_wp2_with fail
  go_ret
  exact ⟨rfl, HB0.out.trans ((below_on H10.out hb11).mono HB0.out.size)⟩

set_option maxRecDepth 100000 in
set_option maxHeartbeats 8000000 in
theorem cholds_le (x y : It) (v0 v1 v2 v3 v4 u0 u1 u2 u3 u4 : Value) (a : Option Addr) (c : Nat) (bs : List UInt8) (w : World) (ht : TabW w) (hv : ItV w w.heap.size (.agg #[v0, v1, v2, v3, v4]) x) (hu : ItV w w.heap.size (.agg #[u0, u1, u2, u3, u4]) y)
    (hc : bs.length ≤ c) (hr : RdB w w.heap.size a bs) (hb47 : bs.length ≤ 140737488351232) (he : x.err = 0) (hy : y.err = 0) (hl : x.bytes.length < y.bytes.length) (q : Nat) (hf : firstN bs = .error q) :
    Calls Tryd.prog 7 #[.agg #[v0, v1, v2, v3, v4], .agg #[u0, u1, u2, u3, u4], .slice a bs.length c] w fun e w' => e = .returned (.bool true) ∧ Below w.heap.size w w' := by
  obtain ⟨W0, hW0⟩ : ∃ W0, W0 = (w.alloc (.cells #[v0, v1, v2, v3, v4] 27)).alloc (.cells #[u0, u1, u2, u3, u4] 27) := ⟨_, rfl⟩
  have HB0 : Hid (Below w.heap.size w W0) := by rw [hW0]; exact below_al (below_al (Below.refl _ _) _) _
  have HX : Hid (∀ w', Below W0.heap.size W0 w' → Box5 w' w.heap.size v0 v1 v2 v3 v4) := by
    intro w' h
    rw [hW0] at h
    exact (boxes_later w v0 v1 v2 v3 v4 u0 u1 u2 u3 u4 _ w' h).1
  have HY : Hid (∀ w', Below W0.heap.size W0 w' → Box5 w' (w.heap.size + 1) u0 u1 u2 u3 u4) := by
    intro w' h
    rw [hW0] at h
    exact (boxes_later w v0 v1 v2 v3 v4 u0 u1 u2 u3 u4 _ w' h).2
  have HV : Hid (∀ w', Below W0.heap.size W0 w' → ItV w' w'.heap.size (.agg #[v0, v1, v2, v3, v4]) x) := fun w' h => (hv.on HB0.out).on h
  have HU : Hid (∀ w', Below W0.heap.size W0 w' → ItV w' w'.heap.size (.agg #[u0, u1, u2, u3, u4]) y) := fun w' h => (hu.on HB0.out).on h
  have HT : Hid (∀ w', Below W0.heap.size W0 w' → TabW w') := fun w' h => (ht.on HB0.out).on h
  have HR : Hid (∀ w', Below W0.heap.size W0 w' → RdB w' w'.heap.size a bs) := fun w' h => (hr.below (HB0.out.trans (h.mono HB0.out.size))).mono (Nat.le_trans HB0.out.size h.size)
  have HFX := Lib.hid (hv.fit x)
  have HFY := Lib.hid (hu.fit y)
  have HW0 := Lib.hid hW0
  have HE := Lib.hid he
  have HF := Lib.hid hf
  have HYE := Lib.hid hy
  clear hW0 hv hu ht hr he hf hy
  go_enter Tryd.func7, Tryd.ntmps7
  go_wp2_with fail
  rw [← HW0.out]
  clear HW0
  refine (count_any x 12 _ W0 (by omega) (HV.out W0 (Below.refl _ _))).mono ?_
  rintro e w1 ⟨⟨q1, rfl, hq1, hd1⟩, hb1⟩
  have B1 := Lib.hid hb1
  have HD1 := Lib.hid hd1
  clear hb1 hd1
  by_cases h1 : (3000 : Int) < q1
  · go_wp2_with fail
    refine (cworks_any _ (HT.out _ B1.out)).mono ?_
    rintro e w2 ⟨rfl, hb2⟩
    go_wp2_with fail
    go_ret
    exact ⟨rfl, HB0.out.trans ((below_on B1.out hb2).mono HB0.out.size)⟩
  obtain ⟨hdx, hlx⟩ := HD1.out (by omega)
  obtain ⟨d0, d1, d2, d3, d4⟩ := HY.out _ B1.out
  clear HD1
  go_wp2_with fail
  refine (count_any y 12 _ w1 (by omega) (HU.out _ B1.out)).mono ?_
  rintro e w2 ⟨⟨q2, rfl, hq2, hd2⟩, hb2⟩
  have B2 := Lib.hid (below_on B1.out hb2)
  have HD2 := Lib.hid hd2
  clear hb2 hd2 d0 d1 d2 d3 d4 B1
  by_cases h2 : (3000 : Int) < q2
  · go_wp2_with fail
    refine (cworks_any _ (HT.out _ B2.out)).mono ?_
    rintro e w3 ⟨rfl, hb3⟩
    go_wp2_with fail
    go_ret
    exact ⟨rfl, HB0.out.trans ((below_on B2.out hb3).mono HB0.out.size)⟩
  obtain ⟨hdy, hly⟩ := HD2.out (by omega)
  clear HD2
  by_cases h3 : (2000 : Int) < bs.length
  · go_wp2_with fail
    refine (cworks_any _ (HT.out _ B2.out)).mono ?_
    rintro e w3 ⟨rfl, hb3⟩
    go_wp2_with fail
    go_ret
    exact ⟨rfl, HB0.out.trans ((below_on B2.out hb3).mono HB0.out.size)⟩
  have hlx' : x.bytes.length ≤ 27000 := by omega
  have hly' : y.bytes.length ≤ 27000 := by omega
  have hlb : bs.length ≤ 2000 := by omega
  obtain ⟨d0, d1, d2, d3, d4⟩ := HX.out _ B2.out
  go_wp2_with fail
  clear hlx hly hq1 hq2 h1 h2 h3
  refine (encode_any x _ w2 (HV.out _ B2.out) (HT.out _ B2.out) (by omega)).mono ?_
  rintro e w3 ⟨hb3, hor⟩
  have B3 := Lib.hid (below_on B2.out hb3)
  clear d0 d1 d2 d3 d4 hb3 B2
  obtain ⟨ux, hux, hox⟩ : ∃ u, e = .returned (.tuple #[u, .int .i64 0]) ∧ OwnV w3 w2.heap.size 5 u (x.bytes.map encB) := by
    rcases hor with ⟨h0, _⟩ | ⟨_, h⟩
    · exact absurd HE.out h0
    · exact h
  subst hux
  clear hor
  obtain ⟨A3, C3, rfl, hC3, hr3, _⟩ := hox.bytes
  have HR3 : Hid (∀ w', Below w3.heap.size w3 w' → RdB w' w'.heap.size A3 x.bytes) := fun w' h => (hr3.below h).mono h.size
  have S3 := Lib.hid ((hr3.src).alloc (.cells #[] 5))
  have hob := OwnV.lit w3 w3.heap.size 5 #[] (Nat.le_refl _) (by decide)
  have o1 := Lib.hid (encB_one x.bytes)
  have o2 := Lib.hid (encB_one bs)
  have hL1 : Hid (([] : List Value).length + (x.bytes.map encB).length ≤ maxLen) := by simp [Hid, maxLen]; omega
  have hL2 : Hid ((([] : List Value).length + (x.bytes.map encB).length) * 1 ≤ 140737488355328) := by simp [Hid]; omega
  have hL3 : Hid (([] ++ x.bytes.map encB : List Value).length + (bs.map encB).length ≤ maxLen) := by simp [Hid, maxLen]; omega
  have hL4 : Hid ((([] ++ x.bytes.map encB : List Value).length + (bs.map encB).length) * 1 ≤ 140737488355328) := by simp [Hid]; omega
  have HS4 : Hid (∀ w', Below w3.heap.size (w3.alloc (.cells #[] 5)) w' → Src w' a (bs.map encB)) := fun w' h => (HR.out w' (below_on B3.out (((Below.refl _ _).alloc (Nat.le_refl _) _).trans h))).src
  clear hr3 hox
  go_wp2_with (first
    | (go_at_call 12; refine (cnum_any _ _).mono ?_; rintro e w' ⟨rfl, hw⟩; rw [hw]; clear hw)
    | (at_builtin; (refine wpList_app _ rfl _ _ 24 rfl w3.heap.size 5 (.int .u8 0) 1 Tryd.underlying24 info_u8 rfl _ _ rfl hp4.1 _ _ _ _ rfl (List.length_map _) (HS4.out w4 (hp4.below hob (by simp))) o2.out hL3.out hL4.out (by have hz4 := (hp4.below hob (by simp)).size; simp at hz4; omega) ?_); intro v5' w5 hp5)
    | (at_builtin; refine wpList_app _ rfl _ _ 24 rfl w3.heap.size 5 (.int .u8 0) 1 Tryd.underlying24 info_u8 rfl _ _ rfl hob _ _ _ _ rfl (List.length_map _) S3.out o1.out hL1.out hL2.out (by simp) ?_; intro v4' w4 hp4))
  have B5 : Below W0.heap.size W0 w5 := below_on B3.out (((Below.refl _ _).alloc (Nat.le_refl _) _).trans ((hp4.below hob (by simp)).trans (hp5.below hp4.1 (by have hz4 := (hp4.below hob (by simp)).size; simp at hz4; omega))))
  have K5 : Below w3.heap.size w3 w5 := ((Below.refl _ _).alloc (Nat.le_refl _) _).trans ((hp4.below hob (by simp)).trans (hp5.below hp4.1 (by have hz4 := (hp4.below hob (by simp)).size; simp at hz4; omega)))
  have o5 := hp5.1
  rw [List.nil_append, ← List.map_append] at o5
  obtain ⟨A5, C5, e5, hC5, hr5, _⟩ := o5.bytes
  subst e5
  have HB5 := Lib.hid B5
  have HK5 := Lib.hid K5
  have HR5 := Lib.hid hr5
  have HFirst := Lib.hid (firstN_of x bs HE.out HFX.out (by rw [List.length_append]; omega))
  clear hp4 hp5 o5 hr5 B5 K5 hL1 hL2 hL3 hL4 o1 o2 S3 HS4 hob B3
  refine (firstAll A5 _ C5 (x.bytes ++ bs) rfl _ HR5.out hC5 (by rw [List.length_append]; omega) (HT.out _ HB5.out)).mono ?_
  rintro e w6 ⟨hb6, hm⟩
  rw [HFirst.out] at hm
  obtain ⟨vz, rfl, hz⟩ := hm
  have hzv : ItV w6 w6.heap.size vz x := hz.itV (fun b hb => hb.2) x
  obtain ⟨az, cz, Az, Cz, rfl⟩ := hzv.form
  have B6 := Lib.hid (below_on HB5.out hb6)
  have HZV := Lib.hid (hzv.on (below_al (Below.refl _ _) (.cells #[.int .i64 x.k, .int .u64 x.n, .slice az x.b.length cz, .string ⟨x.s.toArray⟩, .slice Az x.l.length Cz] 27)))
  have B6a := Lib.hid (below_al B6.out (.cells #[.int .i64 x.k, .int .u64 x.n, .slice az x.b.length cz, .string ⟨x.s.toArray⟩, .slice Az x.l.length Cz] 27))
  have K6a := Lib.hid (below_al (below_on HK5.out hb6) (.cells #[.int .i64 x.k, .int .u64 x.n, .slice az x.b.length cz, .string ⟨x.s.toArray⟩, .slice Az x.l.length Cz] 27))
  clear hz hzv hb6 HR5 HFirst HB5 HK5
  obtain ⟨g0, g1, g2, g3, g4⟩ := HX.out _ B6a.out
  go_wp2_with (go_at_call 12; refine (cnum_any _ _).mono ?_; rintro e w' ⟨rfl, hw⟩; rw [hw]; clear hw)
  refine (cSame_any x x _ _ _ (by omega) HZV.out (HV.out _ B6a.out)).mono ?_
  rintro e w7 ⟨rfl, hb7⟩
  rw [same_self]
  have B7x := Lib.hid (below_on B6a.out hb7)
  have K7x := Lib.hid (below_on K6a.out hb7)
  clear g0 g1 g2 g3 g4 hb7 HZV B6 B6a K6a
  obtain ⟨g0, g1, g2, g3, g4⟩ := HY.out _ B7x.out
  go_wp2_with fail
  refine (encode_any y _ _ (HU.out _ B7x.out) (HT.out _ B7x.out) (by omega)).mono ?_
  rintro e w8 ⟨hb8, hor⟩
  have B8x := Lib.hid (below_on B7x.out hb8)
  have HR8 := Lib.hid (HR3.out _ (below_on K7x.out hb8))
  clear g0 g1 g2 g3 g4 hb8 B7x K7x HR3
  obtain ⟨uy, huy, hoy⟩ : ∃ u, e = .returned (.tuple #[u, .int .i64 0]) ∧ OwnV w8 w7.heap.size 5 u (y.bytes.map encB) := by
    rcases hor with ⟨h0, _⟩ | ⟨_, h⟩
    · exact absurd HYE.out h0
    · exact h
  subst huy
  clear hor
  obtain ⟨A8, C8, rfl, hC8, hr8, _⟩ := hoy.bytes
  clear hoy
  have hlg : decide ((x.bytes.length : Int) < (y.bytes.length : Int)) = true := by simp; omega
  obtain ⟨py, hpy⟩ : ∃ p, p = y.bytes.take x.bytes.length := ⟨_, rfl⟩
  obtain ⟨px, hpx⟩ : ∃ p, p = x.bytes := ⟨_, rfl⟩
  have hply : py.length = x.bytes.length := by rw [hpy]; simp; omega
  have k1 := fun n => ((hpy ▸ hr8.take x.bytes.length : RdB w8 w8.heap.size A8 py).drewN n).text (P := Tryd.prog) 24 9 5 x.bytes.length C8 hply.symm Tryd.underlying24 Tryd.underlying5 Tryd.underlying9
  have k2 := fun n => ((hpx ▸ HR8.out : RdB w8 w8.heap.size A3 px).drewN n).text (P := Tryd.prog) 24 9 5 x.bytes.length C3 (by rw [hpx]) Tryd.underlying24 Tryd.underlying5 Tryd.underlying9
  have hne : py ≠ px := by
    intro h
    rw [hpy, hpx] at h
    have h2 : y.bytes = x.bytes ++ y.bytes.drop x.bytes.length := by
      conv => lhs; rw [← List.take_append_drop x.bytes.length y.bytes, h]
    have h3 := no_prefix x y HE.out HYE.out HFX.out HFY.out _ h2
    have h4 : (y.bytes.drop x.bytes.length).length = 0 := by rw [h3]; rfl
    rw [List.length_drop] at h4
    omega
  have hc8 : (x.bytes.length : Int) ≤ (C8 : Int) := by omega
  have hsne : (py == px) = false := by simpa using hne
  clear hpy hpx hply hr8 HR8 hne
  go_wp2
  go_quiet ((go_at_call 12; exact Calls.quiet_of_same (cnum_any _ _)))
  have BX := Lib.hid (below_dr B8x.out nq)
  clear hlg k1 k2 hc8 hsne B8x
  go_wp2_with fail
  refine (firstAll a _ c bs rfl _ (HR.out _ BX.out) hc (by omega) (HT.out _ BX.out)).mono ?_
  rintro e w7 ⟨hb7, hm⟩
  rw [HF.out] at hm
  have B7 := Lib.hid (below_on BX.out hb7)
  clear hb7
  have hm : e = .returned (.tuple #[itemV 0 0 [], .int .i64 0, .int .i64 q]) := hm
  subst hm
  have hq := firstN_err HF.out
  have hq0 := err_eq (n := q) (by omega)
  clear hq
  unfold itemV
  go_wp2_with (go_at_call 12; refine (cnum_any _ _).mono ?_; rintro e w' ⟨rfl, hw⟩; rw [hw]; clear hw)
  have B8 := Lib.hid (below_al B7.out (.cells #[.int .i64 0, .int .u64 0, .slice none 0 0, .string ⟨#[]⟩, .slice none 0 0] 27))
  refine (cworks_any _ (HT.out _ B8.out)).mono ?_
  rintro e w9 ⟨rfl, hb9⟩
  go_wp2_with fail
  go_ret
  exact ⟨rfl, HB0.out.trans ((below_on B8.out hb9).mono HB0.out.size)⟩

set_option maxRecDepth 100000 in
set_option maxHeartbeats 8000000 in
theorem cholds_lo (x y : It) (v0 v1 v2 v3 v4 u0 u1 u2 u3 u4 : Value) (a : Option Addr) (c : Nat) (bs : List UInt8) (w : World) (ht : TabW w) (hv : ItV w w.heap.size (.agg #[v0, v1, v2, v3, v4]) x) (hu : ItV w w.heap.size (.agg #[u0, u1, u2, u3, u4]) y)
    (hc : bs.length ≤ c) (hr : RdB w w.heap.size a bs) (hb47 : bs.length ≤ 140737488351232) (he : x.err = 0) (hy : y.err = 0) (hl : x.bytes.length < y.bytes.length) (z : It) (m : Nat) (hf : firstN bs = .ok (z, m)) :
    Calls Tryd.prog 7 #[.agg #[v0, v1, v2, v3, v4], .agg #[u0, u1, u2, u3, u4], .slice a bs.length c] w fun e w' => e = .returned (.bool true) ∧ Below w.heap.size w w' := by
  obtain ⟨W0, hW0⟩ : ∃ W0, W0 = (w.alloc (.cells #[v0, v1, v2, v3, v4] 27)).alloc (.cells #[u0, u1, u2, u3, u4] 27) := ⟨_, rfl⟩
  have HB0 : Hid (Below w.heap.size w W0) := by rw [hW0]; exact below_al (below_al (Below.refl _ _) _) _
  have HX : Hid (∀ w', Below W0.heap.size W0 w' → Box5 w' w.heap.size v0 v1 v2 v3 v4) := by
    intro w' h
    rw [hW0] at h
    exact (boxes_later w v0 v1 v2 v3 v4 u0 u1 u2 u3 u4 _ w' h).1
  have HY : Hid (∀ w', Below W0.heap.size W0 w' → Box5 w' (w.heap.size + 1) u0 u1 u2 u3 u4) := by
    intro w' h
    rw [hW0] at h
    exact (boxes_later w v0 v1 v2 v3 v4 u0 u1 u2 u3 u4 _ w' h).2
  have HV : Hid (∀ w', Below W0.heap.size W0 w' → ItV w' w'.heap.size (.agg #[v0, v1, v2, v3, v4]) x) := fun w' h => (hv.on HB0.out).on h
  have HU : Hid (∀ w', Below W0.heap.size W0 w' → ItV w' w'.heap.size (.agg #[u0, u1, u2, u3, u4]) y) := fun w' h => (hu.on HB0.out).on h
  have HT : Hid (∀ w', Below W0.heap.size W0 w' → TabW w') := fun w' h => (ht.on HB0.out).on h
  have HR : Hid (∀ w', Below W0.heap.size W0 w' → RdB w' w'.heap.size a bs) := fun w' h => (hr.below (HB0.out.trans (h.mono HB0.out.size))).mono (Nat.le_trans HB0.out.size h.size)
  have HFX := Lib.hid (hv.fit x)
  have HFY := Lib.hid (hu.fit y)
  have HW0 := Lib.hid hW0
  have HE := Lib.hid he
  have HF := Lib.hid hf
  have HYE := Lib.hid hy
  clear hW0 hv hu ht hr he hf hy
  go_enter Tryd.func7, Tryd.ntmps7
  go_wp2_with fail
  rw [← HW0.out]
  clear HW0
  refine (count_any x 12 _ W0 (by omega) (HV.out W0 (Below.refl _ _))).mono ?_
  rintro e w1 ⟨⟨q1, rfl, hq1, hd1⟩, hb1⟩
  have B1 := Lib.hid hb1
  have HD1 := Lib.hid hd1
  clear hb1 hd1
  by_cases h1 : (3000 : Int) < q1
  · go_wp2_with fail
    refine (cworks_any _ (HT.out _ B1.out)).mono ?_
    rintro e w2 ⟨rfl, hb2⟩
    go_wp2_with fail
    go_ret
    exact ⟨rfl, HB0.out.trans ((below_on B1.out hb2).mono HB0.out.size)⟩
  obtain ⟨hdx, hlx⟩ := HD1.out (by omega)
  obtain ⟨d0, d1, d2, d3, d4⟩ := HY.out _ B1.out
  clear HD1
  go_wp2_with fail
  refine (count_any y 12 _ w1 (by omega) (HU.out _ B1.out)).mono ?_
  rintro e w2 ⟨⟨q2, rfl, hq2, hd2⟩, hb2⟩
  have B2 := Lib.hid (below_on B1.out hb2)
  have HD2 := Lib.hid hd2
  clear hb2 hd2 d0 d1 d2 d3 d4 B1
  by_cases h2 : (3000 : Int) < q2
  · go_wp2_with fail
    refine (cworks_any _ (HT.out _ B2.out)).mono ?_
    rintro e w3 ⟨rfl, hb3⟩
    go_wp2_with fail
    go_ret
    exact ⟨rfl, HB0.out.trans ((below_on B2.out hb3).mono HB0.out.size)⟩
  obtain ⟨hdy, hly⟩ := HD2.out (by omega)
  clear HD2
  by_cases h3 : (2000 : Int) < bs.length
  · go_wp2_with fail
    refine (cworks_any _ (HT.out _ B2.out)).mono ?_
    rintro e w3 ⟨rfl, hb3⟩
    go_wp2_with fail
    go_ret
    exact ⟨rfl, HB0.out.trans ((below_on B2.out hb3).mono HB0.out.size)⟩
  have hlx' : x.bytes.length ≤ 27000 := by omega
  have hly' : y.bytes.length ≤ 27000 := by omega
  have hlb : bs.length ≤ 2000 := by omega
  obtain ⟨d0, d1, d2, d3, d4⟩ := HX.out _ B2.out
  go_wp2_with fail
  clear hlx hly hq1 hq2 h1 h2 h3
  refine (encode_any x _ w2 (HV.out _ B2.out) (HT.out _ B2.out) (by omega)).mono ?_
  rintro e w3 ⟨hb3, hor⟩
  have B3 := Lib.hid (below_on B2.out hb3)
  clear d0 d1 d2 d3 d4 hb3 B2
  obtain ⟨ux, hux, hox⟩ : ∃ u, e = .returned (.tuple #[u, .int .i64 0]) ∧ OwnV w3 w2.heap.size 5 u (x.bytes.map encB) := by
    rcases hor with ⟨h0, _⟩ | ⟨_, h⟩
    · exact absurd HE.out h0
    · exact h
  subst hux
  clear hor
  obtain ⟨A3, C3, rfl, hC3, hr3, _⟩ := hox.bytes
  have HR3 : Hid (∀ w', Below w3.heap.size w3 w' → RdB w' w'.heap.size A3 x.bytes) := fun w' h => (hr3.below h).mono h.size
  have S3 := Lib.hid ((hr3.src).alloc (.cells #[] 5))
  have hob := OwnV.lit w3 w3.heap.size 5 #[] (Nat.le_refl _) (by decide)
  have o1 := Lib.hid (encB_one x.bytes)
  have o2 := Lib.hid (encB_one bs)
  have hL1 : Hid (([] : List Value).length + (x.bytes.map encB).length ≤ maxLen) := by simp [Hid, maxLen]; omega
  have hL2 : Hid ((([] : List Value).length + (x.bytes.map encB).length) * 1 ≤ 140737488355328) := by simp [Hid]; omega
  have hL3 : Hid (([] ++ x.bytes.map encB : List Value).length + (bs.map encB).length ≤ maxLen) := by simp [Hid, maxLen]; omega
  have hL4 : Hid ((([] ++ x.bytes.map encB : List Value).length + (bs.map encB).length) * 1 ≤ 140737488355328) := by simp [Hid]; omega
  have HS4 : Hid (∀ w', Below w3.heap.size (w3.alloc (.cells #[] 5)) w' → Src w' a (bs.map encB)) := fun w' h => (HR.out w' (below_on B3.out (((Below.refl _ _).alloc (Nat.le_refl _) _).trans h))).src
  clear hr3 hox
  go_wp2_with (first
    | (go_at_call 12; refine (cnum_any _ _).mono ?_; rintro e w' ⟨rfl, hw⟩; rw [hw]; clear hw)
    | (at_builtin; (refine wpList_app _ rfl _ _ 24 rfl w3.heap.size 5 (.int .u8 0) 1 Tryd.underlying24 info_u8 rfl _ _ rfl hp4.1 _ _ _ _ rfl (List.length_map _) (HS4.out w4 (hp4.below hob (by simp))) o2.out hL3.out hL4.out (by have hz4 := (hp4.below hob (by simp)).size; simp at hz4; omega) ?_); intro v5' w5 hp5)
    | (at_builtin; refine wpList_app _ rfl _ _ 24 rfl w3.heap.size 5 (.int .u8 0) 1 Tryd.underlying24 info_u8 rfl _ _ rfl hob _ _ _ _ rfl (List.length_map _) S3.out o1.out hL1.out hL2.out (by simp) ?_; intro v4' w4 hp4))
  have B5 : Below W0.heap.size W0 w5 := below_on B3.out (((Below.refl _ _).alloc (Nat.le_refl _) _).trans ((hp4.below hob (by simp)).trans (hp5.below hp4.1 (by have hz4 := (hp4.below hob (by simp)).size; simp at hz4; omega))))
  have K5 : Below w3.heap.size w3 w5 := ((Below.refl _ _).alloc (Nat.le_refl _) _).trans ((hp4.below hob (by simp)).trans (hp5.below hp4.1 (by have hz4 := (hp4.below hob (by simp)).size; simp at hz4; omega)))
  have o5 := hp5.1
  rw [List.nil_append, ← List.map_append] at o5
  obtain ⟨A5, C5, e5, hC5, hr5, _⟩ := o5.bytes
  subst e5
  have HB5 := Lib.hid B5
  have HK5 := Lib.hid K5
  have HR5 := Lib.hid hr5
  have HFirst := Lib.hid (firstN_of x bs HE.out HFX.out (by rw [List.length_append]; omega))
  clear hp4 hp5 o5 hr5 B5 K5 hL1 hL2 hL3 hL4 o1 o2 S3 HS4 hob B3
  refine (firstAll A5 _ C5 (x.bytes ++ bs) rfl _ HR5.out hC5 (by rw [List.length_append]; omega) (HT.out _ HB5.out)).mono ?_
  rintro e w6 ⟨hb6, hm⟩
  rw [HFirst.out] at hm
  obtain ⟨vz, rfl, hz⟩ := hm
  have hzv : ItV w6 w6.heap.size vz x := hz.itV (fun b hb => hb.2) x
  obtain ⟨az, cz, Az, Cz, rfl⟩ := hzv.form
  have B6 := Lib.hid (below_on HB5.out hb6)
  have HZV := Lib.hid (hzv.on (below_al (Below.refl _ _) (.cells #[.int .i64 x.k, .int .u64 x.n, .slice az x.b.length cz, .string ⟨x.s.toArray⟩, .slice Az x.l.length Cz] 27)))
  have B6a := Lib.hid (below_al B6.out (.cells #[.int .i64 x.k, .int .u64 x.n, .slice az x.b.length cz, .string ⟨x.s.toArray⟩, .slice Az x.l.length Cz] 27))
  have K6a := Lib.hid (below_al (below_on HK5.out hb6) (.cells #[.int .i64 x.k, .int .u64 x.n, .slice az x.b.length cz, .string ⟨x.s.toArray⟩, .slice Az x.l.length Cz] 27))
  clear hz hzv hb6 HR5 HFirst HB5 HK5
  obtain ⟨g0, g1, g2, g3, g4⟩ := HX.out _ B6a.out
  go_wp2_with (go_at_call 12; refine (cnum_any _ _).mono ?_; rintro e w' ⟨rfl, hw⟩; rw [hw]; clear hw)
  refine (cSame_any x x _ _ _ (by omega) HZV.out (HV.out _ B6a.out)).mono ?_
  rintro e w7 ⟨rfl, hb7⟩
  rw [same_self]
  have B7x := Lib.hid (below_on B6a.out hb7)
  have K7x := Lib.hid (below_on K6a.out hb7)
  clear g0 g1 g2 g3 g4 hb7 HZV B6 B6a K6a
  obtain ⟨g0, g1, g2, g3, g4⟩ := HY.out _ B7x.out
  go_wp2_with fail
  refine (encode_any y _ _ (HU.out _ B7x.out) (HT.out _ B7x.out) (by omega)).mono ?_
  rintro e w8 ⟨hb8, hor⟩
  have B8x := Lib.hid (below_on B7x.out hb8)
  have HR8 := Lib.hid (HR3.out _ (below_on K7x.out hb8))
  clear g0 g1 g2 g3 g4 hb8 B7x K7x HR3
  obtain ⟨uy, huy, hoy⟩ : ∃ u, e = .returned (.tuple #[u, .int .i64 0]) ∧ OwnV w8 w7.heap.size 5 u (y.bytes.map encB) := by
    rcases hor with ⟨h0, _⟩ | ⟨_, h⟩
    · exact absurd HYE.out h0
    · exact h
  subst huy
  clear hor
  obtain ⟨A8, C8, rfl, hC8, hr8, _⟩ := hoy.bytes
  clear hoy
  have hlg : decide ((x.bytes.length : Int) < (y.bytes.length : Int)) = true := by simp; omega
  obtain ⟨py, hpy⟩ : ∃ p, p = y.bytes.take x.bytes.length := ⟨_, rfl⟩
  obtain ⟨px, hpx⟩ : ∃ p, p = x.bytes := ⟨_, rfl⟩
  have hply : py.length = x.bytes.length := by rw [hpy]; simp; omega
  have k1 := fun n => ((hpy ▸ hr8.take x.bytes.length : RdB w8 w8.heap.size A8 py).drewN n).text (P := Tryd.prog) 24 9 5 x.bytes.length C8 hply.symm Tryd.underlying24 Tryd.underlying5 Tryd.underlying9
  have k2 := fun n => ((hpx ▸ HR8.out : RdB w8 w8.heap.size A3 px).drewN n).text (P := Tryd.prog) 24 9 5 x.bytes.length C3 (by rw [hpx]) Tryd.underlying24 Tryd.underlying5 Tryd.underlying9
  have hne : py ≠ px := by
    intro h
    rw [hpy, hpx] at h
    have h2 : y.bytes = x.bytes ++ y.bytes.drop x.bytes.length := by
      conv => lhs; rw [← List.take_append_drop x.bytes.length y.bytes, h]
    have h3 := no_prefix x y HE.out HYE.out HFX.out HFY.out _ h2
    have h4 : (y.bytes.drop x.bytes.length).length = 0 := by rw [h3]; rfl
    rw [List.length_drop] at h4
    omega
  have hc8 : (x.bytes.length : Int) ≤ (C8 : Int) := by omega
  have hsne : (py == px) = false := by simpa using hne
  clear hpy hpx hply hr8 HR8 hne
  go_wp2
  go_quiet ((go_at_call 12; exact Calls.quiet_of_same (cnum_any _ _)))
  have BX := Lib.hid (below_dr B8x.out nq)
  clear hlg k1 k2 hc8 hsne B8x
  go_wp2_with fail
  refine (firstAll a _ c bs rfl _ (HR.out _ BX.out) hc (by omega) (HT.out _ BX.out)).mono ?_
  rintro e w7 ⟨hb7, hm⟩
  rw [HF.out] at hm
  have B7 := Lib.hid (below_on BX.out hb7)
  clear hb7
  obtain ⟨vz, rfl, hz⟩ := hm
  obtain ⟨hze, hzm, hzb, hzl⟩ := firstN_back HF.out
  have hzv : ItV w7 w7.heap.size vz z := hz.itV (fun b hb => hb.2) z
  obtain ⟨az, cz, Az, Cz, rfl⟩ := hzv.form
  have HZV : Hid (ItV (w7.alloc (.cells #[.int .i64 z.k, .int .u64 z.n, .slice az z.b.length cz, .string ⟨z.s.toArray⟩, .slice Az z.l.length Cz] 27)) (w7.alloc (.cells #[.int .i64 z.k, .int .u64 z.n, .slice az z.b.length cz, .string ⟨z.s.toArray⟩, .slice Az z.l.length Cz] 27)).heap.size (.agg #[.int .i64 z.k, .int .u64 z.n, .slice az z.b.length cz, .string ⟨z.s.toArray⟩, .slice Az z.l.length Cz]) z) := hzv.on (below_al (Below.refl _ _) _)
  have HZE := Lib.hid hze
  have HZB := Lib.hid hzb
  have HZL := Lib.hid hzl
  clear hz hzv hze hzb hzl
  have B8 := Lib.hid (below_al B7.out (.cells #[.int .i64 z.k, .int .u64 z.n, .slice az z.b.length cz, .string ⟨z.s.toArray⟩, .slice Az z.l.length Cz] 27))
  go_wp2_with (go_at_call 12; refine (cnum_any _ _).mono ?_; rintro e w' ⟨rfl, hw⟩; rw [hw]; clear hw)
  refine (encode_any z _ _ HZV.out (HT.out _ B8.out) (by
    have := HZE.out
    unfold It.err at this
    split at this
    · split at this
      · omega
      · omega
    · omega)).mono ?_
  rintro e w9 ⟨hb9, hor⟩
  have B9 := Lib.hid (below_on B8.out hb9)
  clear hb9
  obtain ⟨ud, hud, hod⟩ : ∃ u, e = .returned (.tuple #[u, .int .i64 0]) ∧ OwnV w9 (w7.alloc (.cells #[.int .i64 z.k, .int .u64 z.n, .slice az z.b.length cz, .string ⟨z.s.toArray⟩, .slice Az z.l.length Cz] 27)).heap.size 5 u (z.bytes.map encB) := by
    rcases hor with ⟨h0, _⟩ | ⟨_, h⟩
    · exact absurd HZE.out h0
    · exact h
  subst hud
  clear hor
  obtain ⟨A9, C9, rfl, hC9, hr9, _⟩ := hod.bytes
  have hzz := HZB.out
  have hzn := HZL.out
  rw [hzn] at hC9 ⊢
  have k1 := fun n => (hr9.drewN n).text (P := Tryd.prog) 24 9 5 m C9 hzn.symm Tryd.underlying24 Tryd.underlying5 Tryd.underlying9
  have k2 := fun n => (((HR.out _ B9.out).take m).drewN n).text (P := Tryd.prog) 24 9 5 m c (by simp; omega) Tryd.underlying24 Tryd.underlying5 Tryd.underlying9
  rw [← hzz] at k2
  have hm1 : (m : Int) ≤ (bs.length : Int) := by omega
  have hm2 : (m : Int) ≤ (c : Int) := by omega
  clear hzz hzn hod hr9 HZV HZB HZL
  go_wp2_with fail
  go_quiet ((go_at_call 12; exact Calls.quiet_of_same (cnum_any _ _)))
  have B10 : Below W0.heap.size W0 (w9.drewN nq) := below_dr B9.out nq
  have HT10 := Lib.hid (HT.out _ B10)
  have H10 := Lib.hid B10
  clear k1 k2 B10
  go_wp2_with fail
  refine (cworks_any _ HT10.out).mono ?_
  rintro e w11 ⟨rfl, hb11⟩
  go_wp2_with fail
  go_ret
  exact ⟨rfl, HB0.out.trans ((below_on H10.out hb11).mono HB0.out.size)⟩

theorem walk_cholds (x y : It) (v u : Value) (a : Option Addr) (c : Nat) (bs : List UInt8) (w : World) (ht : TabW w) (hv : ItV w w.heap.size v x) (hu : ItV w w.heap.size u y)
    (hc : bs.length ≤ c) (hr : RdB w w.heap.size a bs) (hb47 : bs.length ≤ 140737488351232) :
    Calls Tryd.prog 7 #[v, u, .slice a bs.length c] w fun e w' => e = .returned (.bool true) ∧ Below w.heap.size w w' := by
  obtain ⟨xa, xc, xA, xC, rfl⟩ := hv.form
  obtain ⟨ya, yc, yA, yC, rfl⟩ := hu.form
  cases hf : firstN bs with
  | error q =>
    by_cases he : x.err = 0
    · by_cases hy : y.err = 0
      · by_cases hl : x.bytes.length < y.bytes.length
        · exact cholds_le x y _ _ _ _ _ _ _ _ _ _ a c bs w ht hv hu hc hr hb47 he hy hl q hf
        · exact cholds_se x y _ _ _ _ _ _ _ _ _ _ a c bs w ht hv hu hc hr hb47 he hy (by omega) q hf
      · exact cholds_ee x y _ _ _ _ _ _ _ _ _ _ a c bs w ht hv hu hc hr hb47 he hy q hf
    · exact cholds_ne x y _ _ _ _ _ _ _ _ _ _ a c bs w ht hv hu hc hr hb47 he q hf
  | ok p =>
    obtain ⟨z, m⟩ := p
    by_cases he : x.err = 0
    · by_cases hy : y.err = 0
      · by_cases hl : x.bytes.length < y.bytes.length
        · exact cholds_lo x y _ _ _ _ _ _ _ _ _ _ a c bs w ht hv hu hc hr hb47 he hy hl z m hf
        · exact cholds_so x y _ _ _ _ _ _ _ _ _ _ a c bs w ht hv hu hc hr hb47 he hy (by omega) z m hf
      · exact cholds_eo x y _ _ _ _ _ _ _ _ _ _ a c bs w ht hv hu hc hr hb47 he hy z m hf
    · exact cholds_no x y _ _ _ _ _ _ _ _ _ _ a c bs w ht hv hu hc hr hb47 he z m hf

end Go.Proofs.YtjabmnpafpccgaaDoor
