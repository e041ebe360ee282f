/- Joined texts. -/
import Derived.Test.YteldifnkeekafaaGreatDoorZCz
import Derived.IntWalk
import Derived.Test.YteldifnkeekafaaGreatDoorZKv
import Derived.Test.YteldifnkeekafaaGreatDoorZKp
import Derived.Test.YteldifnkeekafaaGreatDoorZBx
set_option maxHeartbeats 8000000
set_option linter.unusedSimpArgs false
set_option linter.unusedVariables false
namespace Go.Proofs.YteldifnkeekafaaGreatDoor
open Go.RowKit Go.Shelf

set_option maxRecDepth 100000 in
theorem rdFirst_nil (k : Nat) (hk : k < 8) (a : Option Addr) (c : Nat) (w : World) :
  Calls Tryz.prog 75 #[.slice a 0 c, .int .i64 ((8 - (k + 1) : Nat) : Int)] w (RdFirstP w (k + 1) []) := by
 obtain ⟨q, hq⟩ : ∃ q, q = 8 - (k + 1) := ⟨_, rfl⟩
 rw [← hq]
 have hq7 : q ≤ 7 := by omega
 clear hq hk
 go_enter Tryz.func75, Tryz.ntmps75
 go_wp2_with fail
 refine (rdHead_nil _ _ _).mono ?_
 rintro e w1 ⟨hb1, ⟨m, N, r1, hh, _⟩ | ⟨hh, rfl⟩⟩
 ·exact absurd hh (by simp [headN])
 ·obtain ⟨⟨z0, z1, z2, z3, z4⟩, zf⟩ := box0_later (w := w) (hb1.mono (by simp))
  have HB := h_ (((Below.refl w.heap.size w).alloc (Nat.le_refl _) _).trans (hb1.mono (by simp)))
  clear hb1 hh
  go_wp2_with fail
  change bodyPost _ _ _ _ _ (put5 w1 w.heap.size (.int .i64 0) (.int .u64 0) (.slice none 0 0) (.string ⟨#[]⟩) (.slice none 0 0))
  obtain ⟨c0, c1, c2, c3, c4⟩ := put5_cells z0 z1 z2 z3 z4 (.int .i64 0) (.int .u64 0) (.slice none 0 0) (.string ⟨#[]⟩) (.slice none 0 0)
  have hP := rdFirst_err (w := w) (w1 := w1) (k := k + 1) (c := 121) (bs := []) HB.out (itemN_none rfl)
  generalize put5 w1 w.heap.size (.int .i64 0) (.int .u64 0) (.slice none 0 0) (.string ⟨#[]⟩) (.slice none 0 0) = w9 at *
  exact bodyPost_ret (v := .tuple #[itemV 0 0 [], .int .i64 0, .int .i64 121]) (by simp [results, Tryz.results75, go_sem, itemV, c0, c1, c2, c3, c4]) rfl hP

theorem rdRunes (l : List UInt8) (h : l.length ≤ 1000000) (w : World) : Calls Tryz.prog 44 #[.string ⟨l.toArray⟩] w (RunesP l w) := by
 refine (refRunes_any ⟨l.toArray⟩ w (by simp [ByteArray.size]; omega)).mono ?_
 rintro e w' ⟨rfl, rfl⟩
 exact ⟨rfl, Below.refl _ _⟩

set_option maxRecDepth 100000 in
theorem rdFirst_rest (k : Nat) (hk : k < 8) (ih : RdFirstAt k) (a : Option Addr) (n c : Nat) (f : UInt8) (r : List UInt8) (w : World) (hn : n = (f :: r).length) (hcc : n ≤ c) (hl : (f :: r).length ≤ 1000000) (hr : RdB w w.heap.size a (f :: r)) (hf : ¬ (244 ≤ f.toNat ∧ f.toNat ≤ 246)) (h4 : ∀ n r1, headN (f :: r) ≠ some (4, n, r1)) :
  Calls Tryz.prog 75 #[.slice a n c, .int .i64 ((8 - (k + 1) : Nat) : Int)] w (RdFirstP w (k + 1) (f :: r)) := by
 obtain ⟨b, o, rfl, hb, hc⟩ := hr.cell0
 have HF := h_ hf
 have H4 := h_ h4
 clear h4
 have HR := h_ hr
 have IH := h_ ih
 obtain ⟨x, hx⟩ : ∃ x, x = f.toNat := ⟨_, rfl⟩
 rw [← hx] at hc hf
 obtain ⟨q, hq⟩ : ∃ q, q = 8 - (k + 1) := ⟨_, rfl⟩
 rw [← hq]
 have hq7 : q ≤ 7 := by omega
 have hn1 : 0 < n := by rw [hn]; simp
 have hn6 : n ≤ 1000000 := by omega
 have HN := h_ hn
 have HQ := h_ hq
 have hx2 : x < 244 ∨ 246 < x := by omega
 clear hn hx hr hq hf ih hl
 rcases hx2 with hx2 | hx2
 all_goals
  go_enter Tryz.func75, Tryz.ntmps75
  go_wp2_with fail
  have hB0 := below_al (Below.refl w.heap.size w) (.cells #[.int .i64 0, .int .u64 0, .slice none 0 0, .string ⟨#[]⟩, .slice none 0 0] 45)
  refine (rdHead_any _ n c (f :: r) _ HN.out hcc ((HR.out.below hB0).mono hB0.size)).mono ?_
  rintro e w1 ⟨hb1, ⟨m, N, r1, hh, rfl⟩ | ⟨hh, rfl⟩⟩
  ·have HBx := h_ (hb1.mono (show w.heap.size + 1 ≤ _ by simp))
   obtain ⟨⟨z0, z1, z2, z3, z4⟩, zf⟩ := box0_later (w := w) HBx.out
   have hsz1 : w.heap.size + 1 ≤ w1.heap.size := by have := hb1.size; simpa using this
   have HB : Hid (Below w.heap.size w w1) := hB0.trans (hb1.mono (by simp))
   obtain ⟨hd1, hd2, hd3⟩ := headN_drop hh
   obtain ⟨hnu, hm8⟩ := headN_u64 hh
   have hless := headN_less hh
   have HH := h_ hh
   obtain ⟨L, rfl⟩ := Int.eq_ofNat_of_zero_le hnu.1
   have HLu := h_ hnu
   obtain ⟨H, hH⟩ : ∃ H, H = (f :: r).length - r1.length := ⟨_, rfl⟩
   obtain ⟨R, hRr⟩ : ∃ R, R = r1.length := ⟨_, rfl⟩
   rw [← hH] at hd1 hd2 hd3 ⊢
   have hnR : (n : Int) - (H : Int) = (R : Int) := by rw [HN.out]; omega
   have hH0 : ((H : Int) == 0) = false := by simp; omega
   have hwR := wrapLen (l := R) (by omega)
   have hHn1 : H + R ≤ n := by omega
   have hHn2 : n ≤ H + R := by omega
   have HLen := h_ hH
   have HRr := h_ hRr
   have HD := h_ hd3
   clear hb1 hB0 hh hnu hH hRr hd3 hd1 hless
   by_cases m0 : m = 0
   ·subst m0
    have HE : Hid (itemN (k + 1) (f :: r) = .ok (.mk 1 L [] [] [], r1)) := itemN_uint HH.out
    clear hnR
    go_wp2_with fail
    change bodyPost _ _ _ _ _ (put5 w1 w.heap.size (.int .i64 1) (.int .u64 L) (.slice none 0 0) (.string ⟨#[]⟩) (.slice none 0 0))
    obtain ⟨c0, c1, c2, c3, c4⟩ := put5_cells z0 z1 z2 z3 z4 (.int .i64 1) (.int .u64 L) (.slice none 0 0) (.string ⟨#[]⟩) (.slice none 0 0)
    have hP := rdFirst_ok (w := w) (w0 := w1) (w1 := w1) (k := k + 1) HB.out (by omega) HE.out (itS_plain w1 _ 1 L [] (by decide) HLu.out (Nat.zero_le _)) (N := H) (by rw [HLen.out])
    generalize put5 w1 w.heap.size (.int .i64 1) (.int .u64 L) (.slice none 0 0) (.string ⟨#[]⟩) (.slice none 0 0) = w9 at *
    exact bodyPost_ret (v := .tuple #[itemV 1 L [], .int .i64 H, .int .i64 0]) (by simp [results, Tryz.results75, go_sem, itemV, c0, c1, c2, c3, c4]) rfl hP
   by_cases m2 : m = 2
   ·subst m2
    clear HLu
    by_cases hle : L ≤ R
    ·have HE : Hid (itemN (k + 1) (f :: r) = .ok (.mk 2 0 (r1.take L) [] [], r1.drop L)) := by
       have h := itemN_bytes (k := k) HH.out (by rw [Int.toNat_natCast, ← HRr.out]; exact hle)
       rw [Int.toNat_natCast] at h
       exact h
     have s1 : ∀ w : World, (Instr.slice 22 (.slice (some ⟨b, o, none⟩) n c) (some (.int .i64 (H : Int))) (some (.int .i64 ((H : Int) + (L : Int)))) none).run Tryz.prog w = .ok (.slice (subA (some ⟨b, o, none⟩) H c) L (c - H)) w := by
      intro w
      have h := run_cut2 (P := Tryz.prog) 22 5 Tryz.underlying22 size_u8 (some ⟨b, o, none⟩) n c H (H + L) (by omega) (by omega) w
      rw [show H + L - H = L by omega] at h
      simpa using h
     have hcut : RdB w1 w1.heap.size (subA (some ⟨b, o, none⟩) H c) (r1.take L) := by
      have h := ((HR.out.below HB.out).mono HB.out.size).cut H c L (by omega)
      rw [HD.out] at h
      exact h
     obtain ⟨t, htt⟩ : ∃ t, t = r1.take L := ⟨_, rfl⟩
     rw [← htt] at hcut HE
     have HLt2 : Hid (t.length = L) := by rw [Hid, htt, List.length_take, ← HRr.out]; omega
     have HLt : Hid ((t.map encB).length = L) := by rw [Hid, List.length_map, HLt2.out]
     clear htt
     have HS := h_ (hcut.src.alloc (.cells #[] 5))
     have ho := OwnV.lit w1 w1.heap.size 5 #[] (Nat.le_refl _) (by decide)
     have h1 := h_ (encB_one t)
     have hL1 : Hid (([] : List Value).length + (t.map encB).length ≤ maxLen) := by rw [Hid, HLt.out]; simp [maxLen]; omega
     have hL2 : Hid ((([] : List Value).length + (t.map encB).length) * 1 ≤ 140737488355328) := by rw [Hid, HLt.out]; simp; omega
     have hld : decide (R < L) = false := by simp; omega
     have hR6 : R ≤ 1000000 := by omega
     have hH6 : H ≤ 1000000 := by omega
     have hwL : IntKind.i64.wrap (L : Int) = (L : Int) := IntWalk.i64_in _ (by omega)
     have hwHL : IntKind.i64.wrap ((H : Int) + (L : Int)) = (H : Int) + (L : Int) := IntWalk.i64_in _ (by omega)
     have hHL : (0 : Int) ≤ (H : Int) + (L : Int) := by omega
     have hHL2 : (H : Int) + (L : Int) ≤ 2000000 := by omega
     clear hcut
     go_wp2_with (at_builtin; refine wpList_app _ rfl _ _ 22 rfl w1.heap.size 5 (.int .u8 0) 1 Tryz.underlying22 info_u8 rfl _ _ rfl ho _ _ _ _ rfl HLt.out HS.out h1.out hL1.out hL2.out (by simp) ?_; intro v' w2 hp; have hb2 : Below w1.heap.size w1 w2 := (bR.alloc (Nat.le_refl _) _).grown hp.2.1 (by simp) (fun r e => by cases e; exact Nat.le_refl _); obtain ⟨A, C, hv', hC, hra, hA⟩ := (show OwnV w2 w1.heap.size 5 v' (t.map encB) from hp.1).bytes; rw [HLt2.out] at hv' hC; subst hv'; obtain ⟨⟨y0, y1, y2, y3, y4⟩, yf⟩ := box0_later (w := w) (HBx.out.trans (hb2.mono hsz1)); have HB2 := h_ hb2; have HRA := h_ hra; have HA := h_ hA; clear hp hb2 hra hA)
     change bodyPost _ _ _ _ _ (put5 w2 w.heap.size (.int .i64 2) (.int .u64 0) (.slice A L C) (.string ⟨#[]⟩) (.slice none 0 0))
     obtain ⟨c0, c1, c2, c3, c4⟩ := put5_cells y0 y1 y2 y3 y4 (.int .i64 2) (.int .u64 0) (.slice A L C) (.string ⟨#[]⟩) (.slice none 0 0)
     have hx0 : ItS w2 (newB w1 w2) (.agg #[.int .i64 2, .int .u64 0, .slice A L C, .string ⟨#[]⟩, .slice none 0 0]) (.mk 2 0 t [] []) := by
      simp only [ItS]
      exact ⟨none, ⟨A, C, 0, by rw [HLt2.out]; rfl, ⟨by rw [HLt2.out]; exact hC, Nat.le_refl _⟩, RdBS.own HRA.out HA.out (Nat.le_refl _), ⟨by decide, by decide⟩, by decide, by rw [HLt2.out]; simp only [Sz]; omega, Nat.zero_le _, Nat.zero_le _⟩, .inl trivial⟩
     have hP := rdFirst_ok (w := w) (w0 := w1) (w1 := w2) (k := k + 1) (HB.out.trans (HB2.out.mono (by omega))) (by omega) HE.out hx0 (N := (H : Int) + (L : Int)) (by rw [List.length_drop]; have := HN.out; have := HRr.out; omega)
     generalize put5 w2 w.heap.size (.int .i64 2) (.int .u64 0) (.slice A L C) (.string ⟨#[]⟩) (.slice none 0 0) = w9 at *
     exact bodyPost_ret (v := .tuple #[.agg #[.int .i64 2, .int .u64 0, .slice A L C, .string ⟨#[]⟩, .slice none 0 0], .int .i64 ((H : Int) + (L : Int)), .int .i64 0]) (by simp [results, Tryz.results75, go_sem, c0, c1, c2, c3, c4]) rfl hP
    ·have HE : Hid (itemN (k + 1) (f :: r) = .error 121) := itemN_bytesE HH.out (by rw [Int.toNat_natCast, ← HRr.out]; exact hle)
     have hld : decide (R < L) = true := by simp; omega
     have hR6 : R ≤ 1000000 := by omega
     clear hle
     go_wp2_with fail
     change bodyPost _ _ _ _ _ (put5 w1 w.heap.size (.int .i64 0) (.int .u64 0) (.slice none 0 0) (.string ⟨#[]⟩) (.slice none 0 0))
     obtain ⟨c0, c1, c2, c3, c4⟩ := put5_cells z0 z1 z2 z3 z4 (.int .i64 0) (.int .u64 0) (.slice none 0 0) (.string ⟨#[]⟩) (.slice none 0 0)
     have hP := rdFirst_err (w := w) (w1 := w1) (k := k + 1) (c := 121) (bs := f :: r) HB.out HE.out
     generalize put5 w1 w.heap.size (.int .i64 0) (.int .u64 0) (.slice none 0 0) (.string ⟨#[]⟩) (.slice none 0 0) = w9 at *
     exact bodyPost_ret (v := .tuple #[itemV 0 0 [], .int .i64 0, .int .i64 121]) (by simp [results, Tryz.results75, go_sem, itemV, c0, c1, c2, c3, c4]) rfl hP
   by_cases m3 : m = 3
   ·subst m3
    clear HLu
    by_cases hle : L ≤ R
    ·have s1 : ∀ w : World, (Instr.slice 22 (.slice (some ⟨b, o, none⟩) n c) (some (.int .i64 (H : Int))) (some (.int .i64 ((H : Int) + (L : Int)))) none).run Tryz.prog w = .ok (.slice (subA (some ⟨b, o, none⟩) H c) L (c - H)) w := by
       intro w
       have h := run_cut2 (P := Tryz.prog) 22 5 Tryz.underlying22 size_u8 (some ⟨b, o, none⟩) n c H (H + L) (by omega) (by omega) w
       rw [show H + L - H = L by omega] at h
       simpa using h
     have hcut : RdB w1 w1.heap.size (subA (some ⟨b, o, none⟩) H c) (r1.take L) := by
      have h := ((HR.out.below HB.out).mono HB.out.size).cut H c L (by omega)
      rw [HD.out] at h
      exact h
     have HLt2 : Hid ((r1.take L).length = L) := by rw [Hid, List.length_take, ← HRr.out]; omega
     have k1 := hcut.text (P := Tryz.prog) 22 9 5 L (c - H) HLt2.out.symm Tryz.underlying22 Tryz.underlying5 Tryz.underlying9
     have HE : Hid (itemN (k + 1) (f :: r) = if (runesL (r1.take L)).2 = true then .ok (.mk 3 0 [] (r1.take L) [], r1.drop L) else .error 121) := by
      have h := itemN_text (k := k) HH.out
      rw [textN, Int.toNat_natCast, if_pos (by rw [← HRr.out]; exact hle)] at h
      exact h
     have hld : decide (R < L) = false := by simp; omega
     have hR6 : R ≤ 1000000 := by omega
     have hH6 : H ≤ 1000000 := by omega
     have hwL : IntKind.i64.wrap (L : Int) = (L : Int) := IntWalk.i64_in _ (by omega)
     have hwHL : IntKind.i64.wrap ((H : Int) + (L : Int)) = (H : Int) + (L : Int) := IntWalk.i64_in _ (by omega)
     have hHL : (0 : Int) ≤ (H : Int) + (L : Int) := by omega
     have hHL2 : (H : Int) + (L : Int) ≤ 2000000 := by omega
     obtain ⟨t, htt⟩ : ∃ t, t = r1.take L := ⟨_, rfl⟩
     have HTT := h_ htt
     rw [← htt] at k1 HE HLt2
     obtain ⟨q9, hq9⟩ : ∃ q, q = (runesL t).2 := ⟨_, rfl⟩
     have HQ9 := h_ hq9
     rw [← hq9] at HE
     clear hcut htt hq9
     go_wp2_with fail
     refine (rdRunes t (by rw [HLt2.out]; omega) w1).mono ?_
     rintro e w2 ⟨rfl, hb2⟩
     rw [← HQ9.out]
     have HB2 := h_ hb2
     obtain ⟨⟨y0, y1, y2, y3, y4⟩, yf⟩ := box0_later (w := w) (HBx.out.trans (hb2.mono hsz1))
     have HW2 : Hid (Below w.heap.size w w2) := HB.out.trans (hb2.mono (by omega))
     have hsz2 := hb2.size
     clear hb2 z0 z1 z2 z3 z4 zf k1 s1
     cases q9
     ·have HE2 : Hid (itemN (k + 1) (f :: r) = .error 121) := HE.out
      go_wp2_with fail
      change bodyPost _ _ _ _ _ (put5 w2 w.heap.size (.int .i64 0) (.int .u64 0) (.slice none 0 0) (.string ⟨#[]⟩) (.slice none 0 0))
      obtain ⟨c0, c1, c2, c3, c4⟩ := put5_cells y0 y1 y2 y3 y4 (.int .i64 0) (.int .u64 0) (.slice none 0 0) (.string ⟨#[]⟩) (.slice none 0 0)
      have hP := rdFirst_err (w := w) (w1 := w2) (k := k + 1) (c := 121) (bs := f :: r) HW2.out HE2.out
      generalize put5 w2 w.heap.size (.int .i64 0) (.int .u64 0) (.slice none 0 0) (.string ⟨#[]⟩) (.slice none 0 0) = w9 at *
      exact bodyPost_ret (v := .tuple #[itemV 0 0 [], .int .i64 0, .int .i64 121]) (by simp [results, Tryz.results75, go_sem, itemV, c0, c1, c2, c3, c4]) rfl hP
     ·have HE2 : Hid (itemN (k + 1) (f :: r) = .ok (.mk 3 0 [] t [], r1.drop L)) := HE.out.trans (by rw [if_pos rfl, HTT.out])
      go_wp2_with fail
      change bodyPost _ _ _ _ _ (put5 w2 w.heap.size (.int .i64 3) (.int .u64 0) (.slice none 0 0) (.string ⟨t.toArray⟩) (.slice none 0 0))
      obtain ⟨c0, c1, c2, c3, c4⟩ := put5_cells y0 y1 y2 y3 y4 (.int .i64 3) (.int .u64 0) (.slice none 0 0) (.string ⟨t.toArray⟩) (.slice none 0 0)
      have hP := rdFirst_ok (w := w) (w0 := w1) (w1 := w2) (k := k + 1) HW2.out (by omega) HE2.out (itS_plain w2 _ 3 0 t (by decide) ⟨by decide, by decide⟩ (by rw [HLt2.out]; simp only [Sz]; omega)) (N := (H : Int) + (L : Int)) (by rw [List.length_drop]; have := HN.out; have := HRr.out; omega)
      generalize put5 w2 w.heap.size (.int .i64 3) (.int .u64 0) (.slice none 0 0) (.string ⟨t.toArray⟩) (.slice none 0 0) = w9 at *
      exact bodyPost_ret (v := .tuple #[itemV 3 0 t, .int .i64 ((H : Int) + (L : Int)), .int .i64 0]) (by simp [results, Tryz.results75, go_sem, itemV, c0, c1, c2, c3, c4]) rfl hP
    ·have HE : Hid (itemN (k + 1) (f :: r) = .error 121) := by
       have h := itemN_text (k := k) HH.out
       rw [textN, Int.toNat_natCast, if_neg (by rw [← HRr.out]; exact hle)] at h
       exact h
     have hld : decide (R < L) = true := by simp; omega
     have hR6 : R ≤ 1000000 := by omega
     clear hle
     go_wp2_with fail
     change bodyPost _ _ _ _ _ (put5 w1 w.heap.size (.int .i64 0) (.int .u64 0) (.slice none 0 0) (.string ⟨#[]⟩) (.slice none 0 0))
     obtain ⟨c0, c1, c2, c3, c4⟩ := put5_cells z0 z1 z2 z3 z4 (.int .i64 0) (.int .u64 0) (.slice none 0 0) (.string ⟨#[]⟩) (.slice none 0 0)
     have hP := rdFirst_err (w := w) (w1 := w1) (k := k + 1) (c := 121) (bs := f :: r) HB.out HE.out
     generalize put5 w1 w.heap.size (.int .i64 0) (.int .u64 0) (.slice none 0 0) (.string ⟨#[]⟩) (.slice none 0 0) = w9 at *
     exact bodyPost_ret (v := .tuple #[itemV 0 0 [], .int .i64 0, .int .i64 121]) (by simp [results, Tryz.results75, go_sem, itemV, c0, c1, c2, c3, c4]) rfl hP
   by_cases m4 : m = 4
   ·subst m4
    exact absurd HH.out (H4.out _ _)
   have HE : Hid (itemN (k + 1) (f :: r) = .error 121) := by
    by_cases m7 : m = 7
    ·subst m7
     exact (itemN_bare HH.out).trans (headN_bare HH.out HF.out)
    ·exact itemN_else HH.out m0 m2 m3 m4 m7
   have hm1 : m = 1 ∨ m = 5 ∨ m = 6 ∨ m = 7 := by omega
   clear m0 m2 m3 m4 hnR hm8
   rcases hm1 with rfl | rfl | rfl | rfl
   all_goals
    go_wp2_with fail
    change bodyPost _ _ _ _ _ (put5 w1 w.heap.size (.int .i64 0) (.int .u64 0) (.slice none 0 0) (.string ⟨#[]⟩) (.slice none 0 0))
    obtain ⟨c0, c1, c2, c3, c4⟩ := put5_cells z0 z1 z2 z3 z4 (.int .i64 0) (.int .u64 0) (.slice none 0 0) (.string ⟨#[]⟩) (.slice none 0 0)
    have hP := rdFirst_err (w := w) (w1 := w1) (k := k + 1) (c := 121) (bs := f :: r) HB.out HE.out
    generalize put5 w1 w.heap.size (.int .i64 0) (.int .u64 0) (.slice none 0 0) (.string ⟨#[]⟩) (.slice none 0 0) = w9 at *
    exact bodyPost_ret (v := .tuple #[itemV 0 0 [], .int .i64 0, .int .i64 121]) (by simp [results, Tryz.results75, go_sem, itemV, c0, c1, c2, c3, c4]) rfl hP
  ·obtain ⟨⟨z0, z1, z2, z3, z4⟩, zf⟩ := box0_later (w := w) (hb1.mono (by simp))
   have HB : Hid (Below w.heap.size w w1) := hB0.trans (hb1.mono (by simp))
   have HE : Hid (itemN (k + 1) (f :: r) = .error 121) := itemN_none hh
   clear hb1 hB0 hh
   go_wp2_with fail
   change bodyPost _ _ _ _ _ (put5 w1 w.heap.size (.int .i64 0) (.int .u64 0) (.slice none 0 0) (.string ⟨#[]⟩) (.slice none 0 0))
   obtain ⟨c0, c1, c2, c3, c4⟩ := put5_cells z0 z1 z2 z3 z4 (.int .i64 0) (.int .u64 0) (.slice none 0 0) (.string ⟨#[]⟩) (.slice none 0 0)
   have hP := rdFirst_err (w := w) (w1 := w1) (k := k + 1) (c := 121) (bs := f :: r) HB.out HE.out
   generalize put5 w1 w.heap.size (.int .i64 0) (.int .u64 0) (.slice none 0 0) (.string ⟨#[]⟩) (.slice none 0 0) = w9 at *
   exact bodyPost_ret (v := .tuple #[itemV 0 0 [], .int .i64 0, .int .i64 121]) (by simp [results, Tryz.results75, go_sem, itemV, c0, c1, c2, c3, c4]) rfl hP

theorem headN_first {f : UInt8} {r r1 : List UInt8} {m : Nat} {n : Int} (h : headN (f :: r) = some (m, n, r1)) : m = f.toNat / 32 := by
 simp only [headN] at h
 split at h
 ·injection h with h
  injection h with h _
  exact h.symm
 ·generalize (if isW ((2 ^ (f.toNat % 32 - 24) : Nat) : Int) = true then valB (r.take (2 ^ (f.toNat % 32 - 24))) (2 ^ (f.toNat % 32 - 24)) else 0) = y at h
  split at h
  ·split at h
   ·injection h with h
    injection h with h _
    exact h.symm
   ·cases h
  ·cases h

set_option maxRecDepth 100000 in
theorem rdFirst_list (k : Nat) (hk : k < 8) (ih : RdFirstAt k) (a : Option Addr) (n c : Nat) (f : UInt8) (r : List UInt8) (w : World) (hn : n = (f :: r).length) (hcc : n ≤ c) (hl : (f :: r).length ≤ 1000000) (hr : RdB w w.heap.size a (f :: r)) (L : Nat) (r1 : List UInt8) (h4 : headN (f :: r) = some (4, (L : Int), r1)) :
  Calls Tryz.prog 75 #[.slice a n c, .int .i64 ((8 - (k + 1) : Nat) : Int)] w (RdFirstP w (k + 1) (f :: r)) := by
 obtain ⟨b, o, rfl, hb, hc⟩ := hr.cell0
 have hf4 := headN_first h4
 have HR := h_ hr
 have IH := h_ ih
 have H4 := h_ h4
 obtain ⟨x, hx⟩ : ∃ x, x = f.toNat := ⟨_, rfl⟩
 rw [← hx] at hc hf4
 obtain ⟨q, hq⟩ : ∃ q, q = 8 - (k + 1) := ⟨_, rfl⟩
 rw [← hq]
 have hq7 : q ≤ 7 := by omega
 have HE8 : Hid ((q : Int) + 1 = ((8 - k : Nat) : Int)) := by simp only [Hid]; omega
 have hn1 : 0 < n := by rw [hn]; simp
 have hn6 : n ≤ 1000000 := by omega
 have HN := h_ hn
 have hx2 : x < 244 := by omega
 clear hn hx hr hq ih hl h4 hf4
 go_enter Tryz.func75, Tryz.ntmps75
 go_wp2_with fail
 have hB0 := below_al (Below.refl w.heap.size w) (.cells #[.int .i64 0, .int .u64 0, .slice none 0 0, .string ⟨#[]⟩, .slice none 0 0] 45)
 refine (rdHead_any _ n c (f :: r) _ HN.out hcc ((HR.out.below hB0).mono hB0.size)).mono ?_
 rintro e w1 ⟨hb1, ⟨m, N, r1', hh, rfl⟩ | ⟨hh, rfl⟩⟩
 ·have hh2 := hh.symm.trans H4.out
  injection hh2 with hh2
  injection hh2 with e1 hh2
  injection hh2 with e2 e3
  subst e1 e2 e3
  have HBx := h_ (hb1.mono (show w.heap.size + 1 ≤ _ by simp))
  have hsz1 : w.heap.size + 1 ≤ w1.heap.size := by have := hb1.size; simpa using this
  have HB : Hid (Below w.heap.size w w1) := hB0.trans (hb1.mono (by simp))
  obtain ⟨hd1, hd2, hd3⟩ := headN_drop hh
  obtain ⟨hnu, hm8⟩ := headN_u64 hh
  have hless := headN_less hh
  have HLu := h_ hnu
  obtain ⟨H, hH⟩ : ∃ H, H = (f :: r).length - r1'.length := ⟨_, rfl⟩
  obtain ⟨R, hRr⟩ : ∃ R, R = r1'.length := ⟨_, rfl⟩
  rw [← hH] at hd1 hd2 hd3 ⊢
  have hH0 : ((H : Int) == 0) = false := by simp; omega
  have hHn1 : H + R ≤ n := by have := HN.out; omega
  have hHn2 : n ≤ H + R := by have := HN.out; omega
  have HLen := h_ hH
  have HRr := h_ hRr
  have HD := h_ hd3
  have HI : Hid (∀ c, listN (itemN k) L r1' = .error c → itemN (k + 1) (f :: r) = .error c) := fun c h => itemN_listE H4.out (by rw [Int.toNat_natCast]; exact h)
  have HI2 : Hid (∀ l r2, listN (itemN k) L r1' = .ok (l, r2) → itemN (k + 1) (f :: r) = .ok (.mk 4 0 [] [] l, r2)) := fun l r2 h => itemN_list H4.out (by rw [Int.toNat_natCast]; exact h)
  clear hb1 hB0 hh hnu hH hRr hd3 hd1 hless hm8 H4
  have hLn : L < 18446744073709551616 := by have := HLu.out.2; omega
  clear HLu
  have HLn := h_ hLn
  clear hLn
  obtain ⟨W0, hW0⟩ : ∃ W0, W0 = w1.alloc (.cells #[.int .i64 4, .int .u64 0, .slice none 0 0, .string ⟨#[]⟩, .slice none 0 0] 45) := ⟨_, rfl⟩
  have HW0 := h_ hW0
  have hsW : W0.heap.size = w1.heap.size + 1 := by rw [hW0]; exact World.size_alloc _ _
  have hG1 : w1.heap.size < W0.heap.size := by omega
  have HBW : Hid (Below w.heap.size w W0) := by rw [hW0]; exact below_al HB.out _
  have HBxW : Hid (Below (w.heap.size + 1) (w.alloc (.cells #[.int .i64 0, .int .u64 0, .slice none 0 0, .string ⟨#[]⟩, .slice none 0 0] 45)) W0) := by rw [hW0]; exact HBx.out.alloc (by omega) _
  obtain ⟨G, hG⟩ : ∃ G, G = w1.heap.size := ⟨_, rfl⟩
  have HG := h_ hG
  have HJ0 : Hid (ListJ (itemN k) L (f :: r) r1' W0 w1.heap.size 0 H (.slice none 0 0) W0) := by
   refine ⟨But.refl _ _, ⟨by rw [hW0]; exact box5_new _ _ _ _ _ _ _, fun i => by rw [hW0]; simp⟩, [], [], r1', by have := HN.out; omega, HD.out, World.ownsRow_nil _ _ _ _, rfl, rfl, by rw [behind_nil]; rfl, by simp⟩
  rw [hW0] at HJ0
  clear hW0 hG hsW
  go_wp2_with fail
  rw [← HW0.out] at HJ0 ⊢
  rw [← HG.out] at HJ0 hG1 ⊢
  go_loopw [9, 14] (fun pv i wr => ∃ j p : Nat, j ≤ L ∧ i = .int .u64 j ∧ pv = .int .i64 p ∧ p ≤ n ∧ ∃ v, Hid (ListJ (itemN k) L (f :: r) r1' W0 G j p v wr)) (fun _ i _ => L - (intOf i).toNat)
  case atStart =>
   exact ⟨0, H, Nat.zero_le _, rfl, rfl, by omega, _, HJ0⟩
  case round =>
   obtain ⟨j, p, hj, rfl, rfl, hp, v, HJ⟩ := hrel
   obtain ⟨hbG, hbox, xs, l, r', hp', hdr, hown, hls, hll, hcon, hrj⟩ := HJ.out
   have hlr : r'.length = n - p := by rw [← hdr, List.length_drop, HN.out]
   have hj6 : j ≤ 1000000 := by have := HRr.out; omega
   have HBG := h_ hbG
   have HOW := h_ hown
   have HLS := h_ hls
   have HLL := h_ hll
   have HBr : Hid (Below w.heap.size w wr) := HBW.out.trans (hbG.below (by have := HG.out; omega) (by have := HBW.out.size; omega))
   have HBxr := h_ (HBxW.out.trans (hbG.below (by have := HG.out; omega) (by have := HBxW.out.size; simp at this; omega)))
   have hszr : w.heap.size + 1 ≤ wr.heap.size := by have := HBxr.out.size; simpa using this
   by_cases hlt : j < L
   ·have s1 := fun w : World => run_cut1 (P := Tryz.prog) 22 5 Tryz.underlying22 size_u8 (some ⟨b, o, none⟩) n c p hp w
    have hcut : RdB wr wr.heap.size (subA (some ⟨b, o, none⟩) p c) r' := by
     have h := ((HR.out.below HBr.out).mono HBr.out.size).cut p c (n - p) (by omega)
     rw [hdr, List.take_of_length_le (by omega)] at h
     exact h
    have hcall := IH.out (subA (some ⟨b, o, none⟩) p c) (n - p) (c - p) r' wr hlr.symm (by omega) (by omega) hcut
    rw [← HE8.out] at hcall
    have HCall := h_ hcall
    have HDr := h_ hdr
    have HCon := h_ hcon
    have HBx5 := h_ hbox
    have HLr := h_ hlr
    clear hcall hcut hdr hcon hbG hown hls hll hbox hlr HJ
    go_wp2_with fail
    refine HCall.out.mono ?_
    rintro e w2 ⟨hb2, hm⟩
    have HB2 := h_ hb2
    have hsz2 := hb2.size
    clear hb2 s1
    cases hit : itemN k r' with
    | error cc =>
     rw [hit] at hm
     have hm : e = .returned (.tuple #[itemV 0 0 [], .int .i64 0, .int .i64 cc]) := hm
     subst hm
     have hc12 := itemN_err k r' cc hit
     have e1 : ((cc : Int) != 0) = true := by simp; omega
     have e2 : ((cc : Int) == 0) = false := by simp; omega
     have HE : Hid (itemN (k + 1) (f :: r) = .error cc) := by
      apply HI.out
      rw [HCon.out, show L - j = (L - (j + 1)) + 1 by omega, ← HDr.out]
      simp only [listN, HDr.out, hit, behind]
     obtain ⟨⟨y0, y1, y2, y3, y4⟩, yf⟩ := box0_later (w := w) ((HBxr.out.trans (HB2.out.mono (by omega))).alloc (by omega) (.cells #[.int .i64 0, .int .u64 0, .slice none 0 0, .string ⟨#[]⟩, .slice none 0 0] 45))
     have HW2 : Hid (Below w.heap.size w (w2.alloc (.cells #[.int .i64 0, .int .u64 0, .slice none 0 0, .string ⟨#[]⟩, .slice none 0 0] 45))) := below_al (HBr.out.trans (HB2.out.mono (by omega))) _
     clear hit hc12
     unfold itemV
     go_wp2_with fail
     change bodyPost _ _ _ _ _ (put5 (w2.alloc (.cells #[.int .i64 0, .int .u64 0, .slice none 0 0, .string ⟨#[]⟩, .slice none 0 0] 45)) w.heap.size (.int .i64 0) (.int .u64 0) (.slice none 0 0) (.string ⟨#[]⟩) (.slice none 0 0))
     obtain ⟨c0, c1, c2, c3, c4⟩ := put5_cells y0 y1 y2 y3 y4 (.int .i64 0) (.int .u64 0) (.slice none 0 0) (.string ⟨#[]⟩) (.slice none 0 0)
     have hP := rdFirst_err (w := w) (k := k + 1) (c := cc) (bs := f :: r) HW2.out HE.out
     generalize put5 (w2.alloc (.cells #[.int .i64 0, .int .u64 0, .slice none 0 0, .string ⟨#[]⟩, .slice none 0 0] 45)) w.heap.size (.int .i64 0) (.int .u64 0) (.slice none 0 0) (.string ⟨#[]⟩) (.slice none 0 0) = w9 at *
     exact bodyPost_ret (v := .tuple #[itemV 0 0 [], .int .i64 0, .int .i64 cc]) (by simp [results, Tryz.results75, go_sem, itemV, c0, c1, c2, c3, c4]) rfl hP
    | ok pr =>
     obtain ⟨x9, r9⟩ := pr
     rw [hit] at hm
     obtain ⟨v9, rfl, hx9⟩ := hm
     obtain ⟨a', c', A', C', rfl⟩ := hx9.form
     obtain ⟨W2, hW2⟩ : ∃ W2, W2 = w2.alloc (.cells #[.int .i64 x9.k, .int .u64 x9.n, .slice a' x9.b.length c', .string ⟨x9.s.toArray⟩, .slice A' x9.l.length C'] 45) := ⟨_, rfl⟩
     have HWW2 := h_ hW2
     have HX9 := h_ hx9
     obtain ⟨m9, hm9⟩ : ∃ m9, m9 = r'.length - r9.length := ⟨_, rfl⟩
     have hm6 : m9 ≤ 1000000 := by have := HLr.out; omega
     have HIt : Hid (itemN k ((f :: r).drop p) = .ok (x9, r9)) := by rw [Hid, HDr.out]; exact hit
     have HM9 : Hid (m9 = ((f :: r).drop p).length - r9.length) := by rw [Hid, HDr.out]; exact hm9
     have HCon2 : Hid (listN (itemN k) L r1' = behind l (listN (itemN k) (L - j) ((f :: r).drop p))) := by rw [Hid, HDr.out]; exact HCon.out
     have HRj2 : Hid (((f :: r).drop p).length + j ≤ r1'.length) := by rw [Hid, HDr.out]; exact hrj
     have hbW2 : Below wr.heap.size wr W2 := by rw [hW2]; exact below_al HB2.out _
     have hGr : G < wr.heap.size := Nat.lt_of_lt_of_le hG1 HBG.out.size
     have g4 := (HBx5.out.1.later hbW2 hGr).2.2.2.2
     rw [hW2] at g4
     have HO1 : Hid ((W2.alloc (.cells #[.int .i64 x9.k, .int .u64 x9.n, .slice a' x9.b.length c', .string ⟨x9.s.toArray⟩, .slice A' x9.l.length C'] 45)).ownsRow W0.heap.size 45 5 v j xs) := World.ownsRow.alloc (ownsRow_but HOW.out (But.of_below hbW2) hG1) _
     have HM : Hid (∀ j u, [Value.int .i64 x9.k, .int .u64 x9.n, .slice a' x9.b.length c', .string ⟨x9.s.toArray⟩, .slice A' x9.l.length C'][j]? = some u →
       (W2.alloc (.cells #[.int .i64 x9.k, .int .u64 x9.n, .slice a' x9.b.length c', .string ⟨x9.s.toArray⟩, .slice A' x9.l.length C'] 45)).cell? ((⟨W2.heap.size, 0, none⟩ : Addr).add j) = some u) := by
      intro j u hu
      rw [mk_addr_add, Nat.zero_add, World.cell?_alloc_mark]
      simpa using hu
     have hszW2 : W0.heap.size ≤ W2.heap.size + 1 := by have := hbW2.size; have := HBG.out.size; omega
     rw [hW2] at HO1 HM
     clear hit hm9 hx9 hbW2 hW2
     rw [show r'.length - r9.length = m9 from HM9.out.trans (by rw [HDr.out]) |>.symm]
     simp only [World.size_alloc] at HM
     have hp2 : p ≤ (f :: r).length := by rw [← HN.out]; exact hp
     go_wp2_with (at_builtin; refine wpList_app5 _ rfl _ _ 42 rfl W0.heap.size 45 _ 5 80 Tryz.underlying42 info_item rfl (by decide) _ j xs rfl HO1.out ⟨w2.heap.size + 1, 0, none⟩ 1 1 [.int .i64 x9.k, .int .u64 x9.n, .slice a' x9.b.length c', .string ⟨x9.s.toArray⟩, .slice A' x9.l.length C'] rfl rfl HM.out (by intro u hu; simp at hu; rcases hu with rfl | rfl | rfl | rfl | rfl <;> rfl) (by unfold maxLen; omega) (by omega) (by rw [World.size_alloc, ← HWW2.out]; exact hszW2) ?_; intro v' w4 h2 h3 h5; obtain ⟨A9, n9, C9, rfl⟩ := ownsRow_slice h2; rw [← HWW2.out] at h3 h5; obtain ⟨HJ2, ⟨g5, gf⟩, hpm⟩ := ListJ.step hG1 hlt HBG.out HBx5.out hp2 HOW.out HLS.out HLL.out HCon2.out HRj2.out HIt.out HM9.out HB2.out HX9.out HWW2.out h2 h3 h5; clear h2 h3 h5)
     go_roundw
     case rel => exact ⟨j + 1, p + m9, by omega, by go_num, by go_num, by rw [HN.out]; exact hpm, _, HJ2⟩
     case measure => simp [intOf]; omega
   ·obtain rfl : j = L := by omega
    have hcon2 : listN (itemN k) j r1' = .ok (l, r') := by
     rw [hcon, Nat.sub_self]
     simp [listN, behind]
    have HE := h_ (HI2.out l r' hcon2)
    have hpr : p + r'.length = n := by omega
    obtain ⟨A, C, rfl, hjC, hlA⟩ : ∃ A C, v = .slice A j C ∧ j ≤ C ∧ (l = [] ∨ ∃ gg o, A = some ⟨gg, o, none⟩ ∧ newB w1 wr gg ∧ ItSL wr (newB w1 wr) gg o l) := by
     have hnb : ∀ b, newB W0 wr b → newB w1 wr b := fun b hb => ⟨by have := hb.1; have := HG.out; omega, hb.2⟩
     rcases HOW.out.2 with ⟨rfl, h0⟩ | ⟨gg, cp, cur, rfl, hb0, hg, hn9, hm9, hs9, htk⟩
     ·have h0' : j = 0 := h0
      refine ⟨none, 0, by rw [h0'], by omega, .inl (List.eq_nil_of_length_eq_zero (by rw [HLL.out]; exact h0'))⟩
     ·have hlt9 := (Array.getElem?_eq_some_iff.1 hg).1
      refine ⟨some ⟨gg, 0, none⟩, cp, rfl, hn9, .inr ⟨gg, 0, rfl, hnb gg ⟨hb0, hlt9⟩, ?_⟩⟩
      refine ItSL.more (fun b hb => hnb b hb.1) l (LS.itSL HLS.out fun i u hi => ?_)
      have h1 : wr.cell? ⟨gg, 0 + i, none⟩ = cur[i]? := by simp [World.cell?, hg]
      rw [h1]
      have hil : i < xs.length := (List.getElem?_eq_some_iff.1 hi).1
      rw [← htk, List.getElem?_take] at hi
      split at hi
      ·simpa using hi
      ·cases hi
    have hx0 : ItS wr (newB w1 wr) (.agg #[.int .i64 4, .int .u64 0, .slice none 0 0, .string ⟨#[]⟩, .slice A j C]) (.mk 4 0 [] [] l) := by
     simp only [ItS]
     exact ⟨A, ⟨none, 0, C, by rw [HLL.out]; rfl, ⟨Nat.le_refl _, by rw [HLL.out]; exact hjC⟩, .inl rfl, ⟨by decide, by decide⟩, by decide, Nat.zero_le _, Nat.zero_le _, by rw [HLL.out]; simp only [Sz]; omega⟩, hlA⟩
    have HX0 := h_ hx0
    obtain ⟨⟨y0, y1, y2, y3, y4⟩, yf⟩ := box0_later (w := w) HBxr.out
    obtain ⟨x0, x1, x2, x3, x4⟩ := hbox.1
    have HNn := h_ hpr
    clear hcon hcon2 hdr hown hls hll hbox HJ hbG hlA hx0 hlr hpr
    go_wp2_with fail
    change bodyPost _ _ _ _ _ (put5 wr w.heap.size (.int .i64 4) (.int .u64 0) (.slice none 0 0) (.string ⟨#[]⟩) (.slice A j C))
    obtain ⟨c0, c1, c2, c3, c4⟩ := put5_cells y0 y1 y2 y3 y4 (.int .i64 4) (.int .u64 0) (.slice none 0 0) (.string ⟨#[]⟩) (.slice A j C)
    have hP := rdFirst_ok (w := w) (w0 := w1) (w1 := wr) (k := k + 1) HBr.out (by omega) HE.out HX0.out (N := (p : Int)) (by have := HN.out; have := HNn.out; omega)
    generalize put5 wr w.heap.size (.int .i64 4) (.int .u64 0) (.slice none 0 0) (.string ⟨#[]⟩) (.slice A j C) = w9 at *
    exact bodyPost_ret (v := .tuple #[.agg #[.int .i64 4, .int .u64 0, .slice none 0 0, .string ⟨#[]⟩, .slice A j C], .int .i64 p, .int .i64 0]) (by simp [results, Tryz.results75, go_sem, c0, c1, c2, c3, c4]) rfl hP
 ·exact absurd (hh.symm.trans H4.out) (by simp)

def Later (W w : World) : Prop := Below W.heap.size W w

theorem rdFirst_any : ∀ k, k ≤ 8 → RdFirstAt k
 | 0, _ => rdFirst_zero
 | k + 1, h => by
  have ih := rdFirst_any k (by omega)
  intro a n c bs w hn hcc hl hr
  cases bs with
  | nil =>
   subst hn
   exact rdFirst_nil k (by omega) a c w
  | cons f r =>
   by_cases hf : 244 ≤ f.toNat ∧ f.toNat ≤ 246
   ·exact rdFirst_f7 k (by omega) a n c f r w hn hr hf
   by_cases h4 : ∃ n r1, headN (f :: r) = some (4, n, r1)
   ·obtain ⟨N, r1, h4⟩ := h4
    obtain ⟨L, rfl⟩ := Int.eq_ofNat_of_zero_le (headN_u64 h4).1.1
    exact rdFirst_list k (by omega) ih a n c f r w hn hcc hl hr L r1 h4
   ·exact rdFirst_rest k (by omega) ih a n c f r w hn hcc hl hr hf (fun n r1 h => h4 ⟨n, r1, h⟩)

set_option maxRecDepth 100000 in
theorem rFirst_any (a : Option Addr) (n c : Nat) (bs : List UInt8) (w : World) (hn : n = bs.length) (hcc : n ≤ c) (hl : bs.length ≤ 100000) (hr : RdB w w.heap.size a bs) :
  Calls Tryz.prog 39 #[.slice a n c] w (FirstP w bs) := by
 by_cases h65 : 65536 < bs.length
 ·have HF : Hid (firstN bs = .error 3) := if_pos h65
  have hn65 : (65536 : Int) < (n : Int) := by omega
  have hn65' : n ≤ 100000 := by omega
  have HB0 := h_ (below_al (Below.refl w.heap.size w) (.cells #[.int .i64 0, .int .u64 0, .slice none 0 0, .string ⟨#[]⟩, .slice none 0 0] 45))
  clear hr hl h65
  go_enter Tryz.func39, Tryz.ntmps39
  go_wp2_with fail
  exact bodyPost_ret (v := .tuple #[itemV 0 0 [], .int .i64 0, .int .i64 3]) (by simp [results, Tryz.results39, go_sem, itemV]) rfl ⟨HB0.out, by rw [HF.out]; rfl⟩
 have HN := h_ hn
 have HR := h_ hr
 have hn3 : n ≤ 65536 := by omega
 have hl6 : bs.length ≤ 1000000 := by omega
 clear h65
 have HF : Hid (firstN bs = match itemN 8 bs with | .error c => .error c | .ok (x, r) => .ok (x, bs.length - r.length)) := if_neg (by omega)
 have hB0 := below_al (Below.refl w.heap.size w) (.cells #[.int .i64 0, .int .u64 0, .slice none 0 0, .string ⟨#[]⟩, .slice none 0 0] 45)
 clear hn hr hl
 go_enter Tryz.func39, Tryz.ntmps39
 go_wp2_with fail
 refine (rdFirst_any 8 (Nat.le_refl _) a n c bs _ HN.out hcc hl6 ((HR.out.below hB0).mono hB0.size)).mono ?_
 rintro e w1 ⟨hb1, hm⟩
 have HBx := h_ (hb1.mono (show w.heap.size + 1 ≤ _ by simp))
 obtain ⟨⟨z0, z1, z2, z3, z4⟩, zf⟩ := box0_later (w := w) HBx.out
 have hsz1 : w.heap.size + 1 ≤ w1.heap.size := by have := hb1.size; simpa using this
 have HB : Hid (Below w.heap.size w w1) := hB0.trans (hb1.mono (by simp))
 clear hb1 hB0
 cases hit : itemN 8 bs with
 | error q =>
  rw [hit] at hm HF
  have hm : e = .returned (.tuple #[itemV 0 0 [], .int .i64 0, .int .i64 q]) := hm
  subst hm
  have HF2 : Hid (firstN bs = .error q) := HF.out
  clear hit HF
  unfold itemV
  go_wp2_with fail
  change bodyPost _ _ _ _ _ (put5 w1 w.heap.size (.int .i64 0) (.int .u64 0) (.slice none 0 0) (.string ⟨#[]⟩) (.slice none 0 0))
  obtain ⟨c0, c1, c2, c3, c4⟩ := put5_cells z0 z1 z2 z3 z4 (.int .i64 0) (.int .u64 0) (.slice none 0 0) (.string ⟨#[]⟩) (.slice none 0 0)
  have hP : FirstP w bs (.returned (.tuple #[itemV 0 0 [], .int .i64 0, .int .i64 q])) (put5 w1 w.heap.size (.int .i64 0) (.int .u64 0) (.slice none 0 0) (.string ⟨#[]⟩) (.slice none 0 0)) := by
   refine ⟨HB.out.trans (put5_below w1 w.heap.size w.heap.size (Nat.le_refl _) _ _ _ _ _), ?_⟩
   rw [HF2.out]
  generalize put5 w1 w.heap.size (.int .i64 0) (.int .u64 0) (.slice none 0 0) (.string ⟨#[]⟩) (.slice none 0 0) = w9 at *
  exact bodyPost_ret (v := .tuple #[itemV 0 0 [], .int .i64 0, .int .i64 q]) (by simp [results, Tryz.results39, go_sem, itemV, c0, c1, c2, c3, c4]) rfl hP
 | ok p =>
  obtain ⟨x, r⟩ := p
  rw [hit] at hm HF
  obtain ⟨v, rfl, hx⟩ := hm
  obtain ⟨a', c', A', C', rfl⟩ := hx.form
  have HX := h_ hx
  obtain ⟨m, hm9⟩ : ∃ m, m = bs.length - r.length := ⟨_, rfl⟩
  have HF2 : Hid (firstN bs = .ok (x, m)) := by rw [Hid, hm9]; exact HF.out
  rw [← hm9]
  clear hit HF hx hm9
  go_wp2_with fail
  change bodyPost _ _ _ _ _ (put5 w1 w.heap.size (.int .i64 x.k) (.int .u64 x.n) (.slice a' x.b.length c') (.string ⟨x.s.toArray⟩) (.slice A' x.l.length C'))
  obtain ⟨c0, c1, c2, c3, c4⟩ := put5_cells z0 z1 z2 z3 z4 (.int .i64 x.k) (.int .u64 x.n) (.slice a' x.b.length c') (.string ⟨x.s.toArray⟩) (.slice A' x.l.length C')
  have hP : FirstP w bs (.returned (.tuple #[.agg #[.int .i64 x.k, .int .u64 x.n, .slice a' x.b.length c', .string ⟨x.s.toArray⟩, .slice A' x.l.length C'], .int .i64 m, .int .i64 0])) (put5 w1 w.heap.size (.int .i64 x.k) (.int .u64 x.n) (.slice a' x.b.length c') (.string ⟨x.s.toArray⟩) (.slice A' x.l.length C')) := by
   refine ⟨HB.out.trans (put5_below w1 w.heap.size w.heap.size (Nat.le_refl _) _ _ _ _ _), ?_⟩
   rw [HF2.out]
   refine ⟨_, rfl, ?_⟩
   have hszA : (w.alloc (.cells #[.int .i64 0, .int .u64 0, .slice none 0 0, .string ⟨#[]⟩, .slice none 0 0] 45)).heap.size = w.heap.size + 1 := World.size_alloc _ _
   have hk : KeepB (newB (w.alloc (.cells #[.int .i64 0, .int .u64 0, .slice none 0 0, .string ⟨#[]⟩, .slice none 0 0] 45)) w1) w1 (put5 w1 w.heap.size (.int .i64 x.k) (.int .u64 x.n) (.slice a' x.b.length c') (.string ⟨x.s.toArray⟩) (.slice A' x.l.length C')) := fun b hbb => put5_block w1 w.heap.size _ _ _ _ _ b (by have := hbb.1; omega)
   exact (ItS.keep hk x HX.out).more fun b hbb => ⟨by have := hbb.1; omega, by rw [put5_size]; exact hbb.2⟩
  generalize put5 w1 w.heap.size (.int .i64 x.k) (.int .u64 x.n) (.slice a' x.b.length c') (.string ⟨x.s.toArray⟩) (.slice A' x.l.length C') = w9 at *
  exact bodyPost_ret (v := .tuple #[.agg #[.int .i64 x.k, .int .u64 x.n, .slice a' x.b.length c', .string ⟨x.s.toArray⟩, .slice A' x.l.length C'], .int .i64 m, .int .i64 0]) (by simp [results, Tryz.results39, go_sem, c0, c1, c2, c3, c4]) rfl hP

set_option maxRecDepth 100000 in
theorem rDecode_any (a : Option Addr) (n c : Nat) (bs : List UInt8) (w : World) (hn : n = bs.length) (hcc : n ≤ c) (hl : bs.length ≤ 100000) (hr : RdB w w.heap.size a bs) :
  Calls Tryz.prog 21 #[.slice a n c] w (DecodeP w bs) := by
 have HN := h_ hn
 have HR := h_ hr
 have hn3 : n ≤ 100000 := by omega
 have hB0 := below_al (Below.refl w.heap.size w) (.cells #[.int .i64 0, .int .u64 0, .slice none 0 0, .string ⟨#[]⟩, .slice none 0 0] 45)
 clear hn hr
 go_enter Tryz.func21, Tryz.ntmps21
 go_wp2_with fail
 refine (rFirst_any a n c bs _ HN.out hcc hl ((HR.out.below hB0).mono hB0.size)).mono ?_
 rintro e w1 ⟨hb1, hm⟩
 have HBx := h_ (hb1.mono (show w.heap.size + 1 ≤ _ by simp))
 have hsz1 : w.heap.size + 1 ≤ w1.heap.size := by have := hb1.size; simpa using this
 have HB : Hid (Below w.heap.size w w1) := hB0.trans (hb1.mono (by simp))
 clear hb1 hB0 hl
 cases hit : firstN bs with
 | error q =>
  rw [hit] at hm
  have hm : e = .returned (.tuple #[itemV 0 0 [], .int .i64 0, .int .i64 q]) := hm
  subst hm
  have hq := firstN_err hit
  have hq0 : ((q : Int) == 0) = false := by simp; omega
  have hq1 : ((q : Int) != 0) = true := by simp; omega
  have HD : Hid (decodeN bs = .error q) := by simp only [Hid, decodeN, hit]
  obtain ⟨⟨y0, y1, y2, y3, y4⟩, yf⟩ := box0_later (w := w) (HBx.out.alloc hsz1 (.cells #[.int .i64 0, .int .u64 0, .slice none 0 0, .string ⟨#[]⟩, .slice none 0 0] 45))
  have HB2 : Hid (Below w.heap.size w (w1.alloc (.cells #[.int .i64 0, .int .u64 0, .slice none 0 0, .string ⟨#[]⟩, .slice none 0 0] 45))) := below_al HB.out _
  clear hit hq
  unfold itemV
  go_wp2_with fail
  change bodyPost _ _ _ _ _ (put5 (w1.alloc (.cells #[.int .i64 0, .int .u64 0, .slice none 0 0, .string ⟨#[]⟩, .slice none 0 0] 45)) w.heap.size (.int .i64 0) (.int .u64 0) (.slice none 0 0) (.string ⟨#[]⟩) (.slice none 0 0))
  obtain ⟨c0, c1, c2, c3, c4⟩ := put5_cells y0 y1 y2 y3 y4 (.int .i64 0) (.int .u64 0) (.slice none 0 0) (.string ⟨#[]⟩) (.slice none 0 0)
  have hP : DecodeP w bs (.returned (.tuple #[itemV 0 0 [], .int .i64 q])) (put5 (w1.alloc (.cells #[.int .i64 0, .int .u64 0, .slice none 0 0, .string ⟨#[]⟩, .slice none 0 0] 45)) w.heap.size (.int .i64 0) (.int .u64 0) (.slice none 0 0) (.string ⟨#[]⟩) (.slice none 0 0)) := by
   refine ⟨HB2.out.trans (put5_below _ w.heap.size w.heap.size (Nat.le_refl _) _ _ _ _ _), ?_⟩
   rw [HD.out]

  generalize put5 (w1.alloc (.cells #[.int .i64 0, .int .u64 0, .slice none 0 0, .string ⟨#[]⟩, .slice none 0 0] 45)) w.heap.size (.int .i64 0) (.int .u64 0) (.slice none 0 0) (.string ⟨#[]⟩) (.slice none 0 0) = w9 at *
  exact bodyPost_ret (v := .tuple #[itemV 0 0 [], .int .i64 q]) (by simp [results, Tryz.results21, go_sem, itemV, c0, c1, c2, c3, c4]) rfl hP

 | ok p =>
  obtain ⟨x, m⟩ := p
  rw [hit] at hm
  obtain ⟨v, rfl, hx⟩ := hm
  obtain ⟨a', c', A', C', rfl⟩ := hx.form
  have hml := (firstN_len hit).2.1
  rw [← HN.out] at hml
  have HX := h_ hx
  obtain ⟨⟨y0, y1, y2, y3, y4⟩, yf⟩ := box0_later (w := w) (HBx.out.alloc hsz1 (.cells #[.int .i64 x.k, .int .u64 x.n, .slice a' x.b.length c', .string ⟨x.s.toArray⟩, .slice A' x.l.length C'] 45))
  have HB2 : Hid (Below w.heap.size w (w1.alloc (.cells #[.int .i64 x.k, .int .u64 x.n, .slice a' x.b.length c', .string ⟨x.s.toArray⟩, .slice A' x.l.length C'] 45))) := below_al HB.out _
  by_cases hlt : m < n
  ·have HD : Hid (decodeN bs = .error 121) := by simp only [Hid, decodeN, hit, ← HN.out, hlt, if_true]
   have hne : ((m : Int) != (n : Int)) = true := by simp; omega
   clear hit hx
   go_wp2_with fail
   change bodyPost _ _ _ _ _ (put5 (w1.alloc (.cells #[.int .i64 x.k, .int .u64 x.n, .slice a' x.b.length c', .string ⟨x.s.toArray⟩, .slice A' x.l.length C'] 45)) w.heap.size (.int .i64 0) (.int .u64 0) (.slice none 0 0) (.string ⟨#[]⟩) (.slice none 0 0))
   obtain ⟨c0, c1, c2, c3, c4⟩ := put5_cells y0 y1 y2 y3 y4 (.int .i64 0) (.int .u64 0) (.slice none 0 0) (.string ⟨#[]⟩) (.slice none 0 0)
   have hP : DecodeP w bs (.returned (.tuple #[itemV 0 0 [], .int .i64 121])) (put5 (w1.alloc (.cells #[.int .i64 x.k, .int .u64 x.n, .slice a' x.b.length c', .string ⟨x.s.toArray⟩, .slice A' x.l.length C'] 45)) w.heap.size (.int .i64 0) (.int .u64 0) (.slice none 0 0) (.string ⟨#[]⟩) (.slice none 0 0)) := by
    refine ⟨HB2.out.trans (put5_below _ w.heap.size w.heap.size (Nat.le_refl _) _ _ _ _ _), ?_⟩
    rw [HD.out]
    rfl
   generalize put5 (w1.alloc (.cells #[.int .i64 x.k, .int .u64 x.n, .slice a' x.b.length c', .string ⟨x.s.toArray⟩, .slice A' x.l.length C'] 45)) w.heap.size (.int .i64 0) (.int .u64 0) (.slice none 0 0) (.string ⟨#[]⟩) (.slice none 0 0) = w9 at *
   exact bodyPost_ret (v := .tuple #[itemV 0 0 [], .int .i64 121]) (by simp [results, Tryz.results21, go_sem, itemV, c0, c1, c2, c3, c4]) rfl hP

  ·have HD : Hid (decodeN bs = .ok x) := by simp only [Hid, decodeN, hit, ← HN.out, hlt, if_false]
   have hne : ((m : Int) != (n : Int)) = false := by simp; omega
   clear hit hx
   go_wp2_with fail
   change bodyPost _ _ _ _ _ (put5 (w1.alloc (.cells #[.int .i64 x.k, .int .u64 x.n, .slice a' x.b.length c', .string ⟨x.s.toArray⟩, .slice A' x.l.length C'] 45)) w.heap.size (.int .i64 x.k) (.int .u64 x.n) (.slice a' x.b.length c') (.string ⟨x.s.toArray⟩) (.slice A' x.l.length C'))
   obtain ⟨c0, c1, c2, c3, c4⟩ := put5_cells y0 y1 y2 y3 y4 (.int .i64 x.k) (.int .u64 x.n) (.slice a' x.b.length c') (.string ⟨x.s.toArray⟩) (.slice A' x.l.length C')
   have hP : DecodeP w bs (.returned (.tuple #[.agg #[.int .i64 x.k, .int .u64 x.n, .slice a' x.b.length c', .string ⟨x.s.toArray⟩, .slice A' x.l.length C'], .int .i64 0])) (put5 (w1.alloc (.cells #[.int .i64 x.k, .int .u64 x.n, .slice a' x.b.length c', .string ⟨x.s.toArray⟩, .slice A' x.l.length C'] 45)) w.heap.size (.int .i64 x.k) (.int .u64 x.n) (.slice a' x.b.length c') (.string ⟨x.s.toArray⟩) (.slice A' x.l.length C')) := by
    refine ⟨HB2.out.trans (put5_below _ w.heap.size w.heap.size (Nat.le_refl _) _ _ _ _ _), ?_⟩
    rw [HD.out]
    refine ⟨_, rfl, ?_⟩
    have hszA : (w.alloc (.cells #[.int .i64 0, .int .u64 0, .slice none 0 0, .string ⟨#[]⟩, .slice none 0 0] 45)).heap.size = w.heap.size + 1 := World.size_alloc _ _
    have hk : KeepB (newB (w.alloc (.cells #[.int .i64 0, .int .u64 0, .slice none 0 0, .string ⟨#[]⟩, .slice none 0 0] 45)) w1) w1 (put5 (w1.alloc (.cells #[.int .i64 x.k, .int .u64 x.n, .slice a' x.b.length c', .string ⟨x.s.toArray⟩, .slice A' x.l.length C'] 45)) w.heap.size (.int .i64 x.k) (.int .u64 x.n) (.slice a' x.b.length c') (.string ⟨x.s.toArray⟩) (.slice A' x.l.length C')) := fun b hbb => (put5_block _ w.heap.size _ _ _ _ _ b (by have := hbb.1; omega)).trans ((below_al (Below.refl w1.heap.size w1) _).block b hbb.2)
    exact (ItS.keep hk x HX.out).more fun b hbb => ⟨by have := hbb.1; omega, by rw [put5_size, World.size_alloc]; have := hbb.2; omega⟩
   generalize put5 (w1.alloc (.cells #[.int .i64 x.k, .int .u64 x.n, .slice a' x.b.length c', .string ⟨x.s.toArray⟩, .slice A' x.l.length C'] 45)) w.heap.size (.int .i64 x.k) (.int .u64 x.n) (.slice a' x.b.length c') (.string ⟨x.s.toArray⟩) (.slice A' x.l.length C') = w9 at *
   exact bodyPost_ret (v := .tuple #[.agg #[.int .i64 x.k, .int .u64 x.n, .slice a' x.b.length c', .string ⟨x.s.toArray⟩, .slice A' x.l.length C'], .int .i64 0]) (by simp [results, Tryz.results21, go_sem, itemV, c0, c1, c2, c3, c4]) rfl hP



end Go.Proofs.YteldifnkeekafaaGreatDoor
