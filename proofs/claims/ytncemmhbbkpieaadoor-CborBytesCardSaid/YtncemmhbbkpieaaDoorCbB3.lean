/- The document's answer of layer 3, read: first, whatever the bytes. -/
import Derived.Test.YtncemmhbbkpieaaDoorCbB2
import Derived.IntWalk
namespace Go.Proofs.YtncemmhbbkpieaaDoor
open Go.RowKit Go.Shelf
set_option linter.unusedSimpArgs false
set_option linter.unusedVariables false

set_option maxRecDepth 100000 in
set_option maxHeartbeats 4000000 in
theorem rdFirst_nil (k : Nat) (hk : k < 8) (a : Option Addr) (c : Nat) (w : World) :
    Calls Tryd.prog 25 #[.slice a 0 c, .int .i64 ((8 - (k + 1) : Nat) : Int)] w (RdFirstP w (k + 1) []) := by
  obtain ⟨q, hq⟩ : ∃ q, q = 8 - (k + 1) := ⟨_, rfl⟩
  rw [← hq]
  have hq7 : q ≤ 7 := by omega
  clear hq hk
  go_enter Tryd.func25, Tryd.ntmps25
  go_wp2_with fail
  refine (rdHead_nil _ _ _).mono ?_
  rintro e w1 ⟨hb1, ⟨m, N, r1, hh, _⟩ | ⟨hh, rfl⟩⟩
  · exact absurd hh (by simp [headN])
  · obtain ⟨⟨z0, z1, z2, z3, z4⟩, zf⟩ := box0_later (w := w) (hb1.mono (by simp))
    have HB := Lib.hid (((Below.refl w.heap.size w).alloc (Nat.le_refl _) _).trans (hb1.mono (by simp)))
    clear hb1 hh
    go_wp2_with fail
    change bodyPost _ _ _ _ _ (put5 w1 w.heap.size (.int .i64 0) (.int .u64 0) (.slice none 0 0) (.string ⟨#[]⟩) (.slice none 0 0))
    obtain ⟨c0, c1, c2, c3, c4⟩ := put5_cells z0 z1 z2 z3 z4 (.int .i64 0) (.int .u64 0) (.slice none 0 0) (.string ⟨#[]⟩) (.slice none 0 0)
    have hP := rdFirst_err (w := w) (w1 := w1) (k := k + 1) (c := 121) (bs := []) HB.out (itemN_none rfl)
    generalize put5 w1 w.heap.size (.int .i64 0) (.int .u64 0) (.slice none 0 0) (.string ⟨#[]⟩) (.slice none 0 0) = w9 at *
    exact bodyPost_ret (v := .tuple #[itemV 0 0 [], .int .i64 0, .int .i64 121]) (by simp [results, Tryd.results25, go_sem, itemV, c0, c1, c2, c3, c4]) rfl hP

theorem rdRunes (l : List UInt8) (h : l.length ≤ 1000000) (w : World) : Calls Tryd.prog 39 #[.string ⟨l.toArray⟩] w (RunesP l w) := by
  refine (refRunes_any ⟨l.toArray⟩ w (by simp [ByteArray.size]; omega)).mono ?_
  rintro e w' ⟨rfl, rfl⟩
  exact ⟨rfl, Below.refl _ _⟩

set_option maxRecDepth 100000 in
set_option maxHeartbeats 8000000 in
theorem rdFirst_rest (k : Nat) (hk : k < 8) (ih : RdFirstAt k) (a : Option Addr) (n c : Nat) (f : UInt8) (r : List UInt8) (w : World) (hn : n = (f :: r).length) (hcc : n ≤ c) (hl : (f :: r).length ≤ 1000000) (hr : RdB w w.heap.size a (f :: r)) (hf : ¬ (244 ≤ f.toNat ∧ f.toNat ≤ 246)) (h4 : ∀ n r1, headN (f :: r) ≠ some (4, n, r1)) :
    Calls Tryd.prog 25 #[.slice a n c, .int .i64 ((8 - (k + 1) : Nat) : Int)] w (RdFirstP w (k + 1) (f :: r)) := by
  obtain ⟨b, o, rfl, hb, hc⟩ := hr.cell0
  have HF := Lib.hid hf
  have H4 := Lib.hid h4
  clear h4
  have HR := Lib.hid hr
  have IH := Lib.hid ih
  obtain ⟨x, hx⟩ : ∃ x, x = f.toNat := ⟨_, rfl⟩
  rw [← hx] at hc hf
  obtain ⟨q, hq⟩ : ∃ q, q = 8 - (k + 1) := ⟨_, rfl⟩
  rw [← hq]
  have hq7 : q ≤ 7 := by omega
  have hn1 : 0 < n := by rw [hn]; simp
  have hn6 : n ≤ 1000000 := by omega
  have HN := Lib.hid hn
  have HQ := Lib.hid hq
  have hx2 : x < 244 ∨ 246 < x := by omega
  clear hn hx hr hq hf ih hl
  rcases hx2 with hx2 | hx2
  all_goals
    go_enter Tryd.func25, Tryd.ntmps25
    go_wp2_with fail
    have hB0 := below_al (Below.refl w.heap.size w) (.cells #[.int .i64 0, .int .u64 0, .slice none 0 0, .string ⟨#[]⟩, .slice none 0 0] 28)
    refine (rdHead_any _ n c (f :: r) _ HN.out hcc ((HR.out.below hB0).mono hB0.size)).mono ?_
    rintro e w1 ⟨hb1, ⟨m, N, r1, hh, rfl⟩ | ⟨hh, rfl⟩⟩
    · have HBx := Lib.hid (hb1.mono (show w.heap.size + 1 ≤ _ by simp))
      obtain ⟨⟨z0, z1, z2, z3, z4⟩, zf⟩ := box0_later (w := w) HBx.out
      have hsz1 : w.heap.size + 1 ≤ w1.heap.size := by have := hb1.size; simpa using this
      have HB : Hid (Below w.heap.size w w1) := hB0.trans (hb1.mono (by simp))
      obtain ⟨hd1, hd2, hd3⟩ := headN_drop hh
      obtain ⟨hnu, hm8⟩ := headN_u64 hh
      have hless := headN_less hh
      have HH := Lib.hid hh
      obtain ⟨L, rfl⟩ := Int.eq_ofNat_of_zero_le hnu.1
      have HLu := Lib.hid hnu
      obtain ⟨H, hH⟩ : ∃ H, H = (f :: r).length - r1.length := ⟨_, rfl⟩
      obtain ⟨R, hRr⟩ : ∃ R, R = r1.length := ⟨_, rfl⟩
      rw [← hH] at hd1 hd2 hd3 ⊢
      have hnR : (n : Int) - (H : Int) = (R : Int) := by rw [HN.out]; omega
      have hH0 : ((H : Int) == 0) = false := by simp; omega
      have hwR := wrapLen (l := R) (by omega)
      have hHn1 : H + R ≤ n := by omega
      have hHn2 : n ≤ H + R := by omega
      have HLen := Lib.hid hH
      have HRr := Lib.hid hRr
      have HD := Lib.hid hd3
      clear hb1 hB0 hh hnu hH hRr hd3 hd1 hless
      by_cases m0 : m = 0
      · subst m0
        have HE : Hid (itemN (k + 1) (f :: r) = .ok (.mk 1 L [] [] [], r1)) := itemN_uint HH.out
        clear hnR
        go_wp2_with fail
        change bodyPost _ _ _ _ _ (put5 w1 w.heap.size (.int .i64 1) (.int .u64 L) (.slice none 0 0) (.string ⟨#[]⟩) (.slice none 0 0))
        obtain ⟨c0, c1, c2, c3, c4⟩ := put5_cells z0 z1 z2 z3 z4 (.int .i64 1) (.int .u64 L) (.slice none 0 0) (.string ⟨#[]⟩) (.slice none 0 0)
        have hP := rdFirst_ok (w := w) (w0 := w1) (w1 := w1) (k := k + 1) HB.out (by omega) HE.out (itS_plain w1 _ 1 L [] (by decide) HLu.out (Nat.zero_le _)) (N := H) (by rw [HLen.out])
        generalize put5 w1 w.heap.size (.int .i64 1) (.int .u64 L) (.slice none 0 0) (.string ⟨#[]⟩) (.slice none 0 0) = w9 at *
        exact bodyPost_ret (v := .tuple #[itemV 1 L [], .int .i64 H, .int .i64 0]) (by simp [results, Tryd.results25, go_sem, itemV, c0, c1, c2, c3, c4]) rfl hP
      by_cases m2 : m = 2
      · subst m2
        clear HLu
        by_cases hle : L ≤ R
        · have HE : Hid (itemN (k + 1) (f :: r) = .ok (.mk 2 0 (r1.take L) [] [], r1.drop L)) := by
            have h := itemN_bytes (k := k) HH.out (by rw [Int.toNat_natCast, ← HRr.out]; exact hle)
            rw [Int.toNat_natCast] at h
            exact h
          have s1 : ∀ w : World, (Instr.slice 22 (.slice (some ⟨b, o, none⟩) n c) (some (.int .i64 (H : Int))) (some (.int .i64 ((H : Int) + (L : Int)))) none).run Tryd.prog w = .ok (.slice (subA (some ⟨b, o, none⟩) H c) L (c - H)) w := by
            intro w
            have h := run_cut2 (P := Tryd.prog) 22 5 Tryd.underlying22 size_u8 (some ⟨b, o, none⟩) n c H (H + L) (by omega) (by omega) w
            rw [show H + L - H = L by omega] at h
            simpa using h
          have hcut : RdB w1 w1.heap.size (subA (some ⟨b, o, none⟩) H c) (r1.take L) := by
            have h := ((HR.out.below HB.out).mono HB.out.size).cut H c L (by omega)
            rw [HD.out] at h
            exact h
          obtain ⟨t, htt⟩ : ∃ t, t = r1.take L := ⟨_, rfl⟩
          rw [← htt] at hcut HE
          have HLt2 : Hid (t.length = L) := by rw [Hid, htt, List.length_take, ← HRr.out]; omega
          have HLt : Hid ((t.map encB).length = L) := by rw [Hid, List.length_map, HLt2.out]
          clear htt
          have HS := Lib.hid (hcut.src.alloc (.cells #[] 5))
          have ho := OwnV.lit w1 w1.heap.size 5 #[] (Nat.le_refl _) (by decide)
          have h1 := Lib.hid (encB_one t)
          have hL1 : Hid (([] : List Value).length + (t.map encB).length ≤ maxLen) := by rw [Hid, HLt.out]; simp [maxLen]; omega
          have hL2 : Hid ((([] : List Value).length + (t.map encB).length) * 1 ≤ 140737488355328) := by rw [Hid, HLt.out]; simp; omega
          have hld : decide (R < L) = false := by simp; omega
          have hR6 : R ≤ 1000000 := by omega
          have hH6 : H ≤ 1000000 := by omega
          have hwL : IntKind.i64.wrap (L : Int) = (L : Int) := IntWalk.i64_in _ (by omega)
          have hwHL : IntKind.i64.wrap ((H : Int) + (L : Int)) = (H : Int) + (L : Int) := IntWalk.i64_in _ (by omega)
          have hHL : (0 : Int) ≤ (H : Int) + (L : Int) := by omega
          have hHL2 : (H : Int) + (L : Int) ≤ 2000000 := by omega
          clear hcut
          go_wp2_with (at_builtin; refine wpList_app _ rfl _ _ 22 rfl w1.heap.size 5 (.int .u8 0) 1 Tryd.underlying22 info_u8 rfl _ _ rfl ho _ _ _ _ rfl HLt.out HS.out h1.out hL1.out hL2.out (by simp) ?_; intro v' w2 hp; have hb2 : Below w1.heap.size w1 w2 := ((Below.refl _ _).alloc (Nat.le_refl _) _).grown hp.2.1 (by simp) (fun r e => by cases e; exact Nat.le_refl _); obtain ⟨A, C, hv', hC, hra, hA⟩ := (show OwnV w2 w1.heap.size 5 v' (t.map encB) from hp.1).bytes; rw [HLt2.out] at hv' hC; subst hv'; obtain ⟨⟨y0, y1, y2, y3, y4⟩, yf⟩ := box0_later (w := w) (HBx.out.trans (hb2.mono hsz1)); have HB2 := Lib.hid hb2; have HRA := Lib.hid hra; have HA := Lib.hid hA; clear hp hb2 hra hA)
          change bodyPost _ _ _ _ _ (put5 w2 w.heap.size (.int .i64 2) (.int .u64 0) (.slice A L C) (.string ⟨#[]⟩) (.slice none 0 0))
          obtain ⟨c0, c1, c2, c3, c4⟩ := put5_cells y0 y1 y2 y3 y4 (.int .i64 2) (.int .u64 0) (.slice A L C) (.string ⟨#[]⟩) (.slice none 0 0)
          have hx0 : ItS w2 (newB w1 w2) (.agg #[.int .i64 2, .int .u64 0, .slice A L C, .string ⟨#[]⟩, .slice none 0 0]) (.mk 2 0 t [] []) := by
            simp only [ItS]
            exact ⟨none, ⟨A, C, 0, by rw [HLt2.out]; rfl, ⟨by rw [HLt2.out]; exact hC, Nat.le_refl _⟩, RdBS.own HRA.out HA.out (Nat.le_refl _), ⟨by decide, by decide⟩, by decide, by rw [HLt2.out]; simp only [Sz]; omega, Nat.zero_le _, Nat.zero_le _⟩, .inl trivial⟩
          have hP := rdFirst_ok (w := w) (w0 := w1) (w1 := w2) (k := k + 1) (HB.out.trans (HB2.out.mono (by omega))) (by omega) HE.out hx0 (N := (H : Int) + (L : Int)) (by rw [List.length_drop]; have := HN.out; have := HRr.out; omega)
          generalize put5 w2 w.heap.size (.int .i64 2) (.int .u64 0) (.slice A L C) (.string ⟨#[]⟩) (.slice none 0 0) = w9 at *
          exact bodyPost_ret (v := .tuple #[.agg #[.int .i64 2, .int .u64 0, .slice A L C, .string ⟨#[]⟩, .slice none 0 0], .int .i64 ((H : Int) + (L : Int)), .int .i64 0]) (by simp [results, Tryd.results25, go_sem, c0, c1, c2, c3, c4]) rfl hP
        · have HE : Hid (itemN (k + 1) (f :: r) = .error 121) := itemN_bytesE HH.out (by rw [Int.toNat_natCast, ← HRr.out]; exact hle)
          have hld : decide (R < L) = true := by simp; omega
          have hR6 : R ≤ 1000000 := by omega
          clear hle
          go_wp2_with fail
          change bodyPost _ _ _ _ _ (put5 w1 w.heap.size (.int .i64 0) (.int .u64 0) (.slice none 0 0) (.string ⟨#[]⟩) (.slice none 0 0))
          obtain ⟨c0, c1, c2, c3, c4⟩ := put5_cells z0 z1 z2 z3 z4 (.int .i64 0) (.int .u64 0) (.slice none 0 0) (.string ⟨#[]⟩) (.slice none 0 0)
          have hP := rdFirst_err (w := w) (w1 := w1) (k := k + 1) (c := 121) (bs := f :: r) HB.out HE.out
          generalize put5 w1 w.heap.size (.int .i64 0) (.int .u64 0) (.slice none 0 0) (.string ⟨#[]⟩) (.slice none 0 0) = w9 at *
          exact bodyPost_ret (v := .tuple #[itemV 0 0 [], .int .i64 0, .int .i64 121]) (by simp [results, Tryd.results25, go_sem, itemV, c0, c1, c2, c3, c4]) rfl hP
      by_cases m3 : m = 3
      · subst m3
        clear HLu
        by_cases hle : L ≤ R
        · have s1 : ∀ w : World, (Instr.slice 22 (.slice (some ⟨b, o, none⟩) n c) (some (.int .i64 (H : Int))) (some (.int .i64 ((H : Int) + (L : Int)))) none).run Tryd.prog w = .ok (.slice (subA (some ⟨b, o, none⟩) H c) L (c - H)) w := by
            intro w
            have h := run_cut2 (P := Tryd.prog) 22 5 Tryd.underlying22 size_u8 (some ⟨b, o, none⟩) n c H (H + L) (by omega) (by omega) w
            rw [show H + L - H = L by omega] at h
            simpa using h
          have hcut : RdB w1 w1.heap.size (subA (some ⟨b, o, none⟩) H c) (r1.take L) := by
            have h := ((HR.out.below HB.out).mono HB.out.size).cut H c L (by omega)
            rw [HD.out] at h
            exact h
          have HLt2 : Hid ((r1.take L).length = L) := by rw [Hid, List.length_take, ← HRr.out]; omega
          have k1 := hcut.text (P := Tryd.prog) 22 9 5 L (c - H) HLt2.out.symm Tryd.underlying22 Tryd.underlying5 Tryd.underlying9
          have HE : Hid (itemN (k + 1) (f :: r) = if (runesL (r1.take L)).2 = true then .ok (.mk 3 0 [] (r1.take L) [], r1.drop L) else .error 121) := by
            have h := itemN_text (k := k) HH.out
            rw [textN, Int.toNat_natCast, if_pos (by rw [← HRr.out]; exact hle)] at h
            exact h
          have hld : decide (R < L) = false := by simp; omega
          have hR6 : R ≤ 1000000 := by omega
          have hH6 : H ≤ 1000000 := by omega
          have hwL : IntKind.i64.wrap (L : Int) = (L : Int) := IntWalk.i64_in _ (by omega)
          have hwHL : IntKind.i64.wrap ((H : Int) + (L : Int)) = (H : Int) + (L : Int) := IntWalk.i64_in _ (by omega)
          have hHL : (0 : Int) ≤ (H : Int) + (L : Int) := by omega
          have hHL2 : (H : Int) + (L : Int) ≤ 2000000 := by omega
          obtain ⟨t, htt⟩ : ∃ t, t = r1.take L := ⟨_, rfl⟩
          have HTT := Lib.hid htt
          rw [← htt] at k1 HE HLt2
          obtain ⟨q9, hq9⟩ : ∃ q, q = (runesL t).2 := ⟨_, rfl⟩
          have HQ9 := Lib.hid hq9
          rw [← hq9] at HE
          clear hcut htt hq9
          go_wp2_with fail
          refine (rdRunes t (by rw [HLt2.out]; omega) w1).mono ?_
          rintro e w2 ⟨rfl, hb2⟩
          rw [← HQ9.out]
          have HB2 := Lib.hid hb2
          obtain ⟨⟨y0, y1, y2, y3, y4⟩, yf⟩ := box0_later (w := w) (HBx.out.trans (hb2.mono hsz1))
          have HW2 : Hid (Below w.heap.size w w2) := HB.out.trans (hb2.mono (by omega))
          have hsz2 := hb2.size
          clear hb2 z0 z1 z2 z3 z4 zf k1 s1
          cases q9
          · have HE2 : Hid (itemN (k + 1) (f :: r) = .error 121) := HE.out
            go_wp2_with fail
            change bodyPost _ _ _ _ _ (put5 w2 w.heap.size (.int .i64 0) (.int .u64 0) (.slice none 0 0) (.string ⟨#[]⟩) (.slice none 0 0))
            obtain ⟨c0, c1, c2, c3, c4⟩ := put5_cells y0 y1 y2 y3 y4 (.int .i64 0) (.int .u64 0) (.slice none 0 0) (.string ⟨#[]⟩) (.slice none 0 0)
            have hP := rdFirst_err (w := w) (w1 := w2) (k := k + 1) (c := 121) (bs := f :: r) HW2.out HE2.out
            generalize put5 w2 w.heap.size (.int .i64 0) (.int .u64 0) (.slice none 0 0) (.string ⟨#[]⟩) (.slice none 0 0) = w9 at *
            exact bodyPost_ret (v := .tuple #[itemV 0 0 [], .int .i64 0, .int .i64 121]) (by simp [results, Tryd.results25, go_sem, itemV, c0, c1, c2, c3, c4]) rfl hP
          · have HE2 : Hid (itemN (k + 1) (f :: r) = .ok (.mk 3 0 [] t [], r1.drop L)) := HE.out.trans (by rw [if_pos rfl, HTT.out])
            go_wp2_with fail
            change bodyPost _ _ _ _ _ (put5 w2 w.heap.size (.int .i64 3) (.int .u64 0) (.slice none 0 0) (.string ⟨t.toArray⟩) (.slice none 0 0))
            obtain ⟨c0, c1, c2, c3, c4⟩ := put5_cells y0 y1 y2 y3 y4 (.int .i64 3) (.int .u64 0) (.slice none 0 0) (.string ⟨t.toArray⟩) (.slice none 0 0)
            have hP := rdFirst_ok (w := w) (w0 := w1) (w1 := w2) (k := k + 1) HW2.out (by omega) HE2.out (itS_plain w2 _ 3 0 t (by decide) ⟨by decide, by decide⟩ (by rw [HLt2.out]; simp only [Sz]; omega)) (N := (H : Int) + (L : Int)) (by rw [List.length_drop]; have := HN.out; have := HRr.out; omega)
            generalize put5 w2 w.heap.size (.int .i64 3) (.int .u64 0) (.slice none 0 0) (.string ⟨t.toArray⟩) (.slice none 0 0) = w9 at *
            exact bodyPost_ret (v := .tuple #[itemV 3 0 t, .int .i64 ((H : Int) + (L : Int)), .int .i64 0]) (by simp [results, Tryd.results25, go_sem, itemV, c0, c1, c2, c3, c4]) rfl hP
        · have HE : Hid (itemN (k + 1) (f :: r) = .error 121) := by
            have h := itemN_text (k := k) HH.out
            rw [textN, Int.toNat_natCast, if_neg (by rw [← HRr.out]; exact hle)] at h
            exact h
          have hld : decide (R < L) = true := by simp; omega
          have hR6 : R ≤ 1000000 := by omega
          clear hle
          go_wp2_with fail
          change bodyPost _ _ _ _ _ (put5 w1 w.heap.size (.int .i64 0) (.int .u64 0) (.slice none 0 0) (.string ⟨#[]⟩) (.slice none 0 0))
          obtain ⟨c0, c1, c2, c3, c4⟩ := put5_cells z0 z1 z2 z3 z4 (.int .i64 0) (.int .u64 0) (.slice none 0 0) (.string ⟨#[]⟩) (.slice none 0 0)
          have hP := rdFirst_err (w := w) (w1 := w1) (k := k + 1) (c := 121) (bs := f :: r) HB.out HE.out
          generalize put5 w1 w.heap.size (.int .i64 0) (.int .u64 0) (.slice none 0 0) (.string ⟨#[]⟩) (.slice none 0 0) = w9 at *
          exact bodyPost_ret (v := .tuple #[itemV 0 0 [], .int .i64 0, .int .i64 121]) (by simp [results, Tryd.results25, go_sem, itemV, c0, c1, c2, c3, c4]) rfl hP
      by_cases m4 : m = 4
      · subst m4
        exact absurd HH.out (H4.out _ _)
      have HE : Hid (itemN (k + 1) (f :: r) = .error 121) := by
        by_cases m7 : m = 7
        · subst m7
          exact (itemN_bare HH.out).trans (headN_bare HH.out HF.out)
        · exact itemN_else HH.out m0 m2 m3 m4 m7
      have hm1 : m = 1 ∨ m = 5 ∨ m = 6 ∨ m = 7 := by omega
      clear m0 m2 m3 m4 hnR hm8
      rcases hm1 with rfl | rfl | rfl | rfl
      all_goals
        go_wp2_with fail
        change bodyPost _ _ _ _ _ (put5 w1 w.heap.size (.int .i64 0) (.int .u64 0) (.slice none 0 0) (.string ⟨#[]⟩) (.slice none 0 0))
        obtain ⟨c0, c1, c2, c3, c4⟩ := put5_cells z0 z1 z2 z3 z4 (.int .i64 0) (.int .u64 0) (.slice none 0 0) (.string ⟨#[]⟩) (.slice none 0 0)
        have hP := rdFirst_err (w := w) (w1 := w1) (k := k + 1) (c := 121) (bs := f :: r) HB.out HE.out
        generalize put5 w1 w.heap.size (.int .i64 0) (.int .u64 0) (.slice none 0 0) (.string ⟨#[]⟩) (.slice none 0 0) = w9 at *
        exact bodyPost_ret (v := .tuple #[itemV 0 0 [], .int .i64 0, .int .i64 121]) (by simp [results, Tryd.results25, go_sem, itemV, c0, c1, c2, c3, c4]) rfl hP
    · obtain ⟨⟨z0, z1, z2, z3, z4⟩, zf⟩ := box0_later (w := w) (hb1.mono (by simp))
      have HB : Hid (Below w.heap.size w w1) := hB0.trans (hb1.mono (by simp))
      have HE : Hid (itemN (k + 1) (f :: r) = .error 121) := itemN_none hh
      clear hb1 hB0 hh
      go_wp2_with fail
      change bodyPost _ _ _ _ _ (put5 w1 w.heap.size (.int .i64 0) (.int .u64 0) (.slice none 0 0) (.string ⟨#[]⟩) (.slice none 0 0))
      obtain ⟨c0, c1, c2, c3, c4⟩ := put5_cells z0 z1 z2 z3 z4 (.int .i64 0) (.int .u64 0) (.slice none 0 0) (.string ⟨#[]⟩) (.slice none 0 0)
      have hP := rdFirst_err (w := w) (w1 := w1) (k := k + 1) (c := 121) (bs := f :: r) HB.out HE.out
      generalize put5 w1 w.heap.size (.int .i64 0) (.int .u64 0) (.slice none 0 0) (.string ⟨#[]⟩) (.slice none 0 0) = w9 at *
      exact bodyPost_ret (v := .tuple #[itemV 0 0 [], .int .i64 0, .int .i64 121]) (by simp [results, Tryd.results25, go_sem, itemV, c0, c1, c2, c3, c4]) rfl hP

end Go.Proofs.YtncemmhbbkpieaaDoor
