/- The document's answer of layer 3, read: first, of a list. -/
import Derived.Test.YtncemmhbbkpieaaDoorCbB2
import Derived.IntWalk
namespace Go.Proofs.YtncemmhbbkpieaaDoor
open Go.RowKit Go.Shelf
set_option linter.unusedSimpArgs false
set_option linter.unusedVariables false

theorem headN_first {f : UInt8} {r r1 : List UInt8} {m : Nat} {n : Int} (h : headN (f :: r) = some (m, n, r1)) : m = f.toNat / 32 := by
  simp only [headN] at h
  split at h
  · injection h with h
    injection h with h _
    exact h.symm
  · generalize (if isW ((2 ^ (f.toNat % 32 - 24) : Nat) : Int) = true then valB (r.take (2 ^ (f.toNat % 32 - 24))) (2 ^ (f.toNat % 32 - 24)) else 0) = y at h
    split at h
    · split at h
      · injection h with h
        injection h with h _
        exact h.symm
      · cases h
    · cases h

set_option maxRecDepth 100000 in
set_option maxHeartbeats 8000000 in
theorem rdFirst_list (k : Nat) (hk : k < 8) (ih : RdFirstAt k) (a : Option Addr) (n c : Nat) (f : UInt8) (r : List UInt8) (w : World) (hn : n = (f :: r).length) (hcc : n ≤ c) (hl : (f :: r).length ≤ 1000000) (hr : RdB w w.heap.size a (f :: r)) (L : Nat) (r1 : List UInt8) (h4 : headN (f :: r) = some (4, (L : Int), r1)) :
    Calls Tryd.prog 25 #[.slice a n c, .int .i64 ((8 - (k + 1) : Nat) : Int)] w (RdFirstP w (k + 1) (f :: r)) := by
  obtain ⟨b, o, rfl, hb, hc⟩ := hr.cell0
  have hf4 := headN_first h4
  have HR := Lib.hid hr
  have IH := Lib.hid ih
  have H4 := Lib.hid h4
  obtain ⟨x, hx⟩ : ∃ x, x = f.toNat := ⟨_, rfl⟩
  rw [← hx] at hc hf4
  obtain ⟨q, hq⟩ : ∃ q, q = 8 - (k + 1) := ⟨_, rfl⟩
  rw [← hq]
  have hq7 : q ≤ 7 := by omega
  have HE8 : Hid ((q : Int) + 1 = ((8 - k : Nat) : Int)) := by simp only [Hid]; omega
  have hn1 : 0 < n := by rw [hn]; simp
  have hn6 : n ≤ 1000000 := by omega
  have HN := Lib.hid hn
  have hx2 : x < 244 := by omega
  clear hn hx hr hq ih hl h4 hf4
  go_enter Tryd.func25, Tryd.ntmps25
  go_wp2_with fail
  have hB0 := below_al (Below.refl w.heap.size w) (.cells #[.int .i64 0, .int .u64 0, .slice none 0 0, .string ⟨#[]⟩, .slice none 0 0] 28)
  refine (rdHead_any _ n c (f :: r) _ HN.out hcc ((HR.out.below hB0).mono hB0.size)).mono ?_
  rintro e w1 ⟨hb1, ⟨m, N, r1', hh, rfl⟩ | ⟨hh, rfl⟩⟩
  · have hh2 := hh.symm.trans H4.out
    injection hh2 with hh2
    injection hh2 with e1 hh2
    injection hh2 with e2 e3
    subst e1 e2 e3
    have HBx := Lib.hid (hb1.mono (show w.heap.size + 1 ≤ _ by simp))
    have hsz1 : w.heap.size + 1 ≤ w1.heap.size := by have := hb1.size; simpa using this
    have HB : Hid (Below w.heap.size w w1) := hB0.trans (hb1.mono (by simp))
    obtain ⟨hd1, hd2, hd3⟩ := headN_drop hh
    obtain ⟨hnu, hm8⟩ := headN_u64 hh
    have hless := headN_less hh
    have HLu := Lib.hid hnu
    obtain ⟨H, hH⟩ : ∃ H, H = (f :: r).length - r1'.length := ⟨_, rfl⟩
    obtain ⟨R, hRr⟩ : ∃ R, R = r1'.length := ⟨_, rfl⟩
    rw [← hH] at hd1 hd2 hd3 ⊢
    have hH0 : ((H : Int) == 0) = false := by simp; omega
    have hHn1 : H + R ≤ n := by have := HN.out; omega
    have hHn2 : n ≤ H + R := by have := HN.out; omega
    have HLen := Lib.hid hH
    have HRr := Lib.hid hRr
    have HD := Lib.hid hd3
    have HI : Hid (∀ c, listN (itemN k) L r1' = .error c → itemN (k + 1) (f :: r) = .error c) := fun c h => itemN_listE H4.out (by rw [Int.toNat_natCast]; exact h)
    have HI2 : Hid (∀ l r2, listN (itemN k) L r1' = .ok (l, r2) → itemN (k + 1) (f :: r) = .ok (.mk 4 0 [] [] l, r2)) := fun l r2 h => itemN_list H4.out (by rw [Int.toNat_natCast]; exact h)
    clear hb1 hB0 hh hnu hH hRr hd3 hd1 hless hm8 H4
    have hLn : L < 18446744073709551616 := by have := HLu.out.2; omega
    clear HLu
    have HLn := Lib.hid hLn
    clear hLn
    obtain ⟨W0, hW0⟩ : ∃ W0, W0 = w1.alloc (.cells #[.int .i64 4, .int .u64 0, .slice none 0 0, .string ⟨#[]⟩, .slice none 0 0] 28) := ⟨_, rfl⟩
    have HW0 := Lib.hid hW0
    have hsW : W0.heap.size = w1.heap.size + 1 := by rw [hW0]; exact World.size_alloc _ _
    have hG1 : w1.heap.size < W0.heap.size := by omega
    have HBW : Hid (Below w.heap.size w W0) := by rw [hW0]; exact below_al HB.out _
    have HBxW : Hid (Below (w.heap.size + 1) (w.alloc (.cells #[.int .i64 0, .int .u64 0, .slice none 0 0, .string ⟨#[]⟩, .slice none 0 0] 28)) W0) := by rw [hW0]; exact HBx.out.alloc (by omega) _
    obtain ⟨G, hG⟩ : ∃ G, G = w1.heap.size := ⟨_, rfl⟩
    have HG := Lib.hid hG
    have HJ0 : Hid (ListJ (itemN k) L (f :: r) r1' W0 w1.heap.size 0 H (.slice none 0 0) W0) := by
      refine ⟨But.refl _ _, ⟨by rw [hW0]; exact box5_new _ _ _ _ _ _ _, fun i => by rw [hW0]; simp⟩, [], [], r1', by have := HN.out; omega, HD.out, World.ownsRow_nil _ _ _ _, rfl, rfl, by rw [behind_nil]; rfl, by simp⟩
    rw [hW0] at HJ0
    clear hW0 hG hsW
    go_wp2_with fail
    rw [← HW0.out] at HJ0 ⊢
    rw [← HG.out] at HJ0 hG1 ⊢
    go_loopw [9, 14] (fun pv i wr => ∃ j p : Nat, j ≤ L ∧ i = .int .u64 j ∧ pv = .int .i64 p ∧ p ≤ n ∧ ∃ v, Hid (ListJ (itemN k) L (f :: r) r1' W0 G j p v wr)) (fun _ i _ => L - (intOf i).toNat)
    case atStart =>
      exact ⟨0, H, Nat.zero_le _, rfl, rfl, by omega, _, HJ0⟩
    case round =>
      obtain ⟨j, p, hj, rfl, rfl, hp, v, HJ⟩ := hrel
      obtain ⟨hbG, hbox, xs, l, r', hp', hdr, hown, hls, hll, hcon, hrj⟩ := HJ.out
      have hlr : r'.length = n - p := by rw [← hdr, List.length_drop, HN.out]
      have hj6 : j ≤ 1000000 := by have := HRr.out; omega
      have HBG := Lib.hid hbG
      have HOW := Lib.hid hown
      have HLS := Lib.hid hls
      have HLL := Lib.hid hll
      have HBr : Hid (Below w.heap.size w wr) := HBW.out.trans (hbG.below (by have := HG.out; omega) (by have := HBW.out.size; omega))
      have HBxr := Lib.hid (HBxW.out.trans (hbG.below (by have := HG.out; omega) (by have := HBxW.out.size; simp at this; omega)))
      have hszr : w.heap.size + 1 ≤ wr.heap.size := by have := HBxr.out.size; simpa using this
      by_cases hlt : j < L
      · have s1 := fun w : World => run_cut1 (P := Tryd.prog) 22 5 Tryd.underlying22 size_u8 (some ⟨b, o, none⟩) n c p hp w
        have hcut : RdB wr wr.heap.size (subA (some ⟨b, o, none⟩) p c) r' := by
          have h := ((HR.out.below HBr.out).mono HBr.out.size).cut p c (n - p) (by omega)
          rw [hdr, List.take_of_length_le (by omega)] at h
          exact h
        have hcall := IH.out (subA (some ⟨b, o, none⟩) p c) (n - p) (c - p) r' wr hlr.symm (by omega) (by omega) hcut
        rw [← HE8.out] at hcall
        have HCall := Lib.hid hcall
        have HDr := Lib.hid hdr
        have HCon := Lib.hid hcon
        have HBx5 := Lib.hid hbox
        have HLr := Lib.hid hlr
        clear hcall hcut hdr hcon hbG hown hls hll hbox hlr HJ
        go_wp2_with fail
        refine HCall.out.mono ?_
        rintro e w2 ⟨hb2, hm⟩
        have HB2 := Lib.hid hb2
        have hsz2 := hb2.size
        clear hb2 s1
        cases hit : itemN k r' with
        | error cc =>
          rw [hit] at hm
          have hm : e = .returned (.tuple #[itemV 0 0 [], .int .i64 0, .int .i64 cc]) := hm
          subst hm
          have hc12 := itemN_err k r' cc hit
          have e1 : ((cc : Int) != 0) = true := by simp; omega
          have e2 : ((cc : Int) == 0) = false := by simp; omega
          have HE : Hid (itemN (k + 1) (f :: r) = .error cc) := by
            apply HI.out
            rw [HCon.out, show L - j = (L - (j + 1)) + 1 by omega, ← HDr.out]
            simp only [listN, HDr.out, hit, behind]
          obtain ⟨⟨y0, y1, y2, y3, y4⟩, yf⟩ := box0_later (w := w) ((HBxr.out.trans (HB2.out.mono (by omega))).alloc (by omega) (.cells #[.int .i64 0, .int .u64 0, .slice none 0 0, .string ⟨#[]⟩, .slice none 0 0] 28))
          have HW2 : Hid (Below w.heap.size w (w2.alloc (.cells #[.int .i64 0, .int .u64 0, .slice none 0 0, .string ⟨#[]⟩, .slice none 0 0] 28))) := below_al (HBr.out.trans (HB2.out.mono (by omega))) _
          clear hit hc12
          unfold itemV
          go_wp2_with fail
          change bodyPost _ _ _ _ _ (put5 (w2.alloc (.cells #[.int .i64 0, .int .u64 0, .slice none 0 0, .string ⟨#[]⟩, .slice none 0 0] 28)) w.heap.size (.int .i64 0) (.int .u64 0) (.slice none 0 0) (.string ⟨#[]⟩) (.slice none 0 0))
          obtain ⟨c0, c1, c2, c3, c4⟩ := put5_cells y0 y1 y2 y3 y4 (.int .i64 0) (.int .u64 0) (.slice none 0 0) (.string ⟨#[]⟩) (.slice none 0 0)
          have hP := rdFirst_err (w := w) (k := k + 1) (c := cc) (bs := f :: r) HW2.out HE.out
          generalize put5 (w2.alloc (.cells #[.int .i64 0, .int .u64 0, .slice none 0 0, .string ⟨#[]⟩, .slice none 0 0] 28)) w.heap.size (.int .i64 0) (.int .u64 0) (.slice none 0 0) (.string ⟨#[]⟩) (.slice none 0 0) = w9 at *
          exact bodyPost_ret (v := .tuple #[itemV 0 0 [], .int .i64 0, .int .i64 cc]) (by simp [results, Tryd.results25, go_sem, itemV, c0, c1, c2, c3, c4]) rfl hP
        | ok pr =>
          obtain ⟨x9, r9⟩ := pr
          rw [hit] at hm
          obtain ⟨v9, rfl, hx9⟩ := hm
          obtain ⟨a', c', A', C', rfl⟩ := hx9.form
          obtain ⟨W2, hW2⟩ : ∃ W2, W2 = w2.alloc (.cells #[.int .i64 x9.k, .int .u64 x9.n, .slice a' x9.b.length c', .string ⟨x9.s.toArray⟩, .slice A' x9.l.length C'] 28) := ⟨_, rfl⟩
          have HWW2 := Lib.hid hW2
          have HX9 := Lib.hid hx9
          obtain ⟨m9, hm9⟩ : ∃ m9, m9 = r'.length - r9.length := ⟨_, rfl⟩
          have hm6 : m9 ≤ 1000000 := by have := HLr.out; omega
          have HIt : Hid (itemN k ((f :: r).drop p) = .ok (x9, r9)) := by rw [Hid, HDr.out]; exact hit
          have HM9 : Hid (m9 = ((f :: r).drop p).length - r9.length) := by rw [Hid, HDr.out]; exact hm9
          have HCon2 : Hid (listN (itemN k) L r1' = behind l (listN (itemN k) (L - j) ((f :: r).drop p))) := by rw [Hid, HDr.out]; exact HCon.out
          have HRj2 : Hid (((f :: r).drop p).length + j ≤ r1'.length) := by rw [Hid, HDr.out]; exact hrj
          have hbW2 : Below wr.heap.size wr W2 := by rw [hW2]; exact below_al HB2.out _
          have hGr : G < wr.heap.size := Nat.lt_of_lt_of_le hG1 HBG.out.size
          have g4 := (HBx5.out.1.later hbW2 hGr).2.2.2.2
          rw [hW2] at g4
          have HO1 : Hid ((W2.alloc (.cells #[.int .i64 x9.k, .int .u64 x9.n, .slice a' x9.b.length c', .string ⟨x9.s.toArray⟩, .slice A' x9.l.length C'] 28)).ownsRow W0.heap.size 28 5 v j xs) := World.ownsRow.alloc (ownsRow_but HOW.out (But.of_below hbW2) hG1) _
          have HM : Hid (∀ j u, [Value.int .i64 x9.k, .int .u64 x9.n, .slice a' x9.b.length c', .string ⟨x9.s.toArray⟩, .slice A' x9.l.length C'][j]? = some u →
              (W2.alloc (.cells #[.int .i64 x9.k, .int .u64 x9.n, .slice a' x9.b.length c', .string ⟨x9.s.toArray⟩, .slice A' x9.l.length C'] 28)).cell? ((⟨W2.heap.size, 0, none⟩ : Addr).add j) = some u) := by
            intro j u hu
            rw [mk_addr_add, Nat.zero_add, World.cell?_alloc_mark]
            simpa using hu
          have hszW2 : W0.heap.size ≤ W2.heap.size + 1 := by have := hbW2.size; have := HBG.out.size; omega
          rw [hW2] at HO1 HM
          clear hit hm9 hx9 hbW2 hW2
          rw [show r'.length - r9.length = m9 from HM9.out.trans (by rw [HDr.out]) |>.symm]
          simp only [World.size_alloc] at HM
          have hp2 : p ≤ (f :: r).length := by rw [← HN.out]; exact hp
          go_wp2_with (at_builtin; refine wpList_app5 _ rfl _ _ 26 rfl W0.heap.size 28 _ 5 80 Tryd.underlying26 info_item rfl (by decide) _ j xs rfl HO1.out ⟨w2.heap.size + 1, 0, none⟩ 1 1 [.int .i64 x9.k, .int .u64 x9.n, .slice a' x9.b.length c', .string ⟨x9.s.toArray⟩, .slice A' x9.l.length C'] rfl rfl HM.out (by intro u hu; simp at hu; rcases hu with rfl | rfl | rfl | rfl | rfl <;> rfl) (by unfold maxLen; omega) (by omega) (by rw [World.size_alloc, ← HWW2.out]; exact hszW2) ?_; intro v' w4 h2 h3 h5; obtain ⟨A9, n9, C9, rfl⟩ := ownsRow_slice h2; rw [← HWW2.out] at h3 h5; obtain ⟨HJ2, ⟨g5, gf⟩, hpm⟩ := ListJ.step hG1 hlt HBG.out HBx5.out hp2 HOW.out HLS.out HLL.out HCon2.out HRj2.out HIt.out HM9.out HB2.out HX9.out HWW2.out h2 h3 h5; clear h2 h3 h5)
          go_roundw
          case rel => exact ⟨j + 1, p + m9, by omega, by go_num, by go_num, by rw [HN.out]; exact hpm, _, HJ2⟩
          case measure => simp [intOf]; omega
      · obtain rfl : j = L := by omega
        have hcon2 : listN (itemN k) j r1' = .ok (l, r') := by
          rw [hcon, Nat.sub_self]
          simp [listN, behind]
        have HE := Lib.hid (HI2.out l r' hcon2)
        have hpr : p + r'.length = n := by omega
        obtain ⟨A, C, rfl, hjC, hlA⟩ : ∃ A C, v = .slice A j C ∧ j ≤ C ∧ (l = [] ∨ ∃ gg o, A = some ⟨gg, o, none⟩ ∧ newB w1 wr gg ∧ ItSL wr (newB w1 wr) gg o l) := by
          have hnb : ∀ b, newB W0 wr b → newB w1 wr b := fun b hb => ⟨by have := hb.1; have := HG.out; omega, hb.2⟩
          rcases HOW.out.2 with ⟨rfl, h0⟩ | ⟨gg, cp, cur, rfl, hb0, hg, hn9, hm9, hs9, htk⟩
          · have h0' : j = 0 := h0
            refine ⟨none, 0, by rw [h0'], by omega, .inl (List.eq_nil_of_length_eq_zero (by rw [HLL.out]; exact h0'))⟩
          · have hlt9 := (Array.getElem?_eq_some_iff.1 hg).1
            refine ⟨some ⟨gg, 0, none⟩, cp, rfl, hn9, .inr ⟨gg, 0, rfl, hnb gg ⟨hb0, hlt9⟩, ?_⟩⟩
            refine ItSL.more (fun b hb => hnb b hb.1) l (LS.itSL HLS.out fun i u hi => ?_)
            have h1 : wr.cell? ⟨gg, 0 + i, none⟩ = cur[i]? := by simp [World.cell?, hg]
            rw [h1]
            have hil : i < xs.length := (List.getElem?_eq_some_iff.1 hi).1
            rw [← htk, List.getElem?_take] at hi
            split at hi
            · simpa using hi
            · cases hi
        have hx0 : ItS wr (newB w1 wr) (.agg #[.int .i64 4, .int .u64 0, .slice none 0 0, .string ⟨#[]⟩, .slice A j C]) (.mk 4 0 [] [] l) := by
          simp only [ItS]
          exact ⟨A, ⟨none, 0, C, by rw [HLL.out]; rfl, ⟨Nat.le_refl _, by rw [HLL.out]; exact hjC⟩, .inl rfl, ⟨by decide, by decide⟩, by decide, Nat.zero_le _, Nat.zero_le _, by rw [HLL.out]; simp only [Sz]; omega⟩, hlA⟩
        have HX0 := Lib.hid hx0
        obtain ⟨⟨y0, y1, y2, y3, y4⟩, yf⟩ := box0_later (w := w) HBxr.out
        obtain ⟨x0, x1, x2, x3, x4⟩ := hbox.1
        have HNn := Lib.hid hpr
        clear hcon hcon2 hdr hown hls hll hbox HJ hbG hlA hx0 hlr hpr
        go_wp2_with fail
        change bodyPost _ _ _ _ _ (put5 wr w.heap.size (.int .i64 4) (.int .u64 0) (.slice none 0 0) (.string ⟨#[]⟩) (.slice A j C))
        obtain ⟨c0, c1, c2, c3, c4⟩ := put5_cells y0 y1 y2 y3 y4 (.int .i64 4) (.int .u64 0) (.slice none 0 0) (.string ⟨#[]⟩) (.slice A j C)
        have hP := rdFirst_ok (w := w) (w0 := w1) (w1 := wr) (k := k + 1) HBr.out (by omega) HE.out HX0.out (N := (p : Int)) (by have := HN.out; have := HNn.out; omega)
        generalize put5 wr w.heap.size (.int .i64 4) (.int .u64 0) (.slice none 0 0) (.string ⟨#[]⟩) (.slice A j C) = w9 at *
        exact bodyPost_ret (v := .tuple #[.agg #[.int .i64 4, .int .u64 0, .slice none 0 0, .string ⟨#[]⟩, .slice A j C], .int .i64 p, .int .i64 0]) (by simp [results, Tryd.results25, go_sem, c0, c1, c2, c3, c4]) rfl hP
  · exact absurd (hh.symm.trans H4.out) (by simp)

end Go.Proofs.YtncemmhbbkpieaaDoor
