/- BlockHolds, walked. -/
import Derived.Test.YtpffmpjdkpfpmaaGreatDoorZBlE
import Derived.Test.YtpffmpjdkpfpmaaGreatDoorZBm
import Derived.Test.YtpffmpjdkpfpmaaGreatDoorZMc
namespace Go.Proofs.YtpffmpjdkpfpmaaGreatDoor
open Go Go.RowKit Go.Shelf
set_option linter.unusedSimpArgs false
set_option linter.unusedVariables false
set_option maxRecDepth 100000

attribute [local go_sem] Oper.semAt_some

theorem newX_rd {w w' : World} {A : Option Addr} {zs : List Cr} (h : NewX w w' A zs) : RdX w' w'.heap.size A zs := by
  rcases h with h | ⟨g, rfl, h1, h2, h3⟩
  · exact .inl h
  · exact RowX.rd h3 h2

theorem extrasE_not {e : Ex} {k : Int} (h : ¬ extrasE e k = .error 2) : isK k = true ∧ rightEx e = true := by
  by_cases hk : isK k = true
  · refine ⟨hk, ?_⟩
    cases hr : rightEx e with
    | true => rfl
    | false =>
      exfalso
      apply h
      rw [extrasE, if_pos hk, blocksE_no k hr]
  · exfalso
    apply h
    rw [extrasE, if_neg hk]

/-- Bytes of which one bit is another one are not read. -/
theorem bdecodeFlip (p : Bl) (hr : rightB p = true) (hs : p.s ≠ 0) (G C i j x : Nat) (ss : List UInt8) (hss : ss = encK p p.s.toNat) (w : World) (base : Nat) (e : TypeId) (ho : OwnV w base e (.slice (some ⟨G, 0, none⟩) ss.length C) (ss.map encB))
    (hi : i < ss.length) (hj : j < 8) (hx : x = (ss[i]?.getD 0).toNat) (hlen : ss.length ≤ 1000000) (hC : ss.length ≤ C) (ht : TabW (w.setCell ⟨G, i, none⟩ (.int .u8 (bits .xor .u8 (x : Int) (2 ^ j % 256))))) :
    Calls Tryz.prog 16 #[.slice (some ⟨G, 0, none⟩) ss.length C] (w.setCell ⟨G, i, none⟩ (.int .u8 (bits .xor .u8 (x : Int) (2 ^ j % 256)))) fun e w' =>
      (∃ c : Int, c ≠ 0 ∧ e = .returned (.tuple #[.agg #[.int .u64 0, .int .u64 0, .int .i64 0, .slice none 0 0], .int .i64 c])) ∧ Below (w.setCell ⟨G, i, none⟩ (.int .u8 (bits .xor .u8 (x : Int) (2 ^ j % 256)))).heap.size (w.setCell ⟨G, i, none⟩ (.int .u8 (bits .xor .u8 (x : Int) (2 ^ j % 256)))) w' := by
  have hx2 : x < 256 := by rw [hx]; exact UInt8.toNat_lt _
  have hlt : x ^^^ 2 ^ j < 2 ^ 8 := Nat.xor_lt_two_pow (by omega) (by
    have := Nat.pow_lt_pow_right (a := 2) (by omega) hj
    omega)
  have hy : (UInt8.ofNat (x ^^^ 2 ^ j)).toNat = x ^^^ 2 ^ j := by
    rw [UInt8.toNat_ofNat']
    exact Nat.mod_eq_of_lt (by omega)
  have hv : Value.int .u8 (bits .xor .u8 (x : Int) (2 ^ j % 256)) = encB (UInt8.ofNat (x ^^^ 2 ^ j)) := by
    rw [flip_val hx2 hj, encB, hy]
  rw [hv] at ht ⊢
  have hp9 := ho.put (i := i) (encB (UInt8.ofNat (x ^^^ 2 ^ j)))
  rw [← List.map_set] at hp9
  have hrd := RdB.of_own hp9
  refine (blkDecode_any (some ⟨G, 0, none⟩) ss.length C (ss.set i (UInt8.ofNat (x ^^^ 2 ^ j))) (by simp) _ hrd hC (by rw [List.length_set]; omega) ht).mono ?_
  rintro e w' ⟨hb, hm⟩
  refine ⟨?_, hb⟩
  rw [hss] at hi hx hm
  obtain ⟨c, hc, he⟩ := rdByB_flip p hr hs hi hj (y := UInt8.ofNat (x ^^^ 2 ^ j)) (by rw [hy, hx])
  rw [he] at hm
  exact ⟨c, hc, hm⟩

theorem errB_zero {b : Bl} (h : errB b = 0) : rightB b = true ∧ (zeroK b b.s.toNat).err = 0 := by
  unfold errB at h
  split at h
  · exact ⟨‹_›, h⟩
  · cases h

set_option maxHeartbeats 16000000 in
theorem walk_bholds (x : LB) (hok : x.b.ok) (hrd : ∀ w', RdLB w' w'.heap.size x → True) (bit : Int) (hbit : (Lit.int .i64 bit).wf = true) (e : Ex) (A : Option Addr) (C : Nat) (w : World) (hx : RdLB w w.heap.size x)
    (hn : e.n ≤ 4294967295) (hm : e.m ≤ 4294967295) (hg : e.g < 18446744073709551616) (hl : e.l ≤ 255) (hc : e.c ≤ 255) (hC : e.xs.length ≤ C) (hxl : e.xs.length ≤ 140737488351232) (hr : RdX w w.heap.size A e.xs) (ht : TabW w) :
    Calls Tryz.prog 7 #[.agg #[.int .u64 x.b.t, .int .u64 x.b.n, .int .i64 x.b.s, .slice x.a x.b.d.length x.c], .int .i64 bit, .agg #[.int .u32 e.n, .int .u32 e.m, .int .u64 e.g, .int .u8 e.l, .int .u8 e.c, .bool e.b, .slice A e.xs.length C]] w fun e w' => e = .returned (.bool true) ∧ Below w.heap.size w w' := by
  obtain ⟨W1, hW1⟩ : ∃ W, W = w.alloc (.cells #[.int .u64 x.b.t, .int .u64 x.b.n, .int .i64 x.b.s, .slice x.a x.b.d.length x.c] 26) := ⟨_, rfl⟩
  obtain ⟨W, hW⟩ : ∃ W, W = W1.alloc (.cells #[.int .u32 e.n, .int .u32 e.m, .int .u64 e.g, .int .u8 e.l, .int .u8 e.c, .bool e.b, .slice A e.xs.length C] 46) := ⟨_, rfl⟩
  have s1 : W1.heap.size = w.heap.size + 1 := by rw [hW1]; simp
  have hb1 : Below w.heap.size w W1 := by rw [hW1]; exact below_al (Below.refl _ _) _
  have hb2 : Below W1.heap.size W1 W := by rw [hW]; exact below_al (Below.refl _ _) _
  have HB0 : Hid (Below w.heap.size w W) := below_on hb1 hb2
  have HX : Hid (∀ w', Below W.heap.size W w' → (w'.cell? ⟨w.heap.size, 0, none⟩ = some (.int .u64 x.b.t) ∧ w'.cell? ⟨w.heap.size, 1, none⟩ = some (.int .u64 x.b.n) ∧ w'.cell? ⟨w.heap.size, 2, none⟩ = some (.int .i64 x.b.s) ∧ w'.cell? ⟨w.heap.size, 3, none⟩ = some (.slice x.a x.b.d.length x.c)) ∧ (w'.cell? ⟨w.heap.size + 1, 0, none⟩ = some (.int .u32 e.n) ∧ w'.cell? ⟨w.heap.size + 1, 1, none⟩ = some (.int .u32 e.m) ∧ w'.cell? ⟨w.heap.size + 1, 2, none⟩ = some (.int .u64 e.g) ∧ w'.cell? ⟨w.heap.size + 1, 3, none⟩ = some (.int .u8 e.l) ∧ w'.cell? ⟨w.heap.size + 1, 4, none⟩ = some (.int .u8 e.c) ∧ w'.cell? ⟨w.heap.size + 1, 5, none⟩ = some (.bool e.b) ∧ w'.cell? ⟨w.heap.size + 1, 6, none⟩ = some (.slice A e.xs.length C))) := fun w' h => by
    have r1 := (RowB.new w [.int .u64 x.b.t, .int .u64 x.b.n, .int .i64 x.b.s, .slice x.a x.b.d.length x.c] 26).on (by rw [← hW1]; exact below_on hb2 h) (by simp)
    have r2 := (RowB.new W1 [.int .u32 e.n, .int .u32 e.m, .int .u64 e.g, .int .u8 e.l, .int .u8 e.c, .bool e.b, .slice A e.xs.length C] 46).on (by rw [← hW]; exact h) (by simp)
    rw [s1] at r2
    exact ⟨⟨r1.1 0 _ rfl, r1.1 1 _ rfl, r1.1 2 _ rfl, r1.1 3 _ rfl⟩, r2.1 0 _ rfl, r2.1 1 _ rfl, r2.1 2 _ rfl, r2.1 3 _ rfl, r2.1 4 _ rfl, r2.1 5 _ rfl, r2.1 6 _ rfl⟩
  have HT : Hid (∀ w', Below w.heap.size w w' → TabW w') := fun w' h => ht.on h
  have HW : Hid (W = (w.alloc (.cells #[.int .u64 x.b.t, .int .u64 x.b.n, .int .i64 x.b.s, .slice x.a x.b.d.length x.c] 26)).alloc (.cells #[.int .u32 e.n, .int .u32 e.m, .int .u64 e.g, .int .u8 e.l, .int .u8 e.c, .bool e.b, .slice A e.xs.length C] 46)) := by rw [← hW1]; exact hW
  have HS0 : Hid (w.heap.size + 2 ≤ W.heap.size) := by rw [Hid, hW]; simp; omega
  have HOk := Lib.hid hok
  have HRX := Lib.hid hr
  have HCX := Lib.hid hC
  have HRB := Lib.hid hx
  have HEx := Lib.hid (fun h => extrasE_not (e := e) (k := x.b.s) h)
  clear hW hW1 s1 hb1 hb2 ht hok hr hrd hbit hx
  obtain ⟨⟨x0, x1, x2, x3⟩, z0, z1, z2, z3, z4, z5, z6⟩ := HX.out W (Below.refl _ _)
  rw [HW.out] at x0 x1 x2 x3 z0 z1 z2 z3 z4 z5 z6
  by_cases h5 : 500 < x.b.d.length
  · have d5 : (500 : Int) < (x.b.d.length : Int) := by omega
    go_enter Tryz.func7, Tryz.ntmps7
    go_wp2_with fail
    rw [← HW.out]
    refine (bworks_any _ (HT.out _ HB0.out)).mono ?_
    rintro e9 w9 ⟨rfl, hb9⟩
    have HB9 := Lib.hid (below_on HB0.out hb9)
    clear hb9
    go_wp2_with fail
    go_ret
    exact ⟨rfl, HB9.out⟩
  have d5 : ¬ (500 : Int) < (x.b.d.length : Int) := by omega
  have HD5 : Hid (x.b.d.length ≤ 500) := by rw [Hid]; omega
  clear h5
  by_cases h1 : 100 < e.xs.length
  · have d1 : (100 : Int) < (e.xs.length : Int) := by omega
    go_enter Tryz.func7, Tryz.ntmps7
    go_wp2_with fail
    rw [← HW.out]
    refine (bworks_any _ (HT.out _ HB0.out)).mono ?_
    rintro e9 w9 ⟨rfl, hb9⟩
    have HB9 := Lib.hid (below_on HB0.out hb9)
    clear hb9
    go_wp2_with fail
    go_ret
    exact ⟨rfl, HB9.out⟩
  have d1 : ¬ (100 : Int) < (e.xs.length : Int) := by omega
  have HF : Hid e.fit := ⟨hn, hm, hg, hl, hc, by omega⟩
  clear h1 hn hm hg hl hc hxl hC
  go_enter Tryz.func7, Tryz.ntmps7
  go_wp2_with fail
  rw [← HW.out]
  clear x0 x1 x2 x3 z0 z1 z2 z3 z4 z5 z6 d5 d1
  refine (blkEncode_any x.b x.a x.c HOk.out W ((HRB.out.2.2.below HB0.out).mono HB0.out.size) HRB.out.1 HRB.out.2.1 (HT.out W HB0.out)).mono ?_
  rintro e0 w1 ⟨hb1, ⟨he, u, rfl, hown⟩ | ⟨he, rfl⟩⟩
  rotate_left
  · have HB1 := Lib.hid hb1
    have hne : ((errB x.b : Int) == 0) = false := by simp; omega
    generalize errB x.b = z at *
    clear hb1 he
    go_wp2_with fail
    refine (bnum8_any z _).mono ?_
    rintro e9 w9 ⟨rfl, h9⟩
    rw [← h9]
    clear h9 w9

    go_upto_region 13 with fail
    have HBw : Hid (Below w.heap.size w w1) := below_on HB0.out HB1.out
    obtain ⟨⟨x0, x1, x2, x3⟩, z0, z1, z2, z3, z4, z5, z6⟩ := HX.out w1 HB1.out
    go_wp2_with fail
    clear x0 x1 x2 x3 z0 z1 z2 z3 z4 z5 z6
    refine (extras_any e A C x.b.s HF.out w1 ((HRX.out.on HB0.out).on HB1.out) HCX.out (HT.out w1 HBw.out)).mono ?_
    rintro e1 wa ⟨hba, hm⟩
    have HBa := Lib.hid (below_on HB1.out hba)
    have HBwa : Hid (Below w.heap.size w wa) := below_on HB0.out HBa.out
    by_cases hg : extrasE e x.b.s = .error 2
    · rw [hg] at hm
      have hm : e1 = .returned (.tuple #[.slice none 0 0, .int .i64 2]) := hm
      subst hm
      clear hba hg
      go_wp2_with fail
      refine (bnum8_any 2 _).mono ?_
      rintro e9 w9 ⟨rfl, h9⟩
      rw [← h9]
      clear h9 w9
      go_wp2_with fail
      refine (bnum8_any 2 _).mono ?_
      rintro e9 w9 ⟨rfl, h9⟩
      rw [← h9]
      clear h9 w9
      go_wp2_with fail
      refine (bworks_any _ (HT.out _ HBwa.out)).mono ?_
      rintro e9 w9 ⟨rfl, hb9⟩
      have HB9 := Lib.hid (below_on HBwa.out hb9)
      clear hb9
      go_wp2_with fail
      go_ret
      exact ⟨rfl, HB9.out⟩
    obtain ⟨hk, hr⟩ := HEx.out hg
    rw [extrasE, if_pos hk, blocksE_yes _ hr] at hm
    obtain ⟨v, rfl, hls⟩ := hm
    obtain ⟨A2, C2, ys, rfl, hC2, hmy, hrd⟩ := hls.rd
    have hy4 : ys.length ≤ 4 := by rw [← List.length_map (f := LB.b), hmy]; exact blocksE_len (blocksE_yes x.b.s hr)
    have HOf := Lib.hid (of_back e hk HF.out hr)
    have HKo := Lib.hid (blkOf_any ys A2 C2 wa hrd hC2 (by omega) (HT.out wa HBwa.out))
    rw [hmy] at HKo
    clear hba hg hk hr hls hrd hC2 hmy hy4
    go_wp2_with fail
    refine (bnum8_any 0 _).mono ?_
    rintro e9 w9 ⟨rfl, h9⟩
    rw [← h9]
    clear h9 w9
    go_wp2_with fail
    refine HKo.out.mono ?_
    rintro e2 wb ⟨hbb, hm⟩
    rw [HOf.out] at hm
    obtain ⟨A3, C3, rfl, hC3, hnx⟩ := hm
    obtain ⟨wq, hwq⟩ : ∃ wq, wq = wb.alloc (.cells #[.int .u32 e.n, .int .u32 e.m, .int .u64 e.g, .int .u8 e.l, .int .u8 e.c, .bool e.b, .slice A3 e.xs.length C3] 46) := ⟨_, rfl⟩
    have hbc : Below wb.heap.size wb wq := by rw [hwq]; exact below_al (Below.refl _ _) _
    have hRc : RowB wq wb.heap.size [.int .u32 e.n, .int .u32 e.m, .int .u64 e.g, .int .u8 e.l, .int .u8 e.c, .bool e.b, .slice A3 e.xs.length C3] := by rw [hwq]; exact RowB.new wb _ _
    have HBc := Lib.hid (below_on HBa.out (below_on hbb hbc))
    have HBwc : Hid (Below w.heap.size w wq) := below_on HB0.out HBc.out
    have HNx : Hid (RdX wq wq.heap.size A3 e.xs) := (newX_rd hnx).on hbc
    have HC3 := Lib.hid hC3
    obtain ⟨⟨_, _, _, _⟩, z0, z1, z2, z3, z4, z5, z6⟩ := HX.out wq HBc.out
    have y0 := hRc.1 0 _ rfl
    have y1 := hRc.1 1 _ rfl
    have y2 := hRc.1 2 _ rfl
    have y3 := hRc.1 3 _ rfl
    have y4 := hRc.1 4 _ rfl
    have y5 := hRc.1 5 _ rfl
    have y6 := hRc.1 6 _ rfl
    have HRc := Lib.hid hRc
    rw [hwq] at y0 z0 y1 z1 y2 z2 y3 z3 y4 z4 y5 z5 y6 z6
    have HWc := Lib.hid hwq
    clear hbb hbc hRc hwq hnx hC3
    go_wp2_with fail
    rw [← HWc.out]
    rw [← HWc.out] at y0 z0
    rw [← HWc.out] at y1 z1
    rw [← HWc.out] at y2 z2
    rw [← HWc.out] at y3 z3
    rw [← HWc.out] at y4 z4
    rw [← HWc.out] at y5 z5
    rw [← HWc.out] at y6 z6
    refine (bnum8_any 0 _).mono ?_
    rintro e9 w9 ⟨rfl, h9⟩
    rw [← h9]
    clear h9 w9
    go_wp2_with fail
    refine (sameEx_any e e A A3 C C3 wq ((HRX.out.on HB0.out).on HBc.out) HNx.out HCX.out HC3.out HF.out.xs HF.out.xs).mono ?_
    rintro e3 wd ⟨rfl, hbd⟩
    rw [(sameEx_iff e e).2 rfl]
    have HBd := Lib.hid (below_on HBwc.out hbd)
    clear hbd y0 z0 y1 z1 y2 z2 y3 z3 y4 z4 y5 z5 y6 z6
    go_wp2_with fail
    refine (bworks_any _ (HT.out _ HBd.out)).mono ?_
    rintro e9 w9 ⟨rfl, hb9⟩
    have HB9 := Lib.hid (below_on HBd.out hb9)
    clear hb9
    go_wp2_with fail
    go_ret
    exact ⟨rfl, HB9.out⟩
  obtain ⟨hrt, hze⟩ := errB_zero he
  obtain ⟨ss, hss⟩ : ∃ ss, ss = encK x.b x.b.s.toNat := ⟨_, rfl⟩
  have hrd := rdByB_enc HOk.out hrt hze
  have hlen : ss.length ≤ 65536 := by
    rw [hss, encK_len]
    exact zeroK_err.1 hze
  have hpos : 0 < ss.length := by
    rw [hss, encK_eq, List.length_append]
    have h1 : 1 ≤ (preK x.b x.b.s.toNat).length := by
      unfold preK
      split
      · rw [List.length_append]
        have := (head_length 4 (4 : Nat)).1
        omega
      · rw [List.length_append]
        have := (head_length 4 (5 : Nat)).1
        omega
    omega
  rw [← hss] at hown hrd
  obtain ⟨G, Cu, rfl, hG1, hG2⟩ : ∃ G C, u = .slice (some ⟨G, 0, none⟩) ss.length C ∧ W.heap.size ≤ G ∧ G < w1.heap.size := by
    rcases hown.form with ⟨_, h⟩ | ⟨g, cap, h, hg1, hg2, _⟩
    · have := congrArg List.length h
      simp at this
      rw [this] at hpos
      simp at hpos
    · rw [List.length_map] at h
      exact ⟨g, cap, h, hg1, hg2⟩
  have hCu : ss.length ≤ Cu := by
    obtain ⟨A9, C9, h1, h2, _, _⟩ := hown.bytes
    injection h1 with _ _ h3
    omega
  obtain ⟨Ln, hL⟩ : ∃ L, L = ss.length := ⟨_, rfl⟩
  have HO := Lib.hid hown
  have HRd := Lib.hid hrd
  have HR := Lib.hid hrt
  have HSS := Lib.hid hss
  have HB1 := Lib.hid hb1
  have HCu := Lib.hid hCu
  have HLn := Lib.hid hL
  have HG := Lib.hid (show W.heap.size ≤ G ∧ G < w1.heap.size from ⟨hG1, hG2⟩)
  have hL6 : Ln ≤ 65536 := by omega
  rw [← hL]
  clear hown hrd hrt hze hss hb1 hlen hpos hCu hL hG1 hG2 he
  go_wp2_with fail
  refine (bnum8_any 0 _).mono ?_
  rintro e9 w9 ⟨rfl, h9⟩
  rw [← h9]
  clear h9 w9
  go_upto_if 35 with fail
  go_cut [9] from 10 to 85 (fun v9 wx => Hid (Below W.heap.size W wx))
  case first =>
    go_wp2_with fail
    refine (blkDecode_any (some ⟨G, 0, none⟩) Ln Cu ss HLn.out w1 (RdB.of_own HO.out) (by have := HCu.out; have := HLn.out; omega) (by have := HLn.out; omega) (HT.out w1 (below_on HB0.out HB1.out))).mono ?_
    rintro e1 w2 ⟨hb2, hm⟩
    rw [HRd.out] at hm
    obtain ⟨v, rfl, a2, c2, rfl, hc2, _, hr2⟩ := hm
    obtain ⟨w3, hw3⟩ : ∃ w3, w3 = w2.alloc (.cells #[.int .u64 x.b.t, .int .u64 x.b.n, .int .i64 x.b.s, .slice a2 x.b.d.length c2] 26) := ⟨_, rfl⟩
    have hb3 : Below w2.heap.size w2 w3 := by rw [hw3]; exact below_al (Below.refl _ _) _
    have HB3 := Lib.hid (below_on HB1.out (below_on hb2 hb3))
    have HBw3 : Hid (Below w.heap.size w w3) := below_on HB0.out HB3.out
    have HQ : Hid (RowB w3 w2.heap.size [.int .u64 x.b.t, .int .u64 x.b.n, .int .i64 x.b.s, .slice a2 x.b.d.length c2]) := by rw [hw3]; exact RowB.new w2 _ _
    have HRq : Hid (RdB w3 w3.heap.size a2 x.b.d) := ((hr2.rdB fun j hj => hj.2).below hb3).mono hb3.size
    have HO3 : Hid (OwnV w3 W.heap.size 5 (.slice (some ⟨G, 0, none⟩) ss.length Cu) (ss.map encB)) := OwnV.later HO.out (below_on hb2 hb3)
    have HG3 : Hid (G < w2.heap.size ∧ w2.heap.size < w3.heap.size) := ⟨Nat.lt_of_lt_of_le HG.out.2 hb2.size, by rw [hw3]; simp⟩
    obtain ⟨⟨x0, x1, x2, x3⟩, _⟩ := HX.out w3 HB3.out
    have y0 := HQ.out.1 0 _ rfl
    have y1 := HQ.out.1 1 _ rfl
    have y2 := HQ.out.1 2 _ rfl
    have y3 := HQ.out.1 3 _ rfl
    rw [hw3] at x0 x1 x2 x3 y0 y1 y2 y3
    have HW3 := Lib.hid hw3
    clear hb2 hb3 hw3 hr2 hc2
    go_wp2_with fail
    rw [← HW3.out]
    rw [← HW3.out] at x0 x1 x2 x3 y0 y1 y2 y3
    refine (bnum8_any 0 _).mono ?_
    rintro e9 w9 ⟨rfl, h9⟩
    rw [← h9]
    clear h9 w9
    go_wp2_with fail
    refine (bsame_any x.b x.b x.a a2 x.c c2 w3 ((HRB.out.2.2.below HBw3.out).mono HBw3.out.size) HRq.out).mono ?_
    rintro e2 w4 ⟨rfl, hb4⟩
    rw [(sameB_iff x.b x.b).2 rfl]
    have HB4 := Lib.hid (below_on HB3.out hb4)
    have HO4 : Hid (OwnV w4 W.heap.size 5 (.slice (some ⟨G, 0, none⟩) ss.length Cu) (ss.map encB)) := OwnV.later HO3.out hb4
    have HG4 : Hid (G < w4.heap.size) := by have h1 := HG3.out; have h2 := hb4.size; rw [Hid]; omega
    have HBw4 : Hid (Below w.heap.size w w4) := below_on HB0.out HB4.out
    obtain ⟨⟨_, _, z2, _⟩, _⟩ := HX.out w4 HB4.out
    have hmul : IntKind.i64.wrap (8 * (Ln : Int)) = 8 * (Ln : Int) := IntWalk.i64_in _ (by omega)
    clear hb4 x0 x1 x2 x3 y0 y1 y2 y3
    have hh : x.b.s = 0 ∨ (¬ x.b.s = 0 ∧ bit < 0) ∨ (¬ x.b.s = 0 ∧ ¬ bit < 0 ∧ 8 * (Ln : Int) ≤ bit) ∨ (¬ x.b.s = 0 ∧ ¬ bit < 0 ∧ ¬ 8 * (Ln : Int) ≤ bit) := by omega
    rcases hh with g1 | ⟨g1, g2⟩ | ⟨g1, g2, g3⟩ | ⟨g1, g2, g3⟩
    · have d1 : (x.b.s != 0) = false := by rw [g1]; rfl
      clear g1
      go_wp2_with fail
      go_meet
      case rel => exact HB4.out
    · have d1 : (x.b.s != 0) = true := by simp [g1]
      have d2 : ¬ (0 : Int) ≤ bit := by omega
      clear g1
      go_wp2_with fail
      go_meet
      case rel => exact HB4.out
    · have d1 : (x.b.s != 0) = true := by simp [g1]
      have d2 : (0 : Int) ≤ bit := by omega
      have d3 : ¬ bit < 8 * (Ln : Int) := by omega
      clear g1
      go_wp2_with fail
      go_meet
      case rel => exact HB4.out
    · have d1 : (x.b.s != 0) = true := by simp [g1]
      have d2 : (0 : Int) ≤ bit := by omega
      have d3 : bit < 8 * (Ln : Int) := by omega
      obtain ⟨t, rfl⟩ := Int.eq_ofNat_of_zero_le (a := bit) (by omega)
      obtain ⟨i, hi⟩ : ∃ i, i = t / 8 := ⟨_, rfl⟩
      obtain ⟨j, hj⟩ : ∃ j, j = t % 8 := ⟨_, rfl⟩
      have hil : i < Ln := by omega
      have hj8 : j < 8 := by omega
      have hq : (t : Int) / 8 = (i : Int) := by omega
      have hm2 : (t : Int) % 8 = (j : Int) := by omega
      have ht0 : (0 : Int) ≤ (t : Int) := by omega
      have htb : (t : Int) < 1000000 := by omega
      have HI := Lib.hid hi
      have HJ := Lib.hid hj
      have HNz := Lib.hid g1
      clear hi hj g2 g3
      obtain ⟨b0, hx⟩ : ∃ x, x = (ss[i]?.getD 0).toNat := ⟨_, rfl⟩
      have hx2 : b0 < 256 := by rw [hx]; exact UInt8.toNat_lt _
      have hcx : w4.cell? ⟨G, i, none⟩ = some (.int .u8 b0) := by
        rw [hx]
        exact own_cell HO4.out i (by rw [← HLn.out]; exact hil)
      have hfz : w4.frozen? ⟨G, i, none⟩ = false := own_frozen HO4.out i
      have HXx := Lib.hid hx
      clear hx g1
      go_wp2_with fail
      obtain ⟨w5, hw5⟩ : ∃ w5, w5 = w4.setCell ⟨G, i, none⟩ (.int .u8 (bits .xor .u8 (b0 : Int) (2 ^ j % 256))) := ⟨_, rfl⟩
      have HB5 : Hid (Below W.heap.size W w5) := by
        rw [hw5]
        exact HB4.out.setCell (p := ⟨G, i, none⟩) HG.out.1 _
      have HK := Lib.hid (bdecodeFlip x.b HR.out HNz.out G Cu i j b0 ss HSS.out w4 _ _ HO4.out (by rw [← HLn.out]; exact hil) hj8 HXx.out (by rw [← HLn.out]; omega) HCu.out (by rw [← hw5]; exact HT.out w5 (below_on HB0.out HB5.out)))
      rw [← hw5] at HK ⊢
      clear hcx hfz hw5 z2
      have hk := HK.out
      rw [← HLn.out] at hk
      refine hk.mono ?_
      rintro e3 w6 ⟨⟨c, hc0, rfl⟩, hb6⟩
      have hcb : (c == 0) = false := by simp [hc0]
      have HB6 := Lib.hid (below_on HB5.out hb6)
      clear hk hb6
      go_wp2_with fail
      refine (bnum8_any c _).mono ?_
      rintro e9 w9 ⟨rfl, h9⟩
      rw [← h9]
      clear h9 w9
      go_wp2_with fail
      go_meet
      case rel => exact below_al HB6.out _
  case rest =>
  have HBx := Lib.hid hcut.out
  clear hcut
  have HBw : Hid (Below w.heap.size w wc) := below_on HB0.out HBx.out
  obtain ⟨⟨x0, x1, x2, x3⟩, z0, z1, z2, z3, z4, z5, z6⟩ := HX.out wc HBx.out
  go_wp2_with fail
  clear x0 x1 x2 x3 z0 z1 z2 z3 z4 z5 z6
  refine (extras_any e A C x.b.s HF.out wc ((HRX.out.on HB0.out).on HBx.out) HCX.out (HT.out wc HBw.out)).mono ?_
  rintro e1 wa ⟨hba, hm⟩
  have HBa := Lib.hid (below_on HBx.out hba)
  have HBwa : Hid (Below w.heap.size w wa) := below_on HB0.out HBa.out
  by_cases hg : extrasE e x.b.s = .error 2
  · rw [hg] at hm
    have hm : e1 = .returned (.tuple #[.slice none 0 0, .int .i64 2]) := hm
    subst hm
    clear hba hg
    go_wp2_with fail
    refine (bnum8_any 2 _).mono ?_
    rintro e9 w9 ⟨rfl, h9⟩
    rw [← h9]
    clear h9 w9
    go_wp2_with fail
    refine (bnum8_any 2 _).mono ?_
    rintro e9 w9 ⟨rfl, h9⟩
    rw [← h9]
    clear h9 w9
    go_wp2_with fail
    refine (bworks_any _ (HT.out _ HBwa.out)).mono ?_
    rintro e9 w9 ⟨rfl, hb9⟩
    have HB9 := Lib.hid (below_on HBwa.out hb9)
    clear hb9
    go_wp2_with fail
    go_ret
    exact ⟨rfl, HB9.out⟩
  obtain ⟨hk, hr⟩ := HEx.out hg
  rw [extrasE, if_pos hk, blocksE_yes _ hr] at hm
  obtain ⟨v, rfl, hls⟩ := hm
  obtain ⟨A2, C2, ys, rfl, hC2, hmy, hrd⟩ := hls.rd
  have hy4 : ys.length ≤ 4 := by rw [← List.length_map (f := LB.b), hmy]; exact blocksE_len (blocksE_yes x.b.s hr)
  have HOf := Lib.hid (of_back e hk HF.out hr)
  have HKo := Lib.hid (blkOf_any ys A2 C2 wa hrd hC2 (by omega) (HT.out wa HBwa.out))
  rw [hmy] at HKo
  clear hba hg hk hr hls hrd hC2 hmy hy4
  go_wp2_with fail
  refine (bnum8_any 0 _).mono ?_
  rintro e9 w9 ⟨rfl, h9⟩
  rw [← h9]
  clear h9 w9
  go_wp2_with fail
  refine HKo.out.mono ?_
  rintro e2 wb ⟨hbb, hm⟩
  rw [HOf.out] at hm
  obtain ⟨A3, C3, rfl, hC3, hnx⟩ := hm
  obtain ⟨wq, hwq⟩ : ∃ wq, wq = wb.alloc (.cells #[.int .u32 e.n, .int .u32 e.m, .int .u64 e.g, .int .u8 e.l, .int .u8 e.c, .bool e.b, .slice A3 e.xs.length C3] 46) := ⟨_, rfl⟩
  have hbc : Below wb.heap.size wb wq := by rw [hwq]; exact below_al (Below.refl _ _) _
  have hRc : RowB wq wb.heap.size [.int .u32 e.n, .int .u32 e.m, .int .u64 e.g, .int .u8 e.l, .int .u8 e.c, .bool e.b, .slice A3 e.xs.length C3] := by rw [hwq]; exact RowB.new wb _ _
  have HBc := Lib.hid (below_on HBa.out (below_on hbb hbc))
  have HBwc : Hid (Below w.heap.size w wq) := below_on HB0.out HBc.out
  have HNx : Hid (RdX wq wq.heap.size A3 e.xs) := (newX_rd hnx).on hbc
  have HC3 := Lib.hid hC3
  obtain ⟨⟨_, _, _, _⟩, z0, z1, z2, z3, z4, z5, z6⟩ := HX.out wq HBc.out
  have y0 := hRc.1 0 _ rfl
  have y1 := hRc.1 1 _ rfl
  have y2 := hRc.1 2 _ rfl
  have y3 := hRc.1 3 _ rfl
  have y4 := hRc.1 4 _ rfl
  have y5 := hRc.1 5 _ rfl
  have y6 := hRc.1 6 _ rfl
  have HRc := Lib.hid hRc
  rw [hwq] at y0 z0 y1 z1 y2 z2 y3 z3 y4 z4 y5 z5 y6 z6
  have HWc := Lib.hid hwq
  clear hbb hbc hRc hwq hnx hC3
  go_wp2_with fail
  rw [← HWc.out]
  rw [← HWc.out] at y0 z0
  rw [← HWc.out] at y1 z1
  rw [← HWc.out] at y2 z2
  rw [← HWc.out] at y3 z3
  rw [← HWc.out] at y4 z4
  rw [← HWc.out] at y5 z5
  rw [← HWc.out] at y6 z6
  refine (bnum8_any 0 _).mono ?_
  rintro e9 w9 ⟨rfl, h9⟩
  rw [← h9]
  clear h9 w9
  go_wp2_with fail
  refine (sameEx_any e e A A3 C C3 wq ((HRX.out.on HB0.out).on HBc.out) HNx.out HCX.out HC3.out HF.out.xs HF.out.xs).mono ?_
  rintro e3 wd ⟨rfl, hbd⟩
  rw [(sameEx_iff e e).2 rfl]
  have HBd := Lib.hid (below_on HBwc.out hbd)
  clear hbd y0 z0 y1 z1 y2 z2 y3 z3 y4 z4 y5 z5 y6 z6
  go_wp2_with fail
  refine (bworks_any _ (HT.out _ HBd.out)).mono ?_
  rintro e9 w9 ⟨rfl, hb9⟩
  have HB9 := Lib.hid (below_on HBd.out hb9)
  clear hb9
  go_wp2_with fail
  go_ret
  exact ⟨rfl, HB9.out⟩

end Go.Proofs.YtpffmpjdkpfpmaaGreatDoor

