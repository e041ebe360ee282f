/- PathReads, walked. -/
import Derived.Test.YtkbnglcpcehaiaaDoorZPtT0
namespace Go.Proofs.YtkbnglcpcehaiaaDoor
open Go Go.RowKit Go.Shelf
set_option linter.unusedSimpArgs false
set_option linter.unusedVariables false
set_option maxRecDepth 100000

set_option maxHeartbeats 16000000 in
theorem walk_pathReads (kd : Int) (hkd : -9223372036854775808 ≤ kd ∧ kd < 9223372036854775808) (a : Option Addr) (c : Nat) (l : List It) (w : World) (hcap : l.length ≤ c) (hbig : l.length ≤ 140737488351232) (hr : ItSl w a l) (ht : TabW w) :
    Calls Tryd.prog 5 #[.slice a l.length c, .int .i64 kd] w fun e w' => e = .returned (.bool true) ∧ Below w.heap.size w w' := by
  obtain ⟨W, hW⟩ : ∃ W, W = w.alloc (.cells #[.int .i64 kd, .int .u64 0, .slice none 0 0, .string ⟨#[]⟩, .slice a l.length c] 45) := ⟨_, rfl⟩
  have HB0 : Hid (Below w.heap.size w W) := by rw [hW]; exact below_al (Below.refl _ _) _
  have HX : Hid (∀ w', Below W.heap.size W w' → (w'.cell? ⟨w.heap.size, 0, none⟩ = some (.int .i64 kd) ∧ w'.cell? ⟨w.heap.size, 1, none⟩ = some (.int .u64 0) ∧ w'.cell? ⟨w.heap.size, 2, none⟩ = some (.slice none 0 0) ∧ w'.cell? ⟨w.heap.size, 3, none⟩ = some (.string ⟨#[]⟩) ∧ w'.cell? ⟨w.heap.size, 4, none⟩ = some (.slice a l.length c))) := fun w' h => by
    rw [hW] at h
    exact box5_all h
  have HT : Hid (∀ w', Below W.heap.size W w' → TabW w') := fun w' h => (ht.on HB0.out).on h
  have HL := Lib.hid hr
  obtain ⟨x, hx⟩ : ∃ x, x = It.mk kd 0 [] [] l := ⟨_, rfl⟩
  have hxl : x.l = l := by rw [hx]; rfl
  have HV : Hid (∀ w', Below W.heap.size W w' → ItV w' w'.heap.size (.agg #[.int .i64 kd, .int .u64 0, .slice none 0 0, .string ⟨#[]⟩, .slice a l.length c]) x) := fun w' h => by
    have h0 : ItV w w.heap.size (.agg #[.int .i64 kd, .int .u64 0, .slice none 0 0, .string ⟨#[]⟩, .slice a l.length c]) x := by
      rw [hx]
      simp only [ItV]
      exact ⟨a, ⟨none, 0, c, rfl, ⟨Nat.le_refl _, hcap⟩, .inl rfl, ⟨by decide, by decide⟩, hkd, by simp [Sz], by simp [Sz], by simp only [Sz]; omega⟩, hr⟩
    exact (h0.on HB0.out).on h
  have HW := Lib.hid hW
  clear hW hr ht hx
  obtain ⟨x0, x1, x2, x3, x4⟩ := HX.out W (Below.refl _ _)
  by_cases h100 : 100 < l.length
  · go_enter Tryd.func5, Tryd.ntmps5
    go_wp2_with fail
    rw [← HW.out]
    refine (ptWorks_any W (HT.out W (Below.refl _ _))).mono ?_
    rintro e wz ⟨rfl, hb⟩
    have HBz := Lib.hid (below_on (Below.refl _ _) hb)
    clear hb
    go_wp2
    go_ret
    exact ⟨rfl, HB0.out.trans (HBz.out.mono HB0.out.size)⟩
  have hle : l.length ≤ 100 := by omega
  have HOf : Hid (∀ w', Below W.heap.size W w' → Calls Tryd.prog 20 #[.agg #[.int .i64 kd, .int .u64 0, .slice none 0 0, .string ⟨#[]⟩, .slice a l.length c]] w' (OfP w' x)) := fun w' h => pof_any x _ w' (HV.out w' h)
  have HRf : Hid (∀ w', Below W.heap.size W w' → Calls Tryd.prog 22 #[.agg #[.int .i64 kd, .int .u64 0, .slice none 0 0, .string ⟨#[]⟩, .slice a l.length c]] w' (ROfP w' x)) := fun w' h => refPOf_any x _ w' (HV.out w' h) (by rw [hxl]; omega)
  clear h100 hxl
  have hlI : ¬ (100 : Int) < (l.length : Int) := by omega
  go_enter Tryd.func5, Tryd.ntmps5
  go_wp2_with fail
  rw [← HW.out]
  clear x0 x1 x2 x3 x4 hlI
  go_loopw [6] (fun i wr => ∃ k : Nat, k ≤ l.length ∧ i = .int .i64 k ∧ Hid (Below W.heap.size W wr)) (fun i _ => l.length - (intOf i).toNat)
  case atStart => exact ⟨0, Nat.zero_le _, rfl, Below.refl _ _⟩
  case round =>
    obtain ⟨k, hk, rfl, HI⟩ := hrel
    by_cases hlt : k < l.length
    · have hltI : (k : Int) < (l.length : Int) := by omega
      obtain ⟨g, o, rfl, hg, hlL⟩ : ∃ g o, a = some ⟨g, o, none⟩ ∧ g < w.heap.size ∧ ItL w w.heap.size g o l := by
        rcases HL.out with h | h
        · rw [h] at hlt; simp at hlt
        · exact h
      obtain ⟨_, _, Ay, Cy, _, _, _, _, _, c4⟩ := hlL.get (i := k) (x := l[k]) (List.getElem?_eq_getElem hlt) (HB0.out.trans (HI.out.mono HB0.out.size)) hg
      obtain ⟨n, hn⟩ : ∃ n, n = (l[k]).l.length := ⟨_, rfl⟩
      rw [← hn] at c4
      clear hlL hn
      by_cases h10 : 10 < n
      · have h10I : (10 : Int) < (n : Int) := by omega
        go_wp2_with fail
        refine (ptWorks_any wr (HT.out wr HI.out)).mono ?_
        rintro e wz ⟨rfl, hb⟩
        have HBz := Lib.hid (below_on HI.out hb)
        clear hb
        go_wp2
        go_ret
        exact ⟨rfl, HB0.out.trans (HBz.out.mono HB0.out.size)⟩
      · have h10I : ¬ (10 : Int) < (n : Int) := by omega
        go_wp2_with fail
        go_roundw
        case rel => exact ⟨k + 1, by omega, by go_num, HI.out⟩
        case measure => simp [intOf]; omega
    · obtain rfl : k = l.length := by omega
      obtain ⟨x0, x1, x2, x3, x4⟩ := HX.out wr HI.out
      go_wp2_with fail
      refine (HOf.out wr HI.out).mono ?_
      rintro e w1 ⟨hb, ⟨hp, A1, C1, rfl, hC1, hrd⟩ | ⟨hp, rfl⟩⟩
      · obtain ⟨b, zs, hrx, hxe⟩ := isP_form hp
        have hgu : guP x = (b, zs) := by rw [hxe]; exact (isP_back b zs hrx).2
        rw [hgu] at hC1 hrd ⊢
        simp only at hC1 hrd ⊢
        obtain ⟨W1, hW1⟩ : ∃ W, W = w1.alloc (.cells #[.bool b, .slice A1 zs.length C1] 24) := ⟨_, rfl⟩
        have HB1 : Hid (Below wr.heap.size wr W1) := by rw [hW1]; exact below_al hb _
        have HA1 : Hid (∀ w', Below W1.heap.size W1 w' → (w'.cell? ⟨w1.heap.size, 0, none⟩ = some (.bool b) ∧ w'.cell? ⟨w1.heap.size, 1, none⟩ = some (.slice A1 zs.length C1))) := fun w' h => by
          rw [hW1] at h
          exact box2_all h
        have HR1 : Hid (∀ w', Below W1.heap.size W1 w' → RdX w' w'.heap.size A1 zs) := fun w' h => by
          have h0 : RdX W1 W1.heap.size A1 zs := by rw [hW1]; exact hrd.on (below_al (Below.refl _ _) _)
          exact h0.on h
        have HW1 := Lib.hid hW1
        have HRx := Lib.hid hrx
        have HXe := Lib.hid hxe
        have hz64 : zs.length ≤ 64 := by
          have h := hrx
          unfold rightX at h
          simp only [Bool.and_eq_true, decide_eq_true_eq] at h
          exact h.1
        have HBa : Hid (Below W.heap.size W W1) := HI.out.trans (HB1.out.mono HI.out.size)
        clear x0 x1 x2 x3 x4 hb hrd hC1 hgu hrx hxe hp
        obtain ⟨x0, x1, x2, x3, x4⟩ := HX.out W1 HBa.out
        obtain ⟨y0, y1⟩ := HA1.out W1 (Below.refl _ _)
        rw [hW1] at x0 x1 x2 x3 x4 y0 y1
        clear hW1
        go_wp2_with fail
        rw [← HW1.out]
        refine (HRf.out W1 HBa.out).mono ?_
        rintro e w2 ⟨hb, ⟨b', zs', hrx', hxe', A2, C2, rfl, hC2, hrd⟩ | ⟨hp, _⟩⟩
        rotate_left
        · rw [HXe.out, (isP_back b zs HRx.out).1] at hp
          cases hp
        obtain ⟨rfl, rfl⟩ : b' = b ∧ zs' = zs := by
          have h1 := (isP_back b zs HRx.out).2
          have h2 := (isP_back b' zs' hrx').2
          rw [← HXe.out] at h1
          rw [← hxe', h1] at h2
          injection h2 with h3 h4
          exact ⟨h3.symm, h4.symm⟩
        obtain ⟨W2, hW2⟩ : ∃ W, W = w2.alloc (.cells #[.bool b', .slice A2 zs'.length C2] 24) := ⟨_, rfl⟩
        have HB12 : Hid (Below W1.heap.size W1 W2) := by rw [hW2]; exact below_al hb _
        have HA2 : Hid (∀ w', Below W2.heap.size W2 w' → (w'.cell? ⟨w2.heap.size, 0, none⟩ = some (.bool b') ∧ w'.cell? ⟨w2.heap.size, 1, none⟩ = some (.slice A2 zs'.length C2))) := fun w' h => by
          rw [hW2] at h
          exact box2_all h
        have HR2 : Hid (∀ w', Below W2.heap.size W2 w' → RdX w' w'.heap.size A2 zs') := fun w' h => by
          have h0 : RdX W2 W2.heap.size A2 zs' := by rw [hW2]; exact hrd.on (below_al (Below.refl _ _) _)
          exact h0.on h
        have HW2 := Lib.hid hW2
        clear x0 x1 x2 x3 x4 y0 y1 hb hrd hC2 hrx' hxe'
        obtain ⟨y0, y1⟩ := HA1.out W2 HB12.out
        obtain ⟨z0, z1⟩ := HA2.out W2 (Below.refl _ _)
        rw [hW2] at y0 y1 z0 z1
        clear hW2
        go_wp2_with fail
        rw [← HW2.out]
        have hsm := refPSame_any b' b' A1 A2 C1 C2 zs' zs' W2 (by omega) (by omega) (HR1.out W2 HB12.out) (HR2.out W2 (Below.refl _ _))
        rw [sameP_self] at hsm
        refine hsm.mono ?_
        rintro e w3 ⟨rfl, hb⟩
        have HB13 := Lib.hid (below_on HB12.out hb)
        clear hb y0 y1 z0 z1 hsm
        obtain ⟨y0, y1⟩ := HA1.out w3 HB13.out
        go_wp2_with (go_at_call 14; refine (ptNum_any _ _).mono ?_; rintro e w' ⟨rfl, rfl⟩)
        refine (ppItem_any b' A1 C1 zs' w3 (by omega) (HR1.out w3 HB13.out)).mono ?_
        rintro e w4 ⟨hb, ⟨_, a4, c4, A4, C4, rfl, hv⟩ | ⟨hbad, _⟩⟩
        rotate_left
        · rw [HRx.out] at hbad
          cases hbad
        obtain ⟨W4, hW4⟩ : ∃ W, W = w4.alloc (.cells #[.int .i64 4, .int .u64 0, .slice a4 0 c4, .string ⟨#[]⟩, .slice A4 (zs'.length + 1) C4] 45) := ⟨_, rfl⟩
        have HB14 : Hid (Below W1.heap.size W1 W4) := by rw [hW4]; exact below_al (below_on HB13.out hb) _
        have HA4 : Hid (∀ w', Below W4.heap.size W4 w' → (w'.cell? ⟨w4.heap.size, 0, none⟩ = some (.int .i64 4) ∧ w'.cell? ⟨w4.heap.size, 1, none⟩ = some (.int .u64 0) ∧ w'.cell? ⟨w4.heap.size, 2, none⟩ = some (.slice a4 0 c4) ∧ w'.cell? ⟨w4.heap.size, 3, none⟩ = some (.string ⟨#[]⟩) ∧ w'.cell? ⟨w4.heap.size, 4, none⟩ = some (.slice A4 (zs'.length + 1) C4))) := fun w' h => by
          rw [hW4] at h
          exact box5_all h
        have HV4 : Hid (ItV W4 W4.heap.size (.agg #[.int .i64 4, .int .u64 0, .slice a4 0 c4, .string ⟨#[]⟩, .slice A4 (zs'.length + 1) C4]) (itP b' zs')) := by
          rw [hW4]
          exact hv.new_itV.on (below_al (Below.refl _ _) _)
        have HW4 := Lib.hid hW4
        have HBb : Hid (Below W.heap.size W W4) := HBa.out.trans (HB14.out.mono HBa.out.size)
        clear hb hv y0 y1
        obtain ⟨x0, x1, x2, x3, x4⟩ := HX.out W4 HBb.out
        obtain ⟨y0, y1, y2, y3, y4⟩ := HA4.out W4 (Below.refl _ _)
        rw [hW4] at x0 x1 x2 x3 x4 y0 y1 y2 y3 y4
        clear hW4
        go_wp2_with (go_at_call 14; refine (ptNum_any _ _).mono ?_; rintro e w' ⟨rfl, rfl⟩)
        rw [← HW4.out]
        have hsi := refSame_any x (itP b' zs') _ _ W4 (HV.out W4 HBb.out) HV4.out
        rw [← HXe.out, same_self] at hsi
        refine hsi.mono ?_
        rintro e w5 ⟨rfl, hb⟩
        have HB5 := Lib.hid (below_on HBb.out hb)
        clear hb x0 x1 x2 x3 x4 y0 y1 y2 y3 y4 hsi
        go_wp2_with fail
        refine (ptWorks_any w5 (HT.out w5 HB5.out)).mono ?_
        rintro e wz ⟨rfl, hb⟩
        have HBz := Lib.hid (below_on HB5.out hb)
        clear hb
        go_wp2
        go_ret
        exact ⟨rfl, HB0.out.trans (HBz.out.mono HB0.out.size)⟩
      · have HP := Lib.hid hp
        obtain ⟨W1, hW1⟩ : ∃ W, W = w1.alloc (.cells #[.bool false, .slice none 0 0] 24) := ⟨_, rfl⟩
        have HB1 : Hid (Below wr.heap.size wr W1) := by rw [hW1]; exact below_al hb _
        have HA1 : Hid (∀ w', Below W1.heap.size W1 w' → (w'.cell? ⟨w1.heap.size, 0, none⟩ = some (.bool false) ∧ w'.cell? ⟨w1.heap.size, 1, none⟩ = some (.slice none 0 0))) := fun w' h => by
          rw [hW1] at h
          exact box2_all h
        have HW1 := Lib.hid hW1
        have HBa : Hid (Below W.heap.size W W1) := HI.out.trans (HB1.out.mono HI.out.size)
        clear x0 x1 x2 x3 x4 hb hp
        obtain ⟨x0, x1, x2, x3, x4⟩ := HX.out W1 HBa.out
        obtain ⟨y0, y1⟩ := HA1.out W1 (Below.refl _ _)
        rw [hW1] at x0 x1 x2 x3 x4 y0 y1
        clear hW1
        go_wp2_with fail
        rw [← HW1.out]
        refine (HRf.out W1 HBa.out).mono ?_
        rintro e w2 ⟨hb, ⟨b', zs', hrx', hxe', _⟩ | ⟨_, rfl⟩⟩
        · have h1 := HP.out
          rw [hxe', (isP_back b' zs' hrx').1] at h1
          cases h1
        obtain ⟨W2, hW2⟩ : ∃ W, W = w2.alloc (.cells #[.bool false, .slice none 0 0] 24) := ⟨_, rfl⟩
        have HB12 : Hid (Below W1.heap.size W1 W2) := by rw [hW2]; exact below_al hb _
        have HA2 : Hid (∀ w', Below W2.heap.size W2 w' → (w'.cell? ⟨w2.heap.size, 0, none⟩ = some (.bool false) ∧ w'.cell? ⟨w2.heap.size, 1, none⟩ = some (.slice none 0 0))) := fun w' h => by
          rw [hW2] at h
          exact box2_all h
        have HW2 := Lib.hid hW2
        clear x0 x1 x2 x3 x4 y0 y1 hb
        obtain ⟨y0, y1⟩ := HA1.out W2 HB12.out
        obtain ⟨z0, z1⟩ := HA2.out W2 (Below.refl _ _)
        rw [hW2] at y0 y1 z0 z1
        clear hW2
        go_wp2_with fail
        rw [← HW2.out]
        have hsm := refPSame_any false false none none 0 0 [] [] W2 (by decide) (by decide) (.inl rfl) (.inl rfl)
        rw [sameP_self] at hsm
        refine hsm.mono ?_
        rintro e w3 ⟨rfl, hb⟩
        have HB3 : Hid (Below W.heap.size W w3) := below_on (below_on HBa.out HB12.out) hb
        clear hb y0 y1 z0 z1 hsm
        go_wp2_with (go_at_call 14; refine (ptNum_any _ _).mono ?_; rintro e w' ⟨rfl, rfl⟩)
        refine (ptWorks_any w3 (HT.out w3 HB3.out)).mono ?_
        rintro e wz ⟨rfl, hb⟩
        have HBz := Lib.hid (below_on HB3.out hb)
        clear hb
        go_wp2
        go_ret
        exact ⟨rfl, HB0.out.trans (HBz.out.mono HB0.out.size)⟩

end Go.Proofs.YtkbnglcpcehaiaaDoor
