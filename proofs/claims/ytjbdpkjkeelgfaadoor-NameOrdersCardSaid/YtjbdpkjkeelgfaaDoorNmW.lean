/- The chapter's rows of names: works. -/
import Derived.Test.YtjbdpkjkeelgfaaDoorNmQ
import Derived.Test.YtjbdpkjkeelgfaaDoorNmT
import Derived.Test.YtjbdpkjkeelgfaaDoorNmOr
namespace Go.Proofs.YtjbdpkjkeelgfaaDoor
open Go Go.RowKit Go.Shelf
set_option linter.unusedSimpArgs false
set_option linter.unusedVariables false

theorem nmNum_any (x : Int) (w : World) : Calls Tryd.prog 14 #[.int .i64 x] w fun e w' => e = .returned (.int .i64 x) ∧ w' = w := by
  go_enter Tryd.func14, Tryd.ntmps14
  go_wp2
  go_ret
  exact ⟨rfl, rfl⟩

theorem d3 : Lib.decDigits 3 = [51] := by rw [dd_small (by decide)]; decide
theorem d5 : Lib.decDigits 5 = [53] := by rw [dd_small (by decide)]; decide
theorem d7 : Lib.decDigits 7 = [55] := by rw [dd_small (by decide)]; decide
theorem d9 : Lib.decDigits 9 = [57] := by rw [dd_small (by decide)]; decide

def t35 : List UInt8 := [105, 112, 110, 58, 51, 46, 53]
theorem t35_eq : txE 3 5 = t35 := by simp [txE, d3, d5, wIpn, t35]
theorem t3579_eq : txN 3 5 7 9 = [105, 112, 110, 58, 51, 46, 53, 32, 55, 32, 57] := by rw [txN, t35_eq, d7, d9]; rfl

theorem rd35 : rdE t35 = .ok (3, 5) := by
  have h : epN t35 = some (3, 5) := epN_iff.2 ⟨t35_eq.symm, by decide⟩
  rw [rdE, if_neg (by decide), h]

theorem rd035 : rdE [105, 112, 110, 58, 48, 51, 46, 53] = .error 130 := by
  have h1 : cutL 58 [105, 112, 110, 58, 48, 51, 46, 53] = some (wIpn, [48, 51, 46, 53]) := by decide
  have h2 : cutL 46 [48, 51, 46, 53] = some ([48, 51], [53]) := by decide
  have h3 : numN [48, 51] = none := by
    have e : Lib.parseUintB 64 [48, 51] = .ok 3 := by decide +kernel
    rw [numN, e]
    simp [d3]
  have h : epN [105, 112, 110, 58, 48, 51, 46, 53] = none := by
    rw [ep_ipn h1, h2]
    simp only []
    rw [h3]
  rw [rdE, if_neg (by decide), h]

theorem rdNone : rdE [100, 116, 110, 58, 110, 111, 110, 101] = .ok (0, 0) := by
  have h : epN [100, 116, 110, 58, 110, 111, 110, 101] = some (0, 0) := epN_iff.2 ⟨by decide, by decide⟩
  rw [rdE, if_neg (by decide), h]

theorem rdShort : rdN [105, 112, 110, 58, 51, 46, 53, 32, 55] = .error 130 := by
  have h1 : cutL 32 [105, 112, 110, 58, 51, 46, 53, 32, 55] = some (t35, [55]) := by decide
  have h2 : cutL 32 [55] = none := by decide
  have h : nmN [105, 112, 110, 58, 51, 46, 53, 32, 55] = none := by simp only [nmN, h1, h2]
  rw [rdN, if_neg (by decide), h]

set_option maxRecDepth 100000 in
set_option maxHeartbeats 8000000 in
theorem nmWorks_any (w : World) (ht : TabN w) : Calls Tryd.prog 15 #[] w fun e w' => e = .returned (.bool true) ∧ Below w.heap.size w w' := by
  have HT : Hid (∀ w', Below w.heap.size w w' → TabN w') := fun w' h => ht.on h
  have T1 : Hid (∀ w, TabN w → Calls Tryd.prog 9 #[.agg #[.int .u32 3, .int .u32 5]] w fun e w' => e = .returned (.tuple #[.string ⟨#[105, 112, 110, 58, 51, 46, 53]⟩, .int .i64 0]) ∧ Below w.heap.size w w') := fun w ht => by
    have h := text_yes 3 5 (by decide) (by decide) (by decide) w ht
    rw [t35_eq] at h
    exact h
  have T2 : Hid (∀ w, TabN w → Calls Tryd.prog 9 #[.agg #[.int .u32 0, .int .u32 0]] w fun e w' => e = .returned (.tuple #[.string ⟨#[100, 116, 110, 58, 110, 111, 110, 101]⟩, .int .i64 0]) ∧ Below w.heap.size w w') := fun w ht => text_nobody w
  have T3 : Hid (∀ w, TabN w → Calls Tryd.prog 9 #[.agg #[.int .u32 0, .int .u32 1]] w fun e w' => e = .returned (.tuple #[.string ⟨#[]⟩, .int .i64 2]) ∧ Below w.heap.size w w') := fun w ht => text_no 1 (by decide) w
  have P1 : Hid (∀ w, TabN w → Calls Tryd.prog 16 #[.string ⟨#[105, 112, 110, 58, 51, 46, 53]⟩] w fun e w' => e = .returned (.tuple #[.agg #[.int .u32 3, .int .u32 5], .int .i64 0]) ∧ Below w.heap.size w w') := fun w ht =>
    (parseE_any t35 (by decide) w ht).mono fun e w' h => by rw [rd35] at h; exact ⟨h.2, h.1⟩
  have P2 : Hid (∀ w, TabN w → Calls Tryd.prog 16 #[.string ⟨#[105, 112, 110, 58, 48, 51, 46, 53]⟩] w fun e w' => e = .returned (.tuple #[.agg #[.int .u32 0, .int .u32 0], .int .i64 130]) ∧ Below w.heap.size w w') := fun w ht =>
    (parseE_any [105, 112, 110, 58, 48, 51, 46, 53] (by decide) w ht).mono fun e w' h => by rw [rd035] at h; exact ⟨h.2, h.1⟩
  have P3 : Hid (∀ w, TabN w → Calls Tryd.prog 16 #[.string ⟨#[100, 116, 110, 58, 110, 111, 110, 101]⟩] w fun e w' => e = .returned (.tuple #[.agg #[.int .u32 0, .int .u32 0], .int .i64 0]) ∧ Below w.heap.size w w') := fun w ht =>
    (parseE_any [100, 116, 110, 58, 110, 111, 110, 101] (by decide) w ht).mono fun e w' h => by rw [rdNone] at h; exact ⟨h.2, h.1⟩
  have P4 : Hid (∀ w, TabN w → Calls Tryd.prog 24 #[.string ⟨#[105, 112, 110, 58, 51, 46, 53, 32, 55]⟩] w fun e w' => e = .returned (.tuple #[.agg #[.int .u32 0, .int .u32 0, .int .u64 0, .int .u32 0], .int .i64 130]) ∧ Below w.heap.size w w') := fun w ht =>
    (parseN_any [105, 112, 110, 58, 51, 46, 53, 32, 55] (by decide) w ht).mono fun e w' h => by rw [rdShort] at h; exact ⟨h.2, h.1⟩
  have NT : Hid (∀ w, TabN w → Calls Tryd.prog 20 #[.agg #[.int .u32 3, .int .u32 5, .int .u64 7, .int .u32 9]] w fun e w' => e = .returned (.tuple #[.string ⟨#[105, 112, 110, 58, 51, 46, 53, 32, 55, 32, 57]⟩, .int .i64 0]) ∧ Below w.heap.size w w') := fun w ht => by
    have h := ntext_yes 3 5 7 9 (by decide) (by decide) (by decide) (by decide) (by decide) w ht
    rw [t3579_eq] at h
    exact h
  have OR : Hid (∀ w, Calls Tryd.prog 33 #[.agg #[.int .u32 3, .int .u32 5, .int .u64 7, .int .u32 9], .agg #[.int .u32 3, .int .u32 5, .int .u64 8, .int .u32 0]] w fun e w' => e = .returned (.int .i64 (-1)) ∧ Below w.heap.size w w') := fun w =>
    (nmOrder_any 3 5 7 9 3 5 8 0 (by unfold N32; decide) (by unfold N32; decide) w).mono fun e w' h => ⟨h.1, h.2.below⟩
  have B0 := Lib.hid (Below.refl w.heap.size w)
  clear ht
  go_enter Tryd.func15, Tryd.ntmps15
  go_wp2_with fail
  refine (T1.out _ (HT.out _ B0.out)).mono ?_
  rintro e w1 ⟨rfl, hb⟩
  have B1 := Lib.hid (below_on B0.out hb)
  clear hb
  go_wp2_with fail
  refine (T2.out _ (HT.out _ B1.out)).mono ?_
  rintro e w2 ⟨rfl, hb⟩
  have B2 := Lib.hid (below_on B1.out hb)
  clear hb
  go_wp2_with fail
  refine (T3.out _ (HT.out _ B2.out)).mono ?_
  rintro e w3 ⟨rfl, hb⟩
  have B3 := Lib.hid (below_on B2.out hb)
  clear hb
  go_wp2_with fail
  refine (P1.out _ (HT.out _ B3.out)).mono ?_
  rintro e w4 ⟨rfl, hb⟩
  have B4 := Lib.hid (below_on B3.out hb)
  clear hb
  go_wp2_with fail
  obtain ⟨W5, hW5⟩ : ∃ W, W = w4.alloc (.cells #[.int .u32 3, .int .u32 5] 24) := ⟨_, rfl⟩
  have B5 : Hid (Below w.heap.size w W5) := by rw [hW5]; exact below_al B4.out _
  have HX : Hid (∀ w', Below W5.heap.size W5 w' → w'.cell? ⟨w4.heap.size, 0, none⟩ = some (.int .u32 3) ∧ w'.cell? ⟨w4.heap.size, 1, none⟩ = some (.int .u32 5)) := fun w' h => by
    have hs : W5.heap.size = w4.heap.size + 1 := by rw [hW5]; simp
    exact ⟨(h.cell (p := ⟨w4.heap.size, 0, none⟩) (show w4.heap.size < _ by omega)).trans (by rw [hW5]; simp), (h.cell (p := ⟨w4.heap.size, 1, none⟩) (show w4.heap.size < _ by omega)).trans (by rw [hW5]; simp)⟩
  rw [← hW5]
  clear hW5
  refine (P2.out _ (HT.out _ B5.out)).mono ?_
  rintro e w6 ⟨rfl, hb⟩
  have C6 := Lib.hid hb
  clear hb
  go_wp2_with fail
  obtain ⟨W7, hW7⟩ : ∃ W, W = w6.alloc (.cells #[.int .u32 0, .int .u32 0] 24) := ⟨_, rfl⟩
  have C7 : Hid (Below W5.heap.size W5 W7) := by rw [hW7]; exact below_al C6.out _
  rw [← hW7]
  clear hW7
  refine (P3.out _ (HT.out _ (below_on B5.out C7.out))).mono ?_
  rintro e w8 ⟨rfl, hb⟩
  have C8 := Lib.hid (below_on C7.out hb)
  clear hb
  obtain ⟨W9, hW9⟩ : ∃ W, W = w8.alloc (.cells #[.int .u32 0, .int .u32 0] 24) := ⟨_, rfl⟩
  have C9 : Hid (Below W5.heap.size W5 W9) := by rw [hW9]; exact below_al C8.out _
  have hs9 : W9.heap.size = w8.heap.size + 1 := by rw [hW9]; simp
  have HY : Hid (∀ w', Below W9.heap.size W9 w' → w'.cell? ⟨w8.heap.size, 0, none⟩ = some (.int .u32 0) ∧ w'.cell? ⟨w8.heap.size, 1, none⟩ = some (.int .u32 0)) := fun w' h => by
    exact ⟨(h.cell (p := ⟨w8.heap.size, 0, none⟩) (show w8.heap.size < _ by omega)).trans (by rw [hW9]; simp), (h.cell (p := ⟨w8.heap.size, 1, none⟩) (show w8.heap.size < _ by omega)).trans (by rw [hW9]; simp)⟩
  obtain ⟨x0, x1⟩ := HX.out W9 C9.out
  rw [hW9] at x0 x1
  obtain ⟨Z, hZ⟩ : ∃ W, W = W9.alloc (.cells #[.int .u32 3, .int .u32 5, .int .u64 7, .int .u32 9] 47) := ⟨_, rfl⟩
  have CZ : Hid (Below W5.heap.size W5 Z) := by rw [hZ]; exact below_al C9.out _
  have DZ : Hid (Below W9.heap.size W9 Z) := by rw [hZ]; exact below_al (Below.refl _ _) _
  have hsZ : Z.heap.size = W9.heap.size + 1 := by rw [hZ]; simp
  have HZc : Hid (∀ w', Below Z.heap.size Z w' → w'.cell? ⟨w8.heap.size + 1, 0, none⟩ = some (.int .u32 3) ∧ w'.cell? ⟨w8.heap.size + 1, 1, none⟩ = some (.int .u32 5) ∧ w'.cell? ⟨w8.heap.size + 1, 2, none⟩ = some (.int .u64 7) ∧ w'.cell? ⟨w8.heap.size + 1, 3, none⟩ = some (.int .u32 9)) := fun w' h => by
    have hh : ∀ i, w'.cell? ⟨w8.heap.size + 1, i, none⟩ = Z.cell? ⟨W9.heap.size, i, none⟩ := fun i => by rw [← hs9]; exact h.cell (p := ⟨W9.heap.size, i, none⟩) (show W9.heap.size < _ by omega)
    exact ⟨(hh 0).trans (by rw [hZ]; simp), (hh 1).trans (by rw [hZ]; simp), (hh 2).trans (by rw [hZ]; simp), (hh 3).trans (by rw [hZ]; simp)⟩
  have HZe : Hid (Z = (w8.alloc (.cells #[.int .u32 0, .int .u32 0] 24)).alloc (.cells #[.int .u32 3, .int .u32 5, .int .u64 7, .int .u32 9] 47)) := by rw [← hW9]; exact hZ
  have H9 := Lib.hid hs9
  have HsZ := Lib.hid hsZ
  clear hW9 hZ hs9 hsZ
  go_wp2_with fail
  clear x0 x1
  rw [← HZe.out]
  refine (NT.out _ (HT.out _ (below_on B5.out CZ.out))).mono ?_
  rintro e w10 ⟨rfl, hb⟩
  have D10 := Lib.hid hb
  clear hb
  go_wp2_with fail
  refine (P4.out _ (HT.out _ (below_on B5.out (below_on CZ.out D10.out)))).mono ?_
  rintro e w11 ⟨rfl, hb⟩
  have D11 := Lib.hid (below_on D10.out hb)
  clear hb
  obtain ⟨X, hX⟩ : ∃ W, W = w11.alloc (.cells #[.int .u32 0, .int .u32 0, .int .u64 0, .int .u32 0] 47) := ⟨_, rfl⟩
  have DX : Hid (Below Z.heap.size Z X) := by rw [hX]; exact below_al D11.out _
  obtain ⟨z0, z1, z2, z3⟩ := HZc.out X DX.out
  obtain ⟨y0, y1⟩ := HY.out X (below_on DZ.out DX.out)
  obtain ⟨x0, x1⟩ := HX.out X (below_on CZ.out DX.out)
  have HBX : Hid (Below w.heap.size w X) := below_on B5.out (below_on CZ.out DX.out)
  have HXe := Lib.hid hX
  rw [hX] at z0 z1 z2 z3 y0 y1 x0 x1
  clear hX
  go_wp2_with ((go_at_call 14; refine (nmNum_any _ _).mono ?_; rintro e w' ⟨rfl, rfl⟩))
  rw [← HXe.out]
  refine (OR.out _).mono ?_
  rintro e w12 ⟨rfl, hb⟩
  have BE := Lib.hid (below_on HBX.out hb)
  clear hb z0 z1 z2 z3 y0 y1 x0 x1
  go_wp2
  go_ret
  exact ⟨rfl, BE.out⟩

end Go.Proofs.YtjbdpkjkeelgfaaDoor
