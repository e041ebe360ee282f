/- The document's texts and items of endpoints and names: ref Number, Nobody, Right, Text, Item. -/
import Derived.Test.YtjbdpkjkeelgfaaDoorNmH1
namespace Go.Proofs.YtjbdpkjkeelgfaaDoor
open Go Go.RowKit Go.Shelf
set_option linter.unusedSimpArgs false
set_option linter.unusedVariables false
set_option maxRecDepth 100000

theorem refUint_any (n : Int) (w : World) : Calls Tryd.prog 48 #[.int .u64 n] w fun e w' => e = .returned (.agg #[.int .i64 1, .int .u64 n, .slice none 0 0, .string ⟨#[]⟩, .slice none 0 0]) ∧ Below w.heap.size w w' := by
  go_enter Tryd.func48, Tryd.ntmps48
  go_wp2
  exact bodyPost_ret (v := .agg #[.int .i64 1, .int .u64 n, .slice none 0 0, .string ⟨#[]⟩, .slice none 0 0]) (by simp [results, Tryd.results48, go_sem]) rfl ⟨rfl, below_al (Below.refl _ _) _⟩

theorem refList_any (a : Option Addr) (n c : Nat) (w : World) : Calls Tryd.prog 47 #[.slice a n c] w fun e w' => e = .returned (.agg #[.int .i64 4, .int .u64 0, .slice none 0 0, .string ⟨#[]⟩, .slice a n c]) ∧ Below w.heap.size w w' := by
  go_enter Tryd.func47, Tryd.ntmps47
  go_wp2
  exact bodyPost_ret (v := .agg #[.int .i64 4, .int .u64 0, .slice none 0 0, .string ⟨#[]⟩, .slice a n c]) (by simp [results, Tryd.results47, go_sem]) rfl ⟨rfl, below_al (Below.refl _ _) _⟩

/-- Numbers of 64 bits. -/
def N64 (n : Nat) : Prop := n < 18446744073709551616

theorem dig_text (w : World) (d : Nat) (hd : d < 10) (t : TypeId) :
    (convert 30 9 (.slice (some ⟨w.heap.size, 0, none⟩) 1 1)).run Tryd.prog (w.alloc (.cells #[.int .u8 (48 + (d : Int))] t)) = .ok (.string ⟨#[UInt8.ofNat (48 + d)]⟩) (w.alloc (.cells #[.int .u8 (48 + (d : Int))] t)) := by
  have h := RdB.text (P := Tryd.prog) (w := w.alloc (.cells #[.int .u8 (48 + (d : Int))] t)) (B := w.heap.size + 1) (a := some ⟨w.heap.size, 0, none⟩) (bs := [UInt8.ofNat (48 + d)]) (.inr ⟨w.heap.size, 0, rfl, by omega, fun j hj => by
    simp at hj
    subst hj
    rw [Nat.zero_add, World.cell?_alloc_mark]
    have e := dig_nat d hd
    have e2 : (48 + (d : Int)) % 256 = 48 + d := by omega
    simp [byteAt, e, e2]⟩) 30 9 5 1 1 rfl Tryd.underlying30 Tryd.underlying5 Tryd.underlying9
  exact h

theorem one_cat (c : UInt8) (acc : List UInt8) : (⟨#[c]⟩ : ByteArray) ++ ⟨acc.toArray⟩ = ⟨(c :: acc).toArray⟩ := by
  apply ByteArray.ext
  simp [ByteArray.data_append]

set_option maxHeartbeats 4000000 in
theorem refNumber_any (n : Nat) (hn : N64 n) (w : World) :
    Calls Tryd.prog 46 #[.int .u64 n] w fun e w' => e = .returned (.string ⟨(Lib.decDigits n).toArray⟩) ∧ Below w.heap.size w w' := by
  have hlen : Hid ((Lib.decDigits n).length ≤ 20) := by
    have := dd_len 19 n (by unfold N64 at hn; omega)
    simp only [Hid]; omega
  go_enter Tryd.func46, Tryd.ntmps46
  go_wp2_with fail
  go_loopw [0, 3] (fun m s wr => ∃ (k : Nat) (acc : List UInt8), m = .int .u64 k ∧ s = .string ⟨acc.toArray⟩ ∧ Hid (Lib.decDigits n = Lib.decDigits k ++ acc) ∧ Hid (N64 k) ∧ Hid (Below w.heap.size w wr)) (fun m _ _ => (intOf m).toNat)
  case atStart => exact ⟨n, [], rfl, rfl, by simp [Hid], hn, Below.refl _ _⟩
  case round =>
    obtain ⟨k, acc, rfl, rfl, HE, HK, HB⟩ := hrel
    obtain ⟨d, hd⟩ : ∃ d, d = k % 10 := ⟨_, rfl⟩
    obtain ⟨q, hq⟩ : ∃ q, q = k / 10 := ⟨_, rfl⟩
    have hdl : d < 10 := by omega
    have hr : (k : Int) % 10 = (d : Int) := by omega
    have hr' : (k : Int).tmod 10 = (d : Int) := by rw [Int.tmod_eq_emod_of_nonneg (by omega)]; omega
    have hv : (k : Int) / 10 = (q : Int) := by omega
    have hv' : (k : Int).tdiv 10 = (q : Int) := by rw [Int.tdiv_eq_ediv_of_nonneg (by omega)]; omega
    have hw48 : IntKind.u64.wrap (48 + (d : Int)) = 48 + d := by rw [IntKind.wrap_u64]; omega
    have hw8 : IntKind.u8.wrap (48 + (d : Int)) = 48 + d := by rw [IntKind.wrap_u8]; omega
    have hwq : IntKind.u64.wrap (q : Int) = q := by rw [IntKind.wrap_u64]; have := HK.out; unfold N64 at this; omega
    have hcv := dig_text wr d hdl 5
    have hsz : acc.length ≤ 20 := by have := hlen.out; rw [HE.out, List.length_append] at this; omega
    obtain ⟨ch, hch⟩ : ∃ ch, ch = UInt8.ofNat (48 + d) := ⟨_, rfl⟩
    rw [← hch] at hcv
    have HCH := Lib.hid hch
    clear hch
    have hcat : ∀ w : World, (Op.stringOp .add ⟨#[ch]⟩ ⟨acc.toArray⟩).run Tryd.prog w = .ok (.string ⟨(ch :: acc).toArray⟩) w := by
      rw [← one_cat ch acc]
      refine cat_run _ _ ?_
      have e1 : (⟨#[ch]⟩ : ByteArray).size = 1 := rfl
      have e2 : (⟨acc.toArray⟩ : ByteArray).size = acc.length := by simp [ByteArray.size]
      omega
    have HD : Hid (q = k / 10 ∧ d = k % 10) := ⟨hq, hd⟩
    clear hd hq
    by_cases h0 : q = 0
    · subst h0
      go_wp2_with fail
      go_ret
      refine ⟨?_, below_al HB.out _⟩
      have h10 : k < 10 := by have := HD.out.1; omega
      have hkd : d = k := by have := HD.out.2; omega
      have e : Lib.decDigits n = ch :: acc := by rw [HE.out, dd_small h10, ← hkd, ← HCH.out]; rfl
      rw [e]
      first | rfl | (rw [← one_cat ch acc])
    · have h0' : ((q : Int) == 0) = false := by simp; omega
      have h0'' : ¬ (q : Int) = 0 := by omega
      go_wp2_with fail
      go_roundw
      case rel =>
        refine ⟨q, ch :: acc, rfl, by first | rfl | (rw [← one_cat ch acc]), ?_, ?_, below_al HB.out _⟩
        · have h10 : ¬ k < 10 := by have := HD.out.1; omega
          rw [Hid, HE.out, dd_big h10, ← HD.out.1, ← HD.out.2, List.append_assoc, ← HCH.out]
          rfl
        · have := HK.out; have := HD.out.1; unfold N64 Hid at *; omega
      case measure => have := HD.out.1; simp [intOf]; omega

theorem refNobody_any (n m : Nat) (w : World) : Calls Tryd.prog 45 #[.agg #[.int .u32 n, .int .u32 m]] w fun e w' => e = .returned (.bool (decide (n = 0 ∧ m = 0))) ∧ Below w.heap.size w w' := by
  by_cases h0 : n = 0
  · subst h0
    by_cases h1 : m = 0
    · subst h1
      go_enter Tryd.func45, Tryd.ntmps45
      go_wp2
      go_ret
      exact ⟨rfl, below_al (Below.refl _ _) _⟩
    · have h1' : ((m : Int) == 0) = false := by simp; omega
      go_enter Tryd.func45, Tryd.ntmps45
      go_wp2
      go_ret
      exact ⟨by simp [h1], below_al (Below.refl _ _) _⟩
  · have h0' : ((n : Int) == 0) = false := by simp; omega
    go_enter Tryd.func45, Tryd.ntmps45
    go_wp2
    go_ret
    exact ⟨by simp [h0], below_al (Below.refl _ _) _⟩

theorem refRight_any (n m : Nat) (w : World) : Calls Tryd.prog 12 #[.agg #[.int .u32 n, .int .u32 m]] w fun e w' => e = .returned (.bool (decide (0 < n ∨ m = 0))) ∧ Below w.heap.size w w' := by
  by_cases h0 : 0 < n
  · have h0' : (0 : Int) < (n : Int) := by omega
    go_enter Tryd.func12, Tryd.ntmps12
    go_wp2
    go_ret
    exact ⟨by simp [h0], below_al (Below.refl _ _) _⟩
  · obtain rfl : n = 0 := by omega
    by_cases h1 : m = 0
    · subst h1
      go_enter Tryd.func12, Tryd.ntmps12
      go_wp2
      go_ret
      exact ⟨rfl, below_al (Below.refl _ _) _⟩
    · have h1' : ((m : Int) == 0) = false := by simp; omega
      go_enter Tryd.func12, Tryd.ntmps12
      go_wp2
      go_ret
      exact ⟨by simp [h1], below_al (Below.refl _ _) _⟩

theorem refRightName_any (x : NmT) (w : World) : Calls Tryd.prog 23 #[.agg #[.int .u32 x.n, .int .u32 x.m, .int .u64 x.t, .int .u32 x.q]] w fun e w' => e = .returned (.bool x.may) ∧ Below w.heap.size w w' := by
  have ef : forever = 4611686018427387903 := rfl
  by_cases h0 : 0 < x.n
  · have h0' : (0 : Int) < (x.n : Int) := by omega
    by_cases h1 : x.t ≤ forever
    · have h1' : (x.t : Int) ≤ 4611686018427387903 := by omega
      have HM : Hid (x.may = true) := NmT.may_iff.2 ⟨h0, h1⟩
      go_enter Tryd.func23, Tryd.ntmps23
      go_wp2
      go_ret
      exact ⟨by rw [HM.out]; rfl, below_al (Below.refl _ _) _⟩
    · have h1' : ¬ (x.t : Int) ≤ 4611686018427387903 := by omega
      have h1'' : decide ((x.t : Int) ≤ 4611686018427387903) = false := by simpa using h1'
      have HM : Hid (x.may = false) := by simp [Hid, NmT.may, h1]
      go_enter Tryd.func23, Tryd.ntmps23
      go_wp2
      all_goals first | (go_ret; exact ⟨by rw [HM.out]; rfl, below_al (Below.refl _ _) _⟩) | (exfalso; omega)
  · have h0' : ¬ (0 : Int) < (x.n : Int) := by omega
    have h0'' : decide ((0 : Int) < (x.n : Int)) = false := by simpa using h0'
    have h2 : (x.n : Int) ≤ 0 := by omega
    have h3 : (x.n : Int) = 0 := by omega
    have HM : Hid (x.may = false) := by simp [Hid, NmT.may, h0]
    go_enter Tryd.func23, Tryd.ntmps23
    go_wp2
    go_ret
    exact ⟨by rw [HM.out]; rfl, below_al (Below.refl _ _) _⟩

set_option maxHeartbeats 4000000 in
theorem refText_any (n m : Nat) (h : 0 < n ∨ m = 0) (hn : n ≤ 4294967295) (hm : m ≤ 4294967295) (w : World) :
    Calls Tryd.prog 18 #[.agg #[.int .u32 n, .int .u32 m]] w fun e w' => e = .returned (.string ⟨(txE n m).toArray⟩) ∧ Below w.heap.size w w' := by
  have HN := Lib.hid (refNobody_any n m)
  by_cases h0 : n = 0
  · subst h0
    obtain rfl : m = 0 := by omega
    go_enter Tryd.func18, Tryd.ntmps18
    go_wp2_with fail
    refine (HN.out _).mono ?_
    rintro e w1 ⟨rfl, hb⟩
    have HB := Lib.hid (below_on (below_al (Below.refl _ _) _) hb)
    clear hb
    go_wp2_with fail
    go_ret
    exact ⟨rfl, HB.out⟩
  · have hnb : decide (n = 0 ∧ m = 0) = false := by simp [h0]
    rw [hnb] at HN
    have hs1 := dd_size n (by have e : forever = 4611686018427387903 := rfl; omega)
    have hs2 := dd_size m (by have e : forever = 4611686018427387903 := rfl; omega)
    obtain ⟨S1, hS1⟩ : ∃ S : ByteArray, S = ⟨#[105, 112, 110, 58]⟩ ++ ⟨(Lib.decDigits n).toArray⟩ := ⟨_, rfl⟩
    have hz1 : S1.size ≤ 23 := by rw [hS1, ByteArray.size_append]; have : (⟨#[105, 112, 110, 58]⟩ : ByteArray).size = 4 := rfl; omega
    have k1 : ∀ w : World, (Op.stringOp .add ⟨#[105, 112, 110, 58]⟩ ⟨(Lib.decDigits n).toArray⟩).run Tryd.prog w = .ok (.string S1) w := by rw [hS1]; exact cat_run _ _ (by have : (⟨#[105, 112, 110, 58]⟩ : ByteArray).size = 4 := rfl; omega)
    obtain ⟨S2, hS2⟩ : ∃ S : ByteArray, S = S1 ++ ⟨#[46]⟩ := ⟨_, rfl⟩
    have hz2 : S2.size ≤ 24 := by rw [hS2, ByteArray.size_append]; have : (⟨#[46]⟩ : ByteArray).size = 1 := rfl; omega
    have k2 : ∀ w : World, (Op.stringOp .add S1 ⟨#[46]⟩).run Tryd.prog w = .ok (.string S2) w := by rw [hS2]; exact cat_run _ _ (by have : (⟨#[46]⟩ : ByteArray).size = 1 := rfl; omega)
    have k3 : ∀ w : World, (Op.stringOp .add S2 ⟨(Lib.decDigits m).toArray⟩).run Tryd.prog w = .ok (.string ⟨(txE n m).toArray⟩) w := by rw [← txE_cat n m (by omega), ← hS1, ← hS2]; exact cat_run _ _ (by omega)
    clear hS1 hS2 hz1 hz2 hs1 hs2 h
    have hwn : IntKind.u64.wrap (n : Int) = (n : Int) := by rw [IntKind.wrap_u64]; omega
    have hwm : IntKind.u64.wrap (m : Int) = (m : Int) := by rw [IntKind.wrap_u64]; omega
    have HDn := Lib.hid (fun w => refNumber_any n (by unfold N64; omega) w)
    have HDm := Lib.hid (fun w => refNumber_any m (by unfold N64; omega) w)
    go_enter Tryd.func18, Tryd.ntmps18
    go_wp2_with fail
    refine (HN.out _).mono ?_
    rintro e w1 ⟨rfl, hb1⟩
    have HC : Hid (∀ w', Below w1.heap.size w1 w' → w'.cell? ⟨w.heap.size, 0, none⟩ = some (.int .u32 n) ∧ w'.cell? ⟨w.heap.size, 1, none⟩ = some (.int .u32 m)) := fun w' h => box2_all (below_on hb1 h)
    have HB := Lib.hid (below_on (below_al (Below.refl w.heap.size w) (.cells #[.int .u32 (n : Int), .int .u32 (m : Int)] 24)) hb1)
    clear hb1
    obtain ⟨c0, c1⟩ := HC.out w1 (Below.refl _ _)
    have F0 : Below w1.heap.size w1 w1.drew := (Below.refl _ _).drew
    go_wp2_with fail
    clear c0 c1
    go_region_held3 (fun w' => w'.cell? ⟨w.heap.size, 0, none⟩ = some (.int .u32 n) ∧ w'.cell? ⟨w.heap.size, 1, none⟩ = some (.int .u32 m))
      (first | (refine HC.out _ ?_; with_reducible exact F2) | (refine HC.out _ ?_; with_reducible exact F1) | (refine HC.out _ ?_; with_reducible exact F0))
      (first
        | (go_at_call 46; (with_reducible refine (HDm.out _).mono ?_); rintro e w3 ⟨rfl, hb3⟩; have F2 : Below w1.heap.size w1 w3 := below_on F1 hb3)
        | (go_at_call 46; (with_reducible refine (HDn.out _).mono ?_); rintro e w2 ⟨rfl, hb2⟩; have F1 : Below w1.heap.size w1 w2 := below_on F0 hb2))
    all_goals
      rename_i hHeld
      have HB3 := Lib.hid (below_on HB.out F2)
      clear hHeld F0
      go_wp2
      go_ret
      exact ⟨rfl, HB3.out⟩

set_option maxHeartbeats 4000000 in
theorem refNText_any (x : NmT) (h : x.ok) (hm : x.may = true) (w : World) :
    Calls Tryd.prog 26 #[.agg #[.int .u32 x.n, .int .u32 x.m, .int .u64 x.t, .int .u32 x.q]] w fun e w' => e = .returned (.string ⟨(txN x.n x.m x.t x.q).toArray⟩) ∧ Below w.heap.size w w' := by
  obtain ⟨h0, ht⟩ := NmT.may_iff.1 hm
  obtain ⟨⟨hn, hm'⟩, _, hq⟩ := h
  obtain ⟨n, m, t, q⟩ := x
  simp only at h0 ht hn hm' hq ⊢
  have ef : forever = 4611686018427387903 := rfl
  have HX := Lib.hid (refText_any n m (.inl h0) hn hm')
  have HDt := Lib.hid (fun w => refNumber_any t (by unfold N64; omega) w)
  have HDq := Lib.hid (fun w => refNumber_any q (by unfold N64; omega) w)
  have hs1 := dd_size n (by omega)
  have hs2 := dd_size m (by omega)
  have hs3 := dd_size t (by omega)
  have hs4 := dd_size q (by omega)
  have hsE : (⟨(txE n m).toArray⟩ : ByteArray).size ≤ 60 := by
    rw [← txE_cat n m h0, ByteArray.size_append, ByteArray.size_append, ByteArray.size_append]
    have e1 : (⟨#[105, 112, 110, 58]⟩ : ByteArray).size = 4 := rfl
    have e2 : (⟨#[46]⟩ : ByteArray).size = 1 := rfl
    omega
  have e32 : (⟨#[32]⟩ : ByteArray).size = 1 := rfl
  obtain ⟨S1, hS1⟩ : ∃ S : ByteArray, S = ⟨(txE n m).toArray⟩ ++ ⟨#[32]⟩ := ⟨_, rfl⟩
  have hz1 : S1.size ≤ 61 := by rw [hS1, ByteArray.size_append]; omega
  have k1 : ∀ w : World, (Op.stringOp .add ⟨(txE n m).toArray⟩ ⟨#[32]⟩).run Tryd.prog w = .ok (.string S1) w := by rw [hS1]; exact cat_run _ _ (by omega)
  obtain ⟨S2, hS2⟩ : ∃ S : ByteArray, S = S1 ++ ⟨(Lib.decDigits t).toArray⟩ := ⟨_, rfl⟩
  have hz2 : S2.size ≤ 80 := by rw [hS2, ByteArray.size_append]; omega
  have k2 : ∀ w : World, (Op.stringOp .add S1 ⟨(Lib.decDigits t).toArray⟩).run Tryd.prog w = .ok (.string S2) w := by rw [hS2]; exact cat_run _ _ (by omega)
  obtain ⟨S3, hS3⟩ : ∃ S : ByteArray, S = S2 ++ ⟨#[32]⟩ := ⟨_, rfl⟩
  have hz3 : S3.size ≤ 81 := by rw [hS3, ByteArray.size_append]; omega
  have k3 : ∀ w : World, (Op.stringOp .add S2 ⟨#[32]⟩).run Tryd.prog w = .ok (.string S3) w := by rw [hS3]; exact cat_run _ _ (by omega)
  have k4 : ∀ w : World, (Op.stringOp .add S3 ⟨(Lib.decDigits q).toArray⟩).run Tryd.prog w = .ok (.string ⟨(txN n m t q).toArray⟩) w := by
    have e : S3 ++ ⟨(Lib.decDigits q).toArray⟩ = ⟨(txN n m t q).toArray⟩ := by rw [hS3, hS2, hS1, txN_cat]; rfl
    rw [← e]
    exact cat_run _ _ (by omega)
  clear hS1 hS2 hS3 hz1 hz2 hz3 hs1 hs2 hs3 hs4 hsE e32
  have hwq : IntKind.u64.wrap (q : Int) = (q : Int) := by rw [IntKind.wrap_u64]; omega
  obtain ⟨W0, hW0⟩ : ∃ W, W = w.alloc (.cells #[.int .u32 (n : Int), .int .u32 (m : Int), .int .u64 (t : Int), .int .u32 (q : Int)] 47) := ⟨_, rfl⟩
  have HB0 : Hid (Below w.heap.size w W0) := by rw [hW0]; exact below_al (Below.refl _ _) _
  have HC : Hid (∀ w', Below W0.heap.size W0 w' → w'.cell? ⟨w.heap.size, 0, none⟩ = some (.int .u32 n) ∧ w'.cell? ⟨w.heap.size, 1, none⟩ = some (.int .u32 m) ∧ w'.cell? ⟨w.heap.size, 2, none⟩ = some (.int .u64 t) ∧ w'.cell? ⟨w.heap.size, 3, none⟩ = some (.int .u32 q)) := by
    rw [hW0]
    exact fun w' h => box4_all h
  have F0 : Below W0.heap.size W0 W0.drew := (Below.refl _ _).drew
  have HW0 := Lib.hid hW0
  clear hW0
  go_enter Tryd.func26, Tryd.ntmps26
  go_wp2_with fail
  rw [← HW0.out]
  go_region_held3 (fun w' => w'.cell? ⟨w.heap.size, 0, none⟩ = some (.int .u32 n) ∧ w'.cell? ⟨w.heap.size, 1, none⟩ = some (.int .u32 m) ∧ w'.cell? ⟨w.heap.size, 2, none⟩ = some (.int .u64 t) ∧ w'.cell? ⟨w.heap.size, 3, none⟩ = some (.int .u32 q))
    (first | (refine HC.out _ ?_; with_reducible exact F3) | (refine HC.out _ ?_; with_reducible exact F2) | (refine HC.out _ ?_; with_reducible exact F1) | (refine HC.out _ ?_; with_reducible exact F0))
    (first
      | (go_at_call 18; (with_reducible refine (HX.out _).mono ?_); rintro e w1 ⟨rfl, hb1⟩; have F1 : Below W0.heap.size W0 w1 := below_on F0 hb1)
      | (go_at_call 46; (with_reducible refine (HDq.out _).mono ?_); rintro e w3 ⟨rfl, hb3⟩; have F3 : Below W0.heap.size W0 w3 := below_on F2 hb3)
      | (go_at_call 46; (with_reducible refine (HDt.out _).mono ?_); rintro e w2 ⟨rfl, hb2⟩; have F2 : Below W0.heap.size W0 w2 := below_on F1 hb2))
  all_goals
    rename_i hHeld
    have HB3 := Lib.hid (below_on HB0.out F3)
    clear hHeld F0
    go_wp2
    go_ret
    exact ⟨rfl, HB3.out⟩

end Go.Proofs.YtjbdpkjkeelgfaaDoor
