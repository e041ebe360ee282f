/- Package name tells texts: Check, Text, NameText. -/
import Derived.Test.YtjbdpkjkeelgfaaDoorNmG
import Derived.Deep.RegionHeld3
namespace Go.Proofs.YtjbdpkjkeelgfaaDoor
open Go Go.RowKit Go.Shelf
set_option linter.unusedSimpArgs false
set_option linter.unusedVariables false

theorem check_ok (n m : Int) (h : 0 < n ∨ (n = 0 ∧ m = 0)) (w : World) :
    Calls Tryd.prog 11 #[.agg #[.int .u32 n, .int .u32 m]] w fun e w' => e = .returned (.int .i64 0) ∧ Below w.heap.size w w' := by
  rcases h with h | ⟨rfl, rfl⟩
  · have h3 : (n == 0) = false := by simp; omega
    have h4 : ¬ n = 0 := by omega
    go_enter Tryd.func11, Tryd.ntmps11
    go_wp2
    all_goals first | (go_ret; exact ⟨rfl, below_al (Below.refl _ _) _⟩) | (exfalso; omega)
  · go_enter Tryd.func11, Tryd.ntmps11
    go_wp2
    all_goals first | (go_ret; exact ⟨rfl, below_al (Below.refl _ _) _⟩) | (exfalso; omega)

theorem check_no (m : Int) (h : 0 < m) (w : World) :
    Calls Tryd.prog 11 #[.agg #[.int .u32 0, .int .u32 m]] w fun e w' => e = .returned (.int .i64 2) ∧ Below w.heap.size w w' := by
  go_enter Tryd.func11, Tryd.ntmps11
  go_wp2
  all_goals first | (go_ret; exact ⟨rfl, below_al (Below.refl _ _) _⟩) | (exfalso; omega)

theorem box2_all {w W' : World} {t : TypeId} {x y : Value} (hb : Below (w.alloc (.cells #[x, y] t)).heap.size (w.alloc (.cells #[x, y] t)) W') : W'.cell? ⟨w.heap.size, 0, none⟩ = some x ∧ W'.cell? ⟨w.heap.size, 1, none⟩ = some y :=
  ⟨(hb.cell (p := ⟨w.heap.size, 0, none⟩) (by simp)).trans (by simp), (hb.cell (p := ⟨w.heap.size, 1, none⟩) (by simp)).trans (by simp)⟩

theorem text_no (m : Int) (h : 0 < m) (w : World) :
    Calls Tryd.prog 9 #[.agg #[.int .u32 0, .int .u32 m]] w fun e w' => e = .returned (.tuple #[.string ⟨#[]⟩, .int .i64 2]) ∧ Below w.heap.size w w' := by
  have HC := Lib.hid (fun w => check_no m h w)
  go_enter Tryd.func9, Tryd.ntmps9
  go_wp2_with fail
  refine (HC.out _).mono ?_
  rintro e w1 ⟨rfl, hb1⟩
  have HB := Lib.hid (below_on (below_al (Below.refl _ _) _) hb1)
  clear hb1
  go_wp2
  go_ret2
  exact ⟨rfl, HB.out⟩

theorem text_nobody (w : World) :
    Calls Tryd.prog 9 #[.agg #[.int .u32 0, .int .u32 0]] w fun e w' => e = .returned (.tuple #[.string ⟨#[100, 116, 110, 58, 110, 111, 110, 101]⟩, .int .i64 0]) ∧ Below w.heap.size w w' := by
  have HC := Lib.hid (fun w => check_ok 0 0 (.inr ⟨rfl, rfl⟩) w)
  go_enter Tryd.func9, Tryd.ntmps9
  go_wp2_with fail
  refine (HC.out _).mono ?_
  rintro e w1 ⟨rfl, hb1⟩
  obtain ⟨c0, c1⟩ := box2_all hb1
  have HB := Lib.hid (below_on (below_al (Below.refl _ _) _) hb1)
  clear hb1
  go_wp2
  go_ret2
  exact ⟨rfl, HB.out⟩

theorem txE_cat (n m : Nat) (h : 0 < n) : (((⟨#[105, 112, 110, 58]⟩ : ByteArray) ++ ⟨(Lib.decDigits n).toArray⟩) ++ ⟨#[46]⟩) ++ ⟨(Lib.decDigits m).toArray⟩ = ⟨(txE n m).toArray⟩ := by
  have h0 : ¬ n = 0 := by omega
  apply ByteArray.ext
  simp [ByteArray.data_append, txE, h0, wIpn]

theorem txN_cat (s t q : List UInt8) : (((⟨s.toArray⟩ : ByteArray) ++ ⟨#[32]⟩) ++ ⟨t.toArray⟩) ++ ⟨#[32]⟩ ++ ⟨q.toArray⟩ = ⟨(s ++ 32 :: (t ++ 32 :: q)).toArray⟩ := by
  apply ByteArray.ext
  simp [ByteArray.data_append]

theorem cat_run (a b : ByteArray) (h : a.size + b.size ≤ 1000000) : ∀ w : World, (Op.stringOp .add a b).run Tryd.prog w = .ok (.string (a ++ b)) w := fun w => run_string_add_sum w a b (by omega)

theorem dd_size (n : Nat) (h : n ≤ forever) : (⟨(Lib.decDigits n).toArray⟩ : ByteArray).size ≤ 19 := by
  have e : forever = 4611686018427387903 := rfl
  have := dd_len 18 n (by omega)
  simpa [ByteArray.size] using this

set_option maxRecDepth 100000 in
set_option maxHeartbeats 4000000 in
theorem text_yes (n m : Nat) (h : 0 < n) (hn : n ≤ 4294967295) (hm : m ≤ 4294967295) (w : World) (ht : TabN w) :
    Calls Tryd.prog 9 #[.agg #[.int .u32 n, .int .u32 m]] w fun e w' => e = .returned (.tuple #[.string ⟨(txE n m).toArray⟩, .int .i64 0]) ∧ Below w.heap.size w w' := by
  have HC := Lib.hid (fun w => check_ok (n : Int) m (.inl (by omega)) w)
  have HT := Lib.hid ht
  have h3 : ((n : Int) == 0) = false := by simp; omega
  have h4 : ¬ (n : Int) = 0 := by omega
  have h5 : ¬ n = 0 := by omega
  have HDn := Lib.hid (fun w ht => digits_any n (by omega) w ht)
  have HDm := Lib.hid (fun w ht => digits_any m (by omega) w ht)
  have hs1 := dd_size n (by have e : forever = 4611686018427387903 := rfl; omega)
  have hs2 := dd_size m (by have e : forever = 4611686018427387903 := rfl; omega)
  obtain ⟨S1, hS1⟩ : ∃ S : ByteArray, S = ⟨#[105, 112, 110, 58]⟩ ++ ⟨(Lib.decDigits n).toArray⟩ := ⟨_, rfl⟩
  have hz1 : S1.size ≤ 23 := by rw [hS1, ByteArray.size_append]; have : (⟨#[105, 112, 110, 58]⟩ : ByteArray).size = 4 := rfl; omega
  have k1 : ∀ w : World, (Op.stringOp .add ⟨#[105, 112, 110, 58]⟩ ⟨(Lib.decDigits n).toArray⟩).run Tryd.prog w = .ok (.string S1) w := by rw [hS1]; exact cat_run _ _ (by have : (⟨#[105, 112, 110, 58]⟩ : ByteArray).size = 4 := rfl; omega)
  obtain ⟨S2, hS2⟩ : ∃ S : ByteArray, S = S1 ++ ⟨#[46]⟩ := ⟨_, rfl⟩
  have hz2 : S2.size ≤ 24 := by rw [hS2, ByteArray.size_append]; have : (⟨#[46]⟩ : ByteArray).size = 1 := rfl; omega
  have k2 : ∀ w : World, (Op.stringOp .add S1 ⟨#[46]⟩).run Tryd.prog w = .ok (.string S2) w := by rw [hS2]; exact cat_run _ _ (by have : (⟨#[46]⟩ : ByteArray).size = 1 := rfl; omega)
  have k3 : ∀ w : World, (Op.stringOp .add S2 ⟨(Lib.decDigits m).toArray⟩).run Tryd.prog w = .ok (.string ⟨(txE n m).toArray⟩) w := by rw [← txE_cat n m h, ← hS1, ← hS2]; exact cat_run _ _ (by omega)
  clear ht h hS1 hS2 hz1 hz2 hs1 hs2
  have hwn : IntKind.u64.wrap (n : Int) = (n : Int) := by rw [IntKind.wrap_u64]; omega
  have hwm : IntKind.u64.wrap (m : Int) = (m : Int) := by rw [IntKind.wrap_u64]; omega
  go_enter Tryd.func9, Tryd.ntmps9
  go_wp2_with fail
  refine (HC.out _).mono ?_
  rintro e w1 ⟨rfl, hb1⟩
  obtain ⟨c0, c1⟩ := box2_all hb1
  have HB := Lib.hid (below_on (below_al (Below.refl w.heap.size w) (.cells #[.int .u32 (n : Int), .int .u32 (m : Int)] 24)) hb1)
  have hlt : w.heap.size < w1.heap.size := by have := hb1.size; simp at this; omega
  have HELD : Hid (∀ w', Below w1.heap.size w1 w' → (w'.cell? ⟨w.heap.size, 0, none⟩ = some (.int .u32 n) ∧ w'.cell? ⟨w.heap.size, 1, none⟩ = some (.int .u32 m)) ∧ Below w1.heap.size w1 w') := fun w' hb =>
    ⟨⟨(hb.cell (p := ⟨w.heap.size, 0, none⟩) hlt).trans c0, (hb.cell (p := ⟨w.heap.size, 1, none⟩) hlt).trans c1⟩, hb⟩
  have HTab : Hid (∀ w', Below w1.heap.size w1 w' → TabN w') := fun w' hb => HT.out.on (below_on HB.out hb)
  have F0 : Below w1.heap.size w1 w1.drew := (Below.refl _ _).drew
  have HT0 := Lib.hid (HTab.out _ F0)
  clear hb1
  go_wp2_with fail
  clear c0 c1
  go_region_held3 (fun w' => (w'.cell? ⟨w.heap.size, 0, none⟩ = some (.int .u32 n) ∧ w'.cell? ⟨w.heap.size, 1, none⟩ = some (.int .u32 m)) ∧ Below w1.heap.size w1 w')
    (first | (refine HELD.out _ ?_; with_reducible exact F0) | (refine HELD.out _ ?_; with_reducible exact F1) | (refine HELD.out _ ?_; with_reducible exact F2))
    (first
      | (go_at_call 37; (with_reducible refine (HDn.out _ HT0.out).mono ?_); rintro e w2 ⟨rfl, hb2⟩; have F1 : Below w1.heap.size w1 w2 := below_on F0 hb2; have HT1 := Lib.hid (HTab.out _ F1))
      | (go_at_call 37; (with_reducible refine (HDm.out _ HT1.out).mono ?_); rintro e w3 ⟨rfl, hb3⟩; have F2 : Below w1.heap.size w1 w3 := below_on F1 hb3))
  all_goals
    rename_i hHeld
    have HB3 := Lib.hid (below_on HB.out hHeld.2)
    clear hHeld F0
    go_wp2
    go_ret2
    exact ⟨rfl, HB3.out⟩

/-- What Text answers. -/
def textN (n m : Nat) : List UInt8 × Int := if n = 0 ∧ 0 < m then ([], 2) else (txE n m, 0)

theorem text_any (n m : Nat) (hn : n ≤ 4294967295) (hm : m ≤ 4294967295) (w : World) (ht : TabN w) :
    Calls Tryd.prog 9 #[.agg #[.int .u32 n, .int .u32 m]] w fun e w' => e = .returned (.tuple #[.string ⟨(textN n m).1.toArray⟩, .int .i64 (textN n m).2]) ∧ Below w.heap.size w w' := by
  by_cases h : 0 < n
  · have e : textN n m = (txE n m, 0) := if_neg (by omega)
    rw [e]
    exact text_yes n m h hn hm w ht
  · obtain rfl : n = 0 := by omega
    by_cases hm0 : 0 < m
    · have e : textN 0 m = ([], 2) := if_pos ⟨rfl, hm0⟩
      rw [e]
      exact text_no m (by omega) w
    · obtain rfl : m = 0 := by omega
      exact text_nobody w

/-- What NameText answers. -/
def ntextN (n m t q : Nat) : List UInt8 × Int := if 0 < n ∧ t ≤ forever then (txN n m t q, 0) else ([], 2)

set_option maxRecDepth 100000 in
set_option maxHeartbeats 4000000 in
theorem ntext_no (n m t q : Nat) (h : ¬ (0 < n ∧ t ≤ forever)) (w : World) :
    Calls Tryd.prog 20 #[.agg #[.int .u32 n, .int .u32 m, .int .u64 t, .int .u32 q]] w fun e w' => e = .returned (.tuple #[.string ⟨#[]⟩, .int .i64 2]) ∧ Below w.heap.size w w' := by
  have HC := Lib.hid (fun w => cname_no (n : Int) m t q (by have e : forever = 4611686018427387903 := rfl; omega) w)
  clear h
  go_enter Tryd.func20, Tryd.ntmps20
  go_wp2_with fail
  refine (HC.out _).mono ?_
  rintro e w1 ⟨rfl, hb1⟩
  have HB := Lib.hid (below_on (below_al (Below.refl _ _) _) hb1)
  clear hb1
  go_wp2
  go_ret2
  exact ⟨rfl, HB.out⟩

theorem box4_all {w W' : World} {t : TypeId} {x y z u : Value} (hb : Below (w.alloc (.cells #[x, y, z, u] t)).heap.size (w.alloc (.cells #[x, y, z, u] t)) W') : W'.cell? ⟨w.heap.size, 0, none⟩ = some x ∧ W'.cell? ⟨w.heap.size, 1, none⟩ = some y ∧ W'.cell? ⟨w.heap.size, 2, none⟩ = some z ∧ W'.cell? ⟨w.heap.size, 3, none⟩ = some u :=
  ⟨(hb.cell (p := ⟨w.heap.size, 0, none⟩) (by simp)).trans (by simp), (hb.cell (p := ⟨w.heap.size, 1, none⟩) (by simp)).trans (by simp), (hb.cell (p := ⟨w.heap.size, 2, none⟩) (by simp)).trans (by simp), (hb.cell (p := ⟨w.heap.size, 3, none⟩) (by simp)).trans (by simp)⟩

set_option maxRecDepth 100000 in
set_option maxHeartbeats 4000000 in
theorem ntext_yes (n m t q : Nat) (h0 : 0 < n) (hn : n ≤ 4294967295) (hm : m ≤ 4294967295) (htf : t ≤ forever) (hq : q ≤ 4294967295) (w : World) (ht : TabN w) :
    Calls Tryd.prog 20 #[.agg #[.int .u32 n, .int .u32 m, .int .u64 t, .int .u32 q]] w fun e w' => e = .returned (.tuple #[.string ⟨(txN n m t q).toArray⟩, .int .i64 0]) ∧ Below w.heap.size w w' := by
  have ef : forever = 4611686018427387903 := rfl
  have HC := Lib.hid (fun w => cname_ok (n : Int) m t q (by omega) (by omega) w)
  have HTx := Lib.hid (fun w ht => text_yes n m h0 hn hm w ht)
  have HT := Lib.hid ht
  have HDt := Lib.hid (fun w ht => digits_any t (by omega) w ht)
  have HDq := Lib.hid (fun w ht => digits_any q (by omega) w ht)
  have hs1 := dd_size t htf
  have hs2 := dd_size q (by omega)
  have hs0 : (⟨(txE n m).toArray⟩ : ByteArray).size ≤ 25 := by simpa [ByteArray.size] using txE_len n m hn hm
  have h32 : (⟨#[32]⟩ : ByteArray).size = 1 := rfl
  obtain ⟨S1, hS1⟩ : ∃ S : ByteArray, S = ⟨(txE n m).toArray⟩ ++ ⟨#[32]⟩ := ⟨_, rfl⟩
  have hz1 : S1.size ≤ 26 := by rw [hS1, ByteArray.size_append]; omega
  have k1 : ∀ w : World, (Op.stringOp .add ⟨(txE n m).toArray⟩ ⟨#[32]⟩).run Tryd.prog w = .ok (.string S1) w := by rw [hS1]; exact cat_run _ _ (by omega)
  obtain ⟨S2, hS2⟩ : ∃ S : ByteArray, S = S1 ++ ⟨(Lib.decDigits t).toArray⟩ := ⟨_, rfl⟩
  have hz2 : S2.size ≤ 45 := by rw [hS2, ByteArray.size_append]; omega
  have k2 : ∀ w : World, (Op.stringOp .add S1 ⟨(Lib.decDigits t).toArray⟩).run Tryd.prog w = .ok (.string S2) w := by rw [hS2]; exact cat_run _ _ (by omega)
  obtain ⟨S3, hS3⟩ : ∃ S : ByteArray, S = S2 ++ ⟨#[32]⟩ := ⟨_, rfl⟩
  have hz3 : S3.size ≤ 46 := by rw [hS3, ByteArray.size_append]; omega
  have k3 : ∀ w : World, (Op.stringOp .add S2 ⟨#[32]⟩).run Tryd.prog w = .ok (.string S3) w := by rw [hS3]; exact cat_run _ _ (by omega)
  have k4 : ∀ w : World, (Op.stringOp .add S3 ⟨(Lib.decDigits q).toArray⟩).run Tryd.prog w = .ok (.string ⟨(txN n m t q).toArray⟩) w := by
    have e := txN_cat (txE n m) (Lib.decDigits t) (Lib.decDigits q)
    unfold txN
    rw [← e, ← hS1, ← hS2, ← hS3]
    exact cat_run _ _ (by omega)
  clear ht h0 htf ef hS1 hS2 hS3 hz1 hz2 hz3 hs0 hs1 hs2 h32
  have hwq : IntKind.u64.wrap (q : Int) = (q : Int) := by rw [IntKind.wrap_u64]; omega
  go_enter Tryd.func20, Tryd.ntmps20
  go_wp2_with fail
  refine (HC.out _).mono ?_
  rintro e w0 ⟨rfl, hb0⟩
  obtain ⟨c0, c1, c2, c3⟩ := box4_all hb0
  have HB0 := Lib.hid (below_on (below_al (Below.refl w.heap.size w) (.cells #[.int .u32 (n : Int), .int .u32 (m : Int), .int .u64 (t : Int), .int .u32 (q : Int)] 47)) hb0)
  have hlt0 : w.heap.size < w0.heap.size := by have := hb0.size; simp at this; omega
  clear hb0
  go_wp2_with fail
  refine (HTx.out w0 (HT.out.on HB0.out)).mono ?_
  rintro e w1 ⟨rfl, hb1⟩
  have HB := Lib.hid (below_on HB0.out hb1)
  have hlt : w.heap.size < w1.heap.size := by have := hb1.size; omega
  have HC2 : Hid (w1.cell? ⟨w.heap.size, 2, none⟩ = some (.int .u64 t)) := (hb1.cell (p := ⟨w.heap.size, 2, none⟩) hlt0).trans c2
  have HC3 : Hid (w1.cell? ⟨w.heap.size, 3, none⟩ = some (.int .u32 q)) := (hb1.cell (p := ⟨w.heap.size, 3, none⟩) hlt0).trans c3
  have HELD : Hid (∀ w', Below w1.heap.size w1 w' → (w'.cell? ⟨w.heap.size, 2, none⟩ = some (.int .u64 t) ∧ w'.cell? ⟨w.heap.size, 3, none⟩ = some (.int .u32 q)) ∧ Below w1.heap.size w1 w') := fun w' hb =>
    ⟨⟨(hb.cell (p := ⟨w.heap.size, 2, none⟩) hlt).trans HC2.out, (hb.cell (p := ⟨w.heap.size, 3, none⟩) hlt).trans HC3.out⟩, hb⟩
  have HTab : Hid (∀ w', Below w1.heap.size w1 w' → TabN w') := fun w' hb => HT.out.on (below_on HB.out hb)
  have F0 : Below w1.heap.size w1 w1.drew := (Below.refl _ _).drew
  have HT0 := Lib.hid (HTab.out _ F0)
  clear hb1 c0 c1 c2 c3
  go_wp2_with fail
  go_region_held3 (fun w' => (w'.cell? ⟨w.heap.size, 2, none⟩ = some (.int .u64 t) ∧ w'.cell? ⟨w.heap.size, 3, none⟩ = some (.int .u32 q)) ∧ Below w1.heap.size w1 w')
    (first | (refine HELD.out _ ?_; with_reducible exact F0) | (refine HELD.out _ ?_; with_reducible exact F1) | (refine HELD.out _ ?_; with_reducible exact F2))
    (first
      | (go_at_call 37; (with_reducible refine (HDt.out _ HT0.out).mono ?_); rintro e w2 ⟨rfl, hb2⟩; have F1 : Below w1.heap.size w1 w2 := below_on F0 hb2; have HT1 := Lib.hid (HTab.out _ F1))
      | (go_at_call 37; (with_reducible refine (HDq.out _ HT1.out).mono ?_); rintro e w3 ⟨rfl, hb3⟩; have F2 : Below w1.heap.size w1 w3 := below_on F1 hb3))
  all_goals
    rename_i hHeld
    have HB3 := Lib.hid (below_on HB.out hHeld.2)
    clear hHeld F0
    go_wp2
    go_ret2
    exact ⟨rfl, HB3.out⟩

end Go.Proofs.YtjbdpkjkeelgfaaDoor
