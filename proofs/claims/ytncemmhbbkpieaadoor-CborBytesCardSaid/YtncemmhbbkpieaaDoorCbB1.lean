/- The document's answer of layer 3, read: head. -/
import Derived.Test.YtncemmhbbkpieaaDoorCbQ
import Derived.Test.YtncemmhbbkpieaaDoorCbZ
import Derived.Test.YtncemmhbbkpieaaDoorCbR1
import Derived.Test.YtncemmhbbkpieaaDoorOctQ
import Derived.Deep.QuietTactic
import Derived.BigQuiet
import Derived.IntWalk
namespace Go.Proofs.YtncemmhbbkpieaaDoor
open Go.RowKit Go.Shelf
set_option linter.unusedSimpArgs false
set_option linter.unusedVariables false

theorem lg_inj {W W' : Nat} (h : isW (W : Int) = true) (h' : isW (W' : Int) = true) (e : lg W = lg W') : W = W' := by
  have h1 := lg_pow h
  have h2 := lg_pow h'
  rw [e] at h1
  omega

theorem ofNat_toNat {k : Nat} (h : k < 256) : (UInt8.ofNat k).toNat = k := by
  rw [UInt8.toNat_ofNat']
  omega

/-- Bytes begin with a head of so many bytes just where they are it. -/
theorem begins_head (f : UInt8) (r : List UInt8) (m W : Nat) (n : Int) (hm : m ≤ 7) (hn : U64 n) (hW : isW (W : Int) = true) (hf : f.toNat = 32 * m + 24 + lg W) (hl : W ≤ r.length) :
    begins (f :: r) (headB m n) = (headB m n == (f :: r).take (W + 1)) := by
  have hlg := lg_le W
  by_cases h : n < 24
  · rw [headB_small m n h]
    have e : ¬ (f = UInt8.ofNat (32 * m + n.toNat)) := by
      intro e
      have h0 := hn.1
      rw [e, ofNat_toNat (by omega)] at hf
      omega
    generalize UInt8.ofNat (32 * m + n.toNat) = u at e
    have e1 : begins (f :: r) [u] = false := by
      simp [begins, e]
    have e2 : ([u] == (f :: r).take (W + 1)) = false := by
      simp [List.take_succ_cons]
      intro e3
      exact absurd e3.symm e
    rw [e1, e2]
  · obtain ⟨W', hW', hi, _⟩ := least_good n
    rw [headB_wide m n h W' hW']
    have hlg' := lg_le W'
    by_cases e : W' = W
    · subst e
      have hlen : ([UInt8.ofNat (32 * m + 24 + lg W')] ++ beB W' n).length = W' + 1 := by simp [beB_length]
      rw [begins, hlen]
      rw [show decide (W' + 1 ≤ (f :: r).length) = true by simp; omega, Bool.true_and, Bool.beq_comm]
    · have e' : ¬ (f = UInt8.ofNat (32 * m + 24 + lg W')) := by
        intro e3
        rw [e3, ofNat_toNat (by omega)] at hf
        exact e (lg_inj hi hW (by omega))
      generalize UInt8.ofNat (32 * m + 24 + lg W') = u at e'
      have e1 : begins (f :: r) ([u] ++ beB W' n) = false := by
        simp [begins, e', List.take_succ_cons]
      have e2 : (([u] ++ beB W' n) == (f :: r).take (W + 1)) = false := by
        simp [List.take_succ_cons]
        intro e3
        exact absurd e3.symm e'
      rw [e1, e2]

/-- A head of a width. -/
theorem headN_at (f : UInt8) (r : List UInt8) (m l W : Nat) (hx : f.toNat = 32 * m + l) (hm : m ≤ 7) (hlW : (l = 24 ∧ W = 1) ∨ (l = 25 ∧ W = 2) ∨ (l = 26 ∧ W = 4) ∨ (l = 27 ∧ W = 8)) :
    headN (f :: r) = if W ≤ r.length then (if (headB m (valB (r.take W) W) == (f :: r).take (W + 1)) = true then some (m, valB (r.take W) W, r.drop W) else none) else none := by
  have hW : isW (W : Int) = true := by rcases hlW with ⟨_, rfl⟩ | ⟨_, rfl⟩ | ⟨_, rfl⟩ | ⟨_, rfl⟩ <;> decide
  have hl : l = 24 + lg W := by rcases hlW with ⟨rfl, rfl⟩ | ⟨rfl, rfl⟩ | ⟨rfl, rfl⟩ | ⟨rfl, rfl⟩ <;> decide
  have hlg := lg_le W
  have e1 : f.toNat / 32 = m := by omega
  have e2 : W = 2 ^ (f.toNat % 32 - 24) := by
    rw [show f.toNat % 32 - 24 = lg W by omega, lg_pow hW]
  have hN : numN r W = valB (r.take W) W := if_pos hW
  rw [headN_wide f r W e2 (by omega), e1, hN]
  by_cases hle : W ≤ r.length
  · rw [if_pos hle, if_pos hle, begins_head f r m W _ hm (by rw [← hN]; exact numN_u64 r W) hW (by omega) hle]
  · rw [if_neg hle, if_neg hle]

/-- A head of a width that there is not. -/
theorem headN_odd (f : UInt8) (r : List UInt8) (h : 28 ≤ f.toNat % 32) : headN (f :: r) = none := by
  have hl : f.toNat % 32 - 24 = 4 ∨ f.toNat % 32 - 24 = 5 ∨ f.toNat % 32 - 24 = 6 ∨ f.toNat % 32 - 24 = 7 := by omega
  have hlt := f.toNat_lt
  have hb : begins (f :: r) (headB (f.toNat / 32) 0) = false := by
    rw [headB_small _ _ (by decide)]
    have e : ¬ (f = UInt8.ofNat (32 * (f.toNat / 32) + Int.toNat 0)) := by
      intro e
      have h1 := congrArg UInt8.toNat e
      rw [ofNat_toNat (by simp; omega)] at h1
      simp at h1
      omega
    simp only [begins, List.length_cons, List.length_nil, List.take_succ_cons, List.take_zero]
    simp
    intro h
    exact absurd h (by simpa using e)
  rw [headN_wide f r _ rfl (by omega)]
  have hN : numN r (2 ^ (f.toNat % 32 - 24)) = 0 := by
    unfold numN
    rw [if_neg]
    rcases hl with h | h | h | h <;> rw [h] <;> decide
  rw [hN, hb]
  simp

theorem refGet_at (a : Option Addr) (n c : Nat) (bs : List UInt8) (hn : n = bs.length) (B : Nat) (w : World) (hx : isW (n : Int) = true) (hr : RdB w B a bs) :
    Calls Tryd.prog 57 #[.slice a n c] w fun e w' => e = .returned (.tuple #[.int .u64 (valB bs n), .int .i64 0]) ∧ w = w' := by
  subst hn
  exact refGet_ok a c bs B w hx hr

def RdHeadP (w : World) (bs : List UInt8) (e : Ending) (w' : World) : Prop :=
  Below w.heap.size w w' ∧ ((∃ m n r, headN bs = some (m, n, r) ∧ e = .returned (.tuple #[.int .i64 (m : Nat), .int .u64 n, .int .i64 ((bs.length - r.length : Nat) : Int)])) ∨ (headN bs = none ∧ e = .returned (.tuple #[.int .i64 0, .int .u64 0, .int .i64 0])))

/-- The first byte's cell. -/
theorem RdB.cell0 {w : World} {B : Nat} {a : Option Addr} {f : UInt8} {r : List UInt8} (h : RdB w B a (f :: r)) : ∃ b o, a = some ⟨b, o, none⟩ ∧ b < B ∧ w.cell? ⟨b, o, none⟩ = some (.int .u8 (f.toNat : Int)) := by
  rcases h with h | ⟨b, o, h1, h2, h3⟩
  · cases h
  · exact ⟨b, o, h1, h2, by simpa [byteAt] using h3 0 (by simp)⟩

set_option maxRecDepth 100000 in
set_option maxHeartbeats 4000000 in
theorem rdHead_low (a : Option Addr) (n c : Nat) (f : UInt8) (r : List UInt8) (w : World) (hn : n = (f :: r).length) (hr : RdB w w.heap.size a (f :: r)) (h : f.toNat % 32 < 24) :
    Calls Tryd.prog 38 #[.slice a n c] w (RdHeadP w (f :: r)) := by
  obtain ⟨b, o, rfl, hb, hc⟩ := hr.cell0
  have HN : Hid (headN (f :: r) = some (f.toNat / 32, ((f.toNat % 32 : Nat) : Int), r)) := by simp only [Hid, headN, h, if_true]
  have HL : Hid (((f :: r).length - r.length : Nat) = 1) := by simp [Hid]
  have hfl := f.toNat_lt
  obtain ⟨x, hx⟩ : ∃ x, x = f.toNat := ⟨_, rfl⟩
  rw [← hx] at hc hfl h HN
  have hn0 : ((n : Int) == 0) = false := by simp; rintro rfl; simp at hn
  have hn1 : 0 < n := by rw [hn]; simp
  clear hn hx hr
  have q1 : (x : Int).tdiv 32 = (x : Int) / 32 := Int.tdiv_eq_ediv_of_nonneg (by omega)
  have q2 : (x : Int).tmod 32 = (x : Int) % 32 := Int.tmod_eq_emod_of_nonneg (by omega)
  have q3 : decide ((x : Int) % 32 < 24) = true := by simp; omega
  go_enter Tryd.func38, Tryd.ntmps38
  go_wp2_with fail
  go_quiet (fail)
  go_wp2_with fail
  refine bodyPost_ret (v := .tuple #[.int .i64 ((x : Int) / 32), .int .u64 ((x : Int) % 32), .int .i64 1]) (by simp [results, Tryd.results38, go_sem]) rfl ⟨below_dr (Below.refl _ _) _, .inl ⟨x / 32, ((x % 32 : Nat) : Int), r, HN.out, ?_⟩⟩
  rw [HL.out]
  simp

/-- A way on which the head is none. -/
theorem rdHead_odd (a : Option Addr) (n c : Nat) (f : UInt8) (r : List UInt8) (w : World) (hn : n = (f :: r).length) (hr : RdB w w.heap.size a (f :: r)) (h : 28 ≤ f.toNat % 32) :
    Calls Tryd.prog 38 #[.slice a n c] w (RdHeadP w (f :: r)) := by
  obtain ⟨b, o, rfl, hb, hc⟩ := hr.cell0
  have HN : Hid (headN (f :: r) = none) := headN_odd f r h
  have hfl := f.toNat_lt
  obtain ⟨x, hx⟩ : ∃ x, x = f.toNat := ⟨_, rfl⟩
  rw [← hx] at hc hfl h
  have hn0 : ((n : Int) == 0) = false := by simp; rintro rfl; simp at hn
  have hn1 : 0 < n := by rw [hn]; simp
  clear hn hx hr
  have hl : x % 32 = 28 ∨ x % 32 = 29 ∨ x % 32 = 30 ∨ x % 32 = 31 := by omega
  have q1 : (x : Int).tdiv 32 = (x : Int) / 32 := Int.tdiv_eq_ediv_of_nonneg (by omega)
  rcases hl with hl | hl | hl | hl
  all_goals
    have q2 : (x : Int).tmod 32 = ((x % 32 : Nat) : Int) := by rw [Int.tmod_eq_emod_of_nonneg (by omega)]; omega
    rw [hl] at q2
    simp only [Int.cast_ofNat_Int] at q2
    clear hl h
    go_enter Tryd.func38, Tryd.ntmps38
    go_wp2_with fail
    go_quiet (fail)
    have hB := below_dr (Below.refl w.heap.size w) nq
    generalize w.drewN nq = wq at hB ⊢
    go_wp2_with fail
    exact bodyPost_ret (v := .tuple #[.int .i64 0, .int .u64 0, .int .i64 0]) (by simp [results, Tryd.results38, go_sem]) rfl ⟨below_al hB _, .inr ⟨HN.out, rfl⟩⟩

set_option maxRecDepth 100000 in
set_option maxHeartbeats 4000000 in
theorem rdHead_24 (a : Option Addr) (n c : Nat) (f : UInt8) (r : List UInt8) (w : World) (hn : n = (f :: r).length) (hcc : n ≤ c) (hr : RdB w w.heap.size a (f :: r)) (m : Nat) (hx0 : f.toNat = 32 * m + 24) :
    Calls Tryd.prog 38 #[.slice a n c] w (RdHeadP w (f :: r)) := by
  obtain ⟨b, o, rfl, hb, hc⟩ := hr.cell0
  have hfl := f.toNat_lt
  have hm : m ≤ 7 := by omega
  have HN := Lib.hid (headN_at f r m 24 1 hx0 hm (by decide))
  have HW : Hid (isW ((1 : Nat) : Int) = true) := by simp only [Hid]; decide
  have HU : Hid (U64 (valB (r.take 1) 1)) := by
    have h := numN_u64 r 1
    rw [numN, if_pos HW.out] at h
    exact h
  obtain ⟨y, hy⟩ : ∃ y, y = valB (r.take 1) 1 := ⟨_, rfl⟩
  rw [← hy] at HN HU
  have HY := Lib.hid hy
  obtain ⟨x, hx⟩ : ∃ x, x = f.toNat := ⟨_, rfl⟩
  rw [← hx] at hc hfl hx0
  have hn0 : ((n : Int) == 0) = false := by simp; rintro rfl; simp at hn
  have hn1 : n = r.length + 1 := by rw [hn]; simp
  have hn2 : 0 < n := by omega
  have HR := Lib.hid hr
  have HN1 := Lib.hid hn1
  have q1 : (x : Int).tdiv 32 = (m : Int) := by rw [Int.tdiv_eq_ediv_of_nonneg (by omega)]; omega
  have q2 : (x : Int).tmod 32 = 24 := by rw [Int.tmod_eq_emod_of_nonneg (by omega)]; omega
  have HL : Hid (1 ≤ r.length → ((f :: r).length - (r.drop 1).length : Nat) = 1 + 1) := by simp only [Hid, List.length_cons, List.length_drop]; omega
  clear hn hx hr hy hn1 hx0
  by_cases hle : 1 ≤ r.length
  · have hWn : 2 ≤ n := by have := HN1.out; omega
    have s1 := fun w : World => run_cut2 (P := Tryd.prog) 22 5 Tryd.underlying22 size_u8 (some ⟨b, o, none⟩) n c 1 2 (by omega) (by omega) w
    have s2 := fun w : World => run_cut1h (P := Tryd.prog) 22 5 Tryd.underlying22 size_u8 (some ⟨b, o, none⟩) n c 2 (by omega) w
    have hcut : RdB w w.heap.size (subA (some ⟨b, o, none⟩) 1 c) (r.take 1) := by
      have := HR.out.cut 1 c 1 (by omega)
      simpa using this
    have hlt : (r.take 1).length = 1 := by rw [List.length_take]; omega
    have hs2 : RdB w w.heap.size (some ⟨b, o, none⟩) ((f :: r).take 2) := HR.out.take 2
    have hlt2 : ((f :: r).take 2).length = 2 := by rw [List.length_take, List.length_cons]; omega
    obtain ⟨ss, hss⟩ : ∃ ss, ss = (f :: r).take 2 := ⟨_, rfl⟩
    obtain ⟨hs, hhs⟩ : ∃ hs, hs = headB m y := ⟨_, rfl⟩
    have HHd : Hid (∀ w, Calls Tryd.prog 58 #[.int .i64 m, .int .u64 y] w (JoinP w hs)) := by
      rw [hhs]
      exact fun w => refHead_any m y w hm HU.out
    have HN' : headN (f :: r) = if (hs == ss) = true then some (m, y, r.drop 1) else none := by
      rw [hss, hhs]
      exact HN.out.trans (if_pos hle)
    rw [← hss] at hs2 hlt2
    have HNN := Lib.hid HN'
    have HLL := Lib.hid (HL.out hle)
    simp only [Int.cast_ofNat_Int, Nat.reduceAdd, Nat.reduceSub] at s1 s2
    have d0 : decide ((n : Int) < 2) = false := by simp; omega
    have HC := Lib.hid hcut
    have HLT := Lib.hid hlt
    have HS2 := Lib.hid hs2
    have HLT2 := Lib.hid hlt2
    clear hss hhs HN HN' hcut hlt hle hs2 hlt2 HL
    cases hne : (hs == ss)
    all_goals
      rw [hne] at HNN
      go_enter Tryd.func38, Tryd.ntmps38
      go_wp2_with fail
      go_quiet (fail)
      have hB := below_dr (Below.refl w.heap.size w) nq
      generalize w.drewN nq = wq at hB ⊢
      go_wp2_with fail
      have HB1 := Lib.hid (below_al hB (.cells #[.int .i64 1, .int .i64 2, .int .i64 4, .int .i64 8, .int .i64 0, .int .i64 0, .int .i64 0, .int .i64 0] 3))
      refine (refGet_at _ 1 _ (r.take 1) HLT.out.symm w.heap.size _ HW.out (HC.out.below HB1.out)).mono ?_
      rintro e w1 ⟨rfl, hw1⟩
      rw [← HY.out]
      have HB2 : Hid (Below w.heap.size w w1) := by rw [← hw1]; exact HB1.out
      have HELD : Hid (∀ w', Below w1.heap.size w1 w' → ((convert 22 9 (.slice (some ⟨b, o, none⟩) 2 c)).run Tryd.prog w' = .ok (.string ⟨ss.toArray⟩) w') ∧ Below w1.heap.size w1 w') := fun w' h =>
        ⟨(HS2.out.below (below_on HB2.out h)).text (P := Tryd.prog) 22 9 5 2 c HLT2.out.symm Tryd.underlying22 Tryd.underlying5 Tryd.underlying9, h⟩
      have F0 : Below w1.heap.size w1 w1.drew := (Below.refl _ _).drew
      have HJ := Lib.hid (HHd.out w1.drew)
      clear hw1 hB
      have hwr : IntKind.i64.wrap (1 + 1) = 2 := by rw [IntWalk.i64_in _ (by omega)]; rfl
      have hwr2 : IntKind.i64.wrap 2 = 2 := by rw [IntWalk.i64_in _ (by omega)]
      have hc2 : (2 : Int) ≤ (c : Int) := by omega
      go_wp2
      go_region_held (fun w' => ((convert 22 9 (.slice (some ⟨b, o, none⟩) 2 c)).run Tryd.prog w' = .ok (.string ⟨ss.toArray⟩) w') ∧ Below w1.heap.size w1 w')
        (first | (refine HELD.out _ ?_; with_reducible exact F0) | (refine HELD.out _ ?_; with_reducible exact F1))
        (first
          | (go_at_call 58; refine HJ.out.mono ?_; rintro e W1 ⟨v9, rfl, ho9, hbj⟩; obtain ⟨Aj, cj, rfl, _, hrj, _⟩ := ho9.bytes; have kj := hrj.text (P := Tryd.prog) 22 9 5 _ cj rfl Tryd.underlying22 Tryd.underlying5 Tryd.underlying9; have F1 := F0.trans (hbj.mono F0.size); clear hrj ho9 hbj))
      go_wp2
    · exact bodyPost_ret (v := .tuple #[.int .i64 0, .int .u64 0, .int .i64 0]) (by simp [results, Tryd.results38, go_sem]) rfl ⟨below_on HB2.out F1, .inr ⟨by rw [HNN.out]; rfl, rfl⟩⟩
    · refine bodyPost_ret (v := .tuple #[.int .i64 m, .int .u64 y, .int .i64 2]) (by simp [results, Tryd.results38, go_sem]) rfl ⟨below_on HB2.out F1, .inl ⟨m, y, r.drop 1, by rw [HNN.out]; rfl, ?_⟩⟩
      rw [HLL.out]
      rfl
  · have d0 : decide ((n : Int) < 2) = true := by have := HN1.out; simp; omega
    have HN' : headN (f :: r) = none := HN.out.trans (if_neg hle)
    have HNN := Lib.hid HN'
    clear HN HN' hle
    go_enter Tryd.func38, Tryd.ntmps38
    go_wp2_with fail
    go_quiet (fail)
    have hB := below_dr (Below.refl w.heap.size w) nq
    generalize w.drewN nq = wq at hB ⊢
    go_wp2_with fail
    exact bodyPost_ret (v := .tuple #[.int .i64 0, .int .u64 0, .int .i64 0]) (by simp [results, Tryd.results38, go_sem]) rfl ⟨below_al hB _, .inr ⟨HNN.out, rfl⟩⟩

set_option maxRecDepth 100000 in
set_option maxHeartbeats 4000000 in
theorem rdHead_25 (a : Option Addr) (n c : Nat) (f : UInt8) (r : List UInt8) (w : World) (hn : n = (f :: r).length) (hcc : n ≤ c) (hr : RdB w w.heap.size a (f :: r)) (m : Nat) (hx0 : f.toNat = 32 * m + 25) :
    Calls Tryd.prog 38 #[.slice a n c] w (RdHeadP w (f :: r)) := by
  obtain ⟨b, o, rfl, hb, hc⟩ := hr.cell0
  have hfl := f.toNat_lt
  have hm : m ≤ 7 := by omega
  have HN := Lib.hid (headN_at f r m 25 2 hx0 hm (by decide))
  have HW : Hid (isW ((2 : Nat) : Int) = true) := by simp only [Hid]; decide
  have HU : Hid (U64 (valB (r.take 2) 2)) := by
    have h := numN_u64 r 2
    rw [numN, if_pos HW.out] at h
    exact h
  obtain ⟨y, hy⟩ : ∃ y, y = valB (r.take 2) 2 := ⟨_, rfl⟩
  rw [← hy] at HN HU
  have HY := Lib.hid hy
  obtain ⟨x, hx⟩ : ∃ x, x = f.toNat := ⟨_, rfl⟩
  rw [← hx] at hc hfl hx0
  have hn0 : ((n : Int) == 0) = false := by simp; rintro rfl; simp at hn
  have hn1 : n = r.length + 1 := by rw [hn]; simp
  have hn2 : 0 < n := by omega
  have HR := Lib.hid hr
  have HN1 := Lib.hid hn1
  have q1 : (x : Int).tdiv 32 = (m : Int) := by rw [Int.tdiv_eq_ediv_of_nonneg (by omega)]; omega
  have q2 : (x : Int).tmod 32 = 25 := by rw [Int.tmod_eq_emod_of_nonneg (by omega)]; omega
  have HL : Hid (2 ≤ r.length → ((f :: r).length - (r.drop 2).length : Nat) = 1 + 2) := by simp only [Hid, List.length_cons, List.length_drop]; omega
  clear hn hx hr hy hn1 hx0
  by_cases hle : 2 ≤ r.length
  · have hWn : 3 ≤ n := by have := HN1.out; omega
    have s1 := fun w : World => run_cut2 (P := Tryd.prog) 22 5 Tryd.underlying22 size_u8 (some ⟨b, o, none⟩) n c 1 3 (by omega) (by omega) w
    have s2 := fun w : World => run_cut1h (P := Tryd.prog) 22 5 Tryd.underlying22 size_u8 (some ⟨b, o, none⟩) n c 3 (by omega) w
    have hcut : RdB w w.heap.size (subA (some ⟨b, o, none⟩) 1 c) (r.take 2) := by
      have := HR.out.cut 1 c 2 (by omega)
      simpa using this
    have hlt : (r.take 2).length = 2 := by rw [List.length_take]; omega
    have hs2 : RdB w w.heap.size (some ⟨b, o, none⟩) ((f :: r).take 3) := HR.out.take 3
    have hlt2 : ((f :: r).take 3).length = 3 := by rw [List.length_take, List.length_cons]; omega
    obtain ⟨ss, hss⟩ : ∃ ss, ss = (f :: r).take 3 := ⟨_, rfl⟩
    obtain ⟨hs, hhs⟩ : ∃ hs, hs = headB m y := ⟨_, rfl⟩
    have HHd : Hid (∀ w, Calls Tryd.prog 58 #[.int .i64 m, .int .u64 y] w (JoinP w hs)) := by
      rw [hhs]
      exact fun w => refHead_any m y w hm HU.out
    have HN' : headN (f :: r) = if (hs == ss) = true then some (m, y, r.drop 2) else none := by
      rw [hss, hhs]
      exact HN.out.trans (if_pos hle)
    rw [← hss] at hs2 hlt2
    have HNN := Lib.hid HN'
    have HLL := Lib.hid (HL.out hle)
    simp only [Int.cast_ofNat_Int, Nat.reduceAdd, Nat.reduceSub] at s1 s2
    have d0 : decide ((n : Int) < 3) = false := by simp; omega
    have HC := Lib.hid hcut
    have HLT := Lib.hid hlt
    have HS2 := Lib.hid hs2
    have HLT2 := Lib.hid hlt2
    clear hss hhs HN HN' hcut hlt hle hs2 hlt2 HL
    cases hne : (hs == ss)
    all_goals
      rw [hne] at HNN
      go_enter Tryd.func38, Tryd.ntmps38
      go_wp2_with fail
      go_quiet (fail)
      have hB := below_dr (Below.refl w.heap.size w) nq
      generalize w.drewN nq = wq at hB ⊢
      go_wp2_with fail
      have HB1 := Lib.hid (below_al hB (.cells #[.int .i64 1, .int .i64 2, .int .i64 4, .int .i64 8, .int .i64 0, .int .i64 0, .int .i64 0, .int .i64 0] 3))
      refine (refGet_at _ 2 _ (r.take 2) HLT.out.symm w.heap.size _ HW.out (HC.out.below HB1.out)).mono ?_
      rintro e w1 ⟨rfl, hw1⟩
      rw [← HY.out]
      have HB2 : Hid (Below w.heap.size w w1) := by rw [← hw1]; exact HB1.out
      have HELD : Hid (∀ w', Below w1.heap.size w1 w' → ((convert 22 9 (.slice (some ⟨b, o, none⟩) 3 c)).run Tryd.prog w' = .ok (.string ⟨ss.toArray⟩) w') ∧ Below w1.heap.size w1 w') := fun w' h =>
        ⟨(HS2.out.below (below_on HB2.out h)).text (P := Tryd.prog) 22 9 5 3 c HLT2.out.symm Tryd.underlying22 Tryd.underlying5 Tryd.underlying9, h⟩
      have F0 : Below w1.heap.size w1 w1.drew := (Below.refl _ _).drew
      have HJ := Lib.hid (HHd.out w1.drew)
      clear hw1 hB
      have hwr : IntKind.i64.wrap (1 + 2) = 3 := by rw [IntWalk.i64_in _ (by omega)]; rfl
      have hwr2 : IntKind.i64.wrap 3 = 3 := by rw [IntWalk.i64_in _ (by omega)]
      have hc2 : (3 : Int) ≤ (c : Int) := by omega
      go_wp2
      go_region_held (fun w' => ((convert 22 9 (.slice (some ⟨b, o, none⟩) 3 c)).run Tryd.prog w' = .ok (.string ⟨ss.toArray⟩) w') ∧ Below w1.heap.size w1 w')
        (first | (refine HELD.out _ ?_; with_reducible exact F0) | (refine HELD.out _ ?_; with_reducible exact F1))
        (first
          | (go_at_call 58; refine HJ.out.mono ?_; rintro e W1 ⟨v9, rfl, ho9, hbj⟩; obtain ⟨Aj, cj, rfl, _, hrj, _⟩ := ho9.bytes; have kj := hrj.text (P := Tryd.prog) 22 9 5 _ cj rfl Tryd.underlying22 Tryd.underlying5 Tryd.underlying9; have F1 := F0.trans (hbj.mono F0.size); clear hrj ho9 hbj))
      go_wp2
    · exact bodyPost_ret (v := .tuple #[.int .i64 0, .int .u64 0, .int .i64 0]) (by simp [results, Tryd.results38, go_sem]) rfl ⟨below_on HB2.out F1, .inr ⟨by rw [HNN.out]; rfl, rfl⟩⟩
    · refine bodyPost_ret (v := .tuple #[.int .i64 m, .int .u64 y, .int .i64 3]) (by simp [results, Tryd.results38, go_sem]) rfl ⟨below_on HB2.out F1, .inl ⟨m, y, r.drop 2, by rw [HNN.out]; rfl, ?_⟩⟩
      rw [HLL.out]
      rfl
  · have d0 : decide ((n : Int) < 3) = true := by have := HN1.out; simp; omega
    have HN' : headN (f :: r) = none := HN.out.trans (if_neg hle)
    have HNN := Lib.hid HN'
    clear HN HN' hle
    go_enter Tryd.func38, Tryd.ntmps38
    go_wp2_with fail
    go_quiet (fail)
    have hB := below_dr (Below.refl w.heap.size w) nq
    generalize w.drewN nq = wq at hB ⊢
    go_wp2_with fail
    exact bodyPost_ret (v := .tuple #[.int .i64 0, .int .u64 0, .int .i64 0]) (by simp [results, Tryd.results38, go_sem]) rfl ⟨below_al hB _, .inr ⟨HNN.out, rfl⟩⟩

set_option maxRecDepth 100000 in
set_option maxHeartbeats 4000000 in
theorem rdHead_26 (a : Option Addr) (n c : Nat) (f : UInt8) (r : List UInt8) (w : World) (hn : n = (f :: r).length) (hcc : n ≤ c) (hr : RdB w w.heap.size a (f :: r)) (m : Nat) (hx0 : f.toNat = 32 * m + 26) :
    Calls Tryd.prog 38 #[.slice a n c] w (RdHeadP w (f :: r)) := by
  obtain ⟨b, o, rfl, hb, hc⟩ := hr.cell0
  have hfl := f.toNat_lt
  have hm : m ≤ 7 := by omega
  have HN := Lib.hid (headN_at f r m 26 4 hx0 hm (by decide))
  have HW : Hid (isW ((4 : Nat) : Int) = true) := by simp only [Hid]; decide
  have HU : Hid (U64 (valB (r.take 4) 4)) := by
    have h := numN_u64 r 4
    rw [numN, if_pos HW.out] at h
    exact h
  obtain ⟨y, hy⟩ : ∃ y, y = valB (r.take 4) 4 := ⟨_, rfl⟩
  rw [← hy] at HN HU
  have HY := Lib.hid hy
  obtain ⟨x, hx⟩ : ∃ x, x = f.toNat := ⟨_, rfl⟩
  rw [← hx] at hc hfl hx0
  have hn0 : ((n : Int) == 0) = false := by simp; rintro rfl; simp at hn
  have hn1 : n = r.length + 1 := by rw [hn]; simp
  have hn2 : 0 < n := by omega
  have HR := Lib.hid hr
  have HN1 := Lib.hid hn1
  have q1 : (x : Int).tdiv 32 = (m : Int) := by rw [Int.tdiv_eq_ediv_of_nonneg (by omega)]; omega
  have q2 : (x : Int).tmod 32 = 26 := by rw [Int.tmod_eq_emod_of_nonneg (by omega)]; omega
  have HL : Hid (4 ≤ r.length → ((f :: r).length - (r.drop 4).length : Nat) = 1 + 4) := by simp only [Hid, List.length_cons, List.length_drop]; omega
  clear hn hx hr hy hn1 hx0
  by_cases hle : 4 ≤ r.length
  · have hWn : 5 ≤ n := by have := HN1.out; omega
    have s1 := fun w : World => run_cut2 (P := Tryd.prog) 22 5 Tryd.underlying22 size_u8 (some ⟨b, o, none⟩) n c 1 5 (by omega) (by omega) w
    have s2 := fun w : World => run_cut1h (P := Tryd.prog) 22 5 Tryd.underlying22 size_u8 (some ⟨b, o, none⟩) n c 5 (by omega) w
    have hcut : RdB w w.heap.size (subA (some ⟨b, o, none⟩) 1 c) (r.take 4) := by
      have := HR.out.cut 1 c 4 (by omega)
      simpa using this
    have hlt : (r.take 4).length = 4 := by rw [List.length_take]; omega
    have hs2 : RdB w w.heap.size (some ⟨b, o, none⟩) ((f :: r).take 5) := HR.out.take 5
    have hlt2 : ((f :: r).take 5).length = 5 := by rw [List.length_take, List.length_cons]; omega
    obtain ⟨ss, hss⟩ : ∃ ss, ss = (f :: r).take 5 := ⟨_, rfl⟩
    obtain ⟨hs, hhs⟩ : ∃ hs, hs = headB m y := ⟨_, rfl⟩
    have HHd : Hid (∀ w, Calls Tryd.prog 58 #[.int .i64 m, .int .u64 y] w (JoinP w hs)) := by
      rw [hhs]
      exact fun w => refHead_any m y w hm HU.out
    have HN' : headN (f :: r) = if (hs == ss) = true then some (m, y, r.drop 4) else none := by
      rw [hss, hhs]
      exact HN.out.trans (if_pos hle)
    rw [← hss] at hs2 hlt2
    have HNN := Lib.hid HN'
    have HLL := Lib.hid (HL.out hle)
    simp only [Int.cast_ofNat_Int, Nat.reduceAdd, Nat.reduceSub] at s1 s2
    have d0 : decide ((n : Int) < 5) = false := by simp; omega
    have HC := Lib.hid hcut
    have HLT := Lib.hid hlt
    have HS2 := Lib.hid hs2
    have HLT2 := Lib.hid hlt2
    clear hss hhs HN HN' hcut hlt hle hs2 hlt2 HL
    cases hne : (hs == ss)
    all_goals
      rw [hne] at HNN
      go_enter Tryd.func38, Tryd.ntmps38
      go_wp2_with fail
      go_quiet (fail)
      have hB := below_dr (Below.refl w.heap.size w) nq
      generalize w.drewN nq = wq at hB ⊢
      go_wp2_with fail
      have HB1 := Lib.hid (below_al hB (.cells #[.int .i64 1, .int .i64 2, .int .i64 4, .int .i64 8, .int .i64 0, .int .i64 0, .int .i64 0, .int .i64 0] 3))
      refine (refGet_at _ 4 _ (r.take 4) HLT.out.symm w.heap.size _ HW.out (HC.out.below HB1.out)).mono ?_
      rintro e w1 ⟨rfl, hw1⟩
      rw [← HY.out]
      have HB2 : Hid (Below w.heap.size w w1) := by rw [← hw1]; exact HB1.out
      have HELD : Hid (∀ w', Below w1.heap.size w1 w' → ((convert 22 9 (.slice (some ⟨b, o, none⟩) 5 c)).run Tryd.prog w' = .ok (.string ⟨ss.toArray⟩) w') ∧ Below w1.heap.size w1 w') := fun w' h =>
        ⟨(HS2.out.below (below_on HB2.out h)).text (P := Tryd.prog) 22 9 5 5 c HLT2.out.symm Tryd.underlying22 Tryd.underlying5 Tryd.underlying9, h⟩
      have F0 : Below w1.heap.size w1 w1.drew := (Below.refl _ _).drew
      have HJ := Lib.hid (HHd.out w1.drew)
      clear hw1 hB
      have hwr : IntKind.i64.wrap (1 + 4) = 5 := by rw [IntWalk.i64_in _ (by omega)]; rfl
      have hwr2 : IntKind.i64.wrap 5 = 5 := by rw [IntWalk.i64_in _ (by omega)]
      have hc2 : (5 : Int) ≤ (c : Int) := by omega
      go_wp2
      go_region_held (fun w' => ((convert 22 9 (.slice (some ⟨b, o, none⟩) 5 c)).run Tryd.prog w' = .ok (.string ⟨ss.toArray⟩) w') ∧ Below w1.heap.size w1 w')
        (first | (refine HELD.out _ ?_; with_reducible exact F0) | (refine HELD.out _ ?_; with_reducible exact F1))
        (first
          | (go_at_call 58; refine HJ.out.mono ?_; rintro e W1 ⟨v9, rfl, ho9, hbj⟩; obtain ⟨Aj, cj, rfl, _, hrj, _⟩ := ho9.bytes; have kj := hrj.text (P := Tryd.prog) 22 9 5 _ cj rfl Tryd.underlying22 Tryd.underlying5 Tryd.underlying9; have F1 := F0.trans (hbj.mono F0.size); clear hrj ho9 hbj))
      go_wp2
    · exact bodyPost_ret (v := .tuple #[.int .i64 0, .int .u64 0, .int .i64 0]) (by simp [results, Tryd.results38, go_sem]) rfl ⟨below_on HB2.out F1, .inr ⟨by rw [HNN.out]; rfl, rfl⟩⟩
    · refine bodyPost_ret (v := .tuple #[.int .i64 m, .int .u64 y, .int .i64 5]) (by simp [results, Tryd.results38, go_sem]) rfl ⟨below_on HB2.out F1, .inl ⟨m, y, r.drop 4, by rw [HNN.out]; rfl, ?_⟩⟩
      rw [HLL.out]
      rfl
  · have d0 : decide ((n : Int) < 5) = true := by have := HN1.out; simp; omega
    have HN' : headN (f :: r) = none := HN.out.trans (if_neg hle)
    have HNN := Lib.hid HN'
    clear HN HN' hle
    go_enter Tryd.func38, Tryd.ntmps38
    go_wp2_with fail
    go_quiet (fail)
    have hB := below_dr (Below.refl w.heap.size w) nq
    generalize w.drewN nq = wq at hB ⊢
    go_wp2_with fail
    exact bodyPost_ret (v := .tuple #[.int .i64 0, .int .u64 0, .int .i64 0]) (by simp [results, Tryd.results38, go_sem]) rfl ⟨below_al hB _, .inr ⟨HNN.out, rfl⟩⟩

set_option maxRecDepth 100000 in
set_option maxHeartbeats 4000000 in
theorem rdHead_27 (a : Option Addr) (n c : Nat) (f : UInt8) (r : List UInt8) (w : World) (hn : n = (f :: r).length) (hcc : n ≤ c) (hr : RdB w w.heap.size a (f :: r)) (m : Nat) (hx0 : f.toNat = 32 * m + 27) :
    Calls Tryd.prog 38 #[.slice a n c] w (RdHeadP w (f :: r)) := by
  obtain ⟨b, o, rfl, hb, hc⟩ := hr.cell0
  have hfl := f.toNat_lt
  have hm : m ≤ 7 := by omega
  have HN := Lib.hid (headN_at f r m 27 8 hx0 hm (by decide))
  have HW : Hid (isW ((8 : Nat) : Int) = true) := by simp only [Hid]; decide
  have HU : Hid (U64 (valB (r.take 8) 8)) := by
    have h := numN_u64 r 8
    rw [numN, if_pos HW.out] at h
    exact h
  obtain ⟨y, hy⟩ : ∃ y, y = valB (r.take 8) 8 := ⟨_, rfl⟩
  rw [← hy] at HN HU
  have HY := Lib.hid hy
  obtain ⟨x, hx⟩ : ∃ x, x = f.toNat := ⟨_, rfl⟩
  rw [← hx] at hc hfl hx0
  have hn0 : ((n : Int) == 0) = false := by simp; rintro rfl; simp at hn
  have hn1 : n = r.length + 1 := by rw [hn]; simp
  have hn2 : 0 < n := by omega
  have HR := Lib.hid hr
  have HN1 := Lib.hid hn1
  have q1 : (x : Int).tdiv 32 = (m : Int) := by rw [Int.tdiv_eq_ediv_of_nonneg (by omega)]; omega
  have q2 : (x : Int).tmod 32 = 27 := by rw [Int.tmod_eq_emod_of_nonneg (by omega)]; omega
  have HL : Hid (8 ≤ r.length → ((f :: r).length - (r.drop 8).length : Nat) = 1 + 8) := by simp only [Hid, List.length_cons, List.length_drop]; omega
  clear hn hx hr hy hn1 hx0
  by_cases hle : 8 ≤ r.length
  · have hWn : 9 ≤ n := by have := HN1.out; omega
    have s1 := fun w : World => run_cut2 (P := Tryd.prog) 22 5 Tryd.underlying22 size_u8 (some ⟨b, o, none⟩) n c 1 9 (by omega) (by omega) w
    have s2 := fun w : World => run_cut1h (P := Tryd.prog) 22 5 Tryd.underlying22 size_u8 (some ⟨b, o, none⟩) n c 9 (by omega) w
    have hcut : RdB w w.heap.size (subA (some ⟨b, o, none⟩) 1 c) (r.take 8) := by
      have := HR.out.cut 1 c 8 (by omega)
      simpa using this
    have hlt : (r.take 8).length = 8 := by rw [List.length_take]; omega
    have hs2 : RdB w w.heap.size (some ⟨b, o, none⟩) ((f :: r).take 9) := HR.out.take 9
    have hlt2 : ((f :: r).take 9).length = 9 := by rw [List.length_take, List.length_cons]; omega
    obtain ⟨ss, hss⟩ : ∃ ss, ss = (f :: r).take 9 := ⟨_, rfl⟩
    obtain ⟨hs, hhs⟩ : ∃ hs, hs = headB m y := ⟨_, rfl⟩
    have HHd : Hid (∀ w, Calls Tryd.prog 58 #[.int .i64 m, .int .u64 y] w (JoinP w hs)) := by
      rw [hhs]
      exact fun w => refHead_any m y w hm HU.out
    have HN' : headN (f :: r) = if (hs == ss) = true then some (m, y, r.drop 8) else none := by
      rw [hss, hhs]
      exact HN.out.trans (if_pos hle)
    rw [← hss] at hs2 hlt2
    have HNN := Lib.hid HN'
    have HLL := Lib.hid (HL.out hle)
    simp only [Int.cast_ofNat_Int, Nat.reduceAdd, Nat.reduceSub] at s1 s2
    have d0 : decide ((n : Int) < 9) = false := by simp; omega
    have HC := Lib.hid hcut
    have HLT := Lib.hid hlt
    have HS2 := Lib.hid hs2
    have HLT2 := Lib.hid hlt2
    clear hss hhs HN HN' hcut hlt hle hs2 hlt2 HL
    cases hne : (hs == ss)
    all_goals
      rw [hne] at HNN
      go_enter Tryd.func38, Tryd.ntmps38
      go_wp2_with fail
      go_quiet (fail)
      have hB := below_dr (Below.refl w.heap.size w) nq
      generalize w.drewN nq = wq at hB ⊢
      go_wp2_with fail
      have HB1 := Lib.hid (below_al hB (.cells #[.int .i64 1, .int .i64 2, .int .i64 4, .int .i64 8, .int .i64 0, .int .i64 0, .int .i64 0, .int .i64 0] 3))
      refine (refGet_at _ 8 _ (r.take 8) HLT.out.symm w.heap.size _ HW.out (HC.out.below HB1.out)).mono ?_
      rintro e w1 ⟨rfl, hw1⟩
      rw [← HY.out]
      have HB2 : Hid (Below w.heap.size w w1) := by rw [← hw1]; exact HB1.out
      have HELD : Hid (∀ w', Below w1.heap.size w1 w' → ((convert 22 9 (.slice (some ⟨b, o, none⟩) 9 c)).run Tryd.prog w' = .ok (.string ⟨ss.toArray⟩) w') ∧ Below w1.heap.size w1 w') := fun w' h =>
        ⟨(HS2.out.below (below_on HB2.out h)).text (P := Tryd.prog) 22 9 5 9 c HLT2.out.symm Tryd.underlying22 Tryd.underlying5 Tryd.underlying9, h⟩
      have F0 : Below w1.heap.size w1 w1.drew := (Below.refl _ _).drew
      have HJ := Lib.hid (HHd.out w1.drew)
      clear hw1 hB
      have hwr : IntKind.i64.wrap (1 + 8) = 9 := by rw [IntWalk.i64_in _ (by omega)]; rfl
      have hwr2 : IntKind.i64.wrap 9 = 9 := by rw [IntWalk.i64_in _ (by omega)]
      have hc2 : (9 : Int) ≤ (c : Int) := by omega
      go_wp2
      go_region_held (fun w' => ((convert 22 9 (.slice (some ⟨b, o, none⟩) 9 c)).run Tryd.prog w' = .ok (.string ⟨ss.toArray⟩) w') ∧ Below w1.heap.size w1 w')
        (first | (refine HELD.out _ ?_; with_reducible exact F0) | (refine HELD.out _ ?_; with_reducible exact F1))
        (first
          | (go_at_call 58; refine HJ.out.mono ?_; rintro e W1 ⟨v9, rfl, ho9, hbj⟩; obtain ⟨Aj, cj, rfl, _, hrj, _⟩ := ho9.bytes; have kj := hrj.text (P := Tryd.prog) 22 9 5 _ cj rfl Tryd.underlying22 Tryd.underlying5 Tryd.underlying9; have F1 := F0.trans (hbj.mono F0.size); clear hrj ho9 hbj))
      go_wp2
    · exact bodyPost_ret (v := .tuple #[.int .i64 0, .int .u64 0, .int .i64 0]) (by simp [results, Tryd.results38, go_sem]) rfl ⟨below_on HB2.out F1, .inr ⟨by rw [HNN.out]; rfl, rfl⟩⟩
    · refine bodyPost_ret (v := .tuple #[.int .i64 m, .int .u64 y, .int .i64 9]) (by simp [results, Tryd.results38, go_sem]) rfl ⟨below_on HB2.out F1, .inl ⟨m, y, r.drop 8, by rw [HNN.out]; rfl, ?_⟩⟩
      rw [HLL.out]
      rfl
  · have d0 : decide ((n : Int) < 9) = true := by have := HN1.out; simp; omega
    have HN' : headN (f :: r) = none := HN.out.trans (if_neg hle)
    have HNN := Lib.hid HN'
    clear HN HN' hle
    go_enter Tryd.func38, Tryd.ntmps38
    go_wp2_with fail
    go_quiet (fail)
    have hB := below_dr (Below.refl w.heap.size w) nq
    generalize w.drewN nq = wq at hB ⊢
    go_wp2_with fail
    exact bodyPost_ret (v := .tuple #[.int .i64 0, .int .u64 0, .int .i64 0]) (by simp [results, Tryd.results38, go_sem]) rfl ⟨below_al hB _, .inr ⟨HNN.out, rfl⟩⟩

theorem rdHead_nil (a : Option Addr) (c : Nat) (w : World) :
    Calls Tryd.prog 38 #[.slice a 0 c] w (RdHeadP w []) := by
  go_enter Tryd.func38, Tryd.ntmps38
  go_wp2_with fail
  exact bodyPost_ret (v := .tuple #[.int .i64 0, .int .u64 0, .int .i64 0]) (by simp [results, Tryd.results38, go_sem]) rfl ⟨Below.refl _ _, .inr ⟨rfl, rfl⟩⟩

theorem rdHead_any (a : Option Addr) (n c : Nat) (bs : List UInt8) (w : World) (hn : n = bs.length) (hcc : n ≤ c) (hr : RdB w w.heap.size a bs) :
    Calls Tryd.prog 38 #[.slice a n c] w (RdHeadP w bs) := by
  cases bs with
  | nil =>
    subst hn
    exact rdHead_nil a c w
  | cons f r =>
    have hm := Nat.div_add_mod f.toNat 32
    by_cases h : f.toNat % 32 < 24
    · exact rdHead_low a n c f r w hn hr h
    by_cases h8 : 28 ≤ f.toNat % 32
    · exact rdHead_odd a n c f r w hn hr h8
    have hl : f.toNat % 32 = 24 ∨ f.toNat % 32 = 25 ∨ f.toNat % 32 = 26 ∨ f.toNat % 32 = 27 := by omega
    rcases hl with hl | hl | hl | hl
    · exact rdHead_24 a n c f r w hn hcc hr (f.toNat / 32) (by omega)
    · exact rdHead_25 a n c f r w hn hcc hr (f.toNat / 32) (by omega)
    · exact rdHead_26 a n c f r w hn hcc hr (f.toNat / 32) (by omega)
    · exact rdHead_27 a n c f r w hn hcc hr (f.toNat / 32) (by omega)

end Go.Proofs.YtncemmhbbkpieaaDoor
