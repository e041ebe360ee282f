/- Joined texts. -/
import Derived.Test.YteldifnkeekafaaGreatDoorZKp
import Derived.Test.YteldifnkeekafaaGreatDoorZKq
import Derived.Test.YteldifnkeekafaaGreatDoorZCa
import Derived.Deep.QuietTactic
import Derived.BigQuiet
import Derived.IntWalk
import Derived.Test.YteldifnkeekafaaGreatDoorZKv
set_option maxHeartbeats 4000000
set_option linter.unusedSimpArgs false
set_option linter.unusedVariables false
namespace Go.Proofs.YteldifnkeekafaaGreatDoor
open Go.RowKit Go.Shelf

theorem lg_inj {W W' : Nat} (h : isW (W : Int) = true) (h' : isW (W' : Int) = true) (e : lg W = lg W') : W = W' := by
 have h1 := lg_pow h
 have h2 := lg_pow h'
 rw [e] at h1
 omega

theorem ofNat_toNat {k : Nat} (h : k < 256) : (UInt8.ofNat k).toNat = k := by
 rw [UInt8.toNat_ofNat']
 omega

theorem begins_head (f : UInt8) (r : List UInt8) (m W : Nat) (n : Int) (hm : m ≤ 7) (hn : U64 n) (hW : isW (W : Int) = true) (hf : f.toNat = 32 * m + 24 + lg W) (hl : W ≤ r.length) :
  begins (f :: r) (headB m n) = (headB m n == (f :: r).take (W + 1)) := by
 have hlg := lg_le W
 by_cases h : n < 24
 ·rw [headB_small m n h]
  have e : ¬ (f = UInt8.ofNat (32 * m + n.toNat)) := by
   intro e
   have h0 := hn.1
   rw [e, ofNat_toNat (by omega)] at hf
   omega
  generalize UInt8.ofNat (32 * m + n.toNat) = u at e
  have e1 : begins (f :: r) [u] = false := by
   simp [begins, e]
  have e2 : ([u] == (f :: r).take (W + 1)) = false := by
   simp [List.take_succ_cons]
   intro e3
   exact absurd e3.symm e
  rw [e1, e2]
 ·obtain ⟨W', hW', hi, _⟩ := least_good n
  rw [headB_wide m n h W' hW']
  have hlg' := lg_le W'
  by_cases e : W' = W
  ·subst e
   have hlen : ([UInt8.ofNat (32 * m + 24 + lg W')] ++ beB W' n).length = W' + 1 := by simp [beB_length]
   rw [begins, hlen]
   rw [show decide (W' + 1 ≤ (f :: r).length) = true by simp; omega, Bool.true_and, Bool.beq_comm]
  ·have e' : ¬ (f = UInt8.ofNat (32 * m + 24 + lg W')) := by
     intro e3
     rw [e3, ofNat_toNat (by omega)] at hf
     exact e (lg_inj hi hW (by omega))
   generalize UInt8.ofNat (32 * m + 24 + lg W') = u at e'
   have e1 : begins (f :: r) ([u] ++ beB W' n) = false := by
    simp [begins, e', List.take_succ_cons]
   have e2 : (([u] ++ beB W' n) == (f :: r).take (W + 1)) = false := by
    simp [List.take_succ_cons]
    intro e3
    exact absurd e3.symm e'
   rw [e1, e2]

theorem headN_at (f : UInt8) (r : List UInt8) (m l W : Nat) (hx : f.toNat = 32 * m + l) (hm : m ≤ 7) (hlW : (l = 24 ∧ W = 1) ∨ (l = 25 ∧ W = 2) ∨ (l = 26 ∧ W = 4) ∨ (l = 27 ∧ W = 8)) :
  headN (f :: r) = if W ≤ r.length then (if (headB m (valB (r.take W) W) == (f :: r).take (W + 1)) = true then some (m, valB (r.take W) W, r.drop W) else none) else none := by
 have hW : isW (W : Int) = true := by rcases hlW with ⟨_, rfl⟩ | ⟨_, rfl⟩ | ⟨_, rfl⟩ | ⟨_, rfl⟩ <;> decide
 have hl : l = 24 + lg W := by rcases hlW with ⟨rfl, rfl⟩ | ⟨rfl, rfl⟩ | ⟨rfl, rfl⟩ | ⟨rfl, rfl⟩ <;> decide
 have hlg := lg_le W
 have e1 : f.toNat / 32 = m := by omega
 have e2 : W = 2 ^ (f.toNat % 32 - 24) := by
  rw [show f.toNat % 32 - 24 = lg W by omega, lg_pow hW]
 have hN : numN r W = valB (r.take W) W := if_pos hW
 rw [headN_wide f r W e2 (by omega), e1, hN]
 by_cases hle : W ≤ r.length
 ·rw [if_pos hle, if_pos hle, begins_head f r m W _ hm (by rw [← hN]; exact numN_u64 r W) hW (by omega) hle]
 ·rw [if_neg hle, if_neg hle]

theorem headN_odd (f : UInt8) (r : List UInt8) (h : 28 ≤ f.toNat % 32) : headN (f :: r) = none := by
 have hl : f.toNat % 32 - 24 = 4 ∨ f.toNat % 32 - 24 = 5 ∨ f.toNat % 32 - 24 = 6 ∨ f.toNat % 32 - 24 = 7 := by omega
 have hlt := f.toNat_lt
 have hb : begins (f :: r) (headB (f.toNat / 32) 0) = false := by
  rw [headB_small _ _ (by decide)]
  have e : ¬ (f = UInt8.ofNat (32 * (f.toNat / 32) + Int.toNat 0)) := by
   intro e
   have h1 := congrArg UInt8.toNat e
   rw [ofNat_toNat (by simp; omega)] at h1
   simp at h1
   omega
  simp only [begins, List.length_cons, List.length_nil, List.take_succ_cons, List.take_zero]
  simp
  intro h
  exact absurd h (by simpa using e)
 rw [headN_wide f r _ rfl (by omega)]
 have hN : numN r (2 ^ (f.toNat % 32 - 24)) = 0 := by
  unfold numN
  rw [if_neg]
  rcases hl with h | h | h | h <;> rw [h] <;> decide
 rw [hN, hb]
 simp

theorem refGet_at (a : Option Addr) (n c : Nat) (bs : List UInt8) (hn : n = bs.length) (B : Nat) (w : World) (hx : isW (n : Int) = true) (hr : RdB w B a bs) :
  Calls Tryz.prog 123 #[.slice a n c] w fun e w' => e = .returned (.tuple #[.int .u64 (valB bs n), .int .i64 0]) ∧ w = w' := by
 subst hn
 exact refGet_ok a c bs B w hx hr

def RdHeadP (w : World) (bs : List UInt8) (e : Ending) (w' : World) : Prop :=
 Below w.heap.size w w' ∧ ((∃ m n r, headN bs = some (m, n, r) ∧ e = .returned (.tuple #[.int .i64 (m : Nat), .int .u64 n, .int .i64 ((bs.length - r.length : Nat) : Int)])) ∨ (headN bs = none ∧ e = .returned (.tuple #[.int .i64 0, .int .u64 0, .int .i64 0])))

theorem RdB.cell0 {w : World} {B : Nat} {a : Option Addr} {f : UInt8} {r : List UInt8} (h : RdB w B a (f :: r)) : ∃ b o, a = some ⟨b, o, none⟩ ∧ b < B ∧ w.cell? ⟨b, o, none⟩ = some (.int .u8 (f.toNat : Int)) := by
 rcases h with h | ⟨b, o, h1, h2, h3⟩
 ·cases h
 ·exact ⟨b, o, h1, h2, by simpa [byteAt] using h3 0 (by simp)⟩

set_option maxRecDepth 100000 in
theorem rdHead_low (a : Option Addr) (n c : Nat) (f : UInt8) (r : List UInt8) (w : World) (hn : n = (f :: r).length) (hr : RdB w w.heap.size a (f :: r)) (h : f.toNat % 32 < 24) :
  Calls Tryz.prog 104 #[.slice a n c] w (RdHeadP w (f :: r)) := by
 obtain ⟨b, o, rfl, hb, hc⟩ := hr.cell0
 have HN : Hid (headN (f :: r) = some (f.toNat / 32, ((f.toNat % 32 : Nat) : Int), r)) := by simp only [Hid, headN, h, if_true]
 have HL : Hid (((f :: r).length - r.length : Nat) = 1) := by simp [Hid]
 have hfl := f.toNat_lt
 obtain ⟨x, hx⟩ : ∃ x, x = f.toNat := ⟨_, rfl⟩
 rw [← hx] at hc hfl h HN
 have hn0 : ((n : Int) == 0) = false := by simp; rintro rfl; simp at hn
 have hn1 : 0 < n := by rw [hn]; simp
 clear hn hx hr
 have q1 : (x : Int).tdiv 32 = (x : Int) / 32 := Int.tdiv_eq_ediv_of_nonneg (by omega)
 have q2 : (x : Int).tmod 32 = (x : Int) % 32 := Int.tmod_eq_emod_of_nonneg (by omega)
 have q3 : decide ((x : Int) % 32 < 24) = true := by simp; omega
 go_enter Tryz.func104, Tryz.ntmps104
 go_wp2_with fail
 go_quiet (fail)
 go_wp2_with fail
 refine bodyPost_ret (v := .tuple #[.int .i64 ((x : Int) / 32), .int .u64 ((x : Int) % 32), .int .i64 1]) (by simp [results, Tryz.results104, go_sem]) rfl ⟨below_dr bR _, .inl ⟨x / 32, ((x % 32 : Nat) : Int), r, HN.out, ?_⟩⟩
 rw [HL.out]
 simp

theorem rdHead_odd (a : Option Addr) (n c : Nat) (f : UInt8) (r : List UInt8) (w : World) (hn : n = (f :: r).length) (hr : RdB w w.heap.size a (f :: r)) (h : 28 ≤ f.toNat % 32) :
  Calls Tryz.prog 104 #[.slice a n c] w (RdHeadP w (f :: r)) := by
 obtain ⟨b, o, rfl, hb, hc⟩ := hr.cell0
 have HN : Hid (headN (f :: r) = none) := headN_odd f r h
 have hfl := f.toNat_lt
 obtain ⟨x, hx⟩ : ∃ x, x = f.toNat := ⟨_, rfl⟩
 rw [← hx] at hc hfl h
 have hn0 : ((n : Int) == 0) = false := by simp; rintro rfl; simp at hn
 have hn1 : 0 < n := by rw [hn]; simp
 clear hn hx hr
 have hl : x % 32 = 28 ∨ x % 32 = 29 ∨ x % 32 = 30 ∨ x % 32 = 31 := by omega
 have q1 : (x : Int).tdiv 32 = (x : Int) / 32 := Int.tdiv_eq_ediv_of_nonneg (by omega)
 rcases hl with hl | hl | hl | hl
 all_goals
  have q2 : (x : Int).tmod 32 = ((x % 32 : Nat) : Int) := by rw [Int.tmod_eq_emod_of_nonneg (by omega)]; omega
  rw [hl] at q2
  simp only [Int.cast_ofNat_Int] at q2
  clear hl h
  go_enter Tryz.func104, Tryz.ntmps104
  go_wp2_with fail
  go_quiet (fail)
  have hB := below_dr (Below.refl w.heap.size w) nq
  generalize w.drewN nq = wq at hB ⊢
  go_wp2_with fail
  exact bodyPost_ret (v := .tuple #[.int .i64 0, .int .u64 0, .int .i64 0]) (by simp [results, Tryz.results104, go_sem]) rfl ⟨below_al hB _, .inr ⟨HN.out, rfl⟩⟩

set_option maxRecDepth 100000 in
theorem rdHead_24 (a : Option Addr) (n c : Nat) (f : UInt8) (r : List UInt8) (w : World) (hn : n = (f :: r).length) (hcc : n ≤ c) (hr : RdB w w.heap.size a (f :: r)) (m : Nat) (hx0 : f.toNat = 32 * m + 24) :
  Calls Tryz.prog 104 #[.slice a n c] w (RdHeadP w (f :: r)) := by
 obtain ⟨b, o, rfl, hb, hc⟩ := hr.cell0
 have hfl := f.toNat_lt
 have hm : m ≤ 7 := by omega
 have HN := h_ (headN_at f r m 24 1 hx0 hm (by decide))
 have HW : Hid (isW ((1 : Nat) : Int) = true) := by simp only [Hid]; decide
 have HU : Hid (U64 (valB (r.take 1) 1)) := by
  have h := numN_u64 r 1
  rw [numN, if_pos HW.out] at h
  exact h
 obtain ⟨y, hy⟩ : ∃ y, y = valB (r.take 1) 1 := ⟨_, rfl⟩
 rw [← hy] at HN HU
 have HY := h_ hy
 obtain ⟨x, hx⟩ : ∃ x, x = f.toNat := ⟨_, rfl⟩
 rw [← hx] at hc hfl hx0
 have hn0 : ((n : Int) == 0) = false := by simp; rintro rfl; simp at hn
 have hn1 : n = r.length + 1 := by rw [hn]; simp
 have hn2 : 0 < n := by omega
 have HR := h_ hr
 have HN1 := h_ hn1
 have q1 : (x : Int).tdiv 32 = (m : Int) := by rw [Int.tdiv_eq_ediv_of_nonneg (by omega)]; omega
 have q2 : (x : Int).tmod 32 = 24 := by rw [Int.tmod_eq_emod_of_nonneg (by omega)]; omega
 have HL : Hid (1 ≤ r.length → ((f :: r).length - (r.drop 1).length : Nat) = 1 + 1) := by simp only [Hid, List.length_cons, List.length_drop]; omega
 clear hn hx hr hy hn1 hx0
 by_cases hle : 1 ≤ r.length
 ·have hWn : 2 ≤ n := by have := HN1.out; omega
  have s1 := fun w : World => run_cut2 (P := Tryz.prog) 22 5 Tryz.underlying22 size_u8 (some ⟨b, o, none⟩) n c 1 2 (by omega) (by omega) w
  have s2 := fun w : World => run_cut1h (P := Tryz.prog) 22 5 Tryz.underlying22 size_u8 (some ⟨b, o, none⟩) n c 2 (by omega) w
  have hcut : RdB w w.heap.size (subA (some ⟨b, o, none⟩) 1 c) (r.take 1) := by
   have := HR.out.cut 1 c 1 (by omega)
   simpa using this
  have hlt : (r.take 1).length = 1 := by rw [List.length_take]; omega
  have hs2 : RdB w w.heap.size (some ⟨b, o, none⟩) ((f :: r).take 2) := HR.out.take 2
  have hlt2 : ((f :: r).take 2).length = 2 := by rw [List.length_take, List.length_cons]; omega
  obtain ⟨ss, hss⟩ : ∃ ss, ss = (f :: r).take 2 := ⟨_, rfl⟩
  obtain ⟨hs, hhs⟩ : ∃ hs, hs = headB m y := ⟨_, rfl⟩
  have HHd : Hid (∀ w, Calls Tryz.prog 27 #[.int .i64 m, .int .u64 y] w (JoinP w hs)) := by
   rw [hhs]
   exact fun w => refHead_any m y w hm HU.out
  have HN' : headN (f :: r) = if (hs == ss) = true then some (m, y, r.drop 1) else none := by
   rw [hss, hhs]
   exact HN.out.trans (if_pos hle)
  rw [← hss] at hs2 hlt2
  have HNN := h_ HN'
  have HLL := h_ (HL.out hle)
  simp only [Int.cast_ofNat_Int, Nat.reduceAdd, Nat.reduceSub] at s1 s2
  have d0 : decide ((n : Int) < 2) = false := by simp; omega
  have HC := h_ hcut
  have HLT := h_ hlt
  have HS2 := h_ hs2
  have HLT2 := h_ hlt2
  clear hss hhs HN HN' hcut hlt hle hs2 hlt2 HL
  cases hne : (hs == ss)
  all_goals
   rw [hne] at HNN
   go_enter Tryz.func104, Tryz.ntmps104
   go_wp2_with fail
   go_quiet (fail)
   have hB := below_dr (Below.refl w.heap.size w) nq
   generalize w.drewN nq = wq at hB ⊢
   go_wp2_with fail
   have HB1 := h_ (below_al hB (.cells #[.int .i64 1, .int .i64 2, .int .i64 4, .int .i64 8, .int .i64 0, .int .i64 0, .int .i64 0, .int .i64 0] 3))
   refine (refGet_at _ 1 _ (r.take 1) HLT.out.symm w.heap.size _ HW.out (HC.out.below HB1.out)).mono ?_
   rintro e w1 ⟨rfl, hw1⟩
   rw [← HY.out]
   have HB2 : Hid (Below w.heap.size w w1) := by rw [← hw1]; exact HB1.out
   have HELD : Hid (∀ w', Below w1.heap.size w1 w' → ((convert 22 9 (.slice (some ⟨b, o, none⟩) 2 c)).run Tryz.prog w' = .ok (.string ⟨ss.toArray⟩) w') ∧ Below w1.heap.size w1 w') := fun w' h =>
    ⟨(HS2.out.below (below_on HB2.out h)).text (P := Tryz.prog) 22 9 5 2 c HLT2.out.symm Tryz.underlying22 Tryz.underlying5 Tryz.underlying9, h⟩
   have F0 : Below w1.heap.size w1 w1.drew := bR.drew
   have HJ := h_ (HHd.out w1.drew)
   clear hw1 hB
   have hwr : IntKind.i64.wrap (1 + 1) = 2 := by rw [IntWalk.i64_in _ (by omega)]; rfl
   have hwr2 : IntKind.i64.wrap 2 = 2 := by rw [IntWalk.i64_in _ (by omega)]
   have hc2 : (2 : Int) ≤ (c : Int) := by omega
   go_wp2
   go_region_held (fun w' => ((convert 22 9 (.slice (some ⟨b, o, none⟩) 2 c)).run Tryz.prog w' = .ok (.string ⟨ss.toArray⟩) w') ∧ Below w1.heap.size w1 w')
    (first | (refine HELD.out _ ?_; with_reducible exact F0) | (refine HELD.out _ ?_; with_reducible exact F1))
    (first
     | (go_at_call 27; refine HJ.out.mono ?_; rintro e W1 ⟨v9, rfl, ho9, hbj⟩; obtain ⟨Aj, cj, rfl, _, hrj, _⟩ := ho9.bytes; have kj := hrj.text (P := Tryz.prog) 22 9 5 _ cj rfl Tryz.underlying22 Tryz.underlying5 Tryz.underlying9; have F1 := F0.trans (hbj.mono F0.size); clear hrj ho9 hbj))
   go_wp2
  ·exact bodyPost_ret (v := .tuple #[.int .i64 0, .int .u64 0, .int .i64 0]) (by simp [results, Tryz.results104, go_sem]) rfl ⟨below_on HB2.out F1, .inr ⟨by rw [HNN.out]; rfl, rfl⟩⟩
  ·refine bodyPost_ret (v := .tuple #[.int .i64 m, .int .u64 y, .int .i64 2]) (by simp [results, Tryz.results104, go_sem]) rfl ⟨below_on HB2.out F1, .inl ⟨m, y, r.drop 1, by rw [HNN.out]; rfl, ?_⟩⟩
   rw [HLL.out]
   rfl
 ·have d0 : decide ((n : Int) < 2) = true := by have := HN1.out; simp; omega
  have HN' : headN (f :: r) = none := HN.out.trans (if_neg hle)
  have HNN := h_ HN'
  clear HN HN' hle
  go_enter Tryz.func104, Tryz.ntmps104
  go_wp2_with fail
  go_quiet (fail)
  have hB := below_dr (Below.refl w.heap.size w) nq
  generalize w.drewN nq = wq at hB ⊢
  go_wp2_with fail
  exact bodyPost_ret (v := .tuple #[.int .i64 0, .int .u64 0, .int .i64 0]) (by simp [results, Tryz.results104, go_sem]) rfl ⟨below_al hB _, .inr ⟨HNN.out, rfl⟩⟩

set_option maxRecDepth 100000 in
theorem rdHead_25 (a : Option Addr) (n c : Nat) (f : UInt8) (r : List UInt8) (w : World) (hn : n = (f :: r).length) (hcc : n ≤ c) (hr : RdB w w.heap.size a (f :: r)) (m : Nat) (hx0 : f.toNat = 32 * m + 25) :
  Calls Tryz.prog 104 #[.slice a n c] w (RdHeadP w (f :: r)) := by
 obtain ⟨b, o, rfl, hb, hc⟩ := hr.cell0
 have hfl := f.toNat_lt
 have hm : m ≤ 7 := by omega
 have HN := h_ (headN_at f r m 25 2 hx0 hm (by decide))
 have HW : Hid (isW ((2 : Nat) : Int) = true) := by simp only [Hid]; decide
 have HU : Hid (U64 (valB (r.take 2) 2)) := by
  have h := numN_u64 r 2
  rw [numN, if_pos HW.out] at h
  exact h
 obtain ⟨y, hy⟩ : ∃ y, y = valB (r.take 2) 2 := ⟨_, rfl⟩
 rw [← hy] at HN HU
 have HY := h_ hy
 obtain ⟨x, hx⟩ : ∃ x, x = f.toNat := ⟨_, rfl⟩
 rw [← hx] at hc hfl hx0
 have hn0 : ((n : Int) == 0) = false := by simp; rintro rfl; simp at hn
 have hn1 : n = r.length + 1 := by rw [hn]; simp
 have hn2 : 0 < n := by omega
 have HR := h_ hr
 have HN1 := h_ hn1
 have q1 : (x : Int).tdiv 32 = (m : Int) := by rw [Int.tdiv_eq_ediv_of_nonneg (by omega)]; omega
 have q2 : (x : Int).tmod 32 = 25 := by rw [Int.tmod_eq_emod_of_nonneg (by omega)]; omega
 have HL : Hid (2 ≤ r.length → ((f :: r).length - (r.drop 2).length : Nat) = 1 + 2) := by simp only [Hid, List.length_cons, List.length_drop]; omega
 clear hn hx hr hy hn1 hx0
 by_cases hle : 2 ≤ r.length
 ·have hWn : 3 ≤ n := by have := HN1.out; omega
  have s1 := fun w : World => run_cut2 (P := Tryz.prog) 22 5 Tryz.underlying22 size_u8 (some ⟨b, o, none⟩) n c 1 3 (by omega) (by omega) w
  have s2 := fun w : World => run_cut1h (P := Tryz.prog) 22 5 Tryz.underlying22 size_u8 (some ⟨b, o, none⟩) n c 3 (by omega) w
  have hcut : RdB w w.heap.size (subA (some ⟨b, o, none⟩) 1 c) (r.take 2) := by
   have := HR.out.cut 1 c 2 (by omega)
   simpa using this
  have hlt : (r.take 2).length = 2 := by rw [List.length_take]; omega
  have hs2 : RdB w w.heap.size (some ⟨b, o, none⟩) ((f :: r).take 3) := HR.out.take 3
  have hlt2 : ((f :: r).take 3).length = 3 := by rw [List.length_take, List.length_cons]; omega
  obtain ⟨ss, hss⟩ : ∃ ss, ss = (f :: r).take 3 := ⟨_, rfl⟩
  obtain ⟨hs, hhs⟩ : ∃ hs, hs = headB m y := ⟨_, rfl⟩
  have HHd : Hid (∀ w, Calls Tryz.prog 27 #[.int .i64 m, .int .u64 y] w (JoinP w hs)) := by
   rw [hhs]
   exact fun w => refHead_any m y w hm HU.out
  have HN' : headN (f :: r) = if (hs == ss) = true then some (m, y, r.drop 2) else none := by
   rw [hss, hhs]
   exact HN.out.trans (if_pos hle)
  rw [← hss] at hs2 hlt2
  have HNN := h_ HN'
  have HLL := h_ (HL.out hle)
  simp only [Int.cast_ofNat_Int, Nat.reduceAdd, Nat.reduceSub] at s1 s2
  have d0 : decide ((n : Int) < 3) = false := by simp; omega
  have HC := h_ hcut
  have HLT := h_ hlt
  have HS2 := h_ hs2
  have HLT2 := h_ hlt2
  clear hss hhs HN HN' hcut hlt hle hs2 hlt2 HL
  cases hne : (hs == ss)
  all_goals
   rw [hne] at HNN
   go_enter Tryz.func104, Tryz.ntmps104
   go_wp2_with fail
   go_quiet (fail)
   have hB := below_dr (Below.refl w.heap.size w) nq
   generalize w.drewN nq = wq at hB ⊢
   go_wp2_with fail
   have HB1 := h_ (below_al hB (.cells #[.int .i64 1, .int .i64 2, .int .i64 4, .int .i64 8, .int .i64 0, .int .i64 0, .int .i64 0, .int .i64 0] 3))
   refine (refGet_at _ 2 _ (r.take 2) HLT.out.symm w.heap.size _ HW.out (HC.out.below HB1.out)).mono ?_
   rintro e w1 ⟨rfl, hw1⟩
   rw [← HY.out]
   have HB2 : Hid (Below w.heap.size w w1) := by rw [← hw1]; exact HB1.out
   have HELD : Hid (∀ w', Below w1.heap.size w1 w' → ((convert 22 9 (.slice (some ⟨b, o, none⟩) 3 c)).run Tryz.prog w' = .ok (.string ⟨ss.toArray⟩) w') ∧ Below w1.heap.size w1 w') := fun w' h =>
    ⟨(HS2.out.below (below_on HB2.out h)).text (P := Tryz.prog) 22 9 5 3 c HLT2.out.symm Tryz.underlying22 Tryz.underlying5 Tryz.underlying9, h⟩
   have F0 : Below w1.heap.size w1 w1.drew := bR.drew
   have HJ := h_ (HHd.out w1.drew)
   clear hw1 hB
   have hwr : IntKind.i64.wrap (1 + 2) = 3 := by rw [IntWalk.i64_in _ (by omega)]; rfl
   have hwr2 : IntKind.i64.wrap 3 = 3 := by rw [IntWalk.i64_in _ (by omega)]
   have hc2 : (3 : Int) ≤ (c : Int) := by omega
   go_wp2
   go_region_held (fun w' => ((convert 22 9 (.slice (some ⟨b, o, none⟩) 3 c)).run Tryz.prog w' = .ok (.string ⟨ss.toArray⟩) w') ∧ Below w1.heap.size w1 w')
    (first | (refine HELD.out _ ?_; with_reducible exact F0) | (refine HELD.out _ ?_; with_reducible exact F1))
    (first
     | (go_at_call 27; refine HJ.out.mono ?_; rintro e W1 ⟨v9, rfl, ho9, hbj⟩; obtain ⟨Aj, cj, rfl, _, hrj, _⟩ := ho9.bytes; have kj := hrj.text (P := Tryz.prog) 22 9 5 _ cj rfl Tryz.underlying22 Tryz.underlying5 Tryz.underlying9; have F1 := F0.trans (hbj.mono F0.size); clear hrj ho9 hbj))
   go_wp2
  ·exact bodyPost_ret (v := .tuple #[.int .i64 0, .int .u64 0, .int .i64 0]) (by simp [results, Tryz.results104, go_sem]) rfl ⟨below_on HB2.out F1, .inr ⟨by rw [HNN.out]; rfl, rfl⟩⟩
  ·refine bodyPost_ret (v := .tuple #[.int .i64 m, .int .u64 y, .int .i64 3]) (by simp [results, Tryz.results104, go_sem]) rfl ⟨below_on HB2.out F1, .inl ⟨m, y, r.drop 2, by rw [HNN.out]; rfl, ?_⟩⟩
   rw [HLL.out]
   rfl
 ·have d0 : decide ((n : Int) < 3) = true := by have := HN1.out; simp; omega
  have HN' : headN (f :: r) = none := HN.out.trans (if_neg hle)
  have HNN := h_ HN'
  clear HN HN' hle
  go_enter Tryz.func104, Tryz.ntmps104
  go_wp2_with fail
  go_quiet (fail)
  have hB := below_dr (Below.refl w.heap.size w) nq
  generalize w.drewN nq = wq at hB ⊢
  go_wp2_with fail
  exact bodyPost_ret (v := .tuple #[.int .i64 0, .int .u64 0, .int .i64 0]) (by simp [results, Tryz.results104, go_sem]) rfl ⟨below_al hB _, .inr ⟨HNN.out, rfl⟩⟩

set_option maxRecDepth 100000 in
theorem rdHead_26 (a : Option Addr) (n c : Nat) (f : UInt8) (r : List UInt8) (w : World) (hn : n = (f :: r).length) (hcc : n ≤ c) (hr : RdB w w.heap.size a (f :: r)) (m : Nat) (hx0 : f.toNat = 32 * m + 26) :
  Calls Tryz.prog 104 #[.slice a n c] w (RdHeadP w (f :: r)) := by
 obtain ⟨b, o, rfl, hb, hc⟩ := hr.cell0
 have hfl := f.toNat_lt
 have hm : m ≤ 7 := by omega
 have HN := h_ (headN_at f r m 26 4 hx0 hm (by decide))
 have HW : Hid (isW ((4 : Nat) : Int) = true) := by simp only [Hid]; decide
 have HU : Hid (U64 (valB (r.take 4) 4)) := by
  have h := numN_u64 r 4
  rw [numN, if_pos HW.out] at h
  exact h
 obtain ⟨y, hy⟩ : ∃ y, y = valB (r.take 4) 4 := ⟨_, rfl⟩
 rw [← hy] at HN HU
 have HY := h_ hy
 obtain ⟨x, hx⟩ : ∃ x, x = f.toNat := ⟨_, rfl⟩
 rw [← hx] at hc hfl hx0
 have hn0 : ((n : Int) == 0) = false := by simp; rintro rfl; simp at hn
 have hn1 : n = r.length + 1 := by rw [hn]; simp
 have hn2 : 0 < n := by omega
 have HR := h_ hr
 have HN1 := h_ hn1
 have q1 : (x : Int).tdiv 32 = (m : Int) := by rw [Int.tdiv_eq_ediv_of_nonneg (by omega)]; omega
 have q2 : (x : Int).tmod 32 = 26 := by rw [Int.tmod_eq_emod_of_nonneg (by omega)]; omega
 have HL : Hid (4 ≤ r.length → ((f :: r).length - (r.drop 4).length : Nat) = 1 + 4) := by simp only [Hid, List.length_cons, List.length_drop]; omega
 clear hn hx hr hy hn1 hx0
 by_cases hle : 4 ≤ r.length
 ·have hWn : 5 ≤ n := by have := HN1.out; omega
  have s1 := fun w : World => run_cut2 (P := Tryz.prog) 22 5 Tryz.underlying22 size_u8 (some ⟨b, o, none⟩) n c 1 5 (by omega) (by omega) w
  have s2 := fun w : World => run_cut1h (P := Tryz.prog) 22 5 Tryz.underlying22 size_u8 (some ⟨b, o, none⟩) n c 5 (by omega) w
  have hcut : RdB w w.heap.size (subA (some ⟨b, o, none⟩) 1 c) (r.take 4) := by
   have := HR.out.cut 1 c 4 (by omega)
   simpa using this
  have hlt : (r.take 4).length = 4 := by rw [List.length_take]; omega
  have hs2 : RdB w w.heap.size (some ⟨b, o, none⟩) ((f :: r).take 5) := HR.out.take 5
  have hlt2 : ((f :: r).take 5).length = 5 := by rw [List.length_take, List.length_cons]; omega
  obtain ⟨ss, hss⟩ : ∃ ss, ss = (f :: r).take 5 := ⟨_, rfl⟩
  obtain ⟨hs, hhs⟩ : ∃ hs, hs = headB m y := ⟨_, rfl⟩
  have HHd : Hid (∀ w, Calls Tryz.prog 27 #[.int .i64 m, .int .u64 y] w (JoinP w hs)) := by
   rw [hhs]
   exact fun w => refHead_any m y w hm HU.out
  have HN' : headN (f :: r) = if (hs == ss) = true then some (m, y, r.drop 4) else none := by
   rw [hss, hhs]
   exact HN.out.trans (if_pos hle)
  rw [← hss] at hs2 hlt2
  have HNN := h_ HN'
  have HLL := h_ (HL.out hle)
  simp only [Int.cast_ofNat_Int, Nat.reduceAdd, Nat.reduceSub] at s1 s2
  have d0 : decide ((n : Int) < 5) = false := by simp; omega
  have HC := h_ hcut
  have HLT := h_ hlt
  have HS2 := h_ hs2
  have HLT2 := h_ hlt2
  clear hss hhs HN HN' hcut hlt hle hs2 hlt2 HL
  cases hne : (hs == ss)
  all_goals
   rw [hne] at HNN
   go_enter Tryz.func104, Tryz.ntmps104
   go_wp2_with fail
   go_quiet (fail)
   have hB := below_dr (Below.refl w.heap.size w) nq
   generalize w.drewN nq = wq at hB ⊢
   go_wp2_with fail
   have HB1 := h_ (below_al hB (.cells #[.int .i64 1, .int .i64 2, .int .i64 4, .int .i64 8, .int .i64 0, .int .i64 0, .int .i64 0, .int .i64 0] 3))
   refine (refGet_at _ 4 _ (r.take 4) HLT.out.symm w.heap.size _ HW.out (HC.out.below HB1.out)).mono ?_
   rintro e w1 ⟨rfl, hw1⟩
   rw [← HY.out]
   have HB2 : Hid (Below w.heap.size w w1) := by rw [← hw1]; exact HB1.out
   have HELD : Hid (∀ w', Below w1.heap.size w1 w' → ((convert 22 9 (.slice (some ⟨b, o, none⟩) 5 c)).run Tryz.prog w' = .ok (.string ⟨ss.toArray⟩) w') ∧ Below w1.heap.size w1 w') := fun w' h =>
    ⟨(HS2.out.below (below_on HB2.out h)).text (P := Tryz.prog) 22 9 5 5 c HLT2.out.symm Tryz.underlying22 Tryz.underlying5 Tryz.underlying9, h⟩
   have F0 : Below w1.heap.size w1 w1.drew := bR.drew
   have HJ := h_ (HHd.out w1.drew)
   clear hw1 hB
   have hwr : IntKind.i64.wrap (1 + 4) = 5 := by rw [IntWalk.i64_in _ (by omega)]; rfl
   have hwr2 : IntKind.i64.wrap 5 = 5 := by rw [IntWalk.i64_in _ (by omega)]
   have hc2 : (5 : Int) ≤ (c : Int) := by omega
   go_wp2
   go_region_held (fun w' => ((convert 22 9 (.slice (some ⟨b, o, none⟩) 5 c)).run Tryz.prog w' = .ok (.string ⟨ss.toArray⟩) w') ∧ Below w1.heap.size w1 w')
    (first | (refine HELD.out _ ?_; with_reducible exact F0) | (refine HELD.out _ ?_; with_reducible exact F1))
    (first
     | (go_at_call 27; refine HJ.out.mono ?_; rintro e W1 ⟨v9, rfl, ho9, hbj⟩; obtain ⟨Aj, cj, rfl, _, hrj, _⟩ := ho9.bytes; have kj := hrj.text (P := Tryz.prog) 22 9 5 _ cj rfl Tryz.underlying22 Tryz.underlying5 Tryz.underlying9; have F1 := F0.trans (hbj.mono F0.size); clear hrj ho9 hbj))
   go_wp2
  ·exact bodyPost_ret (v := .tuple #[.int .i64 0, .int .u64 0, .int .i64 0]) (by simp [results, Tryz.results104, go_sem]) rfl ⟨below_on HB2.out F1, .inr ⟨by rw [HNN.out]; rfl, rfl⟩⟩
  ·refine bodyPost_ret (v := .tuple #[.int .i64 m, .int .u64 y, .int .i64 5]) (by simp [results, Tryz.results104, go_sem]) rfl ⟨below_on HB2.out F1, .inl ⟨m, y, r.drop 4, by rw [HNN.out]; rfl, ?_⟩⟩
   rw [HLL.out]
   rfl
 ·have d0 : decide ((n : Int) < 5) = true := by have := HN1.out; simp; omega
  have HN' : headN (f :: r) = none := HN.out.trans (if_neg hle)
  have HNN := h_ HN'
  clear HN HN' hle
  go_enter Tryz.func104, Tryz.ntmps104
  go_wp2_with fail
  go_quiet (fail)
  have hB := below_dr (Below.refl w.heap.size w) nq
  generalize w.drewN nq = wq at hB ⊢
  go_wp2_with fail
  exact bodyPost_ret (v := .tuple #[.int .i64 0, .int .u64 0, .int .i64 0]) (by simp [results, Tryz.results104, go_sem]) rfl ⟨below_al hB _, .inr ⟨HNN.out, rfl⟩⟩

set_option maxRecDepth 100000 in
theorem rdHead_27 (a : Option Addr) (n c : Nat) (f : UInt8) (r : List UInt8) (w : World) (hn : n = (f :: r).length) (hcc : n ≤ c) (hr : RdB w w.heap.size a (f :: r)) (m : Nat) (hx0 : f.toNat = 32 * m + 27) :
  Calls Tryz.prog 104 #[.slice a n c] w (RdHeadP w (f :: r)) := by
 obtain ⟨b, o, rfl, hb, hc⟩ := hr.cell0
 have hfl := f.toNat_lt
 have hm : m ≤ 7 := by omega
 have HN := h_ (headN_at f r m 27 8 hx0 hm (by decide))
 have HW : Hid (isW ((8 : Nat) : Int) = true) := by simp only [Hid]; decide
 have HU : Hid (U64 (valB (r.take 8) 8)) := by
  have h := numN_u64 r 8
  rw [numN, if_pos HW.out] at h
  exact h
 obtain ⟨y, hy⟩ : ∃ y, y = valB (r.take 8) 8 := ⟨_, rfl⟩
 rw [← hy] at HN HU
 have HY := h_ hy
 obtain ⟨x, hx⟩ : ∃ x, x = f.toNat := ⟨_, rfl⟩
 rw [← hx] at hc hfl hx0
 have hn0 : ((n : Int) == 0) = false := by simp; rintro rfl; simp at hn
 have hn1 : n = r.length + 1 := by rw [hn]; simp
 have hn2 : 0 < n := by omega
 have HR := h_ hr
 have HN1 := h_ hn1
 have q1 : (x : Int).tdiv 32 = (m : Int) := by rw [Int.tdiv_eq_ediv_of_nonneg (by omega)]; omega
 have q2 : (x : Int).tmod 32 = 27 := by rw [Int.tmod_eq_emod_of_nonneg (by omega)]; omega
 have HL : Hid (8 ≤ r.length → ((f :: r).length - (r.drop 8).length : Nat) = 1 + 8) := by simp only [Hid, List.length_cons, List.length_drop]; omega
 clear hn hx hr hy hn1 hx0
 by_cases hle : 8 ≤ r.length
 ·have hWn : 9 ≤ n := by have := HN1.out; omega
  have s1 := fun w : World => run_cut2 (P := Tryz.prog) 22 5 Tryz.underlying22 size_u8 (some ⟨b, o, none⟩) n c 1 9 (by omega) (by omega) w
  have s2 := fun w : World => run_cut1h (P := Tryz.prog) 22 5 Tryz.underlying22 size_u8 (some ⟨b, o, none⟩) n c 9 (by omega) w
  have hcut : RdB w w.heap.size (subA (some ⟨b, o, none⟩) 1 c) (r.take 8) := by
   have := HR.out.cut 1 c 8 (by omega)
   simpa using this
  have hlt : (r.take 8).length = 8 := by rw [List.length_take]; omega
  have hs2 : RdB w w.heap.size (some ⟨b, o, none⟩) ((f :: r).take 9) := HR.out.take 9
  have hlt2 : ((f :: r).take 9).length = 9 := by rw [List.length_take, List.length_cons]; omega
  obtain ⟨ss, hss⟩ : ∃ ss, ss = (f :: r).take 9 := ⟨_, rfl⟩
  obtain ⟨hs, hhs⟩ : ∃ hs, hs = headB m y := ⟨_, rfl⟩
  have HHd : Hid (∀ w, Calls Tryz.prog 27 #[.int .i64 m, .int .u64 y] w (JoinP w hs)) := by
   rw [hhs]
   exact fun w => refHead_any m y w hm HU.out
  have HN' : headN (f :: r) = if (hs == ss) = true then some (m, y, r.drop 8) else none := by
   rw [hss, hhs]
   exact HN.out.trans (if_pos hle)
  rw [← hss] at hs2 hlt2
  have HNN := h_ HN'
  have HLL := h_ (HL.out hle)
  simp only [Int.cast_ofNat_Int, Nat.reduceAdd, Nat.reduceSub] at s1 s2
  have d0 : decide ((n : Int) < 9) = false := by simp; omega
  have HC := h_ hcut
  have HLT := h_ hlt
  have HS2 := h_ hs2
  have HLT2 := h_ hlt2
  clear hss hhs HN HN' hcut hlt hle hs2 hlt2 HL
  cases hne : (hs == ss)
  all_goals
   rw [hne] at HNN
   go_enter Tryz.func104, Tryz.ntmps104
   go_wp2_with fail
   go_quiet (fail)
   have hB := below_dr (Below.refl w.heap.size w) nq
   generalize w.drewN nq = wq at hB ⊢
   go_wp2_with fail
   have HB1 := h_ (below_al hB (.cells #[.int .i64 1, .int .i64 2, .int .i64 4, .int .i64 8, .int .i64 0, .int .i64 0, .int .i64 0, .int .i64 0] 3))
   refine (refGet_at _ 8 _ (r.take 8) HLT.out.symm w.heap.size _ HW.out (HC.out.below HB1.out)).mono ?_
   rintro e w1 ⟨rfl, hw1⟩
   rw [← HY.out]
   have HB2 : Hid (Below w.heap.size w w1) := by rw [← hw1]; exact HB1.out
   have HELD : Hid (∀ w', Below w1.heap.size w1 w' → ((convert 22 9 (.slice (some ⟨b, o, none⟩) 9 c)).run Tryz.prog w' = .ok (.string ⟨ss.toArray⟩) w') ∧ Below w1.heap.size w1 w') := fun w' h =>
    ⟨(HS2.out.below (below_on HB2.out h)).text (P := Tryz.prog) 22 9 5 9 c HLT2.out.symm Tryz.underlying22 Tryz.underlying5 Tryz.underlying9, h⟩
   have F0 : Below w1.heap.size w1 w1.drew := bR.drew
   have HJ := h_ (HHd.out w1.drew)
   clear hw1 hB
   have hwr : IntKind.i64.wrap (1 + 8) = 9 := by rw [IntWalk.i64_in _ (by omega)]; rfl
   have hwr2 : IntKind.i64.wrap 9 = 9 := by rw [IntWalk.i64_in _ (by omega)]
   have hc2 : (9 : Int) ≤ (c : Int) := by omega
   go_wp2
   go_region_held (fun w' => ((convert 22 9 (.slice (some ⟨b, o, none⟩) 9 c)).run Tryz.prog w' = .ok (.string ⟨ss.toArray⟩) w') ∧ Below w1.heap.size w1 w')
    (first | (refine HELD.out _ ?_; with_reducible exact F0) | (refine HELD.out _ ?_; with_reducible exact F1))
    (first
     | (go_at_call 27; refine HJ.out.mono ?_; rintro e W1 ⟨v9, rfl, ho9, hbj⟩; obtain ⟨Aj, cj, rfl, _, hrj, _⟩ := ho9.bytes; have kj := hrj.text (P := Tryz.prog) 22 9 5 _ cj rfl Tryz.underlying22 Tryz.underlying5 Tryz.underlying9; have F1 := F0.trans (hbj.mono F0.size); clear hrj ho9 hbj))
   go_wp2
  ·exact bodyPost_ret (v := .tuple #[.int .i64 0, .int .u64 0, .int .i64 0]) (by simp [results, Tryz.results104, go_sem]) rfl ⟨below_on HB2.out F1, .inr ⟨by rw [HNN.out]; rfl, rfl⟩⟩
  ·refine bodyPost_ret (v := .tuple #[.int .i64 m, .int .u64 y, .int .i64 9]) (by simp [results, Tryz.results104, go_sem]) rfl ⟨below_on HB2.out F1, .inl ⟨m, y, r.drop 8, by rw [HNN.out]; rfl, ?_⟩⟩
   rw [HLL.out]
   rfl
 ·have d0 : decide ((n : Int) < 9) = true := by have := HN1.out; simp; omega
  have HN' : headN (f :: r) = none := HN.out.trans (if_neg hle)
  have HNN := h_ HN'
  clear HN HN' hle
  go_enter Tryz.func104, Tryz.ntmps104
  go_wp2_with fail
  go_quiet (fail)
  have hB := below_dr (Below.refl w.heap.size w) nq
  generalize w.drewN nq = wq at hB ⊢
  go_wp2_with fail
  exact bodyPost_ret (v := .tuple #[.int .i64 0, .int .u64 0, .int .i64 0]) (by simp [results, Tryz.results104, go_sem]) rfl ⟨below_al hB _, .inr ⟨HNN.out, rfl⟩⟩

theorem rdHead_nil (a : Option Addr) (c : Nat) (w : World) :
  Calls Tryz.prog 104 #[.slice a 0 c] w (RdHeadP w []) := by
 go_enter Tryz.func104, Tryz.ntmps104
 go_wp2_with fail
 exact bodyPost_ret (v := .tuple #[.int .i64 0, .int .u64 0, .int .i64 0]) (by simp [results, Tryz.results104, go_sem]) rfl ⟨Below.refl _ _, .inr ⟨rfl, rfl⟩⟩

theorem rdHead_any (a : Option Addr) (n c : Nat) (bs : List UInt8) (w : World) (hn : n = bs.length) (hcc : n ≤ c) (hr : RdB w w.heap.size a bs) :
  Calls Tryz.prog 104 #[.slice a n c] w (RdHeadP w bs) := by
 cases bs with
 | nil =>
  subst hn
  exact rdHead_nil a c w
 | cons f r =>
  have hm := Nat.div_add_mod f.toNat 32
  by_cases h : f.toNat % 32 < 24
  ·exact rdHead_low a n c f r w hn hr h
  by_cases h8 : 28 ≤ f.toNat % 32
  ·exact rdHead_odd a n c f r w hn hr h8
  have hl : f.toNat % 32 = 24 ∨ f.toNat % 32 = 25 ∨ f.toNat % 32 = 26 ∨ f.toNat % 32 = 27 := by omega
  rcases hl with hl | hl | hl | hl
  ·exact rdHead_24 a n c f r w hn hcc hr (f.toNat / 32) (by omega)
  ·exact rdHead_25 a n c f r w hn hcc hr (f.toNat / 32) (by omega)
  ·exact rdHead_26 a n c f r w hn hcc hr (f.toNat / 32) (by omega)
  ·exact rdHead_27 a n c f r w hn hcc hr (f.toNat / 32) (by omega)

def Box5 (W : World) (b : Nat) (v0 v1 v2 v3 v4 : Value) : Prop :=
 W.cell? ⟨b, 0, none⟩ = some v0 ∧ W.cell? ⟨b, 1, none⟩ = some v1 ∧ W.cell? ⟨b, 2, none⟩ = some v2 ∧ W.cell? ⟨b, 3, none⟩ = some v3 ∧ W.cell? ⟨b, 4, none⟩ = some v4

theorem Box5.later {W W' : World} {b B : Nat} {v0 v1 v2 v3 v4 : Value} (h : Box5 W b v0 v1 v2 v3 v4) (hb : Below B W W') (hlt : b < B) : Box5 W' b v0 v1 v2 v3 v4 :=
 ⟨(hb.cell (p := ⟨b, 0, none⟩) hlt).trans h.1, (hb.cell (p := ⟨b, 1, none⟩) hlt).trans h.2.1, (hb.cell (p := ⟨b, 2, none⟩) hlt).trans h.2.2.1, (hb.cell (p := ⟨b, 3, none⟩) hlt).trans h.2.2.2.1, (hb.cell (p := ⟨b, 4, none⟩) hlt).trans h.2.2.2.2⟩

theorem box5_new (w : World) (v0 v1 v2 v3 v4 : Value) (t : TypeId) : Box5 (w.alloc (.cells #[v0, v1, v2, v3, v4] t)) w.heap.size v0 v1 v2 v3 v4 := by
 refine ⟨?_, ?_, ?_, ?_, ?_⟩ <;> simp

def RdFirstP (w : World) (k : Nat) (bs : List UInt8) (e : Ending) (w' : World) : Prop :=
 Below w.heap.size w w' ∧ match itemN k bs with
  | .error c => e = .returned (.tuple #[itemV 0 0 [], .int .i64 0, .int .i64 c])
  | .ok (x, r) => ∃ v, e = .returned (.tuple #[v, .int .i64 ((bs.length - r.length : Nat) : Int), .int .i64 0]) ∧ ItS w' (newB w w') v x

theorem rdFirst_err {w w1 : World} {k c : Nat} {bs : List UInt8} (hB : Below w.heap.size w w1) (h : itemN k bs = .error c) :
  RdFirstP w k bs (.returned (.tuple #[itemV 0 0 [], .int .i64 0, .int .i64 c])) (put5 w1 w.heap.size (.int .i64 0) (.int .u64 0) (.slice none 0 0) (.string ⟨#[]⟩) (.slice none 0 0)) := by
 refine ⟨hB.trans (put5_below w1 w.heap.size w.heap.size (Nat.le_refl _) _ _ _ _ _), ?_⟩
 rw [h]

theorem rdFirst_ok {w w0 w1 : World} {k : Nat} {bs r : List UInt8} {x : It} {v0 v1 v2 v3 v4 : Value} {N : Int} (hB : Below w.heap.size w w1) (h0 : w.heap.size < w0.heap.size) (h : itemN k bs = .ok (x, r)) (hx : ItS w1 (newB w0 w1) (.agg #[v0, v1, v2, v3, v4]) x)
  (hN : N = ((bs.length - r.length : Nat) : Int)) : RdFirstP w k bs (.returned (.tuple #[.agg #[v0, v1, v2, v3, v4], .int .i64 N, .int .i64 0])) (put5 w1 w.heap.size v0 v1 v2 v3 v4) := by
 refine ⟨hB.trans (put5_below w1 w.heap.size w.heap.size (Nat.le_refl _) _ _ _ _ _), ?_⟩
 rw [h]
 refine ⟨_, by rw [hN], ?_⟩
 have hk : KeepB (newB w0 w1) w1 (put5 w1 w.heap.size v0 v1 v2 v3 v4) := fun b hbb => put5_block w1 w.heap.size v0 v1 v2 v3 v4 b (by have := hbb.1; omega)
 exact (ItS.keep hk x hx).more fun b hbb => ⟨by have := hbb.1; omega, by rw [put5_size]; exact hbb.2⟩

theorem box0_later {w w1 : World} (hb : Below (w.heap.size + 1) (w.alloc (.cells #[.int .i64 0, .int .u64 0, .slice none 0 0, .string ⟨#[]⟩, .slice none 0 0] 45)) w1) :
  (w1.cell? ⟨w.heap.size, 0, none⟩ = some (.int .i64 0) ∧ w1.cell? ⟨w.heap.size, 1, none⟩ = some (.int .u64 0) ∧ w1.cell? ⟨w.heap.size, 2, none⟩ = some (.slice none 0 0) ∧ w1.cell? ⟨w.heap.size, 3, none⟩ = some (.string ⟨#[]⟩) ∧ w1.cell? ⟨w.heap.size, 4, none⟩ = some (.slice none 0 0)) ∧
   ∀ i, w1.frozen? ⟨w.heap.size, i, none⟩ = false := by
 have hc : ∀ i, w1.cell? ⟨w.heap.size, i, none⟩ = (w.alloc (.cells #[.int .i64 0, .int .u64 0, .slice none 0 0, .string ⟨#[]⟩, .slice none 0 0] 45)).cell? ⟨w.heap.size, i, none⟩ := fun i => hb.cell (p := ⟨w.heap.size, i, none⟩) (by simp)
 exact ⟨⟨(hc 0).trans (by simp), (hc 1).trans (by simp), (hc 2).trans (by simp), (hc 3).trans (by simp), (hc 4).trans (by simp)⟩, fun i => (hb.frozen (p := ⟨w.heap.size, i, none⟩) (by simp)).trans (by simp)⟩

theorem row_step {w wr w1 w2 : World} {R j : Nat} {v v' v0 v1 v2 v3 v4 : Value} {xs : List Value} {l : List It} {x : It} {t : TypeId}
  (hb : But R w wr) (hown : wr.ownsRow w.heap.size 45 5 v j xs) (hls : LS wr (newButs w wr v) xs l)
  (hRs : R < w.heap.size) (hb1 : But R wr w1) (hx : ItS w1 (newB wr w1) (.agg #[v0, v1, v2, v3, v4]) x)
  (h2 : w2.ownsRow w.heap.size 45 5 v' (j + 1) (xs ++ [v0, v1, v2, v3, v4])) (h3 : (w1.alloc (.cells #[v0, v1, v2, v3, v4] t)).grownBy w2 v.ownBlock)
  (h5 : v'.ownBlock = v.ownBlock ∨ v'.ownBlock = some (w1.alloc (.cells #[v0, v1, v2, v3, v4] t)).heap.size) : But R w w2 ∧ LS w2 (newButs w w2 v') (xs ++ [v0, v1, v2, v3, v4]) (l ++ [x]) := by
 have hrow := World.ownsRow.lt hown
 have hsz := hb.size
 have hsz1 := hb1.size
 have hA : (w1.alloc (.cells #[v0, v1, v2, v3, v4] t)).heap.size = w1.heap.size + 1 := World.size_alloc _ _
 have hB2 : Below w.heap.size (w1.alloc (.cells #[v0, v1, v2, v3, v4] t)) w2 := bR.grown h3 (by omega) (fun k hk => (hrow k hk).1)
 have hB1 : Below w1.heap.size w1 (w1.alloc (.cells #[v0, v1, v2, v3, v4] t)) := below_al bR _
 have hB12 : Below w.heap.size w1 w2 := (hB1.mono (by omega)).trans hB2
 have hsz2 := hB2.size
 have hkeep : ∀ S : Nat → Prop, (∀ b, S b → b < w1.heap.size) → (∀ r, v.ownBlock = some r → ¬ S r) → KeepB S w1 w2 := fun S hS hne =>
  KeepB.grown (S := S) (fun b hb => hB1.block b (hS b hb)) (fun b hb => by have := hS b hb; omega) h3 hne
 have k1 : KeepB (newButs w wr v) w1 w2 := hkeep _ (fun b hb => Nat.lt_of_lt_of_le hb.1.2 hsz1) (fun r hr hs => hs.2 hr)
 have k0 : KeepB (newButs w wr v) wr w2 := fun b hb => (k1 b hb).trans (hb1.block b hb.1.2 (by have := hb.1.1; omega))
 have k2 : KeepB (newB wr w1) w1 w2 := hkeep _ (fun b hb => hb.2) (fun r hr hs => by have := (hrow r hr).2; have := hs.1; omega)
 have hT : ∀ b, newB wr w1 b → newButs w w2 v' b := fun b hb => ⟨⟨by have := hb.1; omega, by have := hb.2; omega⟩, fun q => by
  rcases h5 with h5 | h5
  ·rw [h5] at q
   have := (hrow b q).2
   have := hb.1
   omega
  ·rw [h5, hA] at q
   injection q with q
   have := hb.2
   omega⟩
 have hS : ∀ b, newButs w wr v b → newButs w w2 v' b := fun b hb => ⟨⟨hb.1.1, by have := hb.1.2; omega⟩, fun q => by
  rcases h5 with h5 | h5
  ·rw [h5] at q
   exact hb.2 q
  ·rw [h5, hA] at q
   injection q with q
   have := hb.1.2
   omega⟩
 exact ⟨(hb.trans hb1).low hB12, LS.snoc ((hx.keep k2).more hT) ((hls.keep k0).more hS)⟩

def ListJ (g : List UInt8 → Except Nat (It × List UInt8)) (N : Nat) (bs r0 : List UInt8) (w : World) (G j p : Nat) (v : Value) (wr : World) : Prop :=
 But G w wr ∧ (Box5 wr G (.int .i64 4) (.int .u64 0) (.slice none 0 0) (.string ⟨#[]⟩) v ∧ ∀ i, wr.frozen? ⟨G, i, none⟩ = false) ∧ ∃ xs l r, p ≤ bs.length ∧ bs.drop p = r ∧ wr.ownsRow w.heap.size 45 5 v j xs ∧ LS wr (newButs w wr v) xs l ∧ l.length = j ∧ listN g N r0 = behind l (listN g (N - j) r) ∧ r.length + j ≤ r0.length

theorem ListJ.step {k N G j p m : Nat} {bs r0 r' : List UInt8} {W0 wr w2 W2 w4 : World} {v v' v0 v1 v2 v3 v4 : Value} {xs : List Value} {l : List It} {x : It} {t : TypeId}
  (hG : G < W0.heap.size) (hj : j < N) (hb : But G W0 wr) (hbox : Box5 wr G (.int .i64 4) (.int .u64 0) (.slice none 0 0) (.string ⟨#[]⟩) v ∧ ∀ i, wr.frozen? ⟨G, i, none⟩ = false)
  (hp : p ≤ bs.length) (hown : wr.ownsRow W0.heap.size 45 5 v j xs) (hls : LS wr (newButs W0 wr v) xs l) (hll : l.length = j) (hcon : listN (itemN k) N r0 = behind l (listN (itemN k) (N - j) (bs.drop p))) (hrj : (bs.drop p).length + j ≤ r0.length)
  (hit : itemN k (bs.drop p) = .ok (x, r')) (hm : m = (bs.drop p).length - r'.length) (hb2 : Below wr.heap.size wr w2) (hx : ItS w2 (newB wr w2) (.agg #[v0, v1, v2, v3, v4]) x) (hW2 : W2 = w2.alloc (.cells #[v0, v1, v2, v3, v4] t))
  (h2 : w4.ownsRow W0.heap.size 45 5 v' (j + 1) (xs ++ [v0, v1, v2, v3, v4])) (h3 : (W2.alloc (.cells #[v0, v1, v2, v3, v4] t)).grownBy w4 v.ownBlock)
  (h5 : v'.ownBlock = v.ownBlock ∨ v'.ownBlock = some (W2.alloc (.cells #[v0, v1, v2, v3, v4] t)).heap.size) :
  Hid (ListJ (itemN k) N bs r0 W0 G (j + 1) (p + m) v' (w4.setCell ⟨G, 4, none⟩ v')) ∧ (w4.cell? ⟨G, 4, none⟩ = some v ∧ w4.frozen? ⟨G, 4, none⟩ = false) ∧ p + m ≤ bs.length := by
 have hbk := (itemN_back k _ x r' hit).2.2
 have hless := itemN_less k _ _ _ hit
 have hsz := hb.size
 have hsz2 := hb2.size
 have hrow := World.ownsRow.lt hown
 have hb2' : Below wr.heap.size wr W2 := by rw [hW2]; exact below_al hb2 _
 have hxk : ItS W2 (newB wr W2) (.agg #[v0, v1, v2, v3, v4]) x := by
  have hk : KeepB (newB wr w2) w2 W2 := fun b hbb => by
   rw [hW2]
   exact (below_al (Below.refl w2.heap.size w2) _).block b hbb.2
  exact (ItS.keep hk x hx).more fun b hbb => ⟨hbb.1, by rw [hW2, World.size_alloc]; have := hbb.2; omega⟩
 obtain ⟨q1, q2⟩ := row_step hb hown hls hG (But.of_below hb2') hxk h2 h3 h5
 have hszW : W2.heap.size = w2.heap.size + 1 := by rw [hW2]; exact World.size_alloc _ _
 have hbz : Below W0.heap.size wr w4 := (below_al hb2' (.cells #[v0, v1, v2, v3, v4] t)).mono (by omega) |>.trans (bR.grown h3 (by rw [World.size_alloc]; omega) (fun k hk => (hrow k hk).1))
 have hbox4 := hbox.1.later hbz hG
 have hfr4 : ∀ i, w4.frozen? ⟨G, i, none⟩ = false := fun i => (hbz.frozen (p := ⟨G, i, none⟩) hG).trans (hbox.2 i)
 have hln : (bs.drop p).length = bs.length - p := List.length_drop
 have hpm : p + m ≤ bs.length := by omega
 refine ⟨?_, ⟨hbox4.2.2.2.2, hfr4 4⟩, hpm⟩
 have hset : But G w4 (w4.setCell ⟨G, 4, none⟩ v') := But.set w4 v'
 have hkS : KeepB (newButs W0 w4 v') w4 (w4.setCell ⟨G, 4, none⟩ v') := fun b hbb => Below.heap_setCell _ _ _ b (by have := hbb.1.1; show b ≠ G; omega)
 refine ⟨q1.trans hset, ⟨⟨?_, ?_, ?_, ?_, ?_⟩, fun i => by rw [World.frozen?_setCell]; exact hfr4 i⟩, xs ++ [v0, v1, v2, v3, v4], l ++ [x], r', hpm, ?_, ownsRow_but h2 hset hG, ?_, by simp [hll], ?_, by omega⟩
 ·rw [World.cell?_setCell_other _ _ _ _ (by simp)]; exact hbox4.1
 ·rw [World.cell?_setCell_other _ _ _ _ (by simp)]; exact hbox4.2.1
 ·rw [World.cell?_setCell_other _ _ _ _ (by simp)]; exact hbox4.2.2.1
 ·rw [World.cell?_setCell_other _ _ _ _ (by simp)]; exact hbox4.2.2.2.1
 ·exact World.cell?_setCell_same _ _ _ hbox4.2.2.2.2
 ·rw [← List.drop_drop, hm]
  have e : (bs.drop p).length - r'.length = x.bytes.length := by
   have := congrArg List.length hbk
   simp only [List.length_append] at this
   omega
  rw [e]
  conv => lhs; rw [hbk]
  simp
 ·exact (q2.keep hkS).more fun b hbb => ⟨⟨hbb.1.1, by rw [World.size_setCell]; exact hbb.1.2⟩, hbb.2⟩
 ·rw [hcon, show N - j = (N - (j + 1)) + 1 by omega, behind_step (itemN k) l _ _ r' x hit]

theorem headN_drop {bs r : List UInt8} {m : Nat} {n : Int} (h : headN bs = some (m, n, r)) : bs.length - r.length ≤ bs.length ∧ 1 ≤ bs.length - r.length ∧ bs.drop (bs.length - r.length) = r := by
 have h1 := headN_back h
 have h2 := headN_less h
 refine ⟨by omega, by omega, ?_⟩
 have e : bs.length - r.length = (headB m n).length := by rw [h1]; simp
 rw [e]
 conv => lhs; rw [h1]
 simp

theorem headN_bare {f : UInt8} {r r1 : List UInt8} {n : Int} (h : headN (f :: r) = some (7, n, r1)) (hf : ¬ (244 ≤ f.toNat ∧ f.toNat ≤ 246)) : bareN n r1 = .error 121 := by
 have hu := (headN_u64 h).1
 have h1 := headN_back h
 unfold bareN
 by_cases hn : n < 24
 ·rw [headB_small 7 n hn] at h1
  have h2 : f = UInt8.ofNat (32 * 7 + n.toNat) := by
   have := congrArg List.head? h1
   simpa using this
  have h3 : f.toNat = 224 + n.toNat := by
   rw [h2, ofNat_toNat (by have := hu.1; omega)]
  have := hu.1
  rw [if_neg (by omega), if_neg (by omega)]
 ·rw [if_neg (by omega), if_neg (by omega)]

theorem headN_f7 {f : UInt8} {r : List UInt8} (h : 244 ≤ f.toNat ∧ f.toNat ≤ 246) : headN (f :: r) = some (7, ((f.toNat - 224 : Nat) : Int), r) := by
 have h1 : f.toNat % 32 < 24 := by omega
 simp only [headN, h1, if_true]
 rw [show f.toNat / 32 = 7 by omega, show f.toNat % 32 = f.toNat - 224 by omega]

def RdFirstAt (k : Nat) : Prop := ∀ (a : Option Addr) (n c : Nat) (bs : List UInt8) (w : World), n = bs.length → n ≤ c → bs.length ≤ 1000000 → RdB w w.heap.size a bs →
 Calls Tryz.prog 75 #[.slice a n c, .int .i64 ((8 - k : Nat) : Int)] w (RdFirstP w k bs)

set_option maxRecDepth 100000 in
theorem rdFirst_zero : RdFirstAt 0 := by
 intro a n c bs w hn hc hl hr
 clear hr hn hl hc
 show Calls _ _ #[_, .int .i64 8] _ _
 go_enter Tryz.func75, Tryz.ntmps75
 go_wp2_with fail
 exact bodyPost_ret (v := .tuple #[itemV 0 0 [], .int .i64 0, .int .i64 120]) (by simp [results, Tryz.results75, go_sem, itemV]) rfl ⟨below_al bR _, rfl⟩

set_option maxRecDepth 100000 in
theorem rdFirst_f7 (k : Nat) (hk : k < 8) (a : Option Addr) (n c : Nat) (f : UInt8) (r : List UInt8) (w : World) (hn : n = (f :: r).length) (hr : RdB w w.heap.size a (f :: r)) (h : 244 ≤ f.toNat ∧ f.toNat ≤ 246) :
  Calls Tryz.prog 75 #[.slice a n c, .int .i64 ((8 - (k + 1) : Nat) : Int)] w (RdFirstP w (k + 1) (f :: r)) := by
 obtain ⟨b, o, rfl, hb, hc⟩ := hr.cell0
 have HI : Hid (itemN (k + 1) (f :: r) = bareN ((f.toNat - 224 : Nat) : Int) r) := itemN_bare (headN_f7 h)
 have HL : Hid (((f :: r).length - r.length : Nat) = 1) := by simp [Hid]
 obtain ⟨x, hx⟩ : ∃ x, x = f.toNat := ⟨_, rfl⟩
 rw [← hx] at hc h HI
 obtain ⟨q, hq⟩ : ∃ q, q = 8 - (k + 1) := ⟨_, rfl⟩
 rw [← hq]
 have hq7 : q ≤ 7 := by omega
 have hn1 : 0 < n := by rw [hn]; simp
 have hx3 : x = 244 ∨ x = 245 ∨ x = 246 := by omega
 clear hn hx hr hq h hk
 rcases hx3 with rfl | rfl | rfl
 ·have HP : Hid (itemN (k + 1) (f :: r) = .ok (.mk 5 0 [] [] [], r)) := by rw [Hid, HI.out]; rfl
  clear HI
  go_enter Tryz.func75, Tryz.ntmps75
  go_wp2_with fail
  refine bodyPost_ret (v := .tuple #[itemV 5 0 [], .int .i64 1, .int .i64 0]) (by simp [results, Tryz.results75, go_sem, itemV]) rfl ⟨below_al bR _, ?_⟩
  rw [HP.out]
  exact ⟨_, by rw [HL.out]; rfl, itS_plain _ _ 5 0 [] (by decide) ⟨by decide, by decide⟩ (Nat.zero_le _)⟩
 ·have HP : Hid (itemN (k + 1) (f :: r) = .ok (.mk 5 1 [] [] [], r)) := by rw [Hid, HI.out]; rfl
  clear HI
  go_enter Tryz.func75, Tryz.ntmps75
  go_wp2_with fail
  refine bodyPost_ret (v := .tuple #[itemV 5 1 [], .int .i64 1, .int .i64 0]) (by simp [results, Tryz.results75, go_sem, itemV]) rfl ⟨below_al bR _, ?_⟩
  rw [HP.out]
  exact ⟨_, by rw [HL.out]; rfl, itS_plain _ _ 5 1 [] (by decide) ⟨by decide, by decide⟩ (Nat.zero_le _)⟩
 ·have HP : Hid (itemN (k + 1) (f :: r) = .ok (.mk 6 0 [] [] [], r)) := by rw [Hid, HI.out]; rfl
  clear HI
  go_enter Tryz.func75, Tryz.ntmps75
  go_wp2_with fail
  refine bodyPost_ret (v := .tuple #[itemV 6 0 [], .int .i64 1, .int .i64 0]) (by simp [results, Tryz.results75, go_sem, itemV]) rfl ⟨below_al bR _, ?_⟩
  rw [HP.out]
  exact ⟨_, by rw [HL.out]; rfl, itS_plain _ _ 6 0 [] (by decide) ⟨by decide, by decide⟩ (Nat.zero_le _)⟩

end Go.Proofs.YteldifnkeekafaaGreatDoor
