/- Package primary's Decode. -/
import Derived.Test.YtlmdbeccfoncpaaGreatDoorZPmR
import Derived.Test.YtlmdbeccfoncpaaGreatDoorZPmS
import Derived.Test.YtlmdbeccfoncpaaGreatDoorZJf
namespace Go.Proofs.YtlmdbeccfoncpaaGreatDoor
open Go Go.RowKit Go.Shelf
set_option linter.unusedSimpArgs false
set_option linter.unusedVariables false
set_option maxRecDepth 100000

attribute [local go_sem] Oper.semAt_some

theorem bytes_pos : ∀ x : It, 1 ≤ x.bytes.length := by
  refine It.ind fun k n b s l _ => ?_
  have h : 1 ≤ (ownB k n b s l.length).length := by
    have h0 := (head_length 0 n).1
    have h2 := (head_length 2 b.length).1
    have h3 := (head_length 3 s.length).1
    have h4 := (head_length 4 l.length).1
    have h7 := (head_length 7 (20 + n)).1
    have h8 := (head_length 7 22).1
    unfold ownB
    split
    · omega
    · split
      · rw [List.length_append]; omega
      · split
        · rw [List.length_append]; omega
        · split
          · omega
          · split <;> omega
  simp only [It.bytes, List.length_append]
  omega

theorem bytesL_count : ∀ l : List It, l.length ≤ (bytesL l).length
  | [] => Nat.zero_le _
  | x :: xs => by
    have h1 := bytes_pos x
    have h2 := bytesL_count xs
    simp only [bytesL, List.length_append, List.length_cons]
    omega

theorem list_few (x : It) : x.l.length ≤ x.bytes.length := by
  obtain ⟨k, n, b, s, l⟩ := x
  have h := bytesL_count l
  simp only [It.bytes, It.l, List.length_append]
  omega

theorem decodeN_err {bs : List UInt8} {c : Nat} (h : decodeN bs = .error c) : c = 3 ∨ c = 120 ∨ c = 121 := by
  unfold decodeN at h
  split at h
  · rename_i q hq
    injection h with h
    subst h
    exact firstN_err hq
  · split at h
    · injection h with h
      exact .inr (.inr h.symm)
    · cases h

theorem decodeN_ok {bs : List UInt8} {x : It} (h : decodeN bs = .ok x) : x.depth ≤ 60000 ∧ x.l.length ≤ 1000000 := by
  unfold decodeN at h
  split at h
  · cases h
  · rename_i y m hf
    split at h
    · cases h
    · injection h with h
      subst h
      have hb := firstN_back hf
      have hl := (firstN_len hf).1
      have he := hb.1
      have hc := list_few y
      refine ⟨?_, by omega⟩
      by_cases hr : y.right = true
      · by_cases hd : 8 < y.depth
        · rw [It.err, if_pos hr, if_pos hd] at he
          cases he
        · omega
      · rw [It.err, if_neg hr] at he
        cases he

/-- The primary of bytes, or why not. -/
def rdBy (bs : List UInt8) : Except Int Pm := match decodeN bs with
  | .error c => .error c
  | .ok x => match rdPm x with
    | none => .error 140
    | some p => if encP p p.s.toNat = bs then .ok p else .error 110

theorem rdBy_err {bs : List UInt8} {c : Nat} (h : decodeN bs = .error c) : rdBy bs = .error c := by rw [rdBy, h]
theorem rdBy_none {bs : List UInt8} {x : It} (h : decodeN bs = .ok x) (h1 : rdPm x = none) : rdBy bs = .error 140 := by rw [rdBy, h]; simp only [h1]
theorem rdBy_some {bs : List UInt8} {x : It} {p : Pm} (h : decodeN bs = .ok x) (h1 : rdPm x = some p) : rdBy bs = if encP p p.s.toNat = bs then .ok p else .error 110 := by rw [rdBy, h]; simp only [h1]

theorem pbytesR_any (p : Pm) (hp : p.ok) (hr : p.right = true) (w : World) (ht : TabW w) :
    Calls Tryz.prog 25 #[.agg #[.int .u32 p.f, .int .i64 p.s, .int .u32 p.tn, .int .u32 p.tm, .int .u32 p.sn, .int .u32 p.sm, .int .u32 p.rn, .int .u32 p.rm, .int .u64 p.t, .int .u32 p.q, .int .u64 p.l]] w fun e w' => ∃ u, e = .returned u ∧ OwnV w' w.heap.size 5 u ((encP p p.s.toNat).map encB) ∧ Below w.heap.size w w' := by
  obtain ⟨hf, k, hk, hks⟩ := fine_of hp hr
  have e1 : p.s.toNat = k := by omega
  rw [e1]
  exact pbytes_any p hf k hk hks (fun bs hb => itO_err p k bs hb) (fun bs => Nat.le_trans (itO_depth p _ bs) (by decide)) w ht

/-- Encode, of any primary. -/
theorem prEncodeR_any (p : Pm) (hp : p.ok) (w : World) (ht : TabW w) : Calls Tryz.prog 6 #[.agg #[.int .u32 p.f, .int .i64 p.s, .int .u32 p.tn, .int .u32 p.tm, .int .u32 p.sn, .int .u32 p.sm, .int .u32 p.rn, .int .u32 p.rm, .int .u64 p.t, .int .u32 p.q, .int .u64 p.l]] w (EncPm p w) :=
  prEncode_any p hp (fun k _ _ bs hb => itO_err p k bs hb) (fun k bs => Nat.le_trans (itO_depth p _ bs) (by decide)) w ht

set_option maxHeartbeats 8000000 in
theorem decoded_any (a : Option Addr) (n c : Nat) (bs : List UInt8) (hn : n = bs.length) (w : World) (hr : RdB w w.heap.size a bs) (hc : n ≤ c) (hc47 : bs.length ≤ 140737488355328) (ht : TabW w) :
    Calls Tryz.prog 39 #[.slice a n c] w (RdPm w (rdBy bs)) := by
  obtain ⟨W, hW⟩ : ∃ W, W = w.alloc (.cells #[.int .u32 0, .int .i64 0, .int .u32 0, .int .u32 0, .int .u32 0, .int .u32 0, .int .u32 0, .int .u32 0, .int .u64 0, .int .u32 0, .int .u64 0] 28) := ⟨_, rfl⟩
  have HB0 : Hid (Below w.heap.size w W) := by rw [hW]; exact below_al (Below.refl _ _) _
  have hsW : w.heap.size + 1 ≤ W.heap.size := by rw [hW]; simp
  have HR0 : Hid (RowB W w.heap.size [.int .u32 0, .int .i64 0, .int .u32 0, .int .u32 0, .int .u32 0, .int .u32 0, .int .u32 0, .int .u32 0, .int .u64 0, .int .u32 0, .int .u64 0]) := by rw [hW]; exact RowB.new w [.int .u32 0, .int .i64 0, .int .u32 0, .int .u32 0, .int .u32 0, .int .u32 0, .int .u32 0, .int .u32 0, .int .u64 0, .int .u32 0, .int .u64 0] 28
  have HSW := Lib.hid hsW
  have HBs : Hid (∀ w', Below w.heap.size w w' → RdB w' w'.heap.size a bs) := fun w' h => (hr.below h).mono h.size
  have HT : Hid (∀ w', Below w.heap.size w w' → TabW w') := fun w' h => ht.on h
  have HN := Lib.hid hn
  have HW := Lib.hid hW
  have HC47 := Lib.hid hc47
  clear hW hsW hr ht hn hc47
  go_enter Tryz.func39, Tryz.ntmps39
  go_wp2_with fail
  rw [← HW.out]
  refine (decode_any a n c bs HN.out W (HBs.out W HB0.out) hc HC47.out (HT.out W HB0.out)).mono ?_
  rintro e w1 ⟨hb1, hm⟩
  have HB1 := Lib.hid (HB0.out.trans (hb1.mono HB0.out.size))
  have HR1 := Lib.hid (HR0.out.on hb1 (by have := HSW.out; omega))
  have HS1 : Hid (w.heap.size + 1 ≤ w1.heap.size) := Nat.le_trans HSW.out hb1.size
  clear hb1
  cases hit : decodeN bs with
  | error q =>
    rw [hit] at hm
    have hm : e = .returned (.tuple #[itemV 0 0 [], .int .i64 q]) := hm
    subst hm
    have hq := decodeN_err hit
    have hq0 : ((q : Int) == 0) = false := by simp; omega
    have HD := Lib.hid (rdBy_err hit)
    clear hit hm hq
    unfold itemV
    go_wp2_with fail
    refine ⟨by first | trivial | rfl, below_al HB1.out _, ?_⟩
    rw [HD.out]
    rfl
  | ok x =>
    rw [hit] at hm
    obtain ⟨v, rfl, hx⟩ := hm
    obtain ⟨a0, c0, A0, C0, rfl⟩ := hx.form
    have HDp := Lib.hid (decodeN_ok hit)
    have HIt := Lib.hid hit
    obtain ⟨w2, hw2⟩ : ∃ w2, w2 = w1.alloc (.cells #[.int .i64 x.k, .int .u64 x.n, .slice a0 x.b.length c0, .string ⟨x.s.toArray⟩, .slice A0 x.l.length C0] 84) := ⟨_, rfl⟩
    have hb2 : Below w1.heap.size w1 w2 := by rw [hw2]; exact below_al (Below.refl _ _) _
    have HV : Hid (ItV w2 w2.heap.size (.agg #[.int .i64 x.k, .int .u64 x.n, .slice a0 x.b.length c0, .string ⟨x.s.toArray⟩, .slice A0 x.l.length C0]) x) := (hx.new_itV).on hb2
    have HB2 := Lib.hid (below_on HB1.out hb2)
    have HR2 := Lib.hid (HR1.out.on hb2 (by have := HS1.out; omega))
    have HS2 : Hid (w.heap.size + 1 ≤ w2.heap.size) := Nat.le_trans HS1.out hb2.size
    have HW2 := Lib.hid hw2
    clear hit hx hb2 hw2
    go_wp2_with fail
    rw [← HW2.out]
    refine (pread_any x _ w2 HDp.out.1 HDp.out.2 HV.out).mono ?_
    rintro e w3 ⟨hb3, ⟨p, rfl, hok, hri, hrd⟩ | ⟨rfl, hrd⟩⟩
    rotate_left
    · have HD := Lib.hid (rdBy_none HIt.out hrd)
      have HB3 := Lib.hid (below_on HB2.out hb3)
      rw [gives_def]
      clear hrd hb3
      go_wp2_with fail
      refine ⟨by first | trivial | rfl, HB3.out, ?_⟩
      rw [HD.out]
      rfl
    have HD := Lib.hid (rdBy_some HIt.out hrd)
    have HOk := Lib.hid hok
    have HRi := Lib.hid hri
    obtain ⟨w4, hw4⟩ : ∃ w4, w4 = w3.alloc (.cells #[.int .u32 p.f, .int .i64 p.s, .int .u32 p.tn, .int .u32 p.tm, .int .u32 p.sn, .int .u32 p.sm, .int .u32 p.rn, .int .u32 p.rm, .int .u64 p.t, .int .u32 p.q, .int .u64 p.l] 59) := ⟨_, rfl⟩
    have hb4 : Below w3.heap.size w3 w4 := by rw [hw4]; exact below_al (Below.refl _ _) _
    have HB4 := Lib.hid (below_on HB2.out (below_on hb3 hb4))
    have HR4 := Lib.hid (HR2.out.on (below_on hb3 hb4) (by have := HS2.out; omega))
    have HS4 : Hid (w.heap.size + 1 ≤ w4.heap.size) := Nat.le_trans HS2.out (Nat.le_trans hb3.size hb4.size)
    have HX : Hid (∀ w', Below w4.heap.size w4 w' → (w'.cell? ⟨w3.heap.size, 0, none⟩ = some (.int .u32 p.f) ∧ w'.cell? ⟨w3.heap.size, 1, none⟩ = some (.int .i64 p.s) ∧ w'.cell? ⟨w3.heap.size, 2, none⟩ = some (.int .u32 p.tn) ∧ w'.cell? ⟨w3.heap.size, 3, none⟩ = some (.int .u32 p.tm) ∧ w'.cell? ⟨w3.heap.size, 4, none⟩ = some (.int .u32 p.sn) ∧ w'.cell? ⟨w3.heap.size, 5, none⟩ = some (.int .u32 p.sm) ∧ w'.cell? ⟨w3.heap.size, 6, none⟩ = some (.int .u32 p.rn) ∧ w'.cell? ⟨w3.heap.size, 7, none⟩ = some (.int .u32 p.rm) ∧ w'.cell? ⟨w3.heap.size, 8, none⟩ = some (.int .u64 p.t) ∧ w'.cell? ⟨w3.heap.size, 9, none⟩ = some (.int .u32 p.q) ∧ w'.cell? ⟨w3.heap.size, 10, none⟩ = some (.int .u64 p.l))) := fun w' h => by
      rw [hw4] at h
      exact pbox h
    have HW4 := Lib.hid hw4
    clear hrd hok hri hb3 hb4 hw4
    go_wp2_with fail
    rw [← HW4.out]
    refine (pbytesR_any p HOk.out HRi.out w4 (HT.out w4 HB4.out)).mono ?_
    rintro e w5 ⟨u, rfl, hown, hb5⟩
    obtain ⟨A, C, rfl, _, hrd, _⟩ := hown.bytes
    have HB5 := Lib.hid (below_on HB4.out hb5)
    have HR5 := Lib.hid (HR4.out.on hb5 (by have := HS4.out; omega))
    have HRd := Lib.hid hrd
    obtain ⟨x0, x1, x2, x3, x4, x5, x6, x7, x8, x9, x10⟩ := HX.out w5 hb5
    obtain ⟨L, hL⟩ : ∃ L, L = (encP p p.s.toNat).length := ⟨_, rfl⟩
    rw [← hL]
    have HLn := Lib.hid hL
    obtain ⟨q, hq⟩ : ∃ q, q = (encP p p.s.toNat == bs) := ⟨_, rfl⟩
    have HQ := Lib.hid hq
    clear hown hrd hb5 hL hq
    go_wp2_with fail
    refine (equal_any A a L n C c (encP p p.s.toNat) bs HLn.out HN.out w5 w5.heap.size HRd.out (HBs.out w5 HB5.out)).mono ?_
    rintro e w6 ⟨rfl, h6⟩
    rw [h6, ← HQ.out]
    clear h6
    cases q
    · have HD1 : Hid (rdBy bs = .error 110) := by
        rw [Hid, HD.out, if_neg (fun h => by have := HQ.out; rw [h] at this; simp at this)]
      clear x0 x1 x2 x3 x4 x5 x6 x7 x8 x9 x10
      go_wp2_with fail
      refine ⟨by first | trivial | rfl, HB5.out, ?_⟩
      rw [HD1.out]
      rfl
    · have HD1 : Hid (rdBy bs = .ok p) := by
        rw [Hid, HD.out, if_pos (eq_of_beq HQ.out.symm)]
      have r0 := HR5.out.1 0 _ rfl
      have fr0 := HR5.out.2 0
      have r1 := HR5.out.1 1 _ rfl
      have fr1 := HR5.out.2 1
      have r2 := HR5.out.1 2 _ rfl
      have fr2 := HR5.out.2 2
      have r3 := HR5.out.1 3 _ rfl
      have fr3 := HR5.out.2 3
      have r4 := HR5.out.1 4 _ rfl
      have fr4 := HR5.out.2 4
      have r5 := HR5.out.1 5 _ rfl
      have fr5 := HR5.out.2 5
      have r6 := HR5.out.1 6 _ rfl
      have fr6 := HR5.out.2 6
      have r7 := HR5.out.1 7 _ rfl
      have fr7 := HR5.out.2 7
      have r8 := HR5.out.1 8 _ rfl
      have fr8 := HR5.out.2 8
      have r9 := HR5.out.1 9 _ rfl
      have fr9 := HR5.out.2 9
      have r10 := HR5.out.1 10 _ rfl
      have fr10 := HR5.out.2 10
      go_wp2_with fail
      change bodyPost _ _ _ _ _ (put11 w5 w.heap.size p)
      obtain ⟨s0, s1, s2, s3, s4, s5, s6, s7, s8, s9, s10⟩ := put11_cells r0 r1 r2 r3 r4 r5 r6 r7 r8 r9 r10 p
      have hbk : Below w.heap.size w (put11 w5 w.heap.size p) := put11_on HB5.out (Nat.le_refl _) p
      generalize put11 w5 w.heap.size p = w30 at *
      refine bodyPost_ret (v := .agg #[.int .u32 p.f, .int .i64 p.s, .int .u32 p.tn, .int .u32 p.tm, .int .u32 p.sn, .int .u32 p.sm, .int .u32 p.rn, .int .u32 p.rm, .int .u64 p.t, .int .u32 p.q, .int .u64 p.l]) (by simp [results, Tryz.results39, go_sem, s0, s1, s2, s3, s4, s5, s6, s7, s8, s9, s10]) rfl ⟨hbk, ?_⟩
      rw [HD1.out]

/-- The way that Decode tries. -/
theorem decode1_any (P : Nat) (a : Option Addr) (n c : Nat) (bs : List UInt8) (hn : n = bs.length) (w : World) (hP : w.cell? ⟨P, 0, none⟩ = some (.slice a n c)) (hr : RdB w w.heap.size a bs) (hc : n ≤ c) (hc47 : bs.length ≤ 140737488355328) (ht : TabW w) :
    Calls Tryz.prog 38 #[.pointer (some ⟨P, 0, none⟩)] w (RdPm w (rdBy bs)) := by
  obtain ⟨W, hW⟩ : ∃ W, W = w.alloc (.cells #[.int .u32 0, .int .i64 0, .int .u32 0, .int .u32 0, .int .u32 0, .int .u32 0, .int .u32 0, .int .u32 0, .int .u64 0, .int .u32 0, .int .u64 0] 28) := ⟨_, rfl⟩
  have hPb := World.block_lt_of_cell? w _ hP
  have HB0 : Hid (Below w.heap.size w W) := by rw [hW]; exact below_al (Below.refl _ _) _
  have hsW : w.heap.size + 1 ≤ W.heap.size := by rw [hW]; simp
  have HR0 : Hid (RowB W w.heap.size [.int .u32 0, .int .i64 0, .int .u32 0, .int .u32 0, .int .u32 0, .int .u32 0, .int .u32 0, .int .u32 0, .int .u64 0, .int .u32 0, .int .u64 0]) := by rw [hW]; exact RowB.new w [.int .u32 0, .int .i64 0, .int .u32 0, .int .u32 0, .int .u32 0, .int .u32 0, .int .u32 0, .int .u32 0, .int .u64 0, .int .u32 0, .int .u64 0] 28
  have hP1 : W.cell? ⟨P, 0, none⟩ = some (.slice a n c) := (HB0.out.cell (p := ⟨P, 0, none⟩) hPb).trans hP
  have HSW := Lib.hid hsW
  have HK := Lib.hid (decoded_any a n c bs hn W ((hr.below HB0.out).mono HB0.out.size) hc hc47 (ht.on HB0.out))
  rw [hW] at hP1
  have HW := Lib.hid hW
  clear hW hsW hr ht hn hc47 hP hPb
  go_enter Tryz.func38, Tryz.ntmps38
  go_wp2_with fail
  clear hP1
  rw [← HW.out]
  refine HK.out.mono ?_
  rintro e w1 ⟨hb1, hm⟩
  have HB1 := Lib.hid (HB0.out.trans (hb1.mono HB0.out.size))
  have HR1 := Lib.hid (HR0.out.on hb1 (by have := HSW.out; omega))
  clear hb1
  obtain ⟨r, hr⟩ : ∃ r, r = rdBy bs := ⟨_, rfl⟩
  rw [← hr] at hm
  have HRr := Lib.hid hr
  clear hr
  cases r with
  | error q =>
    have hm : e = gives q := hm
    subst hm
    rw [gives_def]
    go_wp2_with fail
    exact ⟨by first | trivial | rfl, HB1.out, by rw [← HRr.out]; rfl⟩
  | ok p =>
    have hm : e = .returned (.agg #[.int .u32 p.f, .int .i64 p.s, .int .u32 p.tn, .int .u32 p.tm, .int .u32 p.sn, .int .u32 p.sm, .int .u32 p.rn, .int .u32 p.rm, .int .u64 p.t, .int .u32 p.q, .int .u64 p.l]) := hm
    subst hm
    have r0 := HR1.out.1 0 _ rfl
    have fr0 := HR1.out.2 0
    have r1 := HR1.out.1 1 _ rfl
    have fr1 := HR1.out.2 1
    have r2 := HR1.out.1 2 _ rfl
    have fr2 := HR1.out.2 2
    have r3 := HR1.out.1 3 _ rfl
    have fr3 := HR1.out.2 3
    have r4 := HR1.out.1 4 _ rfl
    have fr4 := HR1.out.2 4
    have r5 := HR1.out.1 5 _ rfl
    have fr5 := HR1.out.2 5
    have r6 := HR1.out.1 6 _ rfl
    have fr6 := HR1.out.2 6
    have r7 := HR1.out.1 7 _ rfl
    have fr7 := HR1.out.2 7
    have r8 := HR1.out.1 8 _ rfl
    have fr8 := HR1.out.2 8
    have r9 := HR1.out.1 9 _ rfl
    have fr9 := HR1.out.2 9
    have r10 := HR1.out.1 10 _ rfl
    have fr10 := HR1.out.2 10
    go_wp2_with fail
    change bodyPost _ _ _ _ _ (put11 w1 w.heap.size p)
    obtain ⟨s0, s1, s2, s3, s4, s5, s6, s7, s8, s9, s10⟩ := put11_cells r0 r1 r2 r3 r4 r5 r6 r7 r8 r9 r10 p
    have hbk : Below w.heap.size w (put11 w1 w.heap.size p) := put11_on HB1.out (Nat.le_refl _) p
    generalize put11 w1 w.heap.size p = w30 at *
    exact bodyPost_ret (v := .agg #[.int .u32 p.f, .int .i64 p.s, .int .u32 p.tn, .int .u32 p.tm, .int .u32 p.sn, .int .u32 p.sm, .int .u32 p.rn, .int .u32 p.rm, .int .u64 p.t, .int .u32 p.q, .int .u64 p.l]) (by simp [results, Tryz.results38, go_sem, s0, s1, s2, s3, s4, s5, s6, s7, s8, s9, s10]) rfl ⟨hbk, by rw [← HRr.out]⟩

/-- A primary or a nought, and why. -/
theorem trPm_agg {w w' : World} {r : Except Int Pm} {e : Ending} (h : TrPm w r e w') : ∃ (p : Pm) (c : Int), e = .returned (.tuple #[.agg #[.int .u32 p.f, .int .i64 p.s, .int .u32 p.tn, .int .u32 p.tm, .int .u32 p.sn, .int .u32 p.sm, .int .u32 p.rn, .int .u32 p.rm, .int .u64 p.t, .int .u32 p.q, .int .u64 p.l], .int .i64 c]) ∧ ((r = .ok p ∧ c = 0) ∨ (r = .error c ∧ p = ⟨0, 0, 0, 0, 0, 0, 0, 0, 0, 0, 0⟩)) := by
  obtain ⟨_, h⟩ := h
  cases r with
  | error q => exact ⟨⟨0, 0, 0, 0, 0, 0, 0, 0, 0, 0, 0⟩, q, h, .inr ⟨rfl, rfl⟩⟩
  | ok p => exact ⟨p, 0, h, .inl ⟨rfl, rfl⟩⟩
theorem trPm_of {w w' : World} {r : Except Int Pm} {p : Pm} {c : Int} (h : (r = .ok p ∧ c = 0) ∨ (r = .error c ∧ p = ⟨0, 0, 0, 0, 0, 0, 0, 0, 0, 0, 0⟩)) (hb : Below w.heap.size w w') : TrPm w r (.returned (.tuple #[.agg #[.int .u32 p.f, .int .i64 p.s, .int .u32 p.tn, .int .u32 p.tm, .int .u32 p.sn, .int .u32 p.sm, .int .u32 p.rn, .int .u32 p.rm, .int .u64 p.t, .int .u32 p.q, .int .u64 p.l], .int .i64 c])) w' := by
  rcases h with ⟨rfl, rfl⟩ | ⟨rfl, rfl⟩
  · exact ⟨hb, rfl⟩
  · exact ⟨hb, rfl⟩

set_option maxHeartbeats 4000000 in
theorem prDecode_any (a : Option Addr) (n c : Nat) (bs : List UInt8) (hn : n = bs.length) (w : World) (hr : RdB w w.heap.size a bs) (hc : n ≤ c) (hc47 : bs.length ≤ 140737488355328) (ht : TabW w) :
    Calls Tryz.prog 11 #[.slice a n c] w (TrPm w (rdBy bs)) := by
  have hmf : ∀ (fn : Fn) (first cap : Array Value) (w : World), (Instr.makeFunc fn first cap).run Tryz.prog w = .ok (.func fn first cap) w := fun _ _ _ _ => rfl
  obtain ⟨W1, hW1⟩ : ∃ W, W = w.alloc (.cells #[.slice a n c] 29) := ⟨_, rfl⟩
  have s1 : W1.heap.size = w.heap.size + 1 := by rw [hW1]; simp
  have hb1 : Below w.heap.size w W1 := by rw [hW1]; exact below_al (Below.refl _ _) _
  obtain ⟨W, hW⟩ : ∃ W, W = W1.alloc (.cells #[.int .u32 0, .int .i64 0, .int .u32 0, .int .u32 0, .int .u32 0, .int .u32 0, .int .u32 0, .int .u32 0, .int .u64 0, .int .u32 0, .int .u64 0] 28) := ⟨_, rfl⟩
  have hb2 : Below W1.heap.size W1 W := by rw [hW]; exact below_al (Below.refl _ _) _
  have hbW : Below w.heap.size w W := below_on hb1 hb2
  have hsW : W.heap.size = w.heap.size + 2 := by rw [hW]; simp [s1]
  have hc0 : W1.cell? ⟨w.heap.size, 0, none⟩ = some (.slice a n c) := by rw [hW1]; simp
  have HB := Lib.hid hbW
  have HT := Lib.hid (triedP_any 38 #[.pointer (some ⟨w.heap.size, 0, none⟩)] (rdBy bs) W (enters_of Tryz.func38 (by kernel_rfl) rfl) (fun w' hb => decode1_any w.heap.size a n c bs hn w' (((hb.cell (p := ⟨w.heap.size, 0, none⟩) (show w.heap.size < _ by omega)).trans (hb2.cell (p := ⟨w.heap.size, 0, none⟩) (show w.heap.size < _ by omega))).trans hc0) ((hr.below (below_on hbW hb)).mono (below_on hbW hb).size) hc hc47 (ht.on (below_on hbW hb))))
  have HR : Hid (RowB W (w.heap.size + 1) [.int .u32 0, .int .i64 0, .int .u32 0, .int .u32 0, .int .u32 0, .int .u32 0, .int .u32 0, .int .u32 0, .int .u64 0, .int .u32 0, .int .u64 0]) := by rw [hW, ← s1]; exact RowB.new W1 [.int .u32 0, .int .i64 0, .int .u32 0, .int .u32 0, .int .u32 0, .int .u32 0, .int .u32 0, .int .u32 0, .int .u64 0, .int .u32 0, .int .u64 0] 28
  have HSW : Hid (w.heap.size + 2 ≤ W.heap.size) := Nat.le_of_eq hsW.symm
  have HW : Hid (W = (w.alloc (.cells #[.slice a n c] 29)).alloc (.cells #[.int .u32 0, .int .i64 0, .int .u32 0, .int .u32 0, .int .u32 0, .int .u32 0, .int .u32 0, .int .u32 0, .int .u64 0, .int .u32 0, .int .u64 0] 28)) := by rw [← hW1]; exact hW
  clear hW1 hW hb1 hb2 hbW s1 hsW hc0 hr ht hn hc47
  go_enter Tryz.func11, Tryz.ntmps11
  go_wp2_with fail
  rw [← HW.out]
  refine HT.out.mono ?_
  intro e w1 htr
  have HBB := Lib.hid (below_on HB.out htr.1)
  have HR1 := Lib.hid (HR.out.on htr.1 (by have := HSW.out; omega))
  obtain ⟨p, c', rfl, hr⟩ := trPm_agg htr
  have HTr := Lib.hid hr
  clear htr hr
  have r0 := HR1.out.1 0 _ rfl
  have fr0 := HR1.out.2 0
  have r1 := HR1.out.1 1 _ rfl
  have fr1 := HR1.out.2 1
  have r2 := HR1.out.1 2 _ rfl
  have fr2 := HR1.out.2 2
  have r3 := HR1.out.1 3 _ rfl
  have fr3 := HR1.out.2 3
  have r4 := HR1.out.1 4 _ rfl
  have fr4 := HR1.out.2 4
  have r5 := HR1.out.1 5 _ rfl
  have fr5 := HR1.out.2 5
  have r6 := HR1.out.1 6 _ rfl
  have fr6 := HR1.out.2 6
  have r7 := HR1.out.1 7 _ rfl
  have fr7 := HR1.out.2 7
  have r8 := HR1.out.1 8 _ rfl
  have fr8 := HR1.out.2 8
  have r9 := HR1.out.1 9 _ rfl
  have fr9 := HR1.out.2 9
  have r10 := HR1.out.1 10 _ rfl
  have fr10 := HR1.out.2 10
  go_wp2_with fail
  change bodyPost _ _ _ _ _ (put11 w1 (w.heap.size + 1) p)
  obtain ⟨s0, s1, s2, s3, s4, s5, s6, s7, s8, s9, s10⟩ := put11_cells r0 r1 r2 r3 r4 r5 r6 r7 r8 r9 r10 p
  have hbk : Below w.heap.size w (put11 w1 (w.heap.size + 1) p) := put11_on HBB.out (Nat.le_succ _) p
  generalize put11 w1 (w.heap.size + 1) p = w30 at *
  exact bodyPost_ret (v := .tuple #[.agg #[.int .u32 p.f, .int .i64 p.s, .int .u32 p.tn, .int .u32 p.tm, .int .u32 p.sn, .int .u32 p.sm, .int .u32 p.rn, .int .u32 p.rm, .int .u64 p.t, .int .u32 p.q, .int .u64 p.l], .int .i64 c']) (by simp [results, Tryz.results11, go_sem, s0, s1, s2, s3, s4, s5, s6, s7, s8, s9, s10]) rfl (trPm_of HTr.out hbk)

end Go.Proofs.YtlmdbeccfoncpaaGreatDoor
