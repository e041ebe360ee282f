/- Joined texts. -/
import Derived.Test.YtlmdbeccfoncpaaGreatDoorZKr
import Derived.Test.YtlmdbeccfoncpaaGreatDoorZPmU
import Derived.Test.YtlmdbeccfoncpaaGreatDoorZMu
namespace Go.Proofs.YtlmdbeccfoncpaaGreatDoor
open Go.RowKit Go.Shelf

theorem RdB.of_own {w : World} {base G n C : Nat} {e : TypeId} {bs : List UInt8} (h : OwnV w base e (.slice (some ⟨G, 0, none⟩) n C) (bs.map encB)) : RdB w w.heap.size (some ⟨G, 0, none⟩) bs := by
  obtain ⟨A, C', hv, _, hr, _⟩ := h.bytes
  injection hv with e1
  rw [e1]
  exact hr

theorem own_cell {w : World} {base G n C : Nat} {e : TypeId} {bs : List UInt8} (h : OwnV w base e (.slice (some ⟨G, 0, none⟩) n C) (bs.map encB)) (i : Nat) (hi : i < bs.length) : w.cell? ⟨G, i, none⟩ = some (.int .u8 ((bs[i]?.getD 0).toNat : Int)) := by
  rcases h.form with ⟨h0, _⟩ | ⟨g, cap, hv, _, _, _, _, hc, _⟩
  · cases h0
  · injection hv with e1
    cases e1
    rw [hc i (by simpa using hi), encB_at bs i hi]
    rfl

theorem World.size_setCell' (w : World) (p : Addr) (v : Value) : w.heap.size ≤ (w.setCell p v).heap.size := by
  rcases p with ⟨b, o, _ | s⟩
  all_goals simp

theorem RdB.setOther {w : World} {B G i : Nat} {a : Option Addr} {bs : List UInt8} (h : RdB w B a bs) (hne : ∀ q, a = some q → q.block ≠ G) (v : Value) : RdB (w.setCell ⟨G, i, none⟩ v) B a bs := by
  rcases h with h | ⟨b, o, rfl, hlt, hc⟩
  · exact .inl h
  · refine .inr ⟨b, o, rfl, hlt, fun j hj => ?_⟩
    have := hne _ rfl
    rw [World.cell?_setCell_other _ _ _ _ (by simp; intro e; exact absurd e.symm this)]
    exact hc j hj

theorem flip_val {x j : Nat} (hx : x < 256) (hj : j < 8) : bits .xor .u8 (x : Int) (2 ^ j % 256) = ((x ^^^ 2 ^ j : Nat) : Int) := by
  have hp : 2 ^ j ≤ 128 := by
    have := Nat.pow_le_pow_right (n := 2) (by omega) (show j ≤ 7 by omega)
    omega
  have e : ((2 : Int) ^ j % 256) = ((2 ^ j : Nat) : Int) := by
    have e2 : ((2 ^ j : Nat) : Int) = (2 : Int) ^ j := by rw [Int.natCast_pow]; rfl
    have h3 : 2 ^ j % 256 = 2 ^ j := Nat.mod_eq_of_lt (by omega)
    rw [← e2, show (256 : Int) = ((256 : Nat) : Int) from rfl, ← Int.natCast_emod, h3]
  have hlt : x ^^^ 2 ^ j < 2 ^ 8 := Nat.xor_lt_two_pow (by omega) (by omega)
  have h1 : (BitVec.ofInt 8 (x : Int)).toNat = x := by
    rw [BitVec.ofInt_natCast, BitVec.toNat_ofNat]; exact Nat.mod_eq_of_lt (by omega)
  have h2 : (BitVec.ofInt 8 ((2 ^ j : Nat) : Int)).toNat = 2 ^ j := by
    rw [BitVec.ofInt_natCast, BitVec.toNat_ofNat]; exact Nat.mod_eq_of_lt (by omega)
  rw [e]
  show IntKind.u8.wrap ((BitVec.ofInt 8 (x : Int) ^^^ BitVec.ofInt 8 ((2 ^ j : Nat) : Int)).toNat : Int) = _
  rw [BitVec.toNat_xor, h1, h2, IntKind.wrap_u8]
  omega

theorem own_frozen {w : World} {base G n C : Nat} {e : TypeId} {xs : List Value} (h : OwnV w base e (.slice (some ⟨G, 0, none⟩) n C) xs) (i : Nat) : w.frozen? ⟨G, i, none⟩ = false := by
  rcases h.form with ⟨h0, _⟩ | ⟨g, cap, hv, _, _, _, _, _, hf⟩
  · cases h0
  · injection hv with e1
    cases e1
    exact hf i

end Go.Proofs.YtlmdbeccfoncpaaGreatDoor

namespace Go.Proofs.YtlmdbeccfoncpaaGreatDoor
open Go Go.RowKit Go.Shelf
set_option linter.unusedSimpArgs false
set_option linter.unusedVariables false
set_option maxRecDepth 100000

attribute [local go_sem] Oper.semAt_some

theorem eqP_run (p : Pm) (w : World) : (Op.equalIn 10000 28 (.agg #[.int .u32 p.f, .int .i64 p.s, .int .u32 p.tn, .int .u32 p.tm, .int .u32 p.sn, .int .u32 p.sm, .int .u32 p.rn, .int .u32 p.rm, .int .u64 p.t, .int .u32 p.q, .int .u64 p.l]) (.agg #[.int .u32 p.f, .int .i64 p.s, .int .u32 p.tn, .int .u32 p.tm, .int .u32 p.sn, .int .u32 p.sm, .int .u32 p.rn, .int .u32 p.rm, .int .u64 p.t, .int .u32 p.q, .int .u64 p.l])).run Tryz.prog w = .ok true w := by
  go_simp
  try simp
theorem eqZ_run (w : World) : (Op.equalIn 10000 28 (.agg #[.int .u32 0, .int .i64 0, .int .u32 0, .int .u32 0, .int .u32 0, .int .u32 0, .int .u32 0, .int .u32 0, .int .u64 0, .int .u32 0, .int .u64 0]) (.agg #[.int .u32 0, .int .i64 0, .int .u32 0, .int .u32 0, .int .u32 0, .int .u32 0, .int .u32 0, .int .u32 0, .int .u64 0, .int .u32 0, .int .u64 0])).run Tryz.prog w = .ok true w := by
  go_simp
  try simp

attribute [local go_sem high] eqP_run eqZ_run

/-- Bytes of which one bit is another one are not read. -/
theorem decodeFlip (p : Pm) (hp : p.ok) (hr : p.right = true) (hs : p.s ≠ 0) (G C i j x : Nat) (ss : List UInt8) (hss : ss = encP p p.s.toNat) (w : World) (base : Nat) (e : TypeId) (ho : OwnV w base e (.slice (some ⟨G, 0, none⟩) ss.length C) (ss.map encB))
    (hi : i < ss.length) (hj : j < 8) (hx : x = (ss[i]?.getD 0).toNat) (hlen : ss.length ≤ 1000000) (hC : ss.length ≤ C) (ht : TabW (w.setCell ⟨G, i, none⟩ (.int .u8 (bits .xor .u8 (x : Int) (2 ^ j % 256))))) :
    Calls Tryz.prog 11 #[.slice (some ⟨G, 0, none⟩) ss.length C] (w.setCell ⟨G, i, none⟩ (.int .u8 (bits .xor .u8 (x : Int) (2 ^ j % 256)))) fun e w' =>
      (∃ c : Int, c ≠ 0 ∧ e = .returned (.tuple #[.agg #[.int .u32 0, .int .i64 0, .int .u32 0, .int .u32 0, .int .u32 0, .int .u32 0, .int .u32 0, .int .u32 0, .int .u64 0, .int .u32 0, .int .u64 0], .int .i64 c])) ∧ Below (w.setCell ⟨G, i, none⟩ (.int .u8 (bits .xor .u8 (x : Int) (2 ^ j % 256)))).heap.size (w.setCell ⟨G, i, none⟩ (.int .u8 (bits .xor .u8 (x : Int) (2 ^ j % 256)))) w' := by
  have hx2 : x < 256 := by rw [hx]; exact UInt8.toNat_lt _
  have hlt : x ^^^ 2 ^ j < 2 ^ 8 := Nat.xor_lt_two_pow (by omega) (by
    have := Nat.pow_lt_pow_right (a := 2) (by omega) hj
    omega)
  have hy : (UInt8.ofNat (x ^^^ 2 ^ j)).toNat = x ^^^ 2 ^ j := by
    rw [UInt8.toNat_ofNat']
    exact Nat.mod_eq_of_lt (by omega)
  have hv : Value.int .u8 (bits .xor .u8 (x : Int) (2 ^ j % 256)) = encB (UInt8.ofNat (x ^^^ 2 ^ j)) := by
    rw [flip_val hx2 hj, encB, hy]
  rw [hv] at ht ⊢
  have hp9 := ho.put (i := i) (encB (UInt8.ofNat (x ^^^ 2 ^ j)))
  rw [← List.map_set] at hp9
  have hrd := RdB.of_own hp9
  refine (prDecode_any (some ⟨G, 0, none⟩) ss.length C (ss.set i (UInt8.ofNat (x ^^^ 2 ^ j))) (by simp) _ hrd hC (by rw [List.length_set]; omega) ht).mono ?_
  rintro e w' ⟨hb, hm⟩
  refine ⟨?_, hb⟩
  rw [hss] at hi hx hm
  obtain ⟨c, hc, he⟩ := rdBy_flip p hp hr hs hi hj (y := UInt8.ofNat (x ^^^ 2 ^ j)) (by rw [hy, hx])
  rw [he] at hm
  exact ⟨c, hc, hm⟩

set_option maxHeartbeats 8000000 in
theorem walk_pholds (p : Pm) (hp : p.ok) (bit : Int) (hbit : (Lit.int .i64 bit).wf = true) (w : World) (ht : TabW w) :
    Calls Tryz.prog 5 #[.agg #[.int .u32 p.f, .int .i64 p.s, .int .u32 p.tn, .int .u32 p.tm, .int .u32 p.sn, .int .u32 p.sm, .int .u32 p.rn, .int .u32 p.rm, .int .u64 p.t, .int .u32 p.q, .int .u64 p.l], .int .i64 bit] w fun e w' => e = .returned (.bool true) ∧ Below w.heap.size w w' := by
  obtain ⟨W, hW⟩ : ∃ W, W = w.alloc (.cells #[.int .u32 p.f, .int .i64 p.s, .int .u32 p.tn, .int .u32 p.tm, .int .u32 p.sn, .int .u32 p.sm, .int .u32 p.rn, .int .u32 p.rm, .int .u64 p.t, .int .u32 p.q, .int .u64 p.l] 28) := ⟨_, rfl⟩
  have HB0 : Hid (Below w.heap.size w W) := by rw [hW]; exact below_al (Below.refl _ _) _
  have HX : Hid (∀ w', Below W.heap.size W w' → (w'.cell? ⟨w.heap.size, 0, none⟩ = some (.int .u32 p.f) ∧ w'.cell? ⟨w.heap.size, 1, none⟩ = some (.int .i64 p.s) ∧ w'.cell? ⟨w.heap.size, 2, none⟩ = some (.int .u32 p.tn) ∧ w'.cell? ⟨w.heap.size, 3, none⟩ = some (.int .u32 p.tm) ∧ w'.cell? ⟨w.heap.size, 4, none⟩ = some (.int .u32 p.sn) ∧ w'.cell? ⟨w.heap.size, 5, none⟩ = some (.int .u32 p.sm) ∧ w'.cell? ⟨w.heap.size, 6, none⟩ = some (.int .u32 p.rn) ∧ w'.cell? ⟨w.heap.size, 7, none⟩ = some (.int .u32 p.rm) ∧ w'.cell? ⟨w.heap.size, 8, none⟩ = some (.int .u64 p.t) ∧ w'.cell? ⟨w.heap.size, 9, none⟩ = some (.int .u32 p.q) ∧ w'.cell? ⟨w.heap.size, 10, none⟩ = some (.int .u64 p.l))) := fun w' h => by
    rw [hW] at h
    exact pbox h
  have HT : Hid (∀ w', Below w.heap.size w w' → TabW w') := fun w' h => ht.on h
  have HS0 : Hid (w.heap.size + 1 ≤ W.heap.size) := by rw [hW]; simp [Hid]
  have HP := Lib.hid hp
  have HW := Lib.hid hW
  clear hW ht hbit hp
  obtain ⟨x0, x1, x2, x3, x4, x5, x6, x7, x8, x9, x10⟩ := HX.out W (Below.refl _ _)
  rw [HW.out] at x0 x1 x2 x3 x4 x5 x6 x7 x8 x9 x10
  go_enter Tryz.func5, Tryz.ntmps5
  go_wp2_with fail
  clear x0 x1 x2 x3 x4 x5 x6 x7 x8 x9 x10
  rw [← HW.out]
  refine (prEncodeR_any p HP.out W (HT.out W HB0.out)).mono ?_
  rintro e w1 ⟨hb1, ⟨hr, u, rfl, hown⟩ | ⟨hr, rfl⟩⟩
  rotate_left
  · have HB1 := Lib.hid (below_on HB0.out hb1)
    clear hb1 hr
    go_wp2_with fail
    refine (num6_any 2 _).mono ?_
    rintro e w2 ⟨rfl, rfl⟩
    go_wp2_with fail
    refine (num6_any 2 _).mono ?_
    rintro e w2 ⟨rfl, rfl⟩
    go_wp2_with fail
    refine (prWorks_any _ (HT.out _ HB1.out)).mono ?_
    rintro e w2 ⟨rfl, hb2⟩
    have HB2 := Lib.hid (below_on HB1.out hb2)
    clear hb2
    go_wp2_with fail
    go_ret
    exact ⟨rfl, HB2.out⟩
  obtain ⟨ss, hss⟩ : ∃ ss, ss = encP p p.s.toNat := ⟨_, rfl⟩
  have hrd := rdBy_enc p HP.out hr
  rw [← hss] at hown hrd
  have hlen : ss.length ≤ 404 := by
    have h1 := preB_len p p.s.toNat
    have h2 := wdN_le4 p.s.toNat
    rw [hss, encP_len]
    omega
  have hpos : 0 < ss.length := by
    rw [hss, encP_len]
    have h1 : 1 ≤ (preB p p.s.toNat).length := by
      unfold preB
      split
      · rw [List.length_append]
        have := (head_length 4 (8 : Nat)).1
        omega
      · rw [List.length_append]
        have := (head_length 4 (9 : Nat)).1
        omega
    omega
  obtain ⟨G, C, rfl, hG1, hG2⟩ : ∃ G C, u = .slice (some ⟨G, 0, none⟩) ss.length C ∧ W.heap.size ≤ G ∧ G < w1.heap.size := by
    rcases hown.form with ⟨_, h⟩ | ⟨g, cap, h, hg1, hg2, _⟩
    · have := congrArg List.length h
      simp at this
      rw [this] at hpos
      simp at hpos
    · rw [List.length_map] at h
      exact ⟨g, cap, h, hg1, hg2⟩
  have hC : ss.length ≤ C := by
    obtain ⟨A, C', h1, h2, _, _⟩ := hown.bytes
    injection h1 with _ _ h3
    omega
  have HO := Lib.hid hown
  have HRd := Lib.hid hrd
  have HR := Lib.hid hr
  have HSS := Lib.hid hss
  have HB1 := Lib.hid (below_on HB0.out hb1)
  obtain ⟨L, hL⟩ : ∃ L, L = ss.length := ⟨_, rfl⟩
  have hL404 : L ≤ 404 := by omega
  have HC : Hid (ss.length ≤ C) := hC
  have HLn := Lib.hid hL
  have HG1 := Lib.hid hG1
  have HG2 := Lib.hid hG2
  have HbW1 := Lib.hid hb1
  have HOL : Hid (OwnV w1 W.heap.size 5 (.slice (some ⟨G, 0, none⟩) L C) (ss.map encB)) := by rw [hL]; exact hown
  rw [← hL]
  clear hown hrd hr hss hb1 hlen hpos hC hL hG1 hG2
  go_wp2_with fail
  refine (num6_any 0 _).mono ?_
  rintro e w2 ⟨rfl, rfl⟩
  go_wp2_with fail
  refine (prDecode_any (some ⟨G, 0, none⟩) L C ss HLn.out w1 (RdB.of_own HOL.out) (by have := HC.out; have := HLn.out; omega) (by have := HLn.out; omega) (HT.out w1 HB1.out)).mono ?_
  rintro e w2 ⟨hb2, hm⟩
  rw [HRd.out] at hm
  have hm : e = .returned (.tuple #[.agg #[.int .u32 p.f, .int .i64 p.s, .int .u32 p.tn, .int .u32 p.tm, .int .u32 p.sn, .int .u32 p.sm, .int .u32 p.rn, .int .u32 p.rm, .int .u64 p.t, .int .u32 p.q, .int .u64 p.l], .int .i64 0]) := hm
  subst hm
  obtain ⟨w3, hw3⟩ : ∃ w3, w3 = w2.alloc (.cells #[.int .u32 p.f, .int .i64 p.s, .int .u32 p.tn, .int .u32 p.tm, .int .u32 p.sn, .int .u32 p.sm, .int .u32 p.rn, .int .u32 p.rm, .int .u64 p.t, .int .u32 p.q, .int .u64 p.l] 28) := ⟨_, rfl⟩
  have hb3 : Below w2.heap.size w2 w3 := by rw [hw3]; exact below_al (Below.refl _ _) _
  have HB3 := Lib.hid (below_on HB1.out (below_on hb2 hb3))
  have HO3 : Hid (OwnV w3 W.heap.size 5 (.slice (some ⟨G, 0, none⟩) ss.length C) (ss.map encB)) := OwnV.later HO.out (below_on hb2 hb3)
  have HQ : Hid (∀ w', Below w3.heap.size w3 w' → (w'.cell? ⟨w2.heap.size, 0, none⟩ = some (.int .u32 p.f) ∧ w'.cell? ⟨w2.heap.size, 1, none⟩ = some (.int .i64 p.s) ∧ w'.cell? ⟨w2.heap.size, 2, none⟩ = some (.int .u32 p.tn) ∧ w'.cell? ⟨w2.heap.size, 3, none⟩ = some (.int .u32 p.tm) ∧ w'.cell? ⟨w2.heap.size, 4, none⟩ = some (.int .u32 p.sn) ∧ w'.cell? ⟨w2.heap.size, 5, none⟩ = some (.int .u32 p.sm) ∧ w'.cell? ⟨w2.heap.size, 6, none⟩ = some (.int .u32 p.rn) ∧ w'.cell? ⟨w2.heap.size, 7, none⟩ = some (.int .u32 p.rm) ∧ w'.cell? ⟨w2.heap.size, 8, none⟩ = some (.int .u64 p.t) ∧ w'.cell? ⟨w2.heap.size, 9, none⟩ = some (.int .u32 p.q) ∧ w'.cell? ⟨w2.heap.size, 10, none⟩ = some (.int .u64 p.l))) := fun w' h => by
    rw [hw3] at h
    exact pbox h
  have HQR : Hid (RowB w3 w2.heap.size [.int .u32 p.f, .int .i64 p.s, .int .u32 p.tn, .int .u32 p.tm, .int .u32 p.sn, .int .u32 p.sm, .int .u32 p.rn, .int .u32 p.rm, .int .u64 p.t, .int .u32 p.q, .int .u64 p.l]) := by rw [hw3]; exact RowB.new w2 [.int .u32 p.f, .int .i64 p.s, .int .u32 p.tn, .int .u32 p.tm, .int .u32 p.sn, .int .u32 p.sm, .int .u32 p.rn, .int .u32 p.rm, .int .u64 p.t, .int .u32 p.q, .int .u64 p.l] 28
  have HG3 : Hid (G < w2.heap.size ∧ w2.heap.size + 1 ≤ w3.heap.size) := by
    have h1 := HG2.out
    have h2 := hb2.size
    refine ⟨by omega, ?_⟩
    rw [hw3]
    simp
  have HW1 : Hid (Below W.heap.size W w3) := below_on HbW1.out (below_on hb2 hb3)
  obtain ⟨x0, x1, x2, x3, x4, x5, x6, x7, x8, x9, x10⟩ := HX.out w3 HW1.out
  obtain ⟨y0, y1, y2, y3, y4, y5, y6, y7, y8, y9, y10⟩ := HQ.out w3 (Below.refl _ _)
  rw [hw3] at x0 x1 x2 x3 x4 x5 x6 x7 x8 x9 x10 y0 y1 y2 y3 y4 y5 y6 y7 y8 y9 y10
  have HW3 := Lib.hid hw3
  have hmul : IntKind.i64.wrap (8 * (L : Int)) = 8 * (L : Int) := IntWalk.i64_in _ (by omega)
  clear hb2 hb3 hw3 hm
  have hh : p.s = 0 ∨ (¬ p.s = 0 ∧ bit < 0) ∨ (¬ p.s = 0 ∧ ¬ bit < 0 ∧ 8 * (L : Int) ≤ bit) ∨ (¬ p.s = 0 ∧ ¬ bit < 0 ∧ ¬ 8 * (L : Int) ≤ bit) := by omega
  go_wp2_with fail
  rw [← HW3.out]
  clear x0 x2 x3 x4 x5 x6 x7 x8 x9 x10 y0 y1 y2 y3 y4 y5 y6 y7 y8 y9 y10
  rw [← HW3.out] at x1
  refine (num6_any 0 _).mono ?_
  rintro e w4 ⟨rfl, rfl⟩
  rcases hh with g1 | ⟨g1, g2⟩ | ⟨g1, g2, g3⟩ | ⟨g1, g2, g3⟩
  · have d1 : (p.s == 0) = true := by rw [g1]; rfl
    go_wp2_with fail
    refine (prWorks_any _ (HT.out _ HB3.out)).mono ?_
    rintro e w5 ⟨rfl, hb5⟩
    have HB5 := Lib.hid (below_on HB3.out hb5)
    clear hb5
    go_wp2_with fail
    go_ret
    exact ⟨rfl, HB5.out⟩
  · have d1 : (p.s == 0) = false := by simp [g1]
    go_wp2_with fail
    refine (prWorks_any _ (HT.out _ HB3.out)).mono ?_
    rintro e w5 ⟨rfl, hb5⟩
    have HB5 := Lib.hid (below_on HB3.out hb5)
    clear hb5
    go_wp2_with fail
    go_ret
    exact ⟨rfl, HB5.out⟩
  · have d1 : (p.s == 0) = false := by simp [g1]
    go_wp2_with fail
    refine (prWorks_any _ (HT.out _ HB3.out)).mono ?_
    rintro e w5 ⟨rfl, hb5⟩
    have HB5 := Lib.hid (below_on HB3.out hb5)
    clear hb5
    go_wp2_with fail
    go_ret
    exact ⟨rfl, HB5.out⟩
  · have d1 : (p.s == 0) = false := by simp [g1]
    obtain ⟨t, rfl⟩ := Int.eq_ofNat_of_zero_le (a := bit) (by omega)
    obtain ⟨i, hi⟩ : ∃ i, i = t / 8 := ⟨_, rfl⟩
    obtain ⟨j, hj⟩ : ∃ j, j = t % 8 := ⟨_, rfl⟩
    have hil : i < L := by omega
    have hj8 : j < 8 := by omega
    have hq : (t : Int) / 8 = (i : Int) := by omega
    have hm : (t : Int) % 8 = (j : Int) := by omega
    have ht0 : (0 : Int) ≤ (t : Int) := by omega
    have htb : (t : Int) < 20000 := by omega
    have HI := Lib.hid hi
    have HJ := Lib.hid hj
    have HNz := Lib.hid g1
    clear hi hj
    obtain ⟨x, hx⟩ : ∃ x, x = (ss[i]?.getD 0).toNat := ⟨_, rfl⟩
    have hx2 : x < 256 := by rw [hx]; exact UInt8.toNat_lt _
    have hcx : w3.cell? ⟨G, i, none⟩ = some (.int .u8 x) := by
      rw [hx]
      exact own_cell HO3.out i (by rw [← HLn.out]; exact hil)
    have hfz : w3.frozen? ⟨G, i, none⟩ = false := own_frozen HO3.out i
    have HXx := Lib.hid hx
    clear hx g1
    go_wp2_with fail
    obtain ⟨w5, hw5⟩ : ∃ w5, w5 = w3.setCell ⟨G, i, none⟩ (.int .u8 (bits .xor .u8 (x : Int) (2 ^ j % 256))) := ⟨_, rfl⟩
    have hG := HG3.out
    have HB5 : Hid (Below w.heap.size w w5) := by
      rw [hw5]
      exact HB3.out.setCell (p := ⟨G, i, none⟩) (by have h1 := HG1.out; have h2 := HB0.out.size; show w.heap.size ≤ G; omega) _
    have HQR5 : Hid (RowB w5 w2.heap.size [.int .u32 p.f, .int .i64 p.s, .int .u32 p.tn, .int .u32 p.tm, .int .u32 p.sn, .int .u32 p.sm, .int .u32 p.rn, .int .u32 p.rm, .int .u64 p.t, .int .u32 p.q, .int .u64 p.l]) := by
      rw [hw5]
      exact HQR.out.other (by omega) _
    have hs5 : w5.heap.size = w3.heap.size := by rw [hw5]; simp
    have HK := Lib.hid (decodeFlip p HP.out HR.out HNz.out G C i j x ss HSS.out w3 _ _ HO3.out (by rw [← HLn.out]; exact hil) hj8 HXx.out (by rw [← HLn.out]; omega) HC.out (by rw [← hw5]; exact HT.out w5 HB5.out))
    rw [← hw5] at HK ⊢
    have HS5 : Hid (w2.heap.size + 1 ≤ w5.heap.size) := by rw [Hid, hs5]; exact hG.2
    clear hcx hfz hw5 hs5 hG
    have hk := HK.out
    rw [← HLn.out] at hk
    refine hk.mono ?_
    rintro e w6 ⟨⟨c, hc0, rfl⟩, hb6⟩
    have hcb : (c != 0) = true := by simp [hc0]
    have HB6 := Lib.hid (below_on HB5.out hb6)
    have HQR6 := Lib.hid (HQR5.out.on hb6 (by have := HS5.out; omega))
    have HLQ : Hid (w.heap.size ≤ w2.heap.size) := by
      have h1 := HG3.out
      have h2 := HG1.out
      have h3 := HB0.out.size
      rw [Hid]
      omega
    clear hk hb6 x1
    have r0 := HQR6.out.1 0 _ rfl
    have fr0 := HQR6.out.2 0
    have r1 := HQR6.out.1 1 _ rfl
    have fr1 := HQR6.out.2 1
    have r2 := HQR6.out.1 2 _ rfl
    have fr2 := HQR6.out.2 2
    have r3 := HQR6.out.1 3 _ rfl
    have fr3 := HQR6.out.2 3
    have r4 := HQR6.out.1 4 _ rfl
    have fr4 := HQR6.out.2 4
    have r5 := HQR6.out.1 5 _ rfl
    have fr5 := HQR6.out.2 5
    have r6 := HQR6.out.1 6 _ rfl
    have fr6 := HQR6.out.2 6
    have r7 := HQR6.out.1 7 _ rfl
    have fr7 := HQR6.out.2 7
    have r8 := HQR6.out.1 8 _ rfl
    have fr8 := HQR6.out.2 8
    have r9 := HQR6.out.1 9 _ rfl
    have fr9 := HQR6.out.2 9
    have r10 := HQR6.out.1 10 _ rfl
    have fr10 := HQR6.out.2 10
    go_wp2_with fail
    change Calls _ _ _ (put11 w6 w2.heap.size ⟨0, 0, 0, 0, 0, 0, 0, 0, 0, 0, 0⟩) _
    obtain ⟨s0', s1', s2', s3', s4', s5', s6', s7', s8', s9', s10'⟩ := put11_cells r0 r1 r2 r3 r4 r5 r6 r7 r8 r9 r10 ⟨0, 0, 0, 0, 0, 0, 0, 0, 0, 0, 0⟩
    have HB7 : Hid (Below w.heap.size w (put11 w6 w2.heap.size ⟨0, 0, 0, 0, 0, 0, 0, 0, 0, 0, 0⟩)) := put11_on HB6.out HLQ.out _
    generalize put11 w6 w2.heap.size ⟨0, 0, 0, 0, 0, 0, 0, 0, 0, 0, 0⟩ = w7 at *
    have s0 : w7.cell? ⟨w2.heap.size, 0, none⟩ = some (.int .u32 0) := s0'
    have s1 : w7.cell? ⟨w2.heap.size, 1, none⟩ = some (.int .i64 0) := s1'
    have s2 : w7.cell? ⟨w2.heap.size, 2, none⟩ = some (.int .u32 0) := s2'
    have s3 : w7.cell? ⟨w2.heap.size, 3, none⟩ = some (.int .u32 0) := s3'
    have s4 : w7.cell? ⟨w2.heap.size, 4, none⟩ = some (.int .u32 0) := s4'
    have s5 : w7.cell? ⟨w2.heap.size, 5, none⟩ = some (.int .u32 0) := s5'
    have s6 : w7.cell? ⟨w2.heap.size, 6, none⟩ = some (.int .u32 0) := s6'
    have s7 : w7.cell? ⟨w2.heap.size, 7, none⟩ = some (.int .u32 0) := s7'
    have s8 : w7.cell? ⟨w2.heap.size, 8, none⟩ = some (.int .u64 0) := s8'
    have s9 : w7.cell? ⟨w2.heap.size, 9, none⟩ = some (.int .u32 0) := s9'
    have s10 : w7.cell? ⟨w2.heap.size, 10, none⟩ = some (.int .u64 0) := s10'
    clear s0' r0 fr0 s1' r1 fr1 s2' r2 fr2 s3' r3 fr3 s4' r4 fr4 s5' r5 fr5 s6' r6 fr6 s7' r7 fr7 s8' r8 fr8 s9' r9 fr9 s10' r10 fr10
    refine (num6_any c _).mono ?_
    rintro e w8 ⟨rfl, rfl⟩
    go_wp2_with fail
    refine (prWorks_any _ (HT.out _ HB7.out)).mono ?_
    rintro e w9 ⟨rfl, hb9⟩
    have HB9 := Lib.hid (below_on HB7.out hb9)
    clear hb9
    go_wp2_with fail
    go_ret
    exact ⟨rfl, HB9.out⟩

end Go.Proofs.YtlmdbeccfoncpaaGreatDoor
