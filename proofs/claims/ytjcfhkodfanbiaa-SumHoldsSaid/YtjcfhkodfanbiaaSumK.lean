/- The walk of SumHolds: either sum, all bytes, every bit. -/
import Derived.Test.YtjcfhkodfanbiaaSumI
import Derived.Test.YtjcfhkodfanbiaaSumJ
import Derived.Test.YtjcfhkodfanbiaaOctX
import Derived.Deep.RegionHeld
namespace Go.Proofs.Ytjcfhkodfanbiaa
open Go.RowKit Go.Shelf

theorem RdB.of_own {w : World} {base G n C : Nat} {e : TypeId} {bs : List UInt8} (h : OwnV w base e (.slice (some ⟨G, 0, none⟩) n C) (bs.map encB)) : RdB w w.heap.size (some ⟨G, 0, none⟩) bs := by
  obtain ⟨A, C', hv, _, hr, _⟩ := h.bytes
  injection hv with e1
  rw [e1]
  exact hr

theorem own_cell {w : World} {base G n C : Nat} {e : TypeId} {bs : List UInt8} (h : OwnV w base e (.slice (some ⟨G, 0, none⟩) n C) (bs.map encB)) (i : Nat) (hi : i < bs.length) : w.cell? ⟨G, i, none⟩ = some (.int .u8 ((bs[i]?.getD 0).toNat : Int)) := by
  rcases h.form with ⟨h0, _⟩ | ⟨g, cap, hv, _, _, _, _, hc, _⟩
  · cases h0
  · injection hv with e1
    cases e1
    rw [hc i (by simpa using hi), encB_at bs i hi]
    rfl

theorem World.size_setCell' (w : World) (p : Addr) (v : Value) : w.heap.size ≤ (w.setCell p v).heap.size := by
  rcases p with ⟨b, o, _ | s⟩
  all_goals simp

theorem RdB.setOther {w : World} {B G i : Nat} {a : Option Addr} {bs : List UInt8} (h : RdB w B a bs) (hne : ∀ q, a = some q → q.block ≠ G) (v : Value) : RdB (w.setCell ⟨G, i, none⟩ v) B a bs := by
  rcases h with h | ⟨b, o, rfl, hlt, hc⟩
  · exact .inl h
  · refine .inr ⟨b, o, rfl, hlt, fun j hj => ?_⟩
    have := hne _ rfl
    rw [World.cell?_setCell_other _ _ _ _ (by simp; intro e; exact absurd e.symm this)]
    exact hc j hj

theorem flip_val {x j : Nat} (hx : x < 256) (hj : j < 8) : bits .xor .u8 (x : Int) (2 ^ j % 256) = ((x ^^^ 2 ^ j : Nat) : Int) := by
  have hp : 2 ^ j ≤ 128 := by
    have := Nat.pow_le_pow_right (n := 2) (by omega) (show j ≤ 7 by omega)
    omega
  have e : ((2 : Int) ^ j % 256) = ((2 ^ j : Nat) : Int) := by
    have e2 : ((2 ^ j : Nat) : Int) = (2 : Int) ^ j := by rw [Int.natCast_pow]; rfl
    have h3 : 2 ^ j % 256 = 2 ^ j := Nat.mod_eq_of_lt (by omega)
    rw [← e2, show (256 : Int) = ((256 : Nat) : Int) from rfl, ← Int.natCast_emod, h3]
  have hlt : x ^^^ 2 ^ j < 2 ^ 8 := Nat.xor_lt_two_pow (by omega) (by omega)
  have h1 : (BitVec.ofInt 8 (x : Int)).toNat = x := by
    rw [BitVec.ofInt_natCast, BitVec.toNat_ofNat]; exact Nat.mod_eq_of_lt (by omega)
  have h2 : (BitVec.ofInt 8 ((2 ^ j : Nat) : Int)).toNat = 2 ^ j := by
    rw [BitVec.ofInt_natCast, BitVec.toNat_ofNat]; exact Nat.mod_eq_of_lt (by omega)
  rw [e]
  show IntKind.u8.wrap ((BitVec.ofInt 8 (x : Int) ^^^ BitVec.ofInt 8 ((2 ^ j : Nat) : Int)).toNat : Int) = _
  rw [BitVec.toNat_xor, h1, h2, IntKind.wrap_u8]
  omega

theorem openFlip (k : Nat) (h1 : 1 ≤ k) (h2 : k ≤ 2) (G C i j x : Nat) (bs ss : List UInt8) (hss : ss = bs ++ sumB k bs) (w : World) (base : Nat) (e : TypeId) (ho : OwnV w base e (.slice (some ⟨G, 0, none⟩) ss.length C) (ss.map encB))
    (hi : i < ss.length) (hj : j < 8) (hx : x = (ss[i]?.getD 0).toNat) (hlen : ss.length ≤ 140737488355328) :
    Calls Try.prog 14 #[.int .i64 k, .slice (some ⟨G, 0, none⟩) ss.length C] (w.setCell ⟨G, i, none⟩ (.int .u8 (bits .xor .u8 (x : Int) (2 ^ j % 256)))) fun e w' =>
      e = .returned (.tuple #[.slice none 0 0, .int .i64 110]) ∧ Below (w.setCell ⟨G, i, none⟩ (.int .u8 (bits .xor .u8 (x : Int) (2 ^ j % 256)))).heap.size (w.setCell ⟨G, i, none⟩ (.int .u8 (bits .xor .u8 (x : Int) (2 ^ j % 256)))) w' := by
  have hx2 : x < 256 := by rw [hx]; exact UInt8.toNat_lt _
  have hlt : x ^^^ 2 ^ j < 2 ^ 8 := Nat.xor_lt_two_pow (by omega) (by
    have := Nat.pow_lt_pow_right (a := 2) (by omega) hj
    omega)
  have hy : (UInt8.ofNat (x ^^^ 2 ^ j)).toNat = x ^^^ 2 ^ j := by
    rw [UInt8.toNat_ofNat']
    exact Nat.mod_eq_of_lt (by omega)
  have hv : Value.int .u8 (bits .xor .u8 (x : Int) (2 ^ j % 256)) = encB (UInt8.ofNat (x ^^^ 2 ^ j)) := by
    rw [flip_val hx2 hj, encB, hy]
  rw [hv]
  have hp := ho.put (i := i) (encB (UInt8.ofNat (x ^^^ 2 ^ j)))
  rw [← List.map_set] at hp
  have hr := RdB.of_own hp
  refine opensNone k h2 _ _ C _ (by simp) _ (by simpa using hlen) ?_ hr
  rw [hss]
  rw [hss] at hi
  refine openN_flip h1 h2 bs _ hi hj ?_
  rw [hy, hx, hss]

theorem own_frozen {w : World} {base G n C : Nat} {e : TypeId} {xs : List Value} (h : OwnV w base e (.slice (some ⟨G, 0, none⟩) n C) xs) (i : Nat) : w.frozen? ⟨G, i, none⟩ = false := by
  rcases h.form with ⟨h0, _⟩ | ⟨g, cap, hv, _, _, _, _, _, hf⟩
  · cases h0
  · injection hv with e1
    cases e1
    exact hf i

/-- What Seal makes, as it lies. -/
theorem seal_at (k : Nat) (h1 : 1 ≤ k) (hk : k ≤ 2) (a : Option Addr) (n c : Nat) (bs ss : List UInt8) (hn : n = bs.length) (hss : ss = bs ++ sumB k bs) (w : World) (hlen : bs.length ≤ 140737488351232) (hc : n ≤ c) (hr : RdB w w.heap.size a bs) :
    Calls Try.prog 13 #[.int .i64 k, .slice a n c] w fun e w' => ∃ G C, e = .returned (.tuple #[.slice (some ⟨G, 0, none⟩) ss.length C, .int .i64 0]) ∧ w.heap.size ≤ G ∧ G < w'.heap.size ∧
      OwnV w' w.heap.size 5 (.slice (some ⟨G, 0, none⟩) ss.length C) (ss.map encB) ∧ Below w.heap.size w w' := by
  refine (seal_ok k hk a n c bs hn w hlen hc hr).mono ?_
  rintro e w' ⟨v, rfl, ho, hb⟩
  rw [← hss] at ho
  have hl := sumB_length k bs
  have hpos : 0 < ss.length := by
    have : k = 1 ∨ k = 2 := by omega
    rw [hss, List.length_append, hl]
    rcases this with rfl | rfl <;> simp [wdN]
  rcases ho.form with ⟨_, h⟩ | ⟨g, cap, rfl, hg1, hg2, _⟩
  · have := congrArg List.length h
    simp at this
    rw [this] at hpos
    simp at hpos
  · rw [List.length_map] at ho ⊢
    exact ⟨g, cap, rfl, hg1, hg2, ho, hb⟩

theorem openSealed (k : Nat) (hk : k ≤ 2) (a : Option Addr) (n c : Nat) (bs ss : List UInt8) (hn : n = ss.length) (hss : ss = bs ++ sumB k bs) (w : World) (hlen : ss.length ≤ 140737488355328) (hr : RdB w w.heap.size a ss) :
    Calls Try.prog 14 #[.int .i64 k, .slice a n c] w fun e w' => ∃ A C, e = .returned (.tuple #[.slice A bs.length C, .int .i64 0]) ∧ RdB w' w'.heap.size A bs ∧ (∀ q, A = some q → w.heap.size ≤ q.block) ∧ Below w.heap.size w w' := by
  refine (open_any k hk a n c ss hn w hlen hr).mono ?_
  have h0 : openN k ss = some bs := by rw [hss]; exact openN_seal k bs
  rintro e w' ⟨⟨h, _⟩ | ⟨p, h, A, C, rfl, hra, hfar⟩, hb⟩
  · rw [h0] at h
    cases h
  · rw [h0] at h
    injection h with h
    subst h
    exact ⟨A, C, rfl, hra, hfar, hb⟩

set_option maxRecDepth 100000 in
set_option maxHeartbeats 4000000 in
theorem walk_short (bit : Int) (a : Option Addr) (c : Nat) (bs : List UInt8) (w : World) (hlen : bs.length ≤ 140737488351232) (hc : bs.length ≤ c) (hr : RdB w w.heap.size a bs) :
    Calls Try.prog 5 #[.bool false, .slice a bs.length c, .int .i64 bit] w fun e w' => e = .returned (.bool true) ∧ Below w.heap.size w w' := by
  have HR := Lib.hid hr
  obtain ⟨ss, hss⟩ : ∃ ss, ss = bs ++ sumB 1 bs := ⟨_, rfl⟩
  have hsl : ss.length = bs.length + 2 := by rw [hss, List.length_append, sumB_length]; rfl
  have hsl2 : ss.length ≤ 140737488355328 := by omega
  have HSS := Lib.hid hss
  have HSL := Lib.hid hsl
  clear hr hss hsl
  have hmul : IntKind.i64.wrap (8 * (ss.length : Int)) = 8 * (ss.length : Int) := IntWalk.i64_in _ (by omega)
  have hh : (2000 : Int) < (bs.length : Int) ∨ (¬ (2000 : Int) < (bs.length : Int) ∧ bit < 0) ∨ (¬ (2000 : Int) < (bs.length : Int) ∧ ¬ bit < 0 ∧ 8 * (ss.length : Int) ≤ bit) ∨ (¬ (2000 : Int) < (bs.length : Int) ∧ ¬ bit < 0 ∧ ¬ 8 * (ss.length : Int) ≤ bit) := by omega
  go_enter Try.func5, Try.ntmps5
  go_wp2_with fail
  refine (seal_at 1 (by decide) (by decide) a _ c bs ss rfl HSS.out w hlen hc HR.out).mono ?_
  rintro e w1 ⟨G, C, rfl, hG1, hG2, ho, hb1⟩
  have hrs := RdB.of_own ho
  have HO := Lib.hid ho
  clear ho
  go_wp2_with fail
  refine (openSealed 1 (by decide) _ _ C bs ss rfl HSS.out w1 hsl2 hrs).mono ?_
  rintro e w2 ⟨A, D, rfl, hra, hfar, hb2⟩
  have HRA := Lib.hid hra
  have HFar := Lib.hid hfar
  clear hra hfar hrs
  rcases hh with g1 | ⟨g1, g2⟩ | ⟨g1, g2, g3⟩ | ⟨g1, g2, g3⟩
  · go_wp2_with fail
    refine (works_any _).mono ?_
    rintro e w3 ⟨rfl, hb3⟩
    go_wp2
    go_ret
    exact ⟨rfl, below_on (below_on hb1 hb2) hb3⟩
  · go_wp2_with fail
    refine (works_any _).mono ?_
    rintro e w3 ⟨rfl, hb3⟩
    go_wp2
    go_ret
    exact ⟨rfl, below_on (below_on hb1 hb2) hb3⟩
  · go_wp2_with fail
    refine (works_any _).mono ?_
    rintro e w3 ⟨rfl, hb3⟩
    go_wp2
    go_ret
    exact ⟨rfl, below_on (below_on hb1 hb2) hb3⟩
  · obtain ⟨t, rfl⟩ := Int.eq_ofNat_of_zero_le (a := bit) (by omega)
    obtain ⟨i, hi⟩ : ∃ i, i = t / 8 := ⟨_, rfl⟩
    obtain ⟨j, hj⟩ : ∃ j, j = t % 8 := ⟨_, rfl⟩
    have hil : i < ss.length := by omega
    have hj8 : j < 8 := by omega
    have hq : (t : Int) / 8 = (i : Int) := by omega
    have hm : (t : Int) % 8 = (j : Int) := by omega
    have ht0 : (0 : Int) ≤ (t : Int) := by omega
    have htb : (t : Int) < 20000 := by have := HSL.out; omega
    have HI := Lib.hid hi
    have HJ := Lib.hid hj
    clear hi hj
    obtain ⟨x, hx⟩ : ∃ x, x = (ss[i]?.getD 0).toNat := ⟨_, rfl⟩
    have hx2 : x < 256 := by rw [hx]; exact UInt8.toNat_lt _
    have hcx : w2.cell? ⟨G, i, none⟩ = some (.int .u8 x) := by
      have h1 := (hb2.cell (p := ⟨G, i, none⟩) hG2).trans (own_cell HO.out i hil)
      rw [hx]
      exact h1
    have hfz : w2.frozen? ⟨G, i, none⟩ = false := own_frozen (OwnV.later HO.out hb2) i
    have HX := Lib.hid hx
    clear hx
    go_wp2_with fail
    refine (openFlip 1 (by decide) (by decide) G C i j x bs ss HSS.out w2 _ _ (OwnV.later HO.out hb2) hil hj8 HX.out hsl2).mono ?_
    rintro e w3 ⟨rfl, hb3⟩
    have B2 := below_on hb1 hb2
    have B3 := (below_on hb1 hb2).setCell (p := ⟨G, i, none⟩) hG1 (.int .u8 (bits .xor .u8 (x : Int) (2 ^ j % 256)))
    have B4 := below_on B3 hb3
    have k1 := ((HRA.out.setOther (G := G) (i := i) (fun q hq => by have := HFar.out q hq; omega) (.int .u8 (bits .xor .u8 (x : Int) (2 ^ j % 256)))).below (hb3.mono (World.size_setCell' _ _ _))).text (P := Try.prog) 23 9 5 bs.length D rfl Try.underlying23 Try.underlying5 Try.underlying9
    have k2 := (HR.out.below B4).text (P := Try.prog) 23 9 5 bs.length c rfl Try.underlying23 Try.underlying5 Try.underlying9
    have H4 := Lib.hid B4
    clear hb1 hb2 hb3 B2 B3 B4 hcx hfz
    go_wp2_with (go_at_call 10; refine (num_any _ _).mono ?_; rintro e w' ⟨rfl, rfl⟩)
    refine (works_any _).mono ?_
    rintro e w5 ⟨rfl, hb5⟩
    go_wp2
    go_ret
    exact ⟨rfl, below_on H4.out hb5⟩

set_option maxRecDepth 100000 in
set_option maxHeartbeats 4000000 in
theorem walk_long (bit : Int) (a : Option Addr) (c : Nat) (bs : List UInt8) (w : World) (hlen : bs.length ≤ 140737488351232) (hc : bs.length ≤ c) (hr : RdB w w.heap.size a bs) :
    Calls Try.prog 5 #[.bool true, .slice a bs.length c, .int .i64 bit] w fun e w' => e = .returned (.bool true) ∧ Below w.heap.size w w' := by
  have HR := Lib.hid hr
  obtain ⟨ss, hss⟩ : ∃ ss, ss = bs ++ sumB 2 bs := ⟨_, rfl⟩
  have hsl : ss.length = bs.length + 4 := by rw [hss, List.length_append, sumB_length]; rfl
  have hsl2 : ss.length ≤ 140737488355328 := by omega
  have HSS := Lib.hid hss
  have HSL := Lib.hid hsl
  clear hr hss hsl
  have hmul : IntKind.i64.wrap (8 * (ss.length : Int)) = 8 * (ss.length : Int) := IntWalk.i64_in _ (by omega)
  have hh : (2000 : Int) < (bs.length : Int) ∨ (¬ (2000 : Int) < (bs.length : Int) ∧ bit < 0) ∨ (¬ (2000 : Int) < (bs.length : Int) ∧ ¬ bit < 0 ∧ 8 * (ss.length : Int) ≤ bit) ∨ (¬ (2000 : Int) < (bs.length : Int) ∧ ¬ bit < 0 ∧ ¬ 8 * (ss.length : Int) ≤ bit) := by omega
  go_enter Try.func5, Try.ntmps5
  go_wp2_with fail
  refine (seal_at 2 (by decide) (by decide) a _ c bs ss rfl HSS.out w hlen hc HR.out).mono ?_
  rintro e w1 ⟨G, C, rfl, hG1, hG2, ho, hb1⟩
  have hrs := RdB.of_own ho
  have HO := Lib.hid ho
  clear ho
  go_wp2_with fail
  refine (openSealed 2 (by decide) _ _ C bs ss rfl HSS.out w1 hsl2 hrs).mono ?_
  rintro e w2 ⟨A, D, rfl, hra, hfar, hb2⟩
  have HRA := Lib.hid hra
  have HFar := Lib.hid hfar
  clear hra hfar hrs
  rcases hh with g1 | ⟨g1, g2⟩ | ⟨g1, g2, g3⟩ | ⟨g1, g2, g3⟩
  · go_wp2_with fail
    refine (works_any _).mono ?_
    rintro e w3 ⟨rfl, hb3⟩
    go_wp2
    go_ret
    exact ⟨rfl, below_on (below_on hb1 hb2) hb3⟩
  · go_wp2_with fail
    refine (works_any _).mono ?_
    rintro e w3 ⟨rfl, hb3⟩
    go_wp2
    go_ret
    exact ⟨rfl, below_on (below_on hb1 hb2) hb3⟩
  · go_wp2_with fail
    refine (works_any _).mono ?_
    rintro e w3 ⟨rfl, hb3⟩
    go_wp2
    go_ret
    exact ⟨rfl, below_on (below_on hb1 hb2) hb3⟩
  · obtain ⟨t, rfl⟩ := Int.eq_ofNat_of_zero_le (a := bit) (by omega)
    obtain ⟨i, hi⟩ : ∃ i, i = t / 8 := ⟨_, rfl⟩
    obtain ⟨j, hj⟩ : ∃ j, j = t % 8 := ⟨_, rfl⟩
    have hil : i < ss.length := by omega
    have hj8 : j < 8 := by omega
    have hq : (t : Int) / 8 = (i : Int) := by omega
    have hm : (t : Int) % 8 = (j : Int) := by omega
    have ht0 : (0 : Int) ≤ (t : Int) := by omega
    have htb : (t : Int) < 20000 := by have := HSL.out; omega
    have HI := Lib.hid hi
    have HJ := Lib.hid hj
    clear hi hj
    obtain ⟨x, hx⟩ : ∃ x, x = (ss[i]?.getD 0).toNat := ⟨_, rfl⟩
    have hx2 : x < 256 := by rw [hx]; exact UInt8.toNat_lt _
    have hcx : w2.cell? ⟨G, i, none⟩ = some (.int .u8 x) := by
      have h1 := (hb2.cell (p := ⟨G, i, none⟩) hG2).trans (own_cell HO.out i hil)
      rw [hx]
      exact h1
    have hfz : w2.frozen? ⟨G, i, none⟩ = false := own_frozen (OwnV.later HO.out hb2) i
    have HX := Lib.hid hx
    clear hx
    go_wp2_with fail
    refine (openFlip 2 (by decide) (by decide) G C i j x bs ss HSS.out w2 _ _ (OwnV.later HO.out hb2) hil hj8 HX.out hsl2).mono ?_
    rintro e w3 ⟨rfl, hb3⟩
    have B2 := below_on hb1 hb2
    have B3 := (below_on hb1 hb2).setCell (p := ⟨G, i, none⟩) hG1 (.int .u8 (bits .xor .u8 (x : Int) (2 ^ j % 256)))
    have B4 := below_on B3 hb3
    have k1 := ((HRA.out.setOther (G := G) (i := i) (fun q hq => by have := HFar.out q hq; omega) (.int .u8 (bits .xor .u8 (x : Int) (2 ^ j % 256)))).below (hb3.mono (World.size_setCell' _ _ _))).text (P := Try.prog) 23 9 5 bs.length D rfl Try.underlying23 Try.underlying5 Try.underlying9
    have k2 := (HR.out.below B4).text (P := Try.prog) 23 9 5 bs.length c rfl Try.underlying23 Try.underlying5 Try.underlying9
    have H4 := Lib.hid B4
    clear hb1 hb2 hb3 B2 B3 B4 hcx hfz
    go_wp2_with (go_at_call 10; refine (num_any _ _).mono ?_; rintro e w' ⟨rfl, rfl⟩)
    refine (works_any _).mono ?_
    rintro e w5 ⟨rfl, hb5⟩
    go_wp2
    go_ret
    exact ⟨rfl, below_on H4.out hb5⟩

theorem walk_any (long : Bool) (bit : Int) (a : Option Addr) (c : Nat) (bs : List UInt8) (w : World) (hlen : bs.length ≤ 140737488351232) (hc : bs.length ≤ c) (hr : RdB w w.heap.size a bs) :
    Calls Try.prog 5 #[.bool long, .slice a bs.length c, .int .i64 bit] w fun e w' => e = .returned (.bool true) ∧ Below w.heap.size w w' := by
  cases long
  · exact walk_short bit a c bs w hlen hc hr
  · exact walk_long bit a c bs w hlen hc hr

end Go.Proofs.Ytjcfhkodfanbiaa
