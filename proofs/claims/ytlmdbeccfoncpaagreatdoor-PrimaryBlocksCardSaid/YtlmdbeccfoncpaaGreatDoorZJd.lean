/- Joined texts. -/
import Derived.Test.YtlmdbeccfoncpaaGreatDoorZJb
import Derived.Lib.SlBytesConst
import Derived.Lib.SmallJoins
import Derived.Deep.RegionHeld3
import Derived.Test.YtlmdbeccfoncpaaGreatDoorZJc
namespace Go.Proofs.YtlmdbeccfoncpaaGreatDoor
open Go.RowKit Go.Shelf

theorem put258 (w : World) : Calls Tryz.prog 56 #[.int .u64 258, .int .i64 2] w fun e w' => ∃ a c, e = .returned (.tuple #[.slice a 2 c, .int .i64 0]) ∧ RdB w' w'.heap.size a [1, 2] ∧ Below w.heap.size w w' := by
  refine (put_ok 2 258 w rfl ⟨by decide, by decide⟩ rfl).mono ?_
  rintro e w' ⟨v, rfl, ⟨a, c, rfl, _, hr, _⟩, hb⟩
  have e1 : beB 2 258 = [1, 2] := by decide
  rw [e1] at hr
  exact ⟨a, c, by rw [e1]; rfl, hr, hb⟩

theorem put256 (w : World) : Calls Tryz.prog 56 #[.int .u64 256, .int .i64 1] w fun e w' => e = .returned (.tuple #[.slice none 0 0, .int .i64 4]) ∧ Below w.heap.size w w' :=
  put_range 1 256 w rfl ⟨by decide, by decide⟩ rfl

theorem put13 (w : World) : Calls Tryz.prog 56 #[.int .u64 1, .int .i64 3] w fun e w' => e = .returned (.tuple #[.slice none 0 0, .int .i64 2]) ∧ Below w.heap.size w w' :=
  put_arg 3 1 w rfl

/-- A literal's bytes. -/
theorem rdB_lit (w : World) (t : TypeId) (C : Array Value) (fr : Nat × Nat) (bs : List UInt8) (hC : C = (bs.map encB).toArray) : RdB (w.alloc (.cells C t fr)) (w.heap.size + 1) (some ⟨w.heap.size, 0, none⟩) bs := by
  refine .inr ⟨w.heap.size, 0, rfl, by omega, fun j hj => ?_⟩
  rw [Nat.zero_add, World.cell?_alloc_mark, hC]
  have := encB_at bs j hj
  simpa using this

theorem lit12 : #[Value.int .u8 1, .int .u8 2] = (([1, 2] : List UInt8).map encB).toArray := by rfl
theorem lit97 : #[Value.int .u8 97] = (([97] : List UInt8).map encB).toArray := by rfl
theorem lit98 : #[Value.int .u8 97, .int .u8 98] = (([97, 98] : List UInt8).map encB).toArray := by rfl
theorem lit99 : #[Value.int .u8 98, .int .u8 99] = (([98, 99] : List UInt8).map encB).toArray := by rfl
theorem litabc : #[Value.int .u8 97, .int .u8 98, .int .u8 99] = (([97, 98, 99] : List UInt8).map encB).toArray := by rfl
theorem litabcd : #[Value.int .u8 97, .int .u8 98, .int .u8 99, .int .u8 100] = (([97, 98, 99, 100] : List UInt8).map encB).toArray := by rfl
theorem lit100 : #[Value.int .u8 100] = (([100] : List UInt8).map encB).toArray := by rfl

/-- A literal's bytes, as an argument that is laid last, or last but one. -/
theorem arg_lit (w : World) (t : TypeId) (C : Array Value) (fr : Nat × Nat) (bs : List UInt8) (hC : C = (bs.map encB).toArray) :
    RdB (w.alloc (.cells C t fr)) (w.alloc (.cells C t fr)).heap.size (some ⟨w.heap.size, 0, none⟩) bs := by
  have := rdB_lit w t C fr bs hC
  rwa [World.size_alloc]

theorem arg_lit2 (w : World) (t u : TypeId) (C D : Array Value) (fr gr : Nat × Nat) (bs : List UInt8) (hC : C = (bs.map encB).toArray) :
    RdB ((w.alloc (.cells C t fr)).alloc (.cells D u gr)) ((w.alloc (.cells C t fr)).alloc (.cells D u gr)).heap.size (some ⟨w.heap.size, 0, none⟩) bs :=
  ((arg_lit w t C fr bs hC).below ((Below.refl _ _).alloc (Nat.le_refl _) _)).mono (by simp)

theorem arg_litB (w : World) (o : Obj) (t : TypeId) (C : Array Value) (fr : Nat × Nat) (bs : List UInt8) (hC : C = (bs.map encB).toArray) :
    RdB ((w.alloc o).alloc (.cells C t fr)) ((w.alloc o).alloc (.cells C t fr)).heap.size (some ⟨w.heap.size + 1, 0, none⟩) bs := by
  have := arg_lit (w.alloc o) t C fr bs hC
  simp only [World.size_alloc] at this ⊢
  exact this

theorem get12 (a : Option Addr) (c : Nat) (w : World) (hr : RdB w w.heap.size a [1, 2]) : Calls Tryz.prog 147 #[.slice a 2 c] w fun e w' => e = .returned (.tuple #[.int .u64 258, .int .i64 0]) ∧ Below w.heap.size w w' :=
  get_ok a c [1, 2] w rfl hr

/-- A literal's integers. -/
theorem rdI_lit (w : World) (t : TypeId) (C : Array Value) (zs : List Int) (hC : C = (zs.map (Value.int .i64)).toArray) : RdI (w.alloc (.cells C t)) (w.heap.size + 1) (some ⟨w.heap.size, 0, none⟩) zs := by
  refine .inr ⟨w.heap.size, 0, rfl, by omega, fun j hj => ?_⟩
  rw [Nat.zero_add, World.cell?_alloc_mark, hC]
  simp [List.getElem?_eq_getElem hj]

theorem argI_lit2 (w : World) (o : Obj) (t : TypeId) (C : Array Value) (zs : List Int) (hC : C = (zs.map (Value.int .i64)).toArray) :
    RdI ((w.alloc o).alloc (.cells C t)) ((w.alloc o).alloc (.cells C t)).heap.size (some ⟨w.heap.size + 1, 0, none⟩) zs := by
  have := rdI_lit (w.alloc o) t C zs hC
  simp only [World.size_alloc] at this ⊢
  exact this

/-- The pieces that the rows' own answer is made of. -/
theorem rdP_lit3 (w : World) (t u : TypeId) (f1 f2 f3 : Nat × Nat) (C1 C2 C3 : Array Value) (p1 p2 p3 : List UInt8) (n1 n2 n3 c1 c2 c3 : Nat)
    (h1 : C1 = (p1.map encB).toArray) (h2 : C2 = (p2.map encB).toArray) (h3 : C3 = (p3.map encB).toArray) (e1 : n1 = p1.length) (e2 : n2 = p2.length) (e3 : n3 = p3.length) (l1 : n1 ≤ c1) (l2 : n2 ≤ c2) (l3 : n3 ≤ c3) :
    RdP ((((w.alloc (.cells C1 t f1)).alloc (.cells C2 t f2)).alloc (.cells C3 t f3)).alloc (.cells #[.slice (some ⟨w.heap.size, 0, none⟩) n1 c1, .slice (some ⟨w.heap.size + 1, 0, none⟩) n2 c2, .slice (some ⟨w.heap.size + 1 + 1, 0, none⟩) n3 c3] u))
      (w.heap.size + 4) (some ⟨w.heap.size + 1 + 1 + 1, 0, none⟩) [p1, p2, p3] := by
  subst e1 e2 e3
  refine .inr ⟨w.heap.size + 1 + 1 + 1, 0, rfl, by omega, fun j hj => ?_⟩
  have hcell : ((((w.alloc (.cells C1 t f1)).alloc (.cells C2 t f2)).alloc (.cells C3 t f3)).alloc (.cells #[.slice (some ⟨w.heap.size, 0, none⟩) p1.length c1, .slice (some ⟨w.heap.size + 1, 0, none⟩) p2.length c2, .slice (some ⟨w.heap.size + 1 + 1, 0, none⟩) p3.length c3] u)).cell? ⟨w.heap.size + 1 + 1 + 1, 0 + j, none⟩ =
      #[Value.slice (some ⟨w.heap.size, 0, none⟩) p1.length c1, .slice (some ⟨w.heap.size + 1, 0, none⟩) p2.length c2, .slice (some ⟨w.heap.size + 1 + 1, 0, none⟩) p3.length c3][j]? := by
    have := World.cell?_alloc_mark (((w.alloc (.cells C1 t f1)).alloc (.cells C2 t f2)).alloc (.cells C3 t f3)) #[Value.slice (some ⟨w.heap.size, 0, none⟩) p1.length c1, .slice (some ⟨w.heap.size + 1, 0, none⟩) p2.length c2, .slice (some ⟨w.heap.size + 1 + 1, 0, none⟩) p3.length c3] u (0, 0) j
    simpa using this
  have r1 := rdB_lit w t C1 f1 p1 h1
  have r2 := rdB_lit (w.alloc (.cells C1 t f1)) t C2 f2 p2 h2
  have r3 := rdB_lit ((w.alloc (.cells C1 t f1)).alloc (.cells C2 t f2)) t C3 f3 p3 h3
  simp only [World.size_alloc] at r2 r3
  rw [hcell]
  simp at hj
  have hj3 : j = 0 ∨ j = 1 ∨ j = 2 := by omega
  rcases hj3 with rfl | rfl | rfl
  · exact ⟨_, _, rfl, l1, (r1.below ((((Below.refl _ _).alloc (by simp) _).alloc (by simp) _).alloc (by simp) _)).mono (by omega)⟩
  · exact ⟨_, _, rfl, l2, (r2.below (((Below.refl _ _).alloc (by simp) _).alloc (by simp) _)).mono (by omega)⟩
  · exact ⟨_, _, rfl, l3, (r3.below ((Below.refl _ _).alloc (by simp) _)).mono (by omega)⟩

theorem beginsAbc (a1 a2 : Option Addr) (c1 c2 : Nat) (w : World) (h1 : RdB w w.heap.size a1 [97, 98, 99]) (h2 : RdB w w.heap.size a2 [97, 98]) :
    Calls Tryz.prog 148 #[.slice a1 3 c1, .slice a2 2 c2] w fun e w' => e = .returned (.bool true) ∧ Below w.heap.size w w' :=
  begins_any a1 a2 c1 c2 [97, 98, 99] [97, 98] w h1 h2 (by decide) (by decide)

theorem least256 (w : World) : Calls Tryz.prog 127 #[.int .u64 256] w fun e w' => e = .returned (.int .i64 2) ∧ Below w.heap.size w w' :=
  least_any 256 w ⟨by decide, by decide⟩

end Go.Proofs.YtlmdbeccfoncpaaGreatDoor

namespace Go.Proofs.YtlmdbeccfoncpaaGreatDoor
open Go.RowKit Go.Shelf

theorem u64_wf {n : Int} (h : (Lit.int .u64 n).wf = true) : U64 n := by
  simp [Lit.wf, IntKind.min, IntKind.max, IntKind.signed, IntKind.bits] at h
  unfold U64
  omega

theorem emod_step (q P : Int) (hP : 0 < P) : q / 256 % P * 256 + q % 256 = q % (P * 256) := by
  have h1 := Int.emod_add_mul_ediv q 256
  have h2 := Int.emod_add_mul_ediv (q / 256) P
  have hr0 := Int.emod_nonneg (q / 256) (show P ≠ 0 by omega)
  have hr1 := Int.emod_lt_of_pos (q / 256) hP
  have hb0 := Int.emod_nonneg q (show (256 : Int) ≠ 0 by omega)
  have hb1 := Int.emod_lt_of_pos q (show (0 : Int) < 256 by omega)
  obtain ⟨t, ht⟩ : ∃ t, t = q / 256 / P := ⟨_, rfl⟩
  obtain ⟨r, hr⟩ : ∃ r, r = q / 256 % P := ⟨_, rfl⟩
  obtain ⟨b, hb⟩ : ∃ b, b = q % 256 := ⟨_, rfl⟩
  rw [← ht, ← hr] at h2
  rw [← hr] at hr0 hr1
  rw [← hb] at h1 hb0 hb1
  rw [← hr, ← hb]
  have e : q = (r * 256 + b) + P * 256 * t := by
    rw [← h1, ← h2, Int.mul_add, ← Int.mul_assoc, Int.mul_comm 256 P]
    omega
  rw [e, Int.add_mul_emod_self_left, Int.emod_eq_of_lt (by omega) (by omega)]

/-- The number of the bytes of a number that fits is the number. -/
theorem valB_beB (W : Nat) (n : Int) (hn : 0 ≤ n) (k : Nat) (hk : k ≤ W) : valB (beB W n) k = n / 256 ^ (W - k) % 256 ^ k := by
  induction k with
  | zero => simp [valB, Int.emod_one]
  | succ k ih =>
    have ih' := ih (by omega)
    simp only [valB]
    rw [ih', byteAt_beB W n k (by omega), sb_eq, show W - 1 - k = W - (k + 1) by omega]
    obtain ⟨q, hq⟩ : ∃ q, q = n / 256 ^ (W - (k + 1)) := ⟨_, rfl⟩
    have e1 : n / 256 ^ (W - k) = q / 256 := by
      rw [hq, div_step, show W - (k + 1) + 1 = W - k by omega]
    have hq0 : 0 ≤ q := by rw [hq]; exact (div_pow_le n hn _).1
    rw [e1, ← hq, Int.pow_succ]
    exact emod_step q _ (pow256_pos k)

theorem valB_put (W : Nat) (n : Int) (hx : isW W = true) (hn : U64 n) (hf : fits W n = true) : valB (beB W n) W = n := by
  rw [valB_beB W n hn.1 W (Nat.le_refl _), Nat.sub_self]
  have h0 := (fits_iff W n hx hn).1 hf
  have hp := pow256_pos W
  rw [Int.pow_zero, Int.ediv_one]
  have := Int.emod_add_mul_ediv n (256 ^ W)
  rw [h0] at this
  omega

theorem get_put (a : Option Addr) (c W : Nat) (n : Int) (w : World) (hx : isW W = true) (hn : U64 n) (hf : fits W n = true) (hr : RdB w w.heap.size a (beB W n)) :
    Calls Tryz.prog 147 #[.slice a (beB W n).length c] w fun e w' => e = .returned (.tuple #[.int .u64 n, .int .i64 0]) ∧ Below w.heap.size w w' := by
  have h := get_ok a c (beB W n) w (by rw [beB_length]; exact hx) hr
  rwa [show valB (beB W n) (beB W n).length = n by rw [beB_length]; exact valB_put W n hx hn hf] at h

end Go.Proofs.YtlmdbeccfoncpaaGreatDoor

namespace Go.Proofs.YtlmdbeccfoncpaaGreatDoor
open Go.RowKit Go.Shelf

/-- What is known of the least width. -/
theorem least_facts (n : Int) : ∃ W : Nat, leastOf n = (W : Int) ∧ isW W = true ∧ fits W n = true ∧ (isW ((W : Int) / 2) = false ∨ (isW ((W : Int) / 2) = true ∧ fits ((W : Int) / 2) n = false)) := by
  unfold leastOf firstW
  cases h1 : fits 1 n
  · cases h2 : fits 2 n
    · cases h4 : fits 4 n
      · have h8 : fits 8 n = true := by simp [fits]
        exact ⟨8, by simp [h8], rfl, h8, .inr ⟨rfl, h4⟩⟩
      · exact ⟨4, by simp, rfl, h4, .inr ⟨rfl, h2⟩⟩
    · exact ⟨2, by simp, rfl, h2, .inr ⟨rfl, h1⟩⟩
  · exact ⟨1, by simp, rfl, h1, .inl rfl⟩

theorem put_less (x n : Int) (w : World) (hn : U64 n) (h : isW x = false ∨ (isW x = true ∧ fits x n = false)) :
    Calls Tryz.prog 56 #[.int .u64 n, .int .i64 x] w fun e w' => ∃ g : Int, e = .returned (.tuple #[.slice none 0 0, .int .i64 g]) ∧ (g == 0) = false ∧ Below w.heap.size w w' := by
  rcases h with h | ⟨h, hf⟩
  · refine (put_arg x n w h).mono ?_
    rintro e w' ⟨rfl, hb⟩
    exact ⟨2, rfl, rfl, hb⟩
  · refine (put_range x n w h hn hf).mono ?_
    rintro e w' ⟨rfl, hb⟩
    exact ⟨4, rfl, rfl, hb⟩

theorem least_nat (W : Nat) (n : Int) (w : World) (hn : U64 n) (hW : leastOf n = (W : Int)) : Calls Tryz.prog 127 #[.int .u64 n] w fun e w' => e = .returned (.int .i64 W) ∧ Below w.heap.size w w' := by
  have h := least_any n w hn
  rwa [hW] at h

theorem put_beB (W : Nat) (n : Int) (w : World) (hx : isW W = true) (hn : U64 n) (hf : fits W n = true) :
    Calls Tryz.prog 56 #[.int .u64 n, .int .i64 W] w fun e w' => ∃ a c, e = .returned (.tuple #[.slice a (beB W n).length c, .int .i64 0]) ∧ (beB W n).length ≤ c ∧ RdB w' w'.heap.size a (beB W n) ∧ Below w.heap.size w w' := by
  refine (put_ok W n w hx hn hf).mono ?_
  rintro e w' ⟨v, rfl, ⟨a, c, rfl, hc, hr, _⟩, hb⟩
  exact ⟨a, c, rfl, hc, hr, hb⟩

theorem begins_self (x b : List UInt8) : begins (x ++ b) x = true := by
  rw [begins_iff]
  intro j hj
  exact ⟨by simp; omega, by simp [byteAt, List.getElem?_append_left hj]⟩

theorem rdP_pair (w : World) (B : Nat) (hB : B ≤ w.heap.size) (t : TypeId) (a1 a2 : Option Addr) (c1 c2 : Nat) (p1 p2 : List UInt8) (h1 : RdB w B a1 p1) (h2 : RdB w B a2 p2) (l1 : p1.length ≤ c1) (l2 : p2.length ≤ c2) :
    RdP (w.alloc (.cells #[.slice a1 p1.length c1, .slice a2 p2.length c2] t)) (w.alloc (.cells #[.slice a1 p1.length c1, .slice a2 p2.length c2] t)).heap.size (some ⟨w.heap.size, 0, none⟩) [p1, p2] := by
  refine .inr ⟨w.heap.size, 0, rfl, by simp, fun j hj => ?_⟩
  have hb : Below B w (w.alloc (.cells #[.slice a1 p1.length c1, .slice a2 p2.length c2] t)) := (Below.refl _ _).alloc hB _
  rw [Nat.zero_add, World.cell?_alloc_mark]
  simp at hj
  have hj2 : j = 0 ∨ j = 1 := by omega
  rcases hj2 with rfl | rfl
  · exact ⟨a1, c1, rfl, l1, (h1.below hb).mono (by simp; omega)⟩
  · exact ⟨a2, c2, rfl, l2, (h2.below hb).mono (by simp; omega)⟩

theorem join_bytes (a : Option Addr) (n c : Nat) (ps : List (List UInt8)) (bs : List UInt8) (w : World) (hn : n = ps.length) (hl : ps.length ≤ 100) (hbs : ps.flatten = bs) (ht : bs.length ≤ 100000) (hr : RdP w w.heap.size a ps) :
    Calls Tryz.prog 128 #[.slice a n c] w fun e w' => ∃ A c', e = .returned (.slice A bs.length c') ∧ RdB w' w'.heap.size A bs ∧ Below w.heap.size w w' := by
  subst hn hbs
  refine (join_any a c ps w (by omega) (by omega) hr).mono ?_
  rintro e w' ⟨v, rfl, ho, hb⟩
  obtain ⟨A, c', rfl, _, hr', _⟩ := ho.bytes
  exact ⟨A, c', rfl, hr', hb⟩

theorem begins_yes (a1 a2 : Option Addr) (n1 c1 c2 : Nat) (x b : List UInt8) (w : World) (hn1 : n1 = (x ++ b).length) (h1 : RdB w w.heap.size a1 (x ++ b)) (h2 : RdB w w.heap.size a2 x) (hl : (x ++ b).length ≤ 100000) :
    Calls Tryz.prog 148 #[.slice a1 n1 c1, .slice a2 x.length c2] w fun e w' => e = .returned (.bool true) ∧ Below w.heap.size w w' := by
  subst hn1
  have h := begins_any a1 a2 c1 c2 (x ++ b) x w h1 h2 (by omega) (by simp at hl; omega)
  rwa [begins_self] at h

theorem cut_two (bs : List UInt8) (t0 t1 : Int) (ps : List (List UInt8)) (h : cutAt bs 0 [t0, t1] = some ps) :
    ∃ p0 p1 p2, ps = [p0, p1, p2] ∧ (p0.length : Int) = t0 ∧ (p0.length : Int) + (p1.length : Int) = t1 ∧ p0 ++ (p1 ++ p2) = bs := by
  simp only [cutAt] at h
  split at h
  · cases h
  · rename_i h0
    split at h
    · cases h
    · rename_i h1
      simp only [Option.map_some, Option.some.injEq] at h
      subst h
      obtain ⟨u, rfl⟩ : ∃ u : Nat, t0 = (u : Int) := ⟨t0.toNat, by omega⟩
      obtain ⟨v, rfl⟩ : ∃ v : Nat, t1 = (v : Int) := ⟨t1.toNat, by omega⟩
      simp only [Int.toNat_natCast, Nat.sub_zero, List.drop_zero] at *
      refine ⟨_, _, _, rfl, by simp; omega, by simp; omega, ?_⟩
      have e1 : (bs.drop u).drop (v - u) = bs.drop v := by rw [List.drop_drop]; congr 1; omega
      rw [← e1, List.take_append_drop, List.take_append_drop]

def Split2P (w : World) (bs : List UInt8) (t0 t1 : Int) (e : Ending) (w' : World) : Prop :=
  (e = .returned (.tuple #[.slice none 0 0, .int .i64 4]) ∨
   ∃ p0 p1 p2 b o c A0 c0 A1 c1, e = .returned (.tuple #[.slice (some ⟨b, o, none⟩) 3 c, .int .i64 0]) ∧ b < w'.heap.size ∧ w'.cell? ⟨b, o, none⟩ = some (.slice A0 p0.length c0) ∧ w'.cell? ⟨b, o + 1, none⟩ = some (.slice A1 p1.length c1) ∧
     RdP w' w'.heap.size (some ⟨b, o, none⟩) [p0, p1, p2] ∧ (p0.length : Int) = t0 ∧ (p0.length : Int) + (p1.length : Int) = t1 ∧ p0 ++ (p1 ++ p2) = bs) ∧ Below w.heap.size w w'

/-- What the last statement reads, in a later world. -/
theorem held_later {W W' : World} {B b o H : Nat} {v0 v1 u0 u1 : Value} {ab : Option Addr} {cb : Nat} {bs : List UInt8} {ps : List (List UInt8)}
    (h : ((W.cell? ⟨b, o, none⟩ = some v0 ∧ W.cell? ⟨b, o + 1, none⟩ = some v1 ∧ W.cell? ⟨H, 0, none⟩ = some u0 ∧ W.cell? ⟨H, 1, none⟩ = some u1) ∧ (convert 29 9 (.slice ab bs.length cb)).run Tryz.prog W = .ok (.string ⟨bs.toArray⟩) W) ∧
      (RdP W B (some ⟨b, o, none⟩) ps ∧ RdB W B ab bs ∧ B ≤ W.heap.size)) (hb : Below W.heap.size W W') :
    ((W'.cell? ⟨b, o, none⟩ = some v0 ∧ W'.cell? ⟨b, o + 1, none⟩ = some v1 ∧ W'.cell? ⟨H, 0, none⟩ = some u0 ∧ W'.cell? ⟨H, 1, none⟩ = some u1) ∧ (convert 29 9 (.slice ab bs.length cb)).run Tryz.prog W' = .ok (.string ⟨bs.toArray⟩) W') ∧
      (RdP W' B (some ⟨b, o, none⟩) ps ∧ RdB W' B ab bs ∧ B ≤ W'.heap.size) := by
  obtain ⟨⟨⟨h0, h1, h2, h3⟩, _⟩, hp, hr, hB⟩ := h
  have l0 := World.block_lt_of_cell? W _ h0
  have l2 := World.block_lt_of_cell? W _ h2
  have hr' := hr.below (hb.mono hB)
  exact ⟨⟨⟨(hb.cell l0).trans h0, (hb.cell (p := ⟨b, o + 1, none⟩) l0).trans h1, (hb.cell l2).trans h2, (hb.cell (p := ⟨H, 1, none⟩) l2).trans h3⟩,
    hr'.text (P := Tryz.prog) 29 9 5 _ cb rfl Tryz.underlying29 Tryz.underlying5 Tryz.underlying9⟩, hp.below (hb.mono hB), hr', Nat.le_trans hB hb.size⟩

end Go.Proofs.YtlmdbeccfoncpaaGreatDoor

namespace Go.Proofs.YtlmdbeccfoncpaaGreatDoor
open Go.RowKit Go.Shelf

/-- The bytes of a sum. -/
def sumB (k : Nat) (bs : List UInt8) : List UInt8 := beB (wdN k) (sumN k bs)

theorem sumB_length (k : Nat) (bs : List UInt8) : (sumB k bs).length = wdN k := beB_length _ _

theorem wdN_le (k : Nat) : wdN k ≤ 4 := by
  unfold wdN
  split
  · omega
  · split <;> omega

theorem sumN_le {k : Nat} (bs : List UInt8) : sumN k bs ≤ onN k := Nat.sub_le _ _

theorem putK_any (k : Nat) (hk : k ≤ 2) (bs : List UInt8) (n m : Int) (hn : n = (sumN k bs : Int)) (hm : m = (wdN k : Int)) (w : World) :
    Calls Tryz.prog 56 #[.int .u64 n, .int .i64 m] w fun e w' => ∃ A C g, e = .returned (.tuple #[.slice A (sumB k bs).length C, .int .i64 g]) ∧ (sumB k bs).length ≤ C ∧ RdB w' w'.heap.size A (sumB k bs) ∧ Below w.heap.size w w' := by
  subst hn hm
  have hle := sumN_le (k := k) bs
  rcases kind_cases hk with rfl | rfl | rfl
  · refine (put_arg _ _ w rfl).mono ?_
    rintro e w' ⟨rfl, hb⟩
    exact ⟨none, 0, 2, rfl, Nat.le_refl _, .inl rfl, hb⟩
  · have h1 : sumN 1 bs ≤ 65535 := hle
    refine (put_ok 2 _ w rfl (by unfold U64; omega) (by simp [fits]; omega)).mono ?_
    rintro e w' ⟨v, rfl, ⟨A, C, rfl, hc, hr, _⟩, hb⟩
    exact ⟨A, C, 0, rfl, hc, hr, hb⟩
  · have h1 : sumN 2 bs ≤ 4294967295 := hle
    refine (put_ok 4 _ w rfl (by unfold U64; omega) (by simp [fits]; omega)).mono ?_
    rintro e w' ⟨v, rfl, ⟨A, C, rfl, hc, hr, _⟩, hb⟩
    exact ⟨A, C, 0, rfl, hc, hr, hb⟩

theorem srdP_one (w : World) (B : Nat) (hB : B ≤ w.heap.size) (t : TypeId) (a : Option Addr) (c : Nat) (p : List UInt8) (h : RdB w B a p) (l : p.length ≤ c) :
    RdP (w.alloc (.cells #[.slice a p.length c] t)) (w.alloc (.cells #[.slice a p.length c] t)).heap.size (some ⟨w.heap.size, 0, none⟩) [p] := by
  refine .inr ⟨w.heap.size, 0, rfl, by simp, fun j hj => ?_⟩
  have hb : Below B w (w.alloc (.cells #[.slice a p.length c] t)) := (Below.refl _ _).alloc hB _
  rw [Nat.zero_add, World.cell?_alloc_mark]
  simp at hj
  subst hj
  exact ⟨a, c, rfl, l, (h.below hb).mono (by simp; omega)⟩

/-- A kind lies in block G; what lay ahead lies as it lay. -/
def KindAt (w : World) (G k : Nat) (w' : World) : Prop :=
  Below w.heap.size w w' ∧ w.heap.size ≤ G ∧ w'.heap[G]? = some (.cells #[.int .i64 (wdN k), .int .u32 (onN k), .int .u32 (fxN k)] 112 (0, 0))

theorem KindAt.later {w w1 w2 : World} {G k : Nat} (h : KindAt w G k w1) (hb : Below w1.heap.size w1 w2) : KindAt w G k w2 :=
  ⟨below_on h.1 hb, h.2.1, (hb.block G (Array.getElem?_eq_some_iff.1 h.2.2).1).trans h.2.2⟩

theorem KindAt.held {w w1 : World} {G k : Nat} (h : KindAt w G k w1) :
    (w1.cell? ⟨G, 0, none⟩ = some (.int .i64 (wdN k)) ∧ w1.cell? ⟨G, 1, none⟩ = some (.int .u32 (onN k)) ∧ w1.cell? ⟨G, 2, none⟩ = some (.int .u32 (fxN k))) ∧ KindAt w G k w1 := by
  refine ⟨⟨?_, ?_, ?_⟩, h⟩ <;> simp [World.cell?, h.2.2]

theorem KindAt.new (w : World) (k : Nat) : KindAt w w.heap.size k (w.alloc (.cells #[.int .i64 (wdN k), .int .u32 (onN k), .int .u32 (fxN k)] 112)) :=
  ⟨(Below.refl _ _).alloc (Nat.le_refl _) _, Nat.le_refl _, World.alloc_heap_new w _⟩

set_option maxHeartbeats 1000000 in
theorem sequal_any (a1 a2 : Option Addr) (n1 n2 c1 c2 : Nat) (xs ys : List UInt8) (hn1 : n1 = xs.length) (hn2 : n2 = ys.length) (w : World) (B : Nat) (h1 : RdB w B a1 xs) (h2 : RdB w B a2 ys) :
    Calls Tryz.prog 63 #[.slice a1 n1 c1, .slice a2 n2 c2] w fun e w' => e = .returned (.bool (xs == ys)) ∧ w' = w := by
  have k1 := h1.text (P := Tryz.prog) 29 9 5 n1 c1 hn1 Tryz.underlying29 Tryz.underlying5 Tryz.underlying9
  have k2 := h2.text (P := Tryz.prog) 29 9 5 n2 c2 hn2 Tryz.underlying29 Tryz.underlying5 Tryz.underlying9
  clear h1 h2 hn1 hn2
  go_enter Tryz.func63, Tryz.ntmps63
  go_wp2
  go_ret
  exact ⟨rfl, rfl⟩

theorem meant_at (k : Nat) (hk : k ≤ 2) (w : World) :
    Calls Tryz.prog 76 #[.agg #[.int .i64 0, .int .u32 0, .int .u32 0, .int .i64 2, .int .u32 65535, .int .u32 33800, .int .i64 4, .int .u32 4294967295, .int .u32 2197175160], .int .i64 k] w fun e w' =>
      e = .returned (.tuple #[.agg #[.int .i64 (wdN k), .int .u32 (onN k), .int .u32 (fxN k)], .bool true]) ∧ Below w.heap.size w w' := meant_ok k hk w

theorem of_at (k : Nat) (hk : k ≤ 2) (a : Option Addr) (n c : Nat) (ps : List (List UInt8)) (bs : List UInt8) (hn : n = ps.length) (hbs : bs = ps.flatten) (w : World) (hl : ps.length ≤ 100000000000000) (hlen : bs.length ≤ 140737488355328) (hr : RdP w w.heap.size a ps) :
    Calls Tryz.prog 90 #[.agg #[.int .i64 (wdN k), .int .u32 (onN k), .int .u32 (fxN k)], .slice a n c] w fun e w' => e = .returned (.int .u32 (sumN k bs)) ∧ Below w.heap.size w w' :=
  of_any k hk a n c ps bs hn hbs w hl hlen hr

set_option maxHeartbeats 1000000 in
theorem of_ok (k : Nat) (hk : k ≤ 2) (a : Option Addr) (n c : Nat) (ps : List (List UInt8)) (bs : List UInt8) (hn : n = ps.length) (hbs : bs = ps.flatten) (w : World) (hl : ps.length ≤ 100000000000000) (hlen : bs.length ≤ 140737488355328) (hr : RdP w w.heap.size a ps) :
    Calls Tryz.prog 55 #[.int .i64 k, .slice a n c] w fun e w' => e = .returned (.tuple #[.int .u32 (sumN k bs), .int .i64 0]) ∧ Below w.heap.size w w' := by
  have HR := Lib.hid hr
  have HK := Lib.hid hbs
  have HN := Lib.hid hn
  clear hr hbs hn
  go_enter Tryz.func55, Tryz.ntmps55
  go_wp2
  refine wp_scope_on 0 rfl ?_
  go_wp2_with (go_at_call 77; refine (skinds_any _).mono ?_; rintro e w1 ⟨rfl, hb1⟩)
  refine (meant_at k hk _).mono ?_
  rintro e w2 ⟨rfl, hb2⟩
  have B2 := below_al (below_on hb1 hb2) (.cells #[.int .i64 (wdN k), .int .u32 (onN k), .int .u32 (fxN k)] 112)
  go_wp2_with fail
  refine (of_at k hk a n c ps bs HN.out HK.out _ hl hlen ((HR.out.below B2).mono B2.size)).mono ?_
  rintro e w3 ⟨rfl, hb3⟩
  go_wp2
  simp only [Exit.jump]
  go_ret2
  exact ⟨rfl, below_on B2 hb3⟩

set_option maxHeartbeats 1000000 in
theorem of_no (x : Int) (hx : isK x = false) (a : Option Addr) (n c : Nat) (w : World) :
    Calls Tryz.prog 55 #[.int .i64 x, .slice a n c] w fun e w' => e = .returned (.tuple #[.int .u32 0, .int .i64 2]) ∧ Below w.heap.size w w' := by
  have HX := Lib.hid hx
  clear hx
  go_enter Tryz.func55, Tryz.ntmps55
  go_wp2
  refine wp_scope_on 0 rfl ?_
  go_wp2_with (go_at_call 77; refine (skinds_any _).mono ?_; rintro e w1 ⟨rfl, hb1⟩)
  refine (meant_no x HX.out _).mono ?_
  rintro e w2 ⟨rfl, hb2⟩
  go_wp2
  go_step3
  refine ⟨rfl, ?_⟩
  show Code.wp _ _ _ _ _
  go_wp2
  rw [Exit.noGoto_ret]
  go_ret2
  exact ⟨rfl, below_al (below_on hb1 hb2) _⟩

set_option maxHeartbeats 1000000 in
theorem width_ok (k : Nat) (hk : k ≤ 2) (w : World) :
    Calls Tryz.prog 48 #[.int .i64 k] w fun e w' => e = .returned (.tuple #[.int .i64 (wdN k), .int .i64 0]) ∧ Below w.heap.size w w' := by
  go_enter Tryz.func48, Tryz.ntmps48
  go_wp2
  refine wp_scope_on 0 rfl ?_
  go_wp2_with (go_at_call 77; refine (skinds_any _).mono ?_; rintro e w1 ⟨rfl, hb1⟩)
  refine (meant_at k hk _).mono ?_
  rintro e w2 ⟨rfl, hb2⟩
  go_wp2
  simp only [Exit.jump]
  go_ret2
  exact ⟨rfl, below_al (below_on hb1 hb2) _⟩

set_option maxHeartbeats 1000000 in
theorem width_no (x : Int) (hx : isK x = false) (w : World) :
    Calls Tryz.prog 48 #[.int .i64 x] w fun e w' => e = .returned (.tuple #[.int .i64 0, .int .i64 2]) ∧ Below w.heap.size w w' := by
  have HX := Lib.hid hx
  clear hx
  go_enter Tryz.func48, Tryz.ntmps48
  go_wp2
  refine wp_scope_on 0 rfl ?_
  go_wp2_with (go_at_call 77; refine (skinds_any _).mono ?_; rintro e w1 ⟨rfl, hb1⟩)
  refine (meant_no x HX.out _).mono ?_
  rintro e w2 ⟨rfl, hb2⟩
  go_wp2
  go_step3
  refine ⟨rfl, ?_⟩
  show Code.wp _ _ _ _ _
  go_wp2
  rw [Exit.noGoto_ret]
  go_ret2
  exact ⟨rfl, below_al (below_on hb1 hb2) _⟩

/-- What Seal answers: bytes of its own. -/
def SealP (w : World) (bs : List UInt8) (e : Ending) (w' : World) : Prop := ∃ v, e = .returned (.tuple #[v, .int .i64 0]) ∧ OwnV w' w.heap.size 5 v (bs.map encB) ∧ Below w.heap.size w w'

end Go.Proofs.YtlmdbeccfoncpaaGreatDoor
