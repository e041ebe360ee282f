/- The walk of OctetHolds: whatever number, bytes, two places. -/
import Derived.Test.YtncemmhbbkpieaaDoorOctK
import Derived.Test.YtncemmhbbkpieaaDoorOctP
import Derived.Deep.RegionHeld3
namespace Go.Proofs.YtncemmhbbkpieaaDoor
open Go.RowKit Go.Shelf

/-- What is known of the least width. -/
theorem least_facts (n : Int) : ∃ W : Nat, leastOf n = (W : Int) ∧ isW W = true ∧ fits W n = true ∧ (isW ((W : Int) / 2) = false ∨ (isW ((W : Int) / 2) = true ∧ fits ((W : Int) / 2) n = false)) := by
  unfold leastOf firstW
  cases h1 : fits 1 n
  · cases h2 : fits 2 n
    · cases h4 : fits 4 n
      · have h8 : fits 8 n = true := by simp [fits]
        exact ⟨8, by simp [h8], rfl, h8, .inr ⟨rfl, h4⟩⟩
      · exact ⟨4, by simp, rfl, h4, .inr ⟨rfl, h2⟩⟩
    · exact ⟨2, by simp, rfl, h2, .inr ⟨rfl, h1⟩⟩
  · exact ⟨1, by simp, rfl, h1, .inl rfl⟩

theorem put_less (x n : Int) (w : World) (hn : U64 n) (h : isW x = false ∨ (isW x = true ∧ fits x n = false)) :
    Calls Tryd.prog 61 #[.int .u64 n, .int .i64 x] w fun e w' => ∃ g : Int, e = .returned (.tuple #[.slice none 0 0, .int .i64 g]) ∧ (g == 0) = false ∧ Below w.heap.size w w' := by
  rcases h with h | ⟨h, hf⟩
  · refine (put_arg x n w h).mono ?_
    rintro e w' ⟨rfl, hb⟩
    exact ⟨2, rfl, rfl, hb⟩
  · refine (put_range x n w h hn hf).mono ?_
    rintro e w' ⟨rfl, hb⟩
    exact ⟨4, rfl, rfl, hb⟩

theorem least_nat (W : Nat) (n : Int) (w : World) (hn : U64 n) (hW : leastOf n = (W : Int)) : Calls Tryd.prog 60 #[.int .u64 n] w fun e w' => e = .returned (.int .i64 W) ∧ Below w.heap.size w w' := by
  have h := least_any n w hn
  rwa [hW] at h

theorem put_beB (W : Nat) (n : Int) (w : World) (hx : isW W = true) (hn : U64 n) (hf : fits W n = true) :
    Calls Tryd.prog 61 #[.int .u64 n, .int .i64 W] w fun e w' => ∃ a c, e = .returned (.tuple #[.slice a (beB W n).length c, .int .i64 0]) ∧ (beB W n).length ≤ c ∧ RdB w' w'.heap.size a (beB W n) ∧ Below w.heap.size w w' := by
  refine (put_ok W n w hx hn hf).mono ?_
  rintro e w' ⟨v, rfl, ⟨a, c, rfl, hc, hr, _⟩, hb⟩
  exact ⟨a, c, rfl, hc, hr, hb⟩

theorem begins_self (x b : List UInt8) : begins (x ++ b) x = true := by
  rw [begins_iff]
  intro j hj
  exact ⟨by simp; omega, by simp [byteAt, List.getElem?_append_left hj]⟩

theorem rdP_pair (w : World) (B : Nat) (hB : B ≤ w.heap.size) (t : TypeId) (a1 a2 : Option Addr) (c1 c2 : Nat) (p1 p2 : List UInt8) (h1 : RdB w B a1 p1) (h2 : RdB w B a2 p2) (l1 : p1.length ≤ c1) (l2 : p2.length ≤ c2) :
    RdP (w.alloc (.cells #[.slice a1 p1.length c1, .slice a2 p2.length c2] t)) (w.alloc (.cells #[.slice a1 p1.length c1, .slice a2 p2.length c2] t)).heap.size (some ⟨w.heap.size, 0, none⟩) [p1, p2] := by
  refine .inr ⟨w.heap.size, 0, rfl, by simp, fun j hj => ?_⟩
  have hb : Below B w (w.alloc (.cells #[.slice a1 p1.length c1, .slice a2 p2.length c2] t)) := (Below.refl _ _).alloc hB _
  rw [Nat.zero_add, World.cell?_alloc_mark]
  simp at hj
  have hj2 : j = 0 ∨ j = 1 := by omega
  rcases hj2 with rfl | rfl
  · exact ⟨a1, c1, rfl, l1, (h1.below hb).mono (by simp; omega)⟩
  · exact ⟨a2, c2, rfl, l2, (h2.below hb).mono (by simp; omega)⟩

theorem join_bytes (a : Option Addr) (n c : Nat) (ps : List (List UInt8)) (bs : List UInt8) (w : World) (hn : n = ps.length) (hl : ps.length ≤ 100) (hbs : ps.flatten = bs) (ht : bs.length ≤ 100000) (hr : RdP w w.heap.size a ps) :
    Calls Tryd.prog 62 #[.slice a n c] w fun e w' => ∃ A c', e = .returned (.slice A bs.length c') ∧ RdB w' w'.heap.size A bs ∧ Below w.heap.size w w' := by
  subst hn hbs
  refine (join_any a c ps w (by omega) (by omega) hr).mono ?_
  rintro e w' ⟨v, rfl, ho, hb⟩
  obtain ⟨A, c', rfl, _, hr', _⟩ := ho.bytes
  exact ⟨A, c', rfl, hr', hb⟩

theorem begins_yes (a1 a2 : Option Addr) (n1 c1 c2 : Nat) (x b : List UInt8) (w : World) (hn1 : n1 = (x ++ b).length) (h1 : RdB w w.heap.size a1 (x ++ b)) (h2 : RdB w w.heap.size a2 x) (hl : (x ++ b).length ≤ 100000) :
    Calls Tryd.prog 55 #[.slice a1 n1 c1, .slice a2 x.length c2] w fun e w' => e = .returned (.bool true) ∧ Below w.heap.size w w' := by
  subst hn1
  have h := begins_any a1 a2 c1 c2 (x ++ b) x w h1 h2 (by omega) (by simp at hl; omega)
  rwa [begins_self] at h

theorem cut_two (bs : List UInt8) (t0 t1 : Int) (ps : List (List UInt8)) (h : cutAt bs 0 [t0, t1] = some ps) :
    ∃ p0 p1 p2, ps = [p0, p1, p2] ∧ (p0.length : Int) = t0 ∧ (p0.length : Int) + (p1.length : Int) = t1 ∧ p0 ++ (p1 ++ p2) = bs := by
  simp only [cutAt] at h
  split at h
  · cases h
  · rename_i h0
    split at h
    · cases h
    · rename_i h1
      simp only [Option.map_some, Option.some.injEq] at h
      subst h
      obtain ⟨u, rfl⟩ : ∃ u : Nat, t0 = (u : Int) := ⟨t0.toNat, by omega⟩
      obtain ⟨v, rfl⟩ : ∃ v : Nat, t1 = (v : Int) := ⟨t1.toNat, by omega⟩
      simp only [Int.toNat_natCast, Nat.sub_zero, List.drop_zero] at *
      refine ⟨_, _, _, rfl, by simp; omega, by simp; omega, ?_⟩
      have e1 : (bs.drop u).drop (v - u) = bs.drop v := by rw [List.drop_drop]; congr 1; omega
      rw [← e1, List.take_append_drop, List.take_append_drop]

def Split2P (w : World) (bs : List UInt8) (t0 t1 : Int) (e : Ending) (w' : World) : Prop :=
  (e = .returned (.tuple #[.slice none 0 0, .int .i64 4]) ∨
   ∃ p0 p1 p2 b o c A0 c0 A1 c1, e = .returned (.tuple #[.slice (some ⟨b, o, none⟩) 3 c, .int .i64 0]) ∧ b < w'.heap.size ∧ w'.cell? ⟨b, o, none⟩ = some (.slice A0 p0.length c0) ∧ w'.cell? ⟨b, o + 1, none⟩ = some (.slice A1 p1.length c1) ∧
     RdP w' w'.heap.size (some ⟨b, o, none⟩) [p0, p1, p2] ∧ (p0.length : Int) = t0 ∧ (p0.length : Int) + (p1.length : Int) = t1 ∧ p0 ++ (p1 ++ p2) = bs) ∧ Below w.heap.size w w'

/-- What the last statement reads, in a later world. -/
theorem held_later {W W' : World} {B b o H : Nat} {v0 v1 u0 u1 : Value} {ab : Option Addr} {cb : Nat} {bs : List UInt8} {ps : List (List UInt8)}
    (h : ((W.cell? ⟨b, o, none⟩ = some v0 ∧ W.cell? ⟨b, o + 1, none⟩ = some v1 ∧ W.cell? ⟨H, 0, none⟩ = some u0 ∧ W.cell? ⟨H, 1, none⟩ = some u1) ∧ (convert 22 9 (.slice ab bs.length cb)).run Tryd.prog W = .ok (.string ⟨bs.toArray⟩) W) ∧
      (RdP W B (some ⟨b, o, none⟩) ps ∧ RdB W B ab bs ∧ B ≤ W.heap.size)) (hb : Below W.heap.size W W') :
    ((W'.cell? ⟨b, o, none⟩ = some v0 ∧ W'.cell? ⟨b, o + 1, none⟩ = some v1 ∧ W'.cell? ⟨H, 0, none⟩ = some u0 ∧ W'.cell? ⟨H, 1, none⟩ = some u1) ∧ (convert 22 9 (.slice ab bs.length cb)).run Tryd.prog W' = .ok (.string ⟨bs.toArray⟩) W') ∧
      (RdP W' B (some ⟨b, o, none⟩) ps ∧ RdB W' B ab bs ∧ B ≤ W'.heap.size) := by
  obtain ⟨⟨⟨h0, h1, h2, h3⟩, _⟩, hp, hr, hB⟩ := h
  have l0 := World.block_lt_of_cell? W _ h0
  have l2 := World.block_lt_of_cell? W _ h2
  have hr' := hr.below (hb.mono hB)
  exact ⟨⟨⟨(hb.cell l0).trans h0, (hb.cell (p := ⟨b, o + 1, none⟩) l0).trans h1, (hb.cell l2).trans h2, (hb.cell (p := ⟨H, 1, none⟩) l2).trans h3⟩,
    hr'.text (P := Tryd.prog) 22 9 5 _ cb rfl Tryd.underlying22 Tryd.underlying5 Tryd.underlying9⟩, hp.below (hb.mono hB), hr', Nat.le_trans hB hb.size⟩

end Go.Proofs.YtncemmhbbkpieaaDoor
