/- Joined texts. -/
import Derived.Test.YtiahakbkagipkaaGreatDoorZJb
import Derived.Lib.SlBytesConst
import Derived.Lib.SmallJoins
import Derived.Deep.RegionHeld3
import Derived.Test.YtiahakbkagipkaaGreatDoorZJc
set_option maxHeartbeats 1000000
namespace Go.Proofs.YtiahakbkagipkaaGreatDoor
open Go.RowKit Go.Shelf

theorem rdB_lit (w : World) (t : TypeId) (C : Array Value) (fr : Nat × Nat) (bs : List UInt8) (hC : C = (bs.map encB).toArray) : RdB (w.alloc (.cells C t fr)) (w.heap.size + 1) (some ⟨w.heap.size, 0, none⟩) bs := by
 refine .inr ⟨w.heap.size, 0, rfl, by omega, fun j hj => ?_⟩
 rw [Nat.zero_add, World.cell?_alloc_mark, hC]
 have := encB_at bs j hj
 simpa using this

theorem rdP_pair (w : World) (B : Nat) (hB : B ≤ w.heap.size) (t : TypeId) (a1 a2 : Option Addr) (c1 c2 : Nat) (p1 p2 : List UInt8) (h1 : RdB w B a1 p1) (h2 : RdB w B a2 p2) (l1 : p1.length ≤ c1) (l2 : p2.length ≤ c2) :
  RdP (w.alloc (.cells #[.slice a1 p1.length c1, .slice a2 p2.length c2] t)) (w.alloc (.cells #[.slice a1 p1.length c1, .slice a2 p2.length c2] t)).heap.size (some ⟨w.heap.size, 0, none⟩) [p1, p2] := by
 refine .inr ⟨w.heap.size, 0, rfl, by simp, fun j hj => ?_⟩
 have hb : Below B w (w.alloc (.cells #[.slice a1 p1.length c1, .slice a2 p2.length c2] t)) := bR.alloc hB _
 rw [Nat.zero_add, World.cell?_alloc_mark]
 simp at hj
 have hj2 : j = 0 ∨ j = 1 := by omega
 rcases hj2 with rfl | rfl
 ·exact ⟨a1, c1, rfl, l1, (h1.below hb).mono (by simp; omega)⟩
 ·exact ⟨a2, c2, rfl, l2, (h2.below hb).mono (by simp; omega)⟩

def sumB (k : Nat) (bs : List UInt8) : List UInt8 := beB (wdN k) (sumN k bs)

theorem sumB_length (k : Nat) (bs : List UInt8) : (sumB k bs).length = wdN k := beB_length _ _

theorem wdN_le (k : Nat) : wdN k ≤ 4 := by
 unfold wdN
 split
 ·omega
 ·split <;> omega

theorem sumN_le {k : Nat} (bs : List UInt8) : sumN k bs ≤ onN k := Nat.sub_le _ _

theorem putK_any (k : Nat) (hk : k ≤ 2) (bs : List UInt8) (n m : Int) (hn : n = (sumN k bs : Int)) (hm : m = (wdN k : Int)) (w : World) :
  Calls Tryz.prog 58 #[.int .u64 n, .int .i64 m] w fun e w' => ∃ A C g, e = .returned (.tuple #[.slice A (sumB k bs).length C, .int .i64 g]) ∧ (sumB k bs).length ≤ C ∧ RdB w' w'.heap.size A (sumB k bs) ∧ Below w.heap.size w w' := by
 subst hn hm
 have hle := sumN_le (k := k) bs
 rcases kind_cases hk with rfl | rfl | rfl
 ·refine (put_arg _ _ w rfl).mono ?_
  rintro e w' ⟨rfl, hb⟩
  exact ⟨none, 0, 2, rfl, Nat.le_refl _, .inl rfl, hb⟩
 ·have h1 : sumN 1 bs ≤ 65535 := hle
  refine (put_ok 2 _ w rfl (by unfold U64; omega) (by simp [fits]; omega)).mono ?_
  rintro e w' ⟨v, rfl, ⟨A, C, rfl, hc, hr, _⟩, hb⟩
  exact ⟨A, C, 0, rfl, hc, hr, hb⟩
 ·have h1 : sumN 2 bs ≤ 4294967295 := hle
  refine (put_ok 4 _ w rfl (by unfold U64; omega) (by simp [fits]; omega)).mono ?_
  rintro e w' ⟨v, rfl, ⟨A, C, rfl, hc, hr, _⟩, hb⟩
  exact ⟨A, C, 0, rfl, hc, hr, hb⟩

theorem srdP_one (w : World) (B : Nat) (hB : B ≤ w.heap.size) (t : TypeId) (a : Option Addr) (c : Nat) (p : List UInt8) (h : RdB w B a p) (l : p.length ≤ c) :
  RdP (w.alloc (.cells #[.slice a p.length c] t)) (w.alloc (.cells #[.slice a p.length c] t)).heap.size (some ⟨w.heap.size, 0, none⟩) [p] := by
 refine .inr ⟨w.heap.size, 0, rfl, by simp, fun j hj => ?_⟩
 have hb : Below B w (w.alloc (.cells #[.slice a p.length c] t)) := bR.alloc hB _
 rw [Nat.zero_add, World.cell?_alloc_mark]
 simp at hj
 subst hj
 exact ⟨a, c, rfl, l, (h.below hb).mono (by simp; omega)⟩

def KindAt (w : World) (G k : Nat) (w' : World) : Prop :=
 Below w.heap.size w w' ∧ w.heap.size ≤ G ∧ w'.heap[G]? = some (.cells #[.int .i64 (wdN k), .int .u32 (onN k), .int .u32 (fxN k)] 122 (0, 0))

theorem KindAt.later {w w1 w2 : World} {G k : Nat} (h : KindAt w G k w1) (hb : Below w1.heap.size w1 w2) : KindAt w G k w2 :=
 ⟨below_on h.1 hb, h.2.1, (hb.block G (Array.getElem?_eq_some_iff.1 h.2.2).1).trans h.2.2⟩

theorem KindAt.held {w w1 : World} {G k : Nat} (h : KindAt w G k w1) :
  (w1.cell? ⟨G, 0, none⟩ = some (.int .i64 (wdN k)) ∧ w1.cell? ⟨G, 1, none⟩ = some (.int .u32 (onN k)) ∧ w1.cell? ⟨G, 2, none⟩ = some (.int .u32 (fxN k))) ∧ KindAt w G k w1 := by
 refine ⟨⟨?_, ?_, ?_⟩, h⟩ <;> simp [World.cell?, h.2.2]

theorem KindAt.new (w : World) (k : Nat) : KindAt w w.heap.size k (w.alloc (.cells #[.int .i64 (wdN k), .int .u32 (onN k), .int .u32 (fxN k)] 122)) :=
 ⟨bR.alloc (Nat.le_refl _) _, Nat.le_refl _, World.alloc_heap_new w _⟩

theorem meant_at (k : Nat) (hk : k ≤ 2) (w : World) :
  Calls Tryz.prog 68 #[.agg #[.int .i64 0, .int .u32 0, .int .u32 0, .int .i64 2, .int .u32 65535, .int .u32 33800, .int .i64 4, .int .u32 4294967295, .int .u32 2197175160], .int .i64 k] w fun e w' =>
   e = .returned (.tuple #[.agg #[.int .i64 (wdN k), .int .u32 (onN k), .int .u32 (fxN k)], .bool true]) ∧ Below w.heap.size w w' := meant_ok k hk w

theorem of_at (k : Nat) (hk : k ≤ 2) (a : Option Addr) (n c : Nat) (ps : List (List UInt8)) (bs : List UInt8) (hn : n = ps.length) (hbs : bs = ps.flatten) (w : World) (hl : ps.length ≤ 100000000000000) (hlen : bs.length ≤ 140737488355328) (hr : RdP w w.heap.size a ps) :
  Calls Tryz.prog 97 #[.agg #[.int .i64 (wdN k), .int .u32 (onN k), .int .u32 (fxN k)], .slice a n c] w fun e w' => e = .returned (.int .u32 (sumN k bs)) ∧ Below w.heap.size w w' :=
 of_any k hk a n c ps bs hn hbs w hl hlen hr

theorem of_ok (k : Nat) (hk : k ≤ 2) (a : Option Addr) (n c : Nat) (ps : List (List UInt8)) (bs : List UInt8) (hn : n = ps.length) (hbs : bs = ps.flatten) (w : World) (hl : ps.length ≤ 100000000000000) (hlen : bs.length ≤ 140737488355328) (hr : RdP w w.heap.size a ps) :
  Calls Tryz.prog 57 #[.int .i64 k, .slice a n c] w fun e w' => e = .returned (.tuple #[.int .u32 (sumN k bs), .int .i64 0]) ∧ Below w.heap.size w w' := by
 have HR := h_ hr
 have HK := h_ hbs
 have HN := h_ hn
 clear hr hbs hn
 go_enter Tryz.func57, Tryz.ntmps57
 go_wp2
 refine wp_scope_on 0 rfl ?_
 go_wp2_with (go_at_call 69; refine (skinds_any _).mono ?_; rintro e w1 ⟨rfl, hb1⟩)
 refine (meant_at k hk _).mono ?_
 rintro e w2 ⟨rfl, hb2⟩
 have B2 := below_al (below_on hb1 hb2) (.cells #[.int .i64 (wdN k), .int .u32 (onN k), .int .u32 (fxN k)] 122)
 go_wp2_with fail
 refine (of_at k hk a n c ps bs HN.out HK.out _ hl hlen ((HR.out.below B2).mono B2.size)).mono ?_
 rintro e w3 ⟨rfl, hb3⟩
 go_wp2
 simp only [Exit.jump]
 go_ret2
 exact ⟨rfl, below_on B2 hb3⟩

theorem width_ok (k : Nat) (hk : k ≤ 2) (w : World) :
  Calls Tryz.prog 31 #[.int .i64 k] w fun e w' => e = .returned (.tuple #[.int .i64 (wdN k), .int .i64 0]) ∧ Below w.heap.size w w' := by
 go_enter Tryz.func31, Tryz.ntmps31
 go_wp2
 refine wp_scope_on 0 rfl ?_
 go_wp2_with (go_at_call 69; refine (skinds_any _).mono ?_; rintro e w1 ⟨rfl, hb1⟩)
 refine (meant_at k hk _).mono ?_
 rintro e w2 ⟨rfl, hb2⟩
 go_wp2
 simp only [Exit.jump]
 go_ret2
 exact ⟨rfl, below_al (below_on hb1 hb2) _⟩

theorem width_no (x : Int) (hx : isK x = false) (w : World) :
  Calls Tryz.prog 31 #[.int .i64 x] w fun e w' => e = .returned (.tuple #[.int .i64 0, .int .i64 2]) ∧ Below w.heap.size w w' := by
 have HX := h_ hx
 clear hx
 go_enter Tryz.func31, Tryz.ntmps31
 go_wp2
 refine wp_scope_on 0 rfl ?_
 go_wp2_with (go_at_call 69; refine (skinds_any _).mono ?_; rintro e w1 ⟨rfl, hb1⟩)
 refine (meant_no x HX.out _).mono ?_
 rintro e w2 ⟨rfl, hb2⟩
 go_wp2
 go_step3
 refine ⟨rfl, ?_⟩
 show Code.wp _ _ _ _ _
 go_wp2
 rw [Exit.noGoto_ret]
 go_ret2
 exact ⟨rfl, below_al (below_on hb1 hb2) _⟩

end Go.Proofs.YtiahakbkagipkaaGreatDoor
