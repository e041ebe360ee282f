/- How each kind of item is written. -/
import Derived.Test.YtlmdbeccfoncpaaGreatDoorZCbF
namespace Go.Proofs.YtlmdbeccfoncpaaGreatDoor
open Go.RowKit Go.Shelf

/-- A piece in a block apart. -/
def PieceS (w : World) (G H : Nat) (A : Option Addr) (p : List UInt8) : Prop :=
  p = [] ∨ ∃ b o, A = some ⟨b, o, none⟩ ∧ (b < G ∨ H ≤ b) ∧ b < w.heap.size ∧ ∀ i, i < p.length → w.cell? ⟨b, o + i, none⟩ = some (.int .u8 (byteAt p i))

theorem PieceS.own {w : World} {G H : Nat} {A : Option Addr} {p : List UInt8} (h : RdB w w.heap.size A p) (hH : ∀ q, A = some q → H ≤ q.block ∧ q.block < w.heap.size) : PieceS w G H A p := by
  rcases h with h | ⟨b, o, rfl, hlt, hc⟩
  · exact .inl h
  · exact .inr ⟨b, o, rfl, .inr (hH _ rfl).1, hlt, hc⟩

theorem PieceS.low {w : World} {G H : Nat} {A : Option Addr} {p : List UInt8} (h : RdB w G A p) (hG : G ≤ w.heap.size) : PieceS w G H A p := by
  rcases h with h | ⟨b, o, rfl, hlt, hc⟩
  · exact .inl h
  · exact .inr ⟨b, o, rfl, .inl hlt, Nat.lt_of_lt_of_le hlt hG, hc⟩

theorem PieceS.alloc {w : World} {G H : Nat} {A : Option Addr} {p : List UInt8} (h : PieceS w G H A p) (o : Obj) : PieceS (w.alloc o) G H A p := by
  rcases h with h | ⟨b, o', rfl, h1, h2, h3⟩
  · exact .inl h
  · exact .inr ⟨b, o', rfl, h1, by simp; omega, fun i hi => by rw [World.cell?_alloc_lt _ _ _ h2]; exact h3 i hi⟩

theorem rdPS_one (w : World) (G H : Nat) (A : Option Addr) (C : Nat) (p : List UInt8) (t : TypeId) (hp : PieceS w G H A p) (hH : H ≤ w.heap.size) :
    RdPS (w.alloc (.cells #[.slice A p.length C] t)) (apart G H (w.alloc (.cells #[.slice A p.length C] t)).heap.size) (some ⟨w.heap.size, 0, none⟩) [p] := by
  refine .inr ⟨w.heap.size, 0, rfl, ⟨.inr hH, by simp⟩, fun j hj => ?_⟩
  rw [Nat.zero_add, World.cell?_alloc_mark]
  simp at hj
  subst hj
  refine ⟨A, C, rfl, ?_⟩
  rcases hp.alloc (.cells #[.slice A p.length C] t) with h | ⟨b, o, e, h1, h2, h3⟩
  · exact .inl h
  · exact .inr ⟨b, o, e, ⟨h1, h2⟩, h3⟩

theorem rdPS_two (w : World) (G H : Nat) (A1 A2 : Option Addr) (C1 C2 : Nat) (p1 p2 : List UInt8) (t : TypeId) (h1 : PieceS w G H A1 p1) (h2 : PieceS w G H A2 p2) (hH : H ≤ w.heap.size) :
    RdPS (w.alloc (.cells #[.slice A1 p1.length C1, .slice A2 p2.length C2] t)) (apart G H (w.alloc (.cells #[.slice A1 p1.length C1, .slice A2 p2.length C2] t)).heap.size) (some ⟨w.heap.size, 0, none⟩) [p1, p2] := by
  refine .inr ⟨w.heap.size, 0, rfl, ⟨.inr hH, by simp⟩, fun j hj => ?_⟩
  rw [Nat.zero_add, World.cell?_alloc_mark]
  simp at hj
  have hj2 : j = 0 ∨ j = 1 := by omega
  rcases hj2 with rfl | rfl
  · refine ⟨A1, C1, rfl, ?_⟩
    rcases h1.alloc (.cells #[.slice A1 p1.length C1, .slice A2 p2.length C2] t) with h | ⟨b, o, e, h1, h2, h3⟩
    · exact .inl h
    · exact .inr ⟨b, o, e, ⟨h1, h2⟩, h3⟩
  · refine ⟨A2, C2, rfl, ?_⟩
    rcases h2.alloc (.cells #[.slice A1 p1.length C1, .slice A2 p2.length C2] t) with h | ⟨b, o, e, h1, h2, h3⟩
    · exact .inl h
    · exact .inr ⟨b, o, e, ⟨h1, h2⟩, h3⟩

/-- Bytes laid. -/
def KindP (S : Nat → Prop) (w : World) (G M : Nat) (bs : List UInt8) (d : Nat) (hdr : List UInt8) (e : Ending) (w' : World) : Prop :=
  e = .returned (.tuple #[]) ∧ KeepB S w w' ∧ Below G w w' ∧ ∃ u, WS w' G M (bs ++ hdr) d u ∧ Free S (bs ++ hdr) u

theorem keep_of {S : Nat → Prop} {G : Nat} {w0 w w' : World} (hSl : ∀ b, S b → b < w0.heap.size) (hb : Below w0.heap.size w0 w) (hk : KeepB (total S G w0.heap.size w.heap.size) w w') : KeepB S w0 w' :=
  fun b hs => (hk b ⟨.inl hs, Nat.lt_of_lt_of_le (hSl b hs) hb.size⟩).trans (hb.block b (hSl b hs))

set_option maxRecDepth 100000 in
set_option maxHeartbeats 2000000 in
theorem kind_uint (G M d : Nat) (bs : List UInt8) (u : Value) (S : Nat → Prop) (k n : Int) (v2 v3 v4 : Value) (w : World) (hS : WS w G M bs d u) (hF : Free S bs u) (hSG : ¬ S G) (hSl : ∀ b, S b → b < w.heap.size) (ht : TabW w) (hn : U64 n) :
    Calls Tryz.prog 107 #[.pointer (some ⟨G, 0, none⟩), .agg #[.int .i64 k, .int .u64 n, v2, v3, v4]] w (KindP S w G M bs d (headB 0 n)) := by
  have HS := Lib.hid hS
  have HF := Lib.hid hF
  have HSl := Lib.hid hSl
  have HT := Lib.hid ht
  have HN := Lib.hid hn
  clear hS hF hSl ht hn
  have B0 := below_al (Below.refl w.heap.size w) (.cells #[.int .i64 k, .int .u64 n, v2, v3, v4] 84)
  go_enter Tryz.func107, Tryz.ntmps107
  go_wp2_with fail
  refine (head_any 0 n _ (by omega) HN.out (HT.out.on B0)).mono ?_
  rintro e w1 ⟨v, rfl, ho, hb1⟩
  obtain ⟨A, C, rfl, hC, hra, hA⟩ := ho.bytes
  have B1 := below_on B0 hb1
  have HP := Lib.hid (rdPS_one w1 G w.heap.size A C (headB 0 n) 29 (PieceS.own hra fun q hq => ⟨Nat.le_trans B0.size (hA q hq).1, (hA q hq).2⟩) B1.size)
  clear ho hra hA hC
  go_wp2_with fail
  refine (lay_any G M d bs u S w _ HS.out HF.out hSG HSl.out (below_al B1 _) _ 1 1 [headB 0 n] (headB 0 n) rfl (by simp) HP.out (by simp)).mono ?_
  rintro e w2 ⟨rfl, hk2, hb2, u', hw2⟩
  have HK2 := Lib.hid (keep_of HSl.out (below_al B1 _) hk2)
  clear hk2
  have HW2 := Lib.hid hw2
  clear hw2
  go_wp2_with fail
  go_end0
  exact ⟨rfl, HK2.out, ((below_al B1 _).mono (Nat.le_of_lt HS.out.lt.2)).trans hb2, u', HW2.out⟩

set_option maxRecDepth 100000 in
set_option maxHeartbeats 2000000 in
theorem kind_list (G M d : Nat) (bs : List UInt8) (u : Value) (S : Nat → Prop) (k n : Int) (v2 v3 : Value) (A4 : Option Addr) (m C4 : Nat) (w : World) (hS : WS w G M bs d u) (hF : Free S bs u) (hSG : ¬ S G) (hSl : ∀ b, S b → b < w.heap.size) (ht : TabW w) (hl : m ≤ 140737488355328) :
    Calls Tryz.prog 112 #[.pointer (some ⟨G, 0, none⟩), .agg #[.int .i64 k, .int .u64 n, v2, v3, .slice A4 m C4]] w (KindP S w G M bs d (headB 4 m)) := by
  have HS := Lib.hid hS
  have HF := Lib.hid hF
  have HSl := Lib.hid hSl
  have HT := Lib.hid ht
  clear hS hF hSl ht
  have B0 := below_al (Below.refl w.heap.size w) (.cells #[.int .i64 k, .int .u64 n, v2, v3, .slice A4 m C4] 84)
  go_enter Tryz.func112, Tryz.ntmps112
  go_wp2_with fail
  refine (head_any 4 m _ (by omega) (by simp only [U64]; omega) (HT.out.on B0)).mono ?_
  rintro e w1 ⟨v, rfl, ho, hb1⟩
  obtain ⟨A, C, rfl, hC, hra, hA⟩ := ho.bytes
  have B1 := below_on B0 hb1
  have HP := Lib.hid (rdPS_one w1 G w.heap.size A C (headB 4 m) 29 (PieceS.own hra fun q hq => ⟨Nat.le_trans B0.size (hA q hq).1, (hA q hq).2⟩) B1.size)
  clear ho hra hA hC
  go_wp2_with fail
  refine (lay_any G M d bs u S w _ HS.out HF.out hSG HSl.out (below_al B1 _) _ 1 1 [headB 4 m] (headB 4 m) rfl (by simp) HP.out (by simp)).mono ?_
  rintro e w2 ⟨rfl, hk2, hb2, u', hw2⟩
  have HK2 := Lib.hid (keep_of HSl.out (below_al B1 _) hk2)
  clear hk2
  have HW2 := Lib.hid hw2
  clear hw2
  go_wp2_with fail
  go_end0
  exact ⟨rfl, HK2.out, ((below_al B1 _).mono (Nat.le_of_lt HS.out.lt.2)).trans hb2, u', HW2.out⟩

set_option maxRecDepth 100000 in
set_option maxHeartbeats 2000000 in
theorem kind_bool (G M d : Nat) (bs : List UInt8) (u : Value) (S : Nat → Prop) (k n : Int) (v2 v3 v4 : Value) (w : World) (hS : WS w G M bs d u) (hF : Free S bs u) (hSG : ¬ S G) (hSl : ∀ b, S b → b < w.heap.size) (ht : TabW w) (h0 : 0 ≤ n) (h1 : n ≤ 1) :
    Calls Tryz.prog 113 #[.pointer (some ⟨G, 0, none⟩), .agg #[.int .i64 k, .int .u64 n, v2, v3, v4]] w (KindP S w G M bs d (headB 7 (20 + n))) := by
  have HS := Lib.hid hS
  have HF := Lib.hid hF
  have HSl := Lib.hid hSl
  have HT := Lib.hid ht
  clear hS hF hSl ht
  have B0 := below_al (Below.refl w.heap.size w) (.cells #[.int .i64 k, .int .u64 n, v2, v3, v4] 84)
  go_enter Tryz.func113, Tryz.ntmps113
  go_wp2_with fail
  refine (head_any 7 (20 + n) _ (by omega) (by simp only [U64]; omega) (HT.out.on B0)).mono ?_
  rintro e w1 ⟨v, rfl, ho, hb1⟩
  obtain ⟨A, C, rfl, hC, hra, hA⟩ := ho.bytes
  have B1 := below_on B0 hb1
  have HP := Lib.hid (rdPS_one w1 G w.heap.size A C (headB 7 (20 + n)) 29 (PieceS.own hra fun q hq => ⟨Nat.le_trans B0.size (hA q hq).1, (hA q hq).2⟩) B1.size)
  clear ho hra hA hC
  go_wp2_with fail
  refine (lay_any G M d bs u S w _ HS.out HF.out hSG HSl.out (below_al B1 _) _ 1 1 [headB 7 (20 + n)] (headB 7 (20 + n)) rfl (by simp) HP.out (by simp)).mono ?_
  rintro e w2 ⟨rfl, hk2, hb2, u', hw2⟩
  have HK2 := Lib.hid (keep_of HSl.out (below_al B1 _) hk2)
  clear hk2
  have HW2 := Lib.hid hw2
  clear hw2
  go_wp2_with fail
  go_end0
  exact ⟨rfl, HK2.out, ((below_al B1 _).mono (Nat.le_of_lt HS.out.lt.2)).trans hb2, u', HW2.out⟩

set_option maxRecDepth 100000 in
set_option maxHeartbeats 2000000 in
theorem kind_null (G M d : Nat) (bs : List UInt8) (u : Value) (S : Nat → Prop) (k n : Int) (v2 v3 v4 : Value) (w : World) (hS : WS w G M bs d u) (hF : Free S bs u) (hSG : ¬ S G) (hSl : ∀ b, S b → b < w.heap.size) (ht : TabW w) :
    Calls Tryz.prog 114 #[.pointer (some ⟨G, 0, none⟩), .agg #[.int .i64 k, .int .u64 n, v2, v3, v4]] w (KindP S w G M bs d (headB 7 22)) := by
  have HS := Lib.hid hS
  have HF := Lib.hid hF
  have HSl := Lib.hid hSl
  have HT := Lib.hid ht
  clear hS hF hSl ht
  have B0 := below_al (Below.refl w.heap.size w) (.cells #[.int .i64 k, .int .u64 n, v2, v3, v4] 84)
  go_enter Tryz.func114, Tryz.ntmps114
  go_wp2_with fail
  refine (head_any 7 22 _ (by omega) (by simp only [U64]; omega) (HT.out.on B0)).mono ?_
  rintro e w1 ⟨v, rfl, ho, hb1⟩
  obtain ⟨A, C, rfl, hC, hra, hA⟩ := ho.bytes
  have B1 := below_on B0 hb1
  have HP := Lib.hid (rdPS_one w1 G w.heap.size A C (headB 7 22) 29 (PieceS.own hra fun q hq => ⟨Nat.le_trans B0.size (hA q hq).1, (hA q hq).2⟩) B1.size)
  clear ho hra hA hC
  go_wp2_with fail
  refine (lay_any G M d bs u S w _ HS.out HF.out hSG HSl.out (below_al B1 _) _ 1 1 [headB 7 22] (headB 7 22) rfl (by simp) HP.out (by simp)).mono ?_
  rintro e w2 ⟨rfl, hk2, hb2, u', hw2⟩
  have HK2 := Lib.hid (keep_of HSl.out (below_al B1 _) hk2)
  clear hk2
  have HW2 := Lib.hid hw2
  clear hw2
  go_wp2_with fail
  go_end0
  exact ⟨rfl, HK2.out, ((below_al B1 _).mono (Nat.le_of_lt HS.out.lt.2)).trans hb2, u', HW2.out⟩

/-- A struct's cell in its box. -/
def BoxC (B i : Nat) (v : Value) (w : World) : Prop := w.cell? ⟨B, i, none⟩ = some v

theorem BoxC.held {B i : Nat} {v : Value} {w : World} (h : BoxC B i v w) : w.cell? ⟨B, i, none⟩ = some v ∧ BoxC B i v w := ⟨h, h⟩

theorem BoxC.on {B i : Nat} {v : Value} {w w' : World} (h : BoxC B i v w) (hb : Below w.heap.size w w') : BoxC B i v w' :=
  (hb.cell (p := ⟨B, i, none⟩) (World.block_lt_of_cell? w _ h)).trans h

theorem BoxC.keep {B i : Nat} {v : Value} {w w' : World} {S : Nat → Prop} (h : BoxC B i v w) (hk : KeepB S w w') (hB : S B) : BoxC B i v w' :=
  (keep_cell hk hB).trans h

/-- A head, then a body that is a part of the item. -/
theorem headP_at (M m : Int) (m' : Nat) (hM : M = m) (hm' : m = (m' : Int)) (l : Nat) (hl : l ≤ 140737488355328) (hm : m' ≤ 7) (w : World) (ht : TabW w) (n : Int) (hn : n = (l : Int)) :
    Calls Tryz.prog 109 #[.int .u8 M, .int .u64 n] w (JoinP w (headB m' l)) := by
  subst hM hm' hn
  exact head_any m' l w hm (by simp only [U64]; omega) ht

theorem wrapLen {l : Nat} (h : l ≤ 140737488355328) : IntKind.u64.wrap (l : Int) = (l : Int) := by
  rw [IntKind.wrap_u64]
  omega

set_option maxRecDepth 100000 in
set_option maxHeartbeats 2000000 in
theorem kind_bytes (G M d : Nat) (bs : List UInt8) (u : Value) (S : Nat → Prop) (k n : Int) (a : Option Addr) (b : List UInt8) (c : Nat) (v3 v4 : Value) (w : World) (hS : WS w G M bs d u) (hF : Free S bs u) (hSG : ¬ S G) (hSl : ∀ b, S b → b < w.heap.size) (ht : TabW w) (hb : RdB w G a b) (hl : b.length ≤ 140737488355328) :
    Calls Tryz.prog 110 #[.pointer (some ⟨G, 0, none⟩), .agg #[.int .i64 k, .int .u64 n, .slice a b.length c, v3, v4]] w (KindP S w G M bs d (headB 2 b.length ++ b)) := by
  have HS := Lib.hid hS
  have HF := Lib.hid hF
  have HSl := Lib.hid hSl
  have HB := Lib.hid hb
  have hG := hS.lt.2
  have B0 : Below w.heap.size w (w.alloc (.cells #[.int .i64 k, .int .u64 n, .slice a b.length c, v3, v4] 84)).drew := (below_al (Below.refl w.heap.size w) _).drew
  have F0 : BoxC w.heap.size 2 (.slice a b.length c) (w.alloc (.cells #[.int .i64 k, .int .u64 n, .slice a b.length c, v3, v4] 84)).drew := by
    show (w.alloc _).cell? _ = _
    simp
  have HC := Lib.hid (headP_at 2 2 2 rfl rfl b.length hl (by omega) (w.alloc (.cells #[.int .i64 k, .int .u64 n, .slice a b.length c, v3, v4] 84)).drew (ht.on B0))
  have HWr := Lib.hid (wrapLen hl)
  clear hS hF hSl ht hb
  go_enter Tryz.func110, Tryz.ntmps110
  go_wp2_with fail
  go_region_held (fun w' => w'.cell? ⟨w.heap.size, 2, none⟩ = some (.slice a b.length c) ∧ BoxC w.heap.size 2 (.slice a b.length c) w')
    (first | (refine BoxC.held ?_; with_reducible exact F0) | (refine BoxC.held ?_; with_reducible exact F1) | (refine BoxC.held ?_; with_reducible exact F2) | (refine BoxC.held ?_; with_reducible exact F3))
    (first
      | (go_at_call 109; ((with_reducible refine (HC.out _ HWr.out).mono ?_)); rintro e w1 ⟨v, rfl, ho, hb1⟩; obtain ⟨A, C, rfl, hC, hra, hA⟩ := ho.bytes; have F1 := F0.on hb1; have B1 := below_on B0 hb1
         have HP := Lib.hid (rdPS_two w1 G w.heap.size A a C c (headB 2 b.length) b 29 (PieceS.own hra fun q hq => ⟨Nat.le_trans B0.size (hA q hq).1, (hA q hq).2⟩) (PieceS.low (HB.out.below (B1.mono (Nat.le_of_lt hG))) (Nat.le_trans (Nat.le_of_lt hG) B1.size)) B1.size)
         have F2 := F1.on (below_al (Below.refl _ _) (.cells #[.slice A (headB 2 b.length).length C, .slice a b.length c] 29)); clear ho hra hA hC)
      | (go_at_call 108; with_reducible refine (lay_any G M d bs u S w _ HS.out HF.out hSG HSl.out (below_al B1 _) _ 2 2 [headB 2 b.length, b] (headB 2 b.length ++ b) rfl (by simp) HP.out (by simp)).mono ?_; rintro e w2 ⟨rfl, hk2, hb2, u', hw2⟩; have HW2 := Lib.hid hw2; clear hw2
         have F3 := F2.keep hk2 ⟨.inr (.inr (Nat.le_refl _)), World.block_lt_of_cell? _ _ F2⟩
         have HK2 := Lib.hid (keep_of HSl.out (below_al B1 _) hk2); clear hk2))
  go_end0
  exact ⟨rfl, HK2.out, ((below_al B1 _).mono (Nat.le_of_lt hG)).trans hb2, u', HW2.out⟩

theorem TabW.alloc {w : World} (h : TabW w) (o : Obj) : TabW (w.alloc o) := h.on (below_al (Below.refl _ _) o)
theorem TabW.drew {w : World} (h : TabW w) : TabW w.drew := h

/-- What '[]byte(s)' lays, and with how much room. -/
def convC (w : World) (s : List UInt8) : Nat := grownCap w s.length 0 5
def convO (w : World) (s : List UInt8) : Obj := .cells (bytesRow ⟨s.toArray⟩ (convC w s)) 5 ((bytesRow ⟨s.toArray⟩ (convC w s)).size, (bytesRow ⟨s.toArray⟩ (convC w s)).size + 1)

theorem conv_run (s : List UInt8) (w : World) : (convert 9 29 (.string ⟨s.toArray⟩)).run Tryz.prog w = .ok (.slice (some ⟨w.heap.size, 0, none⟩) s.length (convC w s)) (w.drew.alloc (convO w s)) :=
  run_bytes_of_string w 9 29 5 ⟨s.toArray⟩ Tryz.underlying9 Tryz.underlying29 Tryz.underlying5

theorem conv_rd (s : List UInt8) (w : World) : RdB (w.drew.alloc (convO w s)) (w.heap.size + 1) (some ⟨w.heap.size, 0, none⟩) s := by
  refine .inr ⟨w.heap.size, 0, rfl, by omega, fun j hj => ?_⟩
  have h := World.cell?_alloc_mark w.drew (bytesRow ⟨s.toArray⟩ (convC w s)) 5 ((bytesRow ⟨s.toArray⟩ (convC w s)).size, (bytesRow ⟨s.toArray⟩ (convC w s)).size + 1) (0 + j)
  refine h.trans ?_
  rw [Nat.zero_add, bytesRow, Array.getElem?_append_left (by simpa using hj)]
  simp [byteAt, List.getElem?_eq_getElem hj]

theorem PieceS.heap {w w' : World} {G H : Nat} {A : Option Addr} {p : List UInt8} (h : PieceS w G H A p) (e : w.heap = w'.heap) : PieceS w' G H A p := by
  rcases h with h | ⟨b, o, rfl, h1, h2, h3⟩
  · exact .inl h
  · refine .inr ⟨b, o, rfl, h1, by rw [← e]; exact h2, fun i hi => ?_⟩
    rw [← h3 i hi]
    unfold World.cell?
    rw [e]

theorem drew_size (w : World) : w.drew.heap.size = w.heap.size := rfl

theorem conv_piece (s : List UInt8) (w : World) (G H : Nat) (hH : H ≤ w.heap.size) : PieceS (w.alloc (convO w s)) G H (some ⟨w.heap.size, 0, none⟩) s := by
  refine PieceS.own (((conv_rd s w : RdB (w.alloc (convO w s)) (w.heap.size + 1) (some ⟨w.heap.size, 0, none⟩) s)).mono (by simp)) fun q hq => ?_
  cases hq
  exact ⟨hH, by simp⟩

theorem PieceS.on {w w' : World} {G H : Nat} {A : Option Addr} {p : List UInt8} (h : PieceS w G H A p) (hb : Below w.heap.size w w') : PieceS w' G H A p := by
  rcases h with h | ⟨b, o, rfl, h1, h2, h3⟩
  · exact .inl h
  · exact .inr ⟨b, o, rfl, h1, Nat.lt_of_lt_of_le h2 hb.size, fun i hi => (hb.cell (p := ⟨b, o + i, none⟩) h2).trans (h3 i hi)⟩

theorem PieceS.onE {w w0 w' : World} {G H : Nat} {A : Option Addr} {p : List UInt8} (h : PieceS w G H A p) (hb : Below w0.heap.size w0 w') (e : w.heap = w0.heap) : PieceS w' G H A p :=
  (h.heap e).on hb

set_option maxRecDepth 100000 in
set_option maxHeartbeats 2000000 in
theorem kind_text (G M d : Nat) (bs : List UInt8) (u : Value) (S : Nat → Prop) (k n : Int) (s : List UInt8) (v2 v4 : Value) (w : World) (hS : WS w G M bs d u) (hF : Free S bs u) (hSG : ¬ S G) (hSl : ∀ b, S b → b < w.heap.size) (ht : TabW w) (hl : s.length ≤ 140737488355328) :
    Calls Tryz.prog 111 #[.pointer (some ⟨G, 0, none⟩), .agg #[.int .i64 k, .int .u64 n, v2, .string ⟨s.toArray⟩, v4]] w (KindP S w G M bs d (headB 3 s.length ++ s)) := by
  have HS := Lib.hid hS
  have HF := Lib.hid hF
  have HSl := Lib.hid hSl
  have hG := hS.lt.2
  have HT := Lib.hid (ht.alloc (.cells #[.int .i64 k, .int .u64 n, v2, .string ⟨s.toArray⟩, v4] 84))
  have HWr := Lib.hid (wrapLen hl)
  have hcv := conv_run s
  clear hS hF hSl ht
  go_enter Tryz.func111, Tryz.ntmps111
  go_wp2_with fail
  go_region_with (first
      | (go_at_call 109; refine (headP_at 3 3 3 rfl rfl s.length hl (by omega) _ (by repeat (first | exact HT.out | refine TabW.alloc ?_ _ | refine TabW.drew ?_)) _ HWr.out).mono ?_; rintro e w1 ⟨v, rfl, ho, hb1⟩; obtain ⟨A, C, rfl, hC, hra, hA⟩ := ho.bytes
         have F1 : w1.cell? ⟨w.heap.size, 3, none⟩ = some (.string ⟨s.toArray⟩) := (hb1.cell (p := ⟨w.heap.size, 3, none⟩) (by simp <;> omega)).trans (by simp)
         have hsz := hb1.size
         simp at hsz
         have hBw : Hid (Below w.heap.size w w1) := by
           first
             | exact (below_al (Below.refl _ _) _).drew.trans (hb1.mono (by simp))
             | exact (below_al (below_al (Below.refl _ _) _) _).drew.trans (hb1.mono (by simp; omega))
             | exact (below_al (below_al (Below.refl _ _) _) _).drew.drew.trans (hb1.mono (by simp; omega))
         have HPA := Lib.hid (PieceS.own (H := w.heap.size) (G := G) hra fun q hq => ⟨by have := (hA q hq).1; simp at this; omega, (hA q hq).2⟩)
         clear ho hra hA hC)
      | (go_at_call 108
         refine (lay_any G M d bs u S w _ HS.out HF.out hSG HSl.out (by first | exact (below_al (below_al hBw.out _) _).drew | exact (below_al hBw.out _).drew | exact below_al hBw.out _) _ 2 2 [headB 3 s.length, s] (headB 3 s.length ++ s) rfl (by simp) (by
            first
              | (have h := rdPS_two (w1.alloc (convO w1 s)) G w.heap.size A _ C (convC w1 s) _ s 29 (HPA.out.alloc _) (conv_piece s w1 G w.heap.size hBw.out.size) (below_al hBw.out _).size
                 simp only [World.size_alloc, drew_size] at h ⊢
                 exact h)
              | (have h := rdPS_two w1 G w.heap.size A _ C (convC (w.alloc (.cells #[.int .i64 k, .int .u64 n, v2, .string ⟨s.toArray⟩, v4] 84)).drew s) _ s 29 HPA.out (PieceS.onE (conv_piece s (w.alloc (.cells #[.int .i64 k, .int .u64 n, v2, .string ⟨s.toArray⟩, v4] 84)).drew G w.heap.size (by rw [drew_size, World.size_alloc]; exact Nat.le_succ _)) hb1 rfl) hBw.out.size
                 simp only [World.size_alloc, drew_size] at h ⊢
                 exact h)) (by simp)).mono ?_; rintro e w2 ⟨rfl, hk2, hb2, u', hw2⟩; have HW2 := Lib.hid hw2; clear hw2
         have HBG : Below G w w2 := by
           first
             | exact ((below_al (below_al hBw.out _) _).drew.mono (Nat.le_of_lt hG)).trans hb2
             | exact ((below_al hBw.out _).drew.mono (Nat.le_of_lt hG)).trans hb2
             | exact ((below_al hBw.out _).mono (Nat.le_of_lt hG)).trans hb2
         have HK2 : Hid (KeepB S w w2) := by
           first
             | exact keep_of HSl.out (below_al (below_al hBw.out _) _).drew hk2
             | exact keep_of HSl.out (below_al hBw.out _).drew hk2
             | exact keep_of HSl.out (below_al hBw.out _) hk2
         clear hk2))
  all_goals (go_end0; exact ⟨rfl, HK2.out, HBG, u', HW2.out⟩)

end Go.Proofs.YtlmdbeccfoncpaaGreatDoor
