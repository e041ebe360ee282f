/- The sum's bytes, bytes.Equal; package sum's Of, Width, Seal, Open. -/
import Derived.Test.YtjcfhkodfanbiaaSumD
import Derived.Test.YtjcfhkodfanbiaaOctS
namespace Go.Proofs.Ytjcfhkodfanbiaa
open Go.RowKit Go.Shelf

/-- The bytes of a sum. -/
def sumB (k : Nat) (bs : List UInt8) : List UInt8 := beB (wdN k) (sumN k bs)

theorem sumB_length (k : Nat) (bs : List UInt8) : (sumB k bs).length = wdN k := beB_length _ _

theorem wdN_le (k : Nat) : wdN k ≤ 4 := by
  unfold wdN
  split
  · omega
  · split <;> omega

theorem sumN_le {k : Nat} (bs : List UInt8) : sumN k bs ≤ onN k := Nat.sub_le _ _

theorem putK_any (k : Nat) (hk : k ≤ 2) (bs : List UInt8) (n m : Int) (hn : n = (sumN k bs : Int)) (hm : m = (wdN k : Int)) (w : World) :
    Calls Try.prog 28 #[.int .u64 n, .int .i64 m] w fun e w' => ∃ A C g, e = .returned (.tuple #[.slice A (sumB k bs).length C, .int .i64 g]) ∧ (sumB k bs).length ≤ C ∧ RdB w' w'.heap.size A (sumB k bs) ∧ Below w.heap.size w w' := by
  subst hn hm
  have hle := sumN_le (k := k) bs
  rcases kind_cases hk with rfl | rfl | rfl
  · refine (put_arg _ _ w rfl).mono ?_
    rintro e w' ⟨rfl, hb⟩
    exact ⟨none, 0, 2, rfl, Nat.le_refl _, .inl rfl, hb⟩
  · have h1 : sumN 1 bs ≤ 65535 := hle
    refine (put_ok 2 _ w rfl (by unfold U64; omega) (by simp [fits]; omega)).mono ?_
    rintro e w' ⟨v, rfl, ⟨A, C, rfl, hc, hr, _⟩, hb⟩
    exact ⟨A, C, 0, rfl, hc, hr, hb⟩
  · have h1 : sumN 2 bs ≤ 4294967295 := hle
    refine (put_ok 4 _ w rfl (by unfold U64; omega) (by simp [fits]; omega)).mono ?_
    rintro e w' ⟨v, rfl, ⟨A, C, rfl, hc, hr, _⟩, hb⟩
    exact ⟨A, C, 0, rfl, hc, hr, hb⟩

theorem rdP_one (w : World) (B : Nat) (hB : B ≤ w.heap.size) (t : TypeId) (a : Option Addr) (c : Nat) (p : List UInt8) (h : RdB w B a p) (l : p.length ≤ c) :
    RdP (w.alloc (.cells #[.slice a p.length c] t)) (w.alloc (.cells #[.slice a p.length c] t)).heap.size (some ⟨w.heap.size, 0, none⟩) [p] := by
  refine .inr ⟨w.heap.size, 0, rfl, by simp, fun j hj => ?_⟩
  have hb : Below B w (w.alloc (.cells #[.slice a p.length c] t)) := (Below.refl _ _).alloc hB _
  rw [Nat.zero_add, World.cell?_alloc_mark]
  simp at hj
  subst hj
  exact ⟨a, c, rfl, l, (h.below hb).mono (by simp; omega)⟩

/-- A kind lies in block G; what lay ahead lies as it lay. -/
def KindAt (w : World) (G k : Nat) (w' : World) : Prop :=
  Below w.heap.size w w' ∧ w.heap.size ≤ G ∧ w'.heap[G]? = some (.cells #[.int .i64 (wdN k), .int .u32 (onN k), .int .u32 (fxN k)] 46 (0, 0))

theorem KindAt.later {w w1 w2 : World} {G k : Nat} (h : KindAt w G k w1) (hb : Below w1.heap.size w1 w2) : KindAt w G k w2 :=
  ⟨below_on h.1 hb, h.2.1, (hb.block G (Array.getElem?_eq_some_iff.1 h.2.2).1).trans h.2.2⟩

theorem KindAt.held {w w1 : World} {G k : Nat} (h : KindAt w G k w1) :
    (w1.cell? ⟨G, 0, none⟩ = some (.int .i64 (wdN k)) ∧ w1.cell? ⟨G, 1, none⟩ = some (.int .u32 (onN k)) ∧ w1.cell? ⟨G, 2, none⟩ = some (.int .u32 (fxN k))) ∧ KindAt w G k w1 := by
  refine ⟨⟨?_, ?_, ?_⟩, h⟩ <;> simp [World.cell?, h.2.2]

theorem KindAt.new (w : World) (k : Nat) : KindAt w w.heap.size k (w.alloc (.cells #[.int .i64 (wdN k), .int .u32 (onN k), .int .u32 (fxN k)] 46)) :=
  ⟨(Below.refl _ _).alloc (Nat.le_refl _) _, Nat.le_refl _, World.alloc_heap_new w _⟩

set_option maxRecDepth 100000 in
set_option maxHeartbeats 1000000 in
theorem bytes_any (k : Nat) (hk : k ≤ 2) (a : Option Addr) (n c : Nat) (bs : List UInt8) (hn : n = bs.length) (w : World) (hlen : bs.length ≤ 140737488355328) (hc : n ≤ c) (hr : RdB w w.heap.size a bs) :
    Calls Try.prog 21 #[kindV k, .slice a n c] w fun e w' => ∃ A C, e = .returned (.slice A (sumB k bs).length C) ∧ (sumB k bs).length ≤ C ∧ RdB w' w'.heap.size A (sumB k bs) ∧ Below w.heap.size w w' := by
  subst hn
  have F0 : KindAt w w.heap.size k (w.alloc (.cells #[.int .i64 (wdN k), .int .u32 (onN k), .int .u32 (fxN k)] 46)).drew := KindAt.later (KindAt.new w k) (Below.refl _ _).drew
  have HR := Lib.hid hr
  have F00 : KindAt w w.heap.size k ((w.alloc (.cells #[.int .i64 (wdN k), .int .u32 (onN k), .int .u32 (fxN k)] 46)).alloc (.cells #[.slice a bs.length c] 23)).drew := (KindAt.new w k).later (below_al (Below.refl _ _) _).drew
  have HC : Hid (Calls Try.prog 19 #[.agg #[.int .i64 (wdN k), .int .u32 (onN k), .int .u32 (fxN k)], .slice (some ⟨w.heap.size + 1, 0, none⟩) 1 1]
      ((w.alloc (.cells #[.int .i64 (wdN k), .int .u32 (onN k), .int .u32 (fxN k)] 46)).alloc (.cells #[.slice a bs.length c] 23)).drew
      fun e w' => e = .returned (.int .u32 (sumN k bs)) ∧ Below ((w.alloc (.cells #[.int .i64 (wdN k), .int .u32 (onN k), .int .u32 (fxN k)] 46)).alloc (.cells #[.slice a bs.length c] 23)).drew.heap.size ((w.alloc (.cells #[.int .i64 (wdN k), .int .u32 (onN k), .int .u32 (fxN k)] 46)).alloc (.cells #[.slice a bs.length c] 23)).drew w') := by
    refine of_any k hk _ 1 1 [bs] bs rfl (by simp) _ (by simp) hlen ?_
    have h := rdP_one (w.alloc (.cells #[.int .i64 (wdN k), .int .u32 (onN k), .int .u32 (fxN k)] 46)) w.heap.size (by simp) 23 a c bs (hr.below ((Below.refl _ _).alloc (Nat.le_refl _) _)) hc
    simp only [World.size_alloc] at h
    have e2 : ((w.alloc (.cells #[.int .i64 (wdN k), .int .u32 (onN k), .int .u32 (fxN k)] 46)).alloc (.cells #[.slice a bs.length c] 23)).drew.heap.size = w.heap.size + 1 + 1 := by simp
    rw [e2]
    exact h.drewN 1
  have hul : sumN k bs < 4294967296 := Nat.lt_of_le_of_lt (sumN_le bs) (onN_lt hk)
  have HWr : Hid (IntKind.u64.wrap (sumN k bs : Int) = (sumN k bs : Int)) := by
    simp only [Hid, IntKind.wrap_u64]
    omega
  clear hr hul
  change Calls _ _ #[.agg #[.int .i64 (wdN k), .int .u32 (onN k), .int .u32 (fxN k)], _] _ _
  go_enter Try.func21, Try.ntmps21
  go_wp2
  go_region_held (fun w' => (w'.cell? ⟨w.heap.size, 0, none⟩ = some (.int .i64 (wdN k)) ∧ w'.cell? ⟨w.heap.size, 1, none⟩ = some (.int .u32 (onN k)) ∧ w'.cell? ⟨w.heap.size, 2, none⟩ = some (.int .u32 (fxN k))) ∧ KindAt w w.heap.size k w')
    (first | (refine KindAt.held ?_; with_reducible exact F0) | (refine KindAt.held ?_; with_reducible exact F00) | (refine KindAt.held ?_; with_reducible exact F1) | (refine KindAt.held ?_; with_reducible exact F2))
    (first
      | (go_at_call 19; refine HC.out.mono ?_; rintro e W1 ⟨rfl, hb1⟩; have F1 := F00.later hb1)
      | (go_at_call 28; refine (putK_any k hk bs _ _ HWr.out rfl _).mono ?_; rintro e W2 ⟨A, C, g, rfl, hC, hrA, hb2⟩; have F2 := F1.later hb2))
  go_wp2
  go_ret
  exact ⟨A, C, rfl, hC, hrA, F2.1⟩

set_option maxHeartbeats 1000000 in
theorem equal_any (a1 a2 : Option Addr) (n1 n2 c1 c2 : Nat) (xs ys : List UInt8) (hn1 : n1 = xs.length) (hn2 : n2 = ys.length) (w : World) (B : Nat) (h1 : RdB w B a1 xs) (h2 : RdB w B a2 ys) :
    Calls Try.prog 23 #[.slice a1 n1 c1, .slice a2 n2 c2] w fun e w' => e = .returned (.bool (xs == ys)) ∧ w' = w := by
  have k1 := h1.text (P := Try.prog) 23 9 5 n1 c1 hn1 Try.underlying23 Try.underlying5 Try.underlying9
  have k2 := h2.text (P := Try.prog) 23 9 5 n2 c2 hn2 Try.underlying23 Try.underlying5 Try.underlying9
  clear h1 h2 hn1 hn2
  go_enter Try.func23, Try.ntmps23
  go_wp2
  go_ret
  exact ⟨rfl, rfl⟩

theorem meant_at (k : Nat) (hk : k ≤ 2) (w : World) :
    Calls Try.prog 17 #[.agg #[.int .i64 0, .int .u32 0, .int .u32 0, .int .i64 2, .int .u32 65535, .int .u32 33800, .int .i64 4, .int .u32 4294967295, .int .u32 2197175160], .int .i64 k] w fun e w' =>
      e = .returned (.tuple #[.agg #[.int .i64 (wdN k), .int .u32 (onN k), .int .u32 (fxN k)], .bool true]) ∧ Below w.heap.size w w' := meant_ok k hk w

theorem of_at (k : Nat) (hk : k ≤ 2) (a : Option Addr) (n c : Nat) (ps : List (List UInt8)) (bs : List UInt8) (hn : n = ps.length) (hbs : bs = ps.flatten) (w : World) (hl : ps.length ≤ 100000000000000) (hlen : bs.length ≤ 140737488355328) (hr : RdP w w.heap.size a ps) :
    Calls Try.prog 19 #[.agg #[.int .i64 (wdN k), .int .u32 (onN k), .int .u32 (fxN k)], .slice a n c] w fun e w' => e = .returned (.int .u32 (sumN k bs)) ∧ Below w.heap.size w w' :=
  of_any k hk a n c ps bs hn hbs w hl hlen hr

theorem bytes_at (k : Nat) (hk : k ≤ 2) (a : Option Addr) (n c : Nat) (bs : List UInt8) (hn : n = bs.length) (w : World) (hlen : bs.length ≤ 140737488355328) (hc : n ≤ c) (hr : RdB w w.heap.size a bs) :
    Calls Try.prog 21 #[.agg #[.int .i64 (wdN k), .int .u32 (onN k), .int .u32 (fxN k)], .slice a n c] w fun e w' => ∃ A C, e = .returned (.slice A (sumB k bs).length C) ∧ (sumB k bs).length ≤ C ∧ RdB w' w'.heap.size A (sumB k bs) ∧ Below w.heap.size w w' :=
  bytes_any k hk a n c bs hn w hlen hc hr

set_option maxHeartbeats 1000000 in
theorem of_ok (k : Nat) (hk : k ≤ 2) (a : Option Addr) (n c : Nat) (ps : List (List UInt8)) (bs : List UInt8) (hn : n = ps.length) (hbs : bs = ps.flatten) (w : World) (hl : ps.length ≤ 100000000000000) (hlen : bs.length ≤ 140737488355328) (hr : RdP w w.heap.size a ps) :
    Calls Try.prog 7 #[.int .i64 k, .slice a n c] w fun e w' => e = .returned (.tuple #[.int .u32 (sumN k bs), .int .i64 0]) ∧ Below w.heap.size w w' := by
  have HR := Lib.hid hr
  have HK := Lib.hid hbs
  have HN := Lib.hid hn
  clear hr hbs hn
  go_enter Try.func7, Try.ntmps7
  go_wp2
  refine wp_scope_on 0 rfl ?_
  go_wp2_with (go_at_call 18; refine (kinds_any _).mono ?_; rintro e w1 ⟨rfl, hb1⟩)
  refine (meant_at k hk _).mono ?_
  rintro e w2 ⟨rfl, hb2⟩
  have B2 := below_al (below_on hb1 hb2) (.cells #[.int .i64 (wdN k), .int .u32 (onN k), .int .u32 (fxN k)] 46)
  go_wp2_with fail
  refine (of_at k hk a n c ps bs HN.out HK.out _ hl hlen ((HR.out.below B2).mono B2.size)).mono ?_
  rintro e w3 ⟨rfl, hb3⟩
  go_wp2
  simp only [Exit.jump]
  go_ret2
  exact ⟨rfl, below_on B2 hb3⟩

set_option maxHeartbeats 1000000 in
theorem of_no (x : Int) (hx : isK x = false) (a : Option Addr) (n c : Nat) (w : World) :
    Calls Try.prog 7 #[.int .i64 x, .slice a n c] w fun e w' => e = .returned (.tuple #[.int .u32 0, .int .i64 2]) ∧ Below w.heap.size w w' := by
  have HX := Lib.hid hx
  clear hx
  go_enter Try.func7, Try.ntmps7
  go_wp2
  refine wp_scope_on 0 rfl ?_
  go_wp2_with (go_at_call 18; refine (kinds_any _).mono ?_; rintro e w1 ⟨rfl, hb1⟩)
  refine (meant_no x HX.out _).mono ?_
  rintro e w2 ⟨rfl, hb2⟩
  go_wp2
  go_step3
  refine ⟨rfl, ?_⟩
  show Code.wp _ _ _ _ _
  go_wp2
  rw [Exit.noGoto_ret]
  go_ret2
  exact ⟨rfl, below_al (below_on hb1 hb2) _⟩

set_option maxHeartbeats 1000000 in
theorem width_ok (k : Nat) (hk : k ≤ 2) (w : World) :
    Calls Try.prog 8 #[.int .i64 k] w fun e w' => e = .returned (.tuple #[.int .i64 (wdN k), .int .i64 0]) ∧ Below w.heap.size w w' := by
  go_enter Try.func8, Try.ntmps8
  go_wp2
  refine wp_scope_on 0 rfl ?_
  go_wp2_with (go_at_call 18; refine (kinds_any _).mono ?_; rintro e w1 ⟨rfl, hb1⟩)
  refine (meant_at k hk _).mono ?_
  rintro e w2 ⟨rfl, hb2⟩
  go_wp2
  simp only [Exit.jump]
  go_ret2
  exact ⟨rfl, below_al (below_on hb1 hb2) _⟩

set_option maxHeartbeats 1000000 in
theorem width_no (x : Int) (hx : isK x = false) (w : World) :
    Calls Try.prog 8 #[.int .i64 x] w fun e w' => e = .returned (.tuple #[.int .i64 0, .int .i64 2]) ∧ Below w.heap.size w w' := by
  have HX := Lib.hid hx
  clear hx
  go_enter Try.func8, Try.ntmps8
  go_wp2
  refine wp_scope_on 0 rfl ?_
  go_wp2_with (go_at_call 18; refine (kinds_any _).mono ?_; rintro e w1 ⟨rfl, hb1⟩)
  refine (meant_no x HX.out _).mono ?_
  rintro e w2 ⟨rfl, hb2⟩
  go_wp2
  go_step3
  refine ⟨rfl, ?_⟩
  show Code.wp _ _ _ _ _
  go_wp2
  rw [Exit.noGoto_ret]
  go_ret2
  exact ⟨rfl, below_al (below_on hb1 hb2) _⟩

/-- What Seal answers: bytes of its own. -/
def SealP (w : World) (bs : List UInt8) (e : Ending) (w' : World) : Prop := ∃ v, e = .returned (.tuple #[v, .int .i64 0]) ∧ OwnV w' w.heap.size 5 v (bs.map encB) ∧ Below w.heap.size w w'

set_option maxRecDepth 100000 in
set_option maxHeartbeats 1000000 in
theorem seal_ok (k : Nat) (hk : k ≤ 2) (a : Option Addr) (n c : Nat) (bs : List UInt8) (hn : n = bs.length) (w : World) (hlen : bs.length ≤ 140737488351232) (hc : n ≤ c) (hr : RdB w w.heap.size a bs) :
    Calls Try.prog 13 #[.int .i64 k, .slice a n c] w (SealP w (bs ++ sumB k bs)) := by
  subst hn
  have HR := Lib.hid hr
  have HL : Hid ((bs ++ sumB k bs).length ≤ 140737488355328) := by
    have h1 := sumB_length k bs
    have h2 := wdN_le k
    simp only [Hid, List.length_append]
    omega
  clear hr
  go_enter Try.func13, Try.ntmps13
  go_wp2
  refine wp_scope_on 0 rfl ?_
  go_wp2_with (go_at_call 18; refine (kinds_any _).mono ?_; rintro e w1 ⟨rfl, hb1⟩)
  refine (meant_at k hk _).mono ?_
  rintro e w2 ⟨rfl, hb2⟩
  have B2 := below_al (below_on hb1 hb2) (.cells #[.int .i64 (wdN k), .int .u32 (onN k), .int .u32 (fxN k)] 46)
  go_wp2_with fail
  refine (bytes_at k hk a bs.length c bs rfl _ (by omega) hc ((HR.out.below B2).mono B2.size)).mono ?_
  rintro e w3 ⟨A, C, rfl, hC, hrA, hb3⟩
  have B3 := below_on B2 hb3
  have HP := Lib.hid (rdP_pair w3 w3.heap.size (Nat.le_refl _) 23 a A c C bs (sumB k bs) ((HR.out.below B3).mono B3.size) hrA hc hC)
  have HRA := Lib.hid hrA
  clear hrA
  go_wp2_with fail
  refine (join_any _ 2 [bs, sumB k bs] _ (by simp) (by simpa using HL.out) HP.out).mono ?_
  rintro e w4 ⟨v, rfl, ho, hb4⟩
  have B4 := below_al B3 (.cells #[.slice a bs.length c, .slice A (sumB k bs).length C] 23)
  go_wp2
  simp only [Exit.jump]
  go_ret2
  refine ⟨v, rfl, ?_, below_on B4 hb4⟩
  have hf : [bs, sumB k bs].flatten = bs ++ sumB k bs := by simp
  rw [hf] at ho
  exact ho.base B4.size

set_option maxHeartbeats 1000000 in
theorem seal_no (x : Int) (hx : isK x = false) (a : Option Addr) (n c : Nat) (w : World) :
    Calls Try.prog 13 #[.int .i64 x, .slice a n c] w fun e w' => e = .returned (.tuple #[.slice none 0 0, .int .i64 2]) ∧ Below w.heap.size w w' := by
  have HX := Lib.hid hx
  clear hx
  go_enter Try.func13, Try.ntmps13
  go_wp2
  refine wp_scope_on 0 rfl ?_
  go_wp2_with (go_at_call 18; refine (kinds_any _).mono ?_; rintro e w1 ⟨rfl, hb1⟩)
  refine (meant_no x HX.out _).mono ?_
  rintro e w2 ⟨rfl, hb2⟩
  go_wp2
  go_step3
  refine ⟨rfl, ?_⟩
  show Code.wp _ _ _ _ _
  go_wp2
  rw [Exit.noGoto_ret]
  go_ret2
  exact ⟨rfl, below_al (below_on hb1 hb2) _⟩

end Go.Proofs.Ytjcfhkodfanbiaa
