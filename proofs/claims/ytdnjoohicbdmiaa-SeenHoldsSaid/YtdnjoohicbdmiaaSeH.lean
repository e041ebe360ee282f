/- Package seen's law: works. -/
import Derived.Test.YtdnjoohicbdmiaaSeG
namespace Go.Proofs.Ytdnjoohicbdmiaa
open Go Go.RowKit Go.Shelf
open Go.ChangeMaps (setBlock)
set_option linter.unusedSimpArgs false
set_option linter.unusedVariables false
set_option linter.unusedSectionVars false
set_option maxRecDepth 100000

attribute [local go_sem] Oper.semAt_some

theorem rowS {X : World} {bb : Nat} (h : RowB X bb [.int .u32 1, .int .u32 0, .int .u64 0, .int .u32 1, .bool true, .int .u8 0]) : (X.cell? ⟨bb, 0, none⟩ = some (.int .u32 1) ∧ X.cell? ⟨bb, 1, none⟩ = some (.int .u32 0) ∧ X.cell? ⟨bb, 2, none⟩ = some (.int .u64 0) ∧ X.cell? ⟨bb, 3, none⟩ = some (.int .u32 1) ∧ X.cell? ⟨bb, 4, none⟩ = some (.bool true) ∧ X.cell? ⟨bb, 5, none⟩ = some (.int .u8 0)) := ⟨h.1 0 _ rfl, h.1 1 _ rfl, h.1 2 _ rfl, h.1 3 _ rfl, h.1 4 _ rfl, h.1 5 _ rfl⟩
/-- A table that was made since w, of the blocks S. -/
def SeW (w : World) (S : Nat → Prop) (z : Nat) (w' : World) (p : Nat) (most : Int) (l : List (Sg × Value)) : Prop := TabAt w' S p most l ∧ (∀ b, S b → w.heap.size ≤ b ∧ b < z) ∧ z ≤ w'.heap.size ∧ Below w.heap.size w w'
theorem SeW.on {w w1 w2 : World} {S : Nat → Prop} {z p : Nat} {most : Int} {l : List (Sg × Value)} (h : SeW w S z w1 p most l) (hb : Below w1.heap.size w1 w2) : SeW w S z w2 p most l := by
  obtain ⟨h1, h2, h3, h4⟩ := h
  exact ⟨h1.on hb, h2, Nat.le_trans h3 hb.size, h4.trans (hb.mono h4.size)⟩
theorem newW (most : Int) (w : World) (hm : inB 0 4096 most = true) :
    Calls Try.prog 7 #[.int .i64 most] w fun e w' => ∃ p S, e = .returned (.tuple #[.pointer (some ⟨p, 0, none⟩), .int .i64 0]) ∧ SeW w S w'.heap.size w' p most [] :=
  (senew_any most w).mono fun e w' hr => by
    obtain ⟨hb, ⟨_, p, rfl, hl⟩ | ⟨h, _⟩⟩ := hr
    · exact ⟨p, _, rfl, hl, fun b h => ⟨h.1, h.2⟩, Nat.le_refl _, hb⟩
    · rw [hm] at h
      cases h
theorem seeW (w : World) (S : Nat → Prop) (z : Nat) (w1 : World) (p : Nat) (most : Int) (l : List (Sg × Value)) (x : Sg) (at0 : Int) (h : SeW w S z w1 p most l) :
    Calls Try.prog 16 #[.pointer (some ⟨p, 0, none⟩), .agg #[.int .u32 x.nm.n, .int .u32 x.nm.m, .int .u64 x.nm.t, .int .u32 x.nm.q, .bool x.back, .int .u8 x.cnt], .int .u64 at0] w1 fun e w' => e = .returned (.int .i64 (seeE l most x at0)) ∧ SeW w S z w' p most (if seeE l most x at0 = 0 then up l x (.int .u64 at0) else l) ∧ ∀ b, z ≤ b → b < w1.heap.size → w'.heap[b]? = w1.heap[b]? := by
  obtain ⟨h1, h2, h3, h4⟩ := h
  exact (see_any S p most l x at0 w1 h1).mono fun e w' hr => ⟨hr.1, ⟨hr.2.1, h2, Nat.le_trans h3 hr.2.2.size, h4.trans (hr.2.2.below h4.size fun k hk => (h2 k hk).1)⟩, fun b hb hl => hr.2.2.block b hl fun hs => by have := (h2 b hs).2; omega⟩
theorem hasW (w : World) (S : Nat → Prop) (z : Nat) (w1 : World) (p : Nat) (most : Int) (l : List (Sg × Value)) (x : Sg) (h : SeW w S z w1 p most l) :
    Calls Try.prog 18 #[.pointer (some ⟨p, 0, none⟩), .agg #[.int .u32 x.nm.n, .int .u32 x.nm.m, .int .u64 x.nm.t, .int .u32 x.nm.q, .bool x.back, .int .u8 x.cnt]] w1 fun e w' => e = .returned (.tuple #[(lk l x).getD (.int .u64 0), .bool (lk l x).isSome]) ∧ SeW w S z w' p most l :=
  (has_any S p most l x w1 h.1).mono fun e w' hr => ⟨hr.1, h.on hr.2⟩
theorem nextW (w : World) (S : Nat → Prop) (z : Nat) (w1 : World) (p : Nat) (most : Int) (l : List (Sg × Value)) (h : SeW w S z w1 p most l) (hT : AllT l) (hF : ∀ q ∈ l, tI q.2 ≤ 4611686018427387903) :
    Calls Try.prog 20 #[.pointer (some ⟨p, 0, none⟩)] w1 fun e w' => ∃ m is, e = .returned (.tuple #[.int .u64 m, .bool is]) ∧ NextOk l m is ∧ SeW w S z w' p most l :=
  (next_any S p most l w1 h.1 hT hF).mono fun e w' hr => by
    obtain ⟨⟨m, is, e1, e2⟩, e3⟩ := hr
    exact ⟨m, is, e1, e2, h.on e3⟩
theorem pruneW (w : World) (S : Nat → Prop) (z : Nat) (w1 : World) (p : Nat) (most : Int) (l : List (Sg × Value)) (at0 : Int) (h : SeW w S z w1 p most l) (hT : AllT l) (hlen : l.length ≤ 1000000) :
    Calls Try.prog 17 #[.pointer (some ⟨p, 0, none⟩), .int .u64 at0] w1 fun e w' => e = .returned (.tuple #[.int .i64 ((l.length : Int) - ((pruned l at0).length : Int)), .int .i64 0]) ∧ SeW w S z w' p most (pruned l at0) ∧ ∀ b, z ≤ b → b < w1.heap.size → w'.heap[b]? = w1.heap[b]? := by
  obtain ⟨h1, h2, h3, h4⟩ := h
  exact (prune_any S p most l at0 w1 h1 (fun b hb => Nat.lt_of_lt_of_le (h2 b hb).2 h3) hT hlen).mono fun e w' hr => ⟨hr.1, ⟨hr.2.1, h2, Nat.le_trans h3 hr.2.2.size, h4.trans (hr.2.2.below h4.size fun k hk => (h2 k hk).1)⟩, fun b hb hl => hr.2.2.block b hl fun hs => by have := (h2 b hs).2; omega⟩
theorem lenW (w : World) (S : Nat → Prop) (z : Nat) (w1 : World) (p : Nat) (most : Int) (l : List (Sg × Value)) (h : SeW w S z w1 p most l) :
    Calls Try.prog 21 #[.pointer (some ⟨p, 0, none⟩)] w1 fun e w' => e = .returned (.tuple #[.int .i64 (l.length : Int), .int .i64 most]) ∧ SeW w S z w' p most l :=
  (selen_any S p most l w1 h.1).mono fun e w' hr => ⟨hr.1, h.on hr.2⟩

def sg (n : Int) : Sg := ⟨⟨1, 0, 0, n⟩, false, 0⟩
def sgB : Sg := ⟨⟨1, 0, 0, 1⟩, true, 0⟩
theorem next5 {m : Int} {is : Bool} (h : NextOk [(sg 1, .int .u64 10), (sgB, .int .u64 5)] m is) : m = 5 ∧ is = true := by
  obtain ⟨e1, e2, q, hq, e3⟩ := h.2 (by simp)
  refine ⟨?_, e1⟩
  have h2 := e2 (sgB, .int .u64 5) (by simp)
  simp only [List.mem_cons, List.not_mem_nil, or_false] at hq
  simp only [tI] at h2
  rcases hq with rfl | rfl
  · simp only [tI] at e3
    omega
  · simp only [tI] at e3
    omega

set_option maxHeartbeats 8000000 in
theorem seworks_any (w : World) : Calls Try.prog 6 #[] w fun e w' => e = .returned (.bool true) ∧ Below w.heap.size w w' := by
  go_enter Try.func6, Try.ntmps6
  go_wp2_with fail
  refine (newW 2 w rfl).mono ?_
  rintro e w1 ⟨p, S, rfl, hs⟩
  obtain ⟨z, hz⟩ : ∃ z, z = w1.heap.size := ⟨_, rfl⟩
  rw [← hz] at hs
  have H1 := Lib.hid hs
  clear hs
  go_wp2_with fail
  refine (sight_any 1 w1).mono ?_
  rintro e w2 ⟨rfl, hb⟩
  have H2 := Lib.hid (H1.out.on hb)
  have HZ : Hid (z ≤ w2.heap.size) := by rw [Hid, hz]; exact hb.size
  clear hb hz H1
  go_upto_region 3 with fail
  obtain ⟨bb, hbb⟩ : ∃ b, b = w2.heap.size := ⟨_, rfl⟩
  obtain ⟨w3, hw3⟩ : ∃ w', w' = w2.alloc (.cells #[.int .u32 1, .int .u32 0, .int .u64 0, .int .u32 1, .bool false, .int .u8 0] 42) := ⟨_, rfl⟩
  have hb3 : Below w2.heap.size w2 w3 := by rw [hw3]; exact below_al (Below.refl _ _) _
  have HR3 : Hid (RowB w3 bb [.int .u32 1, .int .u32 0, .int .u64 0, .int .u32 1, .bool false, .int .u8 0] ∧ z ≤ bb) := by
    rw [Hid, hw3, hbb]
    exact ⟨RowB.new w2 [.int .u32 1, .int .u32 0, .int .u64 0, .int .u32 1, .bool false, .int .u8 0] _, HZ.out⟩
  have H3 := Lib.hid (H2.out.on hb3)
  rw [← hw3, ← hbb]
  clear hw3 hbb hb3 H2
  have y4 := HR3.out.1.1 4 _ rfl
  have g4 := HR3.out.1.2 4
  go_upto_region 4 with fail
  obtain ⟨w4, hw4⟩ : ∃ w', w' = w3.setCell ⟨bb, 4, none⟩ (.bool true) := ⟨_, rfl⟩
  have HR4 : Hid (RowB w4 bb [.int .u32 1, .int .u32 0, .int .u64 0, .int .u32 1, .bool true, .int .u8 0]) := by
    rw [Hid, hw4]
    exact HR3.out.1.set 4 _
  have H4 : Hid (SeW w S z w4 p 2 []) := by
    obtain ⟨a1, a2, a3, a4⟩ := H3.out
    have hk : ∀ j, j ≠ bb → w4.heap[j]? = w3.heap[j]? := fun j hj => by rw [hw4]; exact Below.heap_setCell _ _ _ _ hj
    refine ⟨a1.kept fun b hb _ => hk b (by have := (a2 b hb).2; have := HR3.out.2; omega), a2, by rw [hw4, World.size_setCell]; exact a3, ?_⟩
    rw [hw4]
    refine ((ButS.of_below a4).set (S := fun _ => False) (b := bb) (.inr ?_) _ _).below (Nat.le_refl _) fun k h => h.elim
    have := HR3.out.2
    by_cases hS : ∃ b, S b
    · obtain ⟨b, hb⟩ := hS
      have := a2 b hb
      omega
    · exact absurd ⟨p, by obtain ⟨bu, _, _, h3, _⟩ := a1; exact h3.1⟩ hS
  rw [← hw4]
  clear hw4 y4 g4 H3
  obtain ⟨Wd, hWd⟩ : ∃ W, W = w4.drew := ⟨_, rfl⟩
  have HWd := Lib.hid hWd
  have K0 : Hid (SeW w S z Wd p 2 [] ∧ RowB Wd bb [.int .u32 1, .int .u32 0, .int .u64 0, .int .u32 1, .bool true, .int .u8 0]) := by
    rw [Hid, hWd]
    exact ⟨H4.out.on (Below.refl _ _).drew, HR4.out.kept rfl⟩
  clear hWd H4 HR4
  refine wp_region_T (fun X => (X.cell? ⟨bb, 0, none⟩ = some (.int .u32 1) ∧ X.cell? ⟨bb, 1, none⟩ = some (.int .u32 0) ∧ X.cell? ⟨bb, 2, none⟩ = some (.int .u64 0) ∧ X.cell? ⟨bb, 3, none⟩ = some (.int .u32 1) ∧ X.cell? ⟨bb, 4, none⟩ = some (.bool true) ∧ X.cell? ⟨bb, 5, none⟩ = some (.int .u8 0))) 16 (by kernel_rfl) ?_
  rw [← HWd.out]
  refine wpAnyT_take (i := 0) (v := ?_) rfl (by kernel_rfl) (by kernel_rfl) (by kernel_rfl) (by kernel_rfl) (fun _ _ _ h => h) (Or.inl ⟨by rfl, ?_⟩) (rowS K0.out.2) ?_
  rotate_left
  · intro w hSw
    (try dsimp only at hSw)
    go_simp
    all_goals with_reducible rfl
  simp only [Act.put, List.setIfInBounds_toArray, List.set_cons_zero, List.set_cons_succ]
  refine wpAnyT_take (i := 3) (v := ?_) rfl (by kernel_rfl) (by kernel_rfl) (by kernel_rfl) (by kernel_rfl) (fun _ _ _ h => h) (Or.inl ⟨by rfl, ?_⟩) (rowS K0.out.2) ?_
  rotate_left
  · intro w hSw
    (try dsimp only at hSw)
    go_simp
    all_goals with_reducible rfl
  simp only [Act.put, List.setIfInBounds_toArray, List.set_cons_zero, List.set_cons_succ]
  refine wpAnyT_take (i := 6) (v := ?_) rfl (by kernel_rfl) (by kernel_rfl) (by kernel_rfl) (by kernel_rfl) (fun _ _ _ h => h) (Or.inl ⟨by rfl, ?_⟩) (rowS K0.out.2) ?_
  rotate_left
  · intro w hSw
    (try dsimp only at hSw)
    go_simp
    all_goals with_reducible rfl
  simp only [Act.put, List.setIfInBounds_toArray, List.set_cons_zero, List.set_cons_succ]
  refine wpAnyT_take (i := 7) (v := ?_) rfl (by kernel_rfl) (by kernel_rfl) (by kernel_rfl) (by kernel_rfl) (fun _ _ _ h => h) (Or.inl ⟨by rfl, ?_⟩) (rowS K0.out.2) ?_
  rotate_left
  · intro w hSw
    (try dsimp only at hSw)
    go_simp
    all_goals with_reducible rfl
  simp only [Act.put, List.setIfInBounds_toArray, List.set_cons_zero, List.set_cons_succ]
  refine wpAnyT_take (i := 9) (v := ?_) rfl (by kernel_rfl) (by kernel_rfl) (by kernel_rfl) (by kernel_rfl) (fun _ _ _ h => h) (Or.inl ⟨by rfl, ?_⟩) (rowS K0.out.2) ?_
  rotate_left
  · intro w hSw
    (try dsimp only at hSw)
    go_simp
    all_goals with_reducible rfl
  simp only [Act.put, List.setIfInBounds_toArray, List.set_cons_zero, List.set_cons_succ]
  refine wpAnyT_one (i := 1) (by kernel_rfl) rfl (fun K hK => ?_)
  go_simp
  refine (sight_any 1 _).mono ?_
  rintro e X1 ⟨rfl, hb⟩
  have K1 : Hid (SeW w S z X1 p 2 [] ∧ RowB X1 bb [.int .u32 1, .int .u32 0, .int .u64 0, .int .u32 1, .bool true, .int .u8 0]) := ⟨K0.out.1.on hb, K0.out.2.on hb K0.out.2.lt⟩
  clear hb K0
  refine hK.out _ _ (fun _ => (rowS K1.out.2)) ?_
  clear hK K
  try simp only [Act.put, List.setIfInBounds_toArray, List.set_cons_zero, List.set_cons_succ]
  refine wpAnyT_one (i := 2) (by kernel_rfl) rfl (fun K hK => ?_)
  go_simp
  refine (seeW w S z _ p 2 [] (sg 1) 10 K1.out.1).mono ?_
  rintro e X2 ⟨rfl, hs, hk⟩
  have K2 : Hid (SeW w S z X2 p 2 [(sg 1, .int .u64 10)] ∧ RowB X2 bb [.int .u32 1, .int .u32 0, .int .u64 0, .int .u32 1, .bool true, .int .u8 0]) := ⟨hs, K1.out.2.kept (hk bb HR3.out.2 K1.out.2.lt)⟩
  rw [show seeE [] 2 (sg 1) 10 = 0 from rfl]
  clear hs hk K1
  refine hK.out _ _ (fun _ => (rowS K2.out.2)) ?_
  clear hK K
  try simp only [Act.put, List.setIfInBounds_toArray, List.set_cons_zero, List.set_cons_succ]
  refine wpAnyT_one (i := 4) (by kernel_rfl) rfl (fun K hK => ?_)
  go_simp
  refine (sight_any 1 _).mono ?_
  rintro e X3 ⟨rfl, hb⟩
  have K3 : Hid (SeW w S z X3 p 2 [(sg 1, .int .u64 10)] ∧ RowB X3 bb [.int .u32 1, .int .u32 0, .int .u64 0, .int .u32 1, .bool true, .int .u8 0]) := ⟨K2.out.1.on hb, K2.out.2.on hb K2.out.2.lt⟩
  clear hb K2
  refine hK.out _ _ (fun _ => (rowS K3.out.2)) ?_
  clear hK K
  try simp only [Act.put, List.setIfInBounds_toArray, List.set_cons_zero, List.set_cons_succ]
  refine wpAnyT_one (i := 5) (by kernel_rfl) rfl (fun K hK => ?_)
  go_simp
  refine (seeW w S z _ p 2 [(sg 1, .int .u64 10)] (sg 1) 20 K3.out.1).mono ?_
  rintro e X4 ⟨rfl, hs, hk⟩
  have K4 : Hid (SeW w S z X4 p 2 [(sg 1, .int .u64 10)] ∧ RowB X4 bb [.int .u32 1, .int .u32 0, .int .u64 0, .int .u32 1, .bool true, .int .u8 0]) := ⟨hs, K3.out.2.kept (hk bb HR3.out.2 K3.out.2.lt)⟩
  rw [show seeE [(sg 1, .int .u64 10)] 2 (sg 1) 20 = 150 from rfl]
  clear hs hk K3
  refine hK.out _ _ (fun _ => (rowS K4.out.2)) ?_
  clear hK K
  try simp only [Act.put, List.setIfInBounds_toArray, List.set_cons_zero, List.set_cons_succ]
  refine wpAnyT_one (i := 8) (by kernel_rfl) rfl (fun K hK => ?_)
  go_simp
  refine (seeW w S z _ p 2 [(sg 1, .int .u64 10)] (sgB) 5 K4.out.1).mono ?_
  rintro e X5 ⟨rfl, hs, hk⟩
  have K5 : Hid (SeW w S z X5 p 2 [(sg 1, .int .u64 10), (sgB, .int .u64 5)] ∧ RowB X5 bb [.int .u32 1, .int .u32 0, .int .u64 0, .int .u32 1, .bool true, .int .u8 0]) := ⟨hs, K4.out.2.kept (hk bb HR3.out.2 K4.out.2.lt)⟩
  rw [show seeE [(sg 1, .int .u64 10)] 2 (sgB) 5 = 0 from rfl]
  clear hs hk K4
  refine hK.out _ _ (fun _ => (rowS K5.out.2)) ?_
  clear hK K
  try simp only [Act.put, List.setIfInBounds_toArray, List.set_cons_zero, List.set_cons_succ]
  refine wpAnyT_one (i := 10) (by kernel_rfl) rfl (fun K hK => ?_)
  go_simp
  refine (sight_any 2 _).mono ?_
  rintro e X6 ⟨rfl, hb⟩
  have K6 : Hid (SeW w S z X6 p 2 [(sg 1, .int .u64 10), (sgB, .int .u64 5)] ∧ RowB X6 bb [.int .u32 1, .int .u32 0, .int .u64 0, .int .u32 1, .bool true, .int .u8 0]) := ⟨K5.out.1.on hb, K5.out.2.on hb K5.out.2.lt⟩
  clear hb K5
  refine hK.out _ _ (fun _ => (rowS K6.out.2)) ?_
  clear hK K
  try simp only [Act.put, List.setIfInBounds_toArray, List.set_cons_zero, List.set_cons_succ]
  refine wpAnyT_one (i := 11) (by kernel_rfl) rfl (fun K hK => ?_)
  go_simp
  refine (seeW w S z _ p 2 [(sg 1, .int .u64 10), (sgB, .int .u64 5)] (sg 2) 9 K6.out.1).mono ?_
  rintro e X7 ⟨rfl, hs, hk⟩
  have K7 : Hid (SeW w S z X7 p 2 [(sg 1, .int .u64 10), (sgB, .int .u64 5)] ∧ RowB X7 bb [.int .u32 1, .int .u32 0, .int .u64 0, .int .u32 1, .bool true, .int .u8 0]) := ⟨hs, K6.out.2.kept (hk bb HR3.out.2 K6.out.2.lt)⟩
  rw [show seeE [(sg 1, .int .u64 10), (sgB, .int .u64 5)] 2 (sg 2) 9 = 230 from rfl]
  clear hs hk K6
  refine hK.out _ _ (fun _ => (rowS K7.out.2)) ?_
  clear hK K
  try simp only [Act.put, List.setIfInBounds_toArray, List.set_cons_zero, List.set_cons_succ]
  refine wpAnyT_take (i := 12) (v := ?_) rfl (by kernel_rfl) (by kernel_rfl) (by kernel_rfl) (by kernel_rfl) (fun _ _ _ h => h) (Or.inl ⟨by rfl, ?_⟩) (rowS K7.out.2) ?_
  rotate_left
  · intro w hSw
    (try dsimp only at hSw)
    go_simp
    all_goals with_reducible rfl
  simp only [Act.put, List.setIfInBounds_toArray, List.set_cons_zero, List.set_cons_succ]
  refine wpAnyT_take (i := 13) (v := ?_) rfl (by kernel_rfl) (by kernel_rfl) (by kernel_rfl) (by kernel_rfl) (fun _ _ _ h => h) (Or.inl ⟨by rfl, ?_⟩) (rowS K7.out.2) ?_
  rotate_left
  · intro w hSw
    (try dsimp only at hSw)
    go_simp
    all_goals with_reducible rfl
  simp only [Act.put, List.setIfInBounds_toArray, List.set_cons_zero, List.set_cons_succ]
  refine wpAnyT_take (i := 14) (v := ?_) rfl (by kernel_rfl) (by kernel_rfl) (by kernel_rfl) (by kernel_rfl) (fun _ _ _ h => h) (Or.inl ⟨by rfl, ?_⟩) (rowS K7.out.2) ?_
  rotate_left
  · intro w hSw
    (try dsimp only at hSw)
    go_simp
    all_goals with_reducible rfl
  simp only [Act.put, List.setIfInBounds_toArray, List.set_cons_zero, List.set_cons_succ]
  refine wpAnyT_take (i := 15) (v := ?_) rfl (by kernel_rfl) (by kernel_rfl) (by kernel_rfl) (by kernel_rfl) (fun _ _ _ h => h) (Or.inl ⟨by rfl, ?_⟩) (rowS K7.out.2) ?_
  rotate_left
  · intro w hSw
    (try dsimp only at hSw)
    go_simp
    all_goals with_reducible rfl
  simp only [Act.put, List.setIfInBounds_toArray, List.set_cons_zero, List.set_cons_succ]
  refine wpAnyT_done (by kernel_rfl) ?_ _
  have H5 : Hid (SeW w S z X7 p 2 [(sg 1, .int .u64 10), (sgB, .int .u64 5)]) := K7.out.1
  clear K7 HR3 HZ
  go_wp2_with fail
  refine (sight_any 1 X7).mono ?_
  rintro e w6 ⟨rfl, hb⟩
  have H6 := Lib.hid (H5.out.on hb)
  clear hb H5
  go_wp2_with fail
  refine (hasW w S z w6 p 2 [(sg 1, .int .u64 10), (sgB, .int .u64 5)] (sg 1) H6.out).mono ?_
  rintro e w7 ⟨rfl, hs⟩
  have H7 := Lib.hid hs
  rw [show (lk [(sg 1, .int .u64 10), (sgB, .int .u64 5)] (sg 1)) = some (.int .u64 10) from rfl]
  simp only [Option.getD_some, Option.isSome_some]
  clear hs H6
  go_wp2_with fail
  refine (nextW w S z w7 p 2 [(sg 1, .int .u64 10), (sgB, .int .u64 5)] H7.out (by simp [AllT]) (by simp [tI])).mono ?_
  rintro e w8 ⟨m, is, rfl, hm, hs⟩
  obtain ⟨rfl, rfl⟩ := next5 hm
  have H8 := Lib.hid hs
  clear hs hm H7
  go_wp2_with fail
  refine (pruneW w S z w8 p 2 [(sg 1, .int .u64 10), (sgB, .int .u64 5)] 5 H8.out (by simp [AllT]) (by simp)).mono ?_
  rintro e w9 ⟨rfl, hs, _⟩
  have H9 : Hid (SeW w S z w9 p 2 [(sg 1, .int .u64 10)]) := hs
  rw [show ((([(sg 1, .int .u64 10), (sgB, .int .u64 5)] : List (Sg × Value)).length : Int) - ((pruned [(sg 1, .int .u64 10), (sgB, .int .u64 5)] 5).length : Int)) = 1 from rfl]
  clear hs H8
  go_wp2_with fail
  refine (pruneW w S z w9 p 2 [(sg 1, .int .u64 10)] 9 H9.out (by simp [AllT]) (by simp)).mono ?_
  rintro e w10 ⟨rfl, hs, _⟩
  have H10 : Hid (SeW w S z w10 p 2 [(sg 1, .int .u64 10)]) := hs
  rw [show ((([(sg 1, .int .u64 10)] : List (Sg × Value)).length : Int) - ((pruned [(sg 1, .int .u64 10)] 9).length : Int)) = 0 from rfl]
  clear hs H9
  go_wp2_with fail
  refine (sight_any 2 w10).mono ?_
  rintro e w11 ⟨rfl, hb⟩
  have H11 := Lib.hid (H10.out.on hb)
  clear hb H10
  go_wp2_with fail
  refine (seeW w S z w11 p 2 [(sg 1, .int .u64 10)] (sg 2) 9 H11.out).mono ?_
  rintro e w12 ⟨rfl, hs, _⟩
  have H12 : Hid (SeW w S z w12 p 2 [(sg 1, .int .u64 10), (sg 2, .int .u64 9)]) := hs
  rw [show seeE [(sg 1, .int .u64 10)] 2 (sg 2) 9 = 0 from rfl]
  clear hs H11
  go_wp2_with fail
  refine (lenW w S z w12 p 2 [(sg 1, .int .u64 10), (sg 2, .int .u64 9)] H12.out).mono ?_
  rintro e w13 ⟨rfl, hs⟩
  have H13 := Lib.hid hs
  rw [show ((([(sg 1, .int .u64 10), (sg 2, .int .u64 9)] : List (Sg × Value)).length : Int)) = 2 from rfl]
  clear hs H12
  go_wp2_with fail
  refine (senum_any 0 w13).mono ?_
  rintro e wq ⟨rfl, hwq⟩
  rw [hwq]
  clear hwq wq
  go_wp2_with fail
  refine (senum_any 0 w13).mono ?_
  rintro e wq ⟨rfl, hwq⟩
  rw [hwq]
  clear hwq wq
  go_wp2_with fail
  refine (senum_any 0 w13).mono ?_
  rintro e wq ⟨rfl, hwq⟩
  rw [hwq]
  clear hwq wq
  go_wp2_with fail
  refine (senum_any 0 w13).mono ?_
  rintro e wq ⟨rfl, hwq⟩
  rw [hwq]
  clear hwq wq
  go_wp2_with fail
  refine (senum_any 0 w13).mono ?_
  rintro e wq ⟨rfl, hwq⟩
  rw [hwq]
  clear hwq wq
  go_wp2_with fail
  refine (senum_any 0 w13).mono ?_
  rintro e wq ⟨rfl, hwq⟩
  rw [hwq]
  clear hwq wq
  go_wp2_with fail
  refine (senum_any 150 w13).mono ?_
  rintro e wq ⟨rfl, hwq⟩
  rw [hwq]
  clear hwq wq
  go_wp2_with fail
  refine (senum_any 230 w13).mono ?_
  rintro e wq ⟨rfl, hwq⟩
  rw [hwq]
  clear hwq wq
  go_wp2_with fail
  go_ret
  exact ⟨rfl, H13.out.2.2.2⟩

end Go.Proofs.Ytdnjoohicbdmiaa
