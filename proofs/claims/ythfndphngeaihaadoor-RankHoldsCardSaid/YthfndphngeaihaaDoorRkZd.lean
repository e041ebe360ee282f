/- Package rank's law: named; works. -/
import Derived.Test.YthfndphngeaihaaDoorRkZc
import Derived.Test.YthfndphngeaihaaDoorRkQ
import Derived.Test.YthfndphngeaihaaDoorRkR
import Derived.Test.YthfndphngeaihaaDoorRkT
import Derived.Test.YthfndphngeaihaaDoorRgTwo
namespace Go.Proofs.YthfndphngeaihaaDoor
open Go Go.RowKit Go.Shelf
open Go.ChangeMaps (setBlock)
set_option linter.unusedSimpArgs false
set_option linter.unusedVariables false
set_option linter.unusedSectionVars false
set_option maxRecDepth 100000

attribute [local go_sem] Oper.semAt_some

def nmL (x : Int) : Nm := ⟨1, 0, 0, x⟩
theorem named14_any (x : Int) (w : World) : Calls Tryd.prog 12 #[.int .u32 x] w fun e w' => e = .returned (.agg #[.int .u32 (nmL x).n, .int .u32 (nmL x).m, .int .u64 (nmL x).t, .int .u32 (nmL x).q]) ∧ Below w.heap.size w w' := by
  go_enter Tryd.func12, Tryd.ntmps12
  go_wp2_with fail
  refine bodyPost_ret (results_cell rfl (by rfl) (v := .agg #[.int .u32 (nmL x).n, .int .u32 (nmL x).m, .int .u64 (nmL x).t, .int .u32 (nmL x).q]) ?_) rfl ⟨rfl, below_al (Below.refl _ _) _⟩
  go_simp
  exact ⟨rfl, rfl, rfl, rfl⟩

/-- A line that was made since w; the blocks of K are not its own. -/
def St (w w' : World) (p : Nat) (most : Int) (D : List Wt) (K : Nat → Prop) : Prop := (∃ S, LineAt w' S p most D ∧ ∀ b, S b → w.heap.size ≤ b ∧ b < w'.heap.size ∧ ¬ K b) ∧ (∀ b, K b → b < w'.heap.size) ∧ Below w.heap.size w w'
def Kept (K : Nat → Prop) (w w' : World) : Prop := ∀ b, K b → w'.heap[b]? = w.heap[b]?
theorem St.on {w w1 w2 : World} {p : Nat} {most : Int} {D : List Wt} {K : Nat → Prop} (h : St w w1 p most D K) (hb : Below w1.heap.size w1 w2) : St w w2 p most D K ∧ Kept K w1 w2 := by
  obtain ⟨⟨S, h1, h2⟩, h3, h4⟩ := h
  exact ⟨⟨⟨S, h1.on hb, fun b hb' => ⟨(h2 b hb').1, Nat.lt_of_lt_of_le (h2 b hb').2.1 hb.size, (h2 b hb').2.2⟩⟩, fun b hk => Nat.lt_of_lt_of_le (h3 b hk) hb.size, h4.trans (hb.mono h4.size)⟩, fun b hk => hb.block b (h3 b hk)⟩
/-- A box of the call's own comes to be kept. -/
theorem St.box {w w1 : World} {p : Nat} {most : Int} {D : List Wt} {K : Nat → Prop} (h : St w w1 p most D K) (o : Obj) : St w (w1.alloc o) p most D (fun b => K b ∨ b = w1.heap.size) ∧ Kept K w1 (w1.alloc o) := by
  have hb : Below w1.heap.size w1 (w1.alloc o) := below_al (Below.refl _ _) _
  obtain ⟨⟨S, h1, h2⟩, h3, h4⟩ := h
  refine ⟨⟨⟨S, h1.on hb, fun b hb' => ⟨(h2 b hb').1, Nat.lt_of_lt_of_le (h2 b hb').2.1 hb.size, fun hk => ?_⟩⟩, fun b hk => ?_, h4.trans (hb.mono h4.size)⟩, fun b hk => hb.block b (h3 b hk)⟩
  · rcases hk with hk | hk
    · exact (h2 b hb').2.2 hk
    · have := (h2 b hb').2.1
      omega
  · rw [World.size_alloc]
    rcases hk with hk | hk
    · have := h3 b hk
      omega
    · omega
theorem St.step {w w1 w2 : World} {p : Nat} {most : Int} {D' : List Wt} {K S : Nat → Prop} (h2 : ∀ b, S b → w.heap.size ≤ b ∧ b < w1.heap.size ∧ ¬ K b) (h3 : ∀ b, K b → b < w1.heap.size) (h4 : Below w.heap.size w w1)
    (k1 : LineAt w2 (fun b => S b ∨ newS w1 w2 b) p most D') (k2 : ButS w1.heap.size S w1 w2) : St w w2 p most D' K ∧ Kept K w1 w2 := by
  refine ⟨⟨⟨_, k1, fun b hb => ?_⟩, fun b hk => Nat.lt_of_lt_of_le (h3 b hk) k2.size, h4.trans (k2.below h4.size fun k hk => (h2 k hk).1)⟩, fun b hk => k2.block b (h3 b hk) fun hs => (h2 b hs).2.2 hk⟩
  rcases hb with hb | hb
  · exact ⟨(h2 b hb).1, Nat.lt_of_lt_of_le (h2 b hb).2.1 k2.size, (h2 b hb).2.2⟩
  · exact ⟨Nat.le_trans h4.size hb.1, hb.2, fun hk => by have := h3 b hk; have := hb.1; omega⟩

/-- One of the kept boxes turns. -/
theorem St.turn {w w1 w2 : World} {p : Nat} {most : Int} {D : List Wt} {K T : Nat → Prop} (h : St w w1 p most D K) (hb : ButS w1.heap.size T w1 w2) (hT : ∀ b, T b → K b ∧ w.heap.size ≤ b) : St w w2 p most D K := by
  obtain ⟨⟨S, h1, h2⟩, h3, h4⟩ := h
  exact ⟨⟨S, h1.kept fun b hs hl => hb.block b hl fun ht => (h2 b hs).2.2 (hT b ht).1, fun b hs => ⟨(h2 b hs).1, Nat.lt_of_lt_of_le (h2 b hs).2.1 hb.size, (h2 b hs).2.2⟩⟩, fun b hk => Nat.lt_of_lt_of_le (h3 b hk) hb.size, h4.trans (hb.below h4.size fun k hk => (hT k hk).2)⟩
theorem St.turnD {w w1 w2 : World} {p : Nat} {most : Int} {D : List Wt} {K T : Nat → Prop} {d : Nat} (h : St w w1 p most D K) (hb : ButS w1.heap.size T w1 w2) (hT : ∀ b, T b → K b ∧ w.heap.size ≤ b) (h1 : w1.heap.size ≤ d) (h2 : d < w2.heap.size) : St w w2 p most D (fun b => K b ∨ b = d) := by
  obtain ⟨⟨S, k1, k2⟩, k3, k4⟩ := h
  refine ⟨⟨S, k1.kept fun b hs hl => hb.block b hl fun ht => (k2 b hs).2.2 (hT b ht).1, fun b hs => ⟨(k2 b hs).1, Nat.lt_of_lt_of_le (k2 b hs).2.1 hb.size, fun hk => ?_⟩⟩, fun b hk => ?_, k4.trans (hb.below k4.size fun k hk => (hT k hk).2)⟩
  · rcases hk with hk | hk
    · exact (k2 b hs).2.2 hk
    · have := (k2 b hs).2.1
      omega
  · rcases hk with hk | hk
    · exact Nat.lt_of_lt_of_le (k3 b hk) hb.size
    · rw [hk]; exact h2
theorem putL (w w1 : World) (p : Nat) (most : Int) (D : List Wt) (x : Wt) (K : Nat → Prop) (h : St w w1 p most D K) (hlen : D.length ≤ 100000) :
    Calls Tryd.prog 7 #[.pointer (some ⟨p, 0, none⟩), .agg #[.int .u32 x.nm.n, .int .u32 x.nm.m, .int .u64 x.nm.t, .int .u32 x.nm.q, .int .u32 x.node, .int .i64 x.rank, .int .i64 x.size]] w1 fun e w' => e = .returned (.int .i64 (putE D most x)) ∧ St w w' p most (if putE D most x = 0 then D ++ [x] else D) K ∧ Kept K w1 w' := by
  obtain ⟨⟨S, h1, h2⟩, h3, h4⟩ := h
  exact (put_any S p most D x w1 h1 hlen).mono fun e w' hr => ⟨hr.1, St.step h2 h3 h4 hr.2.1 hr.2.2⟩
theorem dropL (w w1 : World) (p : Nat) (most : Int) (D : List Wt) (n : Nm) (K : Nat → Prop) (h : St w w1 p most D K) (hlen : D.length ≤ 100000) :
    Calls Tryd.prog 9 #[.pointer (some ⟨p, 0, none⟩), .agg #[.int .u32 n.n, .int .u32 n.m, .int .u64 n.t, .int .u32 n.q]] w1 fun e w' => e = .returned (.tuple #[encWt (if dropE D n = 0 then (wt D n).getD wtZ else wtZ), .int .i64 (dropE D n)]) ∧ St w w' p most (if dropE D n = 0 then rm D n else D) K ∧ Kept K w1 w' := by
  obtain ⟨⟨S, h1, h2⟩, h3, h4⟩ := h
  exact (drop_any S p most D n w1 h1 (fun b hb => (h2 b hb).2.1) hlen).mono fun e w' hr => ⟨hr.1, St.step h2 h3 h4 (hr.2.1.into fun b hb => .inl hb) hr.2.2⟩
theorem moveL (w w1 : World) (p : Nat) (most : Int) (D : List Wt) (n : Nm) (node : Int) (K : Nat → Prop) (h : St w w1 p most D K) (hlen : D.length ≤ 100000) :
    Calls Tryd.prog 15 #[.pointer (some ⟨p, 0, none⟩), .agg #[.int .u32 n.n, .int .u32 n.m, .int .u64 n.t, .int .u32 n.q], .int .u32 node] w1 fun e w' => e = .returned (.int .i64 (moveE D n node)) ∧ St w w' p most (if moveE D n node = 0 then moved D n node else D) K ∧ Kept K w1 w' := by
  obtain ⟨⟨S, h1, h2⟩, h3, h4⟩ := h
  exact (move_any S p most D n node w1 h1 (fun b hb => (h2 b hb).2.1) hlen).mono fun e w' hr => ⟨hr.1, St.step h2 h3 h4 hr.2.1 hr.2.2⟩
theorem firstL (w w1 : World) (p : Nat) (most node : Int) (D : List Wt) (K : Nat → Prop) (h : St w w1 p most D K) (hT : TabR w) (hlen : D.length ≤ 100000) :
    Calls Tryd.prog 11 #[.pointer (some ⟨p, 0, none⟩), .int .u32 node] w1 fun e w' => e = .returned (.tuple #[encWt (firstWE D node).1, .int .i64 (firstWE D node).2]) ∧ St w w' p most D K ∧ Kept K w1 w' := by
  have h' := h
  obtain ⟨⟨S, h1, h2⟩, h3, h4⟩ := h'
  exact (first_any S p most node D w1 h1 (fun b hb => (h2 b hb).2.1) (hT.on h4) hlen).mono fun e w' hr => ⟨hr.1, h.on hr.2⟩
theorem getL (w w1 : World) (p : Nat) (most : Int) (D : List Wt) (n : Nm) (K : Nat → Prop) (h : St w w1 p most D K) (hT : TabR w) (hlen : D.length ≤ 100000) :
    Calls Tryd.prog 13 #[.pointer (some ⟨p, 0, none⟩), .agg #[.int .u32 n.n, .int .u32 n.m, .int .u64 n.t, .int .u32 n.q]] w1 fun e w' => e = .returned (.tuple #[encWt (getWE D n).1, .int .i64 ((getWE D n).2.1 : Nat), .int .i64 (getWE D n).2.2]) ∧ St w w' p most D K ∧ Kept K w1 w' := by
  have h' := h
  obtain ⟨⟨S, h1, h2⟩, h3, h4⟩ := h'
  exact (get_any S p most D n w1 h1 (fun b hb => (h2 b hb).2.1) (hT.on h4) hlen).mono fun e w' hr => ⟨hr.1, h.on hr.2⟩
theorem allL (w w1 : World) (p : Nat) (most node : Int) (D : List Wt) (K : Nat → Prop) (h : St w w1 p most D K) (hT : TabR w) (hlen : D.length ≤ 100000) :
    Calls Tryd.prog 16 #[.pointer (some ⟨p, 0, none⟩), .int .u32 node] w1 fun e w' => ∃ v, e = .returned v ∧ WaysW w1 w' v (allOf D node) ∧ St w w' p most D K ∧ Kept K w1 w' := by
  have h' := h
  obtain ⟨⟨S, h1, h2⟩, h3, h4⟩ := h'
  exact (all_any S p most node D w1 h1 (fun b hb => (h2 b hb).2.1) (hT.on h4) hlen).mono fun e w' hr => by
    obtain ⟨v, e1, e2, e3⟩ := hr
    exact ⟨v, e1, e2, h.on e3⟩
theorem nodesL (w w1 : World) (p : Nat) (most : Int) (D : List Wt) (K : Nat → Prop) (h : St w w1 p most D K) (hs : SzOk D) (h0 : D ≠ []) (hlen : D.length ≤ 12) :
    Calls Tryd.prog 14 #[.pointer (some ⟨p, 0, none⟩)] w1 fun e w' => ∃ v, e = .returned v ∧ NodesW w1 w' v D ∧ St w w' p most D K ∧ Kept K w1 w' := by
  have h' := h
  obtain ⟨⟨S, h1, h2⟩, h3, h4⟩ := h'
  exact (nodes_any S p most D w1 h1 hs h0 hlen).mono fun e w' hr => by
    obtain ⟨v, e1, e2, e3⟩ := hr
    exact ⟨v, e1, e2, h.on e3⟩
theorem newL (most : Int) (w : World) (hm : inB 0 4096 most = true) :
    Calls Tryd.prog 5 #[.int .i64 most] w fun e w' => ∃ p, e = .returned (.tuple #[.pointer (some ⟨p, 0, none⟩), .int .i64 0]) ∧ St w w' p most [] (fun _ => False) :=
  (new_any most w).mono fun e w' hr => by
    obtain ⟨hb, ⟨_, p, rfl, hl⟩ | ⟨h, _⟩⟩ := hr
    · exact ⟨p, rfl, ⟨_, hl, fun b h => ⟨h.1, h.2, fun h => h⟩⟩, fun b h => h.elim, hb⟩
    · rw [hm] at h
      cases h

instance (D : List Wt) : Decidable (SzOk D) := by unfold SzOk; infer_instance
def x1 : Wt := ⟨nmL 1, 5, 0, 10⟩
def x2 : Wt := ⟨nmL 2, 5, 2, 20⟩
def x3 : Wt := ⟨nmL 3, 6, 0, 30⟩
def x4 : Wt := ⟨nmL 4, 5, 0, 10⟩

theorem nodes_nil (B4 B3 : Nat) (w : World) : (binOp BinOp.eql 48 (.func (.func 40) #[] #[.pointer (some ⟨B4, 0, none⟩), .pointer (some ⟨B3, 0, none⟩)]) Value.nilFunc).run Tryd.prog w = .ok (.bool false) w := by
  kernel_rfl
/-- Two neighbours, rising. -/
theorem two_nodes {ys : List Int} {lc : List (Int × Value)} (hn : (lc.map (·.1)).Nodup) (h : SumsOk lc [x1, x2, x3] fun _ => true) (hp : ys.Perm (lc.map (·.1))) (hr : RiseU ys) : ys = [5, 6] ∧ (lk lc 5).getD (.int .i64 0) = .int .i64 30 ∧ (lk lc 6).getD (.int .i64 0) = .int .i64 30 := by
  have h5 : lk lc 5 = some (.int .i64 30) := h 5
  have h6 : lk lc 6 = some (.int .i64 30) := h 6
  refine ⟨?_, by rw [h5]; rfl, by rw [h6]; rfl⟩
  have hy : ys.Nodup := hp.symm.nodup hn
  have hm : ∀ k, k ∈ ys ↔ (k = 5 ∨ k = 6) := fun k => by
    rw [hp.mem_iff]
    constructor
    · intro hk
      obtain ⟨q, hq, rfl⟩ := List.mem_map.1 hk
      have h1 := lk_of_mem hn hq
      rw [h q.1] at h1
      by_cases ha : anyN [x1, x2, x3] q.1 (fun _ => true) = true
      · obtain ⟨x, hx, hxx⟩ := List.any_eq_true.1 ha
        simp at hxx hx
        rcases hx with rfl | rfl | rfl
        · exact .inl hxx.symm
        · exact .inl hxx.symm
        · exact .inr hxx.symm
      · rw [if_neg ha] at h1
        cases h1
    · rintro (rfl | rfl)
      · exact List.mem_map.2 ⟨_, lk_mem h5, rfl⟩
      · exact List.mem_map.2 ⟨_, lk_mem h6, rfl⟩
  have hl : ys.length = 2 := by
    have e1 := len_sub (A := ys) (B := [5, 6]) hy fun a ha => by rcases (hm a).1 ha with rfl | rfl <;> simp
    have e2 := len_sub (A := [(5 : Int), 6]) (B := ys) (by simp) fun a ha => by simp at ha; exact (hm a).2 ha
    simp at e1 e2
    omega
  match ys, hl with
  | [a, b], _ =>
    have ha := (hm a).1 (by simp)
    have hb := (hm b).1 (by simp)
    have hle : a ≤ b := hr 0 1 (by omega) (by simp)
    have hne : a ≠ b := by
      intro e
      subst e
      simp at hy
    rcases ha with rfl | rfl <;> rcases hb with rfl | rfl
    · exact absurd rfl hne
    · rfl
    · omega
    · exact absurd rfl hne

def x5 : Wt := ⟨nmL 1, 6, 0, 10⟩
def sN (k : Nat) : ByteArray := if k = 0 then { data := #[] } else if k = 1 then { data := #[99] } else { data := #[99, 97] }
def hN (k : Nat) : Int := if k = 0 then 0 else if k = 1 then 530 else 530630

theorem conv_one (z : UInt8) (X : World) : (convert 54 9 (.slice (some ⟨X.heap.size, 0, none⟩) 1 1)).run Tryd.prog (X.alloc (.cells #[.int .u8 (z.toNat : Int)] 5)) = .ok (.string { data := #[z] }) (X.alloc (.cells #[.int .u8 (z.toNat : Int)] 5)) :=
  run_convert_bytes_back (P := Tryd.prog) (X.alloc (.cells #[.int .u8 (z.toNat : Int)] 5)) 54 9 5 ⟨X.heap.size, 0, none⟩ 1 [z] Tryd.underlying54 Tryd.underlying5 Tryd.underlying9 fun j hj => by
    obtain rfl : j = 0 := by
      have : j < 1 := hj
      omega
    exact (RowB.new X [.int .u8 (z.toNat : Int)] _).1 0 _ rfl

theorem cat0 (W : World) : (binOp BinOp.add 9 (.string { data := #[] }) (.string { data := #[99] })).run Tryd.prog W = .ok (.string { data := #[99] }) W := by
  kernel_rfl
theorem cat1 (W : World) : (binOp BinOp.add 9 (.string { data := #[99] }) (.string { data := #[97] })).run Tryd.prog W = .ok (.string { data := #[99, 97] }) W := by
  kernel_rfl

set_option maxHeartbeats 8000000 in
theorem works_any (w : World) (hT : TabR w) : Calls Tryd.prog 4 #[] w fun e w' => e = .returned (.bool true) ∧ Below w.heap.size w w' := by
  have HT := Lib.hid hT
  clear hT
  refine calls_of_marks Tryd.func4 rfl ?_
  simp only [Tryd.ntmps4, List.size_toArray, List.length_cons, List.length_nil, Nat.reduceAdd, Nat.reduceSub, Array.replicate_succ, Array.replicate_zero, List.push_toArray, List.append_toArray, List.nil_append, List.cons_append]
  go_wp2_with fail
  refine (newL 3 w rfl).mono ?_
  rintro e w1 ⟨p, rfl, hs⟩
  have H1 := Lib.hid hs
  clear hs
  go_wp2_with fail
  refine (named14_any 1 w1).mono ?_
  rintro e w2 ⟨rfl, hb⟩
  have H2 := Lib.hid (H1.out.on hb).1
  clear hb H1
  go_wp2_with fail
  refine (putL w w2 p 3 [] x1 _ H2.out (by decide)).mono ?_
  rintro e w3 ⟨rfl, hs, _⟩
  have H3 : Hid (St w w3 p 3 [x1] fun _ => False) := hs
  rw [show putE [] 3 x1 = 0 from rfl]
  clear hs H2
  go_wp2_with fail
  refine (named14_any 2 w3).mono ?_
  rintro e w4 ⟨rfl, hb⟩
  have H4 := Lib.hid (H3.out.on hb).1
  clear hb H3
  go_wp2_with fail
  refine (putL w w4 p 3 [x1] x2 _ H4.out (by decide)).mono ?_
  rintro e w5 ⟨rfl, hs, _⟩
  have H5 : Hid (St w w5 p 3 [x1, x2] fun _ => False) := hs
  rw [show putE [x1] 3 x2 = 0 from rfl]
  clear hs H4
  go_wp2_with fail
  refine (named14_any 3 w5).mono ?_
  rintro e w6 ⟨rfl, hb⟩
  have H6 := Lib.hid (H5.out.on hb).1
  clear hb H5
  go_wp2_with fail
  refine (putL w w6 p 3 [x1, x2] x3 _ H6.out (by decide)).mono ?_
  rintro e w7 ⟨rfl, hs, _⟩
  have H7 : Hid (St w w7 p 3 [x1, x2, x3] fun _ => False) := hs
  rw [show putE [x1, x2] 3 x3 = 0 from rfl]
  clear hs H6
  go_wp2_with fail
  refine (firstL w w7 p 3 5 [x1, x2, x3] _ H7.out HT.out (by decide)).mono ?_
  rintro e w8 ⟨rfl, hs, _⟩
  have H8 := Lib.hid hs
  rw [show firstWE [x1, x2, x3] 5 = (x2, 0) from rfl]
  clear hs H7
  unfold encWt
  go_wp2_with fail
  obtain ⟨b6, hb6⟩ : ∃ b, b = w8.heap.size := ⟨_, rfl⟩
  obtain ⟨W8, hW8⟩ : ∃ W, W = w8.alloc (.cells #[.int .u32 x2.nm.n, .int .u32 x2.nm.m, .int .u64 x2.nm.t, .int .u32 x2.nm.q, .int .u32 x2.node, .int .i64 x2.rank, .int .i64 x2.size] 30) := ⟨_, rfl⟩
  rw [← hW8, ← hb6]
  have HS8 : Hid (St w W8 p 3 [x1, x2, x3] (fun b => False ∨ b = b6)) := by rw [Hid, hW8, hb6]; exact (H8.out.box _).1
  have HR8 : Hid (RowB W8 b6 x2.cells) := by
    rw [Hid, hW8, hb6]
    exact RowB.new w8 x2.cells _
  clear hW8 hb6 H8
  refine (named14_any 1 W8).mono ?_
  rintro e w9 ⟨rfl, hb⟩
  have H9 := Lib.hid (HS8.out.on hb).1
  have HR9 : Hid (RowB w9 b6 x2.cells) := HR8.out.kept ((HS8.out.on hb).2 b6 (.inr rfl))
  clear hb HS8 HR8
  go_wp2_with fail
  refine (getL w w9 p 3 [x1, x2, x3] (nmL 1) _ H9.out HT.out (by decide)).mono ?_
  rintro e w10 ⟨rfl, hs, hk⟩
  have H10 := Lib.hid hs
  have HR10 : Hid (RowB w10 b6 x2.cells) := HR9.out.kept (hk b6 (.inr rfl))
  rw [show getWE [x1, x2, x3] (nmL 1) = (x1, 1, 0) from rfl]
  clear hs hk H9 HR9
  unfold encWt
  go_wp2_with fail
  obtain ⟨W10, hW10⟩ : ∃ W, W = w10.alloc (.cells #[.int .u32 x1.nm.n, .int .u32 x1.nm.m, .int .u64 x1.nm.t, .int .u32 x1.nm.q, .int .u32 x1.node, .int .i64 x1.rank, .int .i64 x1.size] 30) := ⟨_, rfl⟩
  rw [← hW10]
  have hb10 : Below w10.heap.size w10 W10 := by rw [hW10]; exact below_al (Below.refl _ _) _
  have H10b := Lib.hid (H10.out.on hb10).1
  have HR10b : Hid (RowB W10 b6 x2.cells) := HR10.out.kept ((H10.out.on hb10).2 b6 (.inr rfl))
  clear hW10 hb10 H10 HR10
  refine (named14_any 4 W10).mono ?_
  rintro e w11 ⟨rfl, hb⟩
  have H11 := Lib.hid (H10b.out.on hb).1
  have HR11 : Hid (RowB w11 b6 x2.cells) := HR10b.out.kept ((H10b.out.on hb).2 b6 (.inr rfl))
  clear hb H10b HR10b
  go_wp2_with fail
  refine (putL w w11 p 3 [x1, x2, x3] x4 _ H11.out (by decide)).mono ?_
  rintro e w12 ⟨rfl, hs, hk⟩
  have H12 : Hid (St w w12 p 3 [x1, x2, x3] fun b => False ∨ b = b6) := hs
  have HR12 : Hid (RowB w12 b6 x2.cells) := HR11.out.kept (hk b6 (.inr rfl))
  rw [show putE [x1, x2, x3] 3 x4 = 220 from rfl]
  clear hs hk H11 HR11
  go_wp2_with fail
  refine (named14_any 1 w12).mono ?_
  rintro e w13 ⟨rfl, hb⟩
  have H13 := Lib.hid (H12.out.on hb).1
  have HR13 : Hid (RowB w13 b6 x2.cells) := HR12.out.kept ((H12.out.on hb).2 b6 (.inr rfl))
  clear hb H12 HR12
  go_wp2_with fail
  refine (putL w w13 p 3 [x1, x2, x3] x1 _ H13.out (by decide)).mono ?_
  rintro e w14 ⟨rfl, hs, hk⟩
  have H14 : Hid (St w w14 p 3 [x1, x2, x3] fun b => False ∨ b = b6) := hs
  have HR14 : Hid (RowB w14 b6 x2.cells) := HR13.out.kept (hk b6 (.inr rfl))
  rw [show putE [x1, x2, x3] 3 x1 = 150 from rfl]
  clear hs hk H13 HR13
  go_wp2_with fail
  obtain ⟨bh, hbh⟩ : ∃ b, b = w14.heap.size := ⟨_, rfl⟩
  obtain ⟨W14, hW14⟩ : ∃ W, W = w14.alloc (.cells #[.int .i64 0] 3) := ⟨_, rfl⟩
  rw [← hW14]
  (try rw [← hbh])
  have HS14 : Hid (St w W14 p 3 [x1, x2, x3] (fun b => (False ∨ b = b6) ∨ b = bh)) := by rw [Hid, hW14, hbh]; exact (H14.out.box _).1
  have HR15 : Hid (RowB W14 b6 x2.cells ∧ RowB W14 bh [.int .i64 0]) := by
    rw [Hid, hW14, hbh]
    exact ⟨HR14.out.kept ((H14.out.box _).2 b6 (.inr rfl)), RowB.new w14 [.int .i64 0] _⟩
  have HWb : Hid (w.heap.size ≤ bh) := by rw [Hid, hbh]; exact H14.out.2.2.size
  clear hW14 hbh H14 HR14
  refine (nodesL w W14 p 3 [x1, x2, x3] _ HS14.out (by decide) (by simp) (by decide)).mono ?_
  rintro e w15 ⟨v, rfl, hnw, hs, hk⟩
  have H15 := Lib.hid hs
  have HR16 : Hid (RowB w15 b6 x2.cells ∧ RowB w15 bh [.int .i64 0]) := ⟨HR15.out.1.kept (hk b6 (.inl (.inr rfl))), HR15.out.2.kept (hk bh (.inr rfl))⟩
  obtain ⟨B4, B3, A, C, m, ys, lc, rfl, _⟩ := hnw
  have hfe := nodes_nil B4 B3
  clear hs hk HS14 HR15
  go_wp2_with fail
  clear hfe
  refine (nodesL w w15 p 3 [x1, x2, x3] _ H15.out (by decide) (by simp) (by decide)).mono ?_
  rintro e w16 ⟨v, rfl, hnw, hs, hk⟩
  have H16 := Lib.hid hs
  have HR17 : Hid (RowB w16 b6 x2.cells ∧ RowB w16 bh [.int .i64 0]) := ⟨HR16.out.1.kept (hk b6 (.inl (.inr rfl))), HR16.out.2.kept (hk bh (.inr rfl))⟩
  obtain ⟨B4, B3, A, C, m, ys, lc, rfl, n1, n2, n3, n4, n5, n6, n7, n8, n9, n10, n11⟩ := hnw
  obtain ⟨rfl, v5, v6⟩ := two_nodes n3.nodup n4 n6 n7
  have HN : Hid (w16.cell? ⟨B4, 0, none⟩ = some (.slice A 2 C) ∧ w16.cell? ⟨B3, 0, none⟩ = some (.map (some m)) ∧ KMap encU w16 m lc ∧ RdK w16 A (flatU [5, 6]) ∧ (w15.heap.size ≤ B4 ∧ B4 < w16.heap.size) ∧ (w15.heap.size ≤ B3 ∧ B3 < w16.heap.size) ∧ w15.heap.size ≤ m ∧ (∀ q, A = some q → w15.heap.size ≤ q.block ∧ q.block < w16.heap.size) ∧ (lk lc 5).getD (.int .i64 0) = .int .i64 30 ∧ (lk lc 6).getD (.int .i64 0) = .int .i64 30) := ⟨n1, n2, n3, n5, n8, n9, n10, n11, v5, v6⟩
  have HBh : Hid (bh < w15.heap.size ∧ b6 < w15.heap.size ∧ b6 ≠ bh) := by
    refine ⟨HR16.out.2.lt, HR16.out.1.lt, ?_⟩
    rintro rfl
    have e1 := HR16.out.1.1 0 _ rfl
    have e2 := HR16.out.2.1 0 _ rfl
    rw [e1] at e2
    cases e2
  clear hs hk H15 HR16 n1 n2 n3 n4 n5 n6 n7 n8 n9 n10 n11 v5 v6
  go_wp2_with fail
  have hIo : OwnFrom w16.heap.size (fun (k : Nat) X => RowB X bh [.int .i64 (hN k)] ∧ ButS w16.heap.size (fun b => b = bh) w16 X) :=
    OwnFrom.and (fun s W W' row h hg hr => h.kept (hg.block _ h.lt fun e => by have := (hr _ e.symm).1; have := HBh.out.1; have := HN.out.2.2.2.2.1; omega)) (fun s W W' row h hg hr => ButS.grown h h.size hg (fun r e => .inr (hr r e).1))
  have hsb : ∀ b, (b = B3 ∨ b = m ∨ ∃ q, A = some q ∧ b = q.block) → b < w16.heap.size ∧ w15.heap.size ≤ b := by
    obtain ⟨n1, n2, n3, n5, n8, n9, n10, n11, v5, v6⟩ := HN.out
    rintro b (rfl | rfl | ⟨q, hq, rfl⟩)
    · exact ⟨n9.2, n9.1⟩
    · exact ⟨n3.lt, n10⟩
    · exact ⟨(n11 q hq).2, (n11 q hq).1⟩
  refine wp_rangeGoesO_at2 14 15 (fun k => .int .u32 (atU [5, 6] k)) (fun k => (lk lc (atU [5, 6] k)).getD (.int .i64 0)) (gf := 40) (lb := #[.pointer (some ⟨B4, 0, none⟩), .pointer (some ⟨B3, 0, none⟩)]) rfl (enters_of Tryd.func40 (by kernel_rfl) rfl)
    (nodes1_goes B4 B3 m (fun b => b = B3 ∨ b = m ∨ ∃ q, A = some q ∧ b = q.block) A C [5, 6] lc w16 (by decide) HN.out.2.2.2.2.1.2 (fun q hq => .inr (.inr ⟨q, hq, rfl⟩)) (.inl rfl) (.inr (.inl rfl)) (fun b hb => (hsb b hb).1) HN.out.1 HN.out.2.1 HN.out.2.2.1 HN.out.2.2.2.1) (fun b hb => (hsb b hb).1)
    (fun k X => RowB X bh [.int .i64 (hN k)] ∧ ButS w16.heap.size (fun b => b = bh) w16 X) (fun _ _ _ => False) hIo (fun _ _ _ _ _ h _ _ => h.elim) ⟨HR17.out.2, ButS.refl _ _ _⟩ ?assign ?body ?done ?stop
  case assign =>
    intro ll k X K hK
    simp only [List.setIfInBounds_toArray, List.set_cons_succ, List.set_cons_zero] at hK ⊢
    have HK := Lib.hid hK
    clear hK
    gi_wp2
    exact HK.out
  case body =>
    rintro ll k X hk hl _ ⟨h1, h2⟩
    simp only [List.setIfInBounds_toArray, List.set_cons_succ, List.set_cons_zero]
    have HX := Lib.hid (And.intro h1 h2)
    have u0 := h1.1 0 _ rfl
    have g0 := h1.2 0
    have hv5 := HN.out.2.2.2.2.2.2.2.2.1
    have hv6 := HN.out.2.2.2.2.2.2.2.2.2
    have hk2 : k < 2 := hk
    have HE : Hid (∀ z : Int, hN (k + 1) = z → KeepsFrom w16.heap.size X (X.setCell ⟨bh, 0, none⟩ (.int .i64 z)) ∧ KeepB (SinceB (fun b => b = B3 ∨ b = m ∨ ∃ q, A = some q ∧ b = q.block) (w16.heap.size + 2) X) X (X.setCell ⟨bh, 0, none⟩ (.int .i64 z)) ∧ RowB (X.setCell ⟨bh, 0, none⟩ (.int .i64 z)) bh [.int .i64 (hN (k + 1))] ∧ ButS w16.heap.size (fun b => b = bh) w16 (X.setCell ⟨bh, 0, none⟩ (.int .i64 z))) := by
      rintro z rfl
      have hb1 := HBh.out.1
      have hb2 := HN.out.2.2.2.2.1
      refine ⟨⟨by rw [World.size_setCell]; exact Nat.le_refl _, fun b o hb ho _ => (Below.heap_setCell _ _ _ _ (by show b ≠ bh; omega)).trans ho⟩, fun b hb => Below.heap_setCell _ _ _ _ ?_, HX.out.1.set 0 _, HX.out.2.set (.inl rfl) _ _⟩
      show b ≠ bh
      rcases hb with hb | hb
      · have := (hsb b hb).2
        omega
      · have := hb.1
        omega
    clear h1 h2
    rcases (by omega : k = 0 ∨ k = 1) with rfl | rfl
    · simp only [show atU [5, 6] 0 = 5 from rfl, hv5]
      rw [show hN 0 = 0 from rfl] at u0
      gi_wp2
      exact HE.out 530 rfl
    · simp only [show atU [5, 6] 1 = 6 from rfl, hv6]
      rw [show hN 1 = 530 from rfl] at u0
      gi_wp2
      exact HE.out 530630 rfl
  case stop =>
    rintro D9 c k X hD hk h hK
    exact h.elim
  case done =>
    rintro D9 X hD ⟨h1, h2⟩ hK
    have HD1 : Hid (w16.heap.size ≤ D9 ∧ X.heap[D9]? = some (.deferred (some []))) := ⟨hD, hK⟩
    have HR18 : Hid (RowB X b6 x2.cells ∧ RowB X bh [.int .i64 530630]) := ⟨HR17.out.1.kept (h2.block b6 (by have := HBh.out; have := HN.out.2.2.2.2.1; omega) HBh.out.2.2), h1⟩
    have hdl := (Array.getElem?_eq_some_iff.1 hK).1
    have H18 : Hid (St w X p 3 [x1, x2, x3] fun b => ((False ∨ b = b6) ∨ b = bh) ∨ b = D9) := H16.out.turnD h2 (fun b hb => ⟨.inr hb, by rw [hb]; exact HWb.out⟩) hD hdl
    have HD2 : Hid (bh < D9 ∧ b6 < D9 ∧ w.heap.size ≤ D9) := ⟨by have := HBh.out; have := HN.out.2.2.2.2.1; omega, by have := HBh.out; have := HN.out.2.2.2.2.1; omega, by have := HWb.out; have := HBh.out; have := HN.out.2.2.2.2.1; omega⟩
    have HK18 : Hid (X.heap[D9]? = some (.deferred (some []))) := hK
    clear hdl
    clear h1 h2 hD hK hIo hsb H16 HR17 HN
    go_wp2_with fail
    refine (named14_any 1 X).mono ?_
    rintro e w19 ⟨rfl, hb⟩
    have HK19 : Hid (w19.heap[D9]? = some (.deferred (some []))) := ((H18.out.on hb).2 D9 (.inr rfl)).trans HK18.out
    have H19 := Lib.hid (H18.out.on hb).1
    have HR19 : Hid (RowB w19 b6 x2.cells ∧ RowB w19 bh [.int .i64 530630]) := ⟨HR18.out.1.on hb HR18.out.1.lt, HR18.out.2.on hb HR18.out.2.lt⟩
    clear hb H18 HR18 HK18
    go_wp2_with fail
    refine (moveL w w19 p 3 [x1, x2, x3] (nmL 1) 6 _ H19.out (by decide)).mono ?_
    rintro e w20 ⟨rfl, hs, hk⟩
    have H20 : Hid (St w w20 p 3 [x2, x3, x5] fun b => ((False ∨ b = b6) ∨ b = bh) ∨ b = D9) := hs
    have HR20 : Hid (RowB w20 b6 x2.cells ∧ RowB w20 bh [.int .i64 530630]) := ⟨HR19.out.1.kept (hk b6 (.inl (.inl (.inr rfl)))), HR19.out.2.kept (hk bh (.inl (.inr rfl)))⟩
    have HK20 : Hid (w20.heap[D9]? = some (.deferred (some []))) := (hk D9 (.inr rfl)).trans HK19.out
    rw [show moveE [x1, x2, x3] (nmL 1) 6 = 0 from rfl]
    clear hs hk H19 HR19 HK19
    go_wp2_with fail
    obtain ⟨bs, hbs⟩ : ∃ b, b = w20.heap.size := ⟨_, rfl⟩
    obtain ⟨W20, hW20⟩ : ∃ W, W = w20.alloc (.cells #[.string { data := #[] }] 9) := ⟨_, rfl⟩
    rw [← hW20]
    (try rw [← hbs])
    have HS20 : Hid (St w W20 p 3 [x2, x3, x5] (fun b => (((False ∨ b = b6) ∨ b = bh) ∨ b = D9) ∨ b = bs)) := by rw [Hid, hW20, hbs]; exact (H20.out.box _).1
    have HR21 : Hid (RowB W20 b6 x2.cells ∧ RowB W20 bh [.int .i64 530630] ∧ RowB W20 bs [.string { data := #[] }]) := by
      rw [Hid, hW20, hbs]
      have hk := (H20.out.box (.cells #[.string { data := #[] }] 9)).2
      exact ⟨HR20.out.1.kept (hk b6 (.inl (.inl (.inr rfl)))), HR20.out.2.kept (hk bh (.inl (.inr rfl))), RowB.new w20 [.string { data := #[] }] _⟩
    have HK21 : Hid (W20.heap[D9]? = some (.deferred (some []))) := by
      rw [Hid, hW20]
      exact ((H20.out.box _).2 D9 (.inr rfl)).trans HK20.out
    have HD3 : Hid (D9 < bs ∧ bs < W20.heap.size) := by
      rw [Hid, hW20, hbs]
      exact ⟨(Array.getElem?_eq_some_iff.1 HK20.out).1, by simp⟩
    clear hW20 hbs H20 HR20 HK20
    refine (allL w W20 p 3 6 [x2, x3, x5] _ HS20.out HT.out (by simp)).mono ?_
    rintro e w21 ⟨v, rfl, hww, hs, hk⟩
    have H21 := Lib.hid hs
    have HR22 : Hid (RowB w21 b6 x2.cells ∧ RowB w21 bh [.int .i64 530630] ∧ RowB w21 bs [.string (sN 0)]) := ⟨HR21.out.1.kept (hk b6 (.inl (.inl (.inl (.inr rfl))))), HR21.out.2.1.kept (hk bh (.inl (.inl (.inr rfl)))), HR21.out.2.2.kept (hk bs (.inr rfl))⟩
    have HK22 : Hid (w21.heap[D9]? = some (.deferred (some []))) := (hk D9 (.inl (.inr rfl))).trans HK21.out
    have HZ21 : Hid (W20.heap.size ≤ w21.heap.size) := by
      obtain ⟨Bs, A, C, _, _, _, n3, n4, _⟩ := hww
      rw [Hid]
      omega
    obtain ⟨Bs, A, C, rfl, n1, n2, n3, n4, n5⟩ := hww
    have HN : Hid (w21.cell? ⟨Bs, 0, none⟩ = some (.slice A 2 C) ∧ RdK w21 A (flatWt [x3, x5]) ∧ W20.heap.size ≤ Bs ∧ Bs < w21.heap.size ∧ ∀ q, A = some q → W20.heap.size ≤ q.block ∧ q.block < w21.heap.size) := ⟨n1, n2, n3, n4, n5⟩
    clear hs hk HS20 HR21 HK21 n1 n2 n3 n4 n5
    go_wp2_with fail
    have hIo : OwnFrom w21.heap.size (fun (k : Nat) X => RowB X bs [.string (sN k)] ∧ ButS w21.heap.size (fun b => b = bs) w21 X) :=
      OwnFrom.and (fun s W W' row h hg hr => h.kept (hg.block _ h.lt fun e => by have := (hr _ e.symm).1; have := HD3.out.2; have := HN.out.2.2.1; have := HN.out.2.2.2.1; omega)) (fun s W W' row h hg hr => ButS.grown h h.size hg (fun r e => .inr (hr r e).1))
    have hsb : ∀ b, (∃ q, A = some q ∧ b = q.block) → b < w21.heap.size ∧ W20.heap.size ≤ b := by
      rintro b ⟨q, hq, rfl⟩
      exact ⟨(HN.out.2.2.2.2 q hq).2, (HN.out.2.2.2.2 q hq).1⟩
    refine wp_rangeGoesO_brkB (gf := 67) (lb := #[.pointer (some ⟨Bs, 0, none⟩)]) 18 (fun k => encWt (atW [x3, x5] k)) rfl ent_wvalues1
      (wvalues_goes Bs (fun b => ∃ q, A = some q ∧ b = q.block) A C [x3, x5] w21 (by decide) HN.out.2.2.2.1 (fun q hq => ⟨q, hq, rfl⟩) (fun b hb => (hsb b hb).1) HN.out.1 HN.out.2.1) (fun b hb => (hsb b hb).1)
      (fun k X => RowB X bs [.string (sN k)] ∧ ButS w21.heap.size (fun b => b = bs) w21 X) (fun X => RowB X bs [.string (sN 2)] ∧ ButS w21.heap.size (fun b => b = bs) w21 X) 2 (fun k bx X => RowB X bx (atW [x3, x5] k).cells) hIo (fun _ X Y row hs hg hr => hIo 2 X Y row hs hg hr) (fun k bx X Y row hs hg hr => hs.ownk hg (fun r e => (hr r e).2)) ⟨HR22.out.2.2, ButS.refl _ _ _⟩ ?assign ?body (fun X h => h) (fun a X h => wp_exit (by simpa only [Exit.inBlock, if_true, ite_true, beq_self_eq_true] using h)) ?after
    case assign =>
      intro ll k X K hk hI hK
      simp only [List.setIfInBounds_toArray, List.set_cons_succ, List.set_cons_zero] at hK ⊢
      have HK := Lib.hid hK
      have HI := Lib.hid hI
      obtain ⟨y, hy⟩ : ∃ y, y = atW [x3, x5] k := ⟨_, rfl⟩
      rw [← hy] at HK ⊢
      unfold encWt at HK ⊢
      clear hK hI hy
      gi_wp2
      refine HK.out _ _ ((KeepsOthers.alloc _ _).from _) (fun b hb => ?_) (hIo.alloc (s := k) _ HI.out) (RowB.new X y.cells _)
      refine Below.heap_alloc X _ b ?_
      rcases hb with hb | hb
      · have := (hsb b hb).1
        have := HI.out.2.size
        omega
      · exact hb.2
    case body =>
      rintro ll k bx X hk hl _ ⟨h1, h2⟩ hr
      simp only [List.setIfInBounds_toArray, List.set_cons_succ, List.set_cons_zero]
      have HX := Lib.hid (And.intro h1 h2)
      have HBx := Lib.hid hr
      have u0 := h1.1 0 _ rfl
      have g0 := h1.2 0
      have hk2 : k < 2 := hk
      have HE : Hid (∀ (o : Obj) (z : ByteArray), sN (k + 1) = z → KeepsFrom w21.heap.size X ((X.alloc o).setCell ⟨bs, 0, none⟩ (.string z)) ∧ KeepB (SinceB (fun b => ∃ q, A = some q ∧ b = q.block) (w21.heap.size + 2) X) X ((X.alloc o).setCell ⟨bs, 0, none⟩ (.string z)) ∧ RowB ((X.alloc o).setCell ⟨bs, 0, none⟩ (.string z)) bs [.string (sN (k + 1))] ∧ ButS w21.heap.size (fun b => b = bs) w21 ((X.alloc o).setCell ⟨bs, 0, none⟩ (.string z))) := by
        rintro o z rfl
        have hd := HD3.out
        have hn := HN.out
        have hxs := HX.out.2.size
        refine ⟨⟨by rw [World.size_setCell, World.size_alloc]; omega, fun b o' hb ho _ => (Below.heap_setCell _ _ _ _ (by show b ≠ bs; omega)).trans ((Below.heap_alloc X _ b (Array.getElem?_eq_some_iff.1 ho).1).trans ho)⟩, fun b hb => (Below.heap_setCell _ _ _ _ ?_).trans (Below.heap_alloc X _ b ?_), (HX.out.1.on (below_al (Below.refl _ _) o) HX.out.1.lt).set 0 _, (ButS.alloc HX.out.2 hxs o).set (.inl rfl) _ _⟩
        · show b ≠ bs
          rcases hb with hb | hb
          · have := (hsb b hb).2
            omega
          · have := hb.1
            omega
        · rcases hb with hb | hb
          · have := (hsb b hb).1
            omega
          · exact hb.2
      clear h1 h2
      rcases (by omega : k = 0 ∨ k = 1) with rfl | rfl
      · have z3 : X.cell? ⟨bx, 3, none⟩ = some (.int .u32 3) := hr.1 3 _ rfl
        have hcv : (convert 54 9 (.slice (some ⟨X.heap.size, 0, none⟩) 1 1)).run Tryd.prog (X.alloc (.cells #[.int .u8 99] 5)) = .ok (.string { data := #[99] }) (X.alloc (.cells #[.int .u8 99] 5)) := conv_one 99 X
        have hct := cat0
        have hYr := HX.out.1.on (below_al (Below.refl X.heap.size X) (.cells #[.int .u8 99] 5)) HX.out.1.lt
        have y0 := hYr.1 0 _ rfl
        have yg := hYr.2 0
        clear hYr
        rw [show sN 0 = { data := #[] } from rfl] at u0 y0
        clear hr
        gi_wp2
        exact HE.out _ { data := #[99] } rfl
      · have z3 : X.cell? ⟨bx, 3, none⟩ = some (.int .u32 1) := hr.1 3 _ rfl
        have hcv : (convert 54 9 (.slice (some ⟨X.heap.size, 0, none⟩) 1 1)).run Tryd.prog (X.alloc (.cells #[.int .u8 97] 5)) = .ok (.string { data := #[97] }) (X.alloc (.cells #[.int .u8 97] 5)) := conv_one 97 X
        have hct := cat1
        have hYr := HX.out.1.on (below_al (Below.refl X.heap.size X) (.cells #[.int .u8 97] 5)) HX.out.1.lt
        have y0 := hYr.1 0 _ rfl
        have yg := hYr.2 0
        clear hYr
        rw [show sN 1 = { data := #[99] } from rfl] at u0 y0
        clear hr
        gi_wp2
        exact HE.out _ { data := #[99, 97] } rfl
    case after =>
      rintro E9 X hE ⟨h1, h2⟩ hK
      have hE' := (Array.getElem?_eq_some_iff.1 hK).1
      have HR23 : Hid (RowB X b6 x2.cells ∧ RowB X bh [.int .i64 530630] ∧ RowB X bs [.string { data := #[99, 97] }]) := by
        have hd2 := HD2.out
        have hd3 := HD3.out
        exact ⟨HR22.out.1.kept (h2.block b6 HR22.out.1.lt (by omega)), HR22.out.2.1.kept (h2.block bh HR22.out.2.1.lt (by omega)), h1⟩
      have HK23 : Hid (X.heap[D9]? = some (.deferred (some [])) ∧ X.heap[E9]? = some (.deferred (some []))) := ⟨(h2.block D9 (Array.getElem?_eq_some_iff.1 HK22.out).1 (by have := HD3.out; omega)).trans HK22.out, hK⟩
      have H23 := Lib.hid (H21.out.turnD (d := E9) h2 (fun b hb => ⟨.inr hb, by rw [hb]; have := HD2.out; have := HD3.out; omega⟩) hE hE')
      have HE9 : Hid (w21.heap.size ≤ E9) := hE
      clear h1 h2 hE hE' hK hIo hsb HN H21 HR22 HK22
      go_wp2_with fail
      refine (named14_any 4 X).mono ?_
      rintro e w24 ⟨rfl, hb⟩
      have H24 := Lib.hid (H23.out.on hb).1
      have HK24 : Hid (RowB w24 b6 x2.cells ∧ RowB w24 bh [.int .i64 530630] ∧ RowB w24 bs [.string { data := #[99, 97] }] ∧ w24.heap[D9]? = some (.deferred (some [])) ∧ w24.heap[E9]? = some (.deferred (some []))) := by
        have k := (H23.out.on hb).2
        exact ⟨HR23.out.1.kept (k b6 (.inl (.inl (.inl (.inl (.inr rfl)))))), HR23.out.2.1.kept (k bh (.inl (.inl (.inl (.inr rfl))))), HR23.out.2.2.kept (k bs (.inl (.inr rfl))), (k D9 (.inl (.inl (.inr rfl)))).trans HK23.out.1, (k E9 (.inr rfl)).trans HK23.out.2⟩
      clear hb H23 HR23 HK23
      go_wp2_with fail
      refine (dropL w w24 p 3 [x2, x3, x5] (nmL 4) _ H24.out (by simp)).mono ?_
      rintro e w25 ⟨rfl, hs, k⟩
      have H25 := Lib.hid hs
      have HK25 : Hid (RowB w25 b6 x2.cells ∧ RowB w25 bh [.int .i64 530630] ∧ RowB w25 bs [.string { data := #[99, 97] }] ∧ w25.heap[D9]? = some (.deferred (some [])) ∧ w25.heap[E9]? = some (.deferred (some []))) := by
        obtain ⟨a, b, c, d, e⟩ := HK24.out
        exact ⟨a.kept (k b6 (.inl (.inl (.inl (.inl (.inr rfl)))))), b.kept (k bh (.inl (.inl (.inl (.inr rfl))))), c.kept (k bs (.inl (.inr rfl))), (k D9 (.inl (.inl (.inr rfl)))).trans d, (k E9 (.inr rfl)).trans e⟩
      rw [show dropE [x2, x3, x5] (nmL 4) = 5 from rfl]
      rw [if_neg (by decide)]
      clear hs k H24 HK24
      unfold encWt
      go_upto_region 22 with fail
      obtain ⟨Wd, hWd⟩ : ∃ W, W = (w25.alloc (.cells #[.int .u32 wtZ.nm.n, .int .u32 wtZ.nm.m, .int .u64 wtZ.nm.t, .int .u32 wtZ.nm.q, .int .u32 wtZ.node, .int .i64 wtZ.rank, .int .i64 wtZ.size] 30)).drew := ⟨_, rfl⟩
      have HWd := Lib.hid hWd
      have HBd : Hid (Below w25.heap.size w25 Wd) := by rw [Hid, hWd]; exact (below_al (Below.refl _ _) _).drew
      have HXa : Hid (∀ X, Below Wd.heap.size Wd X → ((X.cell? ⟨b6, 0, none⟩ = some (.int .u32 (nmL 2).n) ∧ X.cell? ⟨b6, 1, none⟩ = some (.int .u32 (nmL 2).m) ∧ X.cell? ⟨b6, 2, none⟩ = some (.int .u64 (nmL 2).t) ∧ X.cell? ⟨b6, 3, none⟩ = some (.int .u32 (nmL 2).q)) ∧ X.cell? ⟨bh, 0, none⟩ = some (.int .i64 530630) ∧ X.cell? ⟨bs, 0, none⟩ = some (.string { data := #[99, 97] }))) := fun X hb => by
        have hb' := HBd.out.trans (hb.mono HBd.out.size)
        have r1 := HK25.out.1.on hb' HK25.out.1.lt
        have r2 := HK25.out.2.1.on hb' HK25.out.2.1.lt
        have r3 := HK25.out.2.2.1.on hb' HK25.out.2.2.1.lt
        exact ⟨⟨r1.1 0 _ rfl, r1.1 1 _ rfl, r1.1 2 _ rfl, r1.1 3 _ rfl⟩, r2.1 0 _ rfl, r3.1 0 _ rfl⟩
      have heq2 := nmEq_bin (nmL 2) (nmL 2)
      rw [decide_eq_true rfl] at heq2
      clear hWd
      refine wp_onlyN ?_
      refine wp_region_T (fun X => ((X.cell? ⟨b6, 0, none⟩ = some (.int .u32 (nmL 2).n) ∧ X.cell? ⟨b6, 1, none⟩ = some (.int .u32 (nmL 2).m) ∧ X.cell? ⟨b6, 2, none⟩ = some (.int .u64 (nmL 2).t) ∧ X.cell? ⟨b6, 3, none⟩ = some (.int .u32 (nmL 2).q)) ∧ X.cell? ⟨bh, 0, none⟩ = some (.int .i64 530630) ∧ X.cell? ⟨bs, 0, none⟩ = some (.string { data := #[99, 97] }))) 55 (by kernel_rfl) ?_
      rw [← HWd.out]
      refine wpAnyT_take (i := 0) (v := ?_) rfl (by kernel_rfl) (by kernel_rfl) (by kernel_rfl) (by kernel_rfl) (fun _ _ _ h => h) (Or.inl ⟨by rfl, ?_⟩) (HXa.out _ (Below.refl _ _)) ?_
      rotate_left
      · intro w hSw
        (try dsimp only at hSw)
        go_simp
        all_goals with_reducible rfl
      simp only [Act.put, List.setIfInBounds_toArray, List.set_cons_zero, List.set_cons_succ]
      refine wpAnyT_take (i := 2) (v := ?_) rfl (by kernel_rfl) (by kernel_rfl) (by kernel_rfl) (by kernel_rfl) (fun _ _ _ h => h) (Or.inl ⟨by rfl, ?_⟩) (HXa.out _ (Below.refl _ _)) ?_
      rotate_left
      · intro w hSw
        (try dsimp only at hSw)
        go_simp
        all_goals with_reducible rfl
      simp only [Act.put, List.setIfInBounds_toArray, List.set_cons_zero, List.set_cons_succ]
      refine wpAnyT_take (i := 5) (v := ?_) rfl (by kernel_rfl) (by kernel_rfl) (by kernel_rfl) (by kernel_rfl) (fun _ _ _ h => h) (Or.inl ⟨by rfl, ?_⟩) (HXa.out _ (Below.refl _ _)) ?_
      rotate_left
      · intro w hSw
        (try dsimp only at hSw)
        go_simp
        all_goals with_reducible rfl
      simp only [Act.put, List.setIfInBounds_toArray, List.set_cons_zero, List.set_cons_succ]
      refine wpAnyT_take (i := 8) (v := ?_) rfl (by kernel_rfl) (by kernel_rfl) (by kernel_rfl) (by kernel_rfl) (fun _ _ _ h => h) (Or.inl ⟨by rfl, ?_⟩) (HXa.out _ (Below.refl _ _)) ?_
      rotate_left
      · intro w hSw
        (try dsimp only at hSw)
        go_simp
        all_goals with_reducible rfl
      simp only [Act.put, List.setIfInBounds_toArray, List.set_cons_zero, List.set_cons_succ]
      refine wpAnyT_take (i := 11) (v := ?_) rfl (by kernel_rfl) (by kernel_rfl) (by kernel_rfl) (by kernel_rfl) (fun _ _ _ h => h) (Or.inl ⟨by rfl, ?_⟩) (HXa.out _ (Below.refl _ _)) ?_
      rotate_left
      · intro w hSw
        (try dsimp only at hSw)
        go_simp
        all_goals with_reducible rfl
      simp only [Act.put, List.setIfInBounds_toArray, List.set_cons_zero, List.set_cons_succ]
      refine wpAnyT_take (i := 14) (v := ?_) rfl (by kernel_rfl) (by kernel_rfl) (by kernel_rfl) (by kernel_rfl) (fun _ _ _ h => h) (Or.inl ⟨by rfl, ?_⟩) (HXa.out _ (Below.refl _ _)) ?_
      rotate_left
      · intro w hSw
        (try dsimp only at hSw)
        go_simp
        all_goals with_reducible rfl
      simp only [Act.put, List.setIfInBounds_toArray, List.set_cons_zero, List.set_cons_succ]
      refine wpAnyT_take (i := 17) (v := ?_) rfl (by kernel_rfl) (by kernel_rfl) (by kernel_rfl) (by kernel_rfl) (fun _ _ _ h => h) (Or.inl ⟨by rfl, ?_⟩) (HXa.out _ (Below.refl _ _)) ?_
      rotate_left
      · intro w hSw
        (try dsimp only at hSw)
        go_simp
        all_goals with_reducible rfl
      simp only [Act.put, List.setIfInBounds_toArray, List.set_cons_zero, List.set_cons_succ]
      refine wpAnyT_one (i := 1) (by kernel_rfl) rfl (fun K hK => ?_)
      go_simp
      refine (num_any _ Wd).mono ?_
      rintro e wq ⟨rfl, hwq⟩
      rw [hwq]
      clear hwq wq
      refine hK.out _ _ (fun _ => (HXa.out _ (Below.refl _ _))) ?_
      clear hK K
      try simp only [Act.put, List.setIfInBounds_toArray, List.set_cons_zero, List.set_cons_succ]
      refine wpAnyT_one (i := 3) (by kernel_rfl) rfl (fun K hK => ?_)
      go_simp
      refine (num_any _ Wd).mono ?_
      rintro e wq ⟨rfl, hwq⟩
      rw [hwq]
      clear hwq wq
      refine hK.out _ _ (fun _ => (HXa.out _ (Below.refl _ _))) ?_
      clear hK K
      try simp only [Act.put, List.setIfInBounds_toArray, List.set_cons_zero, List.set_cons_succ]
      refine wpAnyT_take (i := 4) (v := ?_) rfl (by kernel_rfl) (by kernel_rfl) (by kernel_rfl) (by kernel_rfl) (fun _ _ _ h => h) (Or.inl ⟨by rfl, ?_⟩) (HXa.out _ (Below.refl _ _)) ?_
      rotate_left
      · intro w hSw
        (try dsimp only at hSw)
        go_simp
        all_goals with_reducible rfl
      simp only [Act.put, List.setIfInBounds_toArray, List.set_cons_zero, List.set_cons_succ]
      refine wpAnyT_one (i := 6) (by kernel_rfl) rfl (fun K hK => ?_)
      go_simp
      refine (num_any _ Wd).mono ?_
      rintro e wq ⟨rfl, hwq⟩
      rw [hwq]
      clear hwq wq
      refine hK.out _ _ (fun _ => (HXa.out _ (Below.refl _ _))) ?_
      clear hK K
      try simp only [Act.put, List.setIfInBounds_toArray, List.set_cons_zero, List.set_cons_succ]
      refine wpAnyT_take (i := 7) (v := ?_) rfl (by kernel_rfl) (by kernel_rfl) (by kernel_rfl) (by kernel_rfl) (fun _ _ _ h => h) (Or.inl ⟨by rfl, ?_⟩) (HXa.out _ (Below.refl _ _)) ?_
      rotate_left
      · intro w hSw
        (try dsimp only at hSw)
        go_simp
        all_goals with_reducible rfl
      simp only [Act.put, List.setIfInBounds_toArray, List.set_cons_zero, List.set_cons_succ]
      refine wpAnyT_one (i := 9) (by kernel_rfl) rfl (fun K hK => ?_)
      go_simp
      refine (num_any _ Wd).mono ?_
      rintro e wq ⟨rfl, hwq⟩
      rw [hwq]
      clear hwq wq
      refine hK.out _ _ (fun _ => (HXa.out _ (Below.refl _ _))) ?_
      clear hK K
      try simp only [Act.put, List.setIfInBounds_toArray, List.set_cons_zero, List.set_cons_succ]
      refine wpAnyT_take (i := 10) (v := ?_) rfl (by kernel_rfl) (by kernel_rfl) (by kernel_rfl) (by kernel_rfl) (fun _ _ _ h => h) (Or.inl ⟨by rfl, ?_⟩) (HXa.out _ (Below.refl _ _)) ?_
      rotate_left
      · intro w hSw
        (try dsimp only at hSw)
        go_simp
        all_goals with_reducible rfl
      simp only [Act.put, List.setIfInBounds_toArray, List.set_cons_zero, List.set_cons_succ]
      refine wpAnyT_one (i := 12) (by kernel_rfl) rfl (fun K hK => ?_)
      go_simp
      refine (num_any _ Wd).mono ?_
      rintro e wq ⟨rfl, hwq⟩
      rw [hwq]
      clear hwq wq
      refine hK.out _ _ (fun _ => (HXa.out _ (Below.refl _ _))) ?_
      clear hK K
      try simp only [Act.put, List.setIfInBounds_toArray, List.set_cons_zero, List.set_cons_succ]
      refine wpAnyT_take (i := 13) (v := ?_) rfl (by kernel_rfl) (by kernel_rfl) (by kernel_rfl) (by kernel_rfl) (fun _ _ _ h => h) (Or.inl ⟨by rfl, ?_⟩) (HXa.out _ (Below.refl _ _)) ?_
      rotate_left
      · intro w hSw
        (try dsimp only at hSw)
        go_simp
        all_goals with_reducible rfl
      simp only [Act.put, List.setIfInBounds_toArray, List.set_cons_zero, List.set_cons_succ]
      refine wpAnyT_one (i := 15) (by kernel_rfl) rfl (fun K hK => ?_)
      go_simp
      refine (num_any _ Wd).mono ?_
      rintro e wq ⟨rfl, hwq⟩
      rw [hwq]
      clear hwq wq
      refine hK.out _ _ (fun _ => (HXa.out _ (Below.refl _ _))) ?_
      clear hK K
      try simp only [Act.put, List.setIfInBounds_toArray, List.set_cons_zero, List.set_cons_succ]
      refine wpAnyT_take (i := 16) (v := ?_) rfl (by kernel_rfl) (by kernel_rfl) (by kernel_rfl) (by kernel_rfl) (fun _ _ _ h => h) (Or.inl ⟨by rfl, ?_⟩) (HXa.out _ (Below.refl _ _)) ?_
      rotate_left
      · intro w hSw
        (try dsimp only at hSw)
        go_simp
        all_goals with_reducible rfl
      simp only [Act.put, List.setIfInBounds_toArray, List.set_cons_zero, List.set_cons_succ]
      refine wpAnyT_one (i := 18) (by kernel_rfl) rfl (fun K hK => ?_)
      go_simp
      refine (num_any _ Wd).mono ?_
      rintro e wq ⟨rfl, hwq⟩
      rw [hwq]
      clear hwq wq
      refine hK.out _ _ (fun _ => (HXa.out _ (Below.refl _ _))) ?_
      clear hK K
      try simp only [Act.put, List.setIfInBounds_toArray, List.set_cons_zero, List.set_cons_succ]
      refine wpAnyT_take (i := 19) (v := ?_) rfl (by kernel_rfl) (by kernel_rfl) (by kernel_rfl) (by kernel_rfl) (fun _ _ _ h => h) (Or.inl ⟨by rfl, ?_⟩) (HXa.out _ (Below.refl _ _)) ?_
      rotate_left
      · intro w hSw
        (try dsimp only at hSw)
        go_simp
        all_goals with_reducible rfl
      simp only [Act.put, List.setIfInBounds_toArray, List.set_cons_zero, List.set_cons_succ]
      refine wpAnyT_take (i := 20) (v := ?_) rfl (by kernel_rfl) (by kernel_rfl) (by kernel_rfl) (by kernel_rfl) (fun _ _ _ h => h) (Or.inl ⟨by rfl, ?_⟩) (HXa.out _ (Below.refl _ _)) ?_
      rotate_left
      · intro w hSw
        (try dsimp only at hSw)
        go_simp
        all_goals with_reducible rfl
      simp only [Act.put, List.setIfInBounds_toArray, List.set_cons_zero, List.set_cons_succ]
      refine wpAnyT_take (i := 21) (v := ?_) rfl (by kernel_rfl) (by kernel_rfl) (by kernel_rfl) (by kernel_rfl) (fun _ _ _ h => h) (Or.inl ⟨by rfl, ?_⟩) (HXa.out _ (Below.refl _ _)) ?_
      rotate_left
      · intro w hSw
        (try dsimp only at hSw)
        go_simp
        all_goals with_reducible rfl
      simp only [Act.put, List.setIfInBounds_toArray, List.set_cons_zero, List.set_cons_succ]
      refine wpAnyT_take (i := 22) (v := ?_) rfl (by kernel_rfl) (by kernel_rfl) (by kernel_rfl) (by kernel_rfl) (fun _ _ _ h => h) (Or.inl ⟨by rfl, ?_⟩) (HXa.out _ (Below.refl _ _)) ?_
      rotate_left
      · intro w hSw
        (try dsimp only at hSw)
        go_simp
        all_goals with_reducible rfl
      simp only [Act.put, List.setIfInBounds_toArray, List.set_cons_zero, List.set_cons_succ]
      refine wpAnyT_take (i := 23) (v := ?_) rfl (by kernel_rfl) (by kernel_rfl) (by kernel_rfl) (by kernel_rfl) (fun _ _ _ h => h) (Or.inl ⟨by rfl, ?_⟩) (HXa.out _ (Below.refl _ _)) ?_
      rotate_left
      · intro w hSw
        (try dsimp only at hSw)
        go_simp
        all_goals with_reducible rfl
      simp only [Act.put, List.setIfInBounds_toArray, List.set_cons_zero, List.set_cons_succ]
      refine wpAnyT_one (i := 24) (by kernel_rfl) rfl (fun K hK => ?_)
      go_simp
      refine (named14_any 2 Wd).mono ?_
      rintro e Wy ⟨rfl, hby⟩
      have HBy := Lib.hid hby
      clear hby
      refine hK.out _ _ (fun _ => (HXa.out _ HBy.out)) ?_
      clear hK K
      try simp only [Act.put, List.setIfInBounds_toArray, List.set_cons_zero, List.set_cons_succ]
      refine wpAnyT_take (i := 25) (v := ?_) rfl (by kernel_rfl) (by kernel_rfl) (by kernel_rfl) (by kernel_rfl) (fun _ _ _ h => h) (Or.inl ⟨by rfl, ?_⟩) (HXa.out _ HBy.out) ?_
      rotate_left
      · intro w hSw
        (try dsimp only at hSw)
        go_simp
        all_goals with_reducible rfl
      simp only [Act.put, List.setIfInBounds_toArray, List.set_cons_zero, List.set_cons_succ]
      refine wpAnyT_take (i := 26) (v := ?_) rfl (by kernel_rfl) (by kernel_rfl) (by kernel_rfl) (by kernel_rfl) (fun _ _ _ h => h) (Or.inl ⟨by rfl, ?_⟩) (HXa.out _ HBy.out) ?_
      rotate_left
      · intro w hSw
        (try dsimp only at hSw)
        go_simp
        all_goals with_reducible rfl
      simp only [Act.put, List.setIfInBounds_toArray, List.set_cons_zero, List.set_cons_succ]
      refine wpAnyT_take (i := 27) (v := ?_) rfl (by kernel_rfl) (by kernel_rfl) (by kernel_rfl) (by kernel_rfl) (fun _ _ _ h => h) (Or.inl ⟨by rfl, ?_⟩) (HXa.out _ HBy.out) ?_
      rotate_left
      · intro w hSw
        (try dsimp only at hSw)
        go_simp
        all_goals with_reducible rfl
      simp only [Act.put, List.setIfInBounds_toArray, List.set_cons_zero, List.set_cons_succ]
      refine wpAnyT_take (i := 28) (v := ?_) rfl (by kernel_rfl) (by kernel_rfl) (by kernel_rfl) (by kernel_rfl) (fun _ _ _ h => h) (Or.inl ⟨by rfl, ?_⟩) (HXa.out _ HBy.out) ?_
      rotate_left
      · intro w hSw
        (try dsimp only at hSw)
        go_simp
        all_goals with_reducible rfl
      simp only [Act.put, List.setIfInBounds_toArray, List.set_cons_zero, List.set_cons_succ]
      refine wpAnyT_take (i := 29) (v := ?_) rfl (by kernel_rfl) (by kernel_rfl) (by kernel_rfl) (by kernel_rfl) (fun _ _ _ h => h) (Or.inl ⟨by rfl, ?_⟩) (HXa.out _ HBy.out) ?_
      rotate_left
      · intro w hSw
        (try dsimp only at hSw)
        go_simp
        all_goals with_reducible rfl
      simp only [Act.put, List.setIfInBounds_toArray, List.set_cons_zero, List.set_cons_succ]
      refine wpAnyT_take (i := 30) (v := ?_) rfl (by kernel_rfl) (by kernel_rfl) (by kernel_rfl) (by kernel_rfl) (fun _ _ _ h => h) (Or.inl ⟨by rfl, ?_⟩) (HXa.out _ HBy.out) ?_
      rotate_left
      · intro w hSw
        (try dsimp only at hSw)
        go_simp
        all_goals with_reducible rfl
      simp only [Act.put, List.setIfInBounds_toArray, List.set_cons_zero, List.set_cons_succ]
      refine wpAnyT_take (i := 31) (v := ?_) rfl (by kernel_rfl) (by kernel_rfl) (by kernel_rfl) (by kernel_rfl) (fun _ _ _ h => h) (Or.inl ⟨by rfl, ?_⟩) (HXa.out _ HBy.out) ?_
      rotate_left
      · intro w hSw
        (try dsimp only at hSw)
        go_simp
        all_goals with_reducible rfl
      simp only [Act.put, List.setIfInBounds_toArray, List.set_cons_zero, List.set_cons_succ]
      refine wpAnyT_take (i := 32) (v := ?_) rfl (by kernel_rfl) (by kernel_rfl) (by kernel_rfl) (by kernel_rfl) (fun _ _ _ h => h) (Or.inl ⟨by rfl, ?_⟩) (HXa.out _ HBy.out) ?_
      rotate_left
      · intro w hSw
        (try dsimp only at hSw)
        go_simp
        all_goals with_reducible rfl
      simp only [Act.put, List.setIfInBounds_toArray, List.set_cons_zero, List.set_cons_succ]
      refine wpAnyT_one (i := 33) (by kernel_rfl) rfl (fun K hK => ?_)
      go_simp
      refine (num_any _ Wy).mono ?_
      rintro e wq ⟨rfl, hwq⟩
      rw [hwq]
      clear hwq wq
      refine hK.out _ _ (fun _ => (HXa.out _ HBy.out)) ?_
      clear hK K
      try simp only [Act.put, List.setIfInBounds_toArray, List.set_cons_zero, List.set_cons_succ]
      refine wpAnyT_take (i := 34) (v := ?_) rfl (by kernel_rfl) (by kernel_rfl) (by kernel_rfl) (by kernel_rfl) (fun _ _ _ h => h) (Or.inl ⟨by rfl, ?_⟩) (HXa.out _ HBy.out) ?_
      rotate_left
      · intro w hSw
        (try dsimp only at hSw)
        go_simp
        all_goals with_reducible rfl
      simp only [Act.put, List.setIfInBounds_toArray, List.set_cons_zero, List.set_cons_succ]
      refine wpAnyT_take (i := 35) (v := ?_) rfl (by kernel_rfl) (by kernel_rfl) (by kernel_rfl) (by kernel_rfl) (fun _ _ _ h => h) (Or.inl ⟨by rfl, ?_⟩) (HXa.out _ HBy.out) ?_
      rotate_left
      · intro w hSw
        (try dsimp only at hSw)
        go_simp
        all_goals with_reducible rfl
      simp only [Act.put, List.setIfInBounds_toArray, List.set_cons_zero, List.set_cons_succ]
      refine wpAnyT_take (i := 36) (v := ?_) rfl (by kernel_rfl) (by kernel_rfl) (by kernel_rfl) (by kernel_rfl) (fun _ _ _ h => h) (Or.inl ⟨by rfl, ?_⟩) (HXa.out _ HBy.out) ?_
      rotate_left
      · intro w hSw
        (try dsimp only at hSw)
        go_simp
        all_goals with_reducible rfl
      simp only [Act.put, List.setIfInBounds_toArray, List.set_cons_zero, List.set_cons_succ]
      refine wpAnyT_take (i := 37) (v := ?_) rfl (by kernel_rfl) (by kernel_rfl) (by kernel_rfl) (by kernel_rfl) (fun _ _ _ h => h) (Or.inl ⟨by rfl, ?_⟩) (HXa.out _ HBy.out) ?_
      rotate_left
      · intro w hSw
        (try dsimp only at hSw)
        go_simp
        all_goals with_reducible rfl
      simp only [Act.put, List.setIfInBounds_toArray, List.set_cons_zero, List.set_cons_succ]
      refine wpAnyT_one (i := 38) (by kernel_rfl) rfl (fun K hK => ?_)
      go_simp
      refine (num_any _ Wy).mono ?_
      rintro e wq ⟨rfl, hwq⟩
      rw [hwq]
      clear hwq wq
      refine hK.out _ _ (fun _ => (HXa.out _ HBy.out)) ?_
      clear hK K
      try simp only [Act.put, List.setIfInBounds_toArray, List.set_cons_zero, List.set_cons_succ]
      refine wpAnyT_take (i := 39) (v := ?_) rfl (by kernel_rfl) (by kernel_rfl) (by kernel_rfl) (by kernel_rfl) (fun _ _ _ h => h) (Or.inl ⟨by rfl, ?_⟩) (HXa.out _ HBy.out) ?_
      rotate_left
      · intro w hSw
        (try dsimp only at hSw)
        go_simp
        all_goals with_reducible rfl
      simp only [Act.put, List.setIfInBounds_toArray, List.set_cons_zero, List.set_cons_succ]
      refine wpAnyT_take (i := 40) (v := ?_) rfl (by kernel_rfl) (by kernel_rfl) (by kernel_rfl) (by kernel_rfl) (fun _ _ _ h => h) (Or.inl ⟨by rfl, ?_⟩) (HXa.out _ HBy.out) ?_
      rotate_left
      · intro w hSw
        (try dsimp only at hSw)
        go_simp
        all_goals with_reducible rfl
      simp only [Act.put, List.setIfInBounds_toArray, List.set_cons_zero, List.set_cons_succ]
      refine wpAnyT_take (i := 41) (v := ?_) rfl (by kernel_rfl) (by kernel_rfl) (by kernel_rfl) (by kernel_rfl) (fun _ _ _ h => h) (Or.inl ⟨by rfl, ?_⟩) (HXa.out _ HBy.out) ?_
      rotate_left
      · intro w hSw
        (try dsimp only at hSw)
        go_simp
        all_goals with_reducible rfl
      simp only [Act.put, List.setIfInBounds_toArray, List.set_cons_zero, List.set_cons_succ]
      refine wpAnyT_take (i := 42) (v := ?_) rfl (by kernel_rfl) (by kernel_rfl) (by kernel_rfl) (by kernel_rfl) (fun _ _ _ h => h) (Or.inl ⟨by rfl, ?_⟩) (HXa.out _ HBy.out) ?_
      rotate_left
      · intro w hSw
        (try dsimp only at hSw)
        go_simp
        all_goals with_reducible rfl
      simp only [Act.put, List.setIfInBounds_toArray, List.set_cons_zero, List.set_cons_succ]
      refine wpAnyT_take (i := 43) (v := ?_) rfl (by kernel_rfl) (by kernel_rfl) (by kernel_rfl) (by kernel_rfl) (fun _ _ _ h => h) (Or.inl ⟨by rfl, ?_⟩) (HXa.out _ HBy.out) ?_
      rotate_left
      · intro w hSw
        (try dsimp only at hSw)
        go_simp
        all_goals with_reducible rfl
      simp only [Act.put, List.setIfInBounds_toArray, List.set_cons_zero, List.set_cons_succ]
      refine wpAnyT_take (i := 44) (v := ?_) rfl (by kernel_rfl) (by kernel_rfl) (by kernel_rfl) (by kernel_rfl) (fun _ _ _ h => h) (Or.inl ⟨by rfl, ?_⟩) (HXa.out _ HBy.out) ?_
      rotate_left
      · intro w hSw
        (try dsimp only at hSw)
        go_simp
        all_goals with_reducible rfl
      simp only [Act.put, List.setIfInBounds_toArray, List.set_cons_zero, List.set_cons_succ]
      refine wpAnyT_take (i := 45) (v := ?_) rfl (by kernel_rfl) (by kernel_rfl) (by kernel_rfl) (by kernel_rfl) (fun _ _ _ h => h) (Or.inl ⟨by rfl, ?_⟩) (HXa.out _ HBy.out) ?_
      rotate_left
      · intro w hSw
        (try dsimp only at hSw)
        go_simp
        all_goals with_reducible rfl
      simp only [Act.put, List.setIfInBounds_toArray, List.set_cons_zero, List.set_cons_succ]
      refine wpAnyT_take (i := 46) (v := ?_) rfl (by kernel_rfl) (by kernel_rfl) (by kernel_rfl) (by kernel_rfl) (fun _ _ _ h => h) (Or.inl ⟨by rfl, ?_⟩) (HXa.out _ HBy.out) ?_
      rotate_left
      · intro w hSw
        (try dsimp only at hSw)
        go_simp
        all_goals with_reducible rfl
      simp only [Act.put, List.setIfInBounds_toArray, List.set_cons_zero, List.set_cons_succ]
      refine wpAnyT_take (i := 47) (v := ?_) rfl (by kernel_rfl) (by kernel_rfl) (by kernel_rfl) (by kernel_rfl) (fun _ _ _ h => h) (Or.inl ⟨by rfl, ?_⟩) (HXa.out _ HBy.out) ?_
      rotate_left
      · intro w hSw
        (try dsimp only at hSw)
        go_simp
        all_goals with_reducible rfl
      simp only [Act.put, List.setIfInBounds_toArray, List.set_cons_zero, List.set_cons_succ]
      refine wpAnyT_take (i := 48) (v := ?_) rfl (by kernel_rfl) (by kernel_rfl) (by kernel_rfl) (by kernel_rfl) (fun _ _ _ h => h) (Or.inl ⟨by rfl, ?_⟩) (HXa.out _ HBy.out) ?_
      rotate_left
      · intro w hSw
        (try dsimp only at hSw)
        go_simp
        all_goals with_reducible rfl
      simp only [Act.put, List.setIfInBounds_toArray, List.set_cons_zero, List.set_cons_succ]
      refine wpAnyT_take (i := 49) (v := ?_) rfl (by kernel_rfl) (by kernel_rfl) (by kernel_rfl) (by kernel_rfl) (fun _ _ _ h => h) (Or.inl ⟨by rfl, ?_⟩) (HXa.out _ HBy.out) ?_
      rotate_left
      · intro w hSw
        (try dsimp only at hSw)
        go_simp
        all_goals with_reducible rfl
      simp only [Act.put, List.setIfInBounds_toArray, List.set_cons_zero, List.set_cons_succ]
      refine wpAnyT_take (i := 50) (v := ?_) rfl (by kernel_rfl) (by kernel_rfl) (by kernel_rfl) (by kernel_rfl) (fun _ _ _ h => h) (Or.inl ⟨by rfl, ?_⟩) (HXa.out _ HBy.out) ?_
      rotate_left
      · intro w hSw
        (try dsimp only at hSw)
        go_simp
        all_goals with_reducible rfl
      simp only [Act.put, List.setIfInBounds_toArray, List.set_cons_zero, List.set_cons_succ]
      refine wpAnyT_one (i := 51) (by kernel_rfl) rfl (fun K hK => ?_)
      go_simp
      refine (num_any _ Wy).mono ?_
      rintro e wq ⟨rfl, hwq⟩
      rw [hwq]
      clear hwq wq
      refine hK.out _ _ (fun _ => (HXa.out _ HBy.out)) ?_
      clear hK K
      try simp only [Act.put, List.setIfInBounds_toArray, List.set_cons_zero, List.set_cons_succ]
      refine wpAnyT_take (i := 52) (v := ?_) rfl (by kernel_rfl) (by kernel_rfl) (by kernel_rfl) (by kernel_rfl) (fun _ _ _ h => h) (Or.inl ⟨by rfl, ?_⟩) (HXa.out _ HBy.out) ?_
      rotate_left
      · intro w hSw
        (try dsimp only at hSw)
        go_simp
        all_goals with_reducible rfl
      simp only [Act.put, List.setIfInBounds_toArray, List.set_cons_zero, List.set_cons_succ]
      refine wpAnyT_take (i := 53) (v := ?_) rfl (by kernel_rfl) (by kernel_rfl) (by kernel_rfl) (by kernel_rfl) (fun _ _ _ h => h) (Or.inl ⟨by rfl, ?_⟩) (HXa.out _ HBy.out) ?_
      rotate_left
      · intro w hSw
        (try dsimp only at hSw)
        go_simp
        all_goals with_reducible rfl
      simp only [Act.put, List.setIfInBounds_toArray, List.set_cons_zero, List.set_cons_succ]
      refine wpAnyT_take (i := 54) (v := ?_) rfl (by kernel_rfl) (by kernel_rfl) (by kernel_rfl) (by kernel_rfl) (fun _ _ _ h => h) (Or.inl ⟨by rfl, ?_⟩) (HXa.out _ HBy.out) ?_
      rotate_left
      · intro w hSw
        (try dsimp only at hSw)
        go_simp
        all_goals with_reducible rfl
      simp only [Act.put, List.setIfInBounds_toArray, List.set_cons_zero, List.set_cons_succ]
      refine wpAnyT_done (by kernel_rfl) ?_ _
      have hwz : IntKind.i64.wrap 0 = 0 := rfl
      simp only [hwz]
      simp only [onlyN]
      have hyd : Below w25.heap.size w25 Wy := HBd.out.trans (HBy.out.mono HBd.out.size)
      have HKy : Hid (Wy.heap[D9]? = some (.deferred (some [])) ∧ Wy.heap[E9]? = some (.deferred (some []))) := ⟨(hyd.block D9 (Array.getElem?_eq_some_iff.1 HK25.out.2.2.2.1).1).trans HK25.out.2.2.2.1, (hyd.block E9 (Array.getElem?_eq_some_iff.1 HK25.out.2.2.2.2).1).trans HK25.out.2.2.2.2⟩
      have HBz : Hid (Below w.heap.size w Wy) := (H25.out.on hyd).1.2.2
      have HDE : Hid (D9 < E9 ∧ w.heap.size ≤ D9 ∧ w.heap.size ≤ E9) := by
        have h1 := HD2.out
        have h2 := HD3.out
        have h3 := HE9.out
        have h4 := HZ21.out
        exact ⟨by omega, by omega, by omega⟩
      clear hyd hwz heq2 HXa
      go_wp2_with fail
      refine marks_two HKy.out.2 ((World.putObj_heap_other (by have := HDE.out; omega)).trans HKy.out.1) (results_tmp rfl _ _ _) ⟨rfl, below_put (below_put HBz.out HDE.out.2.2 _) HDE.out.2.1 _⟩

end Go.Proofs.YthfndphngeaihaaDoor
