/- The mathematics of names in order: insertion gives what the library's sort gives; the document's Order. -/
import Derived.Test.YtjbdpkjkeelgfaaDoorNnS
namespace Go.Proofs.YtjbdpkjkeelgfaaDoor
open Go Go.RowKit Go.Shelf Go.Sort
set_option linter.unusedSimpArgs false
set_option linter.unusedVariables false

/-- Is x ahead of y? -/
def ahSN (x y : NmS) : Bool := decide (x.1.ord y.1 < 0)

/-- Where x is to be put, from place j down. -/
def insJN (x : NmS) (L : List NmS) : Nat → Nat
  | 0 => 0
  | j + 1 => if ahSN x (atN L j) then insJN x L j else j + 1

def insSN (x : NmS) (L : List NmS) : List NmS := L.take (insJN x L L.length) ++ x :: L.drop (insJN x L L.length)

/-- The first k, in order. -/
def refSN (ss : List NmS) (k : Nat) : List NmS := (ss.take k).foldl (fun L p => insSN p L) []

theorem insJ_specN (x : NmS) (L : List NmS) : ∀ j, insJN x L j ≤ j ∧ (∀ t, insJN x L j ≤ t → t < j → ahSN x (atN L t) = true) ∧ (0 < insJN x L j → ahSN x (atN L (insJN x L j - 1)) = false)
  | 0 => ⟨Nat.le_refl _, fun t _ h => absurd h (Nat.not_lt_zero _), fun h => absurd h (Nat.lt_irrefl _)⟩
  | j + 1 => by
    cases h : ahSN x (atN L j)
    · have e : insJN x L (j + 1) = j + 1 := by simp [insJN, h]
      rw [e]
      exact ⟨Nat.le_refl _, fun t h1 h2 => absurd h2 (by omega), fun _ => h⟩
    · have e : insJN x L (j + 1) = insJN x L j := by simp [insJN, h]
      rw [e]
      obtain ⟨h1, h2, h3⟩ := insJ_specN x L j
      refine ⟨by omega, fun t ht ht2 => ?_, h3⟩
      by_cases e2 : t = j
      · subst e2; exact h
      · exact h2 t ht (by omega)

theorem insS_permN (x : NmS) (L : List NmS) : (insSN x L).Perm (x :: L) := by
  unfold insSN
  refine List.perm_middle.trans ?_
  rw [List.take_append_drop]

theorem insS_lengthN (x : NmS) (L : List NmS) : (insSN x L).length = L.length + 1 := (insS_permN x L).length_eq

/-- x is not behind y. -/
def leSN (x y : NmS) : Bool := !(ltOf ordNS) y x

theorem leSN_iffN (x y : NmS) : leSN x y = true ↔ ¬ y.1.ord x.1 < 0 := by
  unfold leSN
  rw [ltNS]
  simp

theorem leS_antiN (x y : NmS) (h1 : leSN x y = true) (h2 : leSN y x = true) : x = y := by
  rw [leSN_iffN] at *
  have h3 := ord_swap x.1 y.1
  exact Subtype.ext (ord_zero.1 (by omega))

theorem leS_transN (x y z : NmS) (h1 : leSN x y = true) (h2 : leSN y z = true) : leSN x z = true := by
  rw [leSN_iffN] at *
  rw [ord_neg] at *
  omega

theorem leS_of_ahSN {x y : NmS} (h : ahSN x y = true) : leSN x y = true := by
  rw [leSN_iffN]
  unfold ahSN at h
  simp only [decide_eq_true_eq] at h
  have := ord_swap x.1 y.1
  omega

theorem leS_of_notN {x y : NmS} (h : ahSN x y = false) : leSN y x = true := by
  rw [leSN_iffN]
  unfold ahSN at h
  simpa using h

theorem at_getN (L : List NmS) (t : Nat) (ht : t < L.length) : (atN L t) = L[t] := by
  simp [atN, List.getElem?_eq_getElem ht]

theorem insS_sortedN (x : NmS) (L : List NmS) (h : L.Pairwise fun a b => leSN a b = true) : (insSN x L).Pairwise fun a b => leSN a b = true := by
  obtain ⟨h1, h2, h3⟩ := insJ_specN x L L.length
  unfold insSN
  generalize insJN x L L.length = j at h1 h2 h3
  have hL : (L.take j ++ L.drop j).Pairwise fun a b => leSN a b = true := by rw [List.take_append_drop]; exact h
  obtain ⟨p1, p2, p3⟩ := List.pairwise_append.1 hL
  have hd : ∀ b ∈ L.drop j, leSN x b = true := fun b hb => by
    obtain ⟨t, ht, rfl⟩ := List.getElem_of_mem hb
    rw [List.length_drop] at ht
    rw [List.getElem_drop, ← at_getN L (j + t) (by omega)]
    exact leS_of_ahSN (h2 (j + t) (by omega) (by omega))
  have ha : ∀ a ∈ L.take j, leSN a x = true := fun a ha => by
    obtain ⟨t, ht, rfl⟩ := List.getElem_of_mem ha
    rw [List.length_take] at ht
    have hj : 0 < j := by omega
    have hl : leSN (atN L (j - 1)) x = true := leS_of_notN (h3 hj)
    rw [at_getN L (j - 1) (by omega)] at hl
    rw [List.getElem_take]
    by_cases e : t = j - 1
    · subst e; exact hl
    · exact leS_transN _ _ _ (List.pairwise_iff_getElem.1 h t (j - 1) (by omega) (by omega) (by omega)) hl
  refine List.pairwise_append.2 ⟨p1, List.pairwise_cons.2 ⟨hd, p2⟩, fun a haa b hb => ?_⟩
  rcases List.mem_cons.1 hb with rfl | hb
  · exact ha a haa
  · exact p3 a haa b hb

theorem foldl_insN : ∀ (l : List NmS) (L : List NmS), (L.Pairwise fun a b => leSN a b = true) → (l.foldl (fun L p => insSN p L) L).Perm (l ++ L) ∧ (l.foldl (fun L p => insSN p L) L).Pairwise fun a b => leSN a b = true
  | [], L, h => ⟨List.Perm.refl _, h⟩
  | p :: l, L, h => by
    obtain ⟨h1, h2⟩ := foldl_insN l (insSN p L) (insS_sortedN p L h)
    refine ⟨?_, h2⟩
    refine h1.trans ?_
    refine ((insS_permN p L).append_left l).trans ?_
    exact List.perm_middle

theorem refSN_eq (ss : List NmS) : refSN ss ss.length = sortNm ss := by
  unfold refSN sortNm
  rw [List.take_length]
  obtain ⟨h1, h2⟩ := foldl_insN ss [] List.Pairwise.nil
  rw [List.append_nil] at h1
  have hp : (ss.mergeSort fun x y => !(ltOf ordNS) y x).Pairwise fun a b => leSN a b = true :=
    List.pairwise_mergeSort (le := leSN) leS_transN (fun a b => by
      cases h : leSN a b
      · have : leSN b a = true := by
          rw [leSN_iffN]
          have h2 : ¬ (leSN a b = true) := by rw [h]; simp
          rw [leSN_iffN] at h2
          have := ord_swap a.1 b.1
          omega
        simp [this]
      · rfl) _
  exact List.Perm.eq_of_pairwise (fun a b _ _ => leS_antiN a b) h2 hp (h1.trans (List.mergeSort_perm _ _).symm)

theorem refSN_succ (ss : List NmS) (k : Nat) (hk : k < ss.length) : refSN ss (k + 1) = insSN (atN ss k) (refSN ss k) := by
  unfold refSN
  rw [List.take_succ_eq_append_getElem hk, List.foldl_append]
  have e : ss[k] = atN ss k := by simp [atN, List.getElem?_eq_getElem hk]
  rw [e]
  rfl

theorem refSN_len (ss : List NmS) (k : Nat) (hk : k ≤ ss.length) : (refSN ss k).length = k := by
  obtain ⟨h1, _⟩ := foldl_insN (ss.take k) [] List.Pairwise.nil
  have h2 := h1.length_eq
  unfold refSN
  rw [h2]
  simp
  omega

theorem rorder_any (x y : Int) (w : World) : Calls Tryd.prog 64 #[.int .u64 x, .int .u64 y] w fun e w' => e = .returned (.int .i64 (cmpT x y)) ∧ Below w.heap.size w w' := by
  unfold cmpT
  by_cases h1 : x < y
  · go_enter Tryd.func64, Tryd.ntmps64
    go_wp2
    go_ret
    exact ⟨by simp [h1], Below.refl _ _⟩
  · by_cases h2 : y < x
    · go_enter Tryd.func64, Tryd.ntmps64
      go_wp2
      go_ret
      exact ⟨by simp [h1, h2], Below.refl _ _⟩
    · go_enter Tryd.func64, Tryd.ntmps64
      go_wp2
      go_ret
      exact ⟨by simp [h1, h2], Below.refl _ _⟩

/-- The four answers, one by one. -/
def fourN (x y : NmT) (j : Nat) : Int := if j = 0 then cmpT x.n y.n else if j = 1 then cmpT x.m y.m else if j = 2 then cmpT x.t y.t else cmpT x.q y.q

theorem fourN_ord (x y : NmT) (j : Nat) (hj : j < 4) (h : ∀ i, i < j → fourN x y i = 0) (hn : fourN x y j ≠ 0) : fourN x y j = x.ord y := by
  have h0 := fun k => h 0 k
  have h1 := fun k => h 1 k
  have h2 := fun k => h 2 k
  simp only [fourN] at h0 h1 h2 hn ⊢
  unfold NmT.ord ordN
  simp only
  have : j = 0 ∨ j = 1 ∨ j = 2 ∨ j = 3 := by omega
  rcases this with rfl | rfl | rfl | rfl
  · simp at hn ⊢; simp [hn]
  · have a0 := h0 (by decide); simp at hn a0 ⊢; simp [hn, a0]
  · have a0 := h0 (by decide); have a1 := h1 (by decide); simp at hn a0 a1 ⊢; simp [hn, a0, a1]
  · have a0 := h0 (by decide); have a1 := h1 (by decide); have a2 := h2 (by decide); simp at hn a0 a1 a2 ⊢; simp [a0, a1, a2]

theorem fourN_zero (x y : NmT) (h : ∀ i, i < 4 → fourN x y i = 0) : x.ord y = 0 := by
  have h0 := h 0 (by decide)
  have h1 := h 1 (by decide)
  have h2 := h 2 (by decide)
  have h3 := h 3 (by decide)
  simp [fourN] at h0 h1 h2 h3
  unfold NmT.ord ordN
  simp [h0, h1, h2, h3]

set_option maxRecDepth 100000 in
set_option maxHeartbeats 8000000 in
theorem refOrder_any (x y : NmT) (hx : x.ok) (hy : y.ok) (w : World) :
    Calls Tryd.prog 34 #[.agg #[.int .u32 x.n, .int .u32 x.m, .int .u64 x.t, .int .u32 x.q], .agg #[.int .u32 y.n, .int .u32 y.m, .int .u64 y.t, .int .u32 y.q]] w fun e w' => e = .returned (.int .i64 (x.ord y)) ∧ Below w.heap.size w w' := by
  obtain ⟨⟨x0, x1⟩, x2, x3⟩ := hx
  obtain ⟨⟨y0, y1⟩, y2, y3⟩ := hy
  have wx0 : IntKind.u64.wrap (x.n : Int) = (x.n : Int) := by rw [IntKind.wrap_u64]; omega
  have wx1 : IntKind.u64.wrap (x.m : Int) = (x.m : Int) := by rw [IntKind.wrap_u64]; omega
  have wx3 : IntKind.u64.wrap (x.q : Int) = (x.q : Int) := by rw [IntKind.wrap_u64]; omega
  have wy0 : IntKind.u64.wrap (y.n : Int) = (y.n : Int) := by rw [IntKind.wrap_u64]; omega
  have wy1 : IntKind.u64.wrap (y.m : Int) = (y.m : Int) := by rw [IntKind.wrap_u64]; omega
  have wy3 : IntKind.u64.wrap (y.q : Int) = (y.q : Int) := by rw [IntKind.wrap_u64]; omega
  obtain ⟨W, hW⟩ : ∃ W, W = (w.alloc (.cells #[.int .u32 x.n, .int .u32 x.m, .int .u64 x.t, .int .u32 x.q] 47)).alloc (.cells #[.int .u32 y.n, .int .u32 y.m, .int .u64 y.t, .int .u32 y.q] 47) := ⟨_, rfl⟩
  have HB : Hid (Below w.heap.size w W) := by rw [hW]; exact below_al (below_al (Below.refl _ _) _) _
  have hsW : W.heap.size ≤ w.heap.size + 2 ∧ w.heap.size + 2 ≤ W.heap.size := by rw [hW]; simp
  have HC : Hid (∀ w', Below W.heap.size W w' → (w'.cell? ⟨w.heap.size, 0, none⟩ = some (.int .u32 x.n) ∧ w'.cell? ⟨w.heap.size, 1, none⟩ = some (.int .u32 x.m) ∧ w'.cell? ⟨w.heap.size, 2, none⟩ = some (.int .u64 x.t) ∧ w'.cell? ⟨w.heap.size, 3, none⟩ = some (.int .u32 x.q)) ∧ (w'.cell? ⟨w.heap.size + 1, 0, none⟩ = some (.int .u32 y.n) ∧ w'.cell? ⟨w.heap.size + 1, 1, none⟩ = some (.int .u32 y.m) ∧ w'.cell? ⟨w.heap.size + 1, 2, none⟩ = some (.int .u64 y.t) ∧ w'.cell? ⟨w.heap.size + 1, 3, none⟩ = some (.int .u32 y.q))) := fun w' h => by
    have h0 := fun i => h.cell (p := ⟨w.heap.size, i, none⟩) (show w.heap.size < W.heap.size by omega)
    have h1 := fun i => h.cell (p := ⟨w.heap.size + 1, i, none⟩) (show w.heap.size + 1 < W.heap.size by omega)
    refine ⟨⟨(h0 0).trans ?_, (h0 1).trans ?_, (h0 2).trans ?_, (h0 3).trans ?_⟩, (h1 0).trans ?_, (h1 1).trans ?_, (h1 2).trans ?_, (h1 3).trans ?_⟩ <;> (rw [hW]; simp)
  have HW := Lib.hid hW
  have O0 := Lib.hid (rorder_any (x.n : Int) y.n)
  have O1 := Lib.hid (rorder_any (x.m : Int) y.m)
  have O2 := Lib.hid (rorder_any (x.t : Int) y.t)
  have O3 := Lib.hid (rorder_any (x.q : Int) y.q)
  clear hW x0 x1 x2 x3 y0 y1 y2 y3
  have F0 : Below W.heap.size W W.drew := (Below.refl _ _).drew
  go_enter Tryd.func34, Tryd.ntmps34
  go_wp2_with fail
  rw [← HW.out]
  go_region_held3 (fun w' => (w'.cell? ⟨w.heap.size, 0, none⟩ = some (.int .u32 x.n) ∧ w'.cell? ⟨w.heap.size, 1, none⟩ = some (.int .u32 x.m) ∧ w'.cell? ⟨w.heap.size, 2, none⟩ = some (.int .u64 x.t) ∧ w'.cell? ⟨w.heap.size, 3, none⟩ = some (.int .u32 x.q)) ∧ (w'.cell? ⟨w.heap.size + 1, 0, none⟩ = some (.int .u32 y.n) ∧ w'.cell? ⟨w.heap.size + 1, 1, none⟩ = some (.int .u32 y.m) ∧ w'.cell? ⟨w.heap.size + 1, 2, none⟩ = some (.int .u64 y.t) ∧ w'.cell? ⟨w.heap.size + 1, 3, none⟩ = some (.int .u32 y.q)))
    (first | (refine HC.out _ ?_; with_reducible exact F4) | (refine HC.out _ ?_; with_reducible exact F3) | (refine HC.out _ ?_; with_reducible exact F2) | (refine HC.out _ ?_; with_reducible exact F1) | (refine HC.out _ ?_; with_reducible exact F0) | (refine HC.out _ ?_; with_reducible exact below_al F4 _))
    (first
      | (go_at_call 64; (with_reducible refine (O3.out _).mono ?_); rintro e w4 ⟨rfl, hb4⟩; have F4 : Below W.heap.size W w4 := below_on F3 hb4)
      | (go_at_call 64; (with_reducible refine (O2.out _).mono ?_); rintro e w3 ⟨rfl, hb3⟩; have F3 : Below W.heap.size W w3 := below_on F2 hb3)
      | (go_at_call 64; (with_reducible refine (O1.out _).mono ?_); rintro e w2 ⟨rfl, hb2⟩; have F2 : Below W.heap.size W w2 := below_on F1 hb2)
      | (go_at_call 64; (with_reducible refine (O0.out _).mono ?_); rintro e w1 ⟨rfl, hb1⟩; have F1 : Below W.heap.size W w1 := below_on F0 hb1))
  rename_i hHeld
  obtain ⟨W5, hW5⟩ : ∃ W', W' = w4.alloc (.cells #[.int .i64 (cmpT x.n y.n), .int .i64 (cmpT x.m y.m), .int .i64 (cmpT x.t y.t), .int .i64 (cmpT x.q y.q)] 3) := ⟨_, rfl⟩
  have HB5 : Hid (Below w.heap.size w W5) := by rw [hW5]; exact below_al (HB.out.trans (F4.mono HB.out.size)) _
  have HR : Hid (∀ w' j, Below W5.heap.size W5 w' → j < 4 → w'.cell? ⟨w4.heap.size, j, none⟩ = some (.int .i64 (fourN x y j))) := fun w' j h hj => by
    refine (h.cell (p := ⟨w4.heap.size, j, none⟩) (by rw [hW5]; simp)).trans ?_
    rw [hW5, World.cell?_alloc_mark]
    have : j = 0 ∨ j = 1 ∨ j = 2 ∨ j = 3 := by omega
    rcases this with rfl | rfl | rfl | rfl <;> rfl
  have HW5 := Lib.hid hW5
  clear hHeld F0 F1 F2 F3 F4 hW5
  go_wp2_with fail
  rw [← HW5.out]
  go_loopw [6] (fun i wr => ∃ j : Nat, j ≤ 4 ∧ i = .int .i64 j ∧ Hid (Below W5.heap.size W5 wr ∧ ∀ i, i < j → fourN x y i = 0)) (fun i _ => 4 - (intOf i).toNat)
  case atStart => exact ⟨0, by omega, rfl, Below.refl _ _, fun i h => absurd h (Nat.not_lt_zero _)⟩
  case round =>
    obtain ⟨j, hj, rfl, HI⟩ := hrel
    by_cases hlt : j < 4
    · have hc := HR.out wr j HI.out.1 hlt
      obtain ⟨r, hr⟩ : ∃ r, r = fourN x y j := ⟨_, rfl⟩
      rw [← hr] at hc
      have HRr := Lib.hid hr
      have hltI : (j : Int) < 4 := by omega
      clear hr
      by_cases h0 : r = 0
      · subst h0
        go_wp2_with fail
        go_roundw
        case rel =>
          refine ⟨j + 1, by omega, by go_num, HI.out.1, fun i hi => ?_⟩
          by_cases e : i = j
          · rw [e]; exact HRr.out.symm
          · exact HI.out.2 i (by omega)
        case measure => simp [intOf]; omega
      · have h0' : (r == 0) = false := by simpa using h0
        have h0n : (r != 0) = true := by simpa using h0
        have HO : Hid (r = x.ord y) := by
          have := fourN_ord x y j hlt HI.out.2 (by rw [← HRr.out]; exact h0)
          rw [Hid, HRr.out, this]
        clear h0
        go_wp2_with fail
        go_ret
        rw [← HO.out]
        exact ⟨rfl, HB5.out.trans (HI.out.1.mono HB5.out.size)⟩
    · obtain rfl : j = 4 := by omega
      go_wp2_with fail
      go_ret
      rw [fourN_zero x y HI.out.2]
      exact ⟨rfl, HB5.out.trans (HI.out.1.mono HB5.out.size)⟩

end Go.Proofs.YtjbdpkjkeelgfaaDoor
