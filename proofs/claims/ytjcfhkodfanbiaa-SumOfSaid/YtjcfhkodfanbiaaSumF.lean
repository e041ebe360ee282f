/- Package sum's Open. -/
import Derived.Test.YtjcfhkodfanbiaaSumE
import Derived.Test.YtjcfhkodfanbiaaOctJ
namespace Go.Proofs.Ytjcfhkodfanbiaa
open Go.RowKit Go.Shelf

/-- The bytes ahead of a sum; and the sum. -/
def aheadN (k : Nat) (ss : List UInt8) : List UInt8 := ss.take (ss.length - wdN k)
def behindN (k : Nat) (ss : List UInt8) : List UInt8 := ss.drop (ss.length - wdN k)

/-- The bytes that are sealed so, if they are. -/
def openN (k : Nat) (ss : List UInt8) : Option (List UInt8) := if ss.length < wdN k then none else if behindN k ss = sumB k (aheadN k ss) then some (aheadN k ss) else none

theorem cut_short {k : Nat} {ss : List UInt8} (h : ss.length < wdN k) : cutAt ss 0 [(ss.length : Int) - (wdN k : Int)] = none := by
  rw [cutAt, if_pos (.inl (by omega))]

theorem cut_long {k : Nat} {ss : List UInt8} (h : ¬ ss.length < wdN k) : cutAt ss 0 [(ss.length : Int) - (wdN k : Int)] = some [aheadN k ss, behindN k ss] := by
  have e : ((ss.length : Int) - (wdN k : Int)).toNat = ss.length - wdN k := by omega
  rw [cutAt, if_neg (by omega), e, cutAt]
  simp [aheadN, behindN]

/-- Pieces that were laid since B0. -/
theorem rdP_far {w : World} {base B0 : Nat} {e : TypeId} {v : Value} {vs : List Value} {ps : List (List UInt8)} (h : OwnV w base e v vs) (hp : Pcs w B0 w.heap.size vs ps) (hne : ps ≠ []) :
    ∃ g o c, v = .slice (some ⟨g, o, none⟩) ps.length c ∧ g < w.heap.size ∧ ∀ j, j < ps.length → ∃ A c', w.cell? ⟨g, o + j, none⟩ = some (.slice A (ps[j]?.getD []).length c') ∧ (ps[j]?.getD []).length ≤ c' ∧ RdB w w.heap.size A (ps[j]?.getD []) ∧ ∀ q, A = some q → B0 ≤ q.block := by
  rcases h.form with ⟨rfl, rfl⟩ | ⟨g, cap, rfl, _, hg, _, _, hc, _⟩
  · exact absurd (List.eq_nil_of_length_eq_zero (by rw [← hp.1]; rfl)) hne
  · refine ⟨g, 0, cap, by rw [hp.1], hg, fun j hj => ?_⟩
    obtain ⟨A, c, hv, hle, hr, ha⟩ := hp.2 j hj
    refine ⟨A, c, ?_, hle, hr, fun q hq => (ha q hq).1⟩
    have hj' : j < vs.length := by rw [hp.1]; exact hj
    rw [Nat.zero_add, hc j hj', List.getElem?_eq_getElem hj', ← hv]
    simp [List.getElem?_eq_getElem hj']

/-- What is known where the sums are held against one another. -/
def OpenF (w : World) (G k B g o : Nat) (A0 A1 : Option Addr) (C0 C1 : Nat) (p t : List UInt8) (w' : World) : Prop :=
  KindAt w G k w' ∧ B ≤ w'.heap.size ∧ g < B ∧ w'.cell? ⟨g, o, none⟩ = some (.slice A0 p.length C0) ∧ w'.cell? ⟨g, o + 1, none⟩ = some (.slice A1 t.length C1) ∧ RdB w' B A0 p ∧ RdB w' B A1 t

theorem OpenF.later {w : World} {G k B g o : Nat} {A0 A1 : Option Addr} {C0 C1 : Nat} {p t : List UInt8} {w1 w2 : World} (h : OpenF w G k B g o A0 A1 C0 C1 p t w1) (hb : Below w1.heap.size w1 w2) : OpenF w G k B g o A0 A1 C0 C1 p t w2 := by
  obtain ⟨h1, hB, hg, h2, h3, h4, h5⟩ := h
  have l2 := World.block_lt_of_cell? w1 _ h2
  exact ⟨h1.later hb, Nat.le_trans hB hb.size, hg, (hb.cell l2).trans h2, (hb.cell (p := ⟨g, o + 1, none⟩) l2).trans h3, h4.below (hb.mono hB), h5.below (hb.mono hB)⟩

theorem OpenF.held {w : World} {G k B g o : Nat} {A0 A1 : Option Addr} {C0 C1 : Nat} {p t : List UInt8} {w1 : World} (h : OpenF w G k B g o A0 A1 C0 C1 p t w1) :
    (w1.cell? ⟨g, o, none⟩ = some (.slice A0 p.length C0) ∧ w1.cell? ⟨g, o + 1, none⟩ = some (.slice A1 t.length C1) ∧
      w1.cell? ⟨G, 0, none⟩ = some (.int .i64 (wdN k)) ∧ w1.cell? ⟨G, 1, none⟩ = some (.int .u32 (onN k)) ∧ w1.cell? ⟨G, 2, none⟩ = some (.int .u32 (fxN k))) ∧ OpenF w G k B g o A0 A1 C0 C1 p t w1 :=
  ⟨⟨h.2.2.2.1, h.2.2.2.2.1, h.1.held.1⟩, h⟩

theorem split_one (a : Option Addr) (n c : Nat) (ss : List UInt8) (hn : n = ss.length) (x : Int) (t : TypeId) (q : Nat) (wA : World) (hq : q = wA.heap.size) (hlen : ss.length ≤ 140737488355328) (hr : RdB wA wA.heap.size a ss) :
    Calls Try.prog 22 #[.slice a n c, .slice (some ⟨q, 0, none⟩) 1 1] (wA.alloc (.cells #[.int .i64 x] t)) (SplitP (wA.alloc (.cells #[.int .i64 x] t)) ss [x]) := by
  subst hn hq
  have hz := rdI_lit wA t #[.int .i64 x] [x] rfl
  rw [← World.size_alloc wA (.cells #[.int .i64 x] t)] at hz
  exact split_any a _ c 1 ss [x] _ hlen (by simp) ((hr.below ((Below.refl _ _).alloc (Nat.le_refl _) _)).mono (by simp)) hz

set_option maxRecDepth 100000 in
set_option maxHeartbeats 1000000 in
theorem open_short (k : Nat) (hk : k ≤ 2) (a : Option Addr) (n c : Nat) (ss : List UInt8) (hn : n = ss.length) (w : World) (hlen : ss.length ≤ 140737488355328) (hr : RdB w w.heap.size a ss) (hs : ss.length < wdN k) :
    Calls Try.prog 14 #[.int .i64 k, .slice a n c] w fun e w' => e = .returned (.tuple #[.slice none 0 0, .int .i64 110]) ∧ Below w.heap.size w w' := by
  subst hn
  have HR := Lib.hid hr
  have HS := Lib.hid (cut_short hs)
  have HW := Lib.hid (wdN_le k)
  clear hr hs
  go_enter Try.func14, Try.ntmps14
  go_wp2
  refine wp_scope_on 0 rfl ?_
  go_wp2_with (go_at_call 18; refine (kinds_any _).mono ?_; rintro e w1 ⟨rfl, hb1⟩)
  refine (meant_at k hk _).mono ?_
  rintro e w2 ⟨rfl, hb2⟩
  have hwr : IntKind.i64.wrap ((ss.length : Int) - (wdN k : Int)) = (ss.length : Int) - (wdN k : Int) := IntWalk.i64_in _ (by have := HW.out; omega)
  have B2 := below_al (below_on hb1 hb2) (.cells #[.int .i64 (wdN k), .int .u32 (onN k), .int .u32 (fxN k)] 46)
  go_wp2_with fail
  refine (split_one a _ c ss rfl _ _ _ _ (by simp) hlen ((HR.out.below B2).mono B2.size)).mono ?_
  rintro e w3 ⟨⟨_, rfl⟩ | ⟨ps, v, vs, h, _⟩, hb3⟩
  · have B3 := below_on (below_al B2 (.cells #[.int .i64 ((ss.length : Int) - (wdN k : Int))] 3)) hb3
    go_wp2
    go_quiet (fail)
    go_wp2
    go_step3
    refine ⟨rfl, ?_⟩
    show Code.wp _ _ _ _ _
    go_wp2
    rw [Exit.noGoto_ret]
    go_ret2
    exact ⟨rfl, below_dr B3 _⟩
  · rw [HS.out] at h
    cases h

set_option maxRecDepth 100000 in
set_option maxHeartbeats 1000000 in
theorem open_long (k : Nat) (hk : k ≤ 2) (a : Option Addr) (n c : Nat) (ss : List UInt8) (hn : n = ss.length) (w : World) (hlen : ss.length ≤ 140737488355328) (hr : RdB w w.heap.size a ss) (hs : ¬ ss.length < wdN k) (p t : List UInt8) (hp : p = aheadN k ss) (ht : t = behindN k ss) :
    Calls Try.prog 14 #[.int .i64 k, .slice a n c] w fun e w' =>
      ((¬ t = sumB k p ∧ e = .returned (.tuple #[.slice none 0 0, .int .i64 110])) ∨ (t = sumB k p ∧ ∃ A C, e = .returned (.tuple #[.slice A p.length C, .int .i64 0]) ∧ RdB w' w'.heap.size A p ∧ ∀ q, A = some q → w.heap.size ≤ q.block)) ∧ Below w.heap.size w w' := by
  subst hn
  have HR := Lib.hid hr
  have HS := Lib.hid (cut_long hs)
  rw [← hp, ← ht] at HS
  have HW := Lib.hid (wdN_le k)
  have hpl : p.length ≤ 140737488355328 := by
    rw [hp]
    simp [aheadN]
    omega
  clear hr hs hp ht
  go_enter Try.func14, Try.ntmps14
  go_wp2
  refine wp_scope_on 0 rfl ?_
  go_wp2_with (go_at_call 18; refine (kinds_any _).mono ?_; rintro e w1 ⟨rfl, hb1⟩)
  refine (meant_at k hk _).mono ?_
  rintro e w2 ⟨rfl, hb2⟩
  have hwr : IntKind.i64.wrap ((ss.length : Int) - (wdN k : Int)) = (ss.length : Int) - (wdN k : Int) := IntWalk.i64_in _ (by have := HW.out; omega)
  have B2 := below_al (below_on hb1 hb2) (.cells #[.int .i64 (wdN k), .int .u32 (onN k), .int .u32 (fxN k)] 46)
  have K2 := KindAt.new w2 k
  go_wp2_with fail
  refine (split_one a _ c ss rfl _ _ _ _ (by simp) hlen ((HR.out.below B2).mono B2.size)).mono ?_
  rintro e w3 ⟨⟨h, _⟩ | ⟨ps, v, vs, h, rfl, ho, hpc⟩, hb3⟩
  · rw [HS.out] at h
    cases h
  · rw [HS.out] at h
    injection h with h
    subst h
    have B3 := below_on (below_al B2 (.cells #[.int .i64 ((ss.length : Int) - (wdN k : Int))] 3)) hb3
    have K3 : KindAt w2 w2.heap.size k w3 := K2.later (below_on (below_al (Below.refl _ _) _) hb3)
    obtain ⟨g, o, cc, rfl, hg, hcs⟩ := rdP_far ho hpc (by simp)
    obtain ⟨A0, C0, hx0, hc0, hr0, hfar⟩ := hcs 0 (by simp)
    obtain ⟨A1, C1, hx1, hc1, hr1, _⟩ := hcs 1 (by simp)
    have HFar : Hid (∀ q, A0 = some q → w.heap.size ≤ q.block) := fun q hq => by
      have h1 := hfar q hq
      have h2 := (below_al B2 (.cells #[.int .i64 ((ss.length : Int) - (wdN k : Int))] 3)).size
      exact Nat.le_trans h2 h1
    clear hfar
    have O3 : OpenF w2 w2.heap.size k w3.heap.size g o A0 A1 C0 C1 p t w3 := ⟨K3, Nat.le_refl _, hg, hx0, hx1, hr0, hr1⟩
    have F0 := O3.later (Below.refl _ _).drew
    have hc0' : p.length ≤ C0 := hc0
    clear hx0 hx1 hr0 hr1 hcs hc0 hc1 ho hpc K3 K2
    go_wp2
    go_region_held (fun w' => (w'.cell? ⟨g, o, none⟩ = some (.slice A0 p.length C0) ∧ w'.cell? ⟨g, o + 1, none⟩ = some (.slice A1 t.length C1) ∧
        w'.cell? ⟨w2.heap.size, 0, none⟩ = some (.int .i64 (wdN k)) ∧ w'.cell? ⟨w2.heap.size, 1, none⟩ = some (.int .u32 (onN k)) ∧ w'.cell? ⟨w2.heap.size, 2, none⟩ = some (.int .u32 (fxN k))) ∧ OpenF w2 w2.heap.size k w3.heap.size g o A0 A1 C0 C1 p t w')
      (first | exact F0.held | exact F1.held)
      (first
        | (go_at_call 21; refine (bytes_at k hk A0 _ C0 p rfl _ hpl hc0' (F0.2.2.2.2.2.1.mono F0.2.1)).mono ?_; rintro e W1 ⟨A, C, rfl, hC, hrA, hbb⟩; have F1 := F0.later hbb)
        | (go_at_call 23; refine (equal_any A1 A t.length _ C1 C t (sumB k p) rfl rfl W1 W1.heap.size (F1.2.2.2.2.2.2.mono F1.2.1) hrA).mono ?_; rintro e W2 ⟨rfl, rfl⟩))
    have hx0 := F1.2.2.2.1
    cases hq : (t == sumB k p)
    · go_wp2
      go_step3
      refine ⟨rfl, ?_⟩
      show Code.wp _ _ _ _ _
      go_wp2
      rw [Exit.noGoto_ret]
      go_ret2
      refine ⟨.inl ⟨fun e => by rw [e] at hq; simp at hq, rfl⟩, below_on (below_on B3 (Below.refl _ _).drew) hbb⟩
    · go_wp2
      simp only [Exit.jump]
      go_ret2
      exact ⟨.inr ⟨eq_of_beq hq, A0, C0, rfl, F1.2.2.2.2.2.1.mono F1.2.1, HFar.out⟩, below_on (below_on B3 (Below.refl _ _).drew) hbb⟩

set_option maxHeartbeats 1000000 in
theorem open_no (x : Int) (hx : isK x = false) (a : Option Addr) (n c : Nat) (w : World) :
    Calls Try.prog 14 #[.int .i64 x, .slice a n c] w fun e w' => e = .returned (.tuple #[.slice none 0 0, .int .i64 2]) ∧ Below w.heap.size w w' := by
  have HX := Lib.hid hx
  clear hx
  go_enter Try.func14, Try.ntmps14
  go_wp2
  refine wp_scope_on 0 rfl ?_
  go_wp2_with (go_at_call 18; refine (kinds_any _).mono ?_; rintro e w1 ⟨rfl, hb1⟩)
  refine (meant_no x HX.out _).mono ?_
  rintro e w2 ⟨rfl, hb2⟩
  go_wp2
  go_step3
  refine ⟨rfl, ?_⟩
  show Code.wp _ _ _ _ _
  go_wp2
  rw [Exit.noGoto_ret]
  go_ret2
  exact ⟨rfl, below_al (below_on hb1 hb2) _⟩

/-- What Open answers, of a kind that there is. -/
def OpenP (w : World) (k : Nat) (ss : List UInt8) (e : Ending) (w' : World) : Prop :=
  ((openN k ss = none ∧ e = .returned (.tuple #[.slice none 0 0, .int .i64 110])) ∨ ∃ p, openN k ss = some p ∧ ∃ A C, e = .returned (.tuple #[.slice A p.length C, .int .i64 0]) ∧ RdB w' w'.heap.size A p ∧ ∀ q, A = some q → w.heap.size ≤ q.block) ∧ Below w.heap.size w w'

theorem open_any (k : Nat) (hk : k ≤ 2) (a : Option Addr) (n c : Nat) (ss : List UInt8) (hn : n = ss.length) (w : World) (hlen : ss.length ≤ 140737488355328) (hr : RdB w w.heap.size a ss) :
    Calls Try.prog 14 #[.int .i64 k, .slice a n c] w (OpenP w k ss) := by
  by_cases hs : ss.length < wdN k
  · refine (open_short k hk a n c ss hn w hlen hr hs).mono ?_
    rintro e w' ⟨rfl, hb⟩
    exact ⟨.inl ⟨if_pos hs, rfl⟩, hb⟩
  · refine (open_long k hk a n c ss hn w hlen hr hs _ _ rfl rfl).mono ?_
    rintro e w' ⟨⟨h, rfl⟩ | ⟨h, A, C, rfl, hra, hfar⟩, hb⟩
    · exact ⟨.inl ⟨by rw [openN, if_neg hs, if_neg h], rfl⟩, hb⟩
    · exact ⟨.inr ⟨_, by rw [openN, if_neg hs, if_pos h], A, C, rfl, hra, hfar⟩, hb⟩

/-- What is sealed is opened as it was. -/
theorem openN_seal (k : Nat) (bs : List UInt8) : openN k (bs ++ sumB k bs) = some bs := by
  have hl := sumB_length k bs
  have e : (bs ++ sumB k bs).length - wdN k = bs.length := by simp [hl]
  have ha : aheadN k (bs ++ sumB k bs) = bs := by unfold aheadN; rw [e]; exact List.take_left' rfl
  have hb : behindN k (bs ++ sumB k bs) = sumB k bs := by unfold behindN; rw [e]; exact List.drop_left' rfl
  rw [openN, ha, hb, if_pos rfl, if_neg]
  simp [hl]

end Go.Proofs.Ytjcfhkodfanbiaa
