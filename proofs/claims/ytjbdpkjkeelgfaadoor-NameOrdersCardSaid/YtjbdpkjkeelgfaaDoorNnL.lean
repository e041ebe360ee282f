/- NameOrders, walked. -/
import Derived.Test.YtjbdpkjkeelgfaaDoorNnS
import Derived.Test.YtjbdpkjkeelgfaaDoorNnF
import Derived.Test.YtjbdpkjkeelgfaaDoorNmW
import Derived.Test.YtjbdpkjkeelgfaaDoorIter2
import Derived.Test.YtjbdpkjkeelgfaaDoorQuietR
namespace Go.Proofs.YtjbdpkjkeelgfaaDoor
open Go Go.RowKit Go.Shelf Go.Sort
set_option linter.unusedSimpArgs false
set_option linter.unusedVariables false
attribute [local go_sem] Oper.semAt_some
attribute [local go_sem high] eqName_run

/-- Where a turn stands: m spans have come. -/
def TurnI (w7 : World) (tb nb : Nat) (t : Int) (D : World → Prop) (c : Nat → Prop) (m : Nat) (X : World) : Prop :=
  Boxed X nb 3 (.int .i64 m) ∧ Boxed X tb 3 (.int .i64 t) ∧ Below w7.heap.size w7 X ∧ D X ∧ c m

theorem turnI_own {w7 : World} {tb nb : Nat} {t : Int} {D : World → Prop} {c : Nat → Prop} {B : Nat} (hB : w7.heap.size ≤ B) (hD : OwnFrom B (fun (_ : Unit) X => D X)) : OwnFrom B (TurnI w7 tb nb t D c) := fun m X Y row hs hg hr => by
  obtain ⟨h1, h3, h4, h5, h6⟩ := hs
  have ob : ∀ (b : Nat) (v : Value), Boxed X b 3 v → Boxed Y b 3 v := fun b v h => ((boxed_own (β := Unit) b 3 (fun _ => v)).from B) () X Y row h hg hr
  exact ⟨ob _ _ h1, ob _ _ h3, (ownFrom_below (β := Unit) (n₀ := w7.heap.size) (B := B) (w₀ := w7) (Nat.le_refl _) hB) () X Y row h4 hg hr, hD () X Y row h5 hg hr, h6⟩

/-- The way goes on at m. -/
def GoC (many : Int) (m : Nat) : Prop := m = 0 ∨ (m : Int) < many
/-- The first way is over, by its end or by a break. -/
def FinC (many : Int) (n m : Nat) : Prop := m ≤ n ∧ (m : Int) = (if (if many < 1 then (1 : Int) else many) < (n : Int) then (if many < 1 then (1 : Int) else many) else (n : Int))

theorem finC_end {many : Int} {n : Nat} (h : GoC many n) : FinC many n n := by
  refine ⟨Nat.le_refl _, ?_⟩
  rcases h with h | h <;> (repeat split) <;> omega

theorem finC_stop {many : Int} {n m : Nat} (h : GoC many m) (hm : m < n) (hs : many ≤ (m : Int) + 1) : FinC many n (m + 1) := by
  refine ⟨hm, ?_⟩
  rcases h with h | h <;> (repeat split) <;> omega

theorem finC_cases {many : Int} {n m : Nat} (h : FinC many n m) : (many < 1 ∧ 1 < n ∧ m = 1) ∨ (many < 1 ∧ n ≤ 1 ∧ m = n) ∨ (1 ≤ many ∧ (m : Int) < (n : Int) ∧ many = (m : Int)) ∨ (1 ≤ many ∧ (n : Int) ≤ many ∧ m = n) := by
  obtain ⟨h1, h2⟩ := h
  by_cases g1 : many < 1
  · simp only [g1, if_true] at h2
    by_cases g2 : (1 : Int) < (n : Int)
    · rw [if_pos g2] at h2
      exact .inl ⟨g1, by omega, by omega⟩
    · rw [if_neg g2] at h2
      exact .inr (.inl ⟨g1, by omega, by omega⟩)
  · simp only [g1, if_false] at h2
    by_cases g2 : many < (n : Int)
    · rw [if_pos g2] at h2
      exact .inr (.inr (.inl ⟨by omega, by omega, by omega⟩))
    · rw [if_neg g2] at h2
      exact .inr (.inr (.inr ⟨by omega, by omega, by omega⟩))

set_option maxRecDepth 100000 in
set_option maxHeartbeats 8000000 in
theorem walk_nameOrders (A : Option Addr) (C : Nat) (ss : List NmS) (many : Int) (w : World) (hlen : ss.length ≤ 9223372036854775807) (hr : RdNs w w.heap.size A ss) (ht : TabN w) :
    Calls Tryd.prog 7 #[.slice A ss.length C, .int .i64 many] w fun e w' => e = .returned (.bool true) ∧ Below w.heap.size w w' := by
  obtain ⟨W0, hW0⟩ : ∃ W0, W0 = (w.alloc (.cells #[.int .i64 many] 3)).alloc (.cells #[.bool false] 4) := ⟨_, rfl⟩
  have hsW : W0.heap.size ≤ w.heap.size + 2 ∧ w.heap.size + 2 ≤ W0.heap.size := by rw [hW0]; simp
  have HB0 : Hid (Below w.heap.size w W0) := by rw [hW0]; exact below_al (below_al (Below.refl _ _) _) _
  have bM : Boxed W0 w.heap.size 3 (.int .i64 many) := by rw [hW0]; exact (Boxed.new w _ _).alloc _
  have bR : Boxed W0 (w.heap.size + 1) 4 (.bool false) := by
    rw [hW0]
    have h := Boxed.new (w.alloc (.cells #[.int .i64 many] 3)) 4 (.bool false)
    simpa using h
  have HBM := Lib.hid bM
  have HBR := Lib.hid bR
  have HR : Hid (RdNs W0 W0.heap.size A ss) := (hr.below HB0.out).mono (by omega)
  have HW0 := Lib.hid hW0
  clear bM bR hW0 hr
  refine calls_of_marks Tryd.func7 rfl ?_
  simp only [Tryd.ntmps7, List.size_toArray, List.length_cons, List.length_nil, Nat.reduceAdd, Nat.reduceSub, Array.replicate_succ, Array.replicate_zero, List.push_toArray, List.append_toArray, List.nil_append, List.cons_append]
  by_cases h40 : (40 : Int) < (ss.length : Int)
  · go_wp2_with fail
    rw [← HW0.out]
    refine (nmWorks_any W0 (ht.on HB0.out)).mono ?_
    rintro e w1 ⟨rfl, hb1⟩
    have hbr := boxed_below HBR.out hb1 (by omega)
    have hc := hbr.cell
    have hf := hbr.frozen
    have HBR2 := Lib.hid hbr
    have HB1 := Lib.hid hb1
    clear hb1 hbr
    go_wp2_with fail
    refine marks_none (v := .bool true) (by simp [results, Tryd.results7, go_sem, (HBR2.out.set (.bool true)).cell]) ⟨rfl, ?_⟩
    exact (HB0.out.trans (HB1.out.mono (by omega))).setCell (p := ⟨w.heap.size + 1, 0, none⟩) (by simp) _
  have hl40 : ss.length ≤ 40 := by omega
  have hh1 : decide ((40 : Int) < (ss.length : Int)) = false := by simp; omega
  obtain ⟨ms, hms⟩ : ∃ ms, ms = sortNm ss := ⟨_, rfl⟩
  have hml : ms.length ≤ 40 := by rw [hms, sortNm_length]; exact hl40
  have HMS := Lib.hid hms
  clear hms
  go_wp2_with fail
  rw [← HW0.out]
  go_loopw [5] (fun s5 wr => ∃ k : Nat, s5 = .int .i64 k ∧ 1 ≤ k ∧ k ≤ ss.length + 1 ∧ Hid (Below W0.heap.size W0 wr)) (fun s5 _ => ss.length + 1 - (intOf s5).toNat)
  case atStart => exact ⟨1, by go_num, Nat.le_refl _, by omega, Below.refl _ _⟩
  case round =>
    obtain ⟨k, rfl, hk1, hk2, HBk⟩ := hrel
    by_cases hlt : k < ss.length
    · obtain ⟨i, hi⟩ : ∃ i, k = i + 1 := ⟨k - 1, by omega⟩
      subst hi
      have hji : IntKind.i64.wrap (i : Int) = (i : Int) := by rw [IntKind.wrap_i64]; omega
      have hi3 : (0 : Int) ≤ (i : Int) := by omega
      have hi4 : (i : Int) < (ss.length : Int) := by omega
      have hi5 : i < ss.length := by omega
      have hi6 : (0 : Int) ≤ (i : Int) + 1 := by omega
      have hi7 : (i : Int) + 1 < (ss.length : Int) := by omega
      obtain ⟨g, o, rfl, hg, hcc⟩ := (HR.out.below HBk.out).cells i hi5
      obtain ⟨x, hx⟩ : ∃ x, x = atN ss i := ⟨_, rfl⟩
      obtain ⟨y, hy⟩ : ∃ y, y = atN ss (i + 1) := ⟨_, rfl⟩
      have HA : Hid (∀ w', Below W0.heap.size W0 w' → (w'.cell? ⟨g, o + i * 4, none⟩ = some (.int .u32 x.1.n) ∧ w'.cell? ⟨g, o + i * 4 + 1, none⟩ = some (.int .u32 x.1.m) ∧ w'.cell? ⟨g, o + i * 4 + 2, none⟩ = some (.int .u64 x.1.t) ∧ w'.cell? ⟨g, o + i * 4 + 3, none⟩ = some (.int .u32 x.1.q)) ∧ (w'.cell? ⟨g, o + (i + 1) * 4, none⟩ = some (.int .u32 y.1.n) ∧ w'.cell? ⟨g, o + (i + 1) * 4 + 1, none⟩ = some (.int .u32 y.1.m) ∧ w'.cell? ⟨g, o + (i + 1) * 4 + 2, none⟩ = some (.int .u64 y.1.t) ∧ w'.cell? ⟨g, o + (i + 1) * 4 + 3, none⟩ = some (.int .u32 y.1.q))) := fun w' hb => by
        obtain ⟨g', o', e, _, h0⟩ := (HR.out.below hb).cells i hi5
        obtain ⟨g2, o2, e2, _, h1⟩ := (HR.out.below hb).cells (i + 1) hlt
        cases e
        cases e2
        rw [hx, hy]
        exact ⟨h0, h1⟩
      clear hx hy hcc
      have O1 := Lib.hid (nordT_any x.1 y.1 x.2 y.2)
      have O2 := Lib.hid (refOrder_any x.1 y.1 x.2 y.2)
      obtain ⟨r, hr⟩ : ∃ r, r = x.1.ord y.1 := ⟨_, rfl⟩
      rw [← hr] at O1 O2
      clear hr
      have HELD : Hid (∀ w', Below wr.heap.size wr w' → (w'.cell? ⟨g, o + i * 4, none⟩ = some (.int .u32 x.1.n) ∧ w'.cell? ⟨g, o + i * 4 + 1, none⟩ = some (.int .u32 x.1.m) ∧ w'.cell? ⟨g, o + i * 4 + 2, none⟩ = some (.int .u64 x.1.t) ∧ w'.cell? ⟨g, o + i * 4 + 3, none⟩ = some (.int .u32 x.1.q)) ∧ (w'.cell? ⟨g, o + (i + 1) * 4, none⟩ = some (.int .u32 y.1.n) ∧ w'.cell? ⟨g, o + (i + 1) * 4 + 1, none⟩ = some (.int .u32 y.1.m) ∧ w'.cell? ⟨g, o + (i + 1) * 4 + 2, none⟩ = some (.int .u64 y.1.t) ∧ w'.cell? ⟨g, o + (i + 1) * 4 + 3, none⟩ = some (.int .u32 y.1.q))) := fun w' h => HA.out w' (below_on HBk.out h)
      have F0 : Below wr.heap.size wr wr.drew := (Below.refl _ _).drew
      go_wp2_with fail
      go_region_held3 (fun w' => (w'.cell? ⟨g, o + i * 4, none⟩ = some (.int .u32 x.1.n) ∧ w'.cell? ⟨g, o + i * 4 + 1, none⟩ = some (.int .u32 x.1.m) ∧ w'.cell? ⟨g, o + i * 4 + 2, none⟩ = some (.int .u64 x.1.t) ∧ w'.cell? ⟨g, o + i * 4 + 3, none⟩ = some (.int .u32 x.1.q)) ∧ (w'.cell? ⟨g, o + (i + 1) * 4, none⟩ = some (.int .u32 y.1.n) ∧ w'.cell? ⟨g, o + (i + 1) * 4 + 1, none⟩ = some (.int .u32 y.1.m) ∧ w'.cell? ⟨g, o + (i + 1) * 4 + 2, none⟩ = some (.int .u64 y.1.t) ∧ w'.cell? ⟨g, o + (i + 1) * 4 + 3, none⟩ = some (.int .u32 y.1.q)))
        (first | (refine HELD.out _ ?_; with_reducible exact F2) | (refine HELD.out _ ?_; with_reducible exact F1) | (refine HELD.out _ ?_; with_reducible exact F0))
        (first | (go_at_call 34; (with_reducible refine (O2.out _).mono ?_); rintro e w5 ⟨rfl, hb5⟩; have F2 : Below wr.heap.size wr w5 := below_on F1 hb5)
               | (go_at_call 33; (with_reducible refine (O1.out _).mono ?_); rintro e w4 ⟨rfl, hb4⟩; have F1 : Below wr.heap.size wr w4 := below_on F0 hb4))
      rename_i hHeld
      clear hHeld
      have HF2 := Lib.hid F2
      clear F0 F1 F2
      go_wp2_with fail
      go_roundw
      case rel => exact ⟨i + 1 + 1, by go_num, by omega, by omega, below_on HBk.out HF2.out⟩
      case measure => simp [intOf]; omega
    · have hge : decide ((k : Int) < (ss.length : Int)) = false := by simp; omega
      have hzk := HBk.out.size
      replace HBM := Lib.hid (boxed_below HBM.out HBk.out (by omega))
      replace HBR := Lib.hid (boxed_below HBR.out HBk.out (by omega))
      replace HR : Hid (RdNs wr wr.heap.size A ss) := (HR.out.below HBk.out).mono hzk
      have HT : Hid (TabN wr) := ht.on (HB0.out.trans (HBk.out.mono (by omega)))
      replace HB0 : Hid (Below w.heap.size w wr) := HB0.out.trans (HBk.out.mono (by omega))
      have hsW' : w.heap.size + 2 ≤ wr.heap.size := by omega
      clear HBk HW0 hsW hzk
      replace hsW := hsW'
      clear hsW'
      go_wp2_with fail
      refine (nrefSorted_any A C ss wr (by omega) HR.out).mono ?_
      rintro e w1 ⟨v, rfl, hown, hb1⟩
      rw [← HMS.out] at hown
      have hform : ∃ Aw Cw, v = .slice Aw ms.length Cw ∧ RdNs w1 w1.heap.size Aw ms := by
        rcases Nat.eq_zero_or_pos ms.length with h0 | h0
        · rcases hown.2 with ⟨rfl, hn⟩ | ⟨g, cap, cur, rfl, _⟩
          · exact ⟨none, 0, by rw [h0], .inl (List.eq_nil_of_length_eq_zero h0)⟩
          · exact ⟨_, _, rfl, .inl (List.eq_nil_of_length_eq_zero h0)⟩
        · obtain ⟨g, cap, rfl, hg1, hg2⟩ := World.ownsRow.form hown h0
          exact ⟨_, _, rfl, (OwnRN.rows hown).rd hg2⟩
      obtain ⟨Aw, Cw, rfl, hrw⟩ := hform
      have B1 := Lib.hid hb1
      have HRW := Lib.hid hrw
      clear hown hb1 hrw
      go_wp2_with fail
      obtain ⟨W1, hW1⟩ : ∃ W, W = w1.alloc (.cells #[.slice Aw ms.length Cw] 68) := ⟨_, rfl⟩
      have bw : Boxed W1 w1.heap.size 68 (.slice Aw ms.length Cw) := by rw [hW1]; exact Boxed.new w1 _ _
      have BW1 : Hid (Below wr.heap.size wr W1) := by rw [hW1]; exact below_al B1.out _
      have hs1 : W1.heap.size ≤ w1.heap.size + 1 ∧ w1.heap.size + 1 ≤ W1.heap.size := by rw [hW1]; simp
      have hrw1 : RdNs W1 W1.heap.size Aw ms := by rw [hW1]; exact ((HRW.out.below (below_al (Below.refl _ _) _)).mono (by simp))
      have hq1 : w.heap.size + 2 ≤ w1.heap.size := by have := B1.out.size; omega
      rw [← hW1]
      have HBW := Lib.hid bw
      have HRW1 := Lib.hid hrw1
      clear bw hrw1 hW1
      refine (nsorted_any A C ss W1 (by omega) ((HR.out.below BW1.out).mono BW1.out.size)).mono ?_
      rintro e w2 ⟨Ns, A', C', rfl, hNc, ⟨hN1, hN2⟩, hrd, hA', hb2⟩
      rw [← HMS.out] at hNc hrd
      have B2 := Lib.hid (below_on BW1.out hb2)
      have HNC := Lib.hid hNc
      have HRD := Lib.hid hrd
      have HA' := Lib.hid hA'
      have HBW2 := Lib.hid (boxed_below HBW.out hb2 (by omega))
      have HRW2 : Hid (RdNs w2 w2.heap.size Aw ms) := (HRW1.out.below hb2).mono hb2.size
      have hz2 : w1.heap.size + 1 ≤ w2.heap.size := by have := hb2.size; omega
      have hnil : ∀ w : World, (binOp .eql 72 (.func (.func 67) #[] #[.pointer (some ⟨Ns, 0, none⟩)]) .nilFunc).run Tryd.prog w = .ok (.bool false) w := fun w => eql_func_nil w _ _ _ _ _ _ _ Tryd.underlying72
      clear hb2 hNc hrd hA'
      have HbT0 : Hid (Boxed (w2.alloc (.cells #[.int .i64 0] 3)) w2.heap.size 3 (.int .i64 0)) := Boxed.new w2 _ _
      obtain ⟨W7, hW7⟩ : ∃ W, W = w2.alloc (.cells #[.int .i64 0] 3) := ⟨_, rfl⟩
      have BT0 : Hid (Below w2.heap.size w2 W7) := by rw [hW7]; exact below_al (Below.refl _ _) _
      have hs7 : W7.heap.size ≤ w2.heap.size + 1 ∧ w2.heap.size + 1 ≤ W7.heap.size := by rw [hW7]; simp
      rw [← hW7] at HbT0
      have HW7 := Lib.hid hW7
      clear hW7
      go_wp2_with fail
      rw [← HW7.out]
      refine wp_loop_rounds 3 ?_
      rw [rounds_succ]
      have t00c := (HbT0.out).cell
      go_wp2_with fail
      have b0n : Boxed (W7.alloc (.cells #[.int .i64 0] 3)) W7.heap.size 3 (.int .i64 ((0 : Nat) : Int)) := Boxed.new W7 _ _
      have b0t : Boxed (W7.alloc (.cells #[.int .i64 0] 3)) w2.heap.size 3 (.int .i64 0) := (HbT0.out).alloc _
      have b0w : Below w2.heap.size w2 (W7.alloc (.cells #[.int .i64 0] 3)) := below_al BT0.out _
      obtain ⟨X0, hX0⟩ : ∃ X, X = (W7.alloc (.cells #[.int .i64 0] 3)) := ⟨_, rfl⟩
      have hs0 : X0.heap.size ≤ W7.heap.size + 1 ∧ W7.heap.size + 1 ≤ X0.heap.size := by rw [hX0]; simp
      rw [← hX0] at b0n b0t b0w ⊢
      have hD0 : (fun _ => True) X0 := trivial
      have HI0 : Hid (TurnI w2 w2.heap.size W7.heap.size 0 (fun _ => True) (GoC many) 0 X0) := ⟨b0n, b0t, b0w, hD0, .inl rfl⟩
      have HO0 := turnI_own (tb := w2.heap.size) (nb := W7.heap.size) (t := 0) (D := (fun _ => True)) (c := (GoC many)) (B := X0.heap.size) (w7 := w2) (by omega) (fun _ _ _ _ h _ _ => h)
      have HB0w := Lib.hid b0w
      clear b0n b0t hD0 t00c hX0 b0w
      refine wp_rangeGoesO_brkB (gf := 67) (lb := #[.pointer (some ⟨Ns, 0, none⟩)]) 10 (nmAt ms) rfl (enters_of Tryd.func67 (by kernel_rfl) rfl)
        (nsorted_goes Ns (· < w2.heap.size) A' C' ms X0 (by omega) (by omega) (fun q hq => (HA'.out q hq).2) (fun b hb => by omega) ((HB0w.out.cell (p := ⟨Ns, 0, none⟩) hN2).trans HNC.out) ((HRD.out.below HB0w.out).mono (by omega))) (fun b hb => by omega)
        (TurnI w2 w2.heap.size W7.heap.size 0 (fun _ => True) (GoC many)) (fun X => ∃ m, TurnI w2 w2.heap.size W7.heap.size 0 (fun _ => True) (FinC many ms.length) m X) 4
        (fun k bx X => X.cell? ⟨bx, 0, none⟩ = some (.int .u32 (atN ms k).1.n) ∧ X.cell? ⟨bx, 1, none⟩ = some (.int .u32 (atN ms k).1.m) ∧ X.cell? ⟨bx, 2, none⟩ = some (.int .u64 (atN ms k).1.t) ∧ X.cell? ⟨bx, 3, none⟩ = some (.int .u32 (atN ms k).1.q))
        HO0 (fun _ X Y row hs hg hr => by obtain ⟨m, h⟩ := hs; exact ⟨m, turnI_own (tb := w2.heap.size) (nb := W7.heap.size) (t := 0) (D := (fun _ => True)) (c := (FinC many ms.length)) (B := X0.heap.size) (w7 := w2) (by omega) (fun _ _ _ _ h _ _ => h) m X Y row h hg hr⟩)
        (fun k s X Y row hs hg hr => ⟨cell_kept hs.1 hg (fun r e => (hr r e).2), cell_kept hs.2.1 hg (fun r e => (hr r e).2), cell_kept hs.2.2.1 hg (fun r e => (hr r e).2), cell_kept hs.2.2.2 hg (fun r e => (hr r e).2)⟩) HI0.out ?assign0 ?body0 (fun X h => ⟨_, h.1, h.2.1, h.2.2.1, h.2.2.2.1, finC_end h.2.2.2.2⟩) (fun a X h => wp_exit (by simpa only [Exit.inBlock, if_true, ite_true, beq_self_eq_true] using h)) ?after0
      case assign0 =>
        intro l k Xq K hk hI hK
        have HI := Lib.hid hI
        have HK := Lib.hid hK
        clear hK hI
        simp only [List.setIfInBounds_toArray, List.set_cons_succ, List.set_cons_zero]
        unfold nmAt
        gi_wp2
        refine HK.out _ _ ((KeepsOthers.alloc _ _).from _) (fun b hb => ?_) (HO0.alloc _ HI.out) ⟨by simp, by simp, by simp, by simp⟩
        refine Below.heap_alloc Xq _ b ?_
        rcases hb with hb | hb
        · have := HI.out.2.2.1.size; omega
        · exact hb.2
      case body0 =>
        rintro l m bx X hm hl hrec ⟨hnb, htb, hbw, hD, hc⟩ ⟨x0, x1, x2, x3⟩
        simp only [List.setIfInBounds_toArray, List.set_cons_succ, List.set_cons_zero]
        have HN1 := Lib.hid hnb
        have HT1 := Lib.hid htb
        have HW1 := Lib.hid hbw
        have HD9 := Lib.hid hD
        have HC9 := Lib.hid hc
        obtain ⟨g, o, hA, hg, m0, m1, m2, m3⟩ := (HRW2.out.below hbw).cells m hm
        have wc := (boxed_below HBW2.out hbw (by omega)).cell
        rw [hA] at wc
        have qc := (boxed_below (boxed_below HBM.out B2.out (by omega)) hbw (by omega)).cell
        have n0 := hnb.cell
        have nf := hnb.frozen
        have t0 := htb.cell
        have FIN : Hid (∀ q, KeepsFrom X0.heap.size X ((X.drewN q).setCell ⟨W7.heap.size, 0, none⟩ (.int .i64 ((m : Int) + 1))) ∧ KeepB (SinceB (· < w2.heap.size) (X0.heap.size + 2) X) X ((X.drewN q).setCell ⟨W7.heap.size, 0, none⟩ (.int .i64 ((m : Int) + 1))) ∧
            ∀ c : Nat → Prop, c (m + 1) → TurnI w2 w2.heap.size W7.heap.size 0 (fun _ => True) c (m + 1) ((X.drewN q).setCell ⟨W7.heap.size, 0, none⟩ (.int .i64 ((m : Int) + 1)))) := fun q => by
          have HNq : Boxed (X.drewN q) W7.heap.size 3 (.int .i64 m) := HN1.out
          have HTq : Boxed (X.drewN q) w2.heap.size 3 (.int .i64 0) := HT1.out
          have HWq : Below w2.heap.size w2 (X.drewN q) := ⟨HW1.out.os, HW1.out.tape, HW1.out.output, HW1.out.size, HW1.out.block⟩
          have k1 : KeepsFrom X0.heap.size (X.drewN q) ((X.drewN q).setCell ⟨W7.heap.size, 0, none⟩ (.int .i64 ((m : Int) + 1))) := (KeepsOthers.setCell _ _ _).from _
          have k2 : KeepB (SinceB (· < w2.heap.size) (X0.heap.size + 2) X) (X.drewN q) ((X.drewN q).setCell ⟨W7.heap.size, 0, none⟩ (.int .i64 ((m : Int) + 1))) := (KeepB.refl _ _).setCell (p := ⟨W7.heap.size, 0, none⟩) (notS (nb := W7.heap.size) (by omega) (by omega)) _
          refine ⟨⟨k1.size, k1.same⟩, k2, fun c hc => ⟨?_, HTq.other (by omega) _, HWq.setCell (p := ⟨W7.heap.size, 0, none⟩) (show w2.heap.size ≤ W7.heap.size by omega) _, trivial, hc⟩⟩
          have h := HNq.set (.int .i64 ((m : Int) + 1))
          simpa using h
        have hge : decide (ms.length ≤ m) = false := by simp; omega
        have hm1 : (m : Int) < (ms.length : Int) := by omega
        have hm40 : m ≤ 40 := by omega
        obtain ⟨x, hx⟩ : ∃ x, x = atN ms m := ⟨_, rfl⟩
        rw [← hx] at m0 m1 m2 m3 x0 x1 x2 x3
        unfold nmAt
        rw [← hx]
        have hself : x.1.same x.1 = true := NmT.same_iff.2 rfl
        clear hx hnb htb hbw hD hc hA hrec
        gi_wp2
        refine wpIn_region_quietR (by kernel_rfl) (by kernel_rfl) (by kernel_rfl) ?_
        repeat (gi_big_quiet_step (fail))
        refine wpQuietIn_nil ?_
        intro _ hw'
        obtain ⟨nq, hw''⟩ := hw'
        subst hw''
        have n1 : (X.drewN nq).cell? ⟨W7.heap.size, 0, none⟩ = some (.int .i64 (m : Int)) := n0
        have nf1 : (X.drewN nq).frozen? ⟨W7.heap.size, 0, none⟩ = false := nf
        have t1 : (X.drewN nq).cell? ⟨w2.heap.size, 0, none⟩ = some (.int .i64 0) := t0
        have q1 : (X.drewN nq).cell? ⟨w.heap.size, 0, none⟩ = some (.int .i64 many) := qc
        have FQ := Lib.hid (FIN.out nq)
        clear FIN n0 nf t0 qc wc m0 m1 m2 m3 x0 x1 x2 x3
        generalize X.drewN nq = Xq at *
        by_cases hmany : many ≤ (m : Int) + 1
        · gi_wp2
          exact ⟨⟨FQ.out.1, FQ.out.2.1⟩, rfl, _, FQ.out.2.2 _ (finC_stop HC9.out hm hmany)⟩
        · gi_wp2
          exact ⟨FQ.out.1, FQ.out.2.1, FQ.out.2.2 _ (.inr (by omega))⟩
      case after0 =>
        rintro D1 Xd hDD ⟨m, hnb, htb, hbw, _, hc⟩ hK
        have HC9 := Lib.hid hc
        have HT1 := Lib.hid htb
        have HW1 := Lib.hid hbw
        have n0 := hnb.cell
        have t0 := htb.cell
        have wc := (boxed_below HBW2.out hbw (by omega)).cell
        have qc := (boxed_below (boxed_below HBM.out B2.out (by omega)) hbw (by omega)).cell
        have hm40 : m ≤ 40 := by have := hc.1; omega
        have HbT1 : Hid (Boxed (Xd.alloc (.cells #[.int .i64 1] 3)) Xd.heap.size 3 (.int .i64 1)) := Boxed.new Xd _ _
        have HD1a : Hid ((Xd.alloc (.cells #[.int .i64 1] 3)).heap[D1]? = some (.deferred (some []))) := (Below.heap_alloc _ _ _ (Array.getElem?_eq_some_iff.1 hK).1).trans hK
        obtain ⟨W8, hW8⟩ : ∃ W, W = Xd.alloc (.cells #[.int .i64 1] 3) := ⟨_, rfl⟩
        have BT1 : Hid (Below w2.heap.size w2 W8) := by rw [hW8]; exact below_al hbw _
        have hs8 : W8.heap.size ≤ Xd.heap.size + 1 ∧ Xd.heap.size + 1 ≤ W8.heap.size := by rw [hW8]; simp
        rw [← hW8] at HbT1 HD1a
        have HD1 : Hid (W8.heap[D1]? = some (.deferred (some []))) := HD1a.out
        have hD1l : D1 < W8.heap.size := (Array.getElem?_eq_some_iff.1 HD1.out).1
        have HW8 := Lib.hid hW8
        have hq9 : w2.heap.size ≤ Xd.heap.size := hbw.size
        clear hnb htb hbw hK hW8 HD1a hc
        rcases finC_cases HC9.out with ⟨g1, g2, g3⟩ | ⟨g1, g2, g3⟩ | ⟨g1, g2, g3⟩ | ⟨g1, g2, g3⟩
        all_goals
          have G3 := Lib.hid g3
          clear g3
          go_wp2_with fail
          any_goals (exfalso; have := G3.out; omega)
          rw [← HW8.out]
          rw [rounds_succ]
          have t10c := (HbT1.out).cell
          go_wp2_with fail
          have b1n : Boxed (W8.alloc (.cells #[.int .i64 0] 3)) W8.heap.size 3 (.int .i64 ((0 : Nat) : Int)) := Boxed.new W8 _ _
          have b1t : Boxed (W8.alloc (.cells #[.int .i64 0] 3)) Xd.heap.size 3 (.int .i64 1) := (HbT1.out).alloc _
          have b1w : Below w2.heap.size w2 (W8.alloc (.cells #[.int .i64 0] 3)) := below_al BT1.out _
          obtain ⟨X1, hX1⟩ : ∃ X, X = (W8.alloc (.cells #[.int .i64 0] 3)) := ⟨_, rfl⟩
          have hs1 : X1.heap.size ≤ W8.heap.size + 1 ∧ W8.heap.size + 1 ≤ X1.heap.size := by rw [hX1]; simp
          rw [← hX1] at b1n b1t b1w ⊢
          have hD1 : (fun X => X.heap[D1]? = some (.deferred (some []))) X1 := (by rw [hX1]; exact (Below.heap_alloc _ _ _ (Array.getElem?_eq_some_iff.1 HD1.out).1).trans HD1.out)
          have HI1 : Hid (TurnI w2 Xd.heap.size W8.heap.size 1 (fun X => X.heap[D1]? = some (.deferred (some []))) (fun _ => True) 0 X1) := ⟨b1n, b1t, b1w, hD1, trivial⟩
          have HO1 := turnI_own (tb := Xd.heap.size) (nb := W8.heap.size) (t := 1) (D := (fun X => X.heap[D1]? = some (.deferred (some [])))) (c := (fun _ => True)) (B := X1.heap.size) (w7 := w2) (by omega) (fun _ Xa Ya row h hg hr => (hg.block D1 (Array.getElem?_eq_some_iff.1 h).1 (fun e => by have h1 := (hr D1 e.symm).1; have h2 := (Array.getElem?_eq_some_iff.1 HD1.out).1; omega)).trans h)
          have HB1w := Lib.hid b1w
          clear b1n b1t hD1 t10c hX1 b1w
          refine wp_rangeGoesO_brkB (gf := 67) (lb := #[.pointer (some ⟨Ns, 0, none⟩)]) 10 (nmAt ms) rfl (enters_of Tryd.func67 (by kernel_rfl) rfl)
            (nsorted_goes Ns (· < w2.heap.size) A' C' ms X1 (by omega) (by omega) (fun q hq => (HA'.out q hq).2) (fun b hb => by omega) ((HB1w.out.cell (p := ⟨Ns, 0, none⟩) hN2).trans HNC.out) ((HRD.out.below HB1w.out).mono (by omega))) (fun b hb => by omega)
            (TurnI w2 Xd.heap.size W8.heap.size 1 (fun X => X.heap[D1]? = some (.deferred (some []))) (fun _ => True)) (fun X => ∃ m, TurnI w2 Xd.heap.size W8.heap.size 1 (fun X => X.heap[D1]? = some (.deferred (some []))) (fun m => m = ms.length) m X) 4
            (fun k bx X => X.cell? ⟨bx, 0, none⟩ = some (.int .u32 (atN ms k).1.n) ∧ X.cell? ⟨bx, 1, none⟩ = some (.int .u32 (atN ms k).1.m) ∧ X.cell? ⟨bx, 2, none⟩ = some (.int .u64 (atN ms k).1.t) ∧ X.cell? ⟨bx, 3, none⟩ = some (.int .u32 (atN ms k).1.q))
            HO1 (fun _ X Y row hs hg hr => by obtain ⟨m, h⟩ := hs; exact ⟨m, turnI_own (tb := Xd.heap.size) (nb := W8.heap.size) (t := 1) (D := (fun X => X.heap[D1]? = some (.deferred (some [])))) (c := (fun m => m = ms.length)) (B := X1.heap.size) (w7 := w2) (by omega) (fun _ Xa Ya row h hg hr => (hg.block D1 (Array.getElem?_eq_some_iff.1 h).1 (fun e => by have h1 := (hr D1 e.symm).1; have h2 := (Array.getElem?_eq_some_iff.1 HD1.out).1; omega)).trans h) m X Y row h hg hr⟩)
            (fun k s X Y row hs hg hr => ⟨cell_kept hs.1 hg (fun r e => (hr r e).2), cell_kept hs.2.1 hg (fun r e => (hr r e).2), cell_kept hs.2.2.1 hg (fun r e => (hr r e).2), cell_kept hs.2.2.2 hg (fun r e => (hr r e).2)⟩) HI1.out ?assign1 ?body1 (fun X h => ⟨_, h.1, h.2.1, h.2.2.1, h.2.2.2.1, rfl⟩) (fun a X h => wp_exit (by simpa only [Exit.inBlock, if_true, ite_true, beq_self_eq_true] using h)) ?after1
          case assign1 =>
            intro l k Xq K hk hI hK
            have HI := Lib.hid hI
            have HK := Lib.hid hK
            clear hK hI
            simp only [List.setIfInBounds_toArray, List.set_cons_succ, List.set_cons_zero]
            unfold nmAt
            gi_wp2
            refine HK.out _ _ ((KeepsOthers.alloc _ _).from _) (fun b hb => ?_) (HO1.alloc _ HI.out) ⟨by simp, by simp, by simp, by simp⟩
            refine Below.heap_alloc Xq _ b ?_
            rcases hb with hb | hb
            · have := HI.out.2.2.1.size; omega
            · exact hb.2
          case body1 =>
            rintro l m bx X hm hl hrec ⟨hnb, htb, hbw, hD, hc⟩ ⟨x0, x1, x2, x3⟩
            simp only [List.setIfInBounds_toArray, List.set_cons_succ, List.set_cons_zero]
            have HN1 := Lib.hid hnb
            have HT1 := Lib.hid htb
            have HW1 := Lib.hid hbw
            have HD9 := Lib.hid hD
            have HC9 := Lib.hid hc
            obtain ⟨g, o, hA, hg, m0, m1, m2, m3⟩ := (HRW2.out.below hbw).cells m hm
            have wc := (boxed_below HBW2.out hbw (by omega)).cell
            rw [hA] at wc
            have qc := (boxed_below (boxed_below HBM.out B2.out (by omega)) hbw (by omega)).cell
            have n0 := hnb.cell
            have nf := hnb.frozen
            have t0 := htb.cell
            have FIN : Hid (∀ q, KeepsFrom X1.heap.size X ((X.drewN q).setCell ⟨W8.heap.size, 0, none⟩ (.int .i64 ((m : Int) + 1))) ∧ KeepB (SinceB (· < w2.heap.size) (X1.heap.size + 2) X) X ((X.drewN q).setCell ⟨W8.heap.size, 0, none⟩ (.int .i64 ((m : Int) + 1))) ∧
                ∀ c : Nat → Prop, c (m + 1) → TurnI w2 Xd.heap.size W8.heap.size 1 (fun X => X.heap[D1]? = some (.deferred (some []))) c (m + 1) ((X.drewN q).setCell ⟨W8.heap.size, 0, none⟩ (.int .i64 ((m : Int) + 1)))) := fun q => by
              have HNq : Boxed (X.drewN q) W8.heap.size 3 (.int .i64 m) := HN1.out
              have HTq : Boxed (X.drewN q) Xd.heap.size 3 (.int .i64 1) := HT1.out
              have HWq : Below w2.heap.size w2 (X.drewN q) := ⟨HW1.out.os, HW1.out.tape, HW1.out.output, HW1.out.size, HW1.out.block⟩
              have k1 : KeepsFrom X1.heap.size (X.drewN q) ((X.drewN q).setCell ⟨W8.heap.size, 0, none⟩ (.int .i64 ((m : Int) + 1))) := (KeepsOthers.setCell _ _ _).from _
              have k2 : KeepB (SinceB (· < w2.heap.size) (X1.heap.size + 2) X) (X.drewN q) ((X.drewN q).setCell ⟨W8.heap.size, 0, none⟩ (.int .i64 ((m : Int) + 1))) := (KeepB.refl _ _).setCell (p := ⟨W8.heap.size, 0, none⟩) (notS (nb := W8.heap.size) (by omega) (by omega)) _
              refine ⟨⟨k1.size, k1.same⟩, k2, fun c hc => ⟨?_, HTq.other (by omega) _, HWq.setCell (p := ⟨W8.heap.size, 0, none⟩) (show w2.heap.size ≤ W8.heap.size by omega) _, (Below.heap_setCell _ _ _ D1 (by show D1 ≠ W8.heap.size; omega)).trans HD9.out, hc⟩⟩
              have h := HNq.set (.int .i64 ((m : Int) + 1))
              simpa using h
            have hge : decide (ms.length ≤ m) = false := by simp; omega
            have hm1 : (m : Int) < (ms.length : Int) := by omega
            have hm40 : m ≤ 40 := by omega
            obtain ⟨x, hx⟩ : ∃ x, x = atN ms m := ⟨_, rfl⟩
            rw [← hx] at m0 m1 m2 m3 x0 x1 x2 x3
            unfold nmAt
            rw [← hx]
            have hself : x.1.same x.1 = true := NmT.same_iff.2 rfl
            clear hx hnb htb hbw hD hc hA hrec
            gi_wp2
            refine wpIn_region_quietR (by kernel_rfl) (by kernel_rfl) (by kernel_rfl) ?_
            repeat (gi_big_quiet_step (fail))
            refine wpQuietIn_nil ?_
            intro _ hw'
            obtain ⟨nq, hw''⟩ := hw'
            subst hw''
            have n1 : (X.drewN nq).cell? ⟨W8.heap.size, 0, none⟩ = some (.int .i64 (m : Int)) := n0
            have nf1 : (X.drewN nq).frozen? ⟨W8.heap.size, 0, none⟩ = false := nf
            have t1 : (X.drewN nq).cell? ⟨Xd.heap.size, 0, none⟩ = some (.int .i64 1) := t0
            have q1 : (X.drewN nq).cell? ⟨w.heap.size, 0, none⟩ = some (.int .i64 many) := qc
            have FQ := Lib.hid (FIN.out nq)
            clear FIN n0 nf t0 qc wc m0 m1 m2 m3 x0 x1 x2 x3
            generalize X.drewN nq = Xq at *
            gi_wp2
            exact ⟨FQ.out.1, FQ.out.2.1, FQ.out.2.2 _ trivial⟩
          case after1 =>
            rintro D2 Xe hD2 ⟨m9, hnb, htb, hbw, hDd, hc⟩ hK
            have HC9 := Lib.hid hc
            have KE1 := Lib.hid hDd
            have KE2 := Lib.hid hK
            have hD2l : D2 < Xe.heap.size := (Array.getElem?_eq_some_iff.1 hK).1
            have BE0 : Below wr.heap.size wr Xe := below_on B2.out hbw
            have HBE0 := Lib.hid BE0
            have n0 := hnb.cell
            have t0 := htb.cell
            have wc := (boxed_below HBW2.out hbw (by omega)).cell
            have hz9 := BE0.size
            clear hnb htb hbw hDd hc hK BE0
            have hne9 : ((m9 : Int) != (ms.length : Int)) = false := by have h9 : m9 = ms.length := HC9.out; simp [h9]
            go_wp2_with fail
            have BE0 := HBE0.out
            rw [rounds_succ]
            go_wp2_with fail
            refine (nmWorks_any _ (HT.out.on (below_al BE0 _))).mono ?_
            rintro e w9 ⟨rfl, hb9⟩
            have C9 : Hid (Below wr.heap.size wr w9) := below_on (below_al BE0 _) hb9
            have hbr := boxed_below HBR.out C9.out (by omega)
            have hc9 := hbr.cell
            have hf9 := hbr.frozen
            have HBR9 := Lib.hid hbr
            have E1 : Hid (w9.heap[D1]? = some (.deferred (some []))) := (hb9.block D1 (by rw [World.size_alloc]; have := (Array.getElem?_eq_some_iff.1 KE1.out).1; omega)).trans ((Below.heap_alloc _ _ _ (Array.getElem?_eq_some_iff.1 KE1.out).1).trans KE1.out)
            have E2 : Hid (w9.heap[D2]? = some (.deferred (some []))) := (hb9.block D2 (by rw [World.size_alloc]; have := (Array.getElem?_eq_some_iff.1 KE2.out).1; omega)).trans ((Below.heap_alloc _ _ _ (Array.getElem?_eq_some_iff.1 KE2.out).1).trans KE2.out)
            clear hb9 hbr
            go_wp2_with fail
            have f2 : (w9.setCell ⟨w.heap.size + 1, 0, none⟩ (.bool true)).heap[D2]? = some (.deferred (some [])) := (Below.heap_setCell _ _ _ D2 (by show D2 ≠ w.heap.size + 1; omega)).trans E2.out
            have f1 : (w9.setCell ⟨w.heap.size + 1, 0, none⟩ (.bool true)).heap[D1]? = some (.deferred (some [])) := (Below.heap_setCell _ _ _ D1 (by show D1 ≠ w.heap.size + 1; omega)).trans E1.out
            have f1' : ((w9.setCell ⟨w.heap.size + 1, 0, none⟩ (.bool true)).putObj D2 (.deferred none)).heap[D1]? = some (.deferred (some [])) := (World.putObj_heap_other (by omega)).trans f1
            have fr : Boxed (((w9.setCell ⟨w.heap.size + 1, 0, none⟩ (.bool true)).putObj D2 (.deferred none)).putObj D1 (.deferred none)) (w.heap.size + 1) 4 (.bool true) := (World.putObj_heap_other (by omega)).trans ((World.putObj_heap_other (by omega)).trans (HBR9.out.set (.bool true)))
            have hB9 : Below w.heap.size w (w9.setCell ⟨w.heap.size + 1, 0, none⟩ (.bool true)) := (HB0.out.trans (C9.out.mono (by omega))).setCell (p := ⟨w.heap.size + 1, 0, none⟩) (show w.heap.size ≤ w.heap.size + 1 by omega) _
            refine marks_two (v := .bool true) f2 f1' (by simp [results, Tryd.results7, go_sem, fr.cell]) ⟨rfl, ?_⟩
            exact (hB9.grown (grownBy_putObj' _ _ _) hB9.size (fun r e => by cases e; omega)).grown (grownBy_putObj' _ _ _) (by simp [World.putObj]; have := hB9.size; simp at this; omega) (fun r e => by cases e; omega)

end Go.Proofs.YtjbdpkjkeelgfaaDoor
