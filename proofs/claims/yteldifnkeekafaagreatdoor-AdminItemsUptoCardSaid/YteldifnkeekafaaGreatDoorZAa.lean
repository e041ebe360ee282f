/- Joined texts. -/
import Derived.Test.YteldifnkeekafaaGreatDoorZKq
import Derived.Test.YteldifnkeekafaaGreatDoorZKp
import Derived.Test.YteldifnkeekafaaGreatDoorZBu
import Derived.Test.YteldifnkeekafaaGreatDoorZKm
import Derived.Test.YteldifnkeekafaaGreatDoorZNz
import Derived.Test.YteldifnkeekafaaGreatDoorZClE
set_option maxHeartbeats 4000000
set_option linter.unusedSimpArgs false
set_option linter.unusedVariables false
set_option maxRecDepth 100000
namespace Go.Proofs.YteldifnkeekafaaGreatDoor
open Go Go.RowKit Go.Shelf

attribute [local go_sem] Oper.semAt_some

theorem dneed_yes (w : World) : Calls Tryz.prog 41 #[.bool true] w fun e w' => e = .returned (.tuple #[]) ∧ w = w' := by
 go_enter Tryz.func41, Tryz.ntmps41
 go_wp2_with fail
 first | go_end0 | skip
 exact ⟨rfl, rfl⟩
theorem dneed_no (w : World) : Calls Tryz.prog 41 #[.bool false] w fun e w' => e = gives 180 ∧ w = w' := by
 go_enter Tryz.func41, Tryz.ntmps41
 go_wp2_with fail
 exact ⟨rfl, rfl, rfl⟩
theorem dneed_any (b : Bool) (w : World) : Calls Tryz.prog 41 #[.bool b] w fun e w' => w = w' ∧ ((e = .returned (.tuple #[]) ∧ b = true) ∨ (e = gives 180 ∧ b = false)) := by
 cases b
 ·exact (dneed_no w).mono fun e w' ⟨h1, h2⟩ => ⟨h2, .inr ⟨h1, rfl⟩⟩
 ·exact (dneed_yes w).mono fun e w' ⟨h1, h2⟩ => ⟨h2, .inl ⟨h1, rfl⟩⟩

theorem duint_k (x : Int) (w : World) : Calls Tryz.prog 59 #[.int .i64 x] w fun e w' => e = .returned (.agg #[.int .i64 1, .int .u64 (IntKind.u64.wrap x), .slice none 0 0, .string ⟨#[]⟩, .slice none 0 0]) ∧ Below w.heap.size w w' := by
 go_enter Tryz.func59, Tryz.ntmps59
 go_wp2
 exact bodyPost_ret (v := .agg #[.int .i64 1, .int .u64 (IntKind.u64.wrap x), .slice none 0 0, .string ⟨#[]⟩, .slice none 0 0]) (by simp [results, Tryz.results59, go_sem]) rfl ⟨rfl, below_al bR _⟩
theorem duint_i (x : Int) (w : World) : Calls Tryz.prog 61 #[.int .i64 x] w fun e w' => e = .returned (.agg #[.int .i64 1, .int .u64 (IntKind.u64.wrap x), .slice none 0 0, .string ⟨#[]⟩, .slice none 0 0]) ∧ Below w.heap.size w w' := by
 go_enter Tryz.func61, Tryz.ntmps61
 go_wp2
 exact bodyPost_ret (v := .agg #[.int .i64 1, .int .u64 (IntKind.u64.wrap x), .slice none 0 0, .string ⟨#[]⟩, .slice none 0 0]) (by simp [results, Tryz.results61, go_sem]) rfl ⟨rfl, below_al bR _⟩
theorem duint_64 (x : Int) (w : World) : Calls Tryz.prog 62 #[.int .u64 x] w fun e w' => e = .returned (.agg #[.int .i64 1, .int .u64 x, .slice none 0 0, .string ⟨#[]⟩, .slice none 0 0]) ∧ Below w.heap.size w w' := by
 go_enter Tryz.func62, Tryz.ntmps62
 go_wp2
 exact bodyPost_ret (v := .agg #[.int .i64 1, .int .u64 x, .slice none 0 0, .string ⟨#[]⟩, .slice none 0 0]) (by simp [results, Tryz.results62, go_sem]) rfl ⟨rfl, below_al bR _⟩
theorem duint_32 (x : Nat) (hx : x ≤ 4294967295) (w : World) : Calls Tryz.prog 65 #[.int .u32 x] w fun e w' => e = .returned (.agg #[.int .i64 1, .int .u64 x, .slice none 0 0, .string ⟨#[]⟩, .slice none 0 0]) ∧ Below w.heap.size w w' := by
 have hw : IntKind.u64.wrap (x : Int) = (x : Int) := by rw [IntKind.wrap_u64]; omega
 go_enter Tryz.func65, Tryz.ntmps65
 go_wp2
 exact bodyPost_ret (v := .agg #[.int .i64 1, .int .u64 x, .slice none 0 0, .string ⟨#[]⟩, .slice none 0 0]) (by simp [results, Tryz.results65, go_sem, hw]) rfl ⟨rfl, below_al bR _⟩
theorem duint_8 (x : Nat) (hx : x ≤ 255) (w : World) : Calls Tryz.prog 71 #[.int .u8 x] w fun e w' => e = .returned (.agg #[.int .i64 1, .int .u64 x, .slice none 0 0, .string ⟨#[]⟩, .slice none 0 0]) ∧ Below w.heap.size w w' := by
 have hw : IntKind.u64.wrap (x : Int) = (x : Int) := by rw [IntKind.wrap_u64]; omega
 go_enter Tryz.func71, Tryz.ntmps71
 go_wp2
 exact bodyPost_ret (v := .agg #[.int .i64 1, .int .u64 x, .slice none 0 0, .string ⟨#[]⟩, .slice none 0 0]) (by simp [results, Tryz.results71, go_sem, hw]) rfl ⟨rfl, below_al bR _⟩
theorem dlist_any (a : Option Addr) (n c : Nat) (w : World) : Calls Tryz.prog 58 #[.slice a n c] w fun e w' => e = .returned (.agg #[.int .i64 4, .int .u64 0, .slice none 0 0, .string ⟨#[]⟩, .slice a n c]) ∧ Below w.heap.size w w' := by
 go_enter Tryz.func58, Tryz.ntmps58
 go_wp2
 exact bodyPost_ret (v := .agg #[.int .i64 4, .int .u64 0, .slice none 0 0, .string ⟨#[]⟩, .slice a n c]) (by simp [results, Tryz.results58, go_sem]) rfl ⟨rfl, below_al bR _⟩

def boN : Bool → Int
 | true => 1
 | false => 0
theorem dbool_any (q : Bool) (w : World) : Calls Tryz.prog 68 #[.bool q] w fun e w' => e = .returned (.agg #[.int .i64 5, .int .u64 (boN q), .slice none 0 0, .string ⟨#[]⟩, .slice none 0 0]) ∧ Below w.heap.size w w' := by
 cases q
 ·go_enter Tryz.func68, Tryz.ntmps68
  go_wp2
  exact bodyPost_ret (v := .agg #[.int .i64 5, .int .u64 0, .slice none 0 0, .string ⟨#[]⟩, .slice none 0 0]) (by simp [results, Tryz.results68, go_sem]) rfl ⟨rfl, below_al (below_al bR _) _⟩
 ·go_enter Tryz.func68, Tryz.ntmps68
  go_wp2
  exact bodyPost_ret (v := .agg #[.int .i64 5, .int .u64 1, .slice none 0 0, .string ⟨#[]⟩, .slice none 0 0]) (by simp [results, Tryz.results68, go_sem]) rfl ⟨rfl, below_al (below_al bR _) _⟩

def Tk (w : World) (P B : Nat) (l : List It) : Prop :=
 ∃ a c, w.cell? ⟨P, 0, none⟩ = some (.slice a l.length c) ∧ w.frozen? ⟨P, 0, none⟩ = false ∧ P < w.heap.size ∧ B ≤ P ∧ l.length ≤ c ∧ l.length ≤ 140737488355328 ∧ (l = [] ∨ ∃ g o, a = some ⟨g, o, none⟩ ∧ g < B ∧ ItL w B g o l)

theorem Tk.on {w w' : World} {P B : Nat} {l : List It} (h : Tk w P B l) (hb : Below w.heap.size w w') : Tk w' P B l := by
 obtain ⟨a, c, h1, h2, h3, h4, h5, h6, h7⟩ := h
 exact ⟨a, c, (hb.cell (p := ⟨P, 0, none⟩) h3).trans h1, (hb.frozen (p := ⟨P, 0, none⟩) h3).trans h2, Nat.lt_of_lt_of_le h3 hb.size, h4, h5, h6, h7.imp id fun ⟨g, o, e, hg, hl⟩ => ⟨g, o, e, hg, ItL.below (hb.mono (by omega)) hg _ hl⟩⟩

def TkP (w : World) (P B : Nat) (l : List It) (e : Ending) (w' : World) : Prop :=
 But P w w' ∧ ((∃ y r a c A C, l = y :: r ∧ e = .returned (.agg #[.int .i64 y.k, .int .u64 y.n, .slice a y.b.length c, .string ⟨y.s.toArray⟩, .slice A y.l.length C]) ∧ ItV w' B (.agg #[.int .i64 y.k, .int .u64 y.n, .slice a y.b.length c, .string ⟨y.s.toArray⟩, .slice A y.l.length C]) y ∧ Tk w' P B r) ∨ (l = [] ∧ e = gives 180))

theorem dcut_l5 (a : Option Addr) (n cap : Nat) (h1 : 1 ≤ n) (w : World) :
  (Instr.slice 78 (.slice a n cap) (some (.int .i64 1)) none none).run Tryz.prog w = .ok (.slice (if cap = 1 then a else a.map (·.add 5)) (n - 1) (cap - 1)) w := by
 have ht' : Tryz.prog.underlying 78 = some (.slice (Tryz.prog.elem 78)) := by kernel_rfl
 have he : Tryz.prog.elem 78 = 45 := by kernel_rfl
 have h := run_slice_l w 78 a n cap ht' .i64 1 (by omega) (by omega)
 rw [he, psize_item] at h
 rw [h]
 simp [Result.andThen, sliced]

theorem But.newSet {P b i : Nat} {w w' : World} (h : But P w w') (hb : w.heap.size ≤ b) (u : Value) : But P w (w'.setCell ⟨b, i, none⟩ u) :=
 ⟨h.os, h.tape, h.output, by rw [World.size_setCell]; exact h.size, fun k hk hne => (Below.heap_setCell w' _ _ k (by show k ≠ b; omega)).trans (h.block k hk hne)⟩

theorem Tk.newSet {w : World} {P B b i : Nat} {l : List It} (h : Tk w P B l) (hP : b ≠ P) (hB : B ≤ b) (u : Value) : Tk (w.setCell ⟨b, i, none⟩ u) P B l := by
 obtain ⟨a, c, h1, h2, h3, h4, h5, h6, h7⟩ := h
 have hbl : Below B w (w.setCell ⟨b, i, none⟩ u) := (Below.refl B w).setCell (p := ⟨b, i, none⟩) hB u
 exact ⟨a, c, (World.cell?_setCell_other _ _ _ _ (by intro e; injection e with e; exact hP e)).trans h1, (World.frozen?_setCell ..).trans h2, by rw [World.size_setCell]; exact h3, h4, h5, h6, h7.imp id fun ⟨g, o, e, hg, hl⟩ => ⟨g, o, e, hg, ItL.below hbl hg _ hl⟩⟩

theorem put5_tk {w W : World} {P B : Nat} {r : List It} {v : Value} {y : It} (hT : Tk W P B r) (hv : ItV W B v y) (hb : But P w W) (hP : P < w.heap.size) (v0 v1 v2 v3 v4 : Value) :
  But P w (put5 W w.heap.size v0 v1 v2 v3 v4) ∧ ItV (put5 W w.heap.size v0 v1 v2 v3 v4) B v y ∧ Tk (put5 W w.heap.size v0 v1 v2 v3 v4) P B r := by
 have hBP : B ≤ w.heap.size := by
  obtain ⟨_, _, _, _, _, h4, _⟩ := hT
  omega
 have s : ∀ (X : World) (i : Nat) (u : Value), Below B X (X.setCell ⟨w.heap.size, i, none⟩ u) := fun X i u => (Below.refl B X).setCell (p := ⟨w.heap.size, i, none⟩) hBP u
 refine ⟨((((hb.newSet (Nat.le_refl _) _).newSet (Nat.le_refl _) _).newSet (Nat.le_refl _) _).newSet (Nat.le_refl _) _).newSet (Nat.le_refl _) _, ItV.below (s _ _ _) _ (ItV.below (s _ _ _) _ (ItV.below (s _ _ _) _ (ItV.below (s _ _ _) _ (ItV.below (s _ _ _) _ hv)))), ?_⟩
 have hne : w.heap.size ≠ P := by omega
 exact ((((hT.newSet hne hBP _).newSet hne hBP _).newSet hne hBP _).newSet hne hBP _).newSet hne hBP _

theorem dtake_any (P B : Nat) (l : List It) (w : World) (h : Tk w P B l) : Calls Tryz.prog 56 #[.pointer (some ⟨P, 0, none⟩)] w (TkP w P B l) := by
 obtain ⟨a, c, h1, h2, h3, h4, h5, h6, h7⟩ := h
 obtain ⟨W, hW⟩ : ∃ W, W = w.alloc (.cells #[.int .i64 0, .int .u64 0, .slice none 0 0, .string ⟨#[]⟩, .slice none 0 0] 45) := ⟨_, rfl⟩
 have HB : Hid (Below w.heap.size w W) := by rw [hW]; exact below_al bR _
 have HS : Hid (w.heap.size < W.heap.size) := by rw [hW]; simp [Hid]
 have HR : Hid (RowB W w.heap.size [.int .i64 0, .int .u64 0, .slice none 0 0, .string ⟨#[]⟩, .slice none 0 0]) := by rw [hW]; exact RowB.new w _ _
 have k1 : W.cell? ⟨P, 0, none⟩ = some (.slice a l.length c) := (HB.out.cell (p := ⟨P, 0, none⟩) h3).trans h1
 have k2 : W.frozen? ⟨P, 0, none⟩ = false := (HB.out.frozen (p := ⟨P, 0, none⟩) h3).trans h2
 have HW := h_ hW
 rw [hW] at k1 k2
 clear hW h1 h2
 match l, h5, h6, h7 with
 | [], h5, h6, h7 =>
  clear h7
  go_enter Tryz.func56, Tryz.ntmps56
  go_wp2_with fail
  rw [← HW.out]
  refine (dneed_no W).mono ?_
  rintro e w1 ⟨rfl, h9⟩
  rw [← h9]
  clear h9 w1
  rw [gives_def]
  go_wp2_with fail
  exact ⟨rfl, But.of_below HB.out, .inr ⟨rfl, rfl⟩⟩
 | y :: r, h5, h6, h7 =>
  obtain ⟨g, o, rfl, hg, hL⟩ := h7.resolve_left (by simp)
  have hcut := dcut_l5 (some ⟨g, o, none⟩) (y :: r).length c (by simp)
  have hT : ItL w B g (o + 5) r := by simp only [ItL] at hL; exact hL.2
  obtain ⟨a9, ha9⟩ : ∃ a9, a9 = (if c = 1 then some ⟨g, o, none⟩ else (some ⟨g, o, none⟩ : Option Addr).map (·.add 5)) := ⟨_, rfl⟩
  have HA9 : Hid (r = [] ∨ ∃ g' o', a9 = some ⟨g', o', none⟩ ∧ g' < B ∧ ItL w B g' o' r) := by
   by_cases hc : c = 1
   ·left
    exact List.eq_nil_of_length_eq_zero (by simp at h5; omega)
   ·right
    rw [if_neg hc] at ha9
    exact ⟨g, o + 5, by rw [ha9]; simp [Addr.add], hg, hT⟩
  have e1 : (y :: r).length - 1 = r.length := rfl
  rw [← ha9, e1] at hcut
  obtain ⟨N, hN⟩ : ∃ N, N = (y :: r).length := ⟨_, rfl⟩
  have h5' : r.length ≤ c - 1 := by simp at h5; omega
  have h6' : r.length ≤ 140737488355328 := by simp at h6; omega
  have hN0 : 0 < N := by rw [hN]; simp
  have hd : (0 : Int) < (N : Int) := by omega
  rw [← hN] at hcut k1
  obtain ⟨a0, c0, A0, C0, hv, q0, q1, q2, q3, q4⟩ := hL.get (i := 0) (x := y) rfl (HB.out.mono (by omega)) hg
  have HK : Hid ((W.cell? ⟨P, 0, none⟩ = some (.slice (some ⟨g, o, none⟩) N c) ∧ W.frozen? ⟨P, 0, none⟩ = false)) := by rw [Hid, HW.out]; exact ⟨k1, k2⟩
  obtain ⟨W2, hW2⟩ : ∃ V, V = W.setCell ⟨P, 0, none⟩ (.slice a9 r.length (c - 1)) := ⟨_, rfl⟩
  have hPs : P < W.heap.size := Nat.lt_of_lt_of_le h3 HB.out.size
  have hPne : P ≠ w.heap.size := by omega
  have hB2 : But P W W2 := by rw [hW2]; exact But.set _ _
  have hBl : Below B W W2 := hB2.below h4 (by omega)
  have hBw : Below B w W2 := (HB.out.mono (by omega)).trans hBl
  have HV : Hid (ItV W2 B (.agg #[.int .i64 y.k, .int .u64 y.n, .slice a0 y.b.length c0, .string ⟨y.s.toArray⟩, .slice A0 y.l.length C0]) y) := ItV.below hBl y hv
  have HQ : Hid (W2.cell? ⟨g, o, none⟩ = some (.int .i64 y.k) ∧ W2.cell? ⟨g, o + 1, none⟩ = some (.int .u64 y.n) ∧ W2.cell? ⟨g, o + 2, none⟩ = some (.slice a0 y.b.length c0) ∧ W2.cell? ⟨g, o + 3, none⟩ = some (.string ⟨y.s.toArray⟩) ∧ W2.cell? ⟨g, o + 4, none⟩ = some (.slice A0 y.l.length C0)) := by
   simp only [Nat.zero_mul, Nat.add_zero] at q0 q1 q2 q3 q4
   exact ⟨(hBl.cell (p := ⟨g, _, none⟩) hg).trans q0, (hBl.cell (p := ⟨g, _, none⟩) hg).trans q1, (hBl.cell (p := ⟨g, _, none⟩) hg).trans q2, (hBl.cell (p := ⟨g, _, none⟩) hg).trans q3, (hBl.cell (p := ⟨g, _, none⟩) hg).trans q4⟩
  have HR2 : Hid (RowB W2 w.heap.size [.int .i64 0, .int .u64 0, .slice none 0 0, .string ⟨#[]⟩, .slice none 0 0]) := by rw [hW2]; exact HR.out.other hPne _
  have HT2 : Hid (Tk W2 P B r) := by
   refine ⟨a9, c - 1, by rw [hW2]; exact World.cell?_setCell_same _ _ _ HK.out.1, by rw [hW2, World.frozen?_setCell]; exact HK.out.2, by rw [hW2, World.size_setCell]; exact hPs, h4, h5', h6', HA9.out.imp id fun ⟨g', o', e, hg', hl⟩ => ⟨g', o', e, hg', ItL.below hBw hg' _ hl⟩⟩
  have HB2 : Hid (But P w W2) := (But.of_below HB.out).trans hB2
  have HW2 := h_ hW2
  have HS2 : Hid (w.heap.size < W2.heap.size) := by rw [Hid, hW2, World.size_setCell]; exact HS.out
  have HN := h_ hN
  have HP : Hid (P < w.heap.size) := h3
  clear hW2 hB2 hBl hBw hv q0 q1 q2 q3 q4 hT hL h7 h5 h6 h5' h6' ha9 hN e1 hPs
  go_enter Tryz.func56, Tryz.ntmps56
  go_wp2_with fail
  rw [← HW.out]
  refine (dneed_yes W).mono ?_
  rintro e w1 ⟨rfl, h9⟩
  rw [← h9]
  clear h9 w1 k1 k2
  obtain ⟨k1, k2⟩ := HK.out
  go_upto_region 4 with fail
  rw [← HW2.out]
  clear k1 k2 hcut
  obtain ⟨q0, q1, q2, q3, q4⟩ := HQ.out
  obtain ⟨r0, r1, r2, r3, r4⟩ := r5 HR2.out
  obtain ⟨f0, f1, f2, f3, f4⟩ := f5 HR2.out
  go_wp2_with fail
  change bodyPost _ _ _ _ _ (put5 W2 w.heap.size (.int .i64 y.k) (.int .u64 y.n) (.slice a0 y.b.length c0) (.string ⟨y.s.toArray⟩) (.slice A0 y.l.length C0))
  have hc5 := put5_cells r0 r1 r2 r3 r4 (.int .i64 y.k) (.int .u64 y.n) (.slice a0 y.b.length c0) (.string ⟨y.s.toArray⟩) (.slice A0 y.l.length C0)
  have hfin : TkP w P B (y :: r) (.returned (.agg #[.int .i64 y.k, .int .u64 y.n, .slice a0 y.b.length c0, .string ⟨y.s.toArray⟩, .slice A0 y.l.length C0])) (put5 W2 w.heap.size (.int .i64 y.k) (.int .u64 y.n) (.slice a0 y.b.length c0) (.string ⟨y.s.toArray⟩) (.slice A0 y.l.length C0)) := by
   have hp := put5_tk HT2.out HV.out HB2.out HP.out (.int .i64 y.k) (.int .u64 y.n) (.slice a0 y.b.length c0) (.string ⟨y.s.toArray⟩) (.slice A0 y.l.length C0)
   exact ⟨hp.1, .inl ⟨y, r, a0, c0, A0, C0, rfl, rfl, hp.2.1, hp.2.2⟩⟩
  generalize put5 W2 w.heap.size (.int .i64 y.k) (.int .u64 y.n) (.slice a0 y.b.length c0) (.string ⟨y.s.toArray⟩) (.slice A0 y.l.length C0) = w30 at *
  obtain ⟨s0, s1, s2, s3, s4⟩ := hc5
  exact bodyPost_ret (v := .agg #[.int .i64 y.k, .int .u64 y.n, .slice a0 y.b.length c0, .string ⟨y.s.toArray⟩, .slice A0 y.l.length C0]) (by simp [results, Tryz.results56, go_sem, s0, s1, s2, s3, s4]) rfl hfin

attribute [local go_sem] Oper.semAt_some

def tkU (lo hi : Nat) : List It → Option (Nat × List It)
 | [] => none
 | y :: r => if y.k = 1 ∧ (lo : Int) ≤ y.n ∧ y.n ≤ (hi : Int) then some (y.n.toNat, r) else none

def RdK {α : Type} (w : World) (P B : Nat) (r : Option (α × List It)) (val : α → Value) (e : Ending) (w' : World) : Prop :=
 But P w w' ∧ ((∃ (x : α) (l' : List It), r = some (x, l') ∧ e = .returned (val x) ∧ Tk w' P B l') ∨ (r = none ∧ e = gives 180))

theorem tkU_some {lo hi : Nat} {l r : List It} {n : Nat} (h : tkU lo hi l = some (n, r)) : ∃ y, l = y :: r ∧ y.k = 1 ∧ (lo : Int) ≤ y.n ∧ y.n ≤ (hi : Int) ∧ y.n.toNat = n := by
 match l with
 | [] => cases h
 | y :: r' =>
  rw [tkU] at h
  split at h
  ·rename_i hc
   injection h with h
   injection h with h1 h2
   subst h2
   exact ⟨y, rfl, hc.1, hc.2.1, hc.2.2, h1⟩
  ·cases h

theorem dnum_k (P B : Nat) (l : List It) (lo hi : Nat) (hlo : lo ≤ 9223372036854775807) (hhi : hi ≤ 9223372036854775807) (w : World) (h : Tk w P B l) :
  Calls Tryz.prog 36 #[.pointer (some ⟨P, 0, none⟩), .int .i64 lo, .int .i64 hi] w (RdK w P B (tkU lo hi l) (fun n : Nat => .int .i64 n)) := by
 have HT := h_ (dtake_any P B l w h)
 have hwl : IntKind.u64.wrap (lo : Int) = (lo : Int) := by rw [IntKind.wrap_u64]; omega
 have hwh : IntKind.u64.wrap (hi : Int) = (hi : Int) := by rw [IntKind.wrap_u64]; omega
 clear h
 go_enter Tryz.func36, Tryz.ntmps36
 go_wp2_with fail
 refine HT.out.mono ?_
 rintro e w1 ⟨hb, ⟨y, r, a0, c0, A0, C0, rfl, rfl, hv, htk⟩ | ⟨rfl, rfl⟩⟩
 rotate_left
 ·have HB := h_ hb
  clear hb
  rw [gives_def]
  go_wp2_with fail
  exact ⟨rfl, HB.out, .inr ⟨rfl, rfl⟩⟩
 obtain ⟨W, hW⟩ : ∃ W, W = w1.alloc (.cells #[.int .i64 y.k, .int .u64 y.n, .slice a0 y.b.length c0, .string ⟨y.s.toArray⟩, .slice A0 y.l.length C0] 45) := ⟨_, rfl⟩
 have hbW : Below w1.heap.size w1 W := by rw [hW]; exact below_al bR _
 have HB : Hid (But P w W) := hb.trans (But.of_below hbW)
 have HTk := h_ (htk.on hbW)
 have hu := hv.u64
 have HX : Hid (W.cell? ⟨w1.heap.size, 0, none⟩ = some (.int .i64 y.k) ∧ W.cell? ⟨w1.heap.size, 1, none⟩ = some (.int .u64 y.n)) := by
  rw [hW]
  exact ⟨box_at bR 0, box_at bR 1⟩
 have HW := h_ hW
 obtain ⟨x0, x1⟩ := HX.out
 rw [hW] at x0 x1
 have hu0 : 0 ≤ y.n := hu.1
 have hk0 := HT
 clear hW hb hbW hv htk hk0 HT hu
 by_cases h1 : y.k = 1
 ·have d1 : (y.k == 1) = true := by simp [h1]
  by_cases h2 : (lo : Int) ≤ y.n
  ·by_cases h3 : y.n ≤ (hi : Int)
   ·have HE : Hid (tkU lo hi (y :: r) = some (y.n.toNat, r)) := by rw [Hid, tkU, if_pos ⟨h1, h2, h3⟩]
    have HN : Hid ((y.n.toNat : Int) = y.n ∧ y.n.toNat ≤ hi) := ⟨by omega, by omega⟩
    have hwy : IntKind.i64.wrap y.n = y.n := by simp [IntKind.wrap, IntKind.bits, IntKind.signed]; omega
    clear h1
    go_wp2_with fail
    rw [← HW.out]
    refine (dneed_yes W).mono ?_
    rintro e w2 ⟨rfl, h9⟩
    rw [← h9]
    clear h9 w2 x0 x1
    obtain ⟨x0, x1⟩ := HX.out
    go_wp2_with fail
    go_ret
    exact ⟨HB.out, .inl ⟨y.n.toNat, r, HE.out, by show _ = Ending.returned (Value.int .i64 (y.n.toNat : Int)); rw [HN.out.1]; rfl, HTk.out⟩⟩
   ·have HE : Hid (tkU lo hi (y :: r) = none) := by rw [Hid, tkU, if_neg (fun h => h3 h.2.2)]
    have d3 : decide (y.n ≤ (hi : Int)) = false := decide_eq_false h3
    clear h3
    clear h1
    go_wp2_with fail
    rw [← HW.out]
    refine (dneed_no W).mono ?_
    rintro e w2 ⟨rfl, h9⟩
    rw [← h9]
    clear h9 w2 x0 x1
    rw [gives_def]
    go_wp2_with fail
    exact ⟨rfl, HB.out, .inr ⟨HE.out, rfl⟩⟩
  ·have HE : Hid (tkU lo hi (y :: r) = none) := by rw [Hid, tkU, if_neg (fun h => h2 h.2.1)]
   clear h1
   go_wp2_with fail
   rw [← HW.out]
   refine (dneed_no W).mono ?_
   rintro e w2 ⟨rfl, h9⟩
   rw [← h9]
   clear h9 w2 x0 x1
   rw [gives_def]
   go_wp2_with fail
   exact ⟨rfl, HB.out, .inr ⟨HE.out, rfl⟩⟩
 ·have d1 : (y.k == 1) = false := by simp [h1]
  have HE : Hid (tkU lo hi (y :: r) = none) := by rw [Hid, tkU, if_neg (fun h => h1 h.1)]
  clear h1
  go_wp2_with fail
  rw [← HW.out]
  refine (dneed_no W).mono ?_
  rintro e w2 ⟨rfl, h9⟩
  rw [← h9]
  clear h9 w2 x0 x1
  rw [gives_def]
  go_wp2_with fail
  exact ⟨rfl, HB.out, .inr ⟨HE.out, rfl⟩⟩

theorem dnum_i (P B : Nat) (l : List It) (lo hi : Nat) (hlo : lo ≤ 9223372036854775807) (hhi : hi ≤ 9223372036854775807) (w : World) (h : Tk w P B l) :
  Calls Tryz.prog 97 #[.pointer (some ⟨P, 0, none⟩), .int .i64 lo, .int .i64 hi] w (RdK w P B (tkU lo hi l) (fun n : Nat => .int .i64 n)) := by
 have HT := h_ (dtake_any P B l w h)
 have hwl : IntKind.u64.wrap (lo : Int) = (lo : Int) := by rw [IntKind.wrap_u64]; omega
 have hwh : IntKind.u64.wrap (hi : Int) = (hi : Int) := by rw [IntKind.wrap_u64]; omega
 clear h
 go_enter Tryz.func97, Tryz.ntmps97
 go_wp2_with fail
 refine HT.out.mono ?_
 rintro e w1 ⟨hb, ⟨y, r, a0, c0, A0, C0, rfl, rfl, hv, htk⟩ | ⟨rfl, rfl⟩⟩
 rotate_left
 ·have HB := h_ hb
  clear hb
  rw [gives_def]
  go_wp2_with fail
  exact ⟨rfl, HB.out, .inr ⟨rfl, rfl⟩⟩
 obtain ⟨W, hW⟩ : ∃ W, W = w1.alloc (.cells #[.int .i64 y.k, .int .u64 y.n, .slice a0 y.b.length c0, .string ⟨y.s.toArray⟩, .slice A0 y.l.length C0] 45) := ⟨_, rfl⟩
 have hbW : Below w1.heap.size w1 W := by rw [hW]; exact below_al bR _
 have HB : Hid (But P w W) := hb.trans (But.of_below hbW)
 have HTk := h_ (htk.on hbW)
 have hu := hv.u64
 have HX : Hid (W.cell? ⟨w1.heap.size, 0, none⟩ = some (.int .i64 y.k) ∧ W.cell? ⟨w1.heap.size, 1, none⟩ = some (.int .u64 y.n)) := by
  rw [hW]
  exact ⟨box_at bR 0, box_at bR 1⟩
 have HW := h_ hW
 obtain ⟨x0, x1⟩ := HX.out
 rw [hW] at x0 x1
 have hu0 : 0 ≤ y.n := hu.1
 have hk0 := HT
 clear hW hb hbW hv htk hk0 HT hu
 by_cases h1 : y.k = 1
 ·have d1 : (y.k == 1) = true := by simp [h1]
  by_cases h2 : (lo : Int) ≤ y.n
  ·by_cases h3 : y.n ≤ (hi : Int)
   ·have HE : Hid (tkU lo hi (y :: r) = some (y.n.toNat, r)) := by rw [Hid, tkU, if_pos ⟨h1, h2, h3⟩]
    have HN : Hid ((y.n.toNat : Int) = y.n ∧ y.n.toNat ≤ hi) := ⟨by omega, by omega⟩
    have hwy : IntKind.i64.wrap y.n = y.n := by simp [IntKind.wrap, IntKind.bits, IntKind.signed]; omega
    clear h1
    go_wp2_with fail
    rw [← HW.out]
    refine (dneed_yes W).mono ?_
    rintro e w2 ⟨rfl, h9⟩
    rw [← h9]
    clear h9 w2 x0 x1
    obtain ⟨x0, x1⟩ := HX.out
    go_wp2_with fail
    go_ret
    exact ⟨HB.out, .inl ⟨y.n.toNat, r, HE.out, by show _ = Ending.returned (Value.int .i64 (y.n.toNat : Int)); rw [HN.out.1]; rfl, HTk.out⟩⟩
   ·have HE : Hid (tkU lo hi (y :: r) = none) := by rw [Hid, tkU, if_neg (fun h => h3 h.2.2)]
    have d3 : decide (y.n ≤ (hi : Int)) = false := decide_eq_false h3
    clear h3
    clear h1
    go_wp2_with fail
    rw [← HW.out]
    refine (dneed_no W).mono ?_
    rintro e w2 ⟨rfl, h9⟩
    rw [← h9]
    clear h9 w2 x0 x1
    rw [gives_def]
    go_wp2_with fail
    exact ⟨rfl, HB.out, .inr ⟨HE.out, rfl⟩⟩
  ·have HE : Hid (tkU lo hi (y :: r) = none) := by rw [Hid, tkU, if_neg (fun h => h2 h.2.1)]
   clear h1
   go_wp2_with fail
   rw [← HW.out]
   refine (dneed_no W).mono ?_
   rintro e w2 ⟨rfl, h9⟩
   rw [← h9]
   clear h9 w2 x0 x1
   rw [gives_def]
   go_wp2_with fail
   exact ⟨rfl, HB.out, .inr ⟨HE.out, rfl⟩⟩
 ·have d1 : (y.k == 1) = false := by simp [h1]
  have HE : Hid (tkU lo hi (y :: r) = none) := by rw [Hid, tkU, if_neg (fun h => h1 h.1)]
  clear h1
  go_wp2_with fail
  rw [← HW.out]
  refine (dneed_no W).mono ?_
  rintro e w2 ⟨rfl, h9⟩
  rw [← h9]
  clear h9 w2 x0 x1
  rw [gives_def]
  go_wp2_with fail
  exact ⟨rfl, HB.out, .inr ⟨HE.out, rfl⟩⟩

theorem dnum_8 (P B : Nat) (l : List It) (lo hi : Nat) (hlo : lo ≤ 255) (hhi : hi ≤ 255) (w : World) (h : Tk w P B l) :
  Calls Tryz.prog 102 #[.pointer (some ⟨P, 0, none⟩), .int .u8 lo, .int .u8 hi] w (RdK w P B (tkU lo hi l) (fun n : Nat => .int .u8 n)) := by
 have HT := h_ (dtake_any P B l w h)
 have hwl : IntKind.u64.wrap (lo : Int) = (lo : Int) := by rw [IntKind.wrap_u64]; omega
 have hwh : IntKind.u64.wrap (hi : Int) = (hi : Int) := by rw [IntKind.wrap_u64]; omega
 clear h
 go_enter Tryz.func102, Tryz.ntmps102
 go_wp2_with fail
 refine HT.out.mono ?_
 rintro e w1 ⟨hb, ⟨y, r, a0, c0, A0, C0, rfl, rfl, hv, htk⟩ | ⟨rfl, rfl⟩⟩
 rotate_left
 ·have HB := h_ hb
  clear hb
  rw [gives_def]
  go_wp2_with fail
  exact ⟨rfl, HB.out, .inr ⟨rfl, rfl⟩⟩
 obtain ⟨W, hW⟩ : ∃ W, W = w1.alloc (.cells #[.int .i64 y.k, .int .u64 y.n, .slice a0 y.b.length c0, .string ⟨y.s.toArray⟩, .slice A0 y.l.length C0] 45) := ⟨_, rfl⟩
 have hbW : Below w1.heap.size w1 W := by rw [hW]; exact below_al bR _
 have HB : Hid (But P w W) := hb.trans (But.of_below hbW)
 have HTk := h_ (htk.on hbW)
 have hu := hv.u64
 have HX : Hid (W.cell? ⟨w1.heap.size, 0, none⟩ = some (.int .i64 y.k) ∧ W.cell? ⟨w1.heap.size, 1, none⟩ = some (.int .u64 y.n)) := by
  rw [hW]
  exact ⟨box_at bR 0, box_at bR 1⟩
 have HW := h_ hW
 obtain ⟨x0, x1⟩ := HX.out
 rw [hW] at x0 x1
 have hu0 : 0 ≤ y.n := hu.1
 have hk0 := HT
 clear hW hb hbW hv htk hk0 HT hu
 by_cases h1 : y.k = 1
 ·have d1 : (y.k == 1) = true := by simp [h1]
  by_cases h2 : (lo : Int) ≤ y.n
  ·by_cases h3 : y.n ≤ (hi : Int)
   ·have HE : Hid (tkU lo hi (y :: r) = some (y.n.toNat, r)) := by rw [Hid, tkU, if_pos ⟨h1, h2, h3⟩]
    have HN : Hid ((y.n.toNat : Int) = y.n ∧ y.n.toNat ≤ hi) := ⟨by omega, by omega⟩
    have hwy : IntKind.u8.wrap y.n = y.n := by simp [IntKind.wrap, IntKind.bits, IntKind.signed]; omega
    clear h1
    go_wp2_with fail
    rw [← HW.out]
    refine (dneed_yes W).mono ?_
    rintro e w2 ⟨rfl, h9⟩
    rw [← h9]
    clear h9 w2 x0 x1
    obtain ⟨x0, x1⟩ := HX.out
    go_wp2_with fail
    go_ret
    exact ⟨HB.out, .inl ⟨y.n.toNat, r, HE.out, by show _ = Ending.returned (Value.int .u8 (y.n.toNat : Int)); rw [HN.out.1]; rfl, HTk.out⟩⟩
   ·have HE : Hid (tkU lo hi (y :: r) = none) := by rw [Hid, tkU, if_neg (fun h => h3 h.2.2)]
    have d3 : decide (y.n ≤ (hi : Int)) = false := decide_eq_false h3
    clear h3
    clear h1
    go_wp2_with fail
    rw [← HW.out]
    refine (dneed_no W).mono ?_
    rintro e w2 ⟨rfl, h9⟩
    rw [← h9]
    clear h9 w2 x0 x1
    rw [gives_def]
    go_wp2_with fail
    exact ⟨rfl, HB.out, .inr ⟨HE.out, rfl⟩⟩
  ·have HE : Hid (tkU lo hi (y :: r) = none) := by rw [Hid, tkU, if_neg (fun h => h2 h.2.1)]
   clear h1
   go_wp2_with fail
   rw [← HW.out]
   refine (dneed_no W).mono ?_
   rintro e w2 ⟨rfl, h9⟩
   rw [← h9]
   clear h9 w2 x0 x1
   rw [gives_def]
   go_wp2_with fail
   exact ⟨rfl, HB.out, .inr ⟨HE.out, rfl⟩⟩
 ·have d1 : (y.k == 1) = false := by simp [h1]
  have HE : Hid (tkU lo hi (y :: r) = none) := by rw [Hid, tkU, if_neg (fun h => h1 h.1)]
  clear h1
  go_wp2_with fail
  rw [← HW.out]
  refine (dneed_no W).mono ?_
  rintro e w2 ⟨rfl, h9⟩
  rw [← h9]
  clear h9 w2 x0 x1
  rw [gives_def]
  go_wp2_with fail
  exact ⟨rfl, HB.out, .inr ⟨HE.out, rfl⟩⟩

theorem dnum_32 (P B : Nat) (l : List It) (lo hi : Nat) (hlo : lo ≤ 4294967295) (hhi : hi ≤ 4294967295) (w : World) (h : Tk w P B l) :
  Calls Tryz.prog 121 #[.pointer (some ⟨P, 0, none⟩), .int .u32 lo, .int .u32 hi] w (RdK w P B (tkU lo hi l) (fun n : Nat => .int .u32 n)) := by
 have HT := h_ (dtake_any P B l w h)
 have hwl : IntKind.u64.wrap (lo : Int) = (lo : Int) := by rw [IntKind.wrap_u64]; omega
 have hwh : IntKind.u64.wrap (hi : Int) = (hi : Int) := by rw [IntKind.wrap_u64]; omega
 clear h
 go_enter Tryz.func121, Tryz.ntmps121
 go_wp2_with fail
 refine HT.out.mono ?_
 rintro e w1 ⟨hb, ⟨y, r, a0, c0, A0, C0, rfl, rfl, hv, htk⟩ | ⟨rfl, rfl⟩⟩
 rotate_left
 ·have HB := h_ hb
  clear hb
  rw [gives_def]
  go_wp2_with fail
  exact ⟨rfl, HB.out, .inr ⟨rfl, rfl⟩⟩
 obtain ⟨W, hW⟩ : ∃ W, W = w1.alloc (.cells #[.int .i64 y.k, .int .u64 y.n, .slice a0 y.b.length c0, .string ⟨y.s.toArray⟩, .slice A0 y.l.length C0] 45) := ⟨_, rfl⟩
 have hbW : Below w1.heap.size w1 W := by rw [hW]; exact below_al bR _
 have HB : Hid (But P w W) := hb.trans (But.of_below hbW)
 have HTk := h_ (htk.on hbW)
 have hu := hv.u64
 have HX : Hid (W.cell? ⟨w1.heap.size, 0, none⟩ = some (.int .i64 y.k) ∧ W.cell? ⟨w1.heap.size, 1, none⟩ = some (.int .u64 y.n)) := by
  rw [hW]
  exact ⟨box_at bR 0, box_at bR 1⟩
 have HW := h_ hW
 obtain ⟨x0, x1⟩ := HX.out
 rw [hW] at x0 x1
 have hu0 : 0 ≤ y.n := hu.1
 have hk0 := HT
 clear hW hb hbW hv htk hk0 HT hu
 by_cases h1 : y.k = 1
 ·have d1 : (y.k == 1) = true := by simp [h1]
  by_cases h2 : (lo : Int) ≤ y.n
  ·by_cases h3 : y.n ≤ (hi : Int)
   ·have HE : Hid (tkU lo hi (y :: r) = some (y.n.toNat, r)) := by rw [Hid, tkU, if_pos ⟨h1, h2, h3⟩]
    have HN : Hid ((y.n.toNat : Int) = y.n ∧ y.n.toNat ≤ hi) := ⟨by omega, by omega⟩
    have hwy : IntKind.u32.wrap y.n = y.n := by simp [IntKind.wrap, IntKind.bits, IntKind.signed]; omega
    clear h1
    go_wp2_with fail
    rw [← HW.out]
    refine (dneed_yes W).mono ?_
    rintro e w2 ⟨rfl, h9⟩
    rw [← h9]
    clear h9 w2 x0 x1
    obtain ⟨x0, x1⟩ := HX.out
    go_wp2_with fail
    go_ret
    exact ⟨HB.out, .inl ⟨y.n.toNat, r, HE.out, by show _ = Ending.returned (Value.int .u32 (y.n.toNat : Int)); rw [HN.out.1]; rfl, HTk.out⟩⟩
   ·have HE : Hid (tkU lo hi (y :: r) = none) := by rw [Hid, tkU, if_neg (fun h => h3 h.2.2)]
    have d3 : decide (y.n ≤ (hi : Int)) = false := decide_eq_false h3
    clear h3
    clear h1
    go_wp2_with fail
    rw [← HW.out]
    refine (dneed_no W).mono ?_
    rintro e w2 ⟨rfl, h9⟩
    rw [← h9]
    clear h9 w2 x0 x1
    rw [gives_def]
    go_wp2_with fail
    exact ⟨rfl, HB.out, .inr ⟨HE.out, rfl⟩⟩
  ·have HE : Hid (tkU lo hi (y :: r) = none) := by rw [Hid, tkU, if_neg (fun h => h2 h.2.1)]
   clear h1
   go_wp2_with fail
   rw [← HW.out]
   refine (dneed_no W).mono ?_
   rintro e w2 ⟨rfl, h9⟩
   rw [← h9]
   clear h9 w2 x0 x1
   rw [gives_def]
   go_wp2_with fail
   exact ⟨rfl, HB.out, .inr ⟨HE.out, rfl⟩⟩
 ·have d1 : (y.k == 1) = false := by simp [h1]
  have HE : Hid (tkU lo hi (y :: r) = none) := by rw [Hid, tkU, if_neg (fun h => h1 h.1)]
  clear h1
  go_wp2_with fail
  rw [← HW.out]
  refine (dneed_no W).mono ?_
  rintro e w2 ⟨rfl, h9⟩
  rw [← h9]
  clear h9 w2 x0 x1
  rw [gives_def]
  go_wp2_with fail
  exact ⟨rfl, HB.out, .inr ⟨HE.out, rfl⟩⟩

theorem dnum_64 (P B : Nat) (l : List It) (lo hi : Nat) (hlo : lo ≤ 18446744073709551615) (hhi : hi ≤ 18446744073709551615) (w : World) (h : Tk w P B l) :
  Calls Tryz.prog 119 #[.pointer (some ⟨P, 0, none⟩), .int .u64 lo, .int .u64 hi] w (RdK w P B (tkU lo hi l) (fun n : Nat => .int .u64 n)) := by
 have HT := h_ (dtake_any P B l w h)
 have hwl : IntKind.u64.wrap (lo : Int) = (lo : Int) := by rw [IntKind.wrap_u64]; omega
 have hwh : IntKind.u64.wrap (hi : Int) = (hi : Int) := by rw [IntKind.wrap_u64]; omega
 clear h
 go_enter Tryz.func119, Tryz.ntmps119
 go_wp2_with fail
 refine HT.out.mono ?_
 rintro e w1 ⟨hb, ⟨y, r, a0, c0, A0, C0, rfl, rfl, hv, htk⟩ | ⟨rfl, rfl⟩⟩
 rotate_left
 ·have HB := h_ hb
  clear hb
  rw [gives_def]
  go_wp2_with fail
  exact ⟨rfl, HB.out, .inr ⟨rfl, rfl⟩⟩
 obtain ⟨W, hW⟩ : ∃ W, W = w1.alloc (.cells #[.int .i64 y.k, .int .u64 y.n, .slice a0 y.b.length c0, .string ⟨y.s.toArray⟩, .slice A0 y.l.length C0] 45) := ⟨_, rfl⟩
 have hbW : Below w1.heap.size w1 W := by rw [hW]; exact below_al bR _
 have HB : Hid (But P w W) := hb.trans (But.of_below hbW)
 have HTk := h_ (htk.on hbW)
 have hu := hv.u64
 have HX : Hid (W.cell? ⟨w1.heap.size, 0, none⟩ = some (.int .i64 y.k) ∧ W.cell? ⟨w1.heap.size, 1, none⟩ = some (.int .u64 y.n)) := by
  rw [hW]
  exact ⟨box_at bR 0, box_at bR 1⟩
 have HW := h_ hW
 obtain ⟨x0, x1⟩ := HX.out
 rw [hW] at x0 x1
 have hu0 : 0 ≤ y.n := hu.1
 have hk0 := HT
 clear hW hb hbW hv htk hk0 HT hu
 by_cases h1 : y.k = 1
 ·have d1 : (y.k == 1) = true := by simp [h1]
  by_cases h2 : (lo : Int) ≤ y.n
  ·by_cases h3 : y.n ≤ (hi : Int)
   ·have HE : Hid (tkU lo hi (y :: r) = some (y.n.toNat, r)) := by rw [Hid, tkU, if_pos ⟨h1, h2, h3⟩]
    have HN : Hid ((y.n.toNat : Int) = y.n ∧ y.n.toNat ≤ hi) := ⟨by omega, by omega⟩
    have hwy : IntKind.u64.wrap y.n = y.n := by simp [IntKind.wrap, IntKind.bits, IntKind.signed]; omega
    clear h1
    go_wp2_with fail
    rw [← HW.out]
    refine (dneed_yes W).mono ?_
    rintro e w2 ⟨rfl, h9⟩
    rw [← h9]
    clear h9 w2 x0 x1
    obtain ⟨x0, x1⟩ := HX.out
    go_wp2_with fail
    go_ret
    exact ⟨HB.out, .inl ⟨y.n.toNat, r, HE.out, by show _ = Ending.returned (Value.int .u64 (y.n.toNat : Int)); rw [HN.out.1]; rfl, HTk.out⟩⟩
   ·have HE : Hid (tkU lo hi (y :: r) = none) := by rw [Hid, tkU, if_neg (fun h => h3 h.2.2)]
    have d3 : decide (y.n ≤ (hi : Int)) = false := decide_eq_false h3
    clear h3
    clear h1
    go_wp2_with fail
    rw [← HW.out]
    refine (dneed_no W).mono ?_
    rintro e w2 ⟨rfl, h9⟩
    rw [← h9]
    clear h9 w2 x0 x1
    rw [gives_def]
    go_wp2_with fail
    exact ⟨rfl, HB.out, .inr ⟨HE.out, rfl⟩⟩
  ·have HE : Hid (tkU lo hi (y :: r) = none) := by rw [Hid, tkU, if_neg (fun h => h2 h.2.1)]
   clear h1
   go_wp2_with fail
   rw [← HW.out]
   refine (dneed_no W).mono ?_
   rintro e w2 ⟨rfl, h9⟩
   rw [← h9]
   clear h9 w2 x0 x1
   rw [gives_def]
   go_wp2_with fail
   exact ⟨rfl, HB.out, .inr ⟨HE.out, rfl⟩⟩
 ·have d1 : (y.k == 1) = false := by simp [h1]
  have HE : Hid (tkU lo hi (y :: r) = none) := by rw [Hid, tkU, if_neg (fun h => h1 h.1)]
  clear h1
  go_wp2_with fail
  rw [← HW.out]
  refine (dneed_no W).mono ?_
  rintro e w2 ⟨rfl, h9⟩
  rw [← h9]
  clear h9 w2 x0 x1
  rw [gives_def]
  go_wp2_with fail
  exact ⟨rfl, HB.out, .inr ⟨HE.out, rfl⟩⟩

attribute [local go_sem] Oper.semAt_some

theorem rdU_one (w : World) (x : Int) : RdU (w.alloc (.cells #[.int .u64 x] 28)) (w.heap.size + 1) (some ⟨w.heap.size, 0, none⟩) [x] := by
 refine .inr ⟨w.heap.size, 0, rfl, Nat.lt_succ_self _, fun j hj => ?_⟩
 obtain rfl : j = 0 := by simp at hj; omega
 simp

theorem check_one (a : Int) (w : World) :
  Calls Tryz.prog 120 #[.slice (some ⟨w.heap.size, 0, none⟩) 1 1] (w.alloc (.cells #[.int .u64 a] 28)) fun e w' => e = .returned (.int .i64 (chkT (isT a))) ∧ w.alloc (.cells #[.int .u64 a] 28) = w' := by
 have H := h_ (withinT_any (some ⟨w.heap.size, 0, none⟩) 1 (w.heap.size + 1) [a] (w.alloc (.cells #[.int .u64 a] 28)) (by simp) (rdU_one w a))
 have hv : allT [a] 1 ↔ isT a = true := by
  constructor
  ·intro h
   exact h 0 (by omega)
  ·intro h0 j hj
   obtain rfl : j = 0 := by omega
   exact h0
 cases hq : isT a
 ·rw [hq] at hv
  have HV := h_ hv
  clear hv hq
  generalize w.alloc (.cells #[.int .u64 a] 28) = W at H ⊢
  go_enter Tryz.func120, Tryz.ntmps120
  go_wp2
  refine wp_scope_on 0 rfl ?_
  go_wp2_with fail
  refine H.out.mono ?_
  rintro e w' ⟨⟨rfl, h⟩ | ⟨rfl, h⟩, rfl⟩
  ·exact absurd (HV.out.1 h) (by simp)
  ·clear h
   go_wp2
   go_step3
   refine ⟨rfl, ?_⟩
   show Code.wp _ _ _ _ _
   go_wp2
   rw [Exit.noGoto_ret]
   go_ret
   exact ⟨rfl, rfl⟩
 ·rw [hq] at hv
  have HV := h_ hv
  clear hv hq
  generalize w.alloc (.cells #[.int .u64 a] 28) = W at H ⊢
  go_enter Tryz.func120, Tryz.ntmps120
  go_wp2
  refine wp_scope_on 0 rfl ?_
  go_wp2_with fail
  refine H.out.mono ?_
  rintro e w' ⟨⟨rfl, h⟩ | ⟨rfl, h⟩, rfl⟩
  ·clear h
   go_wp2
   simp only [Exit.jump]
   go_ret
   exact ⟨rfl, rfl⟩
  ·exact absurd (HV.out.2 trivial) h

theorem dshort_any (P B : Nat) (l : List It) (w : World) (h : Tk w P B l) : Calls Tryz.prog 99 #[.pointer (some ⟨P, 0, none⟩)] w (RdK w P B (tkU 0 4294967295 l) (fun n : Nat => .int .u64 n)) := by
 have HN := h_ (dnum_64 P B l 0 4294967295 (by decide) (by decide) w h)
 clear h
 go_enter Tryz.func99, Tryz.ntmps99
 go_wp2_with fail
 refine HN.out.mono ?_
 rintro e w1 ⟨hb, ⟨n, r, hn, rfl, ht⟩ | ⟨hn, rfl⟩⟩
 ·have HB := h_ hb
  have HE := h_ hn
  have HT := h_ ht
  clear hb hn ht
  go_wp2_with fail
  go_ret
  exact ⟨HB.out, .inl ⟨n, r, HE.out, rfl, HT.out⟩⟩
 ·have HB := h_ hb
  have HE := h_ hn
  clear hb hn
  rw [gives_def]
  go_wp2_with fail
  exact ⟨rfl, HB.out, .inr ⟨HE.out, rfl⟩⟩

theorem dplace_any (P B : Nat) (l : List It) (w : World) (h : Tk w P B l) : Calls Tryz.prog 100 #[.pointer (some ⟨P, 0, none⟩)] w (RdK w P B (tkU 1 4294967295 l) (fun n : Nat => .int .u32 n)) := by
 have HN := h_ (dnum_32 P B l 1 4294967295 (by decide) (by decide) w h)
 clear h
 go_enter Tryz.func100, Tryz.ntmps100
 go_wp2_with fail
 refine HN.out.mono ?_
 rintro e w1 ⟨hb, ⟨n, r, hn, rfl, ht⟩ | ⟨hn, rfl⟩⟩
 ·have HB := h_ hb
  have HE := h_ hn
  have HT := h_ ht
  clear hb hn ht
  go_wp2_with fail
  go_ret
  exact ⟨HB.out, .inl ⟨n, r, HE.out, rfl, HT.out⟩⟩
 ·have HB := h_ hb
  have HE := h_ hn
  clear hb hn
  rw [gives_def]
  go_wp2_with fail
  exact ⟨rfl, HB.out, .inr ⟨HE.out, rfl⟩⟩

def tkT (l : List It) : Option (Nat × List It) := match tkU 0 18446744073709551615 l with
 | none => none
 | some (n, r) => if isT n = true then some (n, r) else none
theorem tkT_none {l : List It} (h : tkU 0 18446744073709551615 l = none) : tkT l = none := by rw [tkT, h]
theorem tkT_some {l r : List It} {n : Nat} (h : tkU 0 18446744073709551615 l = some (n, r)) : tkT l = if isT n = true then some (n, r) else none := by rw [tkT, h]
theorem chkT_b (q : Bool) : (chkT q == 0) = q := by cases q <;> rfl

theorem dtime_any (P B : Nat) (l : List It) (w : World) (h : Tk w P B l) : Calls Tryz.prog 98 #[.pointer (some ⟨P, 0, none⟩)] w (RdK w P B (tkT l) (fun n : Nat => .int .u64 n)) := by
 have HN := h_ (dnum_64 P B l 0 18446744073709551615 (by decide) (by decide) w h)
 clear h
 go_enter Tryz.func98, Tryz.ntmps98
 go_wp2_with fail
 refine HN.out.mono ?_
 rintro e w1 ⟨hb, ⟨n, r, hn, rfl, ht⟩ | ⟨hn, rfl⟩⟩
 ·have HB := h_ hb
  have HT := h_ ht
  have hE := tkT_some hn
  have HC := h_ (check_one (n : Int) w1)
  obtain ⟨q, hq⟩ : ∃ q, q = isT (n : Int) := ⟨_, rfl⟩
  rw [← hq] at hE HC
  obtain ⟨z, hz⟩ : ∃ z, z = chkT q := ⟨_, rfl⟩
  have hzq : (z == 0) = q := by rw [hz]; exact chkT_b q
  rw [← hz] at HC
  have HE := h_ hE
  clear hb hn ht hE hq hz
  go_wp2_with fail
  refine HC.out.mono ?_
  rintro e w2 ⟨rfl, h9⟩
  rw [← h9]
  clear h9 w2
  obtain ⟨w3, hw3⟩ : ∃ w3, w3 = w1.alloc (.cells #[.int .u64 n] 28) := ⟨_, rfl⟩
  have hb3 : Below w1.heap.size w1 w3 := by rw [hw3]; exact below_al bR _
  have HB3 : Hid (But P w w3) := HB.out.trans (But.of_below hb3)
  have HT3 := h_ (HT.out.on hb3)
  rw [← hw3]
  clear hb3 hw3
  go_wp2_with fail
  refine (dneed_any q w3).mono ?_
  rintro e w4 ⟨h9, ⟨rfl, rfl⟩ | ⟨rfl, rfl⟩⟩
  ·rw [← h9]
   clear h9 w4
   go_wp2_with fail
   go_ret
   exact ⟨HB3.out, .inl ⟨n, r, by rw [HE.out]; rfl, rfl, HT3.out⟩⟩
  ·rw [← h9]
   clear h9 w4
   rw [gives_def]
   go_wp2_with fail
   exact ⟨rfl, HB3.out, .inr ⟨by rw [HE.out]; rfl, rfl⟩⟩
 ·have HB := h_ hb
  have HE := h_ (tkT_none hn)
  clear hb hn
  rw [gives_def]
  go_wp2_with fail
  exact ⟨rfl, HB.out, .inr ⟨HE.out, rfl⟩⟩

def tkB : List It → Option (Bool × List It)
 | [] => none
 | y :: r => if y.k = 5 then some (y.n == 1, r) else none

theorem dtruth_any (P B : Nat) (l : List It) (w : World) (h : Tk w P B l) : Calls Tryz.prog 101 #[.pointer (some ⟨P, 0, none⟩)] w (RdK w P B (tkB l) (fun q : Bool => .bool q)) := by
 have HT := h_ (dtake_any P B l w h)
 clear h
 go_enter Tryz.func101, Tryz.ntmps101
 go_wp2_with fail
 refine HT.out.mono ?_
 rintro e w1 ⟨hb, ⟨y, r, a0, c0, A0, C0, rfl, rfl, hv, htk⟩ | ⟨rfl, rfl⟩⟩
 rotate_left
 ·have HB := h_ hb
  clear hb
  rw [gives_def]
  go_wp2_with fail
  exact ⟨rfl, HB.out, .inr ⟨rfl, rfl⟩⟩
 obtain ⟨W, hW⟩ : ∃ W, W = w1.alloc (.cells #[.int .i64 y.k, .int .u64 y.n, .slice a0 y.b.length c0, .string ⟨y.s.toArray⟩, .slice A0 y.l.length C0] 45) := ⟨_, rfl⟩
 have hbW : Below w1.heap.size w1 W := by rw [hW]; exact below_al bR _
 have HB : Hid (But P w W) := hb.trans (But.of_below hbW)
 have HTk := h_ (htk.on hbW)
 have HX : Hid (W.cell? ⟨w1.heap.size, 0, none⟩ = some (.int .i64 y.k) ∧ W.cell? ⟨w1.heap.size, 1, none⟩ = some (.int .u64 y.n)) := by
  rw [hW]
  exact ⟨box_at bR 0, box_at bR 1⟩
 have HW := h_ hW
 obtain ⟨x0, x1⟩ := HX.out
 rw [hW] at x0 x1
 clear hW hb hbW hv htk HT
 by_cases h1 : y.k = 5
 ·have d1 : (y.k == 5) = true := by simp [h1]
  have HE : Hid (tkB (y :: r) = some (y.n == 1, r)) := by rw [Hid, tkB, if_pos h1]
  clear h1
  go_wp2_with fail
  rw [← HW.out]
  refine (dneed_yes W).mono ?_
  rintro e w2 ⟨rfl, h9⟩
  rw [← h9]
  clear h9 w2 x0 x1
  obtain ⟨x0, x1⟩ := HX.out
  go_wp2_with fail
  go_ret
  exact ⟨HB.out, .inl ⟨y.n == 1, r, HE.out, rfl, HTk.out⟩⟩
 ·have d1 : (y.k == 5) = false := by simp [h1]
  have HE : Hid (tkB (y :: r) = none) := by rw [Hid, tkB, if_neg h1]
  clear h1
  go_wp2_with fail
  rw [← HW.out]
  refine (dneed_no W).mono ?_
  rintro e w2 ⟨rfl, h9⟩
  rw [← h9]
  clear h9 w2 x0 x1
  rw [gives_def]
  go_wp2_with fail
  exact ⟨rfl, HB.out, .inr ⟨HE.out, rfl⟩⟩

def tkN : List It → Option ((Nat × Nat × Nat × Nat) × List It)
 | [] => none
 | y :: r => match nmI y with
  | some p => some (p, r)
  | none => none
def dnmV (p : Nat × Nat × Nat × Nat) : Value := .agg #[.int .u32 p.1, .int .u32 p.2.1, .int .u64 p.2.2.1, .int .u32 p.2.2.2]

theorem dname_any (P B : Nat) (l : List It) (w : World) (hd : ∀ y ∈ l, y.depth ≤ 60000) (h : Tk w P B l) : Calls Tryz.prog 96 #[.pointer (some ⟨P, 0, none⟩)] w (RdK w P B (tkN l) dnmV) := by
 obtain ⟨W, hW⟩ : ∃ W, W = w.alloc (.cells #[.int .u32 0, .int .u32 0, .int .u64 0, .int .u32 0] 30) := ⟨_, rfl⟩
 have hbW : Below w.heap.size w W := by rw [hW]; exact below_al bR _
 have HBW : Hid (But P w W) := But.of_below hbW
 have hPs : P < w.heap.size := by
  obtain ⟨_, _, _, _, h3, _⟩ := h
  exact h3
 have HPs := h_ hPs
 have HT := h_ (dtake_any P B l W (h.on hbW))
 have HS : Hid (w.heap.size < W.heap.size) := by rw [Hid, hW]; simp
 have HR : Hid (RowB W w.heap.size [.int .u32 0, .int .u32 0, .int .u64 0, .int .u32 0]) := by rw [hW]; exact RowB.new w _ _
 have HDp := h_ hd
 have HW := h_ hW
 clear h hW hbW hPs hd
 go_enter Tryz.func96, Tryz.ntmps96
 go_wp2_with fail
 rw [← HW.out]
 refine HT.out.mono ?_
 rintro e w1 ⟨hb, ⟨y, r, a0, c0, A0, C0, rfl, rfl, hv, htk⟩ | ⟨rfl, rfl⟩⟩
 rotate_left
 ·have HB := h_ (HBW.out.trans hb)
  clear hb
  rw [gives_def]
  go_wp2_with fail
  exact ⟨rfl, HB.out, .inr ⟨rfl, rfl⟩⟩
 have hBs : B ≤ w1.heap.size := by
  obtain ⟨_, _, _, _, h3, h4, _⟩ := htk
  omega
 have HN := h_ (nof_any y _ w1 (HDp.out y (by simp)) (ItV.mono hBs _ hv))
 have HB1 : Hid (But P w w1) := HBW.out.trans hb
 have HTk := h_ htk
 have HR1 : Hid (RowB w1 w.heap.size [.int .u32 0, .int .u32 0, .int .u64 0, .int .u32 0]) := ⟨fun i v hi => (hb.cell HS.out (by have := HPs.out; omega)).trans (HR.out.1 i v hi), fun i => (hb.frozen HS.out (by have := HPs.out; omega)).trans (HR.out.2 i)⟩
 have HS1 : Hid (w.heap.size < w1.heap.size) := Nat.lt_of_lt_of_le HS.out hb.size
 clear hb hv htk hBs
 go_wp2_with fail
 refine HN.out.mono ?_
 rintro e w2 ⟨hb2, hm⟩
 have HB2 : Hid (But P w w2) := HB1.out.trans (But.of_below hb2)
 have HT2 := h_ (HTk.out.on hb2)
 have HR2 := h_ (HR1.out.on hb2 HS1.out)
 have HS2 : Hid (w.heap.size < w2.heap.size) := Nat.lt_of_lt_of_le HS1.out hb2.size
 cases hn : nmI y with
 | none =>
  rw [rdNI, hn] at hm
  have hm : e = .returned (.tuple #[.agg #[.int .u32 0, .int .u32 0, .int .u64 0, .int .u32 0], .int .i64 130]) := hm
  subst hm
  have HE : Hid (tkN (y :: r) = none) := by rw [Hid, tkN, hn]
  have HB3 : Hid (But P w (w2.alloc (.cells #[.int .u32 0, .int .u32 0, .int .u64 0, .int .u32 0] 30))) := HB2.out.trans (But.of_below (below_al bR _))
  clear hn hb2
  go_wp2_with fail
  refine (dneed_no _).mono ?_
  rintro e w3 ⟨rfl, h9⟩
  rw [← h9]
  clear h9 w3
  rw [gives_def]
  go_wp2_with fail
  exact ⟨rfl, HB3.out, .inr ⟨HE.out, rfl⟩⟩
 | some p =>
  obtain ⟨n, m, t, q⟩ := p
  rw [rdNI, hn] at hm
  have hm : e = .returned (.tuple #[.agg #[.int .u32 n, .int .u32 m, .int .u64 t, .int .u32 q], .int .i64 0]) := hm
  subst hm
  have HE : Hid (tkN (y :: r) = some ((n, m, t, q), r)) := by rw [Hid, tkN, hn]
  obtain ⟨w3, hw3⟩ : ∃ w3, w3 = w2.alloc (.cells #[.int .u32 n, .int .u32 m, .int .u64 t, .int .u32 q] 30) := ⟨_, rfl⟩
  have hb3 : Below w2.heap.size w2 w3 := by rw [hw3]; exact below_al bR _
  have HB3 : Hid (But P w w3) := HB2.out.trans (But.of_below hb3)
  have HT3 := h_ (HT2.out.on hb3)
  have HR3 := h_ (HR2.out.on hb3 HS2.out)
  have HQ3 : Hid (RowB w3 w2.heap.size [.int .u32 n, .int .u32 m, .int .u64 t, .int .u32 q]) := by rw [hw3]; exact RowB.new w2 _ _
  have HW3 := h_ hw3
  clear hn hb2 hb3 hw3
  go_wp2_with fail
  rw [← HW3.out]
  refine (dneed_yes _).mono ?_
  rintro e w4 ⟨rfl, h9⟩
  rw [← h9]
  clear h9 w4
  have y0 := HQ3.out.1 0 _ rfl
  have y1 := HQ3.out.1 1 _ rfl
  have y2 := HQ3.out.1 2 _ rfl
  have y3 := HQ3.out.1 3 _ rfl
  have r0 := HR3.out.1 0 _ rfl
  have r1 := HR3.out.1 1 _ rfl
  have r2 := HR3.out.1 2 _ rfl
  have r3 := HR3.out.1 3 _ rfl
  have f0 := HR3.out.2 0
  have f1 := HR3.out.2 1
  have f2 := HR3.out.2 2
  have f3 := HR3.out.2 3
  go_wp2_with fail
  change bodyPost _ _ _ _ _ ((((w3.setCell ⟨w.heap.size, 0, none⟩ (.int .u32 n)).setCell ⟨w.heap.size, 1, none⟩ (.int .u32 m)).setCell ⟨w.heap.size, 2, none⟩ (.int .u64 t)).setCell ⟨w.heap.size, 3, none⟩ (.int .u32 q))
  have hrow := (((HR3.out.set 0 (.int .u32 n)).set 1 (.int .u32 m)).set 2 (.int .u64 t)).set 3 (.int .u32 q)
  have hP : w.heap.size ≠ P := by have := HPs.out; omega
  have hB : B ≤ w.heap.size := by
   obtain ⟨_, _, _, _, _, h4, _⟩ := HT3.out
   have := HPs.out
   omega
  have hfin : RdK w P B (tkN (y :: r)) dnmV (.returned (.agg #[.int .u32 n, .int .u32 m, .int .u64 t, .int .u32 q])) ((((w3.setCell ⟨w.heap.size, 0, none⟩ (.int .u32 n)).setCell ⟨w.heap.size, 1, none⟩ (.int .u32 m)).setCell ⟨w.heap.size, 2, none⟩ (.int .u64 t)).setCell ⟨w.heap.size, 3, none⟩ (.int .u32 q)) :=
   ⟨((((HB3.out.newSet (Nat.le_refl _) _).newSet (Nat.le_refl _) _).newSet (Nat.le_refl _) _).newSet (Nat.le_refl _) _), .inl ⟨_, r, HE.out, rfl, (((HT3.out.newSet hP hB _).newSet hP hB _).newSet hP hB _).newSet hP hB _⟩⟩
  generalize (((w3.setCell ⟨w.heap.size, 0, none⟩ (.int .u32 n)).setCell ⟨w.heap.size, 1, none⟩ (.int .u32 m)).setCell ⟨w.heap.size, 2, none⟩ (.int .u64 t)).setCell ⟨w.heap.size, 3, none⟩ (.int .u32 q) = w30 at *
  have k0 := hrow.1 0 _ rfl
  have k1 := hrow.1 1 _ rfl
  have k2 := hrow.1 2 _ rfl
  have k3 := hrow.1 3 _ rfl
  exact bodyPost_ret (v := .agg #[.int .u32 n, .int .u32 m, .int .u64 t, .int .u32 q]) (by simp [results, Tryz.results96, go_sem, k0, k1, k2, k3]) rfl hfin

attribute [local go_sem] Oper.semAt_some

structure Rc where
 k : Int
 n : Nat
 m : Nat
 t : Nat
 q : Nat
 wh : Int
 wy : Int
 at0 : Nat
 no : Nat
 nd : Nat
 rg : Nat
 ys : Bool
 fr : Nat
 un : Nat
 lv : Nat
def Rc.cells (x : Rc) : List Value := [.int .i64 x.k, .int .u32 x.n, .int .u32 x.m, .int .u64 x.t, .int .u32 x.q, .int .i64 x.wh, .int .i64 x.wy, .int .u64 x.at0, .int .u64 x.no, .int .u32 x.nd, .int .u32 x.rg, .bool x.ys, .int .u64 x.fr, .int .u64 x.un, .int .u8 x.lv]
def Rc.val (x : Rc) : Value := .agg #[.int .i64 x.k, .int .u32 x.n, .int .u32 x.m, .int .u64 x.t, .int .u32 x.q, .int .i64 x.wh, .int .i64 x.wy, .int .u64 x.at0, .int .u64 x.no, .int .u32 x.nd, .int .u32 x.rg, .bool x.ys, .int .u64 x.fr, .int .u64 x.un, .int .u8 x.lv]

def putL (w : World) (b : Nat) : Nat → List Value → World
 | _, [] => w
 | i, v :: vs => putL (w.setCell ⟨b, i, none⟩ v) b (i + 1) vs
def setL {α : Type} : List α → Nat → List α → List α
 | us, _, [] => us
 | us, i, v :: vs => setL (us.set i v) (i + 1) vs
theorem putL_row {b : Nat} : ∀ (vs us : List Value) (i : Nat) (w : World), RowB w b us → RowB (putL w b i vs) b (setL us i vs)
 | [], us, i, w, h => h
 | v :: vs, us, i, w, h => putL_row vs _ (i + 1) _ (h.set i v)
theorem putL_but {P b : Nat} {w : World} (hb : w.heap.size ≤ b) : ∀ (vs : List Value) (i : Nat) (w' : World), But P w w' → But P w (putL w' b i vs)
 | [], i, w', h => h
 | v :: vs, i, w', h => putL_but hb vs (i + 1) _ (h.newSet hb v)
theorem putL_tk {P B b : Nat} {l : List It} (hP : b ≠ P) (hB : B ≤ b) : ∀ (vs : List Value) (i : Nat) (w : World), Tk w P B l → Tk (putL w b i vs) P B l
 | [], i, w, h => h
 | v :: vs, i, w, h => putL_tk hP hB vs (i + 1) _ (h.newSet hP hB v)
theorem RowB.but {w w' : World} {P b : Nat} {vs : List Value} (h : RowB w b vs) (hb : But P w w') (hs : b < w.heap.size) (hne : b ≠ P) : RowB w' b vs :=
 ⟨fun i v hv => (hb.cell hs hne).trans (h.1 i v hv), fun i => (hb.frozen hs hne).trans (h.2 i)⟩

theorem Tk.box {w : World} {P B : Nat} {l : List It} (h : Tk w P B l) : P < w.heap.size ∧ B ≤ P := by
 obtain ⟨_, _, _, _, h3, h4, _⟩ := h
 exact ⟨h3, h4⟩

end Go.Proofs.YteldifnkeekafaaGreatDoor
