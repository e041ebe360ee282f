/- BlockTypes, walked. -/
import Derived.Test.YtpffmpjdkpfpmaaGreatDoorZBlE
import Derived.Test.YtpffmpjdkpfpmaaGreatDoorZBlG
namespace Go.Proofs.YtpffmpjdkpfpmaaGreatDoor
open Go Go.RowKit Go.Shelf
set_option linter.unusedSimpArgs false
set_option linter.unusedVariables false
set_option maxRecDepth 100000

attribute [local go_sem] Oper.semAt_some

theorem few_yes {l : List Bl} {m : Int} (h : fewB l m = true) : (l.length : Int) ≤ m := by
  unfold fewB at h
  simp only [Bool.and_eq_true, decide_eq_true_eq] at h
  exact h.2
theorem sameB_self (x : Bl) : sameB x x = true := (sameB_iff x x).2 rfl

theorem notR {n0 n1 B nb : Nat} {X : World} (h1 : n1 ≤ nb) (h2 : nb < B) : ¬ SinceB (fun b => n0 ≤ b ∧ b < n1) (B + 2) X nb := fun h => h.elim (fun h => absurd h.2 (Nat.not_lt.2 h1)) (fun h => by have := h.1; omega)
/-- What the box of a number holds. -/
def atB (ab : Nat) (X : World) : Nat := match X.cell? ⟨ab, 0, none⟩ with | some (.int _ z) => z.toNat | _ => 0
theorem atB_eq {ab p : Nat} {X : World} {t : TypeId} (h : Boxed X ab t (.int .i64 p)) : atB ab X = p := by
  unfold atB
  rw [h.cell]
  simp
theorem boxed_lt {X : World} {b : Nat} {t : TypeId} {v : Value} (h : Boxed X b t v) : b < X.heap.size := (Array.getElem?_eq_some_iff.1 h).1
theorem boxed_on {X Y : World} {b : Nat} {t : TypeId} {v : Value} (h : Boxed X b t v) (hb : Below X.heap.size X Y) : Boxed Y b t v := (hb.block b (boxed_lt h)).trans h
theorem keeps_on {B : Nat} {X Y Z : World} (h : KeepsFrom B X Y) (hb : Below Y.heap.size Y Z) : KeepsFrom B X Z := h.trans ⟨hb.size, fun i o' hi ho _ => (hb.block i (Array.getElem?_eq_some_iff.1 ho).1).trans ho⟩
theorem keepB_on {n0 n1 B : Nat} {X Y Z : World} (h : KeepB (SinceB (fun b => n0 ≤ b ∧ b < n1) B X) X Y) (hb : Below Y.heap.size Y Z) (hn : n1 ≤ Y.heap.size) (hx : X.heap.size ≤ Y.heap.size) : KeepB (SinceB (fun b => n0 ≤ b ∧ b < n1) B X) X Z := fun b hs =>
  (hb.block b (by
    rcases hs with hs | hs
    · have := hs.2
      omega
    · have := hs.2
      omega)).trans (h b hs)

/-- Where nothing but the end is a way out. -/
def onlyN (Q : Exit → Act → World → Prop) : Exit → Act → World → Prop
  | .normal, a, w => Q .normal a w
  | _, _, _ => False
theorem wp_onlyN {P : Program} {c : Code} {Q : Exit → Act → World → Prop} {a : Act} {w : World} (h : c.wp P (onlyN Q) a w) : c.wp P Q a w := wp_mono h fun e a1 w1 hq => by
  cases e with
  | normal => exact hq
  | exit id => exact hq.elim
  | goto t => exact hq.elim
  | ret => exact hq.elim
  | panic ch => exact hq.elim
  | outgrown => exact hq.elim

/-- Where a turn stands: k types have come, at is behind the last one. -/
def TurnB (w3 : World) (l : List Bl) (tb nb ab : Nat) (t : Int) (D : World → Prop) (k : Nat) (X : World) : Prop :=
  (Boxed X nb 3 (.int .i64 k) ∧ ∃ p : Nat, p ≤ l.length ∧ kdsT (l.take p) = (kdsT l).take k ∧ Boxed X ab 3 (.int .i64 p)) ∧ Boxed X tb 3 (.int .i64 t) ∧ Below w3.heap.size w3 X ∧ D X

theorem turnB_own {w3 : World} {l : List Bl} {tb nb ab : Nat} {t : Int} {D : World → Prop} {B : Nat} (hB : w3.heap.size ≤ B) (hD : OwnFrom B (fun (_ : Unit) X => D X)) : OwnFrom B (TurnB w3 l tb nb ab t D) := fun m X Y row hs hg hr => by
  obtain ⟨⟨h1, p, hp, hc, h2⟩, h3, h4, h5⟩ := hs
  have ob : ∀ (b : Nat) (v : Value), Boxed X b 3 v → Boxed Y b 3 v := fun b v h => ((boxed_own (β := Unit) b 3 (fun _ => v)).from B) () X Y row h hg hr
  exact ⟨⟨ob _ _ h1, p, hp, hc, ob _ _ h2⟩, ob _ _ h3, (ownFrom_below (β := Unit) (n₀ := w3.heap.size) (B := B) (w₀ := w3) (Nat.le_refl _) hB) () X Y row h4 hg hr, hD () X Y row h5 hg hr⟩

/-- A range of two values, each laid in a slot, that may be left by a break. -/
theorem wp_rangeGoesO_brk2 {P : Program} {g : Operand} {p1 p2 : Tmp} {assign body : Code} {Q : Exit → Act → World → Prop} {a : Act} {w : World} {gf : Nat} {lb : Array Value} (q1 q2 : Tmp) (v1 v2 : Nat → Value)
    (hg : a.eval g = .func (.func gf) #[] lb) (eg : ∀ args w, (callFunc gf args).run P w = .ok (.enter gf args) w)
    {S : Nat → Prop} {N : Nat} (hseq : GoesO P gf lb (fun k => #[v1 k, v2 k]) S N w) (hS : ∀ b, S b → b < w.heap.size)
    (I : Nat → World → Prop) (R : World → Prop) (id : Nat) (hI : OwnFrom w.heap.size I) (hR : OwnFrom w.heap.size (fun (_ : Unit) X => R X)) (h0 : I 0 w)
    (hassign : ∀ (l k : Nat) (W : World) (K : Act → World → Prop), K { tmps := (((a.tmps.setIfInBounds p1 (v1 k)).setIfInBounds p2 (v2 k)).setIfInBounds q1 (v1 k)).setIfInBounds q2 (v2 k), defers := [] } W →
      assign.wpIn (Fence.wide.inRound l) 9 P (Exit.then K (fun _ _ _ => False)) { tmps := (a.tmps.setIfInBounds p1 (v1 k)).setIfInBounds p2 (v2 k), defers := [] } W)
    (hbody : ∀ (l k : Nat) (W : World), k < N → w.heap.size ≤ l → (∃ r, W.heap[l]? = some (.loop r)) → I k W → body.wpIn (Fence.wide.inRound l) 9 P (roundEndsO w.heap.size S I (fun c _ X => c = .exit id ∧ R X) k W) { tmps := (((a.tmps.setIfInBounds p1 (v1 k)).setIfInBounds p2 (v2 k)).setIfInBounds q1 (v1 k)).setIfInBounds q2 (v2 k), defers := [] } W)
    (hIR : ∀ X, I N X → R X) (hQ : ∀ a X, Q .normal a X → (Code.exit id).wp P Q a X)
    (hafter : ∀ (D : Nat) (W : World), w.heap.size ≤ D → R W → W.heap[D]? = some (.deferred (some [])) → Q .normal { a with defers := { target := .collected D, args := #[] } :: a.defers } W) :
    (Code.rangeFunc g #[p1, p2] assign body).wp P Q a w :=
  wp_rangeGoesO_at2 q1 q2 v1 v2 hg eg hseq hS I (fun c _ X => c = .exit id ∧ R X) hI (fun c => OwnFrom.and (ownFrom_pure _ (fun _ => c = .exit id)) (fun _ X Y row hs hg hr => hR () X Y row hs hg hr)) h0 hassign hbody
    (fun D W hD hi hd => hafter D W hD (hIR W hi) hd) (fun D c k W hD _ hx hd => by
      obtain ⟨rfl, hr⟩ := hx
      exact hQ _ _ (hafter D W hD hr hd))

set_option maxHeartbeats 16000000 in
theorem walk_btypes (A : Option Addr) (C : Nat) (xs : List LB) (many : Int) (w : World) (hC : xs.length ≤ C) (hl47 : xs.length ≤ 140737488351232) (hr : RdLs w w.heap.size A xs) (ht : TabW w) :
    Calls Tryz.prog 6 #[.slice A xs.length C, .int .i64 many] w fun e w' => e = .returned (.bool true) ∧ Below w.heap.size w w' := by
  obtain ⟨W0, hW0⟩ : ∃ W0, W0 = ((w.alloc (.cells #[.slice A xs.length C] 47)).alloc (.cells #[.int .i64 many] 3)).alloc (.cells #[.bool false] 4) := ⟨_, rfl⟩
  have hsW : W0.heap.size ≤ w.heap.size + 3 ∧ w.heap.size + 3 ≤ W0.heap.size := by rw [hW0]; simp
  have HB0 : Hid (Below w.heap.size w W0) := by rw [hW0]; exact below_al (below_al (below_al (Below.refl _ _) _) _) _
  have bC : Boxed W0 w.heap.size 47 (.slice A xs.length C) := by rw [hW0]; exact ((Boxed.new w _ _).alloc _).alloc _
  have bM : Boxed W0 (w.heap.size + 1) 3 (.int .i64 many) := by
    rw [hW0]
    have h := (Boxed.new (w.alloc (.cells #[.slice A xs.length C] 47)) 3 (.int .i64 many)).alloc (.cells #[.bool false] 4)
    simpa using h
  have bR : Boxed W0 (w.heap.size + 1 + 1) 4 (.bool false) := by
    rw [hW0]
    have h := Boxed.new ((w.alloc (.cells #[.slice A xs.length C] 47)).alloc (.cells #[.int .i64 many] 3)) 4 (.bool false)
    simpa using h
  have HBM := Lib.hid bM
  have HBR := Lib.hid bR
  have HX : Hid (∀ w', Below W0.heap.size W0 w' → w'.cell? ⟨w.heap.size, 0, none⟩ = some (.slice A xs.length C) ∧ RdLs w' w'.heap.size A xs ∧ w'.cell? ⟨w.heap.size + 1, 0, none⟩ = some (.int .i64 many)) := fun w' h =>
    ⟨(boxed_below bC h (by omega)).cell, (hr.on HB0.out).on h, (boxed_below bM h (by omega)).cell⟩
  have HT : Hid (∀ w', Below W0.heap.size W0 w' → TabW w') := fun w' h => (ht.on HB0.out).on h
  have HW0 := Lib.hid hW0
  have HC := Lib.hid hC
  clear bC bM bR hW0 hr ht hC
  have kDone : ∀ (D1 D2 : Nat), True := fun _ _ => trivial
  refine calls_of_marks Tryz.func6 rfl ?_
  simp only [Tryz.ntmps6, List.size_toArray, List.length_cons, List.length_nil, Nat.reduceAdd, Nat.reduceSub, Array.replicate_succ, Array.replicate_zero, List.push_toArray, List.append_toArray, List.nil_append, List.cons_append]
  clear kDone
  go_wp2_with fail
  rw [← HW0.out]
  refine (few8_any xs A C 20 W0 (HX.out W0 (Below.refl _ _)).2.1 (by omega)).mono ?_
  rintro e w1 ⟨rfl, h9⟩
  rw [← h9]
  clear h9 w1
  cases hq : fewB (xs.map LB.b) 20
  · go_wp2_with fail
    refine (bworks_any _ (HT.out _ (Below.refl _ _))).mono ?_
    rintro e w2 ⟨rfl, hb2⟩
    have B2 := Lib.hid hb2
    have hbr := boxed_below HBR.out B2.out (by omega)
    have hc := hbr.cell
    have hf := hbr.frozen
    have HBR2 := Lib.hid hbr
    clear hb2 hbr
    go_wp2_with fail
    refine marks_none (v := .bool true) (by simp [results, Tryz.results6, go_sem, (HBR2.out.set (.bool true)).cell]) ⟨rfl, ?_⟩
    exact (HB0.out.trans (B2.out.mono (by omega))).setCell (p := ⟨w.heap.size + 1 + 1, 0, none⟩) (by simp; omega) _
  have h20 : xs.length ≤ 20 := by
    have h := few_yes hq
    rw [List.length_map] at h
    omega
  clear hq hl47
  obtain ⟨x0, _, _⟩ := HX.out W0 (Below.refl _ _)
  go_wp2_with fail
  clear x0
  go_loopw [5] (fun i wr => ∃ j : Nat, i = .int .i64 ((j : Int) + 1) ∧ j ≤ 20 ∧ Hid (Below W0.heap.size W0 wr)) (fun i _ => xs.length - (intOf i).toNat)
  case atStart => exact ⟨0, rfl, by omega, Below.refl _ _⟩
  case round =>
    obtain ⟨j, rfl, hj, HB⟩ := hrel
    by_cases hlt : j + 1 < xs.length
    · obtain ⟨x0, hls, _⟩ := HX.out wr HB.out
      obtain ⟨y, hy⟩ : ∃ y, y = xs[j] := ⟨_, rfl⟩
      obtain ⟨z, hz⟩ : ∃ z, z = xs[j + 1] := ⟨_, rfl⟩
      obtain ⟨g, o, rfl, hg, hcy⟩ := hls.cellAt (k := j) (by omega)
      rw [← hy] at hcy
      have hcz : CellB wr g (o + (j + 1) * 4) z := by
        obtain ⟨g', o', e, _, h⟩ := hls.cellAt hlt
        injection e with e
        injection e with e1 e2
        subst e1 e2
        rw [hz]
        exact h
      have HRy : Hid (∀ w', Below W0.heap.size W0 w' → RdB w' w'.heap.size y.a y.b.d ∧ RdB w' w'.heap.size z.a z.b.d) := fun w' h =>
        ⟨((HX.out w' h).2.1.1 y (by rw [hy]; exact List.getElem_mem _)).2.2, ((HX.out w' h).2.1.1 z (by rw [hz]; exact List.getElem_mem _)).2.2⟩
      have HCy : Hid (∀ w', Below wr.heap.size wr w' → w'.cell? ⟨w.heap.size, 0, none⟩ = some (.slice (some ⟨g, o, none⟩) xs.length C) ∧ w'.cell? ⟨g, o + j * 4, none⟩ = some (.int .u64 y.b.t) ∧ w'.cell? ⟨g, o + j * 4 + 1, none⟩ = some (.int .u64 y.b.n) ∧ w'.cell? ⟨g, o + j * 4 + 2, none⟩ = some (.int .i64 y.b.s) ∧ w'.cell? ⟨g, o + j * 4 + 3, none⟩ = some (.slice y.a y.b.d.length y.c) ∧ w'.cell? ⟨g, o + (j + 1) * 4, none⟩ = some (.int .u64 z.b.t) ∧ w'.cell? ⟨g, o + (j + 1) * 4 + 1, none⟩ = some (.int .u64 z.b.n) ∧ w'.cell? ⟨g, o + (j + 1) * 4 + 2, none⟩ = some (.int .i64 z.b.s) ∧ w'.cell? ⟨g, o + (j + 1) * 4 + 3, none⟩ = some (.slice z.a z.b.d.length z.c)) := fun w' h => by
        have h1 := hcy.kept (h.block g hg)
        have h2 := hcz.kept (h.block g hg)
        exact ⟨(HX.out w' (below_on HB.out h)).1, h1.1, h1.2.1, h1.2.2.1, h1.2.2.2, h2.1, h2.2.1, h2.2.2.1, h2.2.2.2⟩
      have hlt2 : (j : Int) + 1 < (xs.length : Int) := by omega
      have hwj : IntKind.i64.wrap (j : Int) = (j : Int) := by simp [IntKind.wrap, IntKind.bits, IntKind.signed]; omega
      have hjx : j < xs.length := by omega
      have hj0 : (0 : Int) ≤ (j : Int) + 1 := by omega
      have hjt : ((j : Int) + 1).toNat = j + 1 := by omega
      clear hls hg hcy hcz hy hz
      have F0 : Below wr.heap.size wr wr.drew := (Below.refl _ _).drew
      go_upto_region 6 with fail
      clear x0
      refine wp_onlyN ?_
      refine wp_region_held_drew (S := fun w' => w'.cell? ⟨w.heap.size, 0, none⟩ = some (.slice (some ⟨g, o, none⟩) xs.length C) ∧ w'.cell? ⟨g, o + j * 4, none⟩ = some (.int .u64 y.b.t) ∧ w'.cell? ⟨g, o + j * 4 + 1, none⟩ = some (.int .u64 y.b.n) ∧ w'.cell? ⟨g, o + j * 4 + 2, none⟩ = some (.int .i64 y.b.s) ∧ w'.cell? ⟨g, o + j * 4 + 3, none⟩ = some (.slice y.a y.b.d.length y.c) ∧ w'.cell? ⟨g, o + (j + 1) * 4, none⟩ = some (.int .u64 z.b.t) ∧ w'.cell? ⟨g, o + (j + 1) * 4 + 1, none⟩ = some (.int .u64 z.b.n) ∧ w'.cell? ⟨g, o + (j + 1) * 4 + 2, none⟩ = some (.int .i64 z.b.s) ∧ w'.cell? ⟨g, o + (j + 1) * 4 + 3, none⟩ = some (.slice z.a z.b.d.length z.c)) (by kernel_rfl) (HCy.out _ F0) (fun hHeld => ?_)
      refine take_listed (i := 0) (v := ?_) rfl (by kernel_rfl) (by kernel_rfl) (by kernel_rfl) (fun _ _ _ h => h) (Or.inl ⟨by rfl, ?_⟩) (by assumption) ?_
      rotate_left
      · intro w hSw
        (try dsimp only at hSw)
        go_simp
        all_goals with_reducible rfl
      simp only [Act.put, List.setIfInBounds_toArray, List.set_cons_zero, List.set_cons_succ]
      refine take_listed (i := 1) (v := ?_) rfl (by kernel_rfl) (by kernel_rfl) (by kernel_rfl) (fun _ _ _ h => h) (Or.inl ⟨by rfl, ?_⟩) (by assumption) ?_
      rotate_left
      · intro w hSw
        (try dsimp only at hSw)
        go_simp
        all_goals with_reducible rfl
      simp only [Act.put, List.setIfInBounds_toArray, List.set_cons_zero, List.set_cons_succ]
      refine take_listed (i := 2) (v := ?_) rfl (by kernel_rfl) (by kernel_rfl) (by kernel_rfl) (fun _ _ _ h => h) (Or.inl ⟨by rfl, ?_⟩) (by assumption) ?_
      rotate_left
      · intro w hSw
        (try dsimp only at hSw)
        go_simp
        all_goals with_reducible rfl
      simp only [Act.put, List.setIfInBounds_toArray, List.set_cons_zero, List.set_cons_succ]
      refine take_listed (i := 3) (v := ?_) rfl (by kernel_rfl) (by kernel_rfl) (by kernel_rfl) (fun _ _ _ h => h) (Or.inl ⟨by rfl, ?_⟩) (by assumption) ?_
      rotate_left
      · intro w hSw
        (try dsimp only at hSw)
        go_simp
        all_goals with_reducible rfl
      simp only [Act.put, List.setIfInBounds_toArray, List.set_cons_zero, List.set_cons_succ]
      refine take_listed (i := 4) (v := ?_) rfl (by kernel_rfl) (by kernel_rfl) (by kernel_rfl) (fun _ _ _ h => h) (Or.inl ⟨by rfl, ?_⟩) (by assumption) ?_
      rotate_left
      · intro w hSw
        (try dsimp only at hSw)
        go_simp
        all_goals with_reducible rfl
      simp only [Act.put, List.setIfInBounds_toArray, List.set_cons_zero, List.set_cons_succ]
      refine take_listed (i := 5) (v := ?_) rfl (by kernel_rfl) (by kernel_rfl) (by kernel_rfl) (fun _ _ _ h => h) (Or.inl ⟨by rfl, ?_⟩) (by assumption) ?_
      rotate_left
      · intro w hSw
        (try dsimp only at hSw)
        go_simp
        all_goals with_reducible rfl
      simp only [Act.put, List.setIfInBounds_toArray, List.set_cons_zero, List.set_cons_succ]
      refine take_listed (i := 6) (v := ?_) rfl (by kernel_rfl) (by kernel_rfl) (by kernel_rfl) (fun _ _ _ h => h) (Or.inl ⟨by rfl, ?_⟩) (by assumption) ?_
      rotate_left
      · intro w hSw
        (try dsimp only at hSw)
        go_simp
        all_goals with_reducible rfl
      simp only [Act.put, List.setIfInBounds_toArray, List.set_cons_zero, List.set_cons_succ]
      refine take_listed (i := 7) (v := ?_) rfl (by kernel_rfl) (by kernel_rfl) (by kernel_rfl) (fun _ _ _ h => h) (Or.inl ⟨by rfl, ?_⟩) (by assumption) ?_
      rotate_left
      · intro w hSw
        (try dsimp only at hSw)
        go_simp
        all_goals with_reducible rfl
      simp only [Act.put, List.setIfInBounds_toArray, List.set_cons_zero, List.set_cons_succ]
      refine take_listed (i := 8) (v := ?_) rfl (by kernel_rfl) (by kernel_rfl) (by kernel_rfl) (fun _ _ _ h => h) (Or.inl ⟨by rfl, ?_⟩) (by assumption) ?_
      rotate_left
      · intro w hSw
        (try dsimp only at hSw)
        go_simp
        all_goals with_reducible rfl
      simp only [Act.put, List.setIfInBounds_toArray, List.set_cons_zero, List.set_cons_succ]
      refine take_listed (i := 10) (v := ?_) rfl (by kernel_rfl) (by kernel_rfl) (by kernel_rfl) (fun _ _ _ h => h) (Or.inl ⟨by rfl, ?_⟩) (by assumption) ?_
      rotate_left
      · intro w hSw
        (try dsimp only at hSw)
        go_simp
        all_goals with_reducible rfl
      simp only [Act.put, List.setIfInBounds_toArray, List.set_cons_zero, List.set_cons_succ]
      refine take_listed (i := 11) (v := ?_) rfl (by kernel_rfl) (by kernel_rfl) (by kernel_rfl) (fun _ _ _ h => h) (Or.inl ⟨by rfl, ?_⟩) (by assumption) ?_
      rotate_left
      · intro w hSw
        (try dsimp only at hSw)
        go_simp
        all_goals with_reducible rfl
      simp only [Act.put, List.setIfInBounds_toArray, List.set_cons_zero, List.set_cons_succ]
      refine take_listed (i := 12) (v := ?_) rfl (by kernel_rfl) (by kernel_rfl) (by kernel_rfl) (fun _ _ _ h => h) (Or.inl ⟨by rfl, ?_⟩) (by assumption) ?_
      rotate_left
      · intro w hSw
        (try dsimp only at hSw)
        go_simp
        all_goals with_reducible rfl
      simp only [Act.put, List.setIfInBounds_toArray, List.set_cons_zero, List.set_cons_succ]
      refine take_listed (i := 13) (v := ?_) rfl (by kernel_rfl) (by kernel_rfl) (by kernel_rfl) (fun _ _ _ h => h) (Or.inl ⟨by rfl, ?_⟩) (by assumption) ?_
      rotate_left
      · intro w hSw
        (try dsimp only at hSw)
        go_simp
        all_goals with_reducible rfl
      simp only [Act.put, List.setIfInBounds_toArray, List.set_cons_zero, List.set_cons_succ]
      refine take_listed (i := 14) (v := ?_) rfl (by kernel_rfl) (by kernel_rfl) (by kernel_rfl) (fun _ _ _ h => h) (Or.inl ⟨by rfl, ?_⟩) (by assumption) ?_
      rotate_left
      · intro w hSw
        (try dsimp only at hSw)
        go_simp
        all_goals with_reducible rfl
      simp only [Act.put, List.setIfInBounds_toArray, List.set_cons_zero, List.set_cons_succ]
      refine take_listed (i := 15) (v := ?_) rfl (by kernel_rfl) (by kernel_rfl) (by kernel_rfl) (fun _ _ _ h => h) (Or.inl ⟨by rfl, ?_⟩) (by assumption) ?_
      rotate_left
      · intro w hSw
        (try dsimp only at hSw)
        go_simp
        all_goals with_reducible rfl
      simp only [Act.put, List.setIfInBounds_toArray, List.set_cons_zero, List.set_cons_succ]
      refine take_listed (i := 16) (v := ?_) rfl (by kernel_rfl) (by kernel_rfl) (by kernel_rfl) (fun _ _ _ h => h) (Or.inl ⟨by rfl, ?_⟩) (by assumption) ?_
      rotate_left
      · intro w hSw
        (try dsimp only at hSw)
        go_simp
        all_goals with_reducible rfl
      simp only [Act.put, List.setIfInBounds_toArray, List.set_cons_zero, List.set_cons_succ]
      refine take_listed (i := 17) (v := ?_) rfl (by kernel_rfl) (by kernel_rfl) (by kernel_rfl) (fun _ _ _ h => h) (Or.inl ⟨by rfl, ?_⟩) (by assumption) ?_
      rotate_left
      · intro w hSw
        (try dsimp only at hSw)
        go_simp
        all_goals with_reducible rfl
      simp only [Act.put, List.setIfInBounds_toArray, List.set_cons_zero, List.set_cons_succ]
      refine take_listed (i := 18) (v := ?_) rfl (by kernel_rfl) (by kernel_rfl) (by kernel_rfl) (fun _ _ _ h => h) (Or.inl ⟨by rfl, ?_⟩) (by assumption) ?_
      rotate_left
      · intro w hSw
        (try dsimp only at hSw)
        go_simp
        all_goals with_reducible rfl
      simp only [Act.put, List.setIfInBounds_toArray, List.set_cons_zero, List.set_cons_succ]
      refine wpAnyH_ready (rs := [9]) (by kernel_rfl) (by simp) ?_
      refine AllReadyH.cons rfl (fun K hK => ?_) AllReadyH.nil
      go_simp
      refine (bsame_any y.b z.b _ _ _ _ _ (HRy.out _ (below_on HB.out F0)).1 (HRy.out _ (below_on HB.out F0)).2).mono ?_
      rintro e v1 ⟨rfl, hb⟩
      have F1 : Below wr.heap.size wr v1 := below_on F0 hb
      clear hb
      refine hK.out _ _ (HCy.out _ F1) (fun hHeld => ?_)
      clear hK K
      try simp only [Act.put, List.setIfInBounds_toArray, List.set_cons_zero, List.set_cons_succ]
      refine wpAnyH_ready (rs := [19]) (by kernel_rfl) (by simp) ?_
      refine AllReadyH.cons rfl (fun K hK => ?_) AllReadyH.nil
      go_simp
      refine (refBSame_any y.b z.b _ _ _ _ _ (HRy.out _ (below_on HB.out F1)).1 (HRy.out _ (below_on HB.out F1)).2).mono ?_
      rintro e v2 ⟨rfl, hb⟩
      have F2 : Below wr.heap.size wr v2 := below_on F1 hb
      clear hb
      refine hK.out _ _ (HCy.out _ F2) (fun hHeld => ?_)
      clear hK K
      try simp only [Act.put, List.setIfInBounds_toArray, List.set_cons_zero, List.set_cons_succ]
      refine wpAnyH_ready (rs := [20]) (by kernel_rfl) (by simp) ?_
      refine AllReadyH.cons rfl (fun K hK => ?_) AllReadyH.nil
      go_simp
      try simp only [bne_self_eq_false]
      refine hK.out _ _ (HCy.out _ F2) (fun hHeld => ?_)
      clear hK K
      try simp only [Act.put, List.setIfInBounds_toArray, List.set_cons_zero, List.set_cons_succ]
      refine take_listed (i := 21) (v := ?_) rfl (by kernel_rfl) (by kernel_rfl) (by kernel_rfl) (fun _ _ _ h => h) (Or.inl ⟨by rfl, ?_⟩) (by assumption) ?_
      rotate_left
      · intro w hSw
        (try dsimp only at hSw)
        go_simp
        all_goals with_reducible rfl
      simp only [Act.put, List.setIfInBounds_toArray, List.set_cons_zero, List.set_cons_succ]
      refine take_listed (i := 22) (v := ?_) rfl (by kernel_rfl) (by kernel_rfl) (by kernel_rfl) (fun _ _ _ h => h) (Or.inl ⟨by rfl, ?_⟩) (by assumption) ?_
      rotate_left
      · intro w hSw
        (try dsimp only at hSw)
        go_simp
        all_goals with_reducible rfl
      simp only [Act.put, List.setIfInBounds_toArray, List.set_cons_zero, List.set_cons_succ]
      refine take_listed (i := 23) (v := ?_) rfl (by kernel_rfl) (by kernel_rfl) (by kernel_rfl) (fun _ _ _ h => h) (Or.inl ⟨by rfl, ?_⟩) (by assumption) ?_
      rotate_left
      · intro w hSw
        (try dsimp only at hSw)
        go_simp
        all_goals with_reducible rfl
      simp only [Act.put, List.setIfInBounds_toArray, List.set_cons_zero, List.set_cons_succ]
      refine take_listed (i := 24) (v := ?_) rfl (by kernel_rfl) (by kernel_rfl) (by kernel_rfl) (fun _ _ _ h => h) (Or.inl ⟨by rfl, ?_⟩) (by assumption) ?_
      rotate_left
      · intro w hSw
        (try dsimp only at hSw)
        go_simp
        all_goals with_reducible rfl
      simp only [Act.put, List.setIfInBounds_toArray, List.set_cons_zero, List.set_cons_succ]
      refine take_listed (i := 25) (v := ?_) rfl (by kernel_rfl) (by kernel_rfl) (by kernel_rfl) (fun _ _ _ h => h) (Or.inl ⟨by rfl, ?_⟩) (by assumption) ?_
      rotate_left
      · intro w hSw
        (try dsimp only at hSw)
        go_simp
        all_goals with_reducible rfl
      simp only [Act.put, List.setIfInBounds_toArray, List.set_cons_zero, List.set_cons_succ]
      refine take_listed (i := 26) (v := ?_) rfl (by kernel_rfl) (by kernel_rfl) (by kernel_rfl) (fun _ _ _ h => h) (Or.inl ⟨by rfl, ?_⟩) (by assumption) ?_
      rotate_left
      · intro w hSw
        (try dsimp only at hSw)
        go_simp
        all_goals with_reducible rfl
      simp only [Act.put, List.setIfInBounds_toArray, List.set_cons_zero, List.set_cons_succ]
      refine take_listed (i := 27) (v := ?_) rfl (by kernel_rfl) (by kernel_rfl) (by kernel_rfl) (fun _ _ _ h => h) (Or.inl ⟨by rfl, ?_⟩) (by assumption) ?_
      rotate_left
      · intro w hSw
        (try dsimp only at hSw)
        go_simp
        all_goals with_reducible rfl
      simp only [Act.put, List.setIfInBounds_toArray, List.set_cons_zero, List.set_cons_succ]
      refine take_listed (i := 28) (v := ?_) rfl (by kernel_rfl) (by kernel_rfl) (by kernel_rfl) (fun _ _ _ h => h) (Or.inl ⟨by rfl, ?_⟩) (by assumption) ?_
      rotate_left
      · intro w hSw
        (try dsimp only at hSw)
        go_simp
        all_goals with_reducible rfl
      simp only [Act.put, List.setIfInBounds_toArray, List.set_cons_zero, List.set_cons_succ]
      refine take_listed (i := 29) (v := ?_) rfl (by kernel_rfl) (by kernel_rfl) (by kernel_rfl) (fun _ _ _ h => h) (Or.inl ⟨by rfl, ?_⟩) (by assumption) ?_
      rotate_left
      · intro w hSw
        (try dsimp only at hSw)
        go_simp
        all_goals with_reducible rfl
      simp only [Act.put, List.setIfInBounds_toArray, List.set_cons_zero, List.set_cons_succ]
      refine wpAnyH_ready (rs := [30]) (by kernel_rfl) (by simp) ?_
      refine AllReadyH.cons rfl (fun K hK => ?_) AllReadyH.nil
      go_simp
      refine (bsame_any z.b z.b _ _ _ _ _ (HRy.out _ (below_on HB.out F2)).2 (HRy.out _ (below_on HB.out F2)).2).mono ?_
      rintro e v3 ⟨rfl, hb⟩
      have F3 : Below wr.heap.size wr v3 := below_on F2 hb
      clear hb
      rw [sameB_self]
      refine hK.out _ _ (HCy.out _ F3) (fun hHeld => ?_)
      clear hK K
      try simp only [Act.put, List.setIfInBounds_toArray, List.set_cons_zero, List.set_cons_succ]
      refine take_listed (i := 31) (v := ?_) rfl (by kernel_rfl) (by kernel_rfl) (by kernel_rfl) (fun _ _ _ h => h) (Or.inl ⟨by rfl, ?_⟩) (by assumption) ?_
      rotate_left
      · intro w hSw
        (try dsimp only at hSw)
        go_simp
        all_goals with_reducible rfl
      simp only [Act.put, List.setIfInBounds_toArray, List.set_cons_zero, List.set_cons_succ]
      refine take_listed (i := 32) (v := ?_) rfl (by kernel_rfl) (by kernel_rfl) (by kernel_rfl) (fun _ _ _ h => h) (Or.inl ⟨by rfl, ?_⟩) (by assumption) ?_
      rotate_left
      · intro w hSw
        (try dsimp only at hSw)
        go_simp
        all_goals with_reducible rfl
      simp only [Act.put, List.setIfInBounds_toArray, List.set_cons_zero, List.set_cons_succ]
      clear hHeld
      refine wpAnyH_done (by kernel_rfl) ?_ _
      have HB3 := Lib.hid (below_on HB.out F3)
      clear F0 F1 F2 F3
      simp only [onlyN]
      go_wp2_with fail
      go_roundw
      case rel => exact ⟨j + 1, by go_num, by omega, HB3.out⟩
      case measure => simp [intOf]; omega
    · obtain ⟨x0, hls, _⟩ := HX.out wr HB.out
      have hlt2 : ¬ (j : Int) + 1 < (xs.length : Int) := by omega
      have HLs := Lib.hid hls
      have hnil : ∀ (w : World) (g h : Nat), (binOp .eql 62 (.func (.func 82) #[] #[.pointer (some ⟨g, 0, none⟩), .pointer (some ⟨h, 0, none⟩)]) .nilFunc).run Tryz.prog w = .ok (.bool false) w := fun w g h => eql_func_nil w _ _ _ _ _ _ _ Tryz.underlying62
      clear hls
      go_wp2_with fail
      refine (typs_any xs A C wr HLs.out HC.out (by omega)).mono ?_
      rintro e w3 ⟨rfl, hb3, hty⟩
      have B3 : Hid (Below W0.heap.size W0 w3) := below_on HB.out hb3
      have HTY := Lib.hid hty
      have hz3 : wr.heap.size ≤ w3.heap.size := hb3.size
      have hz0 : w.heap.size + 3 ≤ wr.heap.size := by have := HB.out.size; omega
      obtain ⟨l, hl⟩ : ∃ l, l = xs.map LB.b := ⟨_, rfl⟩
      have hll : l.length = xs.length := by rw [hl, List.length_map]
      have hla : ∀ (k : Nat) (h : k < l.length) (h2 : k < xs.length), l[k].t = xs[k].b.t := fun k h h2 => by simp only [hl, List.getElem_map]
      have HAh : Hid (∀ (p : Nat) (X : World), p < xs.length → Below W0.heap.size W0 X → Calls Tryz.prog 29 #[.slice A xs.length C, .int .i64 p] X fun e w' => e = .returned (.bool (ahd l p)) ∧ Below X.heap.size X w') := fun p X hp hb => by
        rw [hl]
        exact ahead_any xs A C p X (HX.out X hb).2.1 (by omega) hp
      have HCt : Hid (∀ (t : Nat) (X : World), Below W0.heap.size W0 X → Calls Tryz.prog 30 #[.slice A xs.length C, .int .u64 t] X fun e w' => e = .returned (.int .i64 (cntT l t : Nat)) ∧ X = w') := fun t X hb => by
        rw [hl]
        exact count8_any xs A C t X (HX.out X hb).2.1 (by omega)
      have HLA := Lib.hid hla
      have HLL := Lib.hid hll
      have hkl : (kdsT l).length ≤ 20 := Nat.le_trans (kdsT_len l) (by omega)
      rw [← hl] at HTY
      obtain ⟨n0, hn0⟩ : ∃ n0, n0 = wr.heap.size := ⟨_, rfl⟩
      rw [← hn0] at HTY hz3 hz0 ⊢
      clear hb3 hty hl hll hla x0 hlt hlt2 HLs hn0 HB
      have HbT0 : Hid (Boxed (w3.alloc (.cells #[.int .i64 0] 3)) w3.heap.size 3 (.int .i64 0)) := Boxed.new w3 _ _
      obtain ⟨W7, hW7⟩ : ∃ W, W = w3.alloc (.cells #[.int .i64 0] 3) := ⟨_, rfl⟩
      have BT0 : Hid (Below w3.heap.size w3 W7) := by rw [hW7]; exact below_al (Below.refl _ _) _
      have hs7 : W7.heap.size ≤ w3.heap.size + 1 ∧ w3.heap.size + 1 ≤ W7.heap.size := by rw [hW7]; simp
      rw [← hW7] at HbT0
      have HW7 := Lib.hid hW7
      clear hW7
      go_wp2_with fail
      rw [← HW7.out]
      refine wp_loop_rounds 3 ?_

      rw [rounds_succ]
      have t0c := (HbT0.out).cell
      go_wp2_with fail
      have b0n : Boxed ((W7.alloc (.cells #[.int .i64 0] 3)).alloc (.cells #[.int .i64 0] 3)) W7.heap.size 3 (.int .i64 ((0 : Nat) : Int)) := (Boxed.new W7 _ _).alloc _
      have b0a : Boxed ((W7.alloc (.cells #[.int .i64 0] 3)).alloc (.cells #[.int .i64 0] 3)) (W7.heap.size + 1) 3 (.int .i64 ((0 : Nat) : Int)) := by
        have h := Boxed.new (W7.alloc (.cells #[.int .i64 0] 3)) 3 (.int .i64 0)
        rw [World.size_alloc] at h
        exact h
      have b0t : Boxed ((W7.alloc (.cells #[.int .i64 0] 3)).alloc (.cells #[.int .i64 0] 3)) w3.heap.size 3 (.int .i64 0) := ((HbT0.out).alloc _).alloc _
      have b0w : Below w3.heap.size w3 ((W7.alloc (.cells #[.int .i64 0] 3)).alloc (.cells #[.int .i64 0] 3)) := below_al (below_al BT0.out _) _
      obtain ⟨X0, hX0⟩ : ∃ X, X = ((W7.alloc (.cells #[.int .i64 0] 3)).alloc (.cells #[.int .i64 0] 3)) := ⟨_, rfl⟩
      have hs0 : X0.heap.size ≤ W7.heap.size + 2 ∧ W7.heap.size + 2 ≤ X0.heap.size := by rw [hX0]; simp
      rw [← hX0] at b0n b0a b0t b0w ⊢
      have hD0 : (fun _ => True) X0 := trivial
      have HI0 : Hid ((TurnB w3 l w3.heap.size W7.heap.size (W7.heap.size + 1) 0 (fun _ => True)) 0 X0) := ⟨⟨b0n, 0, Nat.zero_le _, by simp [kdsT], b0a⟩, b0t, b0w, hD0⟩
      have hq0 : w3.heap.size ≤ W7.heap.size := BT0.out.size
      have HO0 := turnB_own (l := l) (tb := w3.heap.size) (nb := W7.heap.size) (ab := (W7.heap.size + 1)) (t := 0) (D := (fun _ => True)) (B := X0.heap.size) (w3 := w3) (by omega) (fun _ _ _ _ h _ _ => h)
      have HTY0 : Hid (TyW n0 w3.heap.size X0 n0 l) := HTY.out.kept fun j _ hj => b0w.block j hj
      have hN0 : w3.heap.size ≤ X0.heap.size := by omega
      clear b0n b0a b0t hD0 t0c hX0 b0w
      refine wp_rangeGoesO_brk2 (gf := 82) (lb := #[.pointer (some ⟨n0, 0, none⟩), .pointer (some ⟨n0 + 1, 0, none⟩)]) 10 11 (fun k => .int .u64 (kdAt l k : Nat)) (fun k => .int .i64 (cnAt l k : Nat)) rfl (enters_of Tryz.func82 (by kernel_rfl) rfl)
        (types1_goes n0 w3.heap.size n0 l X0 HTY0.out hN0 (by omega)) (fun b hb => by have := hb.2; omega)
        (TurnB w3 l w3.heap.size W7.heap.size (W7.heap.size + 1) 0 (fun _ => True)) (fun X => ∃ m, TurnB w3 l w3.heap.size W7.heap.size (W7.heap.size + 1) 0 (fun _ => True) m X) 4
        HO0 (fun _ X Y row hs hg hr => by obtain ⟨m, h⟩ := hs; exact ⟨m, HO0 m X Y row h hg hr⟩) HI0.out ?assign0 ?body0 (fun X h => ⟨_, h⟩) (fun a X h => wp_exit (by simpa only [Exit.inBlock, if_true, ite_true, beq_self_eq_true] using h)) ?after0
      case assign0 =>
        intro l' k Xq K hK
        simp only [List.setIfInBounds_toArray, List.set_cons_succ, List.set_cons_zero] at hK ⊢
        have HK := Lib.hid hK
        clear hK
        gi_wp2
        exact HK.out
      case body0 =>
        rintro lo k X hk hlo _ ⟨⟨hnb, p, hp, he, hab⟩, htb, hbw, hD⟩
        simp only [List.setIfInBounds_toArray, List.set_cons_succ, List.set_cons_zero]
        have H2 : Hid (Boxed X W7.heap.size 3 (.int .i64 k) ∧ Boxed X w3.heap.size 3 (.int .i64 0) ∧ Below w3.heap.size w3 X ∧ (fun _ => True) X ∧ KeepsFrom X0.heap.size X X ∧ KeepB (SinceB (fun b => n0 ≤ b ∧ b < w3.heap.size) (X0.heap.size + 2) X) X X ∧ ∃ p : Nat, p ≤ l.length ∧ kdsT (l.take p) = (kdsT l).take k ∧ Boxed X (W7.heap.size + 1) 3 (.int .i64 p)) := ⟨hnb, htb, hbw, hD, KeepsFrom.refl _ _, fun _ _ => rfl, p, hp, he, hab⟩
        have hk20 : k ≤ 20 := by omega
        clear hnb hp he hab htb hbw hD
        obtain ⟨dk, hdk⟩ : ∃ dk, dk = kdAt l k := ⟨_, rfl⟩
        obtain ⟨ck, hck⟩ : ∃ ck, ck = cnAt l k := ⟨_, rfl⟩
        rw [← hdk, ← hck]
        have HDk := Lib.hid hdk
        have HCk : Hid (cntT l dk = ck) := by rw [Hid, hck, hdk]; rfl
        clear hdk hck
        gi_wp2
        gi_loopw [76] (fun _ wr => Hid (Boxed wr W7.heap.size 3 (.int .i64 k) ∧ Boxed wr w3.heap.size 3 (.int .i64 0) ∧ Below w3.heap.size w3 wr ∧ (fun _ => True) wr ∧ KeepsFrom X0.heap.size X wr ∧ KeepB (SinceB (fun b => n0 ≤ b ∧ b < w3.heap.size) (X0.heap.size + 2) X) X wr ∧ ∃ p : Nat, p ≤ l.length ∧ kdsT (l.take p) = (kdsT l).take k ∧ Boxed wr (W7.heap.size + 1) 3 (.int .i64 p))) (fun _ wr => l.length - atB (W7.heap.size + 1) wr)
        case atStart => exact H2.out
        case round =>
          have H3 := Lib.hid (Hid.out hrel)
          clear hrel
          obtain ⟨hnb, htb, hbw, hD, hkf, hkb, p, hp, he, hab⟩ := H3.out
          have HMS := Lib.hid (atB_eq hab)
          have hlt : p < l.length := not_end hk he
          have hltx : p < xs.length := by have := HLL.out; omega
          have hb0 : Below W0.heap.size W0 wr := below_on B3.out hbw
          have HA := Lib.hid (HAh.out p wr hltx hb0)
          obtain ⟨q, hq⟩ : ∃ q, q = ahd l p := ⟨_, rfl⟩
          rw [← hq] at HA
          have HQo : Hid (q = true → kdsT (l.take (p + 1)) = (kdsT l).take k) := fun h => by
            rw [h, ahd, List.getElem?_eq_getElem hlt] at hq
            rw [step_old hlt (of_decide_eq_true hq.symm), he]
          have HQn : Hid (q = false → l[p].t ∉ kdsT (l.take p)) := fun h => by
            rw [h, ahd, List.getElem?_eq_getElem hlt] at hq
            exact of_decide_eq_false hq.symm
          have HE := Lib.hid he
          have HK3 : Hid (X0.heap.size ≤ X0.heap.size) := Nat.le_refl _
          obtain ⟨x0, _, xm⟩ := HX.out wr hb0
          have a0 := hab.cell
          clear hnb htb hbw hD hkf hkb he hab hq hb0 H2
          gi_wp2
          refine ⟨trivial, ?_⟩
          refine (CallsIn.inRound lo (callsIn_wide.2 HA.out)).mono ?_
          rintro e w5 ⟨rfl, hb5⟩
          clear x0 xm a0
          obtain ⟨hnb, htb, hbw, hD, hkf, hkb, _⟩ := H3.out
          have hab : Boxed wr (W7.heap.size + 1) 3 (.int .i64 p) := by
            obtain ⟨_, _, _, _, _, _, p', _, _, h⟩ := H3.out
            have e1 := atB_eq h
            rw [HMS.out] at e1
            subst e1
            exact h
          have HN1 := Lib.hid (boxed_on hnb hb5)
          have HT1 := Lib.hid (boxed_on htb hb5)
          have HA1 := Lib.hid (boxed_on hab hb5)
          have HW1 : Hid (Below w3.heap.size w3 w5) := below_on hbw hb5
          have HD9 : Hid ((fun _ => True) w5) := trivial
          have HKF := Lib.hid (keeps_on hkf hb5)
          have HKB := Lib.hid (keepB_on hkb hb5 (Nat.le_trans (Nat.le_refl _) hbw.size) hkf.1)
          have hb0 : Below W0.heap.size W0 w5 := below_on B3.out HW1.out
          have HMS5 := Lib.hid (atB_eq HA1.out)
          have a0 := HA1.out.cell
          have af := HA1.out.frozen
          clear hnb htb hbw hD hkf hkb hab hb5 H3 HA
          cases q
          · have hnew := HQn.out rfl
            obtain ⟨_, h1, h2⟩ := step_new hlt hnew (Nat.le_of_lt hk) HE.out
            obtain ⟨x0, hls, xm⟩ := HX.out w5 hb0
            obtain ⟨g, o, hA, _, e0, _⟩ := hls.cellAt hltx
            rw [← HLA.out p hlt hltx, ← h1, ← HDk.out] at e0
            have HS2 := Lib.hid h2
            have HCn := Lib.hid (HCt.out dk w5 hb0)
            rw [HCk.out] at HCn
            have n0' := HN1.out.cell
            have nf := HN1.out.frozen
            have t0 := HT1.out.cell
            have FIN : Hid (KeepsFrom X0.heap.size X ((w5.setCell ⟨W7.heap.size + 1, 0, none⟩ (.int .i64 ((p : Int) + 1))).setCell ⟨W7.heap.size, 0, none⟩ (.int .i64 ((k : Int) + 1))) ∧
                KeepB (SinceB (fun b => n0 ≤ b ∧ b < w3.heap.size) (X0.heap.size + 2) X) X ((w5.setCell ⟨W7.heap.size + 1, 0, none⟩ (.int .i64 ((p : Int) + 1))).setCell ⟨W7.heap.size, 0, none⟩ (.int .i64 ((k : Int) + 1))) ∧
                (TurnB w3 l w3.heap.size W7.heap.size (W7.heap.size + 1) 0 (fun _ => True)) (k + 1) ((w5.setCell ⟨W7.heap.size + 1, 0, none⟩ (.int .i64 ((p : Int) + 1))).setCell ⟨W7.heap.size, 0, none⟩ (.int .i64 ((k : Int) + 1)))) := by
              refine ⟨(HKF.out.trans ((KeepsOthers.setCell _ _ _).from _)).trans ((KeepsOthers.setCell _ _ _).from _), (HKB.out.setCell (p := ⟨W7.heap.size + 1, 0, none⟩) (notR (nb := W7.heap.size + 1) (by omega) (by omega)) _).setCell (p := ⟨W7.heap.size, 0, none⟩) (notR (nb := W7.heap.size) (by omega) (by omega)) _, ⟨?_, p + 1, by omega, h2, ?_⟩, ((HT1.out.other (by omega) _).other (by omega) _), (HW1.out.setCell (p := ⟨W7.heap.size + 1, 0, none⟩) (show w3.heap.size ≤ W7.heap.size + 1 by omega) _).setCell (p := ⟨W7.heap.size, 0, none⟩) (show w3.heap.size ≤ W7.heap.size by omega) _, trivial⟩
              · have h := (HN1.out.other (B' := W7.heap.size + 1) (by omega) (.int .i64 ((p : Int) + 1))).set (.int .i64 ((k : Int) + 1))
                simpa using h
              · have h := (HA1.out.set (.int .i64 ((p : Int) + 1))).other (B' := W7.heap.size) (by omega) (.int .i64 ((k : Int) + 1))
                simpa using h
            clear hls h1 h2 hnew hb0
            subst hA
            gi_wp2
            refine ⟨trivial, ?_⟩
            refine (CallsIn.inRound lo (callsIn_wide.2 HCn.out)).mono ?_
            rintro e w9 ⟨rfl, h9⟩
            rw [← h9]
            clear h9 w9
            by_cases hmany : many ≤ (k : Int) + 1
            · gi_wp2
              exact ⟨⟨FIN.out.1, FIN.out.2.1⟩, rfl, _, FIN.out.2.2⟩
            · gi_wp2
              exact FIN.out
          · have HS2 := Lib.hid (HQo.out rfl)
            clear hb0
            gi_wp2
            go_roundw
            case rel =>
              refine ⟨HN1.out.other (by omega) _, HT1.out.other (by omega) _, HW1.out.setCell (p := ⟨W7.heap.size + 1, 0, none⟩) (show w3.heap.size ≤ W7.heap.size + 1 by omega) _, trivial, HKF.out.trans ((KeepsOthers.setCell _ _ _).from _), HKB.out.setCell (p := ⟨W7.heap.size + 1, 0, none⟩) (notR (nb := W7.heap.size + 1) (by omega) (by omega)) _, p + 1, by omega, HS2.out, ?_⟩
              have h := HA1.out.set (.int .i64 ((p : Int) + 1))
              simpa using h
            case measure =>
              have h := HA1.out.set (.int .i64 ((p + 1 : Nat) : Int))
              have h2 := atB_eq h
              simp only [Int.natCast_add, Int.cast_ofNat_Int] at h2
              rw [HMS.out, h2]
              omega
      case after0 =>
        rintro D1 Xd hDD ⟨m, ⟨hnb, pp, hp, hcp, hab⟩, htb, hbw, _⟩ hK
        obtain ⟨x0, _, _⟩ := HX.out Xd (below_on B3.out hbw)
        have t0 := htb.cell
        have HbT1 : Hid (Boxed (Xd.alloc (.cells #[.int .i64 1] 3)) Xd.heap.size 3 (.int .i64 1)) := Boxed.new Xd _ _
        have HD1a : Hid ((Xd.alloc (.cells #[.int .i64 1] 3)).heap[D1]? = some (.deferred (some []))) := (Below.heap_alloc _ _ _ (Array.getElem?_eq_some_iff.1 hK).1).trans hK
        obtain ⟨W8, hW8⟩ : ∃ W, W = Xd.alloc (.cells #[.int .i64 1] 3) := ⟨_, rfl⟩
        have BT1 : Hid (Below w3.heap.size w3 W8) := by rw [hW8]; exact below_al hbw _
        have hs8 : W8.heap.size ≤ Xd.heap.size + 1 ∧ Xd.heap.size + 1 ≤ W8.heap.size := by rw [hW8]; simp
        rw [← hW8] at HbT1 HD1a
        have HD1 : Hid (W8.heap[D1]? = some (.deferred (some []))) := HD1a.out
        have hD1l : D1 < W8.heap.size := (Array.getElem?_eq_some_iff.1 HD1.out).1
        have HW8 := Lib.hid hW8
        have hq9 : w3.heap.size ≤ Xd.heap.size := hbw.size
        clear hnb hcp hab htb hbw hK hW8 HD1a
        go_wp2
        refine wp_loop_rounds 1 ?_
        rw [rounds_succ]
        go_wp2_with fail
        rw [← HW8.out]
        clear t0 x0

        rw [rounds_succ]
        have t1c := (HbT1.out).cell
        go_wp2_with fail
        have b1n : Boxed ((W8.alloc (.cells #[.int .i64 0] 3)).alloc (.cells #[.int .i64 0] 3)) W8.heap.size 3 (.int .i64 ((0 : Nat) : Int)) := (Boxed.new W8 _ _).alloc _
        have b1a : Boxed ((W8.alloc (.cells #[.int .i64 0] 3)).alloc (.cells #[.int .i64 0] 3)) (W8.heap.size + 1) 3 (.int .i64 ((0 : Nat) : Int)) := by
          have h := Boxed.new (W8.alloc (.cells #[.int .i64 0] 3)) 3 (.int .i64 0)
          rw [World.size_alloc] at h
          exact h
        have b1t : Boxed ((W8.alloc (.cells #[.int .i64 0] 3)).alloc (.cells #[.int .i64 0] 3)) Xd.heap.size 3 (.int .i64 1) := ((HbT1.out).alloc _).alloc _
        have b1w : Below w3.heap.size w3 ((W8.alloc (.cells #[.int .i64 0] 3)).alloc (.cells #[.int .i64 0] 3)) := below_al (below_al BT1.out _) _
        obtain ⟨X1, hX1⟩ : ∃ X, X = ((W8.alloc (.cells #[.int .i64 0] 3)).alloc (.cells #[.int .i64 0] 3)) := ⟨_, rfl⟩
        have hs1 : X1.heap.size ≤ W8.heap.size + 2 ∧ W8.heap.size + 2 ≤ X1.heap.size := by rw [hX1]; simp
        rw [← hX1] at b1n b1a b1t b1w ⊢
        have hD1 : (fun X => X.heap[D1]? = some (.deferred (some []))) X1 := by rw [hX1]; exact (Below.heap_alloc _ _ _ (by have := (Array.getElem?_eq_some_iff.1 HD1.out).1; rw [World.size_alloc]; omega)).trans ((Below.heap_alloc _ _ _ (Array.getElem?_eq_some_iff.1 HD1.out).1).trans HD1.out)
        have HI1 : Hid ((TurnB w3 l Xd.heap.size W8.heap.size (W8.heap.size + 1) 1 (fun X => X.heap[D1]? = some (.deferred (some [])))) 0 X1) := ⟨⟨b1n, 0, Nat.zero_le _, by simp [kdsT], b1a⟩, b1t, b1w, hD1⟩
        have hq1 : w3.heap.size ≤ W8.heap.size := BT1.out.size
        have HO1 := turnB_own (l := l) (tb := Xd.heap.size) (nb := W8.heap.size) (ab := (W8.heap.size + 1)) (t := 1) (D := (fun X => X.heap[D1]? = some (.deferred (some [])))) (B := X1.heap.size) (w3 := w3) (by omega) (fun _ Xa Ya row h hg hr => (hg.block D1 (Array.getElem?_eq_some_iff.1 h).1 (fun e => by have h1 := (hr D1 e.symm).1; have h2 := (Array.getElem?_eq_some_iff.1 HD1.out).1; omega)).trans h)
        have HTY1 : Hid (TyW n0 w3.heap.size X1 n0 l) := HTY.out.kept fun j _ hj => b1w.block j hj
        have hN1 : w3.heap.size ≤ X1.heap.size := by omega
        clear b1n b1a b1t hD1 t1c hX1 b1w
        refine wp_rangeGoesO_brk2 (gf := 82) (lb := #[.pointer (some ⟨n0, 0, none⟩), .pointer (some ⟨n0 + 1, 0, none⟩)]) 10 11 (fun k => .int .u64 (kdAt l k : Nat)) (fun k => .int .i64 (cnAt l k : Nat)) rfl (enters_of Tryz.func82 (by kernel_rfl) rfl)
          (types1_goes n0 w3.heap.size n0 l X1 HTY1.out hN1 (by omega)) (fun b hb => by have := hb.2; omega)
          (TurnB w3 l Xd.heap.size W8.heap.size (W8.heap.size + 1) 1 (fun X => X.heap[D1]? = some (.deferred (some [])))) (fun X => TurnB w3 l Xd.heap.size W8.heap.size (W8.heap.size + 1) 1 (fun X => X.heap[D1]? = some (.deferred (some []))) (kdsT l).length X) 4
          HO1 (fun _ X Y row hs hg hr => HO1 _ X Y row hs hg hr) HI1.out ?assign1 ?body1 (fun X h => h) (fun a X h => wp_exit (by simpa only [Exit.inBlock, if_true, ite_true, beq_self_eq_true] using h)) ?after1
        case assign1 =>
          intro l' k Xq K hK
          simp only [List.setIfInBounds_toArray, List.set_cons_succ, List.set_cons_zero] at hK ⊢
          have HK := Lib.hid hK
          clear hK
          gi_wp2
          exact HK.out
        case body1 =>
          rintro lo k X hk hlo _ ⟨⟨hnb, p, hp, he, hab⟩, htb, hbw, hD⟩
          simp only [List.setIfInBounds_toArray, List.set_cons_succ, List.set_cons_zero]
          have H2 : Hid (Boxed X W8.heap.size 3 (.int .i64 k) ∧ Boxed X Xd.heap.size 3 (.int .i64 1) ∧ Below w3.heap.size w3 X ∧ (fun X => X.heap[D1]? = some (.deferred (some []))) X ∧ KeepsFrom X1.heap.size X X ∧ KeepB (SinceB (fun b => n0 ≤ b ∧ b < w3.heap.size) (X1.heap.size + 2) X) X X ∧ ∃ p : Nat, p ≤ l.length ∧ kdsT (l.take p) = (kdsT l).take k ∧ Boxed X (W8.heap.size + 1) 3 (.int .i64 p)) := ⟨hnb, htb, hbw, hD, KeepsFrom.refl _ _, fun _ _ => rfl, p, hp, he, hab⟩
          have hk20 : k ≤ 20 := by omega
          clear hnb hp he hab htb hbw hD
          obtain ⟨dk, hdk⟩ : ∃ dk, dk = kdAt l k := ⟨_, rfl⟩
          obtain ⟨ck, hck⟩ : ∃ ck, ck = cnAt l k := ⟨_, rfl⟩
          rw [← hdk, ← hck]
          have HDk := Lib.hid hdk
          have HCk : Hid (cntT l dk = ck) := by rw [Hid, hck, hdk]; rfl
          clear hdk hck
          gi_wp2
          gi_loopw [76] (fun _ wr => Hid (Boxed wr W8.heap.size 3 (.int .i64 k) ∧ Boxed wr Xd.heap.size 3 (.int .i64 1) ∧ Below w3.heap.size w3 wr ∧ (fun X => X.heap[D1]? = some (.deferred (some []))) wr ∧ KeepsFrom X1.heap.size X wr ∧ KeepB (SinceB (fun b => n0 ≤ b ∧ b < w3.heap.size) (X1.heap.size + 2) X) X wr ∧ ∃ p : Nat, p ≤ l.length ∧ kdsT (l.take p) = (kdsT l).take k ∧ Boxed wr (W8.heap.size + 1) 3 (.int .i64 p))) (fun _ wr => l.length - atB (W8.heap.size + 1) wr)
          case atStart => exact H2.out
          case round =>
            have H3 := Lib.hid (Hid.out hrel)
            clear hrel
            obtain ⟨hnb, htb, hbw, hD, hkf, hkb, p, hp, he, hab⟩ := H3.out
            have HMS := Lib.hid (atB_eq hab)
            have hlt : p < l.length := not_end hk he
            have hltx : p < xs.length := by have := HLL.out; omega
            have hb0 : Below W0.heap.size W0 wr := below_on B3.out hbw
            have HA := Lib.hid (HAh.out p wr hltx hb0)
            obtain ⟨q, hq⟩ : ∃ q, q = ahd l p := ⟨_, rfl⟩
            rw [← hq] at HA
            have HQo : Hid (q = true → kdsT (l.take (p + 1)) = (kdsT l).take k) := fun h => by
              rw [h, ahd, List.getElem?_eq_getElem hlt] at hq
              rw [step_old hlt (of_decide_eq_true hq.symm), he]
            have HQn : Hid (q = false → l[p].t ∉ kdsT (l.take p)) := fun h => by
              rw [h, ahd, List.getElem?_eq_getElem hlt] at hq
              exact of_decide_eq_false hq.symm
            have HE := Lib.hid he
            have HK3 : Hid (X1.heap.size ≤ X1.heap.size) := Nat.le_refl _
            obtain ⟨x0, _, xm⟩ := HX.out wr hb0
            have a0 := hab.cell
            clear hnb htb hbw hD hkf hkb he hab hq hb0 H2
            gi_wp2
            refine ⟨trivial, ?_⟩
            refine (CallsIn.inRound lo (callsIn_wide.2 HA.out)).mono ?_
            rintro e w5 ⟨rfl, hb5⟩
            clear x0 xm a0
            obtain ⟨hnb, htb, hbw, hD, hkf, hkb, _⟩ := H3.out
            have hab : Boxed wr (W8.heap.size + 1) 3 (.int .i64 p) := by
              obtain ⟨_, _, _, _, _, _, p', _, _, h⟩ := H3.out
              have e1 := atB_eq h
              rw [HMS.out] at e1
              subst e1
              exact h
            have HN1 := Lib.hid (boxed_on hnb hb5)
            have HT1 := Lib.hid (boxed_on htb hb5)
            have HA1 := Lib.hid (boxed_on hab hb5)
            have HW1 : Hid (Below w3.heap.size w3 w5) := below_on hbw hb5
            have HD9 : Hid ((fun X => X.heap[D1]? = some (.deferred (some []))) w5) := ((hb5.block D1 (Array.getElem?_eq_some_iff.1 hD).1).trans hD)
            have HKF := Lib.hid (keeps_on hkf hb5)
            have HKB := Lib.hid (keepB_on hkb hb5 (Nat.le_trans (Nat.le_refl _) hbw.size) hkf.1)
            have hb0 : Below W0.heap.size W0 w5 := below_on B3.out HW1.out
            have HMS5 := Lib.hid (atB_eq HA1.out)
            have a0 := HA1.out.cell
            have af := HA1.out.frozen
            clear hnb htb hbw hD hkf hkb hab hb5 H3 HA
            cases q
            · have hnew := HQn.out rfl
              obtain ⟨_, h1, h2⟩ := step_new hlt hnew (Nat.le_of_lt hk) HE.out
              obtain ⟨x0, hls, xm⟩ := HX.out w5 hb0
              obtain ⟨g, o, hA, _, e0, _⟩ := hls.cellAt hltx
              rw [← HLA.out p hlt hltx, ← h1, ← HDk.out] at e0
              have HS2 := Lib.hid h2
              have HCn := Lib.hid (HCt.out dk w5 hb0)
              rw [HCk.out] at HCn
              have n0' := HN1.out.cell
              have nf := HN1.out.frozen
              have t0 := HT1.out.cell
              have FIN : Hid (KeepsFrom X1.heap.size X ((w5.setCell ⟨W8.heap.size + 1, 0, none⟩ (.int .i64 ((p : Int) + 1))).setCell ⟨W8.heap.size, 0, none⟩ (.int .i64 ((k : Int) + 1))) ∧
                  KeepB (SinceB (fun b => n0 ≤ b ∧ b < w3.heap.size) (X1.heap.size + 2) X) X ((w5.setCell ⟨W8.heap.size + 1, 0, none⟩ (.int .i64 ((p : Int) + 1))).setCell ⟨W8.heap.size, 0, none⟩ (.int .i64 ((k : Int) + 1))) ∧
                  (TurnB w3 l Xd.heap.size W8.heap.size (W8.heap.size + 1) 1 (fun X => X.heap[D1]? = some (.deferred (some [])))) (k + 1) ((w5.setCell ⟨W8.heap.size + 1, 0, none⟩ (.int .i64 ((p : Int) + 1))).setCell ⟨W8.heap.size, 0, none⟩ (.int .i64 ((k : Int) + 1)))) := by
                refine ⟨(HKF.out.trans ((KeepsOthers.setCell _ _ _).from _)).trans ((KeepsOthers.setCell _ _ _).from _), (HKB.out.setCell (p := ⟨W8.heap.size + 1, 0, none⟩) (notR (nb := W8.heap.size + 1) (by omega) (by omega)) _).setCell (p := ⟨W8.heap.size, 0, none⟩) (notR (nb := W8.heap.size) (by omega) (by omega)) _, ⟨?_, p + 1, by omega, h2, ?_⟩, ((HT1.out.other (by omega) _).other (by omega) _), (HW1.out.setCell (p := ⟨W8.heap.size + 1, 0, none⟩) (show w3.heap.size ≤ W8.heap.size + 1 by omega) _).setCell (p := ⟨W8.heap.size, 0, none⟩) (show w3.heap.size ≤ W8.heap.size by omega) _, ((Below.heap_setCell _ _ _ D1 (show D1 ≠ W8.heap.size by omega)).trans ((Below.heap_setCell _ _ _ D1 (show D1 ≠ W8.heap.size + 1 by omega)).trans HD9.out))⟩
                · have h := (HN1.out.other (B' := W8.heap.size + 1) (by omega) (.int .i64 ((p : Int) + 1))).set (.int .i64 ((k : Int) + 1))
                  simpa using h
                · have h := (HA1.out.set (.int .i64 ((p : Int) + 1))).other (B' := W8.heap.size) (by omega) (.int .i64 ((k : Int) + 1))
                  simpa using h
              clear hls h1 h2 hnew hb0
              subst hA
              gi_wp2
              refine ⟨trivial, ?_⟩
              refine (CallsIn.inRound lo (callsIn_wide.2 HCn.out)).mono ?_
              rintro e w9 ⟨rfl, h9⟩
              rw [← h9]
              clear h9 w9
              gi_wp2
              exact FIN.out
            · have HS2 := Lib.hid (HQo.out rfl)
              clear hb0
              gi_wp2
              go_roundw
              case rel =>
                refine ⟨HN1.out.other (by omega) _, HT1.out.other (by omega) _, HW1.out.setCell (p := ⟨W8.heap.size + 1, 0, none⟩) (show w3.heap.size ≤ W8.heap.size + 1 by omega) _, ((Below.heap_setCell _ _ _ D1 (show D1 ≠ W8.heap.size + 1 by omega)).trans HD9.out), HKF.out.trans ((KeepsOthers.setCell _ _ _).from _), HKB.out.setCell (p := ⟨W8.heap.size + 1, 0, none⟩) (notR (nb := W8.heap.size + 1) (by omega) (by omega)) _, p + 1, by omega, HS2.out, ?_⟩
                have h := HA1.out.set (.int .i64 ((p : Int) + 1))
                simpa using h
              case measure =>
                have h := HA1.out.set (.int .i64 ((p + 1 : Nat) : Int))
                have h2 := atB_eq h
                simp only [Int.natCast_add, Int.cast_ofNat_Int] at h2
                rw [HMS.out, h2]
                omega
        case after1 =>
          rintro D2 Xe hD2 ⟨⟨hnb, pp, hp, hcp, hab⟩, htb, hbw, hDd⟩ hK
          have hD2l : D2 < Xe.heap.size := (Array.getElem?_eq_some_iff.1 hK).1
          rw [List.take_of_length_le (Nat.le_refl _)] at hcp
          have H5 : Hid (Boxed Xe Xd.heap.size 3 (.int .i64 1) ∧ Below w3.heap.size w3 Xe ∧ Xe.heap[D1]? = some (.deferred (some [])) ∧ Xe.heap[D2]? = some (.deferred (some [])) ∧ ∃ p : Nat, p ≤ l.length ∧ kdsT (l.take p) = kdsT l ∧ Boxed Xe (W8.heap.size + 1) 3 (.int .i64 p)) := ⟨htb, hbw, hDd, hK, pp, hp, hcp, hab⟩
          clear hnb hcp hab htb hbw hDd hK
          go_wp2
          go_loopw [121] (fun _ wr => Hid (Boxed wr Xd.heap.size 3 (.int .i64 1) ∧ Below w3.heap.size w3 wr ∧ wr.heap[D1]? = some (.deferred (some [])) ∧ wr.heap[D2]? = some (.deferred (some [])) ∧ ∃ p : Nat, p ≤ l.length ∧ kdsT (l.take p) = kdsT l ∧ Boxed wr (W8.heap.size + 1) 3 (.int .i64 p))) (fun _ wr => l.length - atB (W8.heap.size + 1) wr)
          case atStart => exact H5.out
          case round =>
            have H6 := Lib.hid (Hid.out hrel)
            clear hrel H5
            obtain ⟨htb, hbw, hd1, hd2, p, hp, he, hab⟩ := H6.out
            have HMS := Lib.hid (atB_eq hab)
            have BE0 : Below W0.heap.size W0 wr := below_on B3.out hbw
            have HBE0 := Lib.hid BE0
            obtain ⟨x0, _, _⟩ := HX.out wr BE0
            have a0 := hab.cell
            have t0 := htb.cell
            have KE1 := Lib.hid hd1
            have KE2 := Lib.hid hd2
            by_cases hlt : p < l.length
            · have hltx : p < xs.length := by have := HLL.out; omega
              have HA := Lib.hid (HAh.out p wr hltx BE0)
              have hold := end_old hlt he
              have hq : ahd l p = true := by
                rw [ahd, List.getElem?_eq_getElem hlt]
                exact decide_eq_true hold
              have HS2 : Hid (kdsT (l.take (p + 1)) = kdsT l) := by rw [Hid, step_old hlt hold, he]
              rw [hq] at HA
              have hpl : (p : Int) < (xs.length : Int) := by omega
              clear hq hold BE0 he hd1 hd2
              go_wp2_with fail
              refine HA.out.mono ?_
              rintro e w5 ⟨rfl, hb5⟩
              have HT1 := Lib.hid (boxed_on htb hb5)
              have HA1 := Lib.hid (boxed_on hab hb5)
              have HW1 : Hid (Below w3.heap.size w3 w5) := below_on hbw hb5
              have HE1 : Hid (w5.heap[D1]? = some (.deferred (some []))) := (hb5.block D1 (Array.getElem?_eq_some_iff.1 KE1.out).1).trans KE1.out
              have HE2 : Hid (w5.heap[D2]? = some (.deferred (some []))) := (hb5.block D2 (Array.getElem?_eq_some_iff.1 KE2.out).1).trans KE2.out
              clear a0 t0 x0 htb hbw hab hb5 H6 HA
              have a0 := HA1.out.cell
              have af := HA1.out.frozen
              go_wp2_with fail
              go_roundw
              case rel =>
                refine ⟨HT1.out.other (by omega) _, HW1.out.setCell (p := ⟨W8.heap.size + 1, 0, none⟩) (show w3.heap.size ≤ W8.heap.size + 1 by omega) _, (Below.heap_setCell _ _ _ D1 (by show D1 ≠ W8.heap.size + 1; omega)).trans HE1.out, (Below.heap_setCell _ _ _ D2 (by show D2 ≠ W8.heap.size + 1; omega)).trans HE2.out, p + 1, by omega, HS2.out, ?_⟩
                have h := HA1.out.set (.int .i64 ((p : Int) + 1))
                simpa using h
              case measure =>
                have h := HA1.out.set (.int .i64 ((p + 1 : Nat) : Int))
                have h2 := atB_eq h
                simp only [Int.natCast_add, Int.cast_ofNat_Int] at h2
                rw [HMS.out, h2]
                omega
            · have hpl : ¬ (p : Int) < (xs.length : Int) := by have := HLL.out; omega
              have hpx : p = xs.length := by have := HLL.out; omega
              clear htb hbw hd1 hd2 he hab BE0 H6 hlt
              go_wp2_with fail
              have BE0 := HBE0.out
              rw [rounds_succ]
              go_wp2_with fail
              refine (bworks_any _ (HT.out _ (below_al BE0 _))).mono ?_
              rintro e w9 ⟨rfl, hb9⟩
              have C9 : Hid (Below W0.heap.size W0 w9) := below_on (below_al BE0 _) hb9
              have hbr := boxed_below HBR.out C9.out (by omega)
              have hc9 := hbr.cell
              have hf9 := hbr.frozen
              have HBR9 := Lib.hid hbr
              have E1 : Hid (w9.heap[D1]? = some (.deferred (some []))) := (hb9.block D1 (by rw [World.size_alloc]; have := (Array.getElem?_eq_some_iff.1 KE1.out).1; omega)).trans ((Below.heap_alloc _ _ _ (Array.getElem?_eq_some_iff.1 KE1.out).1).trans KE1.out)
              have E2 : Hid (w9.heap[D2]? = some (.deferred (some []))) := (hb9.block D2 (by rw [World.size_alloc]; have := (Array.getElem?_eq_some_iff.1 KE2.out).1; omega)).trans ((Below.heap_alloc _ _ _ (Array.getElem?_eq_some_iff.1 KE2.out).1).trans KE2.out)
              clear hb9 hbr
              go_wp2_with fail
              have f2 : (w9.setCell ⟨w.heap.size + 1 + 1, 0, none⟩ (.bool true)).heap[D2]? = some (.deferred (some [])) := (Below.heap_setCell _ _ _ D2 (by show D2 ≠ w.heap.size + 1 + 1; omega)).trans E2.out
              have f1 : (w9.setCell ⟨w.heap.size + 1 + 1, 0, none⟩ (.bool true)).heap[D1]? = some (.deferred (some [])) := (Below.heap_setCell _ _ _ D1 (by show D1 ≠ w.heap.size + 1 + 1; omega)).trans E1.out
              have f1' : ((w9.setCell ⟨w.heap.size + 1 + 1, 0, none⟩ (.bool true)).putObj D2 (.deferred none)).heap[D1]? = some (.deferred (some [])) := (World.putObj_heap_other (by omega)).trans f1
              have fr : Boxed (((w9.setCell ⟨w.heap.size + 1 + 1, 0, none⟩ (.bool true)).putObj D2 (.deferred none)).putObj D1 (.deferred none)) (w.heap.size + 1 + 1) 4 (.bool true) := (World.putObj_heap_other (by omega)).trans ((World.putObj_heap_other (by omega)).trans (HBR9.out.set (.bool true)))
              have hB9 : Below w.heap.size w (w9.setCell ⟨w.heap.size + 1 + 1, 0, none⟩ (.bool true)) := (HB0.out.trans (C9.out.mono (by omega))).setCell (p := ⟨w.heap.size + 1 + 1, 0, none⟩) (show w.heap.size ≤ w.heap.size + 1 + 1 by omega) _
              refine marks_two (v := .bool true) f2 f1' (by simp [results, Tryz.results6, go_sem, fr.cell]) ⟨rfl, ?_⟩
              exact (hB9.grown (grownBy_putObj' _ _ _) hB9.size (fun r e => by cases e; omega)).grown (grownBy_putObj' _ _ _) (by simp [World.putObj]; have := hB9.size; simp at this; omega) (fun r e => by cases e; omega)
              

end Go.Proofs.YtpffmpjdkpfpmaaGreatDoor

