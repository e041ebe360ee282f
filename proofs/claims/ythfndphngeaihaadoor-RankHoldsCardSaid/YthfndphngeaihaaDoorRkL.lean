/- Package rank: First. -/
import Derived.Test.YthfndphngeaihaaDoorRkK
namespace Go.Proofs.YthfndphngeaihaaDoor
open Go Go.RowKit Go.Shelf
open Go.ChangeMaps (setBlock)
set_option linter.unusedSimpArgs false
set_option linter.unusedVariables false
set_option linter.unusedSectionVars false
set_option maxRecDepth 100000

attribute [local go_sem] Oper.semAt_some

theorem ordered_any (p : Nat) (node : Int) (w : World) : Calls Tryd.prog 34 #[.pointer (some ⟨p, 0, none⟩), .int .u32 node] w fun e w' => e = .returned (.func (.func 59) #[] #[.pointer (some ⟨w.heap.size, 0, none⟩), .pointer (some ⟨w.heap.size + 1, 0, none⟩)]) ∧ w' = (w.alloc (.cells #[.pointer (some ⟨p, 0, none⟩)] 32)).alloc (.cells #[.int .u32 node] 23) := by
  have hmf := mkF
  go_enter Tryd.func34, Tryd.ntmps34
  go_wp2_with fail
  go_ret
  exact ⟨by simp, rfl⟩
theorem ent_ordered1 : ∀ args w, (callFunc 59 args).run Tryd.prog w = .ok (.enter 59 args) w := enters_of Tryd.func59 (by kernel_rfl) rfl

/-- The blocks that a range over a neighbour's names needs. -/
def ordS (S : Nat → Prop) (a b : Nat) (k : Nat) : Prop := S k ∨ k = a ∨ k = b ∨ k = 0
/-- It may be gone over at any later world that has the line. -/
theorem ordered_go (S : Nat → Prop) (p : Nat) (most node : Int) (D : List Wt) (w w1 : World) (h : LineAt w S p most D) (hS : ∀ b, S b → b < w.heap.size) (hT : TabR w) (hlen : D.length ≤ 100000)
    (h1 : w1 = (w.alloc (.cells #[.pointer (some ⟨p, 0, none⟩)] 32)).alloc (.cells #[.int .u32 node] 23)) (X : World) (hX : ∀ b, ordS S w.heap.size (w.heap.size + 1) b → X.heap[b]? = w1.heap[b]?) (hz : w1.heap.size ≤ X.heap.size) :
    GoesO Tryd.prog 59 #[.pointer (some ⟨w.heap.size, 0, none⟩), .pointer (some ⟨w.heap.size + 1, 0, none⟩)] (fun k => #[encWt (atW (allOf D node) k)]) (ordS S w.heap.size (w.heap.size + 1)) (allOf D node).length X := by
  have hb : Below w.heap.size w w1 := by rw [h1]; exact below_al (below_al (Below.refl _ _) _) _
  have hz1 : w1.heap.size = w.heap.size + 1 + 1 := by rw [h1]; simp
  have r1 : RowB w1 w.heap.size [.pointer (some ⟨p, 0, none⟩)] := by
    rw [h1]
    exact (RowB.new w [.pointer (some ⟨p, 0, none⟩)] _).on (below_al (Below.refl _ _) _) (by simp)
  have r2 : RowB w1 (w.heap.size + 1) [.int .u32 node] := by
    rw [h1]
    have := RowB.new (w.alloc (.cells #[.pointer (some ⟨p, 0, none⟩)] 32)) [.int .u32 node] 23
    rw [show (w.alloc (.cells #[.pointer (some ⟨p, 0, none⟩)] 32)).heap.size = w.heap.size + 1 by simp] at this
    exact this
  have hl : LineAt X (ordS S w.heap.size (w.heap.size + 1)) p most D := ((h.on hb).kept fun b hb' _ => hX b (.inl hb')).into fun b hb' => .inl hb'
  have hg := hT.lt
  exact ordered_goes (ordS S w.heap.size (w.heap.size + 1)) p w.heap.size (w.heap.size + 1) most node D X hl ((hT.on hb).kept (hX _ (.inr (.inr (.inr rfl))))) (fun b hb' => by
    rcases hb' with h | h | h | h
    · have := hS b h; omega
    · omega
    · omega
    · omega) (.inr (.inl rfl)) (.inr (.inr (.inl rfl))) (.inr (.inr (.inr rfl))) hlen ((r1.kept (hX _ (.inr (.inl rfl)))).1 0 _ rfl) ((r2.kept (hX _ (.inr (.inr (.inl rfl))))).1 0 _ rfl)

theorem ownFrom_row {β : Type} (B b : Nat) (v : Value) (vs : List Value) (hb : b < B) : OwnFrom B (fun (_ : β) W => RowB W b (v :: vs)) := fun s W W' row h hg hr =>
  h.kept (hg.block b h.lt fun e => by have := (hr b e.symm).1; omega)
theorem below_put {B D : Nat} {w0 w : World} (h : Below B w0 w) (hD : B ≤ D) (o : Obj) : Below B w0 (w.putObj D o) :=
  ⟨h.os, h.tape, h.output, by have := h.size; simpa [World.putObj] using this, fun k hk => (World.putObj_heap_other (by omega)).trans (h.block k hk)⟩
theorem RowB.ownk {W W' : World} {b : Nat} {v : Value} {vs : List Value} {row : Option Nat} (h : RowB W b (v :: vs)) (hg : W.grownBy W' row) (hr : ∀ r, row = some r → ∃ o : Obj, W.heap[r]? = some o ∧ o.isCells = false) : RowB W' b (v :: vs) :=
  h.kept (hg.block b h.lt fun e => by
    obtain ⟨o, ho, hc⟩ := hr b e.symm
    have h0 := h.1 0 v rfl
    cases o <;> simp_all [World.cell?, Obj.isCells])
theorem results_cells2 {P : Program} {fn : Func} {p q : Tmp} {t u : TypeId} (h : fn.results = #[.cell p t, .cell q u]) (tmps : Array Value) (w : World) (ad bd : Addr) (x y : Value)
    (hp : tmps[p]? = some (.pointer (some ad))) (hq : tmps[q]? = some (.pointer (some bd))) (lx : (loadVar t ad).run P w = .ok x w) (ly : (loadVar u bd).run P w = .ok y w) :
    (results fn tmps).run P w = .ok (.tuple #[x, y]) w := by
  simp only [results, h]
  simp [Sem.run_bind, Result.andThen, hp, hq, asAddr, lx, ly]
theorem load_err {w : World} {g : Nat} {x : Int} (h0 : w.cell? ⟨g, 0, none⟩ = some (.int .i64 x)) : (loadVar 33 ⟨g, 0, none⟩).run Tryd.prog w = .ok (.int .i64 x) w := by go_simp

/-- What First answers. -/
def firstWE (D : List Wt) (node : Int) : Wt × Int := if node ≤ 0 then (wtZ, 2) else match allOf D node with
  | [] => (wtZ, 5)
  | x :: _ => (x, 0)
def firstAsks (node : Int) (p b3 : Nat) : List Ask :=
  [⟨19, #[.pointer (some ⟨p, 0, none⟩)], #[], 0⟩, ⟨48, #[], #[.pointer (some ⟨b3, 0, none⟩)], unE (decide (0 < node)) 2⟩]
theorem firstAsks_first (node : Int) (p b3 : Nat) : firstE (firstAsks node p b3) = unE (decide (0 < node)) 2 := by
  unfold firstAsks
  simp only [firstE]
  cases decide (0 < node) <;> simp [unE]

set_option maxHeartbeats 8000000 in
theorem first_any (S : Nat → Prop) (p : Nat) (most node : Int) (D : List Wt) (w : World) (h : LineAt w S p most D) (hS : ∀ b, S b → b < w.heap.size) (hT : TabR w) (hlen : D.length ≤ 100000) :
    Calls Tryd.prog 11 #[.pointer (some ⟨p, 0, none⟩), .int .u32 node] w fun e w' => e = .returned (.tuple #[encWt (firstWE D node).1, .int .i64 (firstWE D node).2]) ∧ Below w.heap.size w w' := by
  obtain ⟨br, hbr⟩ : ∃ br, br = w.heap.size := ⟨_, rfl⟩
  obtain ⟨W, hW⟩ : ∃ W, W = (w.alloc (.cells #[.int .u32 0, .int .u32 0, .int .u64 0, .int .u32 0, .int .u32 0, .int .i64 0, .int .i64 0] 30)).alloc (.cells #[.int .i64 0] 33) := ⟨_, rfl⟩
  have HB0 : Hid (Below w.heap.size w W) := by rw [hW]; exact below_al (below_al (Below.refl _ _) _) _
  have HZ0 : Hid (W.heap.size = br + 1 + 1 ∧ br = w.heap.size) := ⟨by rw [hW, hbr]; simp, hbr⟩
  have HX0 : Hid (RowB W br wtZ.cells ∧ RowB W (br + 1) [.int .i64 0]) := by
    rw [Hid, hW, hbr]
    refine ⟨(RowB.new w wtZ.cells _).on (below_al (Below.refl _ _) _) (by simp), ?_⟩
    have := RowB.new (w.alloc (.cells #[.int .u32 0, .int .u32 0, .int .u64 0, .int .u32 0, .int .u32 0, .int .i64 0, .int .i64 0] 30)) [.int .i64 0] 33
    rw [show (w.alloc (.cells #[.int .u32 0, .int .u32 0, .int .u64 0, .int .u32 0, .int .u32 0, .int .i64 0, .int .i64 0] 30)).heap.size = w.heap.size + 1 by simp] at this
    exact this
  have HL := Lib.hid h
  have HT := Lib.hid hT
  have HSb := Lib.hid hS
  have HLe := Lib.hid hlen
  have HW := Lib.hid hW
  have hmf := mkF
  clear h hT hS hlen hW
  refine calls_of_marks Tryd.func11 rfl ?_
  simp only [Tryd.ntmps11, List.size_toArray, List.length_cons, List.length_nil, Nat.reduceAdd, Nat.reduceSub, Array.replicate_succ, Array.replicate_zero, List.push_toArray, List.append_toArray, List.nil_append, List.cons_append]
  go_upto_region 1 with fail
  rw [← HW.out, ← hbr]
  clear hbr
  go_wp2_with fail
  refine (near_any node W).mono ?_
  rintro e w1 ⟨rfl, rfl⟩
  go_wp2_with fail
  obtain ⟨V2, hV2⟩ : ∃ V, V = (W.alloc (.cells #[.int .u32 node] 23)).alloc (.cells #[.func (.func 19) #[.pointer (some ⟨p, 0, none⟩)] #[], .func (.func 48) #[] #[.pointer (some ⟨W.heap.size, 0, none⟩)]] 56) := ⟨_, rfl⟩
  rw [← hV2]
  have hbv : Below W.heap.size W V2 := by rw [hV2]; exact below_al (below_al (Below.refl _ _) _) _
  have hzv : V2.heap.size = W.heap.size + 1 + 1 := by rw [hV2]; simp
  have hnode : RowB V2 W.heap.size [.int .u32 node] := by
    rw [hV2]
    exact (RowB.new W [.int .u32 node] _).on (below_al (Below.refl _ _) _) (by simp)
  have hrow : ∀ (j : Nat) (q : Ask), (firstAsks node p W.heap.size)[j]? = some q → V2.cell? ⟨W.heap.size + 1, j, none⟩ = some (.func (.func q.g) q.fs q.lb) := fun j q hj => by
    have hr := RowB.new (W.alloc (.cells #[.int .u32 node] 23)) [.func (.func 19) #[.pointer (some ⟨p, 0, none⟩)] #[], .func (.func 48) #[] #[.pointer (some ⟨W.heap.size, 0, none⟩)]] 56
    rw [show (W.alloc (.cells #[.int .u32 node] 23)).heap.size = W.heap.size + 1 by simp] at hr
    rw [hV2]
    refine hr.1 j _ ?_
    unfold firstAsks at hj
    match j, hj with
    | 0, hj | 1, hj => injection hj with hj; subst hj; rfl
    | n + 2, hj => simp at hj
  have hask : AsksAt V2 (firstAsks node p W.heap.size) := by
    unfold firstAsks
    refine asks_cons ent_there (fun X hX => ?_) (asks_one ent_near1 (fun X hX => ?_))
    · obtain ⟨bq, bw, lq, lw, h1, _⟩ := HL.out.on (HB0.out.trans ((hbv.trans (hX.mono hbv.size)).mono HB0.out.size))
      exact there_any p bq X (h1.1 1 _ rfl)
    · exact near1_any _ node X ((hnode.on hX (by omega)).1 0 _ rfl)
  have HRef := Lib.hid (rkrefusal_any (W.heap.size + 1) (firstAsks node p W.heap.size) V2 (by simp [firstAsks]) (by omega) hrow hask)
  rw [firstAsks_first, show (firstAsks node p W.heap.size).length = 2 from rfl] at HRef
  have HBv := Lib.hid hbv
  clear hrow hask hnode hzv hV2 hbv
  refine HRef.out.mono ?_
  rintro e v3 ⟨rfl, hb3⟩
  have HB3 : Hid (Below W.heap.size W v3) := HBv.out.trans (hb3.mono HBv.out.size)
  clear HRef hb3 HBv
  have HX3 : Hid (RowB v3 br wtZ.cells ∧ RowB v3 (br + 1) [.int .i64 0]) := ⟨HX0.out.1.on HB3.out (by have := HZ0.out; omega), HX0.out.2.on HB3.out (by have := HZ0.out; omega)⟩
  have HBw : Hid (Below w.heap.size w v3) := HB0.out.trans (HB3.out.mono HB0.out.size)
  have HLv : Hid (LineAt v3 S p most D) := HL.out.on HBw.out
  have HTv : Hid (TabR v3) := HT.out.on HBw.out
  by_cases hn : 0 < node
  · have HNd := Lib.hid hn
    have hd : decide (0 < node) = true := by simp [hn]
    rw [hd, show unE true 2 = 0 from rfl]
    clear hn hd
    go_wp2_with fail
    refine (ordered_any p node v3).mono ?_
    rintro e w4 ⟨rfl, hw4⟩
    have HW4 := Lib.hid hw4
    clear hw4
    go_wp2_with fail
    have HB4 : Hid (Below w.heap.size w w4) := by rw [Hid, HW4.out]; exact below_al (below_al HBw.out _) _
    have HZ4 : Hid (w4.heap.size = v3.heap.size + 1 + 1 ∧ br + 1 < v3.heap.size ∧ w.heap.size ≤ br) := ⟨by rw [HW4.out]; simp, by have := HZ0.out; have := HB3.out.size; omega, by have := HZ0.out; omega⟩
    have HX4 : Hid (RowB w4 br wtZ.cells ∧ RowB w4 (br + 1) [.int .i64 0]) := by
      have hb : Below v3.heap.size v3 w4 := by rw [HW4.out]; exact below_al (below_al (Below.refl _ _) _) _
      exact ⟨HX3.out.1.on hb (by have := HZ4.out; omega), HX3.out.2.on hb (by have := HZ4.out; omega)⟩
    have hsb : ∀ b, ordS S v3.heap.size (v3.heap.size + 1) b → b < w4.heap.size := fun b hb => by
      have h1 := HZ4.out
      have h2 := HBw.out.size
      have h3 := HTv.out.lt
      rcases hb with h | h | h | h
      · have := HSb.out b h; omega
      · omega
      · omega
      · omega
    have hIr : ∀ (β : Type) (y : Wt), OwnFrom w4.heap.size (fun (_ : β) X => RowB X br y.cells ∧ RowB X (br + 1) [.int .i64 0] ∧ Below w.heap.size w X ∧ w4.heap.size ≤ X.heap.size) := fun β y =>
      OwnFrom.and (ownFrom_row _ _ _ _ (by have := HZ4.out; omega)) (OwnFrom.and (ownFrom_row _ _ _ _ (by have := HZ4.out; omega)) (OwnFrom.and (ownFrom_below (Nat.le_refl _) (by have := HB4.out.size; omega)) (fun _ _ _ _ h hg _ => Nat.le_trans h hg.size)))
    refine wp_rangeGoesO (gf := 59) (lb := #[.pointer (some ⟨v3.heap.size, 0, none⟩), .pointer (some ⟨v3.heap.size + 1, 0, none⟩)]) rfl ent_ordered1
      (ordered_go S p most node D v3 w4 HLv.out (fun b hb => Nat.lt_of_lt_of_le (HSb.out b hb) HBw.out.size) HTv.out HLe.out HW4.out w4 (fun _ _ => rfl) (Nat.le_refl _)) hsb (fun _ => rfl)
      (fun k X => k = 0 ∧ (RowB X br wtZ.cells ∧ RowB X (br + 1) [.int .i64 0] ∧ Below w.heap.size w X ∧ w4.heap.size ≤ X.heap.size))
      (fun c k X => (c = .ret ∧ k = 0) ∧ (RowB X br (atW (allOf D node) 0).cells ∧ RowB X (br + 1) [.int .i64 0] ∧ Below w.heap.size w X ∧ w4.heap.size ≤ X.heap.size))
      (OwnFrom.and (ownFrom_pure _ (fun k => k = 0)) (hIr Nat wtZ)) (fun c => OwnFrom.and (ownFrom_pure _ (fun k => c = .ret ∧ k = 0)) (hIr Nat _)) ⟨rfl, HX4.out.1, HX4.out.2, HB4.out, Nat.le_refl _⟩
      (fun k a' X => ∃ bx, a' = { tmps := #[.pointer (some ⟨p, 0, none⟩), .int .u32 node, undef, undef, .pointer (some ⟨br, 0, none⟩), .pointer (some ⟨br + 1, 0, none⟩), .int .i64 0, .pointer (some ⟨bx, 0, none⟩), .pointer (some ⟨p, 0, none⟩), .func (.func 19) #[.pointer (some ⟨p, 0, none⟩)] #[], .int .u32 node, .func (.func 48) #[] #[.pointer (some ⟨W.heap.size, 0, none⟩)], .slice (some ⟨W.heap.size + 1, 0, none⟩) 2 2, .int .i64 0, .int .i64 0, .bool false, undef, undef, .pointer (some ⟨p, 0, none⟩), .int .u32 node, .func (.func 59) #[] #[.pointer (some ⟨v3.heap.size, 0, none⟩), .pointer (some ⟨v3.heap.size + 1, 0, none⟩)], encWt (atW (allOf D node) k), undef, undef], defers := [] } ∧ RowB X bx (atW (allOf D node) k).cells)
      (fun k a' s X Y row hs hg hr => by
        obtain ⟨bx, e, c0⟩ := hs
        exact ⟨bx, e, c0.ownk hg (fun r e => (hr r e).2)⟩) ?assign ?body ?done ?stop
    case assign =>
      intro ll k X K hk hI hK
      have HI := Lib.hid hI
      have HKk := Lib.hid hK
      obtain ⟨x, hx⟩ : ∃ x, x = atW (allOf D node) k := ⟨_, rfl⟩
      rw [← hx] at HKk ⊢
      unfold encWt at HKk ⊢
      clear hI hK hx
      gi_wp2
      refine HKk.out _ _ ((KeepsOthers.alloc _ _).from _) (fun b hb => ?_) ⟨HI.out.1, (hIr Nat wtZ).alloc (s := k) _ HI.out.2⟩ ⟨X.heap.size, rfl, RowB.new X x.cells _⟩
      refine Below.heap_alloc X _ b ?_
      rcases hb with hb | hb
      · exact Nat.lt_of_lt_of_le (hsb b hb) HI.out.2.2.2.2
      · exact hb.2
    case body =>
      rintro ll k a' X hk hl _ ⟨rfl, h1, h2, h3⟩ ⟨bx, rfl, hr⟩
      have HX := Lib.hid (And.intro h1 (And.intro h2 h3))
      have HR := Lib.hid hr
      obtain ⟨x, hx⟩ : ∃ x, x = atW (allOf D node) 0 := ⟨_, rfl⟩
      rw [← hx] at HR ⊢
      have z0 := HR.out.1 0 _ rfl
      have z1 := HR.out.1 1 _ rfl
      have z2 := HR.out.1 2 _ rfl
      have z3 := HR.out.1 3 _ rfl
      have z4 := HR.out.1 4 _ rfl
      have z5 := HR.out.1 5 _ rfl
      have z6 := HR.out.1 6 _ rfl
      have u0 := h1.1 0 _ rfl
      have u1 := h1.1 1 _ rfl
      have u2 := h1.1 2 _ rfl
      have u3 := h1.1 3 _ rfl
      have u4 := h1.1 4 _ rfl
      have u5 := h1.1 5 _ rfl
      have u6 := h1.1 6 _ rfl
      have g0 := h1.2 0
      have g1 := h1.2 1
      have g2 := h1.2 2
      have g3 := h1.2 3
      have g4 := h1.2 4
      have g5 := h1.2 5
      have g6 := h1.2 6
      have u7 := h2.1 0 _ rfl
      have g7 := h2.2 0
      unfold encWt
      clear h1 h2 h3 hr hx
      gi_wp2
      obtain ⟨Y, hY⟩ : ∃ Y, Y = (putWt X br x).setCell ⟨br + 1, 0, none⟩ (.int .i64 0) := ⟨_, rfl⟩
      change roundEndsO _ _ _ _ _ _ _ _ ((putWt X br x).setCell ⟨br + 1, 0, none⟩ (.int .i64 0))
      rw [← hY]
      have hk : ∀ b, b ≠ br → b ≠ br + 1 → Y.heap[b]? = X.heap[b]? := fun b e1 e2 => by
        rw [hY, Below.heap_setCell _ _ _ _ e2, putWt_block _ _ _ _ e1]
      have hz : Y.heap.size = X.heap.size := by rw [hY, World.size_setCell, putWt_size]
      obtain ⟨p1, p2, p3, p4⟩ := HX.out
      obtain ⟨y1, y2, y3⟩ := HZ4.out
      refine ⟨⟨⟨by omega, fun b o hb ho _ => (hk b (by omega) (by omega)).trans ho⟩, fun b hb => ?_⟩, ⟨rfl, rfl⟩, ?_, ?_, ?_, by omega⟩
      · refine hk b ?_ ?_
        · rintro rfl
          rcases hb with hb | hb
          · rcases hb with h | h | h | h
            · have := HSb.out b h; omega
            · omega
            · omega
            · have := HT.out.lt; omega
          · have := hb.1; omega
        · rintro rfl
          rcases hb with hb | hb
          · rcases hb with h | h | h | h
            · have := HSb.out _ h; omega
            · omega
            · omega
            · have := HT.out.lt; omega
          · have := hb.1; omega
      · rw [hY]
        exact (putWt_row p1).other (by omega) _
      · rw [hY]
        exact (p2.kept (putWt_block _ _ _ _ (by omega))).set 0 _
      · have hb : ButS w.heap.size (fun b => False) w Y := by
          rw [hY]
          exact (ButS.putWt (ButS.of_below p3) (.inr (by omega)) x).set (.inr (by omega)) 0 _
        exact hb.below (Nat.le_refl _) fun k h => h.elim
    case done =>
      rintro D9 X hD ⟨hN, h1, h2, h3⟩ hK
      have HX := Lib.hid (And.intro h1 (And.intro h2 h3))
      have HK := Lib.hid hK
      have HN0 := Lib.hid hN
      have u0 := h1.1 0 _ rfl
      have u1 := h1.1 1 _ rfl
      have u2 := h1.1 2 _ rfl
      have u3 := h1.1 3 _ rfl
      have u4 := h1.1 4 _ rfl
      have u5 := h1.1 5 _ rfl
      have u6 := h1.1 6 _ rfl
      have g0 := h1.2 0
      have g1 := h1.2 1
      have g2 := h1.2 2
      have g3 := h1.2 3
      have g4 := h1.2 4
      have g5 := h1.2 5
      have g6 := h1.2 6
      have u7 := h2.1 0 _ rfl
      have g7 := h2.2 0
      clear h1 h2 h3 hN hK
      go_wp2_with fail
      obtain ⟨Y, hY⟩ : ∃ Y, Y = (putWt X br wtZ).setCell ⟨br + 1, 0, none⟩ (.int .i64 5) := ⟨_, rfl⟩
      change bodyPostM _ _ _ _ _ _ _ ((putWt X br wtZ).setCell ⟨br + 1, 0, none⟩ (.int .i64 5))
      rw [← hY]
      obtain ⟨p1, p2, p3, p4⟩ := HX.out
      obtain ⟨y1, y2, y3⟩ := HZ4.out
      have hk : ∀ b, b ≠ br → b ≠ br + 1 → Y.heap[b]? = X.heap[b]? := fun b e1 e2 => by
        rw [hY, Below.heap_setCell _ _ _ _ e2, putWt_block _ _ _ _ e1]
      have hD' : Y.heap[D9]? = some (.deferred (some [])) := (hk D9 (by omega) (by omega)).trans HK.out
      have hr1 : RowB Y br wtZ.cells := by rw [hY]; exact (putWt_row p1).other (by omega) _
      have hr2 : RowB Y (br + 1) [.int .i64 5] := by rw [hY]; exact (p2.kept (putWt_block _ _ _ _ (by omega))).set 0 _
      have hb : ButS w.heap.size (fun b => False) w Y := by
        rw [hY]
        exact (ButS.putWt (ButS.of_below p3) (.inr (by omega)) wtZ).set (.inr (by omega)) 0 _
      refine marks_one hD' (results_cells2 rfl _ _ _ _ _ _ (by rfl) (by rfl) (load_wt (hr1.kept (World.putObj_heap_other (by omega)))) (load_err ((hr2.kept (World.putObj_heap_other (by omega))).1 0 _ rfl))) ⟨?_, ?_⟩
      · have h1 := HNd.out
        have h2 : allOf D node = [] := List.eq_nil_of_length_eq_zero HN0.out
        unfold firstWE
        rw [if_neg (by omega), h2]
      · exact below_put (hb.below (Nat.le_refl _) fun k h => h.elim) (by omega) _
    case stop =>
      rintro D9 c k X hD hk ⟨⟨rfl, rfl⟩, h1, h2, h3⟩ hK
      have HX := Lib.hid (And.intro h1 (And.intro h2 h3))
      have HK := Lib.hid hK
      have HN0 := Lib.hid hk
      clear h1 h2 h3 hK hk
      go_wp2_with fail
      obtain ⟨p1, p2, p3, p4⟩ := HX.out
      obtain ⟨y1, y2, y3⟩ := HZ4.out
      refine marks_one HK.out (results_cells2 rfl _ _ _ _ _ _ (by rfl) (by rfl) (load_wt (p1.kept (World.putObj_heap_other (by omega)))) (load_err ((p2.kept (World.putObj_heap_other (by omega))).1 0 _ rfl))) ⟨?_, ?_⟩
      · have h1 := HNd.out
        have h2 := HN0.out
        unfold firstWE
        rw [if_neg (by omega)]
        unfold atW
        cases hl : allOf D node with
        | nil => rw [hl] at h2; simp at h2
        | cons y r => rfl
      · exact below_put p3 (by omega) _
  · have HNd := Lib.hid hn
    have hd : decide (0 < node) = false := by simp [hn]
    rw [hd, show unE false 2 = 2 from rfl]
    clear hn hd
    have r3 := HX3.out.1
    have u0 := r3.1 0 _ rfl
    have u1 := r3.1 1 _ rfl
    have u2 := r3.1 2 _ rfl
    have u3 := r3.1 3 _ rfl
    have u4 := r3.1 4 _ rfl
    have u5 := r3.1 5 _ rfl
    have u6 := r3.1 6 _ rfl
    have g0 := r3.2 0
    have g1 := r3.2 1
    have g2 := r3.2 2
    have g3 := r3.2 3
    have g4 := r3.2 4
    have g5 := r3.2 5
    have g6 := r3.2 6
    have r4 := HX3.out.2
    have u7 := r4.1 0 _ rfl
    have g7 := r4.2 0
    clear r3 r4
    go_wp2_with fail
    change bodyPostM _ _ _ _ _ _ _ ((putWt v3 br wtZ).setCell ⟨br + 1, 0, none⟩ (.int .i64 2))
    have hr1 : RowB ((putWt v3 br wtZ).setCell ⟨br + 1, 0, none⟩ (.int .i64 2)) br wtZ.cells := (putWt_row HX3.out.1).other (by omega) _
    have hr2 : RowB ((putWt v3 br wtZ).setCell ⟨br + 1, 0, none⟩ (.int .i64 2)) (br + 1) [.int .i64 2] := (HX3.out.2.kept (putWt_block _ _ _ _ (by omega))).set 0 _
    refine marks_none (results_cells2 rfl _ _ _ _ _ _ (by rfl) (by rfl) (load_wt hr1) (load_err (hr2.1 0 _ rfl))) ⟨?_, ?_⟩
    · have := HNd.out
      unfold firstWE
      rw [if_pos (by omega)]
    · have hb : ButS w.heap.size (fun b => False) w ((putWt v3 br wtZ).setCell ⟨br + 1, 0, none⟩ (.int .i64 2)) := (ButS.putWt (ButS.of_below HBw.out) (.inr (by have := HZ0.out; omega)) wtZ).set (.inr (by have := HZ0.out; omega)) 0 _
      exact hb.below (Nat.le_refl _) fun k h => h.elim

end Go.Proofs.YthfndphngeaihaaDoor
