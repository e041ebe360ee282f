/- The law's way over octet.Each: so many bytes, at most. -/
import Derived.Test.YtokecladkepgfaaOctH
import Derived.RangeFuncBox
namespace Go.Proofs.Ytokecladkepgfaa
open Go.RowKit Go.Shelf

attribute [local go_sem] Oper.semAt_some

/-- What package octet's Each hands out, and where it lies. -/
def EachF (w : World) (bs : List UInt8) (e : Ending) (w' : World) : Prop :=
  ∃ Bs a c, e = .returned (.func (.func 37) #[] #[.pointer (some ⟨Bs, 0, none⟩)]) ∧ w.heap.size ≤ Bs ∧ w'.cell? ⟨Bs, 0, none⟩ = some (.slice a bs.length c) ∧ RdB w' w'.heap.size a bs ∧
    (∀ p, a = some p → w.heap.size ≤ p.block ∧ p.block < w'.heap.size) ∧ Bs < w'.heap.size ∧ Below w.heap.size w w'

set_option maxRecDepth 100000 in
set_option maxHeartbeats 1000000 in
theorem eachOut_far (a : Option Addr) (c : Nat) (bs : List UInt8) (w : World) (hlen : bs.length ≤ 140737488351232) (hr : RdB w w.heap.size a bs) :
    Calls Try.prog 33 #[.slice a bs.length c] w (EachF w bs) := by
  have H := Lib.hid (clone_any a c bs w hlen hr)
  clear hr
  go_enter Try.func33, Try.ntmps33
  go_wp2_with fail
  refine H.out.mono ?_
  rintro e w1 ⟨v, rfl, ho, hb⟩
  obtain ⟨a', c', rfl, hc, hr, ha⟩ := ho.bytes
  go_wp2_with fail
  refine (each_any _ _ _ _).mono ?_
  rintro e w2 ⟨rfl, rfl⟩
  go_wp2
  go_ret
  exact ⟨w1.heap.size, a', c', rfl, hb.size, by simp, (hr.below ((Below.refl _ _).alloc (Nat.le_refl _) _)).mono (by simp), fun p hp => ⟨(ha p hp).1, by have := (ha p hp).2; simp; omega⟩, by simp, hb.alloc hb.size _⟩

theorem ownFrom_size {β : Type} (B R : Nat) : OwnFrom B (fun (_ : β) (W : World) => R ≤ W.heap.size) := fun _ _ _ _ h hg _ => Nat.le_trans h hg.size

/-- A box that holds a slice with memory of its own. -/
def HoldsV (B : Nat) (t : TypeId) (R : Nat) (e : TypeId) (f : Nat → List Value) (k : Nat) (W : World) : Prop := ∃ v, Boxed W B t v ∧ W.ownsRow R e 1 v (f k).length (f k) ∧ True

theorem holdsV_own (B : Nat) (t : TypeId) (R : Nat) (e : TypeId) (f : Nat → List Value) : Own (HoldsV B t R e f) :=
  holdsRow_own R B t e 1 (fun k => (f k).length) f (fun _ _ => True)

/-- What the law's way over bytes makes. -/
def EachL (w : World) (bs : List UInt8) (e : Ending) (w' : World) : Prop :=
  ∃ A C, e = .returned (.tuple #[.slice A bs.length C, .bool true]) ∧ bs.length ≤ C ∧ RdB w' w'.heap.size A bs ∧ Below w.heap.size w w'

theorem take_step (bs : List UInt8) (k : Nat) (hk : k < bs.length) : ((bs.take k).map encB) ++ [.int .u8 (byteAt bs k)] = (bs.take (k + 1)).map encB := by
  have h : bs.take (k + 1) = bs.take k ++ [bs[k]] := by rw [List.take_add_one, List.getElem?_eq_getElem hk]; rfl
  rw [h, List.map_append]
  simp [encB, byteAt, List.getElem?_eq_getElem hk]

theorem run_equalIn_func_nil {P : Program} (w : World) (d : Nat) (t : TypeId) (ps rs : Array TypeId) (b : Bool) (fn : Fn) (f c : Array Value) (h : P.underlying t = some (.func ps rs b)) :
    (Op.equalIn (d + 1) t (.func fn f c) .nilFunc).run P w = .ok false w := by
  simp [Op.equalIn, run_underlying h]

theorem run_eql_func_nil {P : Program} (w : World) (t : TypeId) (ps rs : Array TypeId) (b : Bool) (fn : Fn) (f c : Array Value) (h : P.underlying t = some (.func ps rs b)) :
    (binOp .eql t (.func fn f c) .nilFunc).run P w = .ok (.bool false) w := by
  simp only [binOp]
  simp [Op.equal, Op.maxDepth, run_equalIn_func_nil w 9999 t ps rs b fn f c h]

theorem wpListIn_app {F : Fence} {n : Nat} {P : Program} (w : World) {ops : Array Oper} {rest : List Oper} {o : Oper} {a : Act} {Q : Exit → Act → World → Prop} (hgd : o.guard = none) (s x : Operand) (t : TypeId)
    (ho : o.op = .call { callee := .builtin .append, args := #[s, x], argTypes := #[t, t] })
    (base : Nat) (e : TypeId) (z : Value) (bytes : Nat) (ht : P.underlying t = some (.slice e)) (hinfo : (P.info? e).map (fun i => (i.zero, i.size, i.bytes)) = some (some z, 1, bytes)) (hz1 : z.cells.size = 1)
    (v : Value) (xs : List Value) (hv : a.eval s = v) (hown : OwnV w base e v xs) (A : Option Addr) (m c : Nat) (ys : List Value) (hx : a.eval x = .slice A m c) (hm : ys.length = m) (hs : Src w A ys) (h1 : ∀ u ∈ ys, u.oneCell' = true)
    (h63 : xs.length + ys.length ≤ maxLen) (hbytes : (xs.length + ys.length) * bytes ≤ 140737488355328) (hbase : base ≤ w.heap.size)
    (h : ∀ v' w', AppPost w base e v xs ys v' w' → wpListIn F n P ops Q rest (a.put o.dst v') w') : wpListIn F n P ops Q (o :: rest) a w :=
  wpListIn_plain hgd fun _ hK => by
    obtain ⟨v', w', hrun, hp⟩ := run_app (P := P) w base t o.type e z bytes ht hinfo hz1 v xs hown A m c ys hm hs h1 h63 hbytes hbase
    unfold Oper.wpIn
    refine ⟨by simp [Oper.about, ho, resolve, Target.leads, Sem.run_pure], ?_⟩
    rw [Oper.semAt_plain F _ _ (by rw [ho]; intro c' hc'; cases hc')]
    simp [execOp, ho, resolve, invoke, builtin, hv, hx, hrun, Result.andThen]
    exact hK _ _ (h v' w' hp)

/-- One byte more behind the bytes in the box: what the walk of a round owes. -/
theorem append_step {S : Nat → Prop} {W w3 : World} {M R k C : Nat} {A : Option Addr} {v' : Value} {bs : List UInt8} {u1 u2 u3 : Value} {tmp : Obj} (hk : k < bs.length)
    (h1 : Boxed W M 3 u1) (h2 : Boxed W (M + 1) 23 u2) (h3 : Boxed W (M + 1 + 1) 4 u3) (hv : Boxed W (M + 1 + 1 + 1) 23 (.slice A k C))
    (hown : OwnV W R 5 (.slice A k C) ((bs.take k).map encB)) (hM : M + 4 ≤ R) (hR : R ≤ W.heap.size) (hS : ∀ b, S b → M + 4 ≤ b ∧ b < R)
    (hp : AppPost (W.alloc tmp) R 5 (.slice A k C) ((bs.take k).map encB) [.int .u8 (byteAt bs k)] v' w3) :
    ∃ A' C', v' = .slice A' (k + 1) C' ∧ Boxed w3 (M + 1 + 1 + 1) 23 (.slice A k C) ∧
      (Boxed (w3.setCell ⟨M + 1 + 1 + 1, 0, none⟩ v') M 3 u1 ∧ Boxed (w3.setCell ⟨M + 1 + 1 + 1, 0, none⟩ v') (M + 1) 23 u2 ∧ Boxed (w3.setCell ⟨M + 1 + 1 + 1, 0, none⟩ v') (M + 1 + 1) 4 u3) ∧
      Boxed (w3.setCell ⟨M + 1 + 1 + 1, 0, none⟩ v') (M + 1 + 1 + 1) 23 v' ∧
      OwnV (w3.setCell ⟨M + 1 + 1 + 1, 0, none⟩ v') R 5 v' ((bs.take (k + 1)).map encB) ∧
      KeepsOthers W (w3.setCell ⟨M + 1 + 1 + 1, 0, none⟩ v') ∧ Below M W (w3.setCell ⟨M + 1 + 1 + 1, 0, none⟩ v') ∧ KeepB S W (w3.setCell ⟨M + 1 + 1 + 1, 0, none⟩ v') ∧ R ≤ (w3.setCell ⟨M + 1 + 1 + 1, 0, none⟩ v').heap.size := by
  obtain ⟨hn, hg, _⟩ := hp
  rw [take_step bs k hk] at hn
  have hrows := hown.row
  obtain ⟨A', C', rfl, _, _, _⟩ := hn.bytes
  have hl : (bs.take (k + 1)).length = k + 1 := by simp; omega
  rw [hl] at hn ⊢
  have hne : ∀ B, B < R → some B ≠ (Value.slice A k C).ownBlock := fun B hB e => by
    have := (hrows B e.symm).1
    omega
  obtain ⟨a1, a2, a3, a4, a5⟩ := hv.appended (n₀ := M) (e := 5) (by decide) (hown.base (by omega)) (by omega) (by omega) (hn.base (by omega)) hg
  have kb : ∀ {B : Nat} {t : TypeId} {u : Value}, Boxed W B t u → B < M + 3 → Boxed (w3.setCell ⟨M + 1 + 1 + 1, 0, none⟩ (.slice A' (k + 1) C')) B t u := fun h hB =>
    (((h.alloc tmp).kept hg (hne _ (by omega)))).other (by omega) _
  refine ⟨A', C', rfl, a1, ⟨kb h1 (by omega), kb h2 (by omega), kb h3 (by omega)⟩, a2, OwnV.kept hn (grownBy_setCell' _ _ _) (.inr fun e => ?_), a4, a5, ?_, Nat.le_trans hR ?_⟩
  · have := hn.row _ e
    omega
  · intro b hb
    have hb' := hS b hb
    refine (Below.heap_setCell _ _ _ b (by show b ≠ M + 1 + 1 + 1; omega)).trans ?_
    refine (hg.block b (by simp; omega) (hne b hb'.2)).trans ?_
    exact Below.heap_alloc W tmp b (by omega)
  · exact Nat.le_trans (by simp) (Nat.le_trans hg.size (grownBy_setCell' w3 (M + 1 + 1 + 1) (.slice A' (k + 1) C')).size)

theorem results_cells2 {fn : Func} {p q : Tmp} {t u : TypeId} (h : fn.results = #[.cell p t, .cell q u]) (tmps : Array Value) (P : Program) (w : World) (ad bd : Addr) (x y : Value)
    (hp : tmps.getD p undef = .pointer (some ad)) (hq : tmps.getD q undef = .pointer (some bd)) (lx : (loadVar t ad).run P w = .ok x w) (ly : (loadVar u bd).run P w = .ok y w) :
    (results fn tmps).run P w = .ok (.tuple #[x, y]) w := by
  simp only [Array.getD_eq_getD_getElem?] at hp hq
  simp only [results, h]
  simp [Sem.run_bind, Result.andThen, hp, hq, asAddr, lx, ly]

/-- The way out: the bytes, and true. -/
theorem eachL_end {w W : World} {R D C n : Nat} {A : Option Addr} {xs : List UInt8} {u2 u3 : Value} {tmps : Array Value} (hl : xs.length = n) (hM : w.heap.size + 4 ≤ R) (hR : R ≤ D)
    (h2 : Boxed W (w.heap.size + 1) 23 u2) (h3 : Boxed W (w.heap.size + 1 + 1) 4 u3) (hown : OwnV W R 5 (.slice A n C) (xs.map encB)) (hBW : Below w.heap.size w W) (hD : W.heap[D]? = some (.deferred (some [])))
    (t4 : tmps.getD 4 undef = .pointer (some ⟨w.heap.size + 1, 0, none⟩)) (t5 : tmps.getD 5 undef = .pointer (some ⟨w.heap.size + 1 + 1, 0, none⟩)) :
    bodyPostM Fence.wide 9 Try.prog Try.f18 (EachL w xs) .ret { tmps := tmps, defers := [{ target := .collected D, args := #[] }] }
      ((W.setCell ⟨w.heap.size + 1, 0, none⟩ (.slice A n C)).setCell ⟨w.heap.size + 1 + 1, 0, none⟩ (.bool true)) := by
  subst hl
  have hne : ∀ B, B < R → (Value.slice A xs.length C).ownBlock ≠ some B := fun B hB e => by
    have := (hown.row _ e).1
    omega
  have hD' : ((W.setCell ⟨w.heap.size + 1, 0, none⟩ (.slice A xs.length C)).setCell ⟨w.heap.size + 1 + 1, 0, none⟩ (.bool true)).heap[D]? = some (.deferred (some [])) :=
    ((Below.heap_setCell _ _ _ D (by show D ≠ w.heap.size + 1 + 1; omega)).trans (Below.heap_setCell _ _ _ D (by show D ≠ w.heap.size + 1; omega))).trans hD
  have o3 := ownsRow_putObj ((OwnV.kept (hown.kept (grownBy_setCell' W (w.heap.size + 1) (.slice A xs.length C)) (.inr (hne _ (by omega)))) (grownBy_setCell' _ (w.heap.size + 1 + 1) (.bool true)) (.inr (hne _ (by omega))))) (.deferred none) hD' rfl
  have c2 := (((h2.set (.slice A xs.length C)).other (B' := w.heap.size + 1 + 1) (by omega) (.bool true)).kept (grownBy_putObj' _ D (.deferred none)) (by simp; omega)).cell
  have c3 := (((h3.other (B' := w.heap.size + 1) (by omega) (.slice A xs.length C)).set (.bool true)).kept (grownBy_putObj' _ D (.deferred none)) (by simp; omega)).cell
  obtain ⟨A', C', hv, hC, hr, _⟩ := OwnV.bytes o3
  injection hv with e1 _ e3
  subst e1 e3
  refine marks_one hD' (results_cells2 rfl _ _ _ _ _ (.slice A xs.length C) (.bool true) t4 t5 ?_ ?_) ⟨A, C, rfl, hC, hr, ?_⟩
  · have hu := Try.underlying23
    go_simp
  · have hu := Try.underlying4
    go_simp
  · exact ((hBW.setCell (p := ⟨w.heap.size + 1, 0, none⟩) (by simp) _).setCell (p := ⟨w.heap.size + 1 + 1, 0, none⟩) (by simp; omega) _).grown (grownBy_putObj' _ _ _) ((hBW.setCell (p := ⟨w.heap.size + 1, 0, none⟩) (by simp) (.slice A xs.length C)).setCell (p := ⟨w.heap.size + 1 + 1, 0, none⟩) (by simp; omega) (.bool true)).size (fun r e => by cases e; omega)

set_option maxRecDepth 100000 in
set_option maxHeartbeats 4000000 in
theorem eachL_any (a : Option Addr) (c most : Nat) (bs : List UInt8) (w : World) (hm : 1 ≤ most) (hm2 : most ≤ 4000) (hlen : bs.length ≤ 3000) (hr : RdB w w.heap.size a bs) :
    Calls Try.prog 18 #[.slice a bs.length c, .int .i64 (most : Int)] w (EachL w (bs.take most)) := by
  refine calls_of_marks Try.func18 rfl ?_
  simp only [Try.ntmps18, List.size_toArray, List.length_cons, List.length_nil, Nat.reduceAdd, Nat.reduceSub, Array.replicate_succ, Array.replicate_zero, List.push_toArray, List.append_toArray, List.nil_append, List.cons_append]
  have B0 : Below w.heap.size w ((((w.alloc (.cells #[.int .i64 (most : Int)] 3)).alloc (.cells #[.slice none 0 0] 23)).alloc (.cells #[.bool false] 4)).alloc (.cells #[.slice none 0 0] 23)) :=
    ((((Below.refl _ _).alloc (Nat.le_refl _) _).alloc (by simp) _).alloc (by simp; omega) _).alloc (by simp; omega) _
  have X1 := (((Boxed.new w 3 (.int .i64 (most : Int))).alloc (.cells #[.slice none 0 0] 23)).alloc (.cells #[.bool false] 4)).alloc (.cells #[.slice none 0 0] 23)
  have X2 := ((Boxed.new (w.alloc (.cells #[.int .i64 (most : Int)] 3)) 23 (.slice none 0 0)).alloc (.cells #[.bool false] 4)).alloc (.cells #[.slice none 0 0] 23)
  have X3 := (Boxed.new ((w.alloc (.cells #[.int .i64 (most : Int)] 3)).alloc (.cells #[.slice none 0 0] 23)) 4 (.bool false)).alloc (.cells #[.slice none 0 0] 23)
  have X4 := Boxed.new (((w.alloc (.cells #[.int .i64 (most : Int)] 3)).alloc (.cells #[.slice none 0 0] 23)).alloc (.cells #[.bool false] 4)) 23 (.slice none 0 0)
  simp only [World.size_alloc] at X2 X3 X4
  obtain ⟨w0, hw0⟩ : ∃ w0, (((w.alloc (.cells #[.int .i64 (most : Int)] 3)).alloc (.cells #[.slice none 0 0] 23)).alloc (.cells #[.bool false] 4)).alloc (.cells #[.slice none 0 0] 23) = w0 := ⟨_, rfl⟩
  have hs0 : w0.heap.size = w.heap.size + 4 := by rw [← hw0]; simp
  rw [hw0] at B0 X1 X2 X3 X4
  go_wp2_with fail
  refine (eachOut_any a c bs w0 (by omega) ((hr.below B0).mono B0.size)).mono ?_
  rintro e w1 ⟨Bs0, a0, c0, rfl, _, _, _, _, hb1⟩
  have heq := fun w : World => run_eql_func_nil (P := Try.prog) w 66 _ _ _ (.func 37) #[] #[.pointer (some ⟨Bs0, 0, none⟩)] Try.underlying66
  go_wp2_with fail
  refine (eachOut_far a c bs w1 (by omega) ((hr.below (below_on B0 hb1)).mono (below_on B0 hb1).size)).mono ?_
  rintro e w2 ⟨Bs, a1, c1, rfl, hBs, hcell, hra, hpl, hBl, hb2⟩
  have B2 := below_on (below_on B0 hb1) hb2
  have B02 : Below w0.heap.size w0 w2 := below_on hb1 hb2
  have Y1 : Boxed w2 w.heap.size 3 (.int .i64 (most : Int)) := (B02.block _ (by omega)).trans X1
  have Y2 : Boxed w2 (w.heap.size + 1) 23 (.slice none 0 0) := (B02.block _ (by omega)).trans X2
  have Y3 : Boxed w2 (w.heap.size + 1 + 1) 4 (.bool false) := (B02.block _ (by omega)).trans X3
  have Y4 : Boxed w2 (w.heap.size + 1 + 1 + 1) 23 (.slice none 0 0) := (B02.block _ (by omega)).trans X4
  have hs12 : w0.heap.size ≤ w1.heap.size := hb1.size
  have hs2 := hb2.size
  clear X1 X2 X3 X4 hr
  clear heq hw0
  go_wp2
  have hSB : ∀ b, (∃ p, a1 = some p ∧ p.block = b) → w.heap.size + 4 ≤ b ∧ b < w2.heap.size := by
    rintro b ⟨p, hp, rfl⟩
    have := hpl p hp
    omega
  refine wp_rangeGoes_plain (gf := 37) (lb := #[.pointer (some ⟨Bs, 0, none⟩)]) rfl (enters_of Try.func37 (by kernel_rfl) rfl)
    (each_goes Bs w2.heap.size (fun b => ∃ p, a1 = some p ∧ p.block = b) a1 c1 bs w2 (by omega) hBl (Nat.le_refl _) (fun p _ hp => ⟨p, hp, rfl⟩) hcell hra) (fun b hb => (hSB b hb).2) (fun _ => rfl)
    (fun k W => (Boxed W w.heap.size 3 (.int .i64 (most : Int)) ∧ Boxed W (w.heap.size + 1) 23 (.slice none 0 0) ∧ Boxed W (w.heap.size + 1 + 1) 4 (.bool false) ∧ HoldsV (w.heap.size + 1 + 1 + 1) 23 w2.heap.size 5 (fun k => (bs.take k).map encB) k W) ∧ (k < most ∧ w2.heap.size ≤ W.heap.size) ∧ Below w.heap.size w W)
    (fun cd k W => (Boxed W w.heap.size 3 (.int .i64 (most : Int)) ∧ Boxed W (w.heap.size + 1) 23 (.slice none 0 0) ∧ Boxed W (w.heap.size + 1 + 1) 4 (.bool false) ∧ HoldsV (w.heap.size + 1 + 1 + 1) 23 w2.heap.size 5 (fun k => (bs.take (k + 1)).map encB) k W) ∧ (cd = .exit 0 ∧ k + 1 = most) ∧ Below w.heap.size w W)
    (OwnFrom.and (OwnFrom.and ((boxed_own _ _ _).from _) (OwnFrom.and ((boxed_own _ _ _).from _) (OwnFrom.and ((boxed_own _ _ _).from _) ((holdsV_own _ _ _ _ _).from _)))) (OwnFrom.and (OwnFrom.and (ownFrom_pure _ _) (ownFrom_size _ _)) (ownFrom_below (Nat.le_refl _) (by omega))))
    (fun cd => OwnFrom.and (OwnFrom.and ((boxed_own _ _ _).from _) (OwnFrom.and ((boxed_own _ _ _).from _) (OwnFrom.and ((boxed_own _ _ _).from _) ((holdsV_own _ _ _ _ _).from _)))) (OwnFrom.and (ownFrom_pure _ (fun k => cd = .exit 0 ∧ k + 1 = most)) (ownFrom_below (Nat.le_refl _) (by omega))))
    ⟨⟨Y1, Y2, Y3, _, Y4, OwnV.nil _ _ _, trivial⟩, ⟨by omega, Nat.le_refl _⟩, B2⟩
    (fun k => { tmps := #[.slice a bs.length c, .int .i64 (most : Int), undef, .pointer (some ⟨w.heap.size, 0, none⟩), .pointer (some ⟨w.heap.size + 1, 0, none⟩), .pointer (some ⟨w.heap.size + 1 + 1, 0, none⟩), .pointer (some ⟨w.heap.size + 1 + 1 + 1, 0, none⟩),
      .int .i64 (k : Int), .int .u8 (byteAt bs k), .slice a bs.length c, .func (.func 37) #[] #[.pointer (some ⟨Bs0, 0, none⟩)], .bool false, .slice a bs.length c, .func (.func 37) #[] #[.pointer (some ⟨Bs, 0, none⟩)],
      .int .i64 (k : Int), .int .u8 (byteAt bs k), undef, undef, undef, undef, undef, undef, undef, undef, undef, undef, undef, undef, undef], defers := [] }) ?assign ?body ?done ?stop
  case assign =>
    intro l k W K hK
    simp only [encE]
    gi_wp2
    exact hK
  case body =>
    rintro l k W hk hl _ ⟨⟨hb1, hb2, hb3, v, hv, hrow, _⟩, ⟨hkm, hsz⟩, hBW⟩
    have hkl : ((bs.take k).map encB).length = k := by simp; omega
    have hown : OwnV W w2.heap.size 5 v ((bs.take k).map encB) := hrow
    have hcm := hb1.cell
    have hcv := hv.cell
    obtain ⟨A, C, rfl, hC, _, _⟩ := hown.bytes
    have hlk : (bs.take k).length = k := by simp; omega
    rw [hlk] at hcv hv hrow hown
    have hL1 : Hid (((bs.take k).map encB).length + [Value.int .u8 (byteAt bs k)].length ≤ maxLen) := by simp only [Hid, hkl]; simp [maxLen]; omega
    have hL2 : Hid ((((bs.take k).map encB).length + [Value.int .u8 (byteAt bs k)].length) * 1 ≤ 140737488355328) := by simp only [Hid, hkl]; simp; omega
    clear hrow hkl
    gi_wp2_with (gi_at_builtin; refine wpListIn_app _ rfl _ _ 23 rfl w2.heap.size 5 (.int .u8 0) 1 Try.underlying23 info_u8 rfl _ _ rfl (hown.alloc _) _ _ _ [.int .u8 (byteAt bs k)] rfl rfl (src_one _ _ _) (by simp [Value.oneCell']) hL1.out hL2.out (by simp; omega) ?_; intro v' w3 hp; obtain ⟨A', C', rfl, f1, ⟨f2, f3, f4⟩, f5, f6, f7, f8, f9, f10⟩ := append_step hk hb1 hb2 hb3 hv hown (by omega) hsz hSB hp; have g1 := f1.cell; have g2 := f1.frozen; have g3 := f2.cell; have g5 := f5.cell)
    · have hq : (most : Int) ≤ (k : Int) + 1 := by assumption
      exact ⟨f7.from _, ⟨f2, f3, f4, _, f5, f6, trivial⟩, ⟨rfl, by omega⟩, hBW.trans f8⟩
    · have hq : ¬ (most : Int) ≤ (k : Int) + 1 := by omega
      exact ⟨f7.from _, f9, ⟨f2, f3, f4, _, f5, f6, trivial⟩, ⟨by omega, f10⟩, hBW.trans f8⟩
  case done =>
    rintro D W hD ⟨⟨hb1, hb2, hb3, v, hv, hrow, _⟩, ⟨hkm, hsz⟩, hBW⟩ hK
    have hown : OwnV W w2.heap.size 5 v ((bs.take bs.length).map encB) := hrow
    have h2 := hb2.cell
    have h2f := hb2.frozen
    have h3 := hb3.cell
    have h3f := hb3.frozen
    have hcv := hv.cell
    obtain ⟨A, C, rfl, _, _, _⟩ := hown.bytes
    rw [List.take_length] at hown hcv
    have ht : bs.take most = bs := List.take_of_length_le (by omega)
    go_wp2
    exact eachL_end rfl (by omega) hD hb2 hb3 hown hBW hK rfl rfl
  case stop =>
    rintro D cd k W hD hk ⟨⟨hb1, hb2, hb3, v, hv, hrow, _⟩, ⟨rfl, hkm⟩, hBW⟩ hK
    have hown : OwnV W w2.heap.size 5 v ((bs.take (k + 1)).map encB) := hrow
    have h2 := hb2.cell
    have h2f := hb2.frozen
    have h3 := hb3.cell
    have h3f := hb3.frozen
    have hcv := hv.cell
    obtain ⟨A, C, rfl, _, _, _⟩ := hown.bytes
    rw [hkm, List.length_take] at hown hcv
    go_wp2
    exact eachL_end (by simp) (by omega) hD hb2 hb3 hown hBW hK rfl rfl

end Go.Proofs.Ytokecladkepgfaa
