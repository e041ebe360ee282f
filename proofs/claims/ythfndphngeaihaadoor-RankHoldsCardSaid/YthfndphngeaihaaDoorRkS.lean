/- Package rank: slices.Values, AppendSeq, Collect of waits and of numbers. -/
import Derived.Test.YthfndphngeaihaaDoorRkKM
import Derived.Test.YthfndphngeaihaaDoorMapW
namespace Go.Proofs.YthfndphngeaihaaDoor
open Go Go.RowKit Go.Shelf
open Go.ChangeMaps (setBlock)
set_option linter.unusedSimpArgs false
set_option linter.unusedVariables false
set_option linter.unusedSectionVars false
set_option maxRecDepth 100000

attribute [local go_sem] Oper.semAt_some

theorem wpListIn_run6 {F : Fence} {n : Nat} {P : Program} {ops : Array Oper} {rest : List Oper} {o : Oper} {a : Act} {w : World} {Q : Exit → Act → World → Prop} (hgd : o.guard = none) (s x : Operand) (t u : TypeId)
    (ho : o.op = .call { callee := .builtin .append, args := #[s, x], argTypes := #[t, u] }) (v y v' : Value) (w' : World) (hv : a.eval s = v) (hx : a.eval x = y)
    (hrun : (Builtin.append_ #[t, u] o.type #[v, y]).run P w = .ok v' w') (h : wpListIn F n P ops Q rest (a.put o.dst v') w') : wpListIn F n P ops Q (o :: rest) a w :=
  wpListIn_plain hgd fun _ hK => by
    unfold Oper.wpIn
    refine ⟨by simp [Oper.about, ho, resolve, Target.leads, Sem.run_pure], ?_⟩
    rw [Oper.semAt_plain F _ _ (by rw [ho]; intro c' hc'; cases hc')]
    simp [execOp, ho, resolve, invoke, builtin, hv, hx, hrun, Result.andThen]
    exact hK _ _ h

/-- A row of one's own stays where others write. -/
theorem own_row_ne {w : World} {B : Nat} {e : TypeId} {k : Nat} {v : Value} {n : Nat} {xs : List Value} (h : w.ownsRow B e k v n xs) {r : Nat} (hr : ∃ o : Obj, w.heap[r]? = some o ∧ o.isCells = false) : v.ownBlock ≠ some r := fun hj => by
  obtain ⟨o, ho, hc⟩ := hr
  rcases h.2 with ⟨rfl, _⟩ | ⟨g, cap, cur, rfl, _, hg, _⟩
  · cases hj
  · injection hj with hj
    subst hj
    rw [hg] at ho
    injection ho with ho
    subst ho
    cases hc
theorem ownsRow_own {w w' : World} {B : Nat} {e : TypeId} {k : Nat} {v : Value} {n : Nat} {xs : List Value} {row : Option Nat} (h : w.ownsRow B e k v n xs) (hg : w.grownBy w' row) (hr : ∀ r, row = some r → ∃ o : Obj, w.heap[r]? = some o ∧ o.isCells = false) : w'.ownsRow B e k v n xs :=
  ownsRow_kept h fun j hj => hg.block j (World.ownsRow.lt h j hj).2 fun e => own_row_ne h (hr j e.symm) hj

/-- A slice that reads as these cells. -/
def RdK (w : World) (A : Option Addr) (xs : List Value) : Prop := ∀ j u, xs[j]? = some u → ∃ g, A = some ⟨g, 0, none⟩ ∧ g < w.heap.size ∧ w.cell? ⟨g, j, none⟩ = some u
theorem RdK.on {w w' : World} {A : Option Addr} {xs : List Value} (h : RdK w A xs) (hb : Below w.heap.size w w') : RdK w' A xs := fun j u hu => by
  obtain ⟨g, e, hg, hc⟩ := h j u hu
  exact ⟨g, e, Nat.lt_of_lt_of_le hg hb.size, (hb.cell (p := ⟨g, j, none⟩) hg).trans hc⟩
theorem own_rdK {w : World} {B : Nat} {e : TypeId} {k : Nat} {v : Value} {n : Nat} {xs : List Value} (h : w.ownsRow B e k v n xs) : ∃ A C, v = .slice A n C ∧ RdK w A xs := by
  have h1 := h.1
  rcases h.2 with ⟨rfl, rfl⟩ | ⟨g, cap, cur, rfl, hB, hg, hn, hm, hs, ht⟩
  · exact ⟨none, 0, rfl, fun j u hu => by
      have := (List.getElem?_eq_some_iff.1 hu).1
      omega⟩
  · refine ⟨some ⟨g, 0, none⟩, cap, rfl, fun j u hu => ⟨g, rfl, (Array.getElem?_eq_some_iff.1 hg).1, ?_⟩⟩
    have hj := (List.getElem?_eq_some_iff.1 hu).1
    rw [h.cellAt j (by omega)]
    exact hu

def flatWt (l : List Wt) : List Value := l.flatMap Wt.cells
theorem flatWt_len (l : List Wt) : (flatWt l).length = l.length * 7 := by
  induction l with
  | nil => rfl
  | cons x r ih =>
    unfold flatWt at ih ⊢
    rw [List.flatMap_cons, List.length_append, ih, List.length_cons]
    simp [Wt.cells]
    omega
theorem flatWt_at : ∀ (ns : List Wt) (k : Nat), k < ns.length → ∀ (i : Nat), i < 7 → (flatWt ns)[k * 7 + i]? = (atW ns k).cells[i]?
  | [], _, h, _, _ => by simp at h
  | y :: r, 0, _, i, hi => by
    show (flatWt (y :: r))[0 * 7 + i]? = y.cells[i]?
    rw [Nat.zero_mul, Nat.zero_add]
    show (y.cells ++ flatWt r)[i]? = _
    rw [List.getElem?_append_left (by simpa [Wt.cells] using hi)]
  | y :: r, k + 1, h, i, hi => by
    have ih := flatWt_at r k (by simpa using h) i hi
    rw [show (k + 1) * 7 + i = k * 7 + i + 7 by omega]
    exact ih
theorem flatWt_add (l : List Wt) (x : Wt) : flatWt (l ++ [x]) = flatWt l ++ x.cells := by
  unfold flatWt
  rw [List.flatMap_append]
  simp
def atU (l : List Int) (k : Nat) : Int := l[k]?.getD 0
def flatU (l : List Int) : List Value := l.map fun x => .int .u32 x
theorem take_one {α : Type} (l : List α) (k : Nat) (hk : k < l.length) : l.take (k + 1) = l.take k ++ [l[k]] := by
  rw [List.take_add_one, List.getElem?_eq_getElem hk]
  rfl
theorem info_wt7 : (Tryd.prog.info? 30).map (fun i => (i.zero, i.size, i.bytes)) = some (some (.agg #[.int .u32 0, .int .u32 0, .int .u64 0, .int .u32 0, .int .u32 0, .int .i64 0, .int .i64 0]), 7, 48) := by kernel_rfl
theorem info_u1 : (Tryd.prog.info? 23).map (fun i => (i.zero, i.size, i.bytes)) = some (some (.int .u32 0), 1, 4) := by kernel_rfl


set_option maxHeartbeats 2000000 in
theorem wvalues_goes (Bs : Nat) (S : Nat → Prop) (A : Option Addr) (C : Nat) (ss : List Wt) (w : World) (hlen : ss.length ≤ 140737488355328) (hBs : Bs < w.heap.size) (hS : ∀ p, A = some p → S p.block) (hSw : ∀ b, S b → b < w.heap.size)
    (hc : w.cell? ⟨Bs, 0, none⟩ = some (.slice A ss.length C)) (hr : RdK w A (flatWt ss)) :
    GoesO Tryd.prog 67 #[.pointer (some ⟨Bs, 0, none⟩)] (fun k => #[encWt (atW ss k)]) S ss.length w := by
  intro L J Jx W hW hJ hJx hY h0
  have hcW := (hW.cell (p := ⟨Bs, 0, none⟩) hBs).trans hc
  have hWS := hW.size
  have HR : Hid (RdK W A (flatWt ss)) := hr.on hW
  clear hc hr hW
  refine (callsIn_wide (n := 10)).1 (callsIn_of_wp Tryd.func67 rfl trivial ?_ rfl)
  simp only [Tryd.ntmps67, List.size_toArray, List.length_cons, List.length_nil, Nat.reduceAdd, Nat.reduceSub, Array.replicate_succ, Array.replicate_zero, List.push_toArray, List.append_toArray, List.nil_append, List.cons_append]
  gi_wp2
  gi_loopw [7] (fun i wr => ∃ k : Nat, k ≤ ss.length ∧ i = .int .i64 k ∧ J k wr ∧ KeepB S W wr ∧ W.heap.size ≤ wr.heap.size) (fun i _ => ss.length - (intOf i).toNat)
  case atStart => exact ⟨0, Nat.zero_le _, rfl, h0, KeepB.refl _ _, Nat.le_refl _⟩
  case round =>
    obtain ⟨k, hk, rfl, hJs, hnx, hsz⟩ := hrel
    by_cases hlt : k < ss.length
    · obtain ⟨y, hyy⟩ : ∃ y, y = atW ss k := ⟨_, rfl⟩
      have hc7 : ∀ i, i < 7 → ∃ g, A = some ⟨g, 0, none⟩ ∧ g < W.heap.size ∧ W.cell? ⟨g, k * 7 + i, none⟩ = y.cells[i]? := fun i hi => by
        have h := flatWt_at ss k hlt i hi
        rw [← hyy] at h
        obtain ⟨u, hu⟩ : ∃ u, y.cells[i]? = some u := ⟨y.cells[i]'(by simpa [Wt.cells] using hi), List.getElem?_eq_getElem _⟩
        obtain ⟨g, e, hg, hc⟩ := HR.out _ u (h.trans hu)
        exact ⟨g, e, hg, hc.trans hu.symm⟩
      obtain ⟨g, rfl, hg, c0⟩ := hc7 0 (by omega)
      have hc8 : ∀ i, i < 7 → W.cell? ⟨g, k * 7 + i, none⟩ = y.cells[i]? := fun i hi => by
        obtain ⟨g', e, _, h⟩ := hc7 i hi
        injection e with e
        injection e with e
        subst e
        exact h
      have hblk := hnx g (hS _ rfl)
      have x0 : wr.cell? ⟨g, k * 7, none⟩ = some (.int .u32 y.nm.n) := (World.cell?_of_block (a := ⟨g, k * 7, none⟩) hblk).trans (hc8 0 (by omega))
      have x1 : wr.cell? ⟨g, k * 7 + 1, none⟩ = some (.int .u32 y.nm.m) := (World.cell?_of_block (a := ⟨g, k * 7 + 1, none⟩) hblk).trans (hc8 1 (by omega))
      have x2 : wr.cell? ⟨g, k * 7 + 2, none⟩ = some (.int .u64 y.nm.t) := (World.cell?_of_block (a := ⟨g, k * 7 + 2, none⟩) hblk).trans (hc8 2 (by omega))
      have x3 : wr.cell? ⟨g, k * 7 + 3, none⟩ = some (.int .u32 y.nm.q) := (World.cell?_of_block (a := ⟨g, k * 7 + 3, none⟩) hblk).trans (hc8 3 (by omega))
      have x4 : wr.cell? ⟨g, k * 7 + 4, none⟩ = some (.int .u32 y.node) := (World.cell?_of_block (a := ⟨g, k * 7 + 4, none⟩) hblk).trans (hc8 4 (by omega))
      have x5 : wr.cell? ⟨g, k * 7 + 5, none⟩ = some (.int .i64 y.rank) := (World.cell?_of_block (a := ⟨g, k * 7 + 5, none⟩) hblk).trans (hc8 5 (by omega))
      have x6 : wr.cell? ⟨g, k * 7 + 6, none⟩ = some (.int .i64 y.size) := (World.cell?_of_block (a := ⟨g, k * 7 + 6, none⟩) hblk).trans (hc8 6 (by omega))
      obtain ⟨fn, tmps, assign, body, hy, hR⟩ := hY k (wr.alloc (.cells #[.int .u32 y.nm.n, .int .u32 y.nm.m, .int .u64 y.nm.t, .int .u32 y.nm.q, .int .u32 y.node, .int .i64 y.rank, .int .i64 y.size] 30)) hlt (hJ.alloc _ hJs) (by rw [World.size_alloc]; omega)
      have hszA : (wr.alloc (.cells #[.int .u32 y.nm.n, .int .u32 y.nm.m, .int .u64 y.nm.t, .int .u32 y.nm.q, .int .u32 y.node, .int .i64 y.rank, .int .i64 y.size] 30)).heap.size = wr.heap.size + 1 := World.size_alloc _ _
      rw [← hyy] at hy
      unfold encWt at hy
      have HSZ := Lib.hid hszA
      have HBK := Lib.hid hnx
      clear c0 hc7 hc8 hyy hblk hszA hnx
      gi_wp2
      refine hR.mono ?_
      rintro e W3 (⟨rfl, hJ3, hz3, hk3⟩ | ⟨rfl, hJx3, _, _⟩)
      · have HK3 := Lib.hid hk3
        have HBK3 : Hid (KeepB S W W3) := fun b hb => by
          have h1 := HBK.out b hb
          have hbl : b < wr.heap.size := Nat.lt_of_lt_of_le (Nat.lt_of_lt_of_le (hSw b hb) hWS) hsz
          exact (HK3.out b (.inl hb)).trans ((Below.heap_alloc wr _ b hbl).trans h1)
        have HSZ3 : Hid (W.heap.size ≤ W3.heap.size) := by simp only [Hid]; have := HSZ.out; omega
        clear hk3 hz3
        gi_wp2
        go_roundw
        case rel => exact ⟨k + 1, by omega, by simp, hJ3, HBK3.out, HSZ3.out⟩
        case measure => simp [intOf]; omega
      · gi_wp2
        refine bodyPost_ret (results_none rfl _ _ _) rfl ?_
        exact ⟨⟨_, rfl⟩, .inr ⟨k, hlt, hJx3⟩⟩
    · obtain rfl : k = ss.length := by omega
      gi_wp2
      go_end0
      exact ⟨⟨_, rfl⟩, .inl hJs⟩

theorem wvalues_any (a : Option Addr) (n c : Nat) (w : World) :
    Calls Tryd.prog 43 #[.slice a n c] w fun e w' => e = .returned (.func (.func 67) #[] #[.pointer (some ⟨w.heap.size, 0, none⟩)]) ∧ w' = w.alloc (.cells #[.slice a n c] 22) := by
  have hmf : ∀ (fn : Fn) (first cap : Array Value) (w : World), (Instr.makeFunc fn first cap).run Tryd.prog w = .ok (.func fn first cap) w := fun _ _ _ _ => rfl
  go_enter Tryd.func43, Tryd.ntmps43
  go_wp2
  go_ret
  exact ⟨rfl, rfl⟩
theorem ent_wvalues1 : ∀ args w, (callFunc 67 args).run Tryd.prog w = .ok (.enter 67 args) w := enters_of Tryd.func67 (by kernel_rfl) rfl

/-- One more behind those of one's own. -/
theorem wapp (w : World) (B : Nat) (v : Value) (l : List Wt) (x : Wt) (ho : w.ownsRow B 30 7 v l.length (flatWt l)) (hB : B ≤ w.heap.size) (hl : l.length ≤ 1000000) :
    ∃ v' w', (Builtin.append_ #[22, 22] 22 #[v, .slice (some ⟨w.heap.size, 0, none⟩) 1 1]).run Tryd.prog (w.alloc (.cells #[.int .u32 x.nm.n, .int .u32 x.nm.m, .int .u64 x.nm.t, .int .u32 x.nm.q, .int .u32 x.node, .int .i64 x.rank, .int .i64 x.size] 30)) = .ok v' w' ∧ w'.ownsRow B 30 7 v' (l.length + 1) (flatWt (l ++ [x])) ∧ (w.alloc (.cells #[.int .u32 x.nm.n, .int .u32 x.nm.m, .int .u64 x.nm.t, .int .u32 x.nm.q, .int .u32 x.node, .int .i64 x.rank, .int .i64 x.size] 30)).grownBy w' v.ownBlock ∧ (v'.ownBlock = v.ownBlock ∨ v'.ownBlock = some (w.heap.size + 1)) := by
  obtain ⟨i, hi, hz, hsz0, hbt⟩ := info_parts info_wt7
  have hown : (w.alloc (.cells #[.int .u32 x.nm.n, .int .u32 x.nm.m, .int .u64 x.nm.t, .int .u32 x.nm.q, .int .u32 x.node, .int .i64 x.rank, .int .i64 x.size] 30)).ownsRow B 30 7 v l.length (flatWt l) := ownsRow_kept ho fun j hj => Below.heap_alloc w _ j (World.ownsRow.lt ho j hj).2
  have hnews : ∀ j u, ([.int .u32 x.nm.n, .int .u32 x.nm.m, .int .u64 x.nm.t, .int .u32 x.nm.q, .int .u32 x.node, .int .i64 x.rank, .int .i64 x.size] : List Value)[j]? = some u → (w.alloc (.cells #[.int .u32 x.nm.n, .int .u32 x.nm.m, .int .u64 x.nm.t, .int .u32 x.nm.q, .int .u32 x.node, .int .i64 x.rank, .int .i64 x.size] 30)).cell? ((⟨w.heap.size, 0, none⟩ : Addr).add j) = some u := fun j u hu => by
    rw [mk_addr_add, Nat.zero_add]
    exact (RowB.new w [.int .u32 x.nm.n, .int .u32 x.nm.m, .int .u64 x.nm.t, .int .u32 x.nm.q, .int .u32 x.node, .int .i64 x.rank, .int .i64 x.size] 30).1 j u hu
  obtain ⟨v', w', hrun, hown', hg, _, hv⟩ := run_append_own_at (P := Tryd.prog) (w.alloc (.cells #[.int .u32 x.nm.n, .int .u32 x.nm.m, .int .u64 x.nm.t, .int .u32 x.nm.q, .int .u32 x.node, .int .i64 x.rank, .int .i64 x.size] 30)) B 22 22 30 i _ 7 48 Tryd.underlying22 hi hz hsz0 hbt (by kernel_rfl) (by decide) v l.length (flatWt l) hown ⟨w.heap.size, 0, none⟩ 1 1 [.int .u32 x.nm.n, .int .u32 x.nm.m, .int .u64 x.nm.t, .int .u32 x.nm.q, .int .u32 x.node, .int .i64 x.rank, .int .i64 x.size] rfl hnews (by simp [Value.oneCell']) (by unfold maxLen; omega) (by omega) (by simp; omega)
  refine ⟨v', w', hrun, ?_, hg, by simpa using hv⟩
  rw [flatWt_add]
  exact hown'

set_option maxHeartbeats 8000000 in
theorem wappendSeq_any (gf : Nat) (lb : Array Value) (S : Nat → Prop) (ss : List Wt) (w : World) (eg : ∀ args w, (callFunc gf args).run Tryd.prog w = .ok (.enter gf args) w)
    (hgo : ∀ X, Below w.heap.size w X → GoesM Tryd.prog gf lb (fun k => #[encWt (atW ss k)]) S ss.length X) (hS : ∀ b, S b → b < w.heap.size) (hlen : ss.length ≤ 1000000) :
    Calls Tryd.prog 66 #[.slice none 0 0, .func (.func gf) #[] lb] w fun e w' => ∃ v, e = .returned v ∧ w'.ownsRow w.heap.size 30 7 v ss.length (flatWt ss) ∧ Below w.heap.size w w' := by
  obtain ⟨bs, hbs⟩ : ∃ b, b = w.heap.size := ⟨_, rfl⟩
  obtain ⟨W, hW⟩ : ∃ W, W = w.alloc (.cells #[.slice none 0 0] 22) := ⟨_, rfl⟩
  have HB0 : Hid (Below w.heap.size w W) := by rw [hW]; exact below_al (Below.refl _ _) _
  have HZ0 : Hid (W.heap.size = bs + 1 ∧ bs = w.heap.size) := ⟨by rw [hW, hbs]; simp, hbs⟩
  have HX0 : Hid (RowB W bs [.slice none 0 0]) := by
    rw [Hid, hW, hbs]
    exact RowB.new w _ _
  have HGo := Lib.hid (hgo W HB0.out)
  have HSb := Lib.hid hS
  have HLe := Lib.hid hlen
  have HW := Lib.hid hW
  clear hgo hS hlen hW
  refine calls_of_marks Tryd.func66 rfl ?_
  simp only [Tryd.ntmps66, List.size_toArray, List.length_cons, List.length_nil, Nat.reduceAdd, Nat.reduceSub, Array.replicate_succ, Array.replicate_zero, List.push_toArray, List.append_toArray, List.nil_append, List.cons_append]
  go_wp2_with fail
  rw [← HW.out, ← hbs]
  clear hbs
  have hsb : ∀ b, S b → b < W.heap.size := fun b hb => by have := HSb.out b hb; have := HZ0.out; omega
  have hIo : OwnFrom W.heap.size (fun (k : Nat) X => (∃ v, RowB X bs [v] ∧ X.ownsRow W.heap.size 30 7 v (ss.take k).length (flatWt (ss.take k))) ∧ Below w.heap.size w X ∧ W.heap.size ≤ X.heap.size) :=
    OwnFrom.and (fun s X Y row h hg hr => by
      obtain ⟨v, h1, h2⟩ := h
      exact ⟨v, h1.ownk hg (fun r e => (hr r e).2), ownsRow_own h2 hg (fun r e => (hr r e).2)⟩) (OwnFrom.and (ownFrom_below (Nat.le_refl _) (by have := HB0.out.size; omega)) (fun _ _ _ _ h hg _ => Nat.le_trans h hg.size))
  have hMo : OwnM W.heap.size (fun X b => ∃ v, RowB X bs [v] ∧ v.ownBlock = some b) := fun X Y row hz hg hr b hm => by
    obtain ⟨v, h1, h2⟩ := hm
    refine ⟨v, h1.kept (hg.block bs (by have := HZ0.out; omega) fun e => ?_).symm, h2⟩
    have := (hr bs e.symm).1
    have := HZ0.out
    omega
  refine wp_rangeGoesM (gf := gf) (lb := lb) rfl eg HGo.out hsb (fun _ => rfl)
    (fun X b => ∃ v, RowB X bs [v] ∧ v.ownBlock = some b) hMo
    (fun k X => (∃ v, RowB X bs [v] ∧ X.ownsRow W.heap.size 30 7 v (ss.take k).length (flatWt (ss.take k))) ∧ Below w.heap.size w X ∧ W.heap.size ≤ X.heap.size)
    (fun k X h b hm => by
      obtain ⟨⟨v, h1, h2⟩, h3, h4⟩ := h
      obtain ⟨v', k1, k2⟩ := hm
      have e := (h1.1 0 _ rfl).symm.trans (k1.1 0 _ rfl)
      injection e with e
      subst e
      exact (World.ownsRow.lt h2 b k2).2)
    (fun _ _ _ => False) hIo (fun _ _ _ _ _ h _ _ => h.elim) ⟨⟨_, HX0.out, ⟨by simp [flatWt], .inl ⟨rfl, by simp⟩⟩⟩, HB0.out, Nat.le_refl _⟩
    (fun k a' X => ∃ bo, a' = { tmps := #[.slice none 0 0, .func (.func gf) #[] lb, .pointer (some ⟨bs, 0, none⟩), undef, .slice none 0 0, .pointer (some ⟨bo, 0, none⟩), .func (.func gf) #[] lb, encWt (atW ss k), undef, undef, undef, undef, undef], defers := [] } ∧ RowB X bo (atW ss k).cells)
    (fun k a' s X Y row hs hg hr => by
      obtain ⟨bo, e, c0⟩ := hs
      exact ⟨bo, e, c0.ownk hg (fun r e => (hr r e).2)⟩) ?assign ?body ?done ?stop
  case assign =>
    intro ll k X K hk hI hK
    have HI := Lib.hid hI
    have HKk := Lib.hid hK
    obtain ⟨y, hy⟩ : ∃ y, y = atW ss k := ⟨_, rfl⟩
    rw [← hy] at HKk ⊢
    unfold encWt at HKk ⊢
    clear hI hK hy
    gi_wp2
    refine HKk.out _ _ ((KeepsOthers.alloc _ _).from _) (fun b hb => ?_) (fun b hm => hMo X _ none HI.out.2.2 (World.grownBy_alloc X _ none) (fun r e => by cases e) b hm) (hIo.alloc (s := k) _ HI.out) ⟨X.heap.size, rfl, RowB.new X y.cells _⟩
    refine Below.heap_alloc X _ b ?_
    rcases hb with hb | hb
    · exact Nat.lt_of_lt_of_le (hsb b hb) HI.out.2.2
    · exact hb.2.1
  case body =>
    rintro ll k a' X hk hl _ ⟨⟨v, h1, h2⟩, h3, h4⟩ ⟨bo, rfl, hr⟩
    have HR := Lib.hid hr
    obtain ⟨y, hy⟩ : ∃ y, y = atW ss k := ⟨_, rfl⟩
    rw [← hy] at HR ⊢
    have hle := HLe.out
    have z0 := HR.out.1 0 _ rfl
    have z1 := HR.out.1 1 _ rfl
    have z2 := HR.out.1 2 _ rfl
    have z3 := HR.out.1 3 _ rfl
    have z4 := HR.out.1 4 _ rfl
    have z5 := HR.out.1 5 _ rfl
    have z6 := HR.out.1 6 _ rfl
    unfold encWt
    obtain ⟨v', X', hrun, ho', hg', hv'⟩ := wapp X W.heap.size v (ss.take k) y h2 h4 (by rw [List.length_take]; omega)
    have hkl : (ss.take (k + 1)) = ss.take k ++ [y] := by rw [take_one ss k hk, hy, atW_get hk]
    have hkn : (ss.take k).length + 1 = (ss.take (k + 1)).length := by rw [hkl]; simp
    rw [hkn, ← hkl] at ho'
    obtain ⟨A2, C2, hv2⟩ := own_form ho'
    obtain ⟨N2, hN2⟩ : ∃ n, n = (ss.take (k + 1)).length := ⟨_, rfl⟩
    have HN2 := Lib.hid hN2
    rw [← hN2] at hv2
    subst hv2
    clear hN2
    have HX := Lib.hid (And.intro h1 (And.intro h2 (And.intro h3 h4)))
    have HO := Lib.hid ho'
    have HG := Lib.hid hg'
    have HV := Lib.hid hv'
    have HRUN := Lib.hid hrun
    have HKs : Hid (∀ j, j < X.heap.size → v.ownBlock ≠ some j → X'.heap[j]? = X.heap[j]?) := fun j hj hne => (hg'.block j (by simp; omega) (fun e => hne e.symm)).trans (Below.heap_alloc X _ j hj)
    have HNe : Hid (v.ownBlock ≠ some bs) := fun e => by
      have := (World.ownsRow.lt h2 bs e).1
      have := HZ0.out
      omega
    have hbl := h1.lt
    have HR' : Hid (RowB X' bs [v]) := h1.kept (HKs.out bs hbl HNe.out)
    have HY := Lib.hid hy
    clear hy
    have u0 := h1.1 0 _ rfl
    have v0 := HR'.out.1 0 _ rfl
    have v1 := HR'.out.2 0
    clear h1 h2 h3 h4 ho' hg' hv' hrun hkl hkn hbl
    gi_wp2_with (gi_at_builtin; refine wpListIn_run6 rfl _ _ _ _ rfl _ _ _ _ rfl rfl HRUN.out ?_)
    obtain ⟨Y, hY⟩ : ∃ Y, Y = X'.setCell ⟨bs, 0, none⟩ (.slice A2 N2 C2) := ⟨_, rfl⟩
    rw [← hY]
    have hk' : ∀ b, b ≠ bs → Y.heap[b]? = X'.heap[b]? := fun b e => by rw [hY, Below.heap_setCell _ _ _ _ e]
    have hz : Y.heap.size = X'.heap.size := by rw [hY, World.size_setCell]
    obtain ⟨p1, p2, p3, p4⟩ := HX.out
    have hz0 := HZ0.out
    have hgs := HG.out.size
    rw [World.size_alloc] at hgs
    have hno : ∀ b, SinceM S (W.heap.size + 2) (fun X b => ∃ v, RowB X bs [v] ∧ v.ownBlock = some b) X b → b ≠ bs ∧ b < X.heap.size ∧ v.ownBlock ≠ some b := by
      intro b hb
      rcases hb with hb | ⟨hb, ho, hm⟩
      · have h1 := HSb.out b hb
        exact ⟨by omega, by omega, fun e => by have := (World.ownsRow.lt p2 b e).1; omega⟩
      · exact ⟨by omega, ho, fun e => hm ⟨v, p1, e⟩⟩
    have HO' : Hid (Y.ownsRow W.heap.size 30 7 (.slice A2 N2 C2) (ss.take (k + 1)).length (flatWt (ss.take (k + 1)))) := ownsRow_kept HO.out fun j hj => hk' j (by have := (World.ownsRow.lt HO.out j hj).1; omega)
    refine ⟨⟨by omega, fun b o hb ho hc => ?_⟩, ⟨fun b hb => ?_, fun b hb hm => ?_⟩, ⟨_, ?_, HO'.out⟩, ?_, by omega⟩
    · have hbl := (Array.getElem?_eq_some_iff.1 ho).1
      refine (hk' b (by omega)).trans ((HKs.out b hbl fun e => ?_).trans ho)
      exact own_row_ne p2 ⟨o, ho, hc⟩ e
    · obtain ⟨n1, n2, n3⟩ := hno b hb
      exact (hk' b n1).trans (HKs.out b n2 n3)
    · obtain ⟨v3, k1, k2⟩ := hm
      have hrY : RowB Y bs [.slice A2 N2 C2] := by rw [hY]; exact HR'.out.set 0 _
      have e := (k1.1 0 _ rfl).symm.trans (hrY.1 0 _ rfl)
      injection e with e
      subst e
      rcases HV.out with h | h
      · exact ⟨v, p1, h ▸ k2⟩
      · rw [h] at k2
        injection k2 with k2
        omega
    · rw [hY]
      exact HR'.out.set 0 _
    · have hb : Below w.heap.size w X' := (below_al p3 _).grown HG.out (by rw [World.size_alloc]; omega) (fun r e => by have := (World.ownsRow.lt p2 r e).1; omega)
      have hb : ButS w.heap.size (fun b => False) w Y := by
        rw [hY]
        exact (ButS.of_below hb).set (.inr (by omega)) 0 _
      exact hb.below (Nat.le_refl _) fun k h => h.elim
  case done =>
    rintro D9 X hD ⟨⟨v, h1, h2⟩, h3, h4⟩ hK
    rw [List.take_length] at h2
    have HX := Lib.hid (And.intro h1 (And.intro h2 (And.intro h3 h4)))
    have HK := Lib.hid hK
    have u0 := h1.1 0 _ rfl
    clear h1 h2 h3 h4 hK
    go_wp2_with fail
    obtain ⟨p1, p2, p3, p4⟩ := HX.out
    have hz0 := HZ0.out
    have hD' := HK.out
    refine marks_one HK.out (results_tmp rfl _ _ _) ⟨v, rfl, ?_, below_put p3 (by omega) _⟩
    exact own_base (ownsRow_kept p2 fun j hj => World.putObj_heap_other (by
      rintro rfl
      exact own_row_ne p2 ⟨_, HK.out, rfl⟩ hj)) (by omega)
  case stop =>
    rintro D9 c k X hD hk h hK
    exact h.elim

theorem wcollect_any (gf : Nat) (lb : Array Value) (S : Nat → Prop) (ss : List Wt) (w : World) (eg : ∀ args w, (callFunc gf args).run Tryd.prog w = .ok (.enter gf args) w)
    (hgo : ∀ X, Below w.heap.size w X → GoesM Tryd.prog gf lb (fun k => #[encWt (atW ss k)]) S ss.length X) (hS : ∀ b, S b → b < w.heap.size) (hlen : ss.length ≤ 1000000) :
    Calls Tryd.prog 42 #[.func (.func gf) #[] lb] w fun e w' => ∃ v, e = .returned v ∧ w'.ownsRow w.heap.size 30 7 v ss.length (flatWt ss) ∧ Below w.heap.size w w' := by
  go_enter Tryd.func42, Tryd.ntmps42
  go_wp2_with fail
  refine (wappendSeq_any gf lb S ss w eg hgo hS hlen).mono ?_
  rintro e w' ⟨v, rfl, h1, h2⟩
  have H1 := Lib.hid h1
  have H2 := Lib.hid h2
  clear h1 h2 hgo
  go_wp2_with fail
  go_ret
  exact ⟨v, rfl, H1.out, H2.out⟩

set_option maxHeartbeats 2000000 in
theorem uvalues_goes (Bs : Nat) (S : Nat → Prop) (A : Option Addr) (C : Nat) (ss : List Int) (w : World) (hlen : ss.length ≤ 140737488355328) (hBs : Bs < w.heap.size) (hS : ∀ p, A = some p → S p.block) (hSw : ∀ b, S b → b < w.heap.size)
    (hc : w.cell? ⟨Bs, 0, none⟩ = some (.slice A ss.length C)) (hr : RdK w A (flatU ss)) :
    GoesO Tryd.prog 65 #[.pointer (some ⟨Bs, 0, none⟩)] (fun k => #[.int .u32 (atU ss k)]) S ss.length w := by
  intro L J Jx W hW hJ hJx hY h0
  have hcW := (hW.cell (p := ⟨Bs, 0, none⟩) hBs).trans hc
  have hWS := hW.size
  have HR : Hid (RdK W A (flatU ss)) := hr.on hW
  clear hc hr hW
  refine (callsIn_wide (n := 10)).1 (callsIn_of_wp Tryd.func65 rfl trivial ?_ rfl)
  simp only [Tryd.ntmps65, List.size_toArray, List.length_cons, List.length_nil, Nat.reduceAdd, Nat.reduceSub, Array.replicate_succ, Array.replicate_zero, List.push_toArray, List.append_toArray, List.nil_append, List.cons_append]
  gi_wp2
  gi_loopw [7] (fun i wr => ∃ k : Nat, k ≤ ss.length ∧ i = .int .i64 k ∧ J k wr ∧ KeepB S W wr ∧ W.heap.size ≤ wr.heap.size) (fun i _ => ss.length - (intOf i).toNat)
  case atStart => exact ⟨0, Nat.zero_le _, rfl, h0, KeepB.refl _ _, Nat.le_refl _⟩
  case round =>
    obtain ⟨k, hk, rfl, hJs, hnx, hsz⟩ := hrel
    by_cases hlt : k < ss.length
    · obtain ⟨y, hyy⟩ : ∃ y, y = atU ss k := ⟨_, rfl⟩
      obtain ⟨g, rfl, hg, c0⟩ := HR.out k (.int .u32 y) (by rw [hyy]; unfold flatU atU; rw [List.getElem?_map, List.getElem?_eq_getElem hlt]; rfl)
      have hblk := hnx g (hS _ rfl)
      have x0 := (World.cell?_of_block (a := ⟨g, k, none⟩) hblk).trans c0
      obtain ⟨fn, tmps, assign, body, hy, hR⟩ := hY k wr hlt hJs hsz
      have hszA : wr.heap.size = wr.heap.size := rfl
      rw [← hyy] at hy
      have HSZ := Lib.hid hszA
      have HBK := Lib.hid hnx
      clear c0 hyy hblk hszA hnx
      gi_wp2
      refine hR.mono ?_
      rintro e W3 (⟨rfl, hJ3, hz3, hk3⟩ | ⟨rfl, hJx3, _, _⟩)
      · have HK3 := Lib.hid hk3
        have HBK3 : Hid (KeepB S W W3) := fun b hb => by
          have h1 := HBK.out b hb
          have hbl : b < wr.heap.size := Nat.lt_of_lt_of_le (Nat.lt_of_lt_of_le (hSw b hb) hWS) hsz
          exact (HK3.out b (.inl hb)).trans (h1)
        have HSZ3 : Hid (W.heap.size ≤ W3.heap.size) := by simp only [Hid]; have := HSZ.out; omega
        clear hk3 hz3
        gi_wp2
        go_roundw
        case rel => exact ⟨k + 1, by omega, by simp, hJ3, HBK3.out, HSZ3.out⟩
        case measure => simp [intOf]; omega
      · gi_wp2
        refine bodyPost_ret (results_none rfl _ _ _) rfl ?_
        exact ⟨⟨_, rfl⟩, .inr ⟨k, hlt, hJx3⟩⟩
    · obtain rfl : k = ss.length := by omega
      gi_wp2
      go_end0
      exact ⟨⟨_, rfl⟩, .inl hJs⟩

theorem uvalues_any (a : Option Addr) (n c : Nat) (w : World) :
    Calls Tryd.prog 41 #[.slice a n c] w fun e w' => e = .returned (.func (.func 65) #[] #[.pointer (some ⟨w.heap.size, 0, none⟩)]) ∧ w' = w.alloc (.cells #[.slice a n c] 77) := by
  have hmf : ∀ (fn : Fn) (first cap : Array Value) (w : World), (Instr.makeFunc fn first cap).run Tryd.prog w = .ok (.func fn first cap) w := fun _ _ _ _ => rfl
  go_enter Tryd.func41, Tryd.ntmps41
  go_wp2
  go_ret
  exact ⟨rfl, rfl⟩
theorem ent_uvalues1 : ∀ args w, (callFunc 65 args).run Tryd.prog w = .ok (.enter 65 args) w := enters_of Tryd.func65 (by kernel_rfl) rfl

/-- One more behind those of one's own. -/
theorem uapp (w : World) (B : Nat) (v : Value) (l : List Int) (x : Int) (ho : w.ownsRow B 23 1 v l.length (flatU l)) (hB : B ≤ w.heap.size) (hl : l.length ≤ 1000000) :
    ∃ v' w', (Builtin.append_ #[77, 77] 77 #[v, .slice (some ⟨w.heap.size, 0, none⟩) 1 1]).run Tryd.prog (w.alloc (.cells #[.int .u32 x] 23)) = .ok v' w' ∧ w'.ownsRow B 23 1 v' (l.length + 1) (flatU (l ++ [x])) ∧ (w.alloc (.cells #[.int .u32 x] 23)).grownBy w' v.ownBlock ∧ (v'.ownBlock = v.ownBlock ∨ v'.ownBlock = some (w.heap.size + 1)) := by
  obtain ⟨i, hi, hz, hsz0, hbt⟩ := info_parts info_u1
  have hown : (w.alloc (.cells #[.int .u32 x] 23)).ownsRow B 23 1 v l.length (flatU l) := ownsRow_kept ho fun j hj => Below.heap_alloc w _ j (World.ownsRow.lt ho j hj).2
  have hnews : ∀ j u, ([.int .u32 x] : List Value)[j]? = some u → (w.alloc (.cells #[.int .u32 x] 23)).cell? ((⟨w.heap.size, 0, none⟩ : Addr).add j) = some u := fun j u hu => by
    rw [mk_addr_add, Nat.zero_add]
    exact (RowB.new w [.int .u32 x] 23).1 j u hu
  obtain ⟨v', w', hrun, hown', hg, _, hv⟩ := run_append_own_at (P := Tryd.prog) (w.alloc (.cells #[.int .u32 x] 23)) B 77 77 23 i _ 1 4 Tryd.underlying77 hi hz hsz0 hbt (by kernel_rfl) (by decide) v l.length (flatU l) hown ⟨w.heap.size, 0, none⟩ 1 1 [.int .u32 x] rfl hnews (by simp [Value.oneCell']) (by unfold maxLen; omega) (by omega) (by simp; omega)
  refine ⟨v', w', hrun, ?_, hg, by simpa using hv⟩
  rw [show flatU (l ++ [x]) = flatU l ++ [.int .u32 x] by unfold flatU; simp]
  exact hown'

set_option maxHeartbeats 8000000 in
theorem uappendSeq_any (gf : Nat) (lb : Array Value) (S : Nat → Prop) (ss : List Int) (w : World) (eg : ∀ args w, (callFunc gf args).run Tryd.prog w = .ok (.enter gf args) w)
    (hgo : ∀ X, Below w.heap.size w X → GoesM Tryd.prog gf lb (fun k => #[.int .u32 (atU ss k)]) S ss.length X) (hS : ∀ b, S b → b < w.heap.size) (hlen : ss.length ≤ 1000000) :
    Calls Tryd.prog 68 #[.slice none 0 0, .func (.func gf) #[] lb] w fun e w' => ∃ v, e = .returned v ∧ w'.ownsRow w.heap.size 23 1 v ss.length (flatU ss) ∧ Below w.heap.size w w' := by
  obtain ⟨bs, hbs⟩ : ∃ b, b = w.heap.size := ⟨_, rfl⟩
  obtain ⟨W, hW⟩ : ∃ W, W = w.alloc (.cells #[.slice none 0 0] 77) := ⟨_, rfl⟩
  have HB0 : Hid (Below w.heap.size w W) := by rw [hW]; exact below_al (Below.refl _ _) _
  have HZ0 : Hid (W.heap.size = bs + 1 ∧ bs = w.heap.size) := ⟨by rw [hW, hbs]; simp, hbs⟩
  have HX0 : Hid (RowB W bs [.slice none 0 0]) := by
    rw [Hid, hW, hbs]
    exact RowB.new w _ _
  have HGo := Lib.hid (hgo W HB0.out)
  have HSb := Lib.hid hS
  have HLe := Lib.hid hlen
  have HW := Lib.hid hW
  clear hgo hS hlen hW
  refine calls_of_marks Tryd.func68 rfl ?_
  simp only [Tryd.ntmps68, List.size_toArray, List.length_cons, List.length_nil, Nat.reduceAdd, Nat.reduceSub, Array.replicate_succ, Array.replicate_zero, List.push_toArray, List.append_toArray, List.nil_append, List.cons_append]
  go_wp2_with fail
  rw [← HW.out, ← hbs]
  clear hbs
  have hsb : ∀ b, S b → b < W.heap.size := fun b hb => by have := HSb.out b hb; have := HZ0.out; omega
  have hIo : OwnFrom W.heap.size (fun (k : Nat) X => (∃ v, RowB X bs [v] ∧ X.ownsRow W.heap.size 23 1 v (ss.take k).length (flatU (ss.take k))) ∧ Below w.heap.size w X ∧ W.heap.size ≤ X.heap.size) :=
    OwnFrom.and (fun s X Y row h hg hr => by
      obtain ⟨v, h1, h2⟩ := h
      exact ⟨v, h1.ownk hg (fun r e => (hr r e).2), ownsRow_own h2 hg (fun r e => (hr r e).2)⟩) (OwnFrom.and (ownFrom_below (Nat.le_refl _) (by have := HB0.out.size; omega)) (fun _ _ _ _ h hg _ => Nat.le_trans h hg.size))
  have hMo : OwnM W.heap.size (fun X b => ∃ v, RowB X bs [v] ∧ v.ownBlock = some b) := fun X Y row hz hg hr b hm => by
    obtain ⟨v, h1, h2⟩ := hm
    refine ⟨v, h1.kept (hg.block bs (by have := HZ0.out; omega) fun e => ?_).symm, h2⟩
    have := (hr bs e.symm).1
    have := HZ0.out
    omega
  refine wp_rangeGoesM (gf := gf) (lb := lb) rfl eg HGo.out hsb (fun _ => rfl)
    (fun X b => ∃ v, RowB X bs [v] ∧ v.ownBlock = some b) hMo
    (fun k X => (∃ v, RowB X bs [v] ∧ X.ownsRow W.heap.size 23 1 v (ss.take k).length (flatU (ss.take k))) ∧ Below w.heap.size w X ∧ W.heap.size ≤ X.heap.size)
    (fun k X h b hm => by
      obtain ⟨⟨v, h1, h2⟩, h3, h4⟩ := h
      obtain ⟨v', k1, k2⟩ := hm
      have e := (h1.1 0 _ rfl).symm.trans (k1.1 0 _ rfl)
      injection e with e
      subst e
      exact (World.ownsRow.lt h2 b k2).2)
    (fun _ _ _ => False) hIo (fun _ _ _ _ _ h _ _ => h.elim) ⟨⟨_, HX0.out, ⟨by simp [flatU], .inl ⟨rfl, by simp⟩⟩⟩, HB0.out, Nat.le_refl _⟩
    (fun k a' X => a' = { tmps := #[.slice none 0 0, .func (.func gf) #[] lb, .pointer (some ⟨bs, 0, none⟩), undef, .slice none 0 0, .int .u32 (atU ss k), .func (.func gf) #[] lb, .int .u32 (atU ss k), undef, undef, undef, undef, undef], defers := [] })
    (fun k a' s X Y row hs hg hr => hs) ?assign ?body ?done ?stop
  case assign =>
    intro ll k X K hk hI hK
    have HI := Lib.hid hI
    have HKk := Lib.hid hK
    obtain ⟨y, hy⟩ : ∃ y, y = atU ss k := ⟨_, rfl⟩
    rw [← hy] at HKk ⊢
    clear hI hK hy
    gi_wp2
    exact HKk.out _ _ ((KeepsOthers.refl _).from _) (fun b hb => rfl) (fun b hm => hm) HI.out rfl
  case body =>
    rintro ll k a' X hk hl _ ⟨⟨v, h1, h2⟩, h3, h4⟩ rfl
    obtain ⟨y, hy⟩ : ∃ y, y = atU ss k := ⟨_, rfl⟩
    rw [← hy]
    have hle := HLe.out
    obtain ⟨v', X', hrun, ho', hg', hv'⟩ := uapp X W.heap.size v (ss.take k) y h2 h4 (by rw [List.length_take]; omega)
    have hkl : (ss.take (k + 1)) = ss.take k ++ [y] := by rw [take_one ss k hk, hy]; unfold atU; rw [List.getElem?_eq_getElem hk]; rfl
    have hkn : (ss.take k).length + 1 = (ss.take (k + 1)).length := by rw [hkl]; simp
    rw [hkn, ← hkl] at ho'
    obtain ⟨A2, C2, hv2⟩ := own_form ho'
    obtain ⟨N2, hN2⟩ : ∃ n, n = (ss.take (k + 1)).length := ⟨_, rfl⟩
    have HN2 := Lib.hid hN2
    rw [← hN2] at hv2
    subst hv2
    clear hN2
    have HX := Lib.hid (And.intro h1 (And.intro h2 (And.intro h3 h4)))
    have HO := Lib.hid ho'
    have HG := Lib.hid hg'
    have HV := Lib.hid hv'
    have HRUN := Lib.hid hrun
    have HKs : Hid (∀ j, j < X.heap.size → v.ownBlock ≠ some j → X'.heap[j]? = X.heap[j]?) := fun j hj hne => (hg'.block j (by simp; omega) (fun e => hne e.symm)).trans (Below.heap_alloc X _ j hj)
    have HNe : Hid (v.ownBlock ≠ some bs) := fun e => by
      have := (World.ownsRow.lt h2 bs e).1
      have := HZ0.out
      omega
    have hbl := h1.lt
    have HR' : Hid (RowB X' bs [v]) := h1.kept (HKs.out bs hbl HNe.out)
    have HY := Lib.hid hy
    clear hy
    have u0 := h1.1 0 _ rfl
    have v0 := HR'.out.1 0 _ rfl
    have v1 := HR'.out.2 0
    clear h1 h2 h3 h4 ho' hg' hv' hrun hkl hkn hbl
    gi_wp2_with (gi_at_builtin; refine wpListIn_run6 rfl _ _ _ _ rfl _ _ _ _ rfl rfl HRUN.out ?_)
    obtain ⟨Y, hY⟩ : ∃ Y, Y = X'.setCell ⟨bs, 0, none⟩ (.slice A2 N2 C2) := ⟨_, rfl⟩
    rw [← hY]
    have hk' : ∀ b, b ≠ bs → Y.heap[b]? = X'.heap[b]? := fun b e => by rw [hY, Below.heap_setCell _ _ _ _ e]
    have hz : Y.heap.size = X'.heap.size := by rw [hY, World.size_setCell]
    obtain ⟨p1, p2, p3, p4⟩ := HX.out
    have hz0 := HZ0.out
    have hgs := HG.out.size
    rw [World.size_alloc] at hgs
    have hno : ∀ b, SinceM S (W.heap.size + 2) (fun X b => ∃ v, RowB X bs [v] ∧ v.ownBlock = some b) X b → b ≠ bs ∧ b < X.heap.size ∧ v.ownBlock ≠ some b := by
      intro b hb
      rcases hb with hb | ⟨hb, ho, hm⟩
      · have h1 := HSb.out b hb
        exact ⟨by omega, by omega, fun e => by have := (World.ownsRow.lt p2 b e).1; omega⟩
      · exact ⟨by omega, ho, fun e => hm ⟨v, p1, e⟩⟩
    have HO' : Hid (Y.ownsRow W.heap.size 23 1 (.slice A2 N2 C2) (ss.take (k + 1)).length (flatU (ss.take (k + 1)))) := ownsRow_kept HO.out fun j hj => hk' j (by have := (World.ownsRow.lt HO.out j hj).1; omega)
    refine ⟨⟨by omega, fun b o hb ho hc => ?_⟩, ⟨fun b hb => ?_, fun b hb hm => ?_⟩, ⟨_, ?_, HO'.out⟩, ?_, by omega⟩
    · have hbl := (Array.getElem?_eq_some_iff.1 ho).1
      refine (hk' b (by omega)).trans ((HKs.out b hbl fun e => ?_).trans ho)
      exact own_row_ne p2 ⟨o, ho, hc⟩ e
    · obtain ⟨n1, n2, n3⟩ := hno b hb
      exact (hk' b n1).trans (HKs.out b n2 n3)
    · obtain ⟨v3, k1, k2⟩ := hm
      have hrY : RowB Y bs [.slice A2 N2 C2] := by rw [hY]; exact HR'.out.set 0 _
      have e := (k1.1 0 _ rfl).symm.trans (hrY.1 0 _ rfl)
      injection e with e
      subst e
      rcases HV.out with h | h
      · exact ⟨v, p1, h ▸ k2⟩
      · rw [h] at k2
        injection k2 with k2
        omega
    · rw [hY]
      exact HR'.out.set 0 _
    · have hb : Below w.heap.size w X' := (below_al p3 _).grown HG.out (by rw [World.size_alloc]; omega) (fun r e => by have := (World.ownsRow.lt p2 r e).1; omega)
      have hb : ButS w.heap.size (fun b => False) w Y := by
        rw [hY]
        exact (ButS.of_below hb).set (.inr (by omega)) 0 _
      exact hb.below (Nat.le_refl _) fun k h => h.elim
  case done =>
    rintro D9 X hD ⟨⟨v, h1, h2⟩, h3, h4⟩ hK
    rw [List.take_length] at h2
    have HX := Lib.hid (And.intro h1 (And.intro h2 (And.intro h3 h4)))
    have HK := Lib.hid hK
    have u0 := h1.1 0 _ rfl
    clear h1 h2 h3 h4 hK
    go_wp2_with fail
    obtain ⟨p1, p2, p3, p4⟩ := HX.out
    have hz0 := HZ0.out
    have hD' := HK.out
    refine marks_one HK.out (results_tmp rfl _ _ _) ⟨v, rfl, ?_, below_put p3 (by omega) _⟩
    exact own_base (ownsRow_kept p2 fun j hj => World.putObj_heap_other (by
      rintro rfl
      exact own_row_ne p2 ⟨_, HK.out, rfl⟩ hj)) (by omega)
  case stop =>
    rintro D9 c k X hD hk h hK
    exact h.elim

theorem ucollect_any (gf : Nat) (lb : Array Value) (S : Nat → Prop) (ss : List Int) (w : World) (eg : ∀ args w, (callFunc gf args).run Tryd.prog w = .ok (.enter gf args) w)
    (hgo : ∀ X, Below w.heap.size w X → GoesM Tryd.prog gf lb (fun k => #[.int .u32 (atU ss k)]) S ss.length X) (hS : ∀ b, S b → b < w.heap.size) (hlen : ss.length ≤ 1000000) :
    Calls Tryd.prog 62 #[.func (.func gf) #[] lb] w fun e w' => ∃ v, e = .returned v ∧ w'.ownsRow w.heap.size 23 1 v ss.length (flatU ss) ∧ Below w.heap.size w w' := by
  go_enter Tryd.func62, Tryd.ntmps62
  go_wp2_with fail
  refine (uappendSeq_any gf lb S ss w eg hgo hS hlen).mono ?_
  rintro e w' ⟨v, rfl, h1, h2⟩
  have H1 := Lib.hid h1
  have H2 := Lib.hid h2
  clear h1 h2 hgo
  go_wp2_with fail
  go_ret
  exact ⟨v, rfl, H1.out, H2.out⟩

end Go.Proofs.YthfndphngeaihaaDoor
