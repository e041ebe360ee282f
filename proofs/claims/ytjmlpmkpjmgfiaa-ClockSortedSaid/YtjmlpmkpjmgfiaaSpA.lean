/- Spans in a row of the call's own: what holds of it behind stores, a cut, clear; slices.Clone of spans. -/
import Derived.Test.YtjmlpmkpjmgfiaaItSp
import Derived.Lib.SliceRun
import Derived.Laws.IdiomCopy
import Derived.Laws.OwnMore
import Derived.Maps.AppendAt
namespace Go.Proofs.Ytjmlpmkpjmgfiaa
open Go.RowKit Go.Shelf
set_option linter.unusedSimpArgs false
set_option linter.unusedVariables false

/-- The row at g, o holds these spans, and may be written. -/
def RowS (w : World) (g o : Nat) (zs : List (Int × Int)) : Prop :=
  ∀ j, j < zs.length → (w.cell? ⟨g, o + j * 2, none⟩ = some (.int .u64 (fAt zs j)) ∧ w.cell? ⟨g, o + j * 2 + 1, none⟩ = some (.int .u64 (uAt zs j))) ∧ w.frozen? ⟨g, o + j * 2, none⟩ = false ∧ w.frozen? ⟨g, o + j * 2 + 1, none⟩ = false

theorem RowS.kept {w w' : World} {g o : Nat} {zs : List (Int × Int)} (h : RowS w g o zs) (hb : w'.heap[g]? = w.heap[g]?) : RowS w' g o zs := fun j hj => by
  obtain ⟨⟨c0, c1⟩, f0, f1⟩ := h j hj
  exact ⟨⟨(World.cell?_of_block (a := ⟨g, o + j * 2, none⟩) hb).trans c0, (World.cell?_of_block (a := ⟨g, o + j * 2 + 1, none⟩) hb).trans c1⟩, (World.frozen?_of_block (a := ⟨g, o + j * 2, none⟩) hb).trans f0, (World.frozen?_of_block (a := ⟨g, o + j * 2 + 1, none⟩) hb).trans f1⟩

theorem RowS.on {w w' : World} {g o : Nat} {zs : List (Int × Int)} (h : RowS w g o zs) (hg : g < w.heap.size) (hb : Below w.heap.size w w') : RowS w' g o zs := h.kept (hb.block g hg)

theorem RowS.rd {w : World} {g o : Nat} {zs : List (Int × Int)} (h : RowS w g o zs) {B : Nat} (hg : g < B) : RdS w B (some ⟨g, o, none⟩) zs :=
  .inr ⟨g, o, rfl, hg, fun j hj => (h j hj).1⟩

theorem fAt_set (zs : List (Int × Int)) (i j : Nat) (p : Int × Int) (hi : i < zs.length) : fAt (zs.set i p) j = if j = i then p.1 else fAt zs j := by
  unfold fAt
  by_cases h : j = i
  · subst h; simp [hi]
  · simp [h, List.getElem?_set, Ne.symm h]

theorem uAt_set (zs : List (Int × Int)) (i j : Nat) (p : Int × Int) (hi : i < zs.length) : uAt (zs.set i p) j = if j = i then p.2 else uAt zs j := by
  unfold uAt
  by_cases h : j = i
  · subst h; simp [hi]
  · simp [h, List.getElem?_set, Ne.symm h]

/-- A span stored into the row. -/
theorem RowS.set {w : World} {g o : Nat} {zs : List (Int × Int)} (h : RowS w g o zs) (i : Nat) (hi : i < zs.length) (f u : Int) :
    RowS ((w.setCell ⟨g, o + i * 2, none⟩ (.int .u64 f)).setCell ⟨g, o + i * 2 + 1, none⟩ (.int .u64 u)) g o (zs.set i (f, u)) := fun j hj => by
  rw [List.length_set] at hj
  obtain ⟨⟨c0, c1⟩, f0, f1⟩ := h j hj
  rw [fAt_set _ _ _ _ hi, uAt_set _ _ _ _ hi]
  refine ⟨?_, by simpa using f0, by simpa using f1⟩
  by_cases e : j = i
  · subst e
    simp only [if_pos]
    constructor
    · rw [World.cell?_setCell_other _ _ _ _ (by simp)]
      exact World.cell?_setCell_same _ _ _ c0
    · exact World.cell?_setCell_same _ _ _ (u := .int .u64 (uAt zs j)) (by rw [World.cell?_setCell_other _ _ _ _ (by simp)]; exact c1)
  · simp only [if_neg e]
    constructor
    · rw [World.cell?_setCell_other _ _ _ _ (by first | (simp; done) | (simp; omega)), World.cell?_setCell_other _ _ _ _ (by first | (simp; done) | (simp; omega))]
      exact c0
    · rw [World.cell?_setCell_other _ _ _ _ (by first | (simp; done) | (simp; omega)), World.cell?_setCell_other _ _ _ _ (by first | (simp; done) | (simp; omega))]
      exact c1

theorem RowS.raw {w : World} {g o : Nat} {zs : List (Int × Int)} (h : RowS w g o zs) (t : Nat) (ht : t < zs.length * 2) : (w.cell? ⟨g, o + t, none⟩).isSome = true ∧ w.frozen? ⟨g, o + t, none⟩ = false := by
  obtain ⟨⟨c0, c1⟩, f0, f1⟩ := h (t / 2) (by omega)
  have hm : t % 2 = 0 ∨ t % 2 = 1 := by omega
  rcases hm with hm | hm
  · rw [show t = t / 2 * 2 by omega, c0]
    exact ⟨rfl, f0⟩
  · rw [show o + t = o + t / 2 * 2 + 1 by omega, c1]
    exact ⟨rfl, f1⟩

theorem RowS.take {w : World} {g o : Nat} {zs : List (Int × Int)} (h : RowS w g o zs) (i : Nat) : RowS w g o (zs.take i) := fun j hj => by
  rw [List.length_take] at hj
  have hj1 : j < i := by omega
  have := h j (by omega)
  unfold fAt uAt at *
  simpa [List.getElem?_take, hj1] using this

/-- Cells behind the first i are written. -/
theorem RowS.cut {w : World} {g o : Nat} {zs : List (Int × Int)} (h : RowS w g o zs) (vs : List Value) (i : Nat) (hi : i ≤ zs.length) : RowS (w.setCells g (o + i * 2) vs) g o (zs.take i) := fun j hj => by
  rw [List.length_take] at hj
  obtain ⟨⟨c0, c1⟩, f0, f1⟩ := h.take i j (by rw [List.length_take]; omega)
  refine ⟨⟨?_, ?_⟩, ?_, ?_⟩
  · rw [World.cell?_setCells_out _ _ _ _ _ (fun _ _ => .inl (by simp; omega))]; exact c0
  · rw [World.cell?_setCells_out _ _ _ _ _ (fun _ _ => .inl (by simp; omega))]; exact c1
  · rw [World.frozen?_setCells]; exact f0
  · rw [World.frozen?_setCells]; exact f1

theorem run_cutL2 (g o n cap l : Nat) (h1 : l < n) (h2 : n ≤ cap) (w : World) :
    (Instr.slice 22 (.slice (some ⟨g, o, none⟩) n cap) (some (.int .i64 (l : Int))) none none).run Try.prog w = .ok (.slice (some ⟨g, o + l * 2, none⟩) (n - l) (cap - l)) w := by
  have ht' : Try.prog.underlying 22 = some (.slice (Try.prog.elem 22)) := by kernel_rfl
  have he : Try.prog.elem 22 = 30 := by kernel_rfl
  rw [run_slice_l w 22 (some ⟨g, o, none⟩) n cap ht' .i64 l (by omega) (by omega), he, Try.sizeOf30]
  have hne : ¬ cap = l := by omega
  simp [Result.andThen, sliced, hne, Addr.add]

theorem run_cutH2 (a : Option Addr) (n cap h : Nat) (h1 : h ≤ cap) (w : World) :
    (Instr.slice 22 (.slice a n cap) none (some (.int .i64 (h : Int))) none).run Try.prog w = .ok (.slice a h cap) w := by
  have ht' : Try.prog.underlying 22 = some (.slice (Try.prog.elem 22)) := by kernel_rfl
  have he : Try.prog.elem 22 = 30 := by kernel_rfl
  rw [run_slice_h w 22 a n cap ht' .i64 h (by omega) (by omega), he, Try.sizeOf30]
  have e0 : ∀ x : Addr, x.add 0 = x := fun x => by simp [Addr.add]
  have e1 : (fun x : Addr => x.add 0) = id := funext e0
  simp [Result.andThen, sliced, e1]

theorem zeroCells_two (c : Value) (n : Nat) : (Builtin.zeroCells #[c, c] n).toList = List.replicate (n * 2) c := by
  simp [Builtin.zeroCells]
  apply List.ext_getElem
  · simp [Nat.mul_comm]
  · intro i h1 h2
    have hm : i % 2 = 0 ∨ i % 2 = 1 := by omega
    rcases hm with hm | hm <;> simp [hm]

/-- clear of spans. -/
theorem run_clear2 (w : World) (ty : TypeId) (b o n c : Nat) (hn : 0 < n)
    (hc : ∀ j, j < n * 2 → (w.cell? ⟨b, o + j, none⟩).isSome = true) (hf : ∀ j, j < n * 2 → w.frozen? ⟨b, o + j, none⟩ = false) :
    (Builtin.clear_ #[22] ty #[.slice (some ⟨b, o, none⟩) n c]).run Try.prog w = .ok (.tuple #[]) (w.setCells b o (List.replicate (n * 2) (.int .u64 0))) := by
  have hzc : (Builtin.zeroCells (Value.agg #[.int .u64 0, .int .u64 0]).cells n).toList = List.replicate (n * 2) (.int .u64 0) := zeroCells_two _ n
  have hst := run_storeCells_cells (P := Try.prog) b o (List.replicate (n * 2) (.int .u64 0)) 0 w (by simpa using hc) (by simpa using hf) (by intro v hv'; rw [List.eq_of_mem_replicate hv']; rfl)
  have hv : ∀ w, (zeroValue 30).run Try.prog w = .ok (.agg #[.int .u64 0, .int .u64 0]) w := Try.zeroValue30
  simp only [Nat.add_zero] at hst
  obtain ⟨m, rfl⟩ : ∃ m, n = m + 1 := ⟨n - 1, by omega⟩
  simp [Builtin.clear_, run_underlying Try.underlying22, hv, hzc, hst]

/-- Spans as cells, one behind another. -/
def flatS : List (Int × Int) → List Value
  | [] => []
  | p :: r => .int .u64 p.1 :: .int .u64 p.2 :: flatS r

theorem flatS_length : ∀ ss : List (Int × Int), (flatS ss).length = ss.length * 2
  | [] => rfl
  | p :: r => by simp [flatS, flatS_length r]; omega

theorem flatS_at : ∀ (ss : List (Int × Int)) (k : Nat), k < ss.length → (flatS ss)[k * 2]? = some (.int .u64 (fAt ss k)) ∧ (flatS ss)[k * 2 + 1]? = some (.int .u64 (uAt ss k))
  | [], k, h => absurd h (Nat.not_lt_zero _)
  | p :: r, 0, _ => ⟨rfl, rfl⟩
  | p :: r, k + 1, h => by
    have := flatS_at r k (by simpa using h)
    rw [show (k + 1) * 2 = k * 2 + 1 + 1 by omega]
    simp only [flatS, List.getElem?_cons_succ]
    simpa [fAt, uAt] using this

theorem flatS_cell {w : World} {g o : Nat} {ss : List (Int × Int)} (h : ∀ j, j < ss.length → w.cell? ⟨g, o + j * 2, none⟩ = some (.int .u64 (fAt ss j)) ∧ w.cell? ⟨g, o + j * 2 + 1, none⟩ = some (.int .u64 (uAt ss j))) (i : Nat) (u : Value) (hu : (flatS ss)[i]? = some u) :
    w.cell? ⟨g, o + i, none⟩ = some u := by
  have hi : i < ss.length * 2 := by
    have := (List.getElem?_eq_some_iff.1 hu).1
    rwa [flatS_length] at this
  have hm : i % 2 = 0 ∨ i % 2 = 1 := by omega
  have hk : i / 2 < ss.length := by omega
  rcases hm with hm | hm
  · have e : i = i / 2 * 2 := by omega
    rw [e, (flatS_at ss _ hk).1] at hu
    rw [e, ← hu]
    exact (h _ hk).1
  · have e : i = i / 2 * 2 + 1 := by omega
    rw [e, (flatS_at ss _ hk).2] at hu
    rw [e, ← hu]
    exact (h _ hk).2

theorem flatS_one : ∀ (ss : List (Int × Int)) (u : Value), u ∈ flatS ss → u.oneCell' = true
  | [], u, h => by cases h
  | p :: r, u, h => by
    simp only [flatS, List.mem_cons] at h
    rcases h with rfl | rfl | h
    · rfl
    · rfl
    · exact flatS_one r u h

section
variable {P : Program} (w : World)

/-- One item appended onto items of the call's own. -/
theorem wpList_appN {ops : Array Oper} {rest : List Oper} {o : Oper} {a : Act} {Q : Exit → Act → World → Prop} (hgd : o.guard = none) (s x : Operand) (t : TypeId)
    (ho : o.op = .call { callee := .builtin .append, args := #[s, x], argTypes := #[t, t] })
    (base : Nat) (e : TypeId) (z : Value) (size bytes : Nat) (ht : P.underlying t = some (.slice e)) (hinfo : (P.info? e).map (fun i => (i.zero, i.size, i.bytes)) = some (some z, size, bytes)) (hz1 : z.cells.size = size) (hsz : 0 < size)
    (v : Value) (n : Nat) (xs : List Value) (hv : a.eval s = v) (hown : w.ownsRow base e size v n xs) (A : Addr) (m c : Nat) (ys : List Value) (hx : a.eval x = .slice (some A) m c) (hm : ys.length = m * size) (hs : ∀ j u, ys[j]? = some u → w.cell? (A.add j) = some u) (h1 : ∀ u ∈ ys, u.oneCell' = true)
    (h63 : n + m ≤ maxLen) (hbytes : (n + m) * bytes ≤ 140737488355328) (hbase : base ≤ w.heap.size)
    (h : ∀ v' w', w'.ownsRow base e size v' (n + m) (xs ++ ys) → w.grownBy w' v.ownBlock → (v'.ownBlock = v.ownBlock ∨ v'.ownBlock = some w.heap.size) → wpList P ops Q rest (a.put o.dst v') w') : wpList P ops Q (o :: rest) a w :=
  wpList_plain hgd fun _ hK => by
    obtain ⟨i, hi, hz0, hsz0, hb⟩ := info_parts hinfo
    obtain ⟨v', w', hrun, h2, h3, _, h5⟩ := run_append_own_at (P := P) w base t o.type e i z size bytes ht hi hz0 hsz0 hb hz1 hsz v n xs hown A m c ys hm hs h1 h63 hbytes hbase
    unfold Oper.wp execOp
    simp only [ho, resolve, invoke, builtin, Sem.run_bind, Sem.run_pure, Result.andThen_ok, List.map_toArray, List.map_cons, List.map_nil, hv, hx, hrun]
    exact hK _ _ (h v' w' h2 h3 h5)
end


theorem info_span : (Try.prog.info? 30).map (fun i => (i.zero, i.size, i.bytes)) = some (some (.agg #[.int .u64 0, .int .u64 0]), 2, 16) := by kernel_rfl

/-- Spans in a row of the call's own. -/
def OwnS (w w' : World) (A : Option Addr) (C : Nat) (ss : List (Int × Int)) : Prop :=
  ss.length ≤ C ∧ ((A = none ∧ ss = []) ∨ ∃ g, A = some ⟨g, 0, none⟩ ∧ w.heap.size ≤ g ∧ g < w'.heap.size ∧ RowS w' g 0 ss) ∧ Below w.heap.size w w'

set_option maxRecDepth 100000 in
set_option maxHeartbeats 4000000 in
theorem sclone_any (A : Option Addr) (C : Nat) (ss : List (Int × Int)) (w : World) (hlen : ss.length ≤ 1000000) (hr : RdS w w.heap.size A ss) :
    Calls Try.prog 16 #[.slice A ss.length C] w fun e w' => ∃ A' C', e = .returned (.slice A' ss.length C') ∧ OwnS w w' A' C' ss := by
  rcases A with _ | ad
  · obtain rfl : ss = [] := by
      rcases hr with h | ⟨g, o, h, _⟩
      · exact h
      · cases h
    have heq := fun w : World => Lib.run_eql_slice_nil (P := Try.prog) w 22 30 none 0 C 0 0 Try.underlying22
    go_enter Try.func16, Try.ntmps16
    go_wp2
    go_ret
    exact ⟨none, 0, rfl, Nat.zero_le _, .inl ⟨rfl, rfl⟩, Below.refl _ _⟩
  · have heq := fun w : World => Lib.run_eql_slice_nil (P := Try.prog) w 22 30 (some ad) ss.length C 0 0 Try.underlying22
    have HYS : Hid (∀ j u, (flatS ss)[j]? = some u → (w.alloc (.cells #[] 30)).cell? (ad.add j) = some u) := by
      intro j u hu
      refine Lib.cell?_alloc_some _ ?_
      rcases hr with rfl | ⟨g, o, h, hg, hl⟩
      · simp [flatS] at hu
      · injection h with h
        subst h
        have := flatS_cell (w := w) (g := g) (o := o) hl j u hu
        by_cases e : j = 0
        · subst e; simpa [Addr.add] using this
        · simpa [Addr.add, e] using this
    have HO : Hid ((w.alloc (.cells #[] 30)).ownsRow w.heap.size 30 2 (.slice (some ⟨w.heap.size, 0, none⟩) 0 0) 0 []) := by
      refine ⟨rfl, .inr ⟨w.heap.size, 0, #[], rfl, Nat.le_refl _, World.alloc_heap_new w _, ?_⟩⟩
      refine ⟨Nat.le_refl _, by decide, rfl, rfl⟩
    clear hr
    go_enter Try.func16, Try.ntmps16
    go_wp2_with (at_builtin; refine wpList_appN _ rfl _ _ 22 rfl w.heap.size 30 _ 2 16 Try.underlying22 info_span rfl (by decide) _ 0 [] rfl HO.out ad ss.length C (flatS ss) rfl (flatS_length ss) HYS.out (flatS_one ss) (by unfold maxLen; omega) (by omega) (by simp) ?_; intro v' w2 h2 h3 h5)
    go_ret
    have hb : Below w.heap.size w w2 := ((Below.refl _ _).alloc (Nat.le_refl _) _).grown h3 (by simp) (fun r e => by cases e; exact Nat.le_refl _)
    simp only [Nat.zero_add, List.nil_append] at h2
    rcases h2.2 with ⟨rfl, h0⟩ | ⟨gg, cp, cur, rfl, hb0, hg, hn9, hm9, hs9, htk⟩
    · have h0' : ss.length = 0 := h0
      obtain rfl : ss = [] := List.eq_nil_of_length_eq_zero h0'
      exact ⟨none, 0, rfl, Nat.zero_le _, .inl ⟨rfl, rfl⟩, hb⟩
    · have hlt := (Array.getElem?_eq_some_iff.1 hg).1
      refine ⟨some ⟨gg, 0, none⟩, cp, rfl, hn9, .inr ⟨gg, rfl, hb0, hlt, fun j hj => ?_⟩, hb⟩
      have hcell : ∀ i, i < ss.length * 2 → w2.cell? ⟨gg, i, none⟩ = (flatS ss)[i]? := fun i hi => by
        have h1 : w2.cell? ⟨gg, i, none⟩ = cur[i]? := by simp [World.cell?, hg]
        rw [h1, ← htk]
        simp [List.getElem?_take, hi]
      have hfr : ∀ i, w2.frozen? ⟨gg, i, none⟩ = false := fun i => h2.frozenAt i
      rw [Nat.zero_add, hcell _ (by omega), hcell _ (by omega)]
      exact ⟨flatS_at ss j hj, hfr _, hfr _⟩

end Go.Proofs.Ytjmlpmkpjmgfiaa
