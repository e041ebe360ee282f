/- Package rank: leave. -/
import Derived.Test.YthfndphngeaihaaDoorRkG
namespace Go.Proofs.YthfndphngeaihaaDoor
open Go Go.RowKit Go.Shelf
open Go.ChangeMaps (setBlock)
set_option linter.unusedSimpArgs false
set_option linter.unusedVariables false
set_option linter.unusedSectionVars false
set_option maxRecDepth 100000

attribute [local go_sem] Oper.semAt_some

/-- A wait that is written cell by cell. -/
def putWt (w : World) (b : Nat) (x : Wt) : World :=
  ((((((w.setCell ⟨b, 0, none⟩ (.int .u32 x.nm.n)).setCell ⟨b, 1, none⟩ (.int .u32 x.nm.m)).setCell ⟨b, 2, none⟩ (.int .u64 x.nm.t)).setCell ⟨b, 3, none⟩ (.int .u32 x.nm.q)).setCell ⟨b, 4, none⟩ (.int .u32 x.node)).setCell ⟨b, 5, none⟩ (.int .i64 x.rank)).setCell ⟨b, 6, none⟩ (.int .i64 x.size)
theorem putWt_row {w : World} {b : Nat} {x y : Wt} (h : RowB w b y.cells) : RowB (putWt w b x) b x.cells :=
  ((((((h.set 0 (.int .u32 x.nm.n)).set 1 (.int .u32 x.nm.m)).set 2 (.int .u64 x.nm.t)).set 3 (.int .u32 x.nm.q)).set 4 (.int .u32 x.node)).set 5 (.int .i64 x.rank)).set 6 (.int .i64 x.size)
theorem putWt_block (w : World) (b : Nat) (x : Wt) (k : Nat) (h : k ≠ b) : (putWt w b x).heap[k]? = w.heap[k]? := by
  unfold putWt
  rw [Below.heap_setCell _ _ _ _ h, Below.heap_setCell _ _ _ _ h, Below.heap_setCell _ _ _ _ h, Below.heap_setCell _ _ _ _ h, Below.heap_setCell _ _ _ _ h, Below.heap_setCell _ _ _ _ h, Below.heap_setCell _ _ _ _ h]
theorem putWt_size (w : World) (b : Nat) (x : Wt) : (putWt w b x).heap.size = w.heap.size := by simp [putWt]
theorem ButS.putWt {B : Nat} {S : Nat → Prop} {w0 w : World} (h : ButS B S w0 w) {b : Nat} (hb : S b ∨ B ≤ b) (x : Wt) : ButS B S w0 (putWt w b x) :=
  ((((((h.set hb 0 _).set hb 1 _).set hb 2 _).set hb 3 _).set hb 4 _).set hb 5 _).set hb 6 _

/-- A builtin delete in a region that draws its order. -/
theorem step_del {P : Program} {ops : Array Oper} {o : Oper} {a : Act} {w : World} {K : Act → World → Prop} {Q : Exit → Act → World → Prop} {E : Prop} (hgd : o.guard = none) (s x : Operand) (t u : TypeId)
    (ho : o.op = .call { callee := .builtin .delete, args := #[s, x], argTypes := #[t, u] }) (v y v' : Value) (w' : World) (hv : a.eval s = v) (hy : a.eval x = y)
    (hrun : (Builtin.delete_ #[t, u] o.type #[v, y]).run P w = .ok v' w') (h : K (a.put o.dst v') w') : if Region.wanted o (yielded ops a.tmps) = true then Oper.wp P o a w K Q else E := by
  have hw : Region.wanted o (yielded ops a.tmps) = true := by simp [Region.wanted, hgd]
  rw [if_pos hw]
  unfold Oper.wp execOp
  simp only [ho, resolve, invoke, builtin, Sem.run_bind, Sem.run_pure, Result.andThen_ok, List.map_toArray, List.map_cons, List.map_nil, hv, hy, hrun]
  exact h

/-- What is left when a name goes. -/
def rm (D : List Wt) (n : Nm) : List Wt := D.filter fun x => decide (x.nm ≠ n)

theorem filter_one {α β : Type} [DecidableEq β] (f : α → β) : ∀ (l : List α), (l.map f).Nodup → ∀ (j : Nat) (a : α), l[j]? = some a → l.filter (fun x => decide (f x ≠ f a)) = l.eraseIdx j
  | [], _, j, _, h => by simp at h
  | p :: r, hn, j, a, h => by
    have hn' : f p ∉ r.map f ∧ (r.map f).Nodup := List.nodup_cons.1 hn
    rw [List.filter_cons]
    cases j with
    | zero =>
      simp only [List.getElem?_cons_zero, Option.some.injEq] at h
      subst h
      rw [if_neg (by simp), List.eraseIdx_cons_zero, List.filter_eq_self.2]
      intro q hq
      simp only [ne_eq, decide_eq_true_eq]
      intro e2
      exact hn'.1 (e2 ▸ List.mem_map.2 ⟨q, hq, rfl⟩)
    | succ j =>
      simp only [List.getElem?_cons_succ] at h
      have hne : f p ≠ f a := fun e => hn'.1 (e ▸ List.mem_map.2 ⟨a, List.mem_of_getElem? h, rfl⟩)
      rw [if_pos (by simp [hne]), List.eraseIdx_cons_succ, filter_one f r hn'.2 j a h]

theorem namesOf_rm (D : List Wt) (n : Nm) (q : Qk) : namesOf (rm D n) q = (namesOf D q).filter fun y => decide (y ≠ n) := by
  unfold namesOf rm
  rw [List.filter_map, List.filter_filter, List.filter_filter]
  congr 1
  apply List.filter_congr
  intro x _
  simp [Bool.and_comm]
theorem wt_rm (D : List Wt) (n k : Nm) : wt (rm D n) k = if k = n then none else wt D k := by
  unfold wt rm
  rw [List.find?_filter]
  by_cases h : k = n
  · subst h
    rw [if_pos rfl, List.find?_eq_none]
    intro x _
    simp
  · rw [if_neg h]
    congr 1
    funext x
    by_cases e : x.nm = k
    · have : x.nm ≠ n := fun e2 => h (e.symm.trans e2)
      simp [e, h]
    · simp [e]
theorem wt_mem {D : List Wt} {n : Nm} {x : Wt} (h : wt D n = some x) : x ∈ D ∧ x.nm = n := by
  unfold wt at h
  exact ⟨List.mem_of_find?_eq_some h, by simpa using List.find?_some h⟩
theorem namesOf_mem {D : List Wt} {q : Qk} {n : Nm} : n ∈ namesOf D q ↔ ∃ x ∈ D, x.qk = q ∧ x.nm = n := by
  unfold namesOf
  simp [List.mem_map, List.mem_filter, and_assoc]
theorem wt_of_mem {D : List Wt} (hn : (D.map Wt.nm).Nodup) {x : Wt} (hx : x ∈ D) : wt D x.nm = some x := by
  induction D with
  | nil => cases hx
  | cons y r ih =>
    have hn' : y.nm ∉ r.map Wt.nm ∧ (r.map Wt.nm).Nodup := List.nodup_cons.1 hn
    unfold wt at ih ⊢
    rw [List.find?_cons]
    rcases List.mem_cons.1 hx with rfl | h
    · simp
    · have : y.nm ≠ x.nm := fun e => hn'.1 (e ▸ List.mem_map.2 ⟨x, h, rfl⟩)
      simp only [this, decide_false]
      exact ih hn'.2 h
theorem namesOf_nodup {D : List Wt} (hn : (D.map Wt.nm).Nodup) (q : Qk) : (namesOf D q).Nodup := (List.filter_sublist.map _).nodup hn
theorem rm_len {D : List Wt} (hn : (D.map Wt.nm).Nodup) {x : Wt} (hx : x ∈ D) : (rm D x.nm).length + 1 = D.length := by
  obtain ⟨j, hj⟩ := List.getElem?_of_mem hx
  unfold rm
  have hl := (List.getElem?_eq_some_iff.1 hj).1
  rw [filter_one Wt.nm D hn j x hj, List.length_eraseIdx, if_pos hl]
  omega
theorem dl_len {κ : Type} [DecidableEq κ] {l : List (κ × Value)} (hn : (l.map (·.1)).Nodup) {k : κ} (h : (lk l k).isSome) : (dl l k).length + 1 = l.length := by
  obtain ⟨v, hv⟩ := Option.isSome_iff_exists.1 h
  obtain ⟨j, hj⟩ := List.getElem?_of_mem (lk_mem hv)
  have hl := (List.getElem?_eq_some_iff.1 hj).1
  rw [dl_at hn hj, List.length_eraseIdx, if_pos hl]
  omega

theorem line_leave {w w' : World} {S : Nat → Prop} {p : Nat} {most : Int} {D : List Wt} {bq bw : Nat} {lq : List (Qk × Value)} {lw : List (Nm × Value)} (x : Wt)
    (h1 : RowB w p [.int .i64 most, .map (some bq), .map (some bw)]) (h4 : QsAt w lq D) (h5 : WsAt lw D) (hnl : (lw.map (·.1)).Nodup)
    (h6 : S p ∧ S bq ∧ S bw ∧ ∀ q v j, lk lq q = some v → v.ownBlock = some j → S j) (h7 : bq ≠ bw ∧ p ≠ bq ∧ p ≠ bw ∧ ∀ q v j, lk lq q = some v → v.ownBlock = some j → j ≠ p ∧ j ≠ bq ∧ j ≠ bw)
    (hx : x ∈ D) (g m cap i : Nat) (hv : lk lq x.qk = some (.slice (some ⟨g, 0, none⟩) (m + 1) cap)) (hi : (namesOf D x.qk)[i]? = some x.nm) (lq' : List (Qk × Value)) (hlq : ∀ q, lk lq' q = if q = x.qk then (if m = 0 then none else some (.slice (some ⟨g, 0, none⟩) m cap)) else lk lq q)
    (e1 : KMap encQk w' bq lq') (e2 : KMap encNm w' bw (dl lw x.nm))
    (e3 : w'.ownsRow 0 28 4 (.slice (some ⟨g, 0, none⟩) m cap) m (flatNm ((namesOf D x.qk).eraseIdx i)))
    (e4 : ∀ j, j < w.heap.size → j ≠ bq → j ≠ bw → j ≠ g → w'.heap[j]? = w.heap[j]?) : LineAt w' S p most (rm D x.nm) := by
  obtain ⟨s1, s2, s3, s4⟩ := h6
  obtain ⟨n1, n2, n3, n4⟩ := h7
  have hg := n4 _ _ g hv rfl
  have hnq : ∀ q, namesOf (rm D x.nm) q = if q = x.qk then (namesOf D x.qk).eraseIdx i else namesOf D q := fun q => by
    rw [namesOf_rm]
    by_cases h : q = x.qk
    · rw [if_pos h, h]
      have := filter_one (fun y : Nm => y) (namesOf D x.qk) (by rw [List.map_id']; exact namesOf_nodup h5.2.2 _) i x.nm hi
      exact this
    · rw [if_neg h, List.filter_eq_self]
      intro y hy
      obtain ⟨z, hz, hzq, rfl⟩ := namesOf_mem.1 hy
      simp only [ne_eq, decide_eq_true_eq]
      intro e
      have := wt_of_mem h5.2.2 hz
      rw [e, wt_of_mem h5.2.2 hx] at this
      injection this with this
      subst this
      exact h hzq.symm
  have hlen : (namesOf D x.qk).length = m + 1 := by
    rcases (h4.2.1 _ _ hv).2 with ⟨h, _⟩ | ⟨_, _, _, h, _⟩
    · cases h
    · injection h with _ h
      exact h.symm
  have hsub : ∀ q v j, lk lq' q = some v → v.ownBlock = some j → ∃ u, lk lq q = some u ∧ u.ownBlock = some j := fun q v j hq hj => by
    rw [hlq] at hq
    by_cases h : q = x.qk
    · rw [if_pos h] at hq
      split at hq
      · cases hq
      · injection hq with hq
        subst hq
        exact ⟨.slice (some ⟨g, 0, none⟩) (m + 1) cap, by rw [h]; exact hv, hj⟩
    · rw [if_neg h] at hq
      exact ⟨v, hq, hj⟩
  refine ⟨bq, bw, lq', dl lw x.nm, h1.kept (e4 p h1.lt n2 n3 (Ne.symm hg.1)), e1, e2, ⟨fun q => ?_, fun q v hq => ?_, fun q q' v u hne hq hq' hvu => ?_⟩, ⟨fun n => ?_, ?_, ?_⟩, ⟨s1, s2, s3, fun q v j hq hj => ?_⟩, n1, n2, n3, fun q v j hq hj => ?_⟩
  · rw [hlq, hnq]
    by_cases h : q = x.qk
    · rw [if_pos h, if_pos h]
      have hl : ((namesOf D x.qk).eraseIdx i).length = m := by
        rw [List.length_eraseIdx, if_pos (List.getElem?_eq_some_iff.1 hi).1]
        omega
      by_cases hm : m = 0
      · rw [if_pos hm]
        exact ⟨fun _ => List.eq_nil_of_length_eq_zero (hl.trans hm), fun _ => rfl⟩
      · rw [if_neg hm]
        exact ⟨fun h => (by cases h), fun h => by rw [h] at hl; simp at hl; omega⟩
    · rw [if_neg h, if_neg h]
      exact h4.1 q
  · rw [hlq] at hq
    rw [hnq]
    by_cases h : q = x.qk
    · rw [if_pos h] at hq ⊢
      split at hq
      · cases hq
      · injection hq with hq
        subst hq
        rw [List.length_eraseIdx, if_pos (List.getElem?_eq_some_iff.1 hi).1, hlen]
        exact e3
    · rw [if_neg h] at hq ⊢
      refine ownsRow_kept (h4.2.1 q v hq) fun j hj => e4 j (h4.lt hq hj) (n4 q v j hq hj).2.1 (n4 q v j hq hj).2.2 ?_
      rintro rfl
      exact h4.2.2 q x.qk v _ h hq hv hj
  · have hj : ∃ j, v.ownBlock = some j := by
      rw [hlq] at hq
      by_cases h : q = x.qk
      · rw [if_pos h] at hq
        split at hq
        · cases hq
        · injection hq with hq
          subst hq
          exact ⟨g, rfl⟩
      · rw [if_neg h] at hq
        obtain ⟨j, hj, _⟩ := own_some (h4.2.1 q v hq) (by
          rcases hl : namesOf D q with _ | ⟨a, r⟩
          · have := (h4.1 q).2 hl
            rw [this] at hq
            cases hq
          · simp)
        exact ⟨j, hj⟩
    obtain ⟨j, hj⟩ := hj
    obtain ⟨a, ha, haj⟩ := hsub q v j hq hj
    obtain ⟨b, hb, hbj⟩ := hsub q' u j hq' (hvu.symm.trans hj)
    exact h4.2.2 q q' a b hne ha hb (haj.trans hbj.symm)
  · rw [lk_dl, wt_rm, h5.1 n]
    split <;> rfl
  · have h := dl_len hnl (k := x.nm) (by rw [h5.1, wt_of_mem h5.2.2 hx]; rfl)
    have h2 := rm_len h5.2.2 hx
    have := h5.2.1
    omega
  · exact (List.filter_sublist.map _).nodup h5.2.2
  · obtain ⟨u, hu, huj⟩ := hsub q v j hq hj
    exact s4 q u j hu huj
  · obtain ⟨u, hu, huj⟩ := hsub q v j hq hj
    exact n4 q u j hu huj

set_option maxHeartbeats 16000000 in
theorem leave_any (S : Nat → Prop) (p : Nat) (most : Int) (D : List Wt) (x : Wt) (n : Nm) (w : World) (h : LineAt w S p most D) (hx : x ∈ D) (hn : x.nm = n) (hlen : D.length ≤ 100000) :
    Calls Tryd.prog 31 #[.pointer (some ⟨p, 0, none⟩), .agg #[.int .u32 n.n, .int .u32 n.m, .int .u64 n.t, .int .u32 n.q]] w fun e w' => e = .returned (encWt x) ∧ LineAt w' S p most (rm D n) ∧ ButS w.heap.size S w w' := by
  obtain ⟨bq, bw, lq, lw, h1, h2, h3, h4, h5, h6, h7⟩ := h
  have hxe : x.nm ∈ namesOf D x.qk := namesOf_mem.2 ⟨x, hx, rfl, rfl⟩
  obtain ⟨i, hi⟩ := List.getElem?_of_mem hxe
  have hnd := namesOf_nodup h5.2.2 x.qk
  have hfirst : ∀ j, j < i → (namesOf D x.qk)[j]? ≠ some x.nm := fun j hj hjx => by
    obtain ⟨hil, hie⟩ := List.getElem?_eq_some_iff.1 hi
    obtain ⟨hjl, hje⟩ := List.getElem?_eq_some_iff.1 hjx
    exact List.pairwise_iff_getElem.1 hnd j i hjl hil hj (hje.trans hie.symm)
  obtain ⟨v, hv⟩ : ∃ v, lk lq x.qk = some v := by
    cases hl : lk lq x.qk with
    | none => rw [(h4.1 _).1 hl] at hxe; cases hxe
    | some v => exact ⟨v, rfl⟩
  obtain ⟨m, hm⟩ : ∃ m, (namesOf D x.qk).length = m + 1 := ⟨(namesOf D x.qk).length - 1, by have := (List.getElem?_eq_some_iff.1 hi).1; omega⟩
  have hown0 := h4.2.1 _ _ hv
  rw [hm] at hown0
  obtain ⟨g, cap, rfl⟩ : ∃ g cap, v = .slice (some ⟨g, 0, none⟩) (m + 1) cap := by
    rcases hown0.2 with ⟨_, h⟩ | ⟨g, cap, _, h, _⟩
    · omega
    · exact ⟨g, cap, h⟩
  have him : i ≤ m := by
    have := (List.getElem?_eq_some_iff.1 hi).1
    omega
  have hml : m ≤ 100000 := by
    have : (namesOf D x.qk).length ≤ D.length := by
      rw [namesOf, List.length_map]
      exact List.length_filter_le _ _
    omega
  have hg := h7.2.2.2 _ _ g hv rfl
  have hgS := h6.2.2.2 _ _ g hv rfl
  have hgl := h4.lt hv (j := g) rfl
  obtain ⟨W, hW⟩ : ∃ W, W = (w.alloc (.cells #[.int .u32 n.n, .int .u32 n.m, .int .u64 n.t, .int .u32 n.q] 28)).alloc (.cells #[.int .u32 0, .int .u32 0, .int .u64 0, .int .u32 0, .int .u32 0, .int .i64 0, .int .i64 0] 30) := ⟨_, rfl⟩
  obtain ⟨bn, hbn⟩ : ∃ bn, bn = w.heap.size := ⟨_, rfl⟩
  have HB0 : Hid (Below w.heap.size w W) := by rw [hW]; exact below_al (below_al (Below.refl _ _) _) _
  have hz0 : W.heap.size = w.heap.size + 1 + 1 := by rw [hW]; simp
  have HN0 : Hid (RowB W bn [.int .u32 n.n, .int .u32 n.m, .int .u64 n.t, .int .u32 n.q]) := by
    rw [Hid, hW, hbn]
    exact (RowB.new w [.int .u32 n.n, .int .u32 n.m, .int .u64 n.t, .int .u32 n.q] _).on (below_al (Below.refl _ _) _) (by simp)
  have HR0 : Hid (RowB W (w.heap.size + 1) wtZ.cells) := by
    rw [Hid, hW]
    have := RowB.new (w.alloc (.cells #[.int .u32 n.n, .int .u32 n.m, .int .u64 n.t, .int .u32 n.q] 28)) [.int .u32 0, .int .u32 0, .int .u64 0, .int .u32 0, .int .u32 0, .int .i64 0, .int .i64 0] 30
    rw [show (w.alloc (.cells #[.int .u32 n.n, .int .u32 n.m, .int .u64 n.t, .int .u32 n.q] 28)).heap.size = w.heap.size + 1 by simp] at this
    exact this
  have HP0 : Hid (RowB W p [.int .i64 most, .map (some bq), .map (some bw)]) := h1.on HB0.out h1.lt
  have HQ0 : Hid (KMap encQk W bq lq) := h2.kept (HB0.out.block _ h2.lt)
  have HW0 : Hid (KMap encNm W bw lw) := h3.kept (HB0.out.block _ h3.lt)
  have HG0 : Hid (W.ownsRow 0 28 4 (.slice (some ⟨g, 0, none⟩) (m + 1) cap) (m + 1) (flatNm (namesOf D x.qk))) := ownsRow_kept hown0 fun j hj => HB0.out.block j (by
    have : g = j := by simpa [Value.ownBlock] using hj
    omega)
  have HL : Hid (p < w.heap.size ∧ bq < w.heap.size ∧ bw < w.heap.size ∧ g < w.heap.size) := ⟨h1.lt, h2.lt, h3.lt, hgl⟩
  have HEq : Hid (bq ≠ bw ∧ p ≠ bq ∧ p ≠ bw ∧ g ≠ p ∧ g ≠ bq ∧ g ≠ bw) := ⟨h7.1, h7.2.1, h7.2.2.1, hg.1, hg.2.1, hg.2.2⟩
  have HSs : Hid (S p ∧ S bq ∧ S bw ∧ S g) := ⟨h6.1, h6.2.1, h6.2.2.1, hgS⟩
  have HLook : Hid (∀ X, KMap encNm X bw lw → (Instr.lookup 60 (.map (some bw)) (.agg #[.int .u32 n.n, .int .u32 n.m, .int .u64 n.t, .int .u32 n.q]) false).run Tryd.prog X = .ok (.agg #[.int .u32 x.nm.n, .int .u32 x.nm.m, .int .u64 x.nm.t, .int .u32 x.nm.q, .int .u32 x.node, .int .i64 x.rank, .int .i64 x.size]) X) := fun X hX => by
    have := hX.look keyNm Tryd.underlying60 zeroWt n false
    rw [if_neg (by simp), h5.1, ← hn, wt_of_mem h5.2.2 hx] at this
    rw [← hn]
    exact this
  have HLoq : Hid (∀ X l v, KMap encQk X bq l → lk l x.qk = some v → (Instr.lookup 59 (.map (some bq)) (.agg #[.int .u32 x.node, .int .i64 x.rank]) false).run Tryd.prog X = .ok v X) := fun X l v hX hl => by
    have := hX.look keyQk Tryd.underlying59 zeroNs x.qk false
    rw [if_neg (by simp), hl] at this
    exact this
  have HFin : Hid (∀ (w' : World) (lq' : List (Qk × Value)), (∀ q, lk lq' q = if q = x.qk then (if m = 0 then none else some (.slice (some ⟨g, 0, none⟩) m cap)) else lk lq q) → KMap encQk w' bq lq' → KMap encNm w' bw (dl lw n) → w'.ownsRow 0 28 4 (.slice (some ⟨g, 0, none⟩) m cap) m (flatNm ((namesOf D x.qk).eraseIdx i)) → (∀ j, j < w.heap.size → j ≠ bq → j ≠ bw → j ≠ g → w'.heap[j]? = w.heap[j]?) → LineAt w' S p most (rm D n)) := fun w' lq' a b c d e => by
    rw [← hn] at c ⊢
    exact line_leave x h1 h4 h5 h3.nodup h6 h7 hx g m cap i hv hi lq' a b c d e
  have HI : Hid ((namesOf D x.qk)[i]? = some n ∧ (∀ j, j < i → (namesOf D x.qk)[j]? ≠ some n) ∧ (namesOf D x.qk).length = m + 1) := ⟨by rw [← hn]; exact hi, by rw [← hn]; exact hfirst, hm⟩
  have HV : Hid (lk lq x.qk = some (.slice (some ⟨g, 0, none⟩) (m + 1) cap)) := hv
  have HM : Hid (i ≤ m ∧ m ≤ 100000) := ⟨him, hml⟩
  have HW := Lib.hid hW
  have HBn : Hid (bn = w.heap.size) := hbn
  have HZ0 := Lib.hid hz0
  clear h1 h2 h3 h4 h5 h6 h7 hxe hi hnd hfirst hv hm hown0 him hml hg hgS hgl hW hz0 hlen hx hn
  go_enter Tryd.func31, Tryd.ntmps31
  go_upto_region 1 with fail
  rw [← HW.out]
  have he1 : w.heap.size + 1 = w.heap.size + 1 := rfl
  obtain ⟨br, hbr⟩ : ∃ br, br = w.heap.size + 1 := ⟨_, rfl⟩
  rw [← hbr] at HR0 HZ0 ⊢
  rw [← hbn]
  have HBr := Lib.hid hbr
  clear he1 hbn hbr
  obtain ⟨Wd, hWd⟩ : ∃ wd, wd = W.drew := ⟨_, rfl⟩
  have HWd := Lib.hid hWd
  have HX1 : Hid (∀ X, Below W.heap.size W X → (X.cell? ⟨p, 2, none⟩ = some (.map (some bw)) ∧ (X.cell? ⟨bn, 0, none⟩ = some (.int .u32 n.n) ∧ X.cell? ⟨bn, 1, none⟩ = some (.int .u32 n.m) ∧ X.cell? ⟨bn, 2, none⟩ = some (.int .u64 n.t) ∧ X.cell? ⟨bn, 3, none⟩ = some (.int .u32 n.q)) ∧ (Instr.lookup 60 (.map (some bw)) (.agg #[.int .u32 n.n, .int .u32 n.m, .int .u64 n.t, .int .u32 n.q]) false).run Tryd.prog X = .ok (.agg #[.int .u32 x.nm.n, .int .u32 x.nm.m, .int .u64 x.nm.t, .int .u32 x.nm.q, .int .u32 x.node, .int .i64 x.rank, .int .i64 x.size]) X)) := fun X hb => by
    obtain ⟨l1, l2, l3, l4⟩ := HL.out
    have hz := HB0.out.size
    have hb' : bn < W.heap.size := by rw [HBn.out, HZ0.out, HBr.out]; omega
    have r1 := HP0.out.on hb (by omega)
    have r2 := HN0.out.on hb hb'
    exact ⟨r1.1 2 _ rfl, ⟨r2.1 0 _ rfl, r2.1 1 _ rfl, r2.1 2 _ rfl, r2.1 3 _ rfl⟩, HLook.out X (HW0.out.kept (hb.block _ (by omega)))⟩
  have F : Below W.heap.size W Wd := by rw [hWd]; exact (Below.refl _ _).drew
  clear hWd
  refine wp_region_T (fun X => (X.cell? ⟨p, 2, none⟩ = some (.map (some bw)) ∧ (X.cell? ⟨bn, 0, none⟩ = some (.int .u32 n.n) ∧ X.cell? ⟨bn, 1, none⟩ = some (.int .u32 n.m) ∧ X.cell? ⟨bn, 2, none⟩ = some (.int .u64 n.t) ∧ X.cell? ⟨bn, 3, none⟩ = some (.int .u32 n.q)) ∧ (Instr.lookup 60 (.map (some bw)) (.agg #[.int .u32 n.n, .int .u32 n.m, .int .u64 n.t, .int .u32 n.q]) false).run Tryd.prog X = .ok (.agg #[.int .u32 x.nm.n, .int .u32 x.nm.m, .int .u64 x.nm.t, .int .u32 x.nm.q, .int .u32 x.node, .int .i64 x.rank, .int .i64 x.size]) X)) 7 (by kernel_rfl) ?_
  rw [← HWd.out]
  refine wpAnyT_take (i := 0) (v := ?_) rfl (by kernel_rfl) (by kernel_rfl) (by kernel_rfl) (by kernel_rfl) (fun _ _ _ h => h) (Or.inl ⟨by rfl, ?_⟩) (HX1.out _ F) ?_
  rotate_left
  · intro w hSw
    (try dsimp only at hSw)
    go_simp
    all_goals with_reducible rfl
  simp only [Act.put, List.setIfInBounds_toArray, List.set_cons_zero, List.set_cons_succ]
  refine wpAnyT_take (i := 1) (v := ?_) rfl (by kernel_rfl) (by kernel_rfl) (by kernel_rfl) (by kernel_rfl) (fun _ _ _ h => h) (Or.inl ⟨by rfl, ?_⟩) (HX1.out _ F) ?_
  rotate_left
  · intro w hSw
    (try dsimp only at hSw)
    go_simp
    all_goals with_reducible rfl
  simp only [Act.put, List.setIfInBounds_toArray, List.set_cons_zero, List.set_cons_succ]
  refine wpAnyT_take (i := 2) (v := ?_) rfl (by kernel_rfl) (by kernel_rfl) (by kernel_rfl) (by kernel_rfl) (fun _ _ _ h => h) (Or.inl ⟨by rfl, ?_⟩) (HX1.out _ F) ?_
  rotate_left
  · intro w hSw
    (try dsimp only at hSw)
    go_simp
    all_goals with_reducible rfl
  simp only [Act.put, List.setIfInBounds_toArray, List.set_cons_zero, List.set_cons_succ]
  refine wpAnyT_take (i := 3) (v := ?_) rfl (by kernel_rfl) (by kernel_rfl) (by kernel_rfl) (by kernel_rfl) (fun _ _ _ h => h) (Or.inl ⟨by rfl, ?_⟩) (HX1.out _ F) ?_
  rotate_left
  · intro w hSw
    (try dsimp only at hSw)
    go_simp
    all_goals with_reducible rfl
  simp only [Act.put, List.setIfInBounds_toArray, List.set_cons_zero, List.set_cons_succ]
  refine wpAnyT_take (i := 4) (v := ?_) rfl (by kernel_rfl) (by kernel_rfl) (by kernel_rfl) (by kernel_rfl) (fun _ _ _ h => h) (Or.inl ⟨by rfl, ?_⟩) (HX1.out _ F) ?_
  rotate_left
  · intro w hSw
    (try dsimp only at hSw)
    go_simp
    all_goals with_reducible rfl
  simp only [Act.put, List.setIfInBounds_toArray, List.set_cons_zero, List.set_cons_succ]
  refine wpAnyT_take (i := 5) (v := ?_) rfl (by kernel_rfl) (by kernel_rfl) (by kernel_rfl) (by kernel_rfl) (fun _ _ _ h => h) (Or.inl ⟨by rfl, ?_⟩) (HX1.out _ F) ?_
  rotate_left
  · intro w hSw
    (try dsimp only at hSw)
    go_simp
    all_goals with_reducible rfl
  simp only [Act.put, List.setIfInBounds_toArray, List.set_cons_zero, List.set_cons_succ]
  refine wpAnyT_one (i := 6) (by kernel_rfl) rfl (fun K hK => ?_)
  go_simp
  refine hK.out _ _ (fun _ => (HX1.out _ (F.alloc F.size _))) ?_
  clear hK K
  try simp only [Act.put, List.setIfInBounds_toArray, List.set_cons_zero, List.set_cons_succ]
  refine wpAnyT_one (i := 7) (by kernel_rfl) rfl (fun K hK => ?_)
  go_simp
  refine hK.out _ _ (fun h => absurd h (by decide)) ?_
  clear hK K
  try simp only [Act.put, List.setIfInBounds_toArray, List.set_cons_zero, List.set_cons_succ]
  refine wpAnyT_done (by kernel_rfl) ?_ _
  clear F
  obtain ⟨bx, hbx⟩ : ∃ bx, bx = Wd.heap.size := ⟨_, rfl⟩
  obtain ⟨W2, hW2⟩ : ∃ W, W = Wd.alloc (.cells #[.int .u32 x.nm.n, .int .u32 x.nm.m, .int .u64 x.nm.t, .int .u32 x.nm.q, .int .u32 x.node, .int .i64 x.rank, .int .i64 x.size] 30) := ⟨_, rfl⟩
  rw [← hW2, ← hbx]
  have HB2 : Hid (Below W.heap.size W W2) := by rw [Hid, hW2, HWd.out]; exact below_al (Below.refl _ _).drew _
  have HX2 : Hid (RowB W2 bx x.cells ∧ bx = W.heap.size ∧ W2.heap.size = W.heap.size + 1) := by
    rw [Hid, hW2, hbx, HWd.out]
    exact ⟨RowB.new W.drew x.cells _, rfl, by simp⟩
  have r2 := HX2.out.1
  have z0 := r2.1 0 _ rfl
  have z1 := r2.1 1 _ rfl
  have z2 := r2.1 2 _ rfl
  have z3 := r2.1 3 _ rfl
  have z4 := r2.1 4 _ rfl
  have z5 := r2.1 5 _ rfl
  have z6 := r2.1 6 _ rfl
  clear hbx hW2 r2
  go_wp2_with fail
  refine (queueOf_any x W2).mono ?_
  rintro e w3 ⟨rfl, hb3⟩
  have HB3 := Lib.hid hb3
  clear z0 z1 z2 z3 z4 z5 z6 hb3
  go_upto_region 3 with fail
  obtain ⟨bk, hbk⟩ : ∃ bk, bk = w3.heap.size := ⟨_, rfl⟩
  obtain ⟨W4, hW4⟩ : ∃ W, W = w3.alloc (.cells #[.int .u32 x.node, .int .i64 x.rank] 68) := ⟨_, rfl⟩
  rw [← hW4, ← hbk]
  have HB4 : Hid (Below W.heap.size W W4) := by
    rw [Hid, hW4]
    exact (HB2.out.trans (HB3.out.mono HB2.out.size)).trans ((below_al (Below.refl _ _) _).mono (Nat.le_trans HB2.out.size HB3.out.size))
  have HK4 : Hid (RowB W4 bk [.int .u32 x.node, .int .i64 x.rank] ∧ bk < W4.heap.size ∧ W2.heap.size ≤ bk) := by
    rw [Hid, hW4, hbk]
    exact ⟨RowB.new w3 [.int .u32 x.node, .int .i64 x.rank] _, by simp, HB3.out.size⟩
  have HX4 : Hid (RowB W4 bx x.cells) := by
    have hl : bx < W2.heap.size := by rw [HX2.out.2.1, HX2.out.2.2]; omega
    rw [Hid, hW4]
    exact (HX2.out.1.on HB3.out hl).on (below_al (Below.refl _ _) _) (Nat.lt_of_lt_of_le hl HB3.out.size)
  clear hW4 hbk
  have HZ : Hid (w.heap.size ≤ W.heap.size ∧ bn < W.heap.size ∧ br < W.heap.size ∧ bn = w.heap.size ∧ br = w.heap.size + 1 ∧ bx = W.heap.size) := ⟨HB0.out.size, by rw [HBn.out, HZ0.out, HBr.out]; omega, by rw [HZ0.out]; omega, HBn.out, HBr.out, HX2.out.2.1⟩
  obtain ⟨Wd4, hWd4⟩ : ∃ wd, wd = W4.drew := ⟨_, rfl⟩
  have HWd4 := Lib.hid hWd4
  have HX3 : Hid (∀ X, Below W4.heap.size W4 X → (X.cell? ⟨p, 1, none⟩ = some (.map (some bq)) ∧ (X.cell? ⟨bn, 0, none⟩ = some (.int .u32 n.n) ∧ X.cell? ⟨bn, 1, none⟩ = some (.int .u32 n.m) ∧ X.cell? ⟨bn, 2, none⟩ = some (.int .u64 n.t) ∧ X.cell? ⟨bn, 3, none⟩ = some (.int .u32 n.q)) ∧ (X.cell? ⟨bk, 0, none⟩ = some (.int .u32 x.node) ∧ X.cell? ⟨bk, 1, none⟩ = some (.int .i64 x.rank)) ∧ (Instr.lookup 59 (.map (some bq)) (.agg #[.int .u32 x.node, .int .i64 x.rank]) false).run Tryd.prog X = .ok (.slice (some ⟨g, 0, none⟩) (m + 1) cap) X)) := fun X hb => by
    obtain ⟨l1, l2, l3, l4⟩ := HL.out
    obtain ⟨y1, y2, y3, _⟩ := HZ.out
    have y4 := HB4.out.size
    have hb' : Below W.heap.size W X := HB4.out.trans (hb.mono HB4.out.size)
    have r1 := HP0.out.on hb' (by omega)
    have r2 := HN0.out.on hb' (by omega)
    have r3 := HK4.out.1.on hb HK4.out.2.1
    exact ⟨r1.1 1 _ rfl, ⟨r2.1 0 _ rfl, r2.1 1 _ rfl, r2.1 2 _ rfl, r2.1 3 _ rfl⟩, ⟨r3.1 0 _ rfl, r3.1 1 _ rfl⟩, HLoq.out X _ _ (HQ0.out.kept (hb'.block _ (by omega))) HV.out⟩
  have HIx : Hid (∀ X, Below W4.heap.size W4 X → Calls Tryd.prog 57 #[.slice (some ⟨g, 0, none⟩) (m + 1) cap, .agg #[.int .u32 n.n, .int .u32 n.m, .int .u64 n.t, .int .u32 n.q]] X fun e w' => e = .returned (.int .i64 (i : Nat)) ∧ Below X.heap.size X w') := fun X hb => by
    obtain ⟨l1, l2, l3, l4⟩ := HL.out
    obtain ⟨y1, y2, y3, _⟩ := HZ.out
    have hb' : Below W.heap.size W X := HB4.out.trans (hb.mono HB4.out.size)
    have := nmIndex_any g cap i (namesOf D x.qk) n X ((own_names HG0.out).kept (hb'.block _ (by omega))) (by have := hb'.size; omega) HI.out.1 HI.out.2.1 (by rw [HI.out.2.2]; have := HM.out; omega)
    rw [HI.out.2.2] at this
    exact this
  have F : Below W4.heap.size W4 Wd4 := by rw [hWd4]; exact (Below.refl _ _).drew
  clear hWd4
  refine wp_region_T (fun X => (X.cell? ⟨p, 1, none⟩ = some (.map (some bq)) ∧ (X.cell? ⟨bn, 0, none⟩ = some (.int .u32 n.n) ∧ X.cell? ⟨bn, 1, none⟩ = some (.int .u32 n.m) ∧ X.cell? ⟨bn, 2, none⟩ = some (.int .u64 n.t) ∧ X.cell? ⟨bn, 3, none⟩ = some (.int .u32 n.q)) ∧ (X.cell? ⟨bk, 0, none⟩ = some (.int .u32 x.node) ∧ X.cell? ⟨bk, 1, none⟩ = some (.int .i64 x.rank)) ∧ (Instr.lookup 59 (.map (some bq)) (.agg #[.int .u32 x.node, .int .i64 x.rank]) false).run Tryd.prog X = .ok (.slice (some ⟨g, 0, none⟩) (m + 1) cap) X)) 8 (by kernel_rfl) ?_
  rw [← HWd4.out]
  refine wpAnyT_take (i := 0) (v := ?_) rfl (by kernel_rfl) (by kernel_rfl) (by kernel_rfl) (by kernel_rfl) (fun _ _ _ h => h) (Or.inl ⟨by rfl, ?_⟩) (HX3.out _ F) ?_
  rotate_left
  · intro w hSw
    (try dsimp only at hSw)
    go_simp
    all_goals with_reducible rfl
  simp only [Act.put, List.setIfInBounds_toArray, List.set_cons_zero, List.set_cons_succ]
  refine wpAnyT_take (i := 1) (v := ?_) rfl (by kernel_rfl) (by kernel_rfl) (by kernel_rfl) (by kernel_rfl) (fun _ _ _ h => h) (Or.inl ⟨by rfl, ?_⟩) (HX3.out _ F) ?_
  rotate_left
  · intro w hSw
    (try dsimp only at hSw)
    go_simp
    all_goals with_reducible rfl
  simp only [Act.put, List.setIfInBounds_toArray, List.set_cons_zero, List.set_cons_succ]
  refine wpAnyT_take (i := 2) (v := ?_) rfl (by kernel_rfl) (by kernel_rfl) (by kernel_rfl) (by kernel_rfl) (fun _ _ _ h => h) (Or.inl ⟨by rfl, ?_⟩) (HX3.out _ F) ?_
  rotate_left
  · intro w hSw
    (try dsimp only at hSw)
    go_simp
    all_goals with_reducible rfl
  simp only [Act.put, List.setIfInBounds_toArray, List.set_cons_zero, List.set_cons_succ]
  refine wpAnyT_take (i := 3) (v := ?_) rfl (by kernel_rfl) (by kernel_rfl) (by kernel_rfl) (by kernel_rfl) (fun _ _ _ h => h) (Or.inl ⟨by rfl, ?_⟩) (HX3.out _ F) ?_
  rotate_left
  · intro w hSw
    (try dsimp only at hSw)
    go_simp
    all_goals with_reducible rfl
  simp only [Act.put, List.setIfInBounds_toArray, List.set_cons_zero, List.set_cons_succ]
  refine wpAnyT_take (i := 4) (v := ?_) rfl (by kernel_rfl) (by kernel_rfl) (by kernel_rfl) (by kernel_rfl) (fun _ _ _ h => h) (Or.inl ⟨by rfl, ?_⟩) (HX3.out _ F) ?_
  rotate_left
  · intro w hSw
    (try dsimp only at hSw)
    go_simp
    all_goals with_reducible rfl
  simp only [Act.put, List.setIfInBounds_toArray, List.set_cons_zero, List.set_cons_succ]
  refine wpAnyT_take (i := 5) (v := ?_) rfl (by kernel_rfl) (by kernel_rfl) (by kernel_rfl) (by kernel_rfl) (fun _ _ _ h => h) (Or.inl ⟨by rfl, ?_⟩) (HX3.out _ F) ?_
  rotate_left
  · intro w hSw
    (try dsimp only at hSw)
    go_simp
    all_goals with_reducible rfl
  simp only [Act.put, List.setIfInBounds_toArray, List.set_cons_zero, List.set_cons_succ]
  refine wpAnyT_take (i := 6) (v := ?_) rfl (by kernel_rfl) (by kernel_rfl) (by kernel_rfl) (by kernel_rfl) (fun _ _ _ h => h) (Or.inl ⟨by rfl, ?_⟩) (HX3.out _ F) ?_
  rotate_left
  · intro w hSw
    (try dsimp only at hSw)
    go_simp
    all_goals with_reducible rfl
  simp only [Act.put, List.setIfInBounds_toArray, List.set_cons_zero, List.set_cons_succ]
  refine wpAnyT_one (i := 7) (by kernel_rfl) rfl (fun K hK => ?_)
  go_simp
  refine (HIx.out _ F).mono ?_
  rintro e w5 ⟨rfl, hb5⟩
  have F5 : Hid (Below W4.heap.size W4 w5) := F.trans (hb5.mono F.size)
  clear hb5
  refine hK.out _ _ (fun _ => (HX3.out _ F5.out)) ?_
  clear hK K
  try simp only [Act.put, List.setIfInBounds_toArray, List.set_cons_zero, List.set_cons_succ]
  refine wpAnyT_one (i := 8) (by kernel_rfl) rfl (fun K hK => ?_)
  go_simp
  refine hK.out _ _ (fun h => absurd h (by decide)) ?_
  clear hK K
  try simp only [Act.put, List.setIfInBounds_toArray, List.set_cons_zero, List.set_cons_succ]
  refine wpAnyT_done (by kernel_rfl) ?_ _
  clear F
  obtain ⟨k, hk⟩ : ∃ k : Nat, k = i + 1 := ⟨_, rfl⟩
  have hkA : wrap64 ((i : Int) + 1) = (k : Int) := by
    have := HM.out
    rw [IntWalk.wrap64_in] <;> omega
  have hkB : IntKind.i64.wrap ((i : Int) + 1) = (k : Int) := by
    have := HM.out
    unfold IntKind.wrap
    simp [IntKind.signed, IntKind.bits]
    omega
  have HBw5 : Hid (Below W.heap.size W w5) := HB4.out.trans (F5.out.mono HB4.out.size)
  have HZ5 : Hid (W.heap.size ≤ w5.heap.size ∧ bk < w5.heap.size ∧ bx < w5.heap.size ∧ bk ≠ bx ∧ W.heap.size ≤ bk) := by
    have := HK4.out.2
    have := HX2.out.2
    have := HB4.out.size
    have := F5.out.size
    refine ⟨?_, ?_, ?_, ?_, ?_⟩ <;> omega
  have HP5 : Hid (RowB w5 p [.int .i64 most, .map (some bq), .map (some bw)]) := HP0.out.on HBw5.out (by have := HL.out; have := HZ.out; omega)
  have HN5 : Hid (RowB w5 bn [.int .u32 n.n, .int .u32 n.m, .int .u64 n.t, .int .u32 n.q]) := HN0.out.on HBw5.out HZ.out.2.1
  have HR5 : Hid (RowB w5 br wtZ.cells) := HR0.out.on HBw5.out HZ.out.2.2.1
  have HK5 : Hid (RowB w5 bk [.int .u32 x.node, .int .i64 x.rank]) := HK4.out.1.on F5.out HK4.out.2.1
  have HX5 : Hid (RowB w5 bx x.cells) := HX4.out.on F5.out (by have := HX2.out.2; have := HK4.out.2; omega)
  have HQ5 : Hid (KMap encQk w5 bq lq) := HQ0.out.kept (HBw5.out.block _ (by have := HL.out; have := HZ.out; omega))
  have HW5 : Hid (KMap encNm w5 bw lw) := HW0.out.kept (HBw5.out.block _ (by have := HL.out; have := HZ.out; omega))
  have HG5 : Hid (w5.ownsRow 0 28 4 (.slice (some ⟨g, 0, none⟩) (m + 1) cap) (m + 1) (flatNm (namesOf D x.qk))) := ownsRow_kept HG0.out fun j hj => HBw5.out.block j (by
    have : g = j := by simpa [Value.ownBlock] using hj
    have := HL.out
    have := HZ.out
    omega)
  have HBt5 : Hid (ButS w.heap.size S w w5) := ButS.of_below (HB0.out.trans (HBw5.out.mono HB0.out.size))
  clear HX1 HX3 HIx HX4 HK4 HP0 HN0 HR0 HQ0 HW0 HG0 HB3 HX2 HLook
  go_upto_region 4 with fail
  obtain ⟨Wd5, hWd5⟩ : ∃ wd, wd = w5.drew := ⟨_, rfl⟩
  have HWd5 := Lib.hid hWd5
  have hbd : Wd5.heap = w5.heap := by rw [hWd5]; rfl
  have HX5s : Hid (∀ X : World, X.heap[p]? = w5.heap[p]? → X.heap[bk]? = w5.heap[bk]? → X.heap[bq]? = w5.heap[bq]? → (X.cell? ⟨p, 1, none⟩ = some (.map (some bq)) ∧ (X.cell? ⟨bk, 0, none⟩ = some (.int .u32 x.node) ∧ X.cell? ⟨bk, 1, none⟩ = some (.int .i64 x.rank)) ∧ (Instr.lookup 59 (.map (some bq)) (.agg #[.int .u32 x.node, .int .i64 x.rank]) false).run Tryd.prog X = .ok (.slice (some ⟨g, 0, none⟩) (m + 1) cap) X)) := fun X g1 g2 g3 =>
    have r1 := HP5.out.kept g1
    have r3 := HK5.out.kept g2
    ⟨r1.1 1 _ rfl, ⟨r3.1 0 _ rfl, r3.1 1 _ rfl⟩, HLoq.out X _ _ (HQ5.out.kept g3) HV.out⟩
  have HSd : Hid ((Wd5.cell? ⟨p, 1, none⟩ = some (.map (some bq)) ∧ (Wd5.cell? ⟨bk, 0, none⟩ = some (.int .u32 x.node) ∧ Wd5.cell? ⟨bk, 1, none⟩ = some (.int .i64 x.rank)) ∧ (Instr.lookup 59 (.map (some bq)) (.agg #[.int .u32 x.node, .int .i64 x.rank]) false).run Tryd.prog Wd5 = .ok (.slice (some ⟨g, 0, none⟩) (m + 1) cap) Wd5)) := HX5s.out Wd5 (by rw [hbd]) (by rw [hbd]) (by rw [hbd])
  have HDel : Hid (Calls Tryd.prog 58 #[.slice (some ⟨g, 0, none⟩) (m + 1) cap, .int .i64 (i : Nat), .int .i64 (k : Int)] Wd5 fun e w' => e = .returned (.slice (some ⟨g, 0, none⟩) m cap) ∧ w'.ownsRow 0 28 4 (.slice (some ⟨g, 0, none⟩) m cap) m (flatNm ((namesOf D x.qk).eraseIdx i)) ∧ Wd5.grownBy w' (some g)) := by
    rw [Hid, hk]
    exact nmDelete_any g cap m i (namesOf D x.qk) Wd5 HI.out.2.2 HM.out.1 (by have := HM.out; omega) (ownsRow_kept HG5.out fun j _ => by rw [hbd])
  have HHd : Hid (Wd5.heap = w5.heap) := hbd
  clear hWd5 hbd hk
  refine wp_region_T (fun X => (X.cell? ⟨p, 1, none⟩ = some (.map (some bq)) ∧ (X.cell? ⟨bk, 0, none⟩ = some (.int .u32 x.node) ∧ X.cell? ⟨bk, 1, none⟩ = some (.int .i64 x.rank)) ∧ (Instr.lookup 59 (.map (some bq)) (.agg #[.int .u32 x.node, .int .i64 x.rank]) false).run Tryd.prog X = .ok (.slice (some ⟨g, 0, none⟩) (m + 1) cap) X)) 15 (by kernel_rfl) ?_
  rw [← HWd5.out]
  refine wpAnyT_take (i := 0) (v := ?_) rfl (by kernel_rfl) (by kernel_rfl) (by kernel_rfl) (by kernel_rfl) (fun _ _ _ h => h) (Or.inl ⟨by rfl, ?_⟩) HSd.out ?_
  rotate_left
  · intro w hSw
    (try dsimp only at hSw)
    go_simp
    all_goals with_reducible rfl
  simp only [Act.put, List.setIfInBounds_toArray, List.set_cons_zero, List.set_cons_succ]
  refine wpAnyT_take (i := 1) (v := ?_) rfl (by kernel_rfl) (by kernel_rfl) (by kernel_rfl) (by kernel_rfl) (fun _ _ _ h => h) (Or.inl ⟨by rfl, ?_⟩) HSd.out ?_
  rotate_left
  · intro w hSw
    (try dsimp only at hSw)
    go_simp
    all_goals with_reducible rfl
  simp only [Act.put, List.setIfInBounds_toArray, List.set_cons_zero, List.set_cons_succ]
  refine wpAnyT_take (i := 2) (v := ?_) rfl (by kernel_rfl) (by kernel_rfl) (by kernel_rfl) (by kernel_rfl) (fun _ _ _ h => h) (Or.inl ⟨by rfl, ?_⟩) HSd.out ?_
  rotate_left
  · intro w hSw
    (try dsimp only at hSw)
    go_simp
    all_goals with_reducible rfl
  simp only [Act.put, List.setIfInBounds_toArray, List.set_cons_zero, List.set_cons_succ]
  refine wpAnyT_take (i := 3) (v := ?_) rfl (by kernel_rfl) (by kernel_rfl) (by kernel_rfl) (by kernel_rfl) (fun _ _ _ h => h) (Or.inl ⟨by rfl, ?_⟩) HSd.out ?_
  rotate_left
  · intro w hSw
    (try dsimp only at hSw)
    go_simp
    all_goals with_reducible rfl
  simp only [Act.put, List.setIfInBounds_toArray, List.set_cons_zero, List.set_cons_succ]
  refine wpAnyT_take (i := 4) (v := ?_) rfl (by kernel_rfl) (by kernel_rfl) (by kernel_rfl) (by kernel_rfl) (fun _ _ _ h => h) (Or.inl ⟨by rfl, ?_⟩) HSd.out ?_
  rotate_left
  · intro w hSw
    (try dsimp only at hSw)
    go_simp
    all_goals with_reducible rfl
  simp only [Act.put, List.setIfInBounds_toArray, List.set_cons_zero, List.set_cons_succ]
  refine wpAnyT_take (i := 5) (v := ?_) rfl (by kernel_rfl) (by kernel_rfl) (by kernel_rfl) (by kernel_rfl) (fun _ _ _ h => h) (Or.inl ⟨by rfl, ?_⟩) HSd.out ?_
  rotate_left
  · intro w hSw
    (try dsimp only at hSw)
    go_simp
    all_goals with_reducible rfl
  simp only [Act.put, List.setIfInBounds_toArray, List.set_cons_zero, List.set_cons_succ]
  refine wpAnyT_take (i := 6) (v := ?_) rfl (by kernel_rfl) (by kernel_rfl) (by kernel_rfl) (by kernel_rfl) (fun _ _ _ h => h) (Or.inl ⟨by rfl, ?_⟩) HSd.out ?_
  rotate_left
  · intro w hSw
    (try dsimp only at hSw)
    go_simp
    all_goals with_reducible rfl
  simp only [Act.put, List.setIfInBounds_toArray, List.set_cons_zero, List.set_cons_succ]
  refine wpAnyT_take (i := 7) (v := ?_) rfl (by kernel_rfl) (by kernel_rfl) (by kernel_rfl) (by kernel_rfl) (fun _ _ _ h => h) (Or.inl ⟨by rfl, ?_⟩) HSd.out ?_
  rotate_left
  · intro w hSw
    (try dsimp only at hSw)
    go_simp
    all_goals with_reducible rfl
  simp only [Act.put, List.setIfInBounds_toArray, List.set_cons_zero, List.set_cons_succ]
  refine wpAnyT_take (i := 8) (v := ?_) rfl (by kernel_rfl) (by kernel_rfl) (by kernel_rfl) (by kernel_rfl) (fun _ _ _ h => h) (Or.inl ⟨by rfl, ?_⟩) HSd.out ?_
  rotate_left
  · intro w hSw
    (try dsimp only at hSw)
    go_simp
    all_goals with_reducible rfl
  simp only [Act.put, List.setIfInBounds_toArray, List.set_cons_zero, List.set_cons_succ]
  refine wpAnyT_take (i := 9) (v := ?_) rfl (by kernel_rfl) (by kernel_rfl) (by kernel_rfl) (by kernel_rfl) (fun _ _ _ h => h) (Or.inl ⟨by rfl, ?_⟩) HSd.out ?_
  rotate_left
  · intro w hSw
    (try dsimp only at hSw)
    go_simp
    all_goals with_reducible rfl
  simp only [Act.put, List.setIfInBounds_toArray, List.set_cons_zero, List.set_cons_succ]
  refine wpAnyT_take (i := 10) (v := ?_) rfl (by kernel_rfl) (by kernel_rfl) (by kernel_rfl) (by kernel_rfl) (fun _ _ _ h => h) (Or.inl ⟨by rfl, ?_⟩) HSd.out ?_
  rotate_left
  · intro w hSw
    (try dsimp only at hSw)
    go_simp
    all_goals with_reducible rfl
  simp only [Act.put, List.setIfInBounds_toArray, List.set_cons_zero, List.set_cons_succ]
  refine wpAnyT_take (i := 11) (v := ?_) rfl (by kernel_rfl) (by kernel_rfl) (by kernel_rfl) (by kernel_rfl) (fun _ _ _ h => h) (Or.inl ⟨by rfl, ?_⟩) HSd.out ?_
  rotate_left
  · intro w hSw
    (try dsimp only at hSw)
    go_simp
    all_goals with_reducible rfl
  simp only [Act.put, List.setIfInBounds_toArray, List.set_cons_zero, List.set_cons_succ]
  refine wpAnyT_take (i := 12) (v := ?_) rfl (by kernel_rfl) (by kernel_rfl) (by kernel_rfl) (by kernel_rfl) (fun _ _ _ h => h) (Or.inl ⟨by rfl, ?_⟩) HSd.out ?_
  rotate_left
  · intro w hSw
    (try dsimp only at hSw)
    go_simp
    all_goals with_reducible rfl
  simp only [Act.put, List.setIfInBounds_toArray, List.set_cons_zero, List.set_cons_succ]
  refine wpAnyT_take (i := 13) (v := ?_) rfl (by kernel_rfl) (by kernel_rfl) (by kernel_rfl) (by kernel_rfl) (fun _ _ _ h => h) (Or.inl ⟨by rfl, ?_⟩) HSd.out ?_
  rotate_left
  · intro w hSw
    (try dsimp only at hSw)
    go_simp
    all_goals with_reducible rfl
  simp only [Act.put, List.setIfInBounds_toArray, List.set_cons_zero, List.set_cons_succ]
  refine wpAnyT_one (i := 14) (by kernel_rfl) rfl (fun K hK => ?_)
  go_simp
  refine HDel.out.mono ?_
  rintro e W6 ⟨rfl, ho6, hg6⟩
  have HG6 := Lib.hid (And.intro ho6 hg6)
  have HS6 : Hid ((W6.cell? ⟨p, 1, none⟩ = some (.map (some bq)) ∧ (W6.cell? ⟨bk, 0, none⟩ = some (.int .u32 x.node) ∧ W6.cell? ⟨bk, 1, none⟩ = some (.int .i64 x.rank)) ∧ (Instr.lookup 59 (.map (some bq)) (.agg #[.int .u32 x.node, .int .i64 x.rank]) false).run Tryd.prog W6 = .ok (.slice (some ⟨g, 0, none⟩) (m + 1) cap) W6)) := by
    obtain ⟨l1, l2, l3, l4⟩ := HL.out
    obtain ⟨e1, e2, e3, e4, e5, e6⟩ := HEq.out
    obtain ⟨y1, y2, y3, _⟩ := HZ.out
    obtain ⟨y5, y6, y7, y8, y9⟩ := HZ5.out
    refine HX5s.out W6 ?_ ?_ ?_
    · rw [hg6.block p (by rw [HHd.out]; omega) (fun e => e4 (Option.some.inj e).symm), HHd.out]
    · rw [hg6.block bk (by rw [HHd.out]; omega) (fun e => by have := Option.some.inj e; omega), HHd.out]
    · rw [hg6.block bq (by rw [HHd.out]; omega) (fun e => e5 (Option.some.inj e).symm), HHd.out]
  have hq6 : KMap encQk W6 bq lq := HQ5.out.kept (by
    obtain ⟨l1, l2, l3, l4⟩ := HL.out
    obtain ⟨e1, e2, e3, e4, e5, e6⟩ := HEq.out
    obtain ⟨y1, y2, y3, _⟩ := HZ.out
    obtain ⟨y5, y6, y7, y8, y9⟩ := HZ5.out
    rw [hg6.block bq (by rw [HHd.out]; omega) (fun e => e5 (Option.some.inj e).symm), HHd.out])
  obtain ⟨o7, hup, hm7⟩ := hq6.update keyQk Tryd.underlying59 x.qk (.slice (some ⟨g, 0, none⟩) m cap)
  have hup : (Instr.mapUpdate 59 (.map (some bq)) (.agg #[.int .u32 x.node, .int .i64 x.rank]) (.slice (some ⟨g, 0, none⟩) m cap)).run Tryd.prog W6 = .ok () (setBlock W6 bq o7) := hup
  have HM7 := Lib.hid hm7
  clear ho6 hg6 hq6 hm7
  refine hK.out _ _ (fun _ => HS6.out) ?_
  clear hK K
  try simp only [Act.put, List.setIfInBounds_toArray, List.set_cons_zero, List.set_cons_succ]
  refine wpAnyT_one (i := 15) (by kernel_rfl) rfl (fun K hK => ?_)
  go_simp
  refine hK.out _ _ (fun h => absurd h (by decide)) ?_
  clear hK K
  try simp only [Act.put, List.setIfInBounds_toArray, List.set_cons_zero, List.set_cons_succ]
  refine wpAnyT_done (by kernel_rfl) ?_ _
  obtain ⟨W7, hW7⟩ : ∃ W, W = setBlock W6 bq o7 := ⟨_, rfl⟩
  rw [← hW7]
  have hz67 : W7.heap.size = W6.heap.size := by rw [hW7]; exact setBlock_size _ _ _
  have HZ7 : Hid (w5.heap.size ≤ W7.heap.size) := by
    have := HG6.out.2.size
    rw [HHd.out] at this
    rw [Hid, hz67]
    exact this
  have HK7 : Hid (∀ j, j < w5.heap.size → j ≠ g → j ≠ bq → W7.heap[j]? = w5.heap[j]?) := fun j hj hg hb => by
    rw [hW7, setBlock_block _ _ _ _ hb, HG6.out.2.block j (by rw [HHd.out]; exact hj) (fun e => hg (Option.some.inj e)), HHd.out]
  have HQ7 : Hid (KMap encQk W7 bq (up lq x.qk (.slice (some ⟨g, 0, none⟩) m cap))) := by rw [Hid, hW7]; exact HM7.out
  have HO7 : Hid (W7.ownsRow 0 28 4 (.slice (some ⟨g, 0, none⟩) m cap) m (flatNm ((namesOf D x.qk).eraseIdx i))) := ownsRow_kept HG6.out.1 fun j hj => by
    have : g = j := by simpa [Value.ownBlock] using hj
    rw [hW7]
    exact setBlock_block _ _ _ _ (by rw [← this]; exact HEq.out.2.2.2.2.1)
  have HBt7 : Hid (ButS w.heap.size S w W7) := by
    rw [Hid, hW7]
    refine ButS.setBlock (ButS.grown ?_ (by rw [HHd.out]; exact HBt5.out.size) HG6.out.2 fun r hr => .inl (by cases hr; exact HSs.out.2.2.2)) (.inl HSs.out.2.1) o7
    rw [HWd5.out]
    exact HBt5.out.drew
  clear hW7 hz67 hup
  go_upto_region 5 with fail
  obtain ⟨Wd7, hWd7⟩ : ∃ wd, wd = W7.drew := ⟨_, rfl⟩
  have HWd7 := Lib.hid hWd7
  have HS7 : Hid ((Wd7.cell? ⟨p, 1, none⟩ = some (.map (some bq)) ∧ (Wd7.cell? ⟨bk, 0, none⟩ = some (.int .u32 x.node) ∧ Wd7.cell? ⟨bk, 1, none⟩ = some (.int .i64 x.rank)) ∧ (Instr.lookup 59 (.map (some bq)) (.agg #[.int .u32 x.node, .int .i64 x.rank]) false).run Tryd.prog Wd7 = .ok (.slice (some ⟨g, 0, none⟩) m cap) Wd7)) := by
    obtain ⟨l1, l2, l3, l4⟩ := HL.out
    obtain ⟨e1, e2, e3, e4, e5, e6⟩ := HEq.out
    obtain ⟨y1, y2, y3, _⟩ := HZ.out
    obtain ⟨y5, y6, y7, y8, y9⟩ := HZ5.out
    have r1 := HP5.out.kept (HK7.out p (by omega) (Ne.symm e4) e2)
    have r3 := HK5.out.kept (HK7.out bk y6 (by omega) (by omega))
    rw [hWd7]
    refine ⟨r1.1 1 _ rfl, ⟨r3.1 0 _ rfl, r3.1 1 _ rfl⟩, HLoq.out _ _ _ (HQ7.out.kept rfl) ?_⟩
    rw [lk_up, if_pos rfl]
  clear hWd7
  by_cases hm0 : m = 0
  · have hmB : ((m : Int) == 0) = true := by simp [hm0]
    have HM0 := Lib.hid hm0
    clear hm0
    refine wp_region_T (fun X => (X.cell? ⟨p, 1, none⟩ = some (.map (some bq)) ∧ (X.cell? ⟨bk, 0, none⟩ = some (.int .u32 x.node) ∧ X.cell? ⟨bk, 1, none⟩ = some (.int .i64 x.rank)) ∧ (Instr.lookup 59 (.map (some bq)) (.agg #[.int .u32 x.node, .int .i64 x.rank]) false).run Tryd.prog X = .ok (.slice (some ⟨g, 0, none⟩) m cap) X)) 8 (by kernel_rfl) ?_
    rw [← HWd7.out]
    refine wpAnyT_take (i := 0) (v := ?_) rfl (by kernel_rfl) (by kernel_rfl) (by kernel_rfl) (by kernel_rfl) (fun _ _ _ h => h) (Or.inl ⟨by rfl, ?_⟩) HS7.out ?_
    rotate_left
    · intro w hSw
      (try dsimp only at hSw)
      go_simp
      all_goals with_reducible rfl
    simp only [Act.put, List.setIfInBounds_toArray, List.set_cons_zero, List.set_cons_succ]
    refine wpAnyT_take (i := 1) (v := ?_) rfl (by kernel_rfl) (by kernel_rfl) (by kernel_rfl) (by kernel_rfl) (fun _ _ _ h => h) (Or.inl ⟨by rfl, ?_⟩) HS7.out ?_
    rotate_left
    · intro w hSw
      (try dsimp only at hSw)
      go_simp
      all_goals with_reducible rfl
    simp only [Act.put, List.setIfInBounds_toArray, List.set_cons_zero, List.set_cons_succ]
    refine wpAnyT_take (i := 2) (v := ?_) rfl (by kernel_rfl) (by kernel_rfl) (by kernel_rfl) (by kernel_rfl) (fun _ _ _ h => h) (Or.inl ⟨by rfl, ?_⟩) HS7.out ?_
    rotate_left
    · intro w hSw
      (try dsimp only at hSw)
      go_simp
      all_goals with_reducible rfl
    simp only [Act.put, List.setIfInBounds_toArray, List.set_cons_zero, List.set_cons_succ]
    refine wpAnyT_take (i := 3) (v := ?_) rfl (by kernel_rfl) (by kernel_rfl) (by kernel_rfl) (by kernel_rfl) (fun _ _ _ h => h) (Or.inl ⟨by rfl, ?_⟩) HS7.out ?_
    rotate_left
    · intro w hSw
      (try dsimp only at hSw)
      go_simp
      all_goals with_reducible rfl
    simp only [Act.put, List.setIfInBounds_toArray, List.set_cons_zero, List.set_cons_succ]
    refine wpAnyT_take (i := 4) (v := ?_) rfl (by kernel_rfl) (by kernel_rfl) (by kernel_rfl) (by kernel_rfl) (fun _ _ _ h => h) (Or.inl ⟨by rfl, ?_⟩) HS7.out ?_
    rotate_left
    · intro w hSw
      (try dsimp only at hSw)
      go_simp
      all_goals with_reducible rfl
    simp only [Act.put, List.setIfInBounds_toArray, List.set_cons_zero, List.set_cons_succ]
    refine wpAnyT_take (i := 5) (v := ?_) rfl (by kernel_rfl) (by kernel_rfl) (by kernel_rfl) (by kernel_rfl) (fun _ _ _ h => h) (Or.inl ⟨by rfl, ?_⟩) HS7.out ?_
    rotate_left
    · intro w hSw
      (try dsimp only at hSw)
      go_simp
      all_goals with_reducible rfl
    simp only [Act.put, List.setIfInBounds_toArray, List.set_cons_zero, List.set_cons_succ]
    refine wpAnyT_take (i := 6) (v := ?_) rfl (by kernel_rfl) (by kernel_rfl) (by kernel_rfl) (by kernel_rfl) (fun _ _ _ h => h) (Or.inl ⟨by rfl, ?_⟩) HS7.out ?_
    rotate_left
    · intro w hSw
      (try dsimp only at hSw)
      go_simp
      all_goals with_reducible rfl
    simp only [Act.put, List.setIfInBounds_toArray, List.set_cons_zero, List.set_cons_succ]
    refine wpAnyT_take (i := 7) (v := ?_) rfl (by kernel_rfl) (by kernel_rfl) (by kernel_rfl) (by kernel_rfl) (fun _ _ _ h => h) (Or.inl ⟨by rfl, ?_⟩) HS7.out ?_
    rotate_left
    · intro w hSw
      (try dsimp only at hSw)
      go_simp
      all_goals with_reducible rfl
    simp only [Act.put, List.setIfInBounds_toArray, List.set_cons_zero, List.set_cons_succ]
    refine wpAnyT_done (by kernel_rfl) ?_ _
    go_upto_region 6 with fail
    obtain ⟨We, hWe⟩ : ∃ wd, wd = Wd7.drew := ⟨_, rfl⟩
    have HWe := Lib.hid hWe
    have hhe : We.heap = W7.heap := by rw [hWe, HWd7.out]; rfl
    have HS6e : Hid ((We.cell? ⟨p, 1, none⟩ = some (.map (some bq)) ∧ We.cell? ⟨bk, 0, none⟩ = some (.int .u32 x.node) ∧ We.cell? ⟨bk, 1, none⟩ = some (.int .i64 x.rank))) := by
      obtain ⟨l1, l2, l3, l4⟩ := HL.out
      obtain ⟨e1, e2, e3, e4, e5, e6⟩ := HEq.out
      obtain ⟨y1, y2, y3, _⟩ := HZ.out
      obtain ⟨y5, y6, y7, y8, y9⟩ := HZ5.out
      have r1 := HP5.out.kept (w' := We) (by rw [hhe]; exact HK7.out p (by omega) (Ne.symm e4) e2)
      have r3 := HK5.out.kept (w' := We) (by rw [hhe]; exact HK7.out bk y6 (by omega) (by omega))
      exact ⟨r1.1 1 _ rfl, r3.1 0 _ rfl, r3.1 1 _ rfl⟩
    have hqe : KMap encQk We bq (up lq x.qk (.slice (some ⟨g, 0, none⟩) m cap)) := HQ7.out.kept (by rw [hhe])
    obtain ⟨o8, hdel, hq8⟩ := hqe.delete keyQk Tryd.underlying59 x.qk 68 0
    have hdel : (Builtin.delete_ #[59, 68] 0 #[.map (some bq), .agg #[.int .u32 x.node, .int .i64 x.rank]]).run Tryd.prog We = .ok (.tuple #[]) (setBlock We bq o8) := hdel
    obtain ⟨W8, hW8⟩ : ∃ W, W = setBlock We bq o8 := ⟨_, rfl⟩
    rw [← hW8] at hdel hq8
    have HQ8 : Hid (KMap encQk W8 bq (dl (up lq x.qk (.slice (some ⟨g, 0, none⟩) m cap)) x.qk)) := hq8
    have HLk : Hid (∀ q, lk (dl (up lq x.qk (.slice (some ⟨g, 0, none⟩) m cap)) x.qk) q = if q = x.qk then (if m = 0 then none else some (.slice (some ⟨g, 0, none⟩) m cap)) else lk lq q) := fun q => by
      rw [lk_dl, lk_up, if_pos HM0.out]
      split <;> rfl
    have HK8 : Hid (∀ j, j < w5.heap.size → j ≠ g → j ≠ bq → W8.heap[j]? = w5.heap[j]?) := fun j hj hg hb => by
      rw [hW8, setBlock_block _ _ _ _ hb, hhe]
      exact HK7.out j hj hg hb
    have HZ8 : Hid (w5.heap.size ≤ W8.heap.size) := by
      rw [Hid, hW8, setBlock_size, hhe]
      exact HZ7.out
    have HO8 : Hid (W8.ownsRow 0 28 4 (.slice (some ⟨g, 0, none⟩) m cap) m (flatNm ((namesOf D x.qk).eraseIdx i))) := ownsRow_kept HO7.out fun j hj => by
      have : g = j := by simpa [Value.ownBlock] using hj
      rw [hW8, setBlock_block _ _ _ _ (by rw [← this]; exact HEq.out.2.2.2.2.1), hhe]
    have HBt8 : Hid (ButS w.heap.size S w W8) := by
      rw [Hid, hW8]
      refine ButS.setBlock ?_ (.inl HSs.out.2.1) o8
      rw [hWe, HWd7.out]
      exact HBt7.out.drew.drew
    have HS8e : Hid ((W8.cell? ⟨p, 1, none⟩ = some (.map (some bq)) ∧ W8.cell? ⟨bk, 0, none⟩ = some (.int .u32 x.node) ∧ W8.cell? ⟨bk, 1, none⟩ = some (.int .i64 x.rank))) := by
      obtain ⟨l1, l2, l3, l4⟩ := HL.out
      obtain ⟨e1, e2, e3, e4, e5, e6⟩ := HEq.out
      obtain ⟨y1, y2, y3, _⟩ := HZ.out
      obtain ⟨y5, y6, y7, y8, y9⟩ := HZ5.out
      have r1 := HP5.out.kept (HK8.out p (by omega) (Ne.symm e4) e2)
      have r3 := HK5.out.kept (HK8.out bk y6 (by omega) (by omega))
      exact ⟨r1.1 1 _ rfl, r3.1 0 _ rfl, r3.1 1 _ rfl⟩
    generalize dl (up lq x.qk (.slice (some ⟨g, 0, none⟩) m cap)) x.qk = lq8 at HQ8 HLk
    clear hWe hhe hqe hq8 hW8
    refine wp_region_T (fun X => (X.cell? ⟨p, 1, none⟩ = some (.map (some bq)) ∧ X.cell? ⟨bk, 0, none⟩ = some (.int .u32 x.node) ∧ X.cell? ⟨bk, 1, none⟩ = some (.int .i64 x.rank))) 6 (by kernel_rfl) ?_
    rw [← HWe.out]
    refine wpAnyT_take (i := 0) (v := ?_) rfl (by kernel_rfl) (by kernel_rfl) (by kernel_rfl) (by kernel_rfl) (fun _ _ _ h => h) (Or.inl ⟨by rfl, ?_⟩) HS6e.out ?_
    rotate_left
    · intro w hSw
      (try dsimp only at hSw)
      go_simp
      all_goals with_reducible rfl
    simp only [Act.put, List.setIfInBounds_toArray, List.set_cons_zero, List.set_cons_succ]
    refine wpAnyT_take (i := 1) (v := ?_) rfl (by kernel_rfl) (by kernel_rfl) (by kernel_rfl) (by kernel_rfl) (fun _ _ _ h => h) (Or.inl ⟨by rfl, ?_⟩) HS6e.out ?_
    rotate_left
    · intro w hSw
      (try dsimp only at hSw)
      go_simp
      all_goals with_reducible rfl
    simp only [Act.put, List.setIfInBounds_toArray, List.set_cons_zero, List.set_cons_succ]
    refine wpAnyT_take (i := 2) (v := ?_) rfl (by kernel_rfl) (by kernel_rfl) (by kernel_rfl) (by kernel_rfl) (fun _ _ _ h => h) (Or.inl ⟨by rfl, ?_⟩) HS6e.out ?_
    rotate_left
    · intro w hSw
      (try dsimp only at hSw)
      go_simp
      all_goals with_reducible rfl
    simp only [Act.put, List.setIfInBounds_toArray, List.set_cons_zero, List.set_cons_succ]
    refine wpAnyT_take (i := 3) (v := ?_) rfl (by kernel_rfl) (by kernel_rfl) (by kernel_rfl) (by kernel_rfl) (fun _ _ _ h => h) (Or.inl ⟨by rfl, ?_⟩) HS6e.out ?_
    rotate_left
    · intro w hSw
      (try dsimp only at hSw)
      go_simp
      all_goals with_reducible rfl
    simp only [Act.put, List.setIfInBounds_toArray, List.set_cons_zero, List.set_cons_succ]
    refine wpAnyT_take (i := 4) (v := ?_) rfl (by kernel_rfl) (by kernel_rfl) (by kernel_rfl) (by kernel_rfl) (fun _ _ _ h => h) (Or.inl ⟨by rfl, ?_⟩) HS6e.out ?_
    rotate_left
    · intro w hSw
      (try dsimp only at hSw)
      go_simp
      all_goals with_reducible rfl
    simp only [Act.put, List.setIfInBounds_toArray, List.set_cons_zero, List.set_cons_succ]
    refine wpAnyT_one (i := 5) (by kernel_rfl) rfl (fun K hK => ?_)
    refine step_del rfl (.tmp 50) (.tmp 51) 59 68 rfl _ _ _ W8 (by rfl) (by rfl) hdel ?_
    refine hK.out _ _ (fun _ => HS8e.out) ?_
    clear hK K
    try simp only [Act.put, List.setIfInBounds_toArray, List.set_cons_zero, List.set_cons_succ]
    refine wpAnyT_done (by kernel_rfl) ?_ _
    go_upto_region 7 with fail
    obtain ⟨Wf, hWf⟩ : ∃ wd, wd = W8.drew := ⟨_, rfl⟩
    have HWf := Lib.hid hWf
    have hhf : Wf.heap = W8.heap := by rw [hWf]; rfl
    have HFk : Hid (∀ j, j < w5.heap.size → j ≠ g → j ≠ bq → Wf.heap[j]? = w5.heap[j]?) := fun j hj hg hb => by
      rw [hhf]
      exact HK8.out j hj hg hb
    have HS7f : Hid ((Wf.cell? ⟨p, 2, none⟩ = some (.map (some bw)) ∧ Wf.cell? ⟨bn, 0, none⟩ = some (.int .u32 n.n) ∧ Wf.cell? ⟨bn, 1, none⟩ = some (.int .u32 n.m) ∧ Wf.cell? ⟨bn, 2, none⟩ = some (.int .u64 n.t) ∧ Wf.cell? ⟨bn, 3, none⟩ = some (.int .u32 n.q))) := by
      obtain ⟨l1, l2, l3, l4⟩ := HL.out
      obtain ⟨e1, e2, e3, e4, e5, e6⟩ := HEq.out
      obtain ⟨y1, y2, y3, y4, _⟩ := HZ.out
      obtain ⟨y5, y6, y7, y8, y9⟩ := HZ5.out
      have r1 := HP5.out.kept (HFk.out p (by omega) (Ne.symm e4) e2)
      have r3 := HN5.out.kept (HFk.out bn (by omega) (by omega) (by omega))
      exact ⟨r1.1 2 _ rfl, r3.1 0 _ rfl, r3.1 1 _ rfl, r3.1 2 _ rfl, r3.1 3 _ rfl⟩
    have hwe : KMap encNm Wf bw lw := HW5.out.kept (HFk.out bw (by have := HL.out; have := HZ.out; have := HZ5.out; omega) (Ne.symm HEq.out.2.2.2.2.2) (Ne.symm HEq.out.1))
    obtain ⟨o9, hdel9, hm9⟩ := hwe.delete keyNm Tryd.underlying60 n 28 0
    have hdel9 : (Builtin.delete_ #[60, 28] 0 #[.map (some bw), .agg #[.int .u32 n.n, .int .u32 n.m, .int .u64 n.t, .int .u32 n.q]]).run Tryd.prog Wf = .ok (.tuple #[]) (setBlock Wf bw o9) := hdel9
    obtain ⟨W9, hW9⟩ : ∃ W, W = setBlock Wf bw o9 := ⟨_, rfl⟩
    rw [← hW9] at hdel9 hm9
    have HM9 : Hid (KMap encNm W9 bw (dl lw n)) := hm9
    have HK9 : Hid (∀ j, j ≠ bw → W9.heap[j]? = W8.heap[j]?) := fun j hb => by rw [hW9, setBlock_block _ _ _ _ hb, hhf]
    have HZ9 : Hid (W9.heap.size = W8.heap.size) := by rw [Hid, hW9, setBlock_size, hhf]
    have HBt9 : Hid (ButS w.heap.size S w W9) := by
      rw [Hid, hW9]
      refine ButS.setBlock ?_ (.inl HSs.out.2.2.1) o9
      rw [hWf]
      exact HBt8.out.drew
    have HS9f : Hid ((W9.cell? ⟨p, 2, none⟩ = some (.map (some bw)) ∧ W9.cell? ⟨bn, 0, none⟩ = some (.int .u32 n.n) ∧ W9.cell? ⟨bn, 1, none⟩ = some (.int .u32 n.m) ∧ W9.cell? ⟨bn, 2, none⟩ = some (.int .u64 n.t) ∧ W9.cell? ⟨bn, 3, none⟩ = some (.int .u32 n.q))) := by
      obtain ⟨l1, l2, l3, l4⟩ := HL.out
      obtain ⟨e1, e2, e3, e4, e5, e6⟩ := HEq.out
      obtain ⟨y1, y2, y3, y4, _⟩ := HZ.out
      obtain ⟨y5, y6, y7, y8, y9⟩ := HZ5.out
      have r1 := HP5.out.kept ((HK9.out p e3).trans (HK8.out p (by omega) (Ne.symm e4) e2))
      have r3 := HN5.out.kept ((HK9.out bn (by omega)).trans (HK8.out bn (by omega) (by omega) (by omega)))
      exact ⟨r1.1 2 _ rfl, r3.1 0 _ rfl, r3.1 1 _ rfl, r3.1 2 _ rfl, r3.1 3 _ rfl⟩
    clear hWf hhf hwe hm9 hW9
    refine wp_region_T (fun X => (X.cell? ⟨p, 2, none⟩ = some (.map (some bw)) ∧ X.cell? ⟨bn, 0, none⟩ = some (.int .u32 n.n) ∧ X.cell? ⟨bn, 1, none⟩ = some (.int .u32 n.m) ∧ X.cell? ⟨bn, 2, none⟩ = some (.int .u64 n.t) ∧ X.cell? ⟨bn, 3, none⟩ = some (.int .u32 n.q))) 6 (by kernel_rfl) ?_
    rw [← HWf.out]
    refine wpAnyT_take (i := 0) (v := ?_) rfl (by kernel_rfl) (by kernel_rfl) (by kernel_rfl) (by kernel_rfl) (fun _ _ _ h => h) (Or.inl ⟨by rfl, ?_⟩) HS7f.out ?_
    rotate_left
    · intro w hSw
      (try dsimp only at hSw)
      go_simp
      all_goals with_reducible rfl
    simp only [Act.put, List.setIfInBounds_toArray, List.set_cons_zero, List.set_cons_succ]
    refine wpAnyT_take (i := 1) (v := ?_) rfl (by kernel_rfl) (by kernel_rfl) (by kernel_rfl) (by kernel_rfl) (fun _ _ _ h => h) (Or.inl ⟨by rfl, ?_⟩) HS7f.out ?_
    rotate_left
    · intro w hSw
      (try dsimp only at hSw)
      go_simp
      all_goals with_reducible rfl
    simp only [Act.put, List.setIfInBounds_toArray, List.set_cons_zero, List.set_cons_succ]
    refine wpAnyT_take (i := 2) (v := ?_) rfl (by kernel_rfl) (by kernel_rfl) (by kernel_rfl) (by kernel_rfl) (fun _ _ _ h => h) (Or.inl ⟨by rfl, ?_⟩) HS7f.out ?_
    rotate_left
    · intro w hSw
      (try dsimp only at hSw)
      go_simp
      all_goals with_reducible rfl
    simp only [Act.put, List.setIfInBounds_toArray, List.set_cons_zero, List.set_cons_succ]
    refine wpAnyT_take (i := 3) (v := ?_) rfl (by kernel_rfl) (by kernel_rfl) (by kernel_rfl) (by kernel_rfl) (fun _ _ _ h => h) (Or.inl ⟨by rfl, ?_⟩) HS7f.out ?_
    rotate_left
    · intro w hSw
      (try dsimp only at hSw)
      go_simp
      all_goals with_reducible rfl
    simp only [Act.put, List.setIfInBounds_toArray, List.set_cons_zero, List.set_cons_succ]
    refine wpAnyT_take (i := 4) (v := ?_) rfl (by kernel_rfl) (by kernel_rfl) (by kernel_rfl) (by kernel_rfl) (fun _ _ _ h => h) (Or.inl ⟨by rfl, ?_⟩) HS7f.out ?_
    rotate_left
    · intro w hSw
      (try dsimp only at hSw)
      go_simp
      all_goals with_reducible rfl
    simp only [Act.put, List.setIfInBounds_toArray, List.set_cons_zero, List.set_cons_succ]
    refine wpAnyT_one (i := 5) (by kernel_rfl) rfl (fun K hK => ?_)
    refine step_del rfl (.tmp 55) (.tmp 56) 60 28 rfl _ _ _ W9 (by rfl) (by rfl) hdel9 ?_
    refine hK.out _ _ (fun _ => HS9f.out) ?_
    clear hK K
    try simp only [Act.put, List.setIfInBounds_toArray, List.set_cons_zero, List.set_cons_succ]
    refine wpAnyT_done (by kernel_rfl) ?_ _
    have HR9 : Hid (RowB W9 br wtZ.cells ∧ RowB W9 bx x.cells) := by
      obtain ⟨l1, l2, l3, l4⟩ := HL.out
      obtain ⟨y1, y2, y3, y4, y5, y6⟩ := HZ.out
      obtain ⟨u5, u6, u7, u8, u9⟩ := HZ5.out
      exact ⟨HR5.out.kept ((HK9.out br (by omega)).trans (HK8.out br (by omega) (by omega) (by omega))), HX5.out.kept ((HK9.out bx (by omega)).trans (HK8.out bx (by omega) (by omega) (by omega)))⟩
    have r2 := HR9.out.2
    have z0 := r2.1 0 _ rfl
    have z1 := r2.1 1 _ rfl
    have z2 := r2.1 2 _ rfl
    have z3 := r2.1 3 _ rfl
    have z4 := r2.1 4 _ rfl
    have z5 := r2.1 5 _ rfl
    have z6 := r2.1 6 _ rfl
    have r3 := HR9.out.1
    have v0 := r3.1 0 _ rfl
    have v1 := r3.1 1 _ rfl
    have v2 := r3.1 2 _ rfl
    have v3 := r3.1 3 _ rfl
    have v4 := r3.1 4 _ rfl
    have v5 := r3.1 5 _ rfl
    have v6 := r3.1 6 _ rfl
    have g0 := r3.2 0
    have g1 := r3.2 1
    have g2 := r3.2 2
    have g3 := r3.2 3
    have g4 := r3.2 4
    have g5 := r3.2 5
    have g6 := r3.2 6
    clear r2 r3
    go_wp2_with fail
    change bodyPost _ _ _ _ _ (putWt W9 br x)
    obtain ⟨l1, l2, l3, l4⟩ := HL.out
    obtain ⟨e1, e2, e3, e4, e5, e6⟩ := HEq.out
    obtain ⟨y1, y2, y3, y4, y5, y6⟩ := HZ.out
    have hk : ∀ j, j ≠ br → (putWt W9 br x).heap[j]? = W9.heap[j]? := fun j hj => putWt_block _ _ _ _ hj
    refine bodyPost_ret (results_cell rfl (by rfl) (load_wt (putWt_row HR9.out.1))) rfl ⟨rfl, ?_, ?_⟩
    · refine HFin.out _ lq8 HLk.out (HQ8.out.kept ((hk bq (by omega)).trans (HK9.out bq e1))) (HM9.out.kept (hk bw (by omega))) (ownsRow_kept HO8.out fun j hj => ?_) fun j hj h1 h2 h3 => ?_
      · have hgj : g = j := by simpa [Value.ownBlock] using hj
        exact (hk j (by omega)).trans (HK9.out j (by omega))
      · exact (hk j (by omega)).trans ((HK9.out j h2).trans ((HK8.out j (by have := HZ5.out; omega) h3 h1).trans ((HB0.out.trans (HBw5.out.mono HB0.out.size)).block j hj)))
    · exact ButS.putWt HBt9.out (.inr (by omega)) x
  · have hmB : ((m : Int) == 0) = false := by simp [hm0]
    have HM0 := Lib.hid hm0
    clear hm0
    refine wp_region_T (fun X => (X.cell? ⟨p, 1, none⟩ = some (.map (some bq)) ∧ (X.cell? ⟨bk, 0, none⟩ = some (.int .u32 x.node) ∧ X.cell? ⟨bk, 1, none⟩ = some (.int .i64 x.rank)) ∧ (Instr.lookup 59 (.map (some bq)) (.agg #[.int .u32 x.node, .int .i64 x.rank]) false).run Tryd.prog X = .ok (.slice (some ⟨g, 0, none⟩) m cap) X)) 8 (by kernel_rfl) ?_
    rw [← HWd7.out]
    refine wpAnyT_take (i := 0) (v := ?_) rfl (by kernel_rfl) (by kernel_rfl) (by kernel_rfl) (by kernel_rfl) (fun _ _ _ h => h) (Or.inl ⟨by rfl, ?_⟩) HS7.out ?_
    rotate_left
    · intro w hSw
      (try dsimp only at hSw)
      go_simp
      all_goals with_reducible rfl
    simp only [Act.put, List.setIfInBounds_toArray, List.set_cons_zero, List.set_cons_succ]
    refine wpAnyT_take (i := 1) (v := ?_) rfl (by kernel_rfl) (by kernel_rfl) (by kernel_rfl) (by kernel_rfl) (fun _ _ _ h => h) (Or.inl ⟨by rfl, ?_⟩) HS7.out ?_
    rotate_left
    · intro w hSw
      (try dsimp only at hSw)
      go_simp
      all_goals with_reducible rfl
    simp only [Act.put, List.setIfInBounds_toArray, List.set_cons_zero, List.set_cons_succ]
    refine wpAnyT_take (i := 2) (v := ?_) rfl (by kernel_rfl) (by kernel_rfl) (by kernel_rfl) (by kernel_rfl) (fun _ _ _ h => h) (Or.inl ⟨by rfl, ?_⟩) HS7.out ?_
    rotate_left
    · intro w hSw
      (try dsimp only at hSw)
      go_simp
      all_goals with_reducible rfl
    simp only [Act.put, List.setIfInBounds_toArray, List.set_cons_zero, List.set_cons_succ]
    refine wpAnyT_take (i := 3) (v := ?_) rfl (by kernel_rfl) (by kernel_rfl) (by kernel_rfl) (by kernel_rfl) (fun _ _ _ h => h) (Or.inl ⟨by rfl, ?_⟩) HS7.out ?_
    rotate_left
    · intro w hSw
      (try dsimp only at hSw)
      go_simp
      all_goals with_reducible rfl
    simp only [Act.put, List.setIfInBounds_toArray, List.set_cons_zero, List.set_cons_succ]
    refine wpAnyT_take (i := 4) (v := ?_) rfl (by kernel_rfl) (by kernel_rfl) (by kernel_rfl) (by kernel_rfl) (fun _ _ _ h => h) (Or.inl ⟨by rfl, ?_⟩) HS7.out ?_
    rotate_left
    · intro w hSw
      (try dsimp only at hSw)
      go_simp
      all_goals with_reducible rfl
    simp only [Act.put, List.setIfInBounds_toArray, List.set_cons_zero, List.set_cons_succ]
    refine wpAnyT_take (i := 5) (v := ?_) rfl (by kernel_rfl) (by kernel_rfl) (by kernel_rfl) (by kernel_rfl) (fun _ _ _ h => h) (Or.inl ⟨by rfl, ?_⟩) HS7.out ?_
    rotate_left
    · intro w hSw
      (try dsimp only at hSw)
      go_simp
      all_goals with_reducible rfl
    simp only [Act.put, List.setIfInBounds_toArray, List.set_cons_zero, List.set_cons_succ]
    refine wpAnyT_take (i := 6) (v := ?_) rfl (by kernel_rfl) (by kernel_rfl) (by kernel_rfl) (by kernel_rfl) (fun _ _ _ h => h) (Or.inl ⟨by rfl, ?_⟩) HS7.out ?_
    rotate_left
    · intro w hSw
      (try dsimp only at hSw)
      go_simp
      all_goals with_reducible rfl
    simp only [Act.put, List.setIfInBounds_toArray, List.set_cons_zero, List.set_cons_succ]
    refine wpAnyT_take (i := 7) (v := ?_) rfl (by kernel_rfl) (by kernel_rfl) (by kernel_rfl) (by kernel_rfl) (fun _ _ _ h => h) (Or.inl ⟨by rfl, ?_⟩) HS7.out ?_
    rotate_left
    · intro w hSw
      (try dsimp only at hSw)
      go_simp
      all_goals with_reducible rfl
    simp only [Act.put, List.setIfInBounds_toArray, List.set_cons_zero, List.set_cons_succ]
    refine wpAnyT_done (by kernel_rfl) ?_ _
    go_upto_region 7 with fail
    obtain ⟨W8, hW8⟩ : ∃ W, W = Wd7 := ⟨_, rfl⟩
    rw [← hW8]
    have hhe : W8.heap = W7.heap := by rw [hW8, HWd7.out]; rfl
    have HQ8 : Hid (KMap encQk W8 bq (up lq x.qk (.slice (some ⟨g, 0, none⟩) m cap))) := HQ7.out.kept (by rw [hhe])
    have HLk : Hid (∀ q, lk (up lq x.qk (.slice (some ⟨g, 0, none⟩) m cap)) q = if q = x.qk then (if m = 0 then none else some (.slice (some ⟨g, 0, none⟩) m cap)) else lk lq q) := fun q => by
      rw [lk_up, if_neg HM0.out]
    have HK8 : Hid (∀ j, j < w5.heap.size → j ≠ g → j ≠ bq → W8.heap[j]? = w5.heap[j]?) := fun j hj hg hb => by
      rw [hhe]
      exact HK7.out j hj hg hb
    have HZ8 : Hid (w5.heap.size ≤ W8.heap.size) := by
      rw [Hid, hhe]
      exact HZ7.out
    have HO8 : Hid (W8.ownsRow 0 28 4 (.slice (some ⟨g, 0, none⟩) m cap) m (flatNm ((namesOf D x.qk).eraseIdx i))) := ownsRow_kept HO7.out fun j hj => by
      rw [hhe]
    have HBt8 : Hid (ButS w.heap.size S w W8) := by
      rw [Hid, hW8, HWd7.out]
      exact HBt7.out.drew
    generalize up lq x.qk (.slice (some ⟨g, 0, none⟩) m cap) = lq8 at HQ8 HLk
    clear hW8 hhe
    obtain ⟨Wf, hWf⟩ : ∃ wd, wd = W8.drew := ⟨_, rfl⟩
    have HWf := Lib.hid hWf
    have hhf : Wf.heap = W8.heap := by rw [hWf]; rfl
    have HFk : Hid (∀ j, j < w5.heap.size → j ≠ g → j ≠ bq → Wf.heap[j]? = w5.heap[j]?) := fun j hj hg hb => by
      rw [hhf]
      exact HK8.out j hj hg hb
    have HS7f : Hid ((Wf.cell? ⟨p, 2, none⟩ = some (.map (some bw)) ∧ Wf.cell? ⟨bn, 0, none⟩ = some (.int .u32 n.n) ∧ Wf.cell? ⟨bn, 1, none⟩ = some (.int .u32 n.m) ∧ Wf.cell? ⟨bn, 2, none⟩ = some (.int .u64 n.t) ∧ Wf.cell? ⟨bn, 3, none⟩ = some (.int .u32 n.q))) := by
      obtain ⟨l1, l2, l3, l4⟩ := HL.out
      obtain ⟨e1, e2, e3, e4, e5, e6⟩ := HEq.out
      obtain ⟨y1, y2, y3, y4, _⟩ := HZ.out
      obtain ⟨y5, y6, y7, y8, y9⟩ := HZ5.out
      have r1 := HP5.out.kept (HFk.out p (by omega) (Ne.symm e4) e2)
      have r3 := HN5.out.kept (HFk.out bn (by omega) (by omega) (by omega))
      exact ⟨r1.1 2 _ rfl, r3.1 0 _ rfl, r3.1 1 _ rfl, r3.1 2 _ rfl, r3.1 3 _ rfl⟩
    have hwe : KMap encNm Wf bw lw := HW5.out.kept (HFk.out bw (by have := HL.out; have := HZ.out; have := HZ5.out; omega) (Ne.symm HEq.out.2.2.2.2.2) (Ne.symm HEq.out.1))
    obtain ⟨o9, hdel9, hm9⟩ := hwe.delete keyNm Tryd.underlying60 n 28 0
    have hdel9 : (Builtin.delete_ #[60, 28] 0 #[.map (some bw), .agg #[.int .u32 n.n, .int .u32 n.m, .int .u64 n.t, .int .u32 n.q]]).run Tryd.prog Wf = .ok (.tuple #[]) (setBlock Wf bw o9) := hdel9
    obtain ⟨W9, hW9⟩ : ∃ W, W = setBlock Wf bw o9 := ⟨_, rfl⟩
    rw [← hW9] at hdel9 hm9
    have HM9 : Hid (KMap encNm W9 bw (dl lw n)) := hm9
    have HK9 : Hid (∀ j, j ≠ bw → W9.heap[j]? = W8.heap[j]?) := fun j hb => by rw [hW9, setBlock_block _ _ _ _ hb, hhf]
    have HZ9 : Hid (W9.heap.size = W8.heap.size) := by rw [Hid, hW9, setBlock_size, hhf]
    have HBt9 : Hid (ButS w.heap.size S w W9) := by
      rw [Hid, hW9]
      refine ButS.setBlock ?_ (.inl HSs.out.2.2.1) o9
      rw [hWf]
      exact HBt8.out.drew
    have HS9f : Hid ((W9.cell? ⟨p, 2, none⟩ = some (.map (some bw)) ∧ W9.cell? ⟨bn, 0, none⟩ = some (.int .u32 n.n) ∧ W9.cell? ⟨bn, 1, none⟩ = some (.int .u32 n.m) ∧ W9.cell? ⟨bn, 2, none⟩ = some (.int .u64 n.t) ∧ W9.cell? ⟨bn, 3, none⟩ = some (.int .u32 n.q))) := by
      obtain ⟨l1, l2, l3, l4⟩ := HL.out
      obtain ⟨e1, e2, e3, e4, e5, e6⟩ := HEq.out
      obtain ⟨y1, y2, y3, y4, _⟩ := HZ.out
      obtain ⟨y5, y6, y7, y8, y9⟩ := HZ5.out
      have r1 := HP5.out.kept ((HK9.out p e3).trans (HK8.out p (by omega) (Ne.symm e4) e2))
      have r3 := HN5.out.kept ((HK9.out bn (by omega)).trans (HK8.out bn (by omega) (by omega) (by omega)))
      exact ⟨r1.1 2 _ rfl, r3.1 0 _ rfl, r3.1 1 _ rfl, r3.1 2 _ rfl, r3.1 3 _ rfl⟩
    clear hWf hhf hwe hm9 hW9
    refine wp_region_T (fun X => (X.cell? ⟨p, 2, none⟩ = some (.map (some bw)) ∧ X.cell? ⟨bn, 0, none⟩ = some (.int .u32 n.n) ∧ X.cell? ⟨bn, 1, none⟩ = some (.int .u32 n.m) ∧ X.cell? ⟨bn, 2, none⟩ = some (.int .u64 n.t) ∧ X.cell? ⟨bn, 3, none⟩ = some (.int .u32 n.q))) 6 (by kernel_rfl) ?_
    rw [← HWf.out]
    refine wpAnyT_take (i := 0) (v := ?_) rfl (by kernel_rfl) (by kernel_rfl) (by kernel_rfl) (by kernel_rfl) (fun _ _ _ h => h) (Or.inl ⟨by rfl, ?_⟩) HS7f.out ?_
    rotate_left
    · intro w hSw
      (try dsimp only at hSw)
      go_simp
      all_goals with_reducible rfl
    simp only [Act.put, List.setIfInBounds_toArray, List.set_cons_zero, List.set_cons_succ]
    refine wpAnyT_take (i := 1) (v := ?_) rfl (by kernel_rfl) (by kernel_rfl) (by kernel_rfl) (by kernel_rfl) (fun _ _ _ h => h) (Or.inl ⟨by rfl, ?_⟩) HS7f.out ?_
    rotate_left
    · intro w hSw
      (try dsimp only at hSw)
      go_simp
      all_goals with_reducible rfl
    simp only [Act.put, List.setIfInBounds_toArray, List.set_cons_zero, List.set_cons_succ]
    refine wpAnyT_take (i := 2) (v := ?_) rfl (by kernel_rfl) (by kernel_rfl) (by kernel_rfl) (by kernel_rfl) (fun _ _ _ h => h) (Or.inl ⟨by rfl, ?_⟩) HS7f.out ?_
    rotate_left
    · intro w hSw
      (try dsimp only at hSw)
      go_simp
      all_goals with_reducible rfl
    simp only [Act.put, List.setIfInBounds_toArray, List.set_cons_zero, List.set_cons_succ]
    refine wpAnyT_take (i := 3) (v := ?_) rfl (by kernel_rfl) (by kernel_rfl) (by kernel_rfl) (by kernel_rfl) (fun _ _ _ h => h) (Or.inl ⟨by rfl, ?_⟩) HS7f.out ?_
    rotate_left
    · intro w hSw
      (try dsimp only at hSw)
      go_simp
      all_goals with_reducible rfl
    simp only [Act.put, List.setIfInBounds_toArray, List.set_cons_zero, List.set_cons_succ]
    refine wpAnyT_take (i := 4) (v := ?_) rfl (by kernel_rfl) (by kernel_rfl) (by kernel_rfl) (by kernel_rfl) (fun _ _ _ h => h) (Or.inl ⟨by rfl, ?_⟩) HS7f.out ?_
    rotate_left
    · intro w hSw
      (try dsimp only at hSw)
      go_simp
      all_goals with_reducible rfl
    simp only [Act.put, List.setIfInBounds_toArray, List.set_cons_zero, List.set_cons_succ]
    refine wpAnyT_one (i := 5) (by kernel_rfl) rfl (fun K hK => ?_)
    refine step_del rfl (.tmp 55) (.tmp 56) 60 28 rfl _ _ _ W9 (by rfl) (by rfl) hdel9 ?_
    refine hK.out _ _ (fun _ => HS9f.out) ?_
    clear hK K
    try simp only [Act.put, List.setIfInBounds_toArray, List.set_cons_zero, List.set_cons_succ]
    refine wpAnyT_done (by kernel_rfl) ?_ _
    have HR9 : Hid (RowB W9 br wtZ.cells ∧ RowB W9 bx x.cells) := by
      obtain ⟨l1, l2, l3, l4⟩ := HL.out
      obtain ⟨y1, y2, y3, y4, y5, y6⟩ := HZ.out
      obtain ⟨u5, u6, u7, u8, u9⟩ := HZ5.out
      exact ⟨HR5.out.kept ((HK9.out br (by omega)).trans (HK8.out br (by omega) (by omega) (by omega))), HX5.out.kept ((HK9.out bx (by omega)).trans (HK8.out bx (by omega) (by omega) (by omega)))⟩
    have r2 := HR9.out.2
    have z0 := r2.1 0 _ rfl
    have z1 := r2.1 1 _ rfl
    have z2 := r2.1 2 _ rfl
    have z3 := r2.1 3 _ rfl
    have z4 := r2.1 4 _ rfl
    have z5 := r2.1 5 _ rfl
    have z6 := r2.1 6 _ rfl
    have r3 := HR9.out.1
    have v0 := r3.1 0 _ rfl
    have v1 := r3.1 1 _ rfl
    have v2 := r3.1 2 _ rfl
    have v3 := r3.1 3 _ rfl
    have v4 := r3.1 4 _ rfl
    have v5 := r3.1 5 _ rfl
    have v6 := r3.1 6 _ rfl
    have g0 := r3.2 0
    have g1 := r3.2 1
    have g2 := r3.2 2
    have g3 := r3.2 3
    have g4 := r3.2 4
    have g5 := r3.2 5
    have g6 := r3.2 6
    clear r2 r3
    go_wp2_with fail
    change bodyPost _ _ _ _ _ (putWt W9 br x)
    obtain ⟨l1, l2, l3, l4⟩ := HL.out
    obtain ⟨e1, e2, e3, e4, e5, e6⟩ := HEq.out
    obtain ⟨y1, y2, y3, y4, y5, y6⟩ := HZ.out
    have hk : ∀ j, j ≠ br → (putWt W9 br x).heap[j]? = W9.heap[j]? := fun j hj => putWt_block _ _ _ _ hj
    refine bodyPost_ret (results_cell rfl (by rfl) (load_wt (putWt_row HR9.out.1))) rfl ⟨rfl, ?_, ?_⟩
    · refine HFin.out _ lq8 HLk.out (HQ8.out.kept ((hk bq (by omega)).trans (HK9.out bq e1))) (HM9.out.kept (hk bw (by omega))) (ownsRow_kept HO8.out fun j hj => ?_) fun j hj h1 h2 h3 => ?_
      · have hgj : g = j := by simpa [Value.ownBlock] using hj
        exact (hk j (by omega)).trans (HK9.out j (by omega))
      · exact (hk j (by omega)).trans ((HK9.out j h2).trans ((HK8.out j (by have := HZ5.out; omega) h3 h1).trans ((HB0.out.trans (HBw5.out.mono HB0.out.size)).block j hj)))
    · exact ButS.putWt HBt9.out (.inr (by omega)) x

end Go.Proofs.YthfndphngeaihaaDoor
