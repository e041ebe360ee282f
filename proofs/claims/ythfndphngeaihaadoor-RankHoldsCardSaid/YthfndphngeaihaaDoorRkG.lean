/- Names in slices: Index, Delete. -/
import Derived.Test.YthfndphngeaihaaDoorRkF
import Derived.Laws.OwnMore
namespace Go.Proofs.YthfndphngeaihaaDoor
open Go Go.RowKit Go.Shelf
open Go.ChangeMaps (setBlock)
set_option linter.unusedSimpArgs false
set_option linter.unusedVariables false
set_option linter.unusedSectionVars false
set_option maxRecDepth 100000

attribute [local go_sem] Oper.semAt_some

theorem nmEq_bin (a b : Nm) (w : World) : (binOp BinOp.eql 28 (.agg #[.int .u32 a.n, .int .u32 a.m, .int .u64 a.t, .int .u32 a.q]) (.agg #[.int .u32 b.n, .int .u32 b.m, .int .u64 b.t, .int .u32 b.q])).run Tryd.prog w = .ok (.bool (decide (a = b))) w := by
  obtain ⟨a0, a1, a2, a3⟩ := a
  obtain ⟨b0, b1, b2, b3⟩ := b
  go_simp
  by_cases h0 : a0 = b0 <;> by_cases h1 : a1 = b1 <;> by_cases h2 : a2 = b2 <;> by_cases h3 : a3 = b3 <;> simp [h0, h1, h2, h3]
theorem nmNe_bin (a b : Nm) (w : World) : (binOp BinOp.neq 28 (.agg #[.int .u32 a.n, .int .u32 a.m, .int .u64 a.t, .int .u32 a.q]) (.agg #[.int .u32 b.n, .int .u32 b.m, .int .u64 b.t, .int .u32 b.q])).run Tryd.prog w = .ok (.bool (!decide (a = b))) w := by
  obtain ⟨a0, a1, a2, a3⟩ := a
  obtain ⟨b0, b1, b2, b3⟩ := b
  go_simp
  by_cases h0 : a0 = b0 <;> by_cases h1 : a1 = b1 <;> by_cases h2 : a2 = b2 <;> by_cases h3 : a3 = b3 <;> simp [h0, h1, h2, h3]

/-- Block g reads as these names. -/
def RowNs (w : World) (g : Nat) (ns : List Nm) : Prop := ∀ (j : Nat) (x : Nm), ns[j]? = some x → w.cell? ⟨g, j * 4, none⟩ = some (.int .u32 x.n) ∧ w.cell? ⟨g, j * 4 + 1, none⟩ = some (.int .u32 x.m) ∧ w.cell? ⟨g, j * 4 + 2, none⟩ = some (.int .u64 x.t) ∧ w.cell? ⟨g, j * 4 + 3, none⟩ = some (.int .u32 x.q)
theorem RowNs.kept {w w' : World} {g : Nat} {ns : List Nm} (h : RowNs w g ns) (hb : w'.heap[g]? = w.heap[g]?) : RowNs w' g ns := fun j x hj => by
  have hc : ∀ i, w'.cell? ⟨g, i, none⟩ = w.cell? ⟨g, i, none⟩ := fun i => World.cell?_of_block (a := ⟨g, i, none⟩) hb
  rw [hc, hc, hc, hc]
  exact h j x hj
theorem flatNm_at : ∀ (ns : List Nm) (j : Nat) (x : Nm), ns[j]? = some x → (flatNm ns)[j * 4]? = some (.int .u32 x.n) ∧ (flatNm ns)[j * 4 + 1]? = some (.int .u32 x.m) ∧ (flatNm ns)[j * 4 + 2]? = some (.int .u64 x.t) ∧ (flatNm ns)[j * 4 + 3]? = some (.int .u32 x.q)
  | [], _, _, h => by simp at h
  | y :: r, 0, x, h => by
    injection h with h
    subst h
    exact ⟨rfl, rfl, rfl, rfl⟩
  | y :: r, j + 1, x, h => by
    have ih := flatNm_at r j x (by simpa using h)
    have e : ∀ k, (flatNm (y :: r))[(j + 1) * 4 + k]? = (flatNm r)[j * 4 + k]? := fun k => by
      rw [show (j + 1) * 4 + k = j * 4 + k + 4 by omega]
      rfl
    have e0 := e 0
    simp only [Nat.add_zero] at e0
    rw [e0, e 1, e 2, e 3]
    exact ih
theorem own_names {w : World} {B g n cap : Nat} {e : TypeId} {ns : List Nm} (h : w.ownsRow B e 4 (.slice (some ⟨g, 0, none⟩) n cap) n (flatNm ns)) : RowNs w g ns := fun j x hj => by
  have hl : ns.length = n := by
    have := h.1
    rw [flatNm_len] at this
    omega
  have hjn : j < n := by rw [← hl]; exact (List.getElem?_eq_some_iff.1 hj).1
  obtain ⟨a, b, c, d⟩ := flatNm_at ns j x hj
  rw [h.cellAt _ (by omega), h.cellAt _ (by omega), h.cellAt _ (by omega), h.cellAt _ (by omega)]
  exact ⟨a, b, c, d⟩
theorem flatNm_one1 (ns : List Nm) : ∀ u ∈ flatNm ns, u.oneCell' = true := fun u hu => by
  obtain ⟨x, _, hx⟩ := List.mem_flatMap.1 hu
  simp only [Nm.cells, List.mem_cons, List.not_mem_nil, or_false] at hx
  rcases hx with rfl | rfl | rfl | rfl <;> rfl
theorem flatNm_take (ns : List Nm) (i : Nat) : flatNm (ns.take i) = (flatNm ns).take (i * 4) := by
  have h : flatNm ns = flatNm (ns.take i) ++ flatNm (ns.drop i) := by rw [← flatNm_append, List.take_append_drop]
  by_cases hi : i ≤ ns.length
  · conv => rhs; rw [h]
    rw [List.take_left' (by rw [flatNm_len, List.length_take, Nat.min_eq_left hi])]
  · rw [List.take_of_length_le (by omega), List.take_of_length_le (by rw [flatNm_len]; omega)]
theorem flatNm_drop (ns : List Nm) (i : Nat) : flatNm (ns.drop i) = (flatNm ns).drop (i * 4) := by
  have h : flatNm ns = flatNm (ns.take i) ++ flatNm (ns.drop i) := by rw [← flatNm_append, List.take_append_drop]
  by_cases hi : i ≤ ns.length
  · conv => rhs; rw [h]
    rw [List.drop_left' (by rw [flatNm_len, List.length_take, Nat.min_eq_left hi])]
  · rw [List.drop_of_length_le (by omega), List.drop_of_length_le (by rw [flatNm_len]; omega)]
    rfl
/-- The first names of a row of one's own. -/
theorem own_take {w : World} {B g n cap : Nat} {e : TypeId} {ns : List Nm} (h : w.ownsRow B e 4 (.slice (some ⟨g, 0, none⟩) n cap) n (flatNm ns)) (i : Nat) (hi : i ≤ n) : w.ownsRow B e 4 (.slice (some ⟨g, 0, none⟩) i cap) i (flatNm (ns.take i)) := by
  have hl : ns.length = n := by
    have := h.1
    rw [flatNm_len] at this
    omega
  refine ⟨by rw [flatNm_len, List.length_take]; omega, ?_⟩
  rcases h.2 with ⟨h', _⟩ | ⟨g', cap', cur, h', hB, hg, hn, hm, hs, ht⟩
  · cases h'
  · injection h' with e1 e2 e3
    injection e1 with e1
    injection e1 with e1
    subst e1
    subst e3
    refine .inr ⟨g, cap, cur, rfl, hB, hg, by omega, hm, hs, ?_⟩
    rw [flatNm_take, ← ht, List.take_take]
    congr 1
    omega

set_option maxHeartbeats 2000000 in
theorem nmIndex_any (g c i : Nat) (ns : List Nm) (x : Nm) (w : World) (hr : RowNs w g ns) (hg : g < w.heap.size) (hi : ns[i]? = some x) (hf : ∀ j, j < i → ns[j]? ≠ some x) (hlen : ns.length ≤ 1000000) :
    Calls Tryd.prog 57 #[.slice (some ⟨g, 0, none⟩) ns.length c, .agg #[.int .u32 x.n, .int .u32 x.m, .int .u64 x.t, .int .u32 x.q]] w fun e w' => e = .returned (.int .i64 (i : Nat)) ∧ Below w.heap.size w w' := by
  obtain ⟨N, hN⟩ : ∃ N, N = ns.length := ⟨_, rfl⟩
  have hiN : i < N := by rw [hN]; exact (List.getElem?_eq_some_iff.1 hi).1
  obtain ⟨W, hW⟩ : ∃ W, W = w.alloc (.cells #[.int .u32 x.n, .int .u32 x.m, .int .u64 x.t, .int .u32 x.q] 28) := ⟨_, rfl⟩
  have HB0 : Hid (Below w.heap.size w W) := by rw [hW]; exact below_al (Below.refl _ _) _
  have HX : Hid (∀ X, Below W.heap.size W X → X.cell? ⟨w.heap.size, 0, none⟩ = some (.int .u32 x.n) ∧ X.cell? ⟨w.heap.size, 1, none⟩ = some (.int .u32 x.m) ∧ X.cell? ⟨w.heap.size, 2, none⟩ = some (.int .u64 x.t) ∧ X.cell? ⟨w.heap.size, 3, none⟩ = some (.int .u32 x.q)) := fun X hb => by
    rw [hW] at hb
    exact ⟨box_at hb 0, box_at hb 1, box_at hb 2, box_at hb 3⟩
  have HR : Hid (∀ X, Below W.heap.size W X → RowNs X g ns) := fun X hb => hr.kept ((hb.block g (Nat.lt_of_lt_of_le hg HB0.out.size)).trans (HB0.out.block g hg))
  have hNl : N ≤ 1000000 := by rw [hN]; exact hlen
  have HI := Lib.hid hi
  have HF := Lib.hid hf
  have HN := Lib.hid hN
  have HW := Lib.hid hW
  have heq := nmEq_bin
  rw [← hN]
  clear hr hg hi hf hlen hN hW
  go_enter Tryd.func57, Tryd.ntmps57
  go_wp2_with fail
  rw [← HW.out]
  go_loopw [8] (fun q wr => ∃ j : Nat, j ≤ i ∧ q = .int .i64 j ∧ Hid (Below W.heap.size W wr)) (fun q _ => i - (intOf q).toNat)
  case atStart => exact ⟨0, Nat.zero_le _, rfl, Below.refl _ _⟩
  case round =>
    rename_i wr hrel
    obtain ⟨j, hj, rfl, HB⟩ := hrel
    obtain ⟨y, hy⟩ : ∃ y, ns[j]? = some y := ⟨ns[j]'(by rw [← HN.out]; omega), List.getElem?_eq_getElem _⟩
    obtain ⟨x0, x1, x2, x3⟩ := HX.out wr HB.out
    obtain ⟨r0, r1, r2, r3⟩ := HR.out wr HB.out j y hy
    have hjN : j < N := by omega
    by_cases hxy : x = y
    · subst hxy
      have hji : j = i := by
        rcases Nat.lt_or_ge j i with h | h
        · exact absurd hy (HF.out j h)
        · omega
      have HJ := Lib.hid hji
      have hdec : decide (x = x) = true := by simp
      clear hji
      go_upto_region 4 with fail
      go_quiet (fail)
      go_wp2_with fail
      go_ret
      exact ⟨by rw [HJ.out]; rfl, HB0.out.trans ((below_dr HB.out _).mono HB0.out.size)⟩
    · have hdec : decide (x = y) = false := by simpa using hxy
      have HNe : Hid (j ≠ i) := by
        rintro rfl
        rw [HI.out] at hy
        injection hy with hy
        exact hxy hy
      clear hxy
      go_upto_region 4 with fail
      go_quiet (fail)
      go_wp2_with fail
      go_roundw
      case rel => exact ⟨j + 1, by have := HNe.out; omega, by go_num, below_dr HB.out _⟩
      case measure => simp [intOf]; have := HNe.out; omega

def zNm : List Value := [.int .u32 0, .int .u32 0, .int .u64 0, .int .u32 0]
/-- The place behind a row's end, cleared. -/
theorem clear_tail {w : World} {g m cap c : Nat} {xs : List Value} (hown : w.ownsRow 0 28 4 (.slice (some ⟨g, 0, none⟩) m cap) m xs) (hc : m + 1 ≤ cap) (ty : TypeId) :
    ∃ w', (Builtin.clear_ #[69] ty #[.slice (some ⟨g, m * 4, none⟩) 1 c]).run Tryd.prog w = .ok (.tuple #[]) w' ∧ w'.ownsRow 0 28 4 (.slice (some ⟨g, 0, none⟩) m cap) m xs ∧ w.grownBy w' (some g) := by
  rcases hown.2 with ⟨h, _⟩ | ⟨g', cap', cur, h, hbg, hg, hnc, hcm, hcs, htake⟩
  · cases h
  · injection h with e1 e2 e3
    injection e1 with e1
    injection e1 with e1
    subst e1
    subst e3
    have hz : ∀ w, (zeroValue 28).run Tryd.prog w = .ok (.agg #[.int .u32 0, .int .u32 0, .int .u64 0, .int .u32 0]) w := fun w => by kernel_rfl
    have hst := run_storeCells_at Tryd.prog g (m * 4) 28 [.int .u32 0, .int .u32 0, .int .u64 0, .int .u32 0] 0 cur w hg (by simp; omega) (by simp [Value.oneCell'])
    simp only [Nat.add_zero] at hst
    have hzc : (Builtin.zeroCells (Value.agg #[.int .u32 0, .int .u32 0, .int .u64 0, .int .u32 0]).cells 1).toList = [.int .u32 0, .int .u32 0, .int .u64 0, .int .u32 0] := by kernel_rfl
    have hrun : (Builtin.clear_ #[69] ty #[.slice (some ⟨g, m * 4, none⟩) 1 c]).run Tryd.prog w = .ok (.tuple #[]) (w.setRow g (cur.toList.take (m * 4) ++ zNm ++ cur.toList.drop (m * 4 + 4)).toArray) := by
      simp [zNm, Builtin.clear_, run_underlying Tryd.underlying69, hz, hzc, hst, Result.andThen]
    refine ⟨_, hrun, ⟨hown.1, .inr ⟨g, cap, _, rfl, hbg, setRow_heap w g cur _ _ _ hg, hnc, hcm, ?_, ?_⟩⟩, ⟨rfl, rfl, rfl, by simp, fun k _ hk => setRow_other w g k _ (fun e => hk (by simp [e]))⟩⟩
    · simp only [List.size_toArray, List.length_append, List.length_take, List.length_drop, Array.length_toList, List.length_cons, List.length_nil, zNm]
      omega
    · show List.take (m * 4) (_ ++ _ ++ _) = xs
      rw [List.append_assoc, List.take_left' (by rw [List.length_take, Array.length_toList]; omega)]
      exact htake

set_option maxHeartbeats 4000000 in
theorem nmDelete_any (g cap m i : Nat) (ns : List Nm) (w : World) (hl : ns.length = m + 1) (hi : i ≤ m) (hm : m ≤ 1000000) (hown : w.ownsRow 0 28 4 (.slice (some ⟨g, 0, none⟩) (m + 1) cap) (m + 1) (flatNm ns)) :
    Calls Tryd.prog 58 #[.slice (some ⟨g, 0, none⟩) (m + 1) cap, .int .i64 (i : Nat), .int .i64 ((i + 1 : Nat) : Int)] w fun e w' => e = .returned (.slice (some ⟨g, 0, none⟩) m cap) ∧ w'.ownsRow 0 28 4 (.slice (some ⟨g, 0, none⟩) m cap) m (flatNm (ns.eraseIdx i)) ∧ w.grownBy w' (some g) := by
  have hcap : m + 1 ≤ cap ∧ cap ≤ maxLen := by
    rcases hown.2 with ⟨h, _⟩ | ⟨g', cap', cur, h, hbg, hg, hnc, hcm, hcs, htake⟩
    · cases h
    · injection h with e1 e2 e3
      subst e3
      exact ⟨hnc, hcm⟩
  obtain ⟨n, hn⟩ : ∃ n, n = m + 1 := ⟨_, rfl⟩
  obtain ⟨k, hk⟩ : ∃ k, k = i + 1 := ⟨_, rfl⟩
  rw [← hn, ← hk]
  rw [← hn] at hown hl
  have hz4 : ∀ w, (Go.sizeOf 28).run Tryd.prog w = .ok 4 w := fun w => by kernel_rfl
  have hE : Tryd.prog.elem 69 = 28 := by simp [Program.elem, Tryd.underlying69]
  have hT : Tryd.prog.underlying 69 = some (.slice (Tryd.prog.elem 69)) := by rw [hE]; exact Tryd.underlying69
  have hs1 : ∀ w, (Instr.slice 69 (.slice (some ⟨g, 0, none⟩) n cap) (some (.int .i64 (i : Int))) (some (.int .i64 (k : Int))) (some (.int .i64 (n : Int)))).run Tryd.prog w = .ok (sliced (some ⟨g, 0, none⟩) i k n 4) w := fun w => by
    rw [run_slice_lhm w 69 _ n cap hT .i64 .i64 .i64 i k n (by omega) (by omega) (by omega) (by omega), hE, hz4]
    simp [Result.andThen]
  have hs2 : ∀ w, (Instr.slice 69 (.slice (some ⟨g, 0, none⟩) n cap) none (some (.int .i64 (i : Int))) none).run Tryd.prog w = .ok (.slice (some ⟨g, 0, none⟩) i cap) w := fun w => by
    rw [run_slice_h w 69 _ n cap hT .i64 i (by omega) (by omega), hE, hz4]
    simp [Result.andThen, sliced, mk_addr_add]
  obtain ⟨A, hA, hsrc⟩ : ∃ A : Addr, (if cap = k then (some ⟨g, 0, none⟩ : Option Addr) else some ⟨g, k * 4, none⟩) = some A ∧ ∀ (X : World), X.heap[g]? = w.heap[g]? → ∀ j u, (flatNm (ns.drop k))[j]? = some u → X.cell? (A.add j) = some u := by
    by_cases h : cap = k
    · refine ⟨⟨g, 0, none⟩, by rw [if_pos h], fun X _ j u hu => ?_⟩
      rw [List.drop_of_length_le (by omega)] at hu
      simp [flatNm] at hu
    · refine ⟨⟨g, k * 4, none⟩, by rw [if_neg h], fun X hX j u hu => ?_⟩
      rw [flatNm_drop, List.getElem?_drop] at hu
      have hj : k * 4 + j < n * 4 := by
        have := (List.getElem?_eq_some_iff.1 hu).1
        rw [flatNm_len, hl] at this
        exact this
      rw [mk_addr_add, World.cell?_of_block (a := ⟨g, k * 4 + j, none⟩) hX, hown.cellAt _ hj]
      exact hu
  have hs3 : ∀ w, (Instr.slice 69 (.slice (some ⟨g, 0, none⟩) n cap) (some (.int .i64 (k : Int))) none none).run Tryd.prog w = .ok (.slice (some A) (n - k) (cap - k)) w := fun w => by
    rw [run_slice_l w 69 _ n cap hT .i64 k (by omega) (by omega), hE, hz4, ← hA]
    simp [Result.andThen, sliced, mk_addr_add]
  have hm1 : i + (n - k) = m := by omega
  obtain ⟨ti, hti, hz, hsz0, hbt⟩ := info_parts info_nm
  obtain ⟨W, hW⟩ : ∃ W, W = w.drew := ⟨_, rfl⟩
  have hownW : W.ownsRow 0 28 4 (.slice (some ⟨g, 0, none⟩) n cap) n (flatNm ns) := by rw [hW]; exact ownsRow_kept hown fun _ _ => rfl
  obtain ⟨W3, hap, ho3, hg3⟩ := run_append_fits (P := Tryd.prog) W 0 69 69 28 ti 4 Tryd.underlying69 hti hsz0 g i cap _ (own_take hownW i (by omega)) A (n - k) (cap - k) (flatNm (ns.drop k)) (by rw [flatNm_len, List.length_drop, hl]) (hsrc W (by rw [hW]; rfl)) (flatNm_one1 _) (by omega)
  rw [hm1] at hap ho3
  have hcat : flatNm (ns.take i) ++ flatNm (ns.drop k) = flatNm (ns.eraseIdx i) := by rw [← flatNm_append, hk, List.eraseIdx_eq_take_drop_succ]
  rw [hcat] at ho3
  obtain ⟨W4, hcl, ho4, hg4⟩ := clear_tail (c := cap - m) ho3 (by omega) 0
  have hs4 : ∀ w, (Instr.slice 69 (.slice (some ⟨g, 0, none⟩) m cap) (some (.int .i64 (m : Int))) (some (.int .i64 (n : Int))) none).run Tryd.prog w = .ok (.slice (some ⟨g, m * 4, none⟩) 1 (cap - m)) w := fun w => by
    rw [run_slice_lh w 69 _ m cap hT .i64 .i64 m n (by omega) (by omega) (by omega), hE, hz4]
    have h1 : ¬ cap = m := by omega
    have h2 : n - m = 1 := by omega
    simp [Result.andThen, sliced, mk_addr_add, h1, h2]
  have HE : Hid (W4.ownsRow 0 28 4 (.slice (some ⟨g, 0, none⟩) m cap) m (flatNm (ns.eraseIdx i)) ∧ w.grownBy W4 (some g)) := ⟨ho4, by
    have hgd : w.grownBy W (some g) := by rw [hW]; exact ⟨rfl, rfl, rfl, Nat.le_refl _, fun _ _ _ => rfl⟩
    exact (hgd.trans hg3).trans hg4⟩
  have hki : ((i : Int) == (k : Int)) = false := by simp; omega
  have HW := Lib.hid hW
  clear hown hownW ho3 ho4 hg3 hg4 hz hsz0 hbt hti hcat hsrc hA hE hT hz4 hW hn hk hm1 hl
  go_enter Tryd.func58, Tryd.ntmps58
  go_upto_region 5 with fail
  refine wp_region_T (fun _ => True) 8 (by kernel_rfl) ?_
  rw [← HW.out]
  refine wpAnyT_take (i := 0) (v := ?_) rfl (by kernel_rfl) (by kernel_rfl) (by kernel_rfl) (by kernel_rfl) (fun _ _ _ h => h) (Or.inl ⟨by rfl, ?_⟩) trivial ?_
  rotate_left
  · intro w hSw
    (try dsimp only at hSw)
    go_simp
    all_goals with_reducible rfl
  simp only [Act.put, List.setIfInBounds_toArray, List.set_cons_zero, List.set_cons_succ]
  refine wpAnyT_take (i := 1) (v := ?_) rfl (by kernel_rfl) (by kernel_rfl) (by kernel_rfl) (by kernel_rfl) (fun _ _ _ h => h) (Or.inl ⟨by rfl, ?_⟩) trivial ?_
  rotate_left
  · intro w hSw
    (try dsimp only at hSw)
    go_simp
    all_goals with_reducible rfl
  simp only [Act.put, List.setIfInBounds_toArray, List.set_cons_zero, List.set_cons_succ]
  refine wpAnyT_take (i := 2) (v := ?_) rfl (by kernel_rfl) (by kernel_rfl) (by kernel_rfl) (by kernel_rfl) (fun _ _ _ h => h) (Or.inl ⟨by rfl, ?_⟩) trivial ?_
  rotate_left
  · intro w hSw
    (try dsimp only at hSw)
    go_simp
    all_goals with_reducible rfl
  simp only [Act.put, List.setIfInBounds_toArray, List.set_cons_zero, List.set_cons_succ]
  refine wpAnyT_take (i := 3) (v := ?_) rfl (by kernel_rfl) (by kernel_rfl) (by kernel_rfl) (by kernel_rfl) (fun _ _ _ h => h) (Or.inl ⟨by rfl, ?_⟩) trivial ?_
  rotate_left
  · intro w hSw
    (try dsimp only at hSw)
    go_simp
    all_goals with_reducible rfl
  simp only [Act.put, List.setIfInBounds_toArray, List.set_cons_zero, List.set_cons_succ]
  refine wpAnyT_take (i := 4) (v := ?_) rfl (by kernel_rfl) (by kernel_rfl) (by kernel_rfl) (by kernel_rfl) (fun _ _ _ h => h) (Or.inl ⟨by rfl, ?_⟩) trivial ?_
  rotate_left
  · intro w hSw
    (try dsimp only at hSw)
    go_simp
    all_goals with_reducible rfl
  simp only [Act.put, List.setIfInBounds_toArray, List.set_cons_zero, List.set_cons_succ]
  refine wpAnyT_take (i := 5) (v := ?_) rfl (by kernel_rfl) (by kernel_rfl) (by kernel_rfl) (by kernel_rfl) (fun _ _ _ h => h) (Or.inl ⟨by rfl, ?_⟩) trivial ?_
  rotate_left
  · intro w hSw
    (try dsimp only at hSw)
    go_simp
    all_goals with_reducible rfl
  simp only [Act.put, List.setIfInBounds_toArray, List.set_cons_zero, List.set_cons_succ]
  refine wpAnyT_one (i := 6) (by kernel_rfl) rfl (fun K hK => ?_)
  refine step_app rfl (.tmp 22) (.tmp 25) 69 69 rfl _ _ _ W3 (by rfl) (by rfl) hap ?_
  refine hK.out _ _ (fun _ => trivial) ?_
  clear hK K
  try simp only [Act.put, List.setIfInBounds_toArray, List.set_cons_zero, List.set_cons_succ]
  refine wpAnyT_take (i := 7) (v := ?_) rfl (by kernel_rfl) (by kernel_rfl) (by kernel_rfl) (by kernel_rfl) (fun _ _ _ h => h) (Or.inl ⟨by rfl, ?_⟩) trivial ?_
  rotate_left
  · intro w hSw
    (try dsimp only at hSw)
    go_simp
    all_goals with_reducible rfl
  simp only [Act.put, List.setIfInBounds_toArray, List.set_cons_zero, List.set_cons_succ]
  refine wpAnyT_done (by kernel_rfl) ?_ _
  go_wp2_with fail
  all_goals (go_ret; exact ⟨rfl, HE.out.1, HE.out.2⟩)

end Go.Proofs.YthfndphngeaihaaDoor
