/- Package rank: ordered, gone over by a body that turns rows of its own. -/
import Derived.Test.YthfndphngeaihaaDoorRkP
import Derived.Test.YthfndphngeaihaaDoorIterM
namespace Go.Proofs.YthfndphngeaihaaDoor
open Go Go.RowKit Go.Shelf
open Go.ChangeMaps (setBlock)
set_option linter.unusedSimpArgs false
set_option linter.unusedVariables false
set_option linter.unusedSectionVars false
set_option maxRecDepth 100000

attribute [local go_sem] Oper.semAt_some

set_option maxHeartbeats 8000000 in
theorem ordered_goesM (S : Nat → Prop) (p bl bn : Nat) (most node : Int) (D : List Wt) (w : World) (h : LineAt w S p most D) (hT : TabR w) (hSw : ∀ b, S b → b < w.heap.size) (hSl : S bl) (hSn : S bn) (hSg : S 0) (hlen : D.length ≤ 100000)
    (hl : w.cell? ⟨bl, 0, none⟩ = some (.pointer (some ⟨p, 0, none⟩))) (hn : w.cell? ⟨bn, 0, none⟩ = some (.int .u32 node)) :
    GoesM Tryd.prog 59 #[.pointer (some ⟨bl, 0, none⟩), .pointer (some ⟨bn, 0, none⟩)] (fun k => #[encWt (atW (allOf D node) k)]) S (allOf D node).length w := by
  intro L J Jx M W hW hJ hJx hM hJM hY h0
  have hWS := hW.size
  have HL : Hid (∀ X, KeepB S W X → LineAt X S p most D) := fun X hk => (h.on hW).kept fun b hb _ => hk b hb
  have HT : Hid (TabR W) := hT.on hW
  have HC : Hid (∀ X, KeepB S W X → X.cell? ⟨bl, 0, none⟩ = some (.pointer (some ⟨p, 0, none⟩)) ∧ X.cell? ⟨bn, 0, none⟩ = some (.int .u32 node)) := fun X hk =>
    ⟨((World.cell?_of_block (a := ⟨bl, 0, none⟩) (hk bl hSl)).trans (hW.cell (p := ⟨bl, 0, none⟩) (hSw bl hSl))).trans hl, ((World.cell?_of_block (a := ⟨bn, 0, none⟩) (hk bn hSn)).trans (hW.cell (p := ⟨bn, 0, none⟩) (hSw bn hSn))).trans hn⟩
  have HSw : Hid (∀ b, S b → b < W.heap.size) := fun b hb => Nat.lt_of_lt_of_le (hSw b hb) hWS
  have HSl : Hid (S bl) := hSl
  obtain ⟨t0, t1, t2⟩ := HT.out
  have HLe := Lib.hid hlen
  have HY := Lib.hid hY
  clear hl hn h hT hW hlen hSg hSn hSl hSw hY
  refine (callsIn_wide (n := 10)).1 (callsIn_of_wp Tryd.func59 rfl trivial ?_ rfl)
  simp only [Tryd.ntmps59, List.size_toArray, List.length_cons, List.length_nil, Nat.reduceAdd, Nat.reduceSub, Array.replicate_succ, Array.replicate_zero, List.push_toArray, List.append_toArray, List.nil_append, List.cons_append]
  gi_wp2
  refine wpIn_wide.2 (wp_scope_on 0 rfl ((wpIn_wide (n := 10)).1 ?_))
  refine wpIn_seq (wpIn_label ?_)
  simp only [Exit.then]
  gi_wp2
  gi_loopw [9] (fun q wr => ∃ i : Nat, i ≤ 3 ∧ q = .int .i64 i ∧ J (offR D node i) wr ∧ KeepB S W wr ∧ W.heap.size ≤ wr.heap.size) (fun q _ => 3 - (intOf q).toNat)
  case atStart => exact ⟨0, Nat.zero_le _, rfl, h0, KeepB.refl _ _, Nat.le_refl _⟩
  case round =>
    obtain ⟨i, hi, rfl, hJs, hnx, hsz⟩ := hrel
    by_cases hlt : i < 3
    · obtain ⟨rk, hrk⟩ : ∃ rk : Int, rk = 2 - i := ⟨_, rfl⟩
      have hix := idxR i hlt
      rw [← hrk] at hix
      have hltI : (i : Int) < 3 := by omega
      obtain ⟨bq, bw, lq, lw, q1, q2, q3, q4, q5, q6, q7⟩ := HL.out wr hnx
      obtain ⟨c0, c1⟩ := HC.out wr hnx
      have d1 := q1.1 1 _ rfl
      obtain ⟨A, cp, hsl⟩ := own_form (q4.own ⟨node, rk⟩)
      obtain ⟨n, hnn⟩ : ∃ n, n = (allR D node rk).length := ⟨_, rfl⟩
      have hnames : (namesOf D ⟨node, rk⟩).length = n := by rw [namesOf_allR, List.length_map, hnn]
      rw [hnames] at hsl
      have hown := q4.own ⟨node, rk⟩
      rw [hsl, hnames] at hown
      have hlk : ∀ k, (Instr.lookup 59 (.map (some bq)) (.agg #[.int .u32 node, .int .i64 rk]) false).run Tryd.prog (wr.drewN k) = .ok (.slice A n cp) (wr.drewN k) := fun k => by
        have hm : KMap encQk (wr.drewN k) bq lq := q2.kept rfl
        have := hm.look keyQk Tryd.underlying59 zeroNs ⟨node, rk⟩ false
        rw [if_neg (by simp)] at this
        unfold sliceOf at hsl
        rw [hsl] at this
        exact this
      have hnl : n ≤ 100000 := by
        have h1 : (allR D node rk).length ≤ D.length := List.length_filter_le _ _
        have := HLe.out
        omega
      have HJs := Lib.hid hJs
      have HNx := Lib.hid hnx
      have HRk := Lib.hid hrk
      have HNn := Lib.hid hnn
      have HOwn := Lib.hid hown
      have HAS : Hid (n = 0 ∨ ∃ g, A = some ⟨g, 0, none⟩ ∧ S g) := by
        rcases hown.2 with ⟨_, h⟩ | ⟨g, cap, cur, h, _⟩
        · exact .inl h
        · injection h with h
          refine .inr ⟨g, h, ?_⟩
          unfold sliceOf at hsl
          cases hv : lk lq ⟨node, rk⟩ with
          | none => rw [hv] at hsl; injection hsl with hsl; rw [← hsl] at h; cases h
          | some v =>
            rw [hv] at hsl
            have hv2 : v = .slice A n cp := hsl
            exact q6.2.2.2 _ v g hv (by rw [hv2, h]; rfl)
      clear hJs hnx hrk hnn hown hsl hnames q1 q2 q3 q4 q5 q6 q7
      gi_wp2
      gi_quiet (fail)
      obtain ⟨wq, hwq⟩ : ∃ wq, wq = wr.drewN nq := ⟨_, rfl⟩
      rw [← hwq]
      have hJq : J (offR D node i) wq := hJ _ wr wq none HJs.out (by rw [hwq]; exact ⟨rfl, rfl, rfl, Nat.le_refl _, fun _ _ _ => rfl⟩) (fun r e => by cases e)
      have HNq : Hid (KeepB S W wq) := by rw [hwq]; exact HNx.out
      have HZq : Hid (W.heap.size ≤ wq.heap.size) := by rw [hwq]; exact hsz
      have HJq := Lib.hid hJq
      have HOq : Hid (wr.heap = wq.heap) := by rw [hwq]; rfl
      clear hwq hJq hlk d1 c0 c1
      gi_wp2
      gi_loopw [21] (fun q wx => ∃ j : Nat, j ≤ n ∧ q = .int .i64 j ∧ J (offR D node i + j) wx ∧ KeepB S W wx ∧ W.heap.size ≤ wx.heap.size) (fun q _ => n - (intOf q).toNat)
      case atStart => exact ⟨0, Nat.zero_le _, rfl, HJq.out, HNq.out, HZq.out⟩
      case round =>
        obtain ⟨j, hj, rfl, hJx1, hkx, hzx⟩ := hrel
        by_cases hjn : j < n
        · obtain ⟨x, hx⟩ : ∃ x, (allR D node rk)[j]? = some x := ⟨(allR D node rk)[j]'(by rw [← HNn.out]; exact hjn), List.getElem?_eq_getElem _⟩
          obtain ⟨g, rfl, hSg⟩ := HAS.out.resolve_left (by omega)
          have hat := atW_off D node i j hlt x (by rw [← HRk.out]; exact hx)
          obtain ⟨bq', bw, lq', lw, q1, q2, q3, q4, q5, q6, q7⟩ := HL.out wr hkx
          obtain ⟨c0, c1⟩ := HC.out wr hkx
          have hrow : RowNs wr g (namesOf D ⟨node, rk⟩) := (own_names HOwn.out).kept ((hkx g hSg).trans (HNx.out g hSg).symm)
          obtain ⟨n0, n1, n2, n3⟩ := hrow j x.nm (by rw [namesOf_allR, List.getElem?_map, hx]; rfl)
          have hxD : x ∈ D := (List.mem_filter.1 (List.mem_of_getElem? hx)).1
          have HJx1 := Lib.hid hJx1
          have HKx := Lib.hid hkx
          have HAt := Lib.hid hat
          obtain ⟨wa, hwa⟩ : ∃ wa, wa = wr.alloc (.cells #[.int .u32 x.nm.n, .int .u32 x.nm.m, .int .u64 x.nm.t, .int .u32 x.nm.q] 28) := ⟨_, rfl⟩
          have HBa : Hid (Below wr.heap.size wr wa) := by rw [hwa]; exact below_al (Below.refl _ _) _
          have HXa : Hid (RowB wa wr.heap.size x.nm.cells ∧ wr.heap.size < wa.heap.size) := by
            rw [Hid, hwa]
            exact ⟨RowB.new wr x.nm.cells _, by simp⟩
          have HLk : Hid (∀ X : World, X.heap[bw]? = wr.heap[bw]? → (Instr.lookup 60 (.map (some bw)) (.agg #[.int .u32 x.nm.n, .int .u32 x.nm.m, .int .u64 x.nm.t, .int .u32 x.nm.q]) false).run Tryd.prog X = .ok (.agg #[.int .u32 x.nm.n, .int .u32 x.nm.m, .int .u64 x.nm.t, .int .u32 x.nm.q, .int .u32 x.node, .int .i64 x.rank, .int .i64 x.size]) X) := fun X hX => by
            have := (q3.kept hX).look keyNm Tryd.underlying60 zeroWt x.nm false
            rw [if_neg (by simp), q5.1, wt_of_mem q5.2.2 hxD] at this
            exact this
          have HBw : Hid (bw < wr.heap.size ∧ p < wr.heap.size ∧ S bw ∧ S p) := ⟨q3.lt, q1.lt, q6.2.2.1, q6.1⟩
          have HPc : Hid (∀ X : World, X.heap[p]? = wr.heap[p]? → X.cell? ⟨p, 2, none⟩ = some (.map (some bw))) := fun X hX => ((q1.kept hX).1 2 _ rfl)
          have HWa := Lib.hid hwa
          clear hJx1 hkx hat q1 q2 q3 q4 q5 q6 q7 hrow c1 hwa hxD hx
          gi_wp2
          rw [← HWa.out]
          refine wpIn_region_TI (fun X => (X.cell? ⟨bl, 0, none⟩ = some (.pointer (some ⟨p, 0, none⟩)) ∧ X.cell? ⟨p, 2, none⟩ = some (.map (some bw)) ∧ (X.cell? ⟨wr.heap.size, 0, none⟩ = some (.int .u32 x.nm.n) ∧ X.cell? ⟨wr.heap.size, 1, none⟩ = some (.int .u32 x.nm.m) ∧ X.cell? ⟨wr.heap.size, 2, none⟩ = some (.int .u64 x.nm.t) ∧ X.cell? ⟨wr.heap.size, 3, none⟩ = some (.int .u32 x.nm.q)) ∧ (Instr.lookup 60 (.map (some bw)) (.agg #[.int .u32 x.nm.n, .int .u32 x.nm.m, .int .u64 x.nm.t, .int .u32 x.nm.q]) false).run Tryd.prog X = .ok (.agg #[.int .u32 x.nm.n, .int .u32 x.nm.m, .int .u64 x.nm.t, .int .u32 x.nm.q, .int .u32 x.node, .int .i64 x.rank, .int .i64 x.size]) X)) 9 (by kernel_rfl) ?_
          obtain ⟨wd, hwd⟩ : ∃ wd, wd = wa.drew := ⟨_, rfl⟩
          rw [← hwd]
          have hhd : wd.heap = wa.heap := by rw [hwd]; rfl
          have hJd : J (offR D node i + j) wd := hJ _ wa wd none (by rw [HWa.out]; exact hJ.alloc _ HJx1.out) (by rw [hwd]; exact ⟨rfl, rfl, rfl, Nat.le_refl _, fun _ _ _ => rfl⟩) (fun r e => by cases e)
          have HNm : Hid (¬ M wd wr.heap.size) := fun hm => by
            have h1 : M wa wr.heap.size := hM wa wd none (by have := HXa.out.2; omega) (by rw [hwd]; exact ⟨rfl, rfl, rfl, Nat.le_refl _, fun _ _ _ => rfl⟩) (fun r e => by cases e) _ hm
            have h2 : M wr wr.heap.size := hM wr wa none hzx (by rw [HWa.out]; exact World.grownBy_alloc _ _ _) (fun r e => by cases e) _ h1
            exact absurd (hJM _ _ HJx1.out _ h2) (Nat.lt_irrefl _)
          have HZd : Hid (W.heap.size ≤ wd.heap.size ∧ wr.heap.size < wd.heap.size ∧ W.heap.size ≤ wr.heap.size) := ⟨by rw [hhd]; have := HXa.out.2; omega, by rw [hhd]; exact HXa.out.2, hzx⟩
          have HKd : Hid (KeepB S W wd) := fun b hb => by
            rw [hhd, HBa.out.block b (by have := HSw.out b hb; omega)]
            exact HKx.out b hb
          have HSX : Hid (∀ X : World, KeepB S W X → X.heap[wr.heap.size]? = wd.heap[wr.heap.size]? → (X.cell? ⟨bl, 0, none⟩ = some (.pointer (some ⟨p, 0, none⟩)) ∧ X.cell? ⟨p, 2, none⟩ = some (.map (some bw)) ∧ (X.cell? ⟨wr.heap.size, 0, none⟩ = some (.int .u32 x.nm.n) ∧ X.cell? ⟨wr.heap.size, 1, none⟩ = some (.int .u32 x.nm.m) ∧ X.cell? ⟨wr.heap.size, 2, none⟩ = some (.int .u64 x.nm.t) ∧ X.cell? ⟨wr.heap.size, 3, none⟩ = some (.int .u32 x.nm.q)) ∧ (Instr.lookup 60 (.map (some bw)) (.agg #[.int .u32 x.nm.n, .int .u32 x.nm.m, .int .u64 x.nm.t, .int .u32 x.nm.q]) false).run Tryd.prog X = .ok (.agg #[.int .u32 x.nm.n, .int .u32 x.nm.m, .int .u64 x.nm.t, .int .u32 x.nm.q, .int .u32 x.node, .int .i64 x.rank, .int .i64 x.size]) X)) := fun X hk hb => by
            have hr := HXa.out.1.kept (w' := X) (by rw [hb, hhd])
            exact ⟨(HC.out X hk).1, HPc.out X ((hk p HBw.out.2.2.2).trans (HKx.out p HBw.out.2.2.2).symm), ⟨hr.1 0 _ rfl, hr.1 1 _ rfl, hr.1 2 _ rfl, hr.1 3 _ rfl⟩, HLk.out X ((hk bw HBw.out.2.2.1).trans (HKx.out bw HBw.out.2.2.1).symm)⟩
          have hS0 : (wd.cell? ⟨bl, 0, none⟩ = some (.pointer (some ⟨p, 0, none⟩)) ∧ wd.cell? ⟨p, 2, none⟩ = some (.map (some bw)) ∧ (wd.cell? ⟨wr.heap.size, 0, none⟩ = some (.int .u32 x.nm.n) ∧ wd.cell? ⟨wr.heap.size, 1, none⟩ = some (.int .u32 x.nm.m) ∧ wd.cell? ⟨wr.heap.size, 2, none⟩ = some (.int .u64 x.nm.t) ∧ wd.cell? ⟨wr.heap.size, 3, none⟩ = some (.int .u32 x.nm.q)) ∧ (Instr.lookup 60 (.map (some bw)) (.agg #[.int .u32 x.nm.n, .int .u32 x.nm.m, .int .u64 x.nm.t, .int .u32 x.nm.q]) false).run Tryd.prog wd = .ok (.agg #[.int .u32 x.nm.n, .int .u32 x.nm.m, .int .u64 x.nm.t, .int .u32 x.nm.q, .int .u32 x.node, .int .i64 x.rank, .int .i64 x.size]) wd) := HSX.out wd HKd.out rfl
          have HHd : Hid (wd.heap = wa.heap) := hhd
          clear n0 n1 n2 n3 c0 hhd hwd
          refine wpAnyTI_take (i := 0) (v := ?_) rfl (by kernel_rfl) (by kernel_rfl) (by kernel_rfl) (by kernel_rfl) (by kernel_rfl) (fun _ _ _ h => h) ⟨Or.inl ⟨by rfl, ?_⟩, fun _ => by rfl⟩ hS0 ?_
          rotate_left
          · intro w hSw
            (try dsimp only at hSw)
            go_simp
            all_goals with_reducible rfl
          simp only [Act.put, List.setIfInBounds_toArray, List.set_cons_zero, List.set_cons_succ]
          refine wpAnyTI_take (i := 1) (v := ?_) rfl (by kernel_rfl) (by kernel_rfl) (by kernel_rfl) (by kernel_rfl) (by kernel_rfl) (fun _ _ _ h => h) ⟨Or.inl ⟨by rfl, ?_⟩, fun _ => by rfl⟩ hS0 ?_
          rotate_left
          · intro w hSw
            (try dsimp only at hSw)
            go_simp
            all_goals with_reducible rfl
          simp only [Act.put, List.setIfInBounds_toArray, List.set_cons_zero, List.set_cons_succ]
          refine wpAnyTI_take (i := 2) (v := ?_) rfl (by kernel_rfl) (by kernel_rfl) (by kernel_rfl) (by kernel_rfl) (by kernel_rfl) (fun _ _ _ h => h) ⟨Or.inl ⟨by rfl, ?_⟩, fun _ => by rfl⟩ hS0 ?_
          rotate_left
          · intro w hSw
            (try dsimp only at hSw)
            go_simp
            all_goals with_reducible rfl
          simp only [Act.put, List.setIfInBounds_toArray, List.set_cons_zero, List.set_cons_succ]
          refine wpAnyTI_take (i := 3) (v := ?_) rfl (by kernel_rfl) (by kernel_rfl) (by kernel_rfl) (by kernel_rfl) (by kernel_rfl) (fun _ _ _ h => h) ⟨Or.inl ⟨by rfl, ?_⟩, fun _ => by rfl⟩ hS0 ?_
          rotate_left
          · intro w hSw
            (try dsimp only at hSw)
            go_simp
            all_goals with_reducible rfl
          simp only [Act.put, List.setIfInBounds_toArray, List.set_cons_zero, List.set_cons_succ]
          refine wpAnyTI_take (i := 4) (v := ?_) rfl (by kernel_rfl) (by kernel_rfl) (by kernel_rfl) (by kernel_rfl) (by kernel_rfl) (fun _ _ _ h => h) ⟨Or.inl ⟨by rfl, ?_⟩, fun _ => by rfl⟩ hS0 ?_
          rotate_left
          · intro w hSw
            (try dsimp only at hSw)
            go_simp
            all_goals with_reducible rfl
          simp only [Act.put, List.setIfInBounds_toArray, List.set_cons_zero, List.set_cons_succ]
          refine wpAnyTI_take (i := 5) (v := ?_) rfl (by kernel_rfl) (by kernel_rfl) (by kernel_rfl) (by kernel_rfl) (by kernel_rfl) (fun _ _ _ h => h) ⟨Or.inl ⟨by rfl, ?_⟩, fun _ => by rfl⟩ hS0 ?_
          rotate_left
          · intro w hSw
            (try dsimp only at hSw)
            go_simp
            all_goals with_reducible rfl
          simp only [Act.put, List.setIfInBounds_toArray, List.set_cons_zero, List.set_cons_succ]
          refine wpAnyTI_take (i := 6) (v := ?_) rfl (by kernel_rfl) (by kernel_rfl) (by kernel_rfl) (by kernel_rfl) (by kernel_rfl) (fun _ _ _ h => h) ⟨Or.inl ⟨by rfl, ?_⟩, fun _ => by rfl⟩ hS0 ?_
          rotate_left
          · intro w hSw
            (try dsimp only at hSw)
            go_simp
            all_goals with_reducible rfl
          simp only [Act.put, List.setIfInBounds_toArray, List.set_cons_zero, List.set_cons_succ]
          obtain ⟨fn, tmps, assign, body, hy, hR⟩ := HY.out (offR D node i + j) wd HAt.out.2 hJd HZd.out.1
          rw [HAt.out.1] at hy
          unfold encWt at hy
          clear hJd
          refine wpAnyTI_one (i := 7) (by kernel_rfl) rfl (fun K' hK => ?_)
          go_simp
          refine hR.mono ?_
          rintro e X3 (⟨rfl, hJ3, hz3, hk3⟩ | ⟨rfl, hJx3, hz3, hk3⟩)
          · have HJ3 := Lib.hid hJ3
            have HK3 : Hid (KeepB S W X3) := fun b hb => (hk3.1 b (.inl hb)).trans (HKd.out b hb)
            have HZ3 : Hid (W.heap.size ≤ X3.heap.size) := Nat.le_trans HZd.out.1 hz3
            have hS3 := HSX.out X3 HK3.out (hk3.1 _ (.inr ⟨HZd.out.2.2, HZd.out.2.1, HNm.out⟩))
            clear hJ3 hz3 hk3
            refine hK.out _ _ (fun _ => hS3) ?_
            clear hK K'
            try simp only [Act.put, List.setIfInBounds_toArray, List.set_cons_zero, List.set_cons_succ]
            refine wpAnyTI_one (i := 8) (by kernel_rfl) rfl (fun K' hK => ?_)
            go_simp
            refine hK.out _ _ (fun _ => hS3) ?_
            clear hK K' hS3
            try simp only [Act.put, List.setIfInBounds_toArray, List.set_cons_zero, List.set_cons_succ]
            refine wpAnyTI_done (by kernel_rfl) ?_ _
            simp only [Exit.then]
            gi_wp2
            go_roundw
            case rel => exact ⟨j + 1, by omega, by go_num, HJ3.out, HK3.out, HZ3.out⟩
            case measure => simp [intOf]; omega
          · have HJ3 := Lib.hid hJx3
            have HK3 : Hid (KeepB S W X3) := fun b hb => (hk3.1 b (.inl hb)).trans (HKd.out b hb)
            have hS3 := HSX.out X3 HK3.out (hk3.1 _ (.inr ⟨HZd.out.2.2, HZd.out.2.1, HNm.out⟩))
            clear hJx3 hz3 hk3
            refine hK.out _ _ (fun _ => hS3) ?_
            clear hK K'
            try simp only [Act.put, List.setIfInBounds_toArray, List.set_cons_zero, List.set_cons_succ]
            refine wpAnyTI_one (i := 8) (by kernel_rfl) rfl (fun K' hK => ?_)
            go_simp
            refine hK.out _ _ (fun _ => hS3) ?_
            clear hK K' hS3
            try simp only [Act.put, List.setIfInBounds_toArray, List.set_cons_zero, List.set_cons_succ]
            refine wpAnyTI_done (by kernel_rfl) ?_ _
            simp only [Exit.then]
            gi_wp2
            simp only [Exit.jump]
            go_end0
            exact ⟨⟨_, rfl⟩, .inr ⟨_, HAt.out.2, HJ3.out⟩⟩
        · obtain rfl : j = n := by omega
          have HJx1 := Lib.hid hJx1
          have HKx := Lib.hid hkx
          clear hJx1 hkx
          gi_wp2
          go_roundw
          case rel => exact ⟨i + 1, by omega, by go_num, by have := HJx1.out; rw [HNn.out, HRk.out] at this; exact this, HKx.out, hzx⟩
          case measure => simp [intOf]; omega
    · obtain rfl : i = 3 := by omega
      have HJs := Lib.hid hJs
      clear hJs
      gi_wp2
      simp only [Exit.jump]
      go_end0
      exact ⟨⟨_, rfl⟩, .inl (by have := HJs.out; rw [offR_three] at this; exact this)⟩

/-- It may be gone over at any later world that has the line. -/
theorem ordered_goM (S : Nat → Prop) (p : Nat) (most node : Int) (D : List Wt) (w w1 : World) (h : LineAt w S p most D) (hS : ∀ b, S b → b < w.heap.size) (hT : TabR w) (hlen : D.length ≤ 100000)
    (h1 : w1 = (w.alloc (.cells #[.pointer (some ⟨p, 0, none⟩)] 32)).alloc (.cells #[.int .u32 node] 23)) (X : World) (hX : ∀ b, ordS S w.heap.size (w.heap.size + 1) b → X.heap[b]? = w1.heap[b]?) (hz : w1.heap.size ≤ X.heap.size) :
    GoesM Tryd.prog 59 #[.pointer (some ⟨w.heap.size, 0, none⟩), .pointer (some ⟨w.heap.size + 1, 0, none⟩)] (fun k => #[encWt (atW (allOf D node) k)]) (ordS S w.heap.size (w.heap.size + 1)) (allOf D node).length X := by
  have hb : Below w.heap.size w w1 := by rw [h1]; exact below_al (below_al (Below.refl _ _) _) _
  have hz1 : w1.heap.size = w.heap.size + 1 + 1 := by rw [h1]; simp
  have r1 : RowB w1 w.heap.size [.pointer (some ⟨p, 0, none⟩)] := by
    rw [h1]
    exact (RowB.new w [.pointer (some ⟨p, 0, none⟩)] _).on (below_al (Below.refl _ _) _) (by simp)
  have r2 : RowB w1 (w.heap.size + 1) [.int .u32 node] := by
    rw [h1]
    have := RowB.new (w.alloc (.cells #[.pointer (some ⟨p, 0, none⟩)] 32)) [.int .u32 node] 23
    rw [show (w.alloc (.cells #[.pointer (some ⟨p, 0, none⟩)] 32)).heap.size = w.heap.size + 1 by simp] at this
    exact this
  have hl : LineAt X (ordS S w.heap.size (w.heap.size + 1)) p most D := ((h.on hb).kept fun b hb' _ => hX b (.inl hb')).into fun b hb' => .inl hb'
  have hg := hT.lt
  exact ordered_goesM (ordS S w.heap.size (w.heap.size + 1)) p w.heap.size (w.heap.size + 1) most node D X hl ((hT.on hb).kept (hX _ (.inr (.inr (.inr rfl))))) (fun b hb' => by
    rcases hb' with h | h | h | h
    · have := hS b h; omega
    · omega
    · omega
    · omega) (.inr (.inl rfl)) (.inr (.inr (.inl rfl))) (.inr (.inr (.inr rfl))) hlen ((r1.kept (hX _ (.inr (.inl rfl)))).1 0 _ rfl) ((r2.kept (hX _ (.inr (.inr (.inl rfl))))).1 0 _ rfl)


end Go.Proofs.YthfndphngeaihaaDoor
