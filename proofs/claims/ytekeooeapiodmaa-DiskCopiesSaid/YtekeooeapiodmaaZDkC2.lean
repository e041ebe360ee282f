/- DiskCopies, walked: few, of all calls in one row. -/
import Derived.Test.YtekeooeapiodmaaZDkC1
import Derived.Test.YtekeooeapiodmaaZDkM2
namespace Go.Proofs.Ytekeooeapiodmaa
open Go Go.RowKit Go.Shelf
set_option linter.unusedSimpArgs false
set_option linter.unusedVariables false
set_option maxRecDepth 100000

attribute [local go_sem] Oper.semAt_some

theorem r10 {w : World} {b : Nat} {c0 c1 c2 c3 c4 c5 c6 c7 c8 c9 : Value} (h : RowB w b [c0, c1, c2, c3, c4, c5, c6, c7, c8, c9]) : (w.cell? ⟨b, 0, none⟩ = some c0 ∧ w.cell? ⟨b, 1, none⟩ = some c1 ∧ w.cell? ⟨b, 2, none⟩ = some c2 ∧ w.cell? ⟨b, 3, none⟩ = some c3 ∧ w.cell? ⟨b, 4, none⟩ = some c4) ∧ w.cell? ⟨b, 5, none⟩ = some c5 ∧ w.cell? ⟨b, 6, none⟩ = some c6 ∧ w.cell? ⟨b, 7, none⟩ = some c7 ∧ w.cell? ⟨b, 8, none⟩ = some c8 ∧ w.cell? ⟨b, 9, none⟩ = some c9 :=
  ⟨⟨h.1 0 _ rfl, h.1 1 _ rfl, h.1 2 _ rfl, h.1 3 _ rfl, h.1 4 _ rfl⟩, h.1 5 _ rfl, h.1 6 _ rfl, h.1 7 _ rfl, h.1 8 _ rfl, h.1 9 _ rfl⟩
theorem src_kept {w w' : World} {b : Nat} {ys : List Value} {row : Option Nat} (h : Src w (some ⟨b, 0, none⟩) ys) (hg : w.grownBy w' row) (hne : row ≠ some b) : Src w' (some ⟨b, 0, none⟩) ys := by
  rcases h with h | ⟨ad, e, hc⟩
  · exact .inl h
  · refine .inr ⟨ad, e, fun j u hu => ?_⟩
    injection e with e
    subst e
    have h1 := hc j u hu
    rw [mk_addr_add] at h1 ⊢
    have hl := World.block_lt_of_cell? w _ h1
    exact (World.cell?_of_block (a := ⟨b, 0 + j, none⟩) (hg.block b hl (Ne.symm hne))).trans h1

theorem DStK.butK {w0 w w' : World} {p : Nat} {D : DkM} {R : List (Nat × List Value)} {M : Nat} {vs : List Value} (h : DSt w0 w p D ((M, vs) :: R)) (hM : w0.heap.size ≤ M) (hne : ∀ r ∈ R, r.1 ≠ M) (hb : ButD w.heap.size M w w') : DStK (fun b => betw w w' b ∨ b = M) w' w0 w' p D R := by
  obtain ⟨S, hd, hk, hS, hB, hR, _⟩ := h
  obtain ⟨_, hn, hl⟩ := hR _ (List.mem_cons_self ..)
  refine ⟨S, hd.kept (fun b h1 h2 => hb.block b h2 (by rintro rfl; exact hn h1)) fun _ h => h, hk, fun b h => ⟨(hS b h).1, Nat.lt_of_lt_of_le (hS b h).2 hb.size⟩, ?_, fun r hr => ?_, fun b hbk => ?_⟩
  · exact hB.trans (ButS.below hb hB.size fun k hk => by rw [hk]; exact hM)
  · obtain ⟨h1, h2, h3⟩ := hR r (List.mem_cons_of_mem _ hr)
    exact ⟨h1.kept (hb.block _ h3 (hne r hr)), h2, Nat.lt_of_lt_of_le h3 hb.size⟩
  · rcases hbk with hbk | rfl
    · refine ⟨rfl, fun hs => ?_, hbk.2, fun r hr e => ?_⟩
      · have := (hS b hs).2
        have := hbk.1
        omega
      · have := (hR r (List.mem_cons_of_mem _ hr)).2.2
        have := hbk.1
        omega
    · exact ⟨rfl, hn, Nat.lt_of_lt_of_le hl hb.size, hne⟩
theorem DStK.weaken {K K' : Nat → Prop} {wk w0 w : World} {p : Nat} {D : DkM} {R : List (Nat × List Value)} (h : DStK K wk w0 w p D R) (hs : ∀ b, K' b → K b) : DStK K' wk w0 w p D R := by
  obtain ⟨S, h1, h2, h3, h4, h5, h6⟩ := h
  exact ⟨S, h1, h2, h3, h4, h5, fun b hb => h6 b (hs b hb)⟩
theorem DStK.kp {K : Nat → Prop} {wk w0 w : World} {p : Nat} {D : DkM} {R : List (Nat × List Value)} (h : DStK K wk w0 w p D R) {b : Nat} (hb : K b) : w.heap[b]? = wk.heap[b]? ∧ b < w.heap.size ∧ ∀ r ∈ R, r.1 ≠ b := by
  obtain ⟨S, _, _, _, _, _, h6⟩ := h
  exact ⟨(h6 b hb).1, (h6 b hb).2.2.1, (h6 b hb).2.2.2⟩
theorem DStK.copyK2 {K : Nat → Prop} {wk w0 w : World} {p : Nat} {D : DkM} {R : List (Nat × List Value)} (h : DStK K wk w0 w p D R) :
    Calls Try.prog 16 #[.pointer (some ⟨p, 0, none⟩)] w fun e w' => ∃ q, e = .returned (.pointer (some ⟨q, 0, none⟩)) ∧ DStK (fun b => K b ∨ betw w w' b) w' w0 w' p D R ∧ DSt w w' q D [] ∧ Below w.heap.size w w' := by
  obtain ⟨S, hd, hok, hS, hB, hR, hK⟩ := h
  refine (copy_any S p D hok w hd).mono ?_
  rintro e w' ⟨⟨q, rfl, hq⟩, hb⟩
  refine ⟨q, rfl, ⟨S, hd.on hb, hok, fun b h => ⟨(hS b h).1, Nat.lt_of_lt_of_le (hS b h).2 hb.size⟩, below_on hB hb, fun r hr => ⟨(hR r hr).1.on hb (hR r hr).2.2, (hR r hr).2.1, Nat.lt_of_lt_of_le (hR r hr).2.2 hb.size⟩, fun b hk => ?_⟩, .start (k := 0) hq hb hok, hb⟩
  rcases hk with hk | hk
  · exact ⟨rfl, (hK b hk).2.1, Nat.lt_of_lt_of_le (hK b hk).2.2.1 hb.size, (hK b hk).2.2.2⟩
  · refine ⟨rfl, fun hs => ?_, hk.2, fun r hr => ?_⟩
    · have := (hS b hs).2
      have := hk.1
      omega
    · have := (hR r hr).2.2
      have := hk.1
      omega

set_option maxHeartbeats 16000000 in
theorem copies_any (A : Option Addr) (C : Nat) (l : List AcT) (x y : AcT) (many : Int) (hmany : -9223372036854775808 ≤ many ∧ many < 9223372036854775808) (hlen : l.length * 56 ≤ 140737488351232) (w : World) (hr : RdAc w w.heap.size A l) (hx : x.fit w w.heap.size) (hy : y.fit w w.heap.size) :
    Calls Try.prog 4 #[.slice A l.length C, .agg #[.int .i64 x.what, .int .i64 x.ka, .int .i64 x.mo, .int .u8 (x.bt.toNat : Int), .slice x.kA x.keep.length x.kC, .int .i64 y.what, .int .i64 y.ka, .int .i64 y.mo, .int .u8 (y.bt.toNat : Int), .slice y.kA y.keep.length y.kC], .int .i64 many] w fun e w' => e = .returned (.bool true) ∧ Below w.heap.size w w' := by
  obtain ⟨W, hW⟩ : ∃ W, W = ((w.alloc (.cells #[.int .i64 x.what, .int .i64 x.ka, .int .i64 x.mo, .int .u8 (x.bt.toNat : Int), .slice x.kA x.keep.length x.kC, .int .i64 y.what, .int .i64 y.ka, .int .i64 y.mo, .int .u8 (y.bt.toNat : Int), .slice y.kA y.keep.length y.kC] 43)).alloc (.cells #[.int .i64 many] 3)).alloc (.cells #[.bool false] 4) := ⟨_, rfl⟩
  have HB0 : Hid (Below w.heap.size w W) := by rw [hW]; exact below_al (below_al (below_al (Below.refl _ _) _) _) _
  have HWz : Hid (W.heap.size = w.heap.size + 3) := by rw [Hid, hW]; simp
  have HX : Hid (∀ w', Below W.heap.size W w' → RowB w' w.heap.size [.int .i64 x.what, .int .i64 x.ka, .int .i64 x.mo, .int .u8 (x.bt.toNat : Int), .slice x.kA x.keep.length x.kC, .int .i64 y.what, .int .i64 y.ka, .int .i64 y.mo, .int .u8 (y.bt.toNat : Int), .slice y.kA y.keep.length y.kC] ∧ RowB w' (w.heap.size + 1) [.int .i64 many] ∧ RowB w' (w.heap.size + 2) [.bool false]) := fun w' hb => by
    rw [hW] at hb
    have h2 := RowB.al (vs := [.bool false]) hb
    have h01 := two_rows (vs := [.int .i64 x.what, .int .i64 x.ka, .int .i64 x.mo, .int .u8 (x.bt.toNat : Int), .slice x.kA x.keep.length x.kC, .int .i64 y.what, .int .i64 y.ka, .int .i64 y.mo, .int .u8 (y.bt.toNat : Int), .slice y.kA y.keep.length y.kC]) (us := [.int .i64 many]) (below_on (below_al (Below.refl _ _) _) hb)
    rw [World.size_alloc, World.size_alloc] at h2
    exact ⟨h01.1, h01.2, h2⟩
  have HR : Hid (∀ X, Below W.heap.size W X → RdAc X X.heap.size A l) := fun X hX => (hr.on HB0.out).on hX
  have HFx : Hid (∀ X, Below W.heap.size W X → x.fit X X.heap.size ∧ y.fit X X.heap.size) := fun X hX => ⟨(hx.on HB0.out).on hX, (hy.on HB0.out).on hX⟩
  have HLen : Hid (l.length * 56 ≤ 140737488351232) := hlen
  have HMany : Hid (-9223372036854775808 ≤ many ∧ many < 9223372036854775808) := hmany
  obtain ⟨nl, hnl⟩ : ∃ nl, nl = l.length := ⟨_, rfl⟩
  have HNl := Lib.hid hnl
  have HW := Lib.hid hW
  rw [← hnl] at HLen ⊢
  clear hW hr hx hy hlen hmany hnl
  refine calls_of_marks Try.func4 rfl ?_
  simp only [Try.ntmps4, List.size_toArray, List.length_cons, List.length_nil, Nat.reduceAdd, Nat.reduceSub, Array.replicate_succ, Array.replicate_zero, List.push_toArray, List.append_toArray, List.nil_append, List.cons_append]
  go_upto_region 1 with fail
  rw [← HW.out]
  go_cut [32] from 22 to 32 (fun v32 wx => v32 = .bool (!(fewA (l ++ [x, y]) 22)) ∧ Hid (Below W.heap.size W wx))
  case first =>
    obtain ⟨wd, hwd⟩ : ∃ wd, wd = W.drew := ⟨_, rfl⟩
    have HBd : Hid (Below W.heap.size W wd) := by rw [hwd]; exact (Below.refl _ _).drew
    have HWd := Lib.hid hwd
    have HS : Hid (∀ X, Below W.heap.size W X → (X.cell? ⟨w.heap.size, 0, none⟩ = some (.int .i64 x.what) ∧ X.cell? ⟨w.heap.size, 1, none⟩ = some (.int .i64 x.ka) ∧ X.cell? ⟨w.heap.size, 2, none⟩ = some (.int .i64 x.mo) ∧ X.cell? ⟨w.heap.size, 3, none⟩ = some (.int .u8 (x.bt.toNat : Int)) ∧ X.cell? ⟨w.heap.size, 4, none⟩ = some (.slice x.kA x.keep.length x.kC)) ∧
        X.cell? ⟨w.heap.size, 5, none⟩ = some (.int .i64 y.what) ∧ X.cell? ⟨w.heap.size, 6, none⟩ = some (.int .i64 y.ka) ∧ X.cell? ⟨w.heap.size, 7, none⟩ = some (.int .i64 y.mo) ∧ X.cell? ⟨w.heap.size, 8, none⟩ = some (.int .u8 (y.bt.toNat : Int)) ∧ X.cell? ⟨w.heap.size, 9, none⟩ = some (.slice y.kA y.keep.length y.kC)) := fun X hX => r10 (HX.out X hX).1
    clear hwd
    refine wp_onlyN ?_
    refine wp_region_T (fun X => (X.cell? ⟨w.heap.size, 0, none⟩ = some (.int .i64 x.what) ∧ X.cell? ⟨w.heap.size, 1, none⟩ = some (.int .i64 x.ka) ∧ X.cell? ⟨w.heap.size, 2, none⟩ = some (.int .i64 x.mo) ∧ X.cell? ⟨w.heap.size, 3, none⟩ = some (.int .u8 (x.bt.toNat : Int)) ∧ X.cell? ⟨w.heap.size, 4, none⟩ = some (.slice x.kA x.keep.length x.kC)) ∧ X.cell? ⟨w.heap.size, 5, none⟩ = some (.int .i64 y.what) ∧ X.cell? ⟨w.heap.size, 6, none⟩ = some (.int .i64 y.ka) ∧ X.cell? ⟨w.heap.size, 7, none⟩ = some (.int .i64 y.mo) ∧ X.cell? ⟨w.heap.size, 8, none⟩ = some (.int .u8 (y.bt.toNat : Int)) ∧ X.cell? ⟨w.heap.size, 9, none⟩ = some (.slice y.kA y.keep.length y.kC)) 11 (by kernel_rfl) ?_
    rw [← HWd.out]
    refine wpAnyT_take (i := 1) (v := ?_) rfl (by kernel_rfl) (by kernel_rfl) (by kernel_rfl) (by kernel_rfl) (fun _ _ _ h => h) (Or.inl ⟨by rfl, ?_⟩) (HS.out _ HBd.out) ?_
    rotate_left
    · intro w hSw
      (try dsimp only at hSw)
      go_simp
      all_goals with_reducible rfl
    simp only [Act.put, List.setIfInBounds_toArray, List.set_cons_zero, List.set_cons_succ]
    refine wpAnyT_take (i := 3) (v := ?_) rfl (by kernel_rfl) (by kernel_rfl) (by kernel_rfl) (by kernel_rfl) (fun _ _ _ h => h) (Or.inl ⟨by rfl, ?_⟩) (HS.out _ HBd.out) ?_
    rotate_left
    · intro w hSw
      (try dsimp only at hSw)
      go_simp
      all_goals with_reducible rfl
    simp only [Act.put, List.setIfInBounds_toArray, List.set_cons_zero, List.set_cons_succ]
    refine wpAnyT_take (i := 4) (v := ?_) rfl (by kernel_rfl) (by kernel_rfl) (by kernel_rfl) (by kernel_rfl) (fun _ _ _ h => h) (Or.inl ⟨by rfl, ?_⟩) (HS.out _ HBd.out) ?_
    rotate_left
    · intro w hSw
      (try dsimp only at hSw)
      go_simp
      all_goals with_reducible rfl
    simp only [Act.put, List.setIfInBounds_toArray, List.set_cons_zero, List.set_cons_succ]
    refine wpAnyT_take (i := 5) (v := ?_) rfl (by kernel_rfl) (by kernel_rfl) (by kernel_rfl) (by kernel_rfl) (fun _ _ _ h => h) (Or.inl ⟨by rfl, ?_⟩) (HS.out _ HBd.out) ?_
    rotate_left
    · intro w hSw
      (try dsimp only at hSw)
      go_simp
      all_goals with_reducible rfl
    simp only [Act.put, List.setIfInBounds_toArray, List.set_cons_zero, List.set_cons_succ]
    refine wpAnyT_take (i := 6) (v := ?_) rfl (by kernel_rfl) (by kernel_rfl) (by kernel_rfl) (by kernel_rfl) (fun _ _ _ h => h) (Or.inl ⟨by rfl, ?_⟩) (HS.out _ HBd.out) ?_
    rotate_left
    · intro w hSw
      (try dsimp only at hSw)
      go_simp
      all_goals with_reducible rfl
    simp only [Act.put, List.setIfInBounds_toArray, List.set_cons_zero, List.set_cons_succ]
    refine wpAnyT_two (i := 0) (k := 7) (by kernel_rfl) rfl rfl (fun K hK => ?_) (fun K hK => ?_)
    · go_simp
      obtain ⟨w1, hw1⟩ : ∃ X, X = wd.alloc (.cells #[] 40) := ⟨_, rfl⟩
      rw [← hw1]
      have HB1 : Hid (Below W.heap.size W w1) := by rw [hw1]; exact below_al HBd.out _
      have HO1 : Hid (w1.ownsRow W.heap.size 40 5 (.slice (some ⟨wd.heap.size, 0, none⟩) 0 0) 0 []) := by rw [hw1]; exact World.ownsRow_lit wd #[] 0 HBd.out.size (by decide) rfl
      have HE1 : Hid (w1.heap.size = wd.heap.size + 1) := Lib.hid (show w1.heap.size = wd.heap.size + 1 by rw [hw1]; simp)
      clear hw1
      refine hK.out _ _ (fun _ => (HS.out _ HB1.out)) ?_
      clear hK K
      try simp only [Act.put, List.setIfInBounds_toArray, List.set_cons_zero, List.set_cons_succ]
      refine wpAnyT_two (i := 2) (k := 7) (by kernel_rfl) rfl rfl (fun K hK => ?_) (fun K hK => ?_)
      · obtain ⟨v1, w2, hrun, hap⟩ := run_appK (P := Try.prog) w1 W.heap.size 5 (by decide) 22 22 40 _ 56 Try.underlying22 info_act (by kernel_rfl) (.slice (some ⟨wd.heap.size, 0, none⟩) 0 0) 0 [] HO1.out A nl C (flatA l) (by rw [flatA_len, HNl.out]) (HR.out _ HB1.out).src flatA_one (by have := HLen.out; simp only [maxLen]; omega) (by have := HLen.out; omega) HB1.out.size
        have HB2 : Hid (Below W.heap.size W w2) := HB1.out.trans (appK_below hap HO1.out HB1.out.size)
        have hown := hap.1
        rw [List.nil_append, Nat.zero_add] at hown
        obtain ⟨A3, C3, rfl⟩ := own_slice hown
        have HO2 : Hid (w2.ownsRow W.heap.size 40 5 (.slice A3 nl C3) nl (flatA l)) := hown
        refine step_runD (by rfl) _ _ _ _ (by rfl) _ _ _ _ (by rfl) (by rfl) hrun ?_
        clear hrun hap hown
        refine hK.out _ _ (fun _ => (HS.out _ HB2.out)) ?_
        clear hK K
        try simp only [Act.put, List.setIfInBounds_toArray, List.set_cons_zero, List.set_cons_succ]
        refine wpAnyT_one (i := 7) (by kernel_rfl) rfl (fun K hK => ?_)
        go_simp
        obtain ⟨w3, hw3⟩ : ∃ X, X = w2.alloc (.cells #[.int .i64 x.what, .int .i64 x.ka, .int .i64 x.mo, .int .u8 (x.bt.toNat : Int), .slice x.kA x.keep.length x.kC, .int .i64 y.what, .int .i64 y.ka, .int .i64 y.mo, .int .u8 (y.bt.toNat : Int), .slice y.kA y.keep.length y.kC] 40) := ⟨_, rfl⟩
        rw [← hw3]
        have HB3 : Hid (Below W.heap.size W w3) := by rw [hw3]; exact below_al HB2.out _
        have HSc3 : Hid (Src w3 (some ⟨w2.heap.size, 0, none⟩) [.int .i64 x.what, .int .i64 x.ka, .int .i64 x.mo, .int .u8 (x.bt.toNat : Int), .slice x.kA x.keep.length x.kC, .int .i64 y.what, .int .i64 y.ka, .int .i64 y.mo, .int .u8 (y.bt.toNat : Int), .slice y.kA y.keep.length y.kC]) := .inr ⟨_, rfl, fun j u hu => by
          rw [mk_addr_add, Nat.zero_add, hw3]
          exact (RowB.new w2 [.int .i64 x.what, .int .i64 x.ka, .int .i64 x.mo, .int .u8 (x.bt.toNat : Int), .slice x.kA x.keep.length x.kC, .int .i64 y.what, .int .i64 y.ka, .int .i64 y.mo, .int .u8 (y.bt.toNat : Int), .slice y.kA y.keep.length y.kC] 40).1 j u hu⟩
        have HE3 : Hid (w3.heap.size = w2.heap.size + 1) := Lib.hid (show w3.heap.size = w2.heap.size + 1 by rw [hw3]; simp)
        have HO3 : Hid (w3.ownsRow W.heap.size 40 5 (.slice A3 nl C3) nl (flatA l)) := by rw [hw3]; exact HO2.out.alloc _
        clear hw3
        refine hK.out _ _ (fun _ => (HS.out _ HB3.out)) ?_
        clear hK K
        try simp only [Act.put, List.setIfInBounds_toArray, List.set_cons_zero, List.set_cons_succ]
        refine wpAnyT_one (i := 8) (by kernel_rfl) rfl (fun K hK => ?_)
        obtain ⟨v2, w4, hrun, hap⟩ := run_appK (P := Try.prog) w3 W.heap.size 5 (by decide) 22 22 40 _ 56 Try.underlying22 info_act (by kernel_rfl) (.slice A3 nl C3) nl (flatA l) HO3.out (some ⟨w2.heap.size, 0, none⟩) 2 2 [.int .i64 x.what, .int .i64 x.ka, .int .i64 x.mo, .int .u8 (x.bt.toNat : Int), .slice x.kA x.keep.length x.kC, .int .i64 y.what, .int .i64 y.ka, .int .i64 y.mo, .int .u8 (y.bt.toNat : Int), .slice y.kA y.keep.length y.kC] rfl HSc3.out (flatA_one (l := [x, y])) (by have := HLen.out; simp only [maxLen]; omega) (by have := HLen.out; omega) HB3.out.size
        have HB4 : Hid (Below W.heap.size W w4) := HB3.out.trans (appK_below hap HO3.out HB3.out.size)
        have hown := hap.1
        obtain ⟨A4, C4, rfl⟩ := own_slice hown
        have e2 : flatA l ++ [.int .i64 x.what, .int .i64 x.ka, .int .i64 x.mo, .int .u8 (x.bt.toNat : Int), .slice x.kA x.keep.length x.kC, .int .i64 y.what, .int .i64 y.ka, .int .i64 y.mo, .int .u8 (y.bt.toNat : Int), .slice y.kA y.keep.length y.kC] = flatA (l ++ [x, y]) := (flatA_append l [x, y]).symm
        rw [e2] at hown
        have HFew : Hid (Calls Try.prog 10 #[.slice A4 (nl + 2) C4, .int .i64 (22 : Nat)] w4 fun e w' => e = .returned (.bool (fewA (l ++ [x, y]) 22)) ∧ w4 = w') := by
          have e3 : (l ++ [x, y]).length = nl + 2 := by rw [List.length_append, HNl.out]; rfl
          have h := few_any A4 C4 (l ++ [x, y]) 22 (by decide) w4 (by rw [e3]; have := HLen.out; omega) (own_acts hown (by rw [e3]) fun z hz => by
            rcases List.mem_append.1 hz with hz | hz
            · exact (HR.out _ HB4.out).fits z hz
            · simp only [List.mem_cons, List.not_mem_nil, or_false] at hz
              rcases hz with rfl | rfl
              · exact (HFx.out _ HB4.out).1
              · exact (HFx.out _ HB4.out).2)
          rw [e3] at h
          exact h
        refine step_runD (by rfl) _ _ _ _ (by rfl) _ _ _ _ (by rfl) (by rfl) hrun ?_
        clear hrun hap hown e2
        refine hK.out _ _ (fun _ => (HS.out _ HB4.out)) ?_
        clear hK K
        try simp only [Act.put, List.setIfInBounds_toArray, List.set_cons_zero, List.set_cons_succ]
        refine wpAnyT_one (i := 9) (by kernel_rfl) rfl (fun K hK => ?_)
        go_simp
        refine HFew.out.mono ?_
        rintro e w9 ⟨rfl, h9⟩
        rw [← h9]
        clear h9 w9
        refine hK.out _ _ (fun _ => (HS.out _ HB4.out)) ?_
        clear hK K
        try simp only [Act.put, List.setIfInBounds_toArray, List.set_cons_zero, List.set_cons_succ]
        refine wpAnyT_take (i := 10) (v := ?_) rfl (by kernel_rfl) (by kernel_rfl) (by kernel_rfl) (by kernel_rfl) (fun _ _ _ h => h) (Or.inl ⟨by rfl, ?_⟩) (HS.out _ HB4.out) ?_
        rotate_left
        · intro w hSw
          (try dsimp only at hSw)
          go_simp
          all_goals with_reducible rfl
        simp only [Act.put, List.setIfInBounds_toArray, List.set_cons_zero, List.set_cons_succ]
        refine wpAnyT_done (by kernel_rfl) ?_ _
        simp only [onlyN]
        go_wp2_with fail
        go_meet
        case rel => exact ⟨rfl, HB4.out⟩
      · go_simp
        obtain ⟨w2, hw2⟩ : ∃ X, X = w1.alloc (.cells #[.int .i64 x.what, .int .i64 x.ka, .int .i64 x.mo, .int .u8 (x.bt.toNat : Int), .slice x.kA x.keep.length x.kC, .int .i64 y.what, .int .i64 y.ka, .int .i64 y.mo, .int .u8 (y.bt.toNat : Int), .slice y.kA y.keep.length y.kC] 40) := ⟨_, rfl⟩
        rw [← hw2]
        have HB2 : Hid (Below W.heap.size W w2) := by rw [hw2]; exact below_al HB1.out _
        have HSc2 : Hid (Src w2 (some ⟨w1.heap.size, 0, none⟩) [.int .i64 x.what, .int .i64 x.ka, .int .i64 x.mo, .int .u8 (x.bt.toNat : Int), .slice x.kA x.keep.length x.kC, .int .i64 y.what, .int .i64 y.ka, .int .i64 y.mo, .int .u8 (y.bt.toNat : Int), .slice y.kA y.keep.length y.kC]) := .inr ⟨_, rfl, fun j u hu => by
          rw [mk_addr_add, Nat.zero_add, hw2]
          exact (RowB.new w1 [.int .i64 x.what, .int .i64 x.ka, .int .i64 x.mo, .int .u8 (x.bt.toNat : Int), .slice x.kA x.keep.length x.kC, .int .i64 y.what, .int .i64 y.ka, .int .i64 y.mo, .int .u8 (y.bt.toNat : Int), .slice y.kA y.keep.length y.kC] 40).1 j u hu⟩
        have HE2 : Hid (w2.heap.size = w1.heap.size + 1) := Lib.hid (show w2.heap.size = w1.heap.size + 1 by rw [hw2]; simp)
        have HO2 : Hid (w2.ownsRow W.heap.size 40 5 (.slice (some ⟨wd.heap.size, 0, none⟩) 0 0) 0 []) := by rw [hw2]; exact HO1.out.alloc _
        clear hw2
        refine hK.out _ _ (fun _ => (HS.out _ HB2.out)) ?_
        clear hK K
        try simp only [Act.put, List.setIfInBounds_toArray, List.set_cons_zero, List.set_cons_succ]
        refine wpAnyT_one (i := 2) (by kernel_rfl) rfl (fun K hK => ?_)
        obtain ⟨v1, w3, hrun, hap⟩ := run_appK (P := Try.prog) w2 W.heap.size 5 (by decide) 22 22 40 _ 56 Try.underlying22 info_act (by kernel_rfl) (.slice (some ⟨wd.heap.size, 0, none⟩) 0 0) 0 [] HO2.out A nl C (flatA l) (by rw [flatA_len, HNl.out]) (HR.out _ HB2.out).src flatA_one (by have := HLen.out; simp only [maxLen]; omega) (by have := HLen.out; omega) HB2.out.size
        have HB3 : Hid (Below W.heap.size W w3) := HB2.out.trans (appK_below hap HO2.out HB2.out.size)
        have hown := hap.1
        rw [List.nil_append, Nat.zero_add] at hown
        obtain ⟨A3, C3, rfl⟩ := own_slice hown
        have HO3 : Hid (w3.ownsRow W.heap.size 40 5 (.slice A3 nl C3) nl (flatA l)) := hown
        have HSc3 : Hid (Src w3 (some ⟨w1.heap.size, 0, none⟩) [.int .i64 x.what, .int .i64 x.ka, .int .i64 x.mo, .int .u8 (x.bt.toNat : Int), .slice x.kA x.keep.length x.kC, .int .i64 y.what, .int .i64 y.ka, .int .i64 y.mo, .int .u8 (y.bt.toNat : Int), .slice y.kA y.keep.length y.kC]) := src_kept HSc2.out hap.2.1 (fun e => by have e : some wd.heap.size = some w1.heap.size := e; injection e with e; have := HE1.out; have := HE2.out; omega)
        refine step_runD (by rfl) _ _ _ _ (by rfl) _ _ _ _ (by rfl) (by rfl) hrun ?_
        clear hrun hap hown
        refine hK.out _ _ (fun _ => (HS.out _ HB3.out)) ?_
        clear hK K
        try simp only [Act.put, List.setIfInBounds_toArray, List.set_cons_zero, List.set_cons_succ]
        refine wpAnyT_one (i := 8) (by kernel_rfl) rfl (fun K hK => ?_)
        obtain ⟨v2, w4, hrun, hap⟩ := run_appK (P := Try.prog) w3 W.heap.size 5 (by decide) 22 22 40 _ 56 Try.underlying22 info_act (by kernel_rfl) (.slice A3 nl C3) nl (flatA l) HO3.out (some ⟨w1.heap.size, 0, none⟩) 2 2 [.int .i64 x.what, .int .i64 x.ka, .int .i64 x.mo, .int .u8 (x.bt.toNat : Int), .slice x.kA x.keep.length x.kC, .int .i64 y.what, .int .i64 y.ka, .int .i64 y.mo, .int .u8 (y.bt.toNat : Int), .slice y.kA y.keep.length y.kC] rfl HSc3.out (flatA_one (l := [x, y])) (by have := HLen.out; simp only [maxLen]; omega) (by have := HLen.out; omega) HB3.out.size
        have HB4 : Hid (Below W.heap.size W w4) := HB3.out.trans (appK_below hap HO3.out HB3.out.size)
        have hown := hap.1
        obtain ⟨A4, C4, rfl⟩ := own_slice hown
        have e2 : flatA l ++ [.int .i64 x.what, .int .i64 x.ka, .int .i64 x.mo, .int .u8 (x.bt.toNat : Int), .slice x.kA x.keep.length x.kC, .int .i64 y.what, .int .i64 y.ka, .int .i64 y.mo, .int .u8 (y.bt.toNat : Int), .slice y.kA y.keep.length y.kC] = flatA (l ++ [x, y]) := (flatA_append l [x, y]).symm
        rw [e2] at hown
        have HFew : Hid (Calls Try.prog 10 #[.slice A4 (nl + 2) C4, .int .i64 (22 : Nat)] w4 fun e w' => e = .returned (.bool (fewA (l ++ [x, y]) 22)) ∧ w4 = w') := by
          have e3 : (l ++ [x, y]).length = nl + 2 := by rw [List.length_append, HNl.out]; rfl
          have h := few_any A4 C4 (l ++ [x, y]) 22 (by decide) w4 (by rw [e3]; have := HLen.out; omega) (own_acts hown (by rw [e3]) fun z hz => by
            rcases List.mem_append.1 hz with hz | hz
            · exact (HR.out _ HB4.out).fits z hz
            · simp only [List.mem_cons, List.not_mem_nil, or_false] at hz
              rcases hz with rfl | rfl
              · exact (HFx.out _ HB4.out).1
              · exact (HFx.out _ HB4.out).2)
          rw [e3] at h
          exact h
        refine step_runD (by rfl) _ _ _ _ (by rfl) _ _ _ _ (by rfl) (by rfl) hrun ?_
        clear hrun hap hown e2
        refine hK.out _ _ (fun _ => (HS.out _ HB4.out)) ?_
        clear hK K
        try simp only [Act.put, List.setIfInBounds_toArray, List.set_cons_zero, List.set_cons_succ]
        refine wpAnyT_one (i := 9) (by kernel_rfl) rfl (fun K hK => ?_)
        go_simp
        refine HFew.out.mono ?_
        rintro e w9 ⟨rfl, h9⟩
        rw [← h9]
        clear h9 w9
        refine hK.out _ _ (fun _ => (HS.out _ HB4.out)) ?_
        clear hK K
        try simp only [Act.put, List.setIfInBounds_toArray, List.set_cons_zero, List.set_cons_succ]
        refine wpAnyT_take (i := 10) (v := ?_) rfl (by kernel_rfl) (by kernel_rfl) (by kernel_rfl) (by kernel_rfl) (fun _ _ _ h => h) (Or.inl ⟨by rfl, ?_⟩) (HS.out _ HB4.out) ?_
        rotate_left
        · intro w hSw
          (try dsimp only at hSw)
          go_simp
          all_goals with_reducible rfl
        simp only [Act.put, List.setIfInBounds_toArray, List.set_cons_zero, List.set_cons_succ]
        refine wpAnyT_done (by kernel_rfl) ?_ _
        simp only [onlyN]
        go_wp2_with fail
        go_meet
        case rel => exact ⟨rfl, HB4.out⟩
    · go_simp
      obtain ⟨w1, hw1⟩ : ∃ X, X = wd.alloc (.cells #[.int .i64 x.what, .int .i64 x.ka, .int .i64 x.mo, .int .u8 (x.bt.toNat : Int), .slice x.kA x.keep.length x.kC, .int .i64 y.what, .int .i64 y.ka, .int .i64 y.mo, .int .u8 (y.bt.toNat : Int), .slice y.kA y.keep.length y.kC] 40) := ⟨_, rfl⟩
      rw [← hw1]
      have HB1 : Hid (Below W.heap.size W w1) := by rw [hw1]; exact below_al HBd.out _
      have HSc1 : Hid (Src w1 (some ⟨wd.heap.size, 0, none⟩) [.int .i64 x.what, .int .i64 x.ka, .int .i64 x.mo, .int .u8 (x.bt.toNat : Int), .slice x.kA x.keep.length x.kC, .int .i64 y.what, .int .i64 y.ka, .int .i64 y.mo, .int .u8 (y.bt.toNat : Int), .slice y.kA y.keep.length y.kC]) := .inr ⟨_, rfl, fun j u hu => by
        rw [mk_addr_add, Nat.zero_add, hw1]
        exact (RowB.new wd [.int .i64 x.what, .int .i64 x.ka, .int .i64 x.mo, .int .u8 (x.bt.toNat : Int), .slice x.kA x.keep.length x.kC, .int .i64 y.what, .int .i64 y.ka, .int .i64 y.mo, .int .u8 (y.bt.toNat : Int), .slice y.kA y.keep.length y.kC] 40).1 j u hu⟩
      have HE1 : Hid (w1.heap.size = wd.heap.size + 1) := Lib.hid (show w1.heap.size = wd.heap.size + 1 by rw [hw1]; simp)
      clear hw1
      refine hK.out _ _ (fun _ => (HS.out _ HB1.out)) ?_
      clear hK K
      try simp only [Act.put, List.setIfInBounds_toArray, List.set_cons_zero, List.set_cons_succ]
      refine wpAnyT_one (i := 0) (by kernel_rfl) rfl (fun K hK => ?_)
      go_simp
      obtain ⟨w2, hw2⟩ : ∃ X, X = w1.alloc (.cells #[] 40) := ⟨_, rfl⟩
      rw [← hw2]
      have HB2 : Hid (Below W.heap.size W w2) := by rw [hw2]; exact below_al HB1.out _
      have HO2 : Hid (w2.ownsRow W.heap.size 40 5 (.slice (some ⟨w1.heap.size, 0, none⟩) 0 0) 0 []) := by rw [hw2]; exact World.ownsRow_lit w1 #[] 0 HB1.out.size (by decide) rfl
      have HE2 : Hid (w2.heap.size = w1.heap.size + 1) := Lib.hid (show w2.heap.size = w1.heap.size + 1 by rw [hw2]; simp)
      have HSc2 : Hid (Src w2 (some ⟨wd.heap.size, 0, none⟩) [.int .i64 x.what, .int .i64 x.ka, .int .i64 x.mo, .int .u8 (x.bt.toNat : Int), .slice x.kA x.keep.length x.kC, .int .i64 y.what, .int .i64 y.ka, .int .i64 y.mo, .int .u8 (y.bt.toNat : Int), .slice y.kA y.keep.length y.kC]) := by rw [hw2]; exact HSc1.out.alloc _
      clear hw2
      refine hK.out _ _ (fun _ => (HS.out _ HB2.out)) ?_
      clear hK K
      try simp only [Act.put, List.setIfInBounds_toArray, List.set_cons_zero, List.set_cons_succ]
      refine wpAnyT_one (i := 2) (by kernel_rfl) rfl (fun K hK => ?_)
      obtain ⟨v1, w3, hrun, hap⟩ := run_appK (P := Try.prog) w2 W.heap.size 5 (by decide) 22 22 40 _ 56 Try.underlying22 info_act (by kernel_rfl) (.slice (some ⟨w1.heap.size, 0, none⟩) 0 0) 0 [] HO2.out A nl C (flatA l) (by rw [flatA_len, HNl.out]) (HR.out _ HB2.out).src flatA_one (by have := HLen.out; simp only [maxLen]; omega) (by have := HLen.out; omega) HB2.out.size
      have HB3 : Hid (Below W.heap.size W w3) := HB2.out.trans (appK_below hap HO2.out HB2.out.size)
      have hown := hap.1
      rw [List.nil_append, Nat.zero_add] at hown
      obtain ⟨A3, C3, rfl⟩ := own_slice hown
      have HO3 : Hid (w3.ownsRow W.heap.size 40 5 (.slice A3 nl C3) nl (flatA l)) := hown
      have HSc3 : Hid (Src w3 (some ⟨wd.heap.size, 0, none⟩) [.int .i64 x.what, .int .i64 x.ka, .int .i64 x.mo, .int .u8 (x.bt.toNat : Int), .slice x.kA x.keep.length x.kC, .int .i64 y.what, .int .i64 y.ka, .int .i64 y.mo, .int .u8 (y.bt.toNat : Int), .slice y.kA y.keep.length y.kC]) := src_kept HSc2.out hap.2.1 (fun e => by have e : some w1.heap.size = some wd.heap.size := e; injection e with e; have := HE2.out; have := HE1.out; omega)
      refine step_runD (by rfl) _ _ _ _ (by rfl) _ _ _ _ (by rfl) (by rfl) hrun ?_
      clear hrun hap hown
      refine hK.out _ _ (fun _ => (HS.out _ HB3.out)) ?_
      clear hK K
      try simp only [Act.put, List.setIfInBounds_toArray, List.set_cons_zero, List.set_cons_succ]
      refine wpAnyT_one (i := 8) (by kernel_rfl) rfl (fun K hK => ?_)
      obtain ⟨v2, w4, hrun, hap⟩ := run_appK (P := Try.prog) w3 W.heap.size 5 (by decide) 22 22 40 _ 56 Try.underlying22 info_act (by kernel_rfl) (.slice A3 nl C3) nl (flatA l) HO3.out (some ⟨wd.heap.size, 0, none⟩) 2 2 [.int .i64 x.what, .int .i64 x.ka, .int .i64 x.mo, .int .u8 (x.bt.toNat : Int), .slice x.kA x.keep.length x.kC, .int .i64 y.what, .int .i64 y.ka, .int .i64 y.mo, .int .u8 (y.bt.toNat : Int), .slice y.kA y.keep.length y.kC] rfl HSc3.out (flatA_one (l := [x, y])) (by have := HLen.out; simp only [maxLen]; omega) (by have := HLen.out; omega) HB3.out.size
      have HB4 : Hid (Below W.heap.size W w4) := HB3.out.trans (appK_below hap HO3.out HB3.out.size)
      have hown := hap.1
      obtain ⟨A4, C4, rfl⟩ := own_slice hown
      have e2 : flatA l ++ [.int .i64 x.what, .int .i64 x.ka, .int .i64 x.mo, .int .u8 (x.bt.toNat : Int), .slice x.kA x.keep.length x.kC, .int .i64 y.what, .int .i64 y.ka, .int .i64 y.mo, .int .u8 (y.bt.toNat : Int), .slice y.kA y.keep.length y.kC] = flatA (l ++ [x, y]) := (flatA_append l [x, y]).symm
      rw [e2] at hown
      have HFew : Hid (Calls Try.prog 10 #[.slice A4 (nl + 2) C4, .int .i64 (22 : Nat)] w4 fun e w' => e = .returned (.bool (fewA (l ++ [x, y]) 22)) ∧ w4 = w') := by
        have e3 : (l ++ [x, y]).length = nl + 2 := by rw [List.length_append, HNl.out]; rfl
        have h := few_any A4 C4 (l ++ [x, y]) 22 (by decide) w4 (by rw [e3]; have := HLen.out; omega) (own_acts hown (by rw [e3]) fun z hz => by
          rcases List.mem_append.1 hz with hz | hz
          · exact (HR.out _ HB4.out).fits z hz
          · simp only [List.mem_cons, List.not_mem_nil, or_false] at hz
            rcases hz with rfl | rfl
            · exact (HFx.out _ HB4.out).1
            · exact (HFx.out _ HB4.out).2)
        rw [e3] at h
        exact h
      refine step_runD (by rfl) _ _ _ _ (by rfl) _ _ _ _ (by rfl) (by rfl) hrun ?_
      clear hrun hap hown e2
      refine hK.out _ _ (fun _ => (HS.out _ HB4.out)) ?_
      clear hK K
      try simp only [Act.put, List.setIfInBounds_toArray, List.set_cons_zero, List.set_cons_succ]
      refine wpAnyT_one (i := 9) (by kernel_rfl) rfl (fun K hK => ?_)
      go_simp
      refine HFew.out.mono ?_
      rintro e w9 ⟨rfl, h9⟩
      rw [← h9]
      clear h9 w9
      refine hK.out _ _ (fun _ => (HS.out _ HB4.out)) ?_
      clear hK K
      try simp only [Act.put, List.setIfInBounds_toArray, List.set_cons_zero, List.set_cons_succ]
      refine wpAnyT_take (i := 10) (v := ?_) rfl (by kernel_rfl) (by kernel_rfl) (by kernel_rfl) (by kernel_rfl) (fun _ _ _ h => h) (Or.inl ⟨by rfl, ?_⟩) (HS.out _ HB4.out) ?_
      rotate_left
      · intro w hSw
        (try dsimp only at hSw)
        go_simp
        all_goals with_reducible rfl
      simp only [Act.put, List.setIfInBounds_toArray, List.set_cons_zero, List.set_cons_succ]
      refine wpAnyT_done (by kernel_rfl) ?_ _
      simp only [onlyN]
      go_wp2_with fail
      go_meet
      case rel => exact ⟨rfl, HB4.out⟩
  obtain ⟨rfl, HBc⟩ := hcut
  cases hfew : fewA (l ++ [x, y]) 22
  · simp only [Bool.not_false]
    go_wp2_with fail
    refine (dkworks_any _).mono ?_
    rintro e w3 ⟨rfl, hb⟩
    have HB3 := Lib.hid (below_on HBc.out hb)
    clear hb
    have z0 := (HX.out _ HB3.out).2.2.1 0 _ rfl
    have f0 := (HX.out _ HB3.out).2.2.2 0
    go_wp2_with fail
    have hm : w3.cell? ⟨w.heap.size + 2, 0, none⟩ = some (.bool false) := z0
    have h1 := (HX.out _ HB3.out).2.2.set 0 (.bool true)
    refine marks_none (results_cell rfl (by rfl) (bool_load (h1.1 0 _ rfl))) ⟨rfl, ?_⟩
    exact (HB0.out.trans (HB3.out.mono (by have := HWz.out; omega))).setCell (p := ⟨w.heap.size + 2, 0, none⟩) (by simp) _
  have HFine : Hid (∀ z ∈ l ++ [x, y], z.fine = true) := by
    unfold fewA at hfew
    simp only [Bool.and_eq_true, List.all_eq_true] at hfew
    exact hfew.1
  have HL20 : Hid (nl ≤ 20) := by
    have h := few_len hfew
    rw [List.length_append] at h
    have := HNl.out
    simp only [List.length_cons, List.length_nil] at h
    unfold Hid
    omega
  clear hfew
  simp only [Bool.not_true]
  go_wp2_with fail
  have HSc := HBc.out.size
  refine (new_any (6 : Nat) ⟨by decide, by decide⟩ wc).mono ?_
  rintro e w1 ⟨hb, ⟨_, p, rfl, hd⟩ | ⟨hz, _⟩⟩
  rotate_left
  · exact absurd hz (by decide)
  rw [Int.toNat_natCast] at hd
  have HD1 : Hid (DSt wc w1 p (newM 6) []) := .start (k := 0) hd hb (newM_ok (by decide) (by decide))
  clear hb hd
  go_wp2_with fail
  refine (rnew_any 6 (by decide) (by decide) w1).mono ?_
  rintro e w2 ⟨vr, rfl, hv, hb⟩
  obtain ⟨R0, hd2, hv2, hR0⟩ := DStK.ref (R := []) HD1.out (fun r hr => hr) hb (hv.mono fun g l _ h => .inr h)
  have HD2 : Hid (DSt wc w2 p (newM 6) (R0 ++ [])) := hd2
  obtain ⟨A1, C1, A2, C2, rfl, q1, q2⟩ := hv2
  have HV2 : Hid (RfV w2 (inR (R0 ++ [])) (.agg #[.slice A1 (newM 6).n C1, .slice A2 (newM 6).wt.length C2, .int .i64 (newM 6).left]) (newM 6)) := ⟨A1, C1, A2, C2, rfl, q1, q2⟩
  clear hv hb hd2 hR0 q1 q2
  obtain ⟨bw, hbw⟩ : ∃ bw, bw = w2.heap.size := ⟨_, rfl⟩
  obtain ⟨W3, hW3⟩ : ∃ W3, W3 = w2.alloc (.cells #[.slice A1 (newM 6).n C1, .slice A2 (newM 6).wt.length C2, .int .i64 (newM 6).left] 30) := ⟨_, rfl⟩
  have hd3 : DSt wc W3 p (newM 6) ((bw, [.slice A1 (newM 6).n C1, .slice A2 (newM 6).wt.length C2, .int .i64 (newM 6).left]) :: (R0 ++ [])) := by rw [hW3, hbw]; exact HD2.out.alloc1 _ _
  have HBt0 : Hid (Both wc W3 p (newM 6) bw) := ⟨A1, C1, A2, C2, _, hd3, List.mem_cons_self .., HV2.out.stay hd3 fun r hr => List.mem_cons_of_mem _ hr, newM_pl 6⟩
  have HBw : Hid (wc.heap.size ≤ bw) := by rw [hbw]; exact HD2.out.size
  go_upto_region 5 with fail
  rw [← hW3]
  rw [← hbw]
  clear hW3 hd3 hbw HV2 HD2 HD1
  go_wp2_with fail
  refine (dknum_any 0 _).mono ?_
  rintro e9 w9 ⟨rfl, h9⟩
  rw [← h9]
  clear h9 w9
  go_wp2_with fail
  go_loopw [11] (fun v9 wr => ∃ i : Nat, i ≤ nl ∧ v9 = .int .i64 i ∧ Hid (Both wc wr p (runM (l.take i) (newM 6)) bw)) (fun v9 _ => nl - (intOf v9).toNat)
  case atStart => exact ⟨0, Nat.zero_le _, rfl, HBt0.out⟩
  case round =>
    obtain ⟨i, hi, rfl, HI⟩ := hrel
    have HRA := Lib.hid (HR.out wc HBc.out)
    have hM := HL20.out
    by_cases hlt : i < nl
    · have hltI : (i : Int) < (nl : Int) := by omega
      have hms := mless hlt
      obtain ⟨z, hz⟩ : ∃ z, l[i]? = some z := ⟨_, List.getElem?_eq_getElem (by have := HNl.out; omega)⟩
      have HRun : Hid (runM (l.take (i + 1)) (newM 6) = nextM (runM (l.take i) (newM 6)) z.what z.ka z.mo z.bt z.keep) := by rw [Hid, takeA hz, runM_push]
      have HFewI : Hid ((runM (l.take i) (newM 6)).wt.length < 1000000) := Lib.hid (show (runM (l.take i) (newM 6)).wt.length < 1000000 by
        have h1 := runM_few (l.take i) (newM 6)
        have h2 : (newM 6).wt.length = 0 := rfl
        have h3 := List.length_take_le i l
        have := HL20.out
        omega)
      have HAok : Hid (ActOk wc z.what z.ka z.mo z.kA z.keep) := act_ok (HFine.out z (List.mem_append_left _ (List.mem_of_getElem? hz))) (by obtain ⟨_, _, _, _, _, h⟩ := HRA.out.at hz; exact h)
      generalize runM (l.take i) (newM 6) = D at HI HRun HFewI
      obtain ⟨A3, C3, A4, C4, Q, hd, hm, hv, hpl⟩ := HI.out
      have HQm := Lib.hid hm
      have HPl := Lib.hid hpl
      have HDp := Lib.hid hd
      obtain ⟨g, og, rfl, hg, ⟨c0, c1, c2, c3, c4⟩, _⟩ := HRA.out.at hz
      have HS : Hid (∀ X D' Q', DSt wc X p D' Q' → X.cell? ⟨g, og + i * 5, none⟩ = some (.int .i64 z.what) ∧ X.cell? ⟨g, og + i * 5 + 1, none⟩ = some (.int .i64 z.ka) ∧ X.cell? ⟨g, og + i * 5 + 2, none⟩ = some (.int .i64 z.mo) ∧ X.cell? ⟨g, og + i * 5 + 3, none⟩ = some (.int .u8 (z.bt.toNat : Int)) ∧ X.cell? ⟨g, og + i * 5 + 4, none⟩ = some (.slice z.kA z.keep.length z.kC)) := fun X D' Q' h =>
        have hb := h.below
        ⟨(hb.cell (p := ⟨g, _, none⟩) hg).trans c0, (hb.cell (p := ⟨g, _, none⟩) hg).trans c1, (hb.cell (p := ⟨g, _, none⟩) hg).trans c2, (hb.cell (p := ⟨g, _, none⟩) hg).trans c3, (hb.cell (p := ⟨g, _, none⟩) hg).trans c4⟩
      have HXk : Hid (z.bt.toNat < 256) := z.bt.toNat_lt
      clear hd hm hpl hz c0 c1 c2 c3 c4 hg
      go_upto_region 10 with fail
      obtain ⟨wd, hwd⟩ : ∃ wd, wd = wr.drew := ⟨_, rfl⟩
      have HDd : Hid (DSt wc wd p D Q) := by rw [hwd]; exact HDp.out.drew
      have HVd : Hid (RfV wd (inR Q) (.agg #[.slice A3 D.n C3, .slice A4 D.wt.length C4, .int .i64 D.left]) D) := hv.stay HDd.out fun r hr => hr
      have HWd := Lib.hid hwd
      clear hwd hv
      refine wp_onlyN ?_
      refine wp_region_T (fun X => X.cell? ⟨g, og + i * 5, none⟩ = some (.int .i64 z.what) ∧ X.cell? ⟨g, og + i * 5 + 1, none⟩ = some (.int .i64 z.ka) ∧ X.cell? ⟨g, og + i * 5 + 2, none⟩ = some (.int .i64 z.mo) ∧ X.cell? ⟨g, og + i * 5 + 3, none⟩ = some (.int .u8 (z.bt.toNat : Int)) ∧ X.cell? ⟨g, og + i * 5 + 4, none⟩ = some (.slice z.kA z.keep.length z.kC)) 11 (by kernel_rfl) ?_
      rw [← HWd.out]
      refine wpAnyT_take (i := 0) (v := ?_) rfl (by kernel_rfl) (by kernel_rfl) (by kernel_rfl) (by kernel_rfl) (fun _ _ _ h => h) (Or.inl ⟨by rfl, ?_⟩) (HS.out _ _ _ HDd.out) ?_
      rotate_left
      · intro w hSw
        (try dsimp only at hSw)
        go_simp
        all_goals with_reducible rfl
      simp only [Act.put, List.setIfInBounds_toArray, List.set_cons_zero, List.set_cons_succ]
      refine wpAnyT_take (i := 2) (v := ?_) rfl (by kernel_rfl) (by kernel_rfl) (by kernel_rfl) (by kernel_rfl) (fun _ _ _ h => h) (Or.inl ⟨by rfl, ?_⟩) (HS.out _ _ _ HDd.out) ?_
      rotate_left
      · intro w hSw
        (try dsimp only at hSw)
        go_simp
        all_goals with_reducible rfl
      simp only [Act.put, List.setIfInBounds_toArray, List.set_cons_zero, List.set_cons_succ]
      refine wpAnyT_take (i := 3) (v := ?_) rfl (by kernel_rfl) (by kernel_rfl) (by kernel_rfl) (by kernel_rfl) (fun _ _ _ h => h) (Or.inl ⟨by rfl, ?_⟩) (HS.out _ _ _ HDd.out) ?_
      rotate_left
      · intro w hSw
        (try dsimp only at hSw)
        go_simp
        all_goals with_reducible rfl
      simp only [Act.put, List.setIfInBounds_toArray, List.set_cons_zero, List.set_cons_succ]
      refine wpAnyT_take (i := 4) (v := ?_) rfl (by kernel_rfl) (by kernel_rfl) (by kernel_rfl) (by kernel_rfl) (fun _ _ _ h => h) (Or.inl ⟨by rfl, ?_⟩) (HS.out _ _ _ HDd.out) ?_
      rotate_left
      · intro w hSw
        (try dsimp only at hSw)
        go_simp
        all_goals with_reducible rfl
      simp only [Act.put, List.setIfInBounds_toArray, List.set_cons_zero, List.set_cons_succ]
      refine wpAnyT_take (i := 5) (v := ?_) rfl (by kernel_rfl) (by kernel_rfl) (by kernel_rfl) (by kernel_rfl) (fun _ _ _ h => h) (Or.inl ⟨by rfl, ?_⟩) (HS.out _ _ _ HDd.out) ?_
      rotate_left
      · intro w hSw
        (try dsimp only at hSw)
        go_simp
        all_goals with_reducible rfl
      simp only [Act.put, List.setIfInBounds_toArray, List.set_cons_zero, List.set_cons_succ]
      refine wpAnyT_one (i := 1) (by kernel_rfl) rfl (fun K hK => ?_)
      obtain ⟨⟨z0, z1, z2⟩, _⟩ := r3 (HDd.out.row HQm.out)
      go_simp
      clear z0 z1 z2
      refine hK.out _ _ (fun _ => (HS.out _ _ _ HDd.out)) ?_
      clear hK K
      try simp only [Act.put, List.setIfInBounds_toArray, List.set_cons_zero, List.set_cons_succ]
      refine wpAnyT_one (i := 6) (by kernel_rfl) rfl (fun K hK => ?_)
      go_simp
      refine (act_any wc wd p D Q _ HDd.out HPl.out HFewI.out HVd.out z.what z.ka z.mo z.bt z.kA z.kC z.keep HAok.out).mono ?_
      rintro e w6 ⟨vr, R', rfl, hd6, hv6⟩
      have HD6 := Lib.hid hd6
      obtain ⟨A5, C5, A6, C6, rfl, q1, q2⟩ := hv6
      have HV6 : Hid (RfV w6 (inR (R' ++ Q)) (.agg #[.slice A5 (nextM D z.what z.ka z.mo z.bt z.keep).n C5, .slice A6 (nextM D z.what z.ka z.mo z.bt z.keep).wt.length C6, .int .i64 (nextM D z.what z.ka z.mo z.bt z.keep).left]) (nextM D z.what z.ka z.mo z.bt z.keep)) := ⟨A5, C5, A6, C6, rfl, q1, q2⟩
      clear hd6 q1 q2
      refine hK.out _ _ (fun _ => (HS.out _ _ _ HD6.out)) ?_
      clear hK K
      try simp only [Act.put, List.setIfInBounds_toArray, List.set_cons_zero, List.set_cons_succ]
      refine wpAnyT_take (i := 7) (v := ?_) rfl (by kernel_rfl) (by kernel_rfl) (by kernel_rfl) (by kernel_rfl) (fun _ _ _ h => h) (Or.inl ⟨by rfl, ?_⟩) (HS.out _ _ _ HD6.out) ?_
      rotate_left
      · intro w hSw
        (try dsimp only at hSw)
        go_simp
        all_goals with_reducible rfl
      simp only [Act.put, List.setIfInBounds_toArray, List.set_cons_zero, List.set_cons_succ]
      refine wpAnyT_take (i := 8) (v := ?_) rfl (by kernel_rfl) (by kernel_rfl) (by kernel_rfl) (by kernel_rfl) (fun _ _ _ h => h) (Or.inl ⟨by rfl, ?_⟩) (HS.out _ _ _ HD6.out) ?_
      rotate_left
      · intro w hSw
        (try dsimp only at hSw)
        go_simp
        all_goals with_reducible rfl
      simp only [Act.put, List.setIfInBounds_toArray, List.set_cons_zero, List.set_cons_succ]
      refine wpAnyT_take (i := 9) (v := ?_) rfl (by kernel_rfl) (by kernel_rfl) (by kernel_rfl) (by kernel_rfl) (fun _ _ _ h => h) (Or.inl ⟨by rfl, ?_⟩) (HS.out _ _ _ HD6.out) ?_
      rotate_left
      · intro w hSw
        (try dsimp only at hSw)
        go_simp
        all_goals with_reducible rfl
      simp only [Act.put, List.setIfInBounds_toArray, List.set_cons_zero, List.set_cons_succ]
      refine wpAnyT_one (i := 10) (by kernel_rfl) rfl (fun K hK => ?_)
      obtain ⟨⟨z0, z1, z2⟩, f0, f1, f2⟩ := r3 (HD6.out.row (List.mem_append_right _ HQm.out))
      have HDc := Lib.hid (HD6.out.put (List.mem_append_right _ HQm.out) HV6.out HBw.out (.slice A5 (nextM D z.what z.ka z.mo z.bt z.keep).n C5) (.slice A6 (nextM D z.what z.ka z.mo z.bt z.keep).wt.length C6) (.int .i64 (nextM D z.what z.ka z.mo z.bt z.keep).left)).1
      have HBp := Lib.hid (both_put HD6.out (List.mem_append_right _ HQm.out) HV6.out HBw.out (next_pl HPl.out _ _ _ _ _))
      go_simp
      refine hK.out _ _ (fun _ => (HS.out _ _ _ HDc.out)) ?_
      clear hK K
      try simp only [Act.put, List.setIfInBounds_toArray, List.set_cons_zero, List.set_cons_succ]
      refine wpAnyT_done (by kernel_rfl) ?_ _
      obtain ⟨X, hX⟩ : ∃ X, X = set3 w6 bw (.slice A5 (nextM D z.what z.ka z.mo z.bt z.keep).n C5) (.slice A6 (nextM D z.what z.ka z.mo z.bt z.keep).wt.length C6) (.int .i64 (nextM D z.what z.ka z.mo z.bt z.keep).left) := ⟨_, rfl⟩
      rw [← hX] at HBp
      unfold set3 at hX
      rw [← hX]
      clear hX
      simp only [onlyN]
      go_wp2_with fail
      go_roundw
      case rel =>
        refine ⟨i + 1, hlt, by go_num, ?_⟩
        rw [HRun.out]
        exact HBp.out
      case measure => exact hms
    · obtain rfl : i = nl := by omega
      have HFewI : Hid ((runM (l.take i) (newM 6)).wt.length < 1000) := Lib.hid (show (runM (l.take i) (newM 6)).wt.length < 1000 by
        have h1 := runM_few (l.take i) (newM 6)
        have h2 : (newM 6).wt.length = 0 := rfl
        have h3 := List.length_take_le i l
        omega)
      generalize runM (l.take i) (newM 6) = D at HI HFewI
      obtain ⟨A3, C3, A4, C4, Q, hd, hm, hv, hpl⟩ := HI.out
      have HQm := Lib.hid hm
      have HPl := Lib.hid hpl
      have HDq := Lib.hid hd
      have HVq := Lib.hid hv
      have HLt : Hid (∀ r ∈ Q, r.1 < wr.heap.size) := fun r hr => hd.lt hr
      obtain ⟨m, hm2⟩ : ∃ m, m = D.wt.length := ⟨_, rfl⟩
      have HMm := Lib.hid hm2
      have hm3 : m < 1000 := by have := HFewI.out; omega
      clear hd hm hv hpl hm2 HBt0
      have hnil : ∀ (w : World) (g : Nat), (binOp .eql 45 (.func (.func 40) #[] #[.pointer (some ⟨g, 0, none⟩)]) .nilFunc).run Try.prog w = .ok (.bool false) w := fun w g => eql_func_nil w _ _ _ _ _ _ _ Try.underlying45
      go_wp2_with fail
      refine (HDq.out.waits).mono ?_
      rintro e w4 ⟨b4, rfl, hd4, hb4, S5, hS5, hgo⟩
      obtain ⟨W5, hW5⟩ : ∃ W5, W5 = w4.alloc (.cells #[.int .i64 0] 3) := ⟨_, rfl⟩
      obtain ⟨nb, hnb⟩ : ∃ nb, nb = w4.heap.size := ⟨_, rfl⟩
      have HBx5 : Hid (Boxed W5 nb 3 (.int .i64 ((0 : Nat) : Int))) := by rw [hW5, hnb]; exact Boxed.new w4 _ _
      have HD5 : Hid (DSt wc W5 p D ((nb, [.int .i64 0]) :: Q)) := by rw [hW5, hnb]; exact hd4.alloc1 _ _
      have HG : Hid (GoesO Try.prog 40 #[.pointer (some ⟨b4, 0, none⟩)] (fun k => #[.int .i64 (k : Nat), .int .i64 (zAt D.wt k)]) S5 D.wt.length W5) := hgo W5 (by rw [hW5]; exact below_al (Below.refl _ _) _)
      have HS5 : Hid (∀ b, S5 b → b < nb) := fun b hb => by rw [hnb]; exact (hS5 b hb).2
      have HNb : Hid (wr.heap.size ≤ nb ∧ nb + 1 = W5.heap.size ∧ wc.heap.size ≤ wr.heap.size) := Lib.hid (show wr.heap.size ≤ nb ∧ nb + 1 = W5.heap.size ∧ wc.heap.size ≤ wr.heap.size by
        refine ⟨?_, ?_, HDq.out.size⟩
        · rw [hnb]; exact hb4.size
        · rw [hnb, hW5]; simp)
      go_upto_region 12 with fail
      rw [← hW5]
      rw [← hnb]
      clear hW5 hnb hd4 hb4 hS5 hgo HI
      go_wp2_with fail
      have HFact : Hid (∀ X, ButD W5.heap.size nb W5 X → DSt wc X p D Q) := fun X hX => HD5.out.but (by have := HNb.out; omega) (fun r hr => by
        have h1 := HLt.out r hr
        have h2 := HNb.out
        omega) hX
      have HMy : Hid (∀ X, ButD W5.heap.size nb W5 X → X.cell? ⟨w.heap.size + 1, 0, none⟩ = some (.int .i64 many)) := fun X hX => (HX.out X (HBc.out.trans ((HFact.out X hX).below.mono HSc))).2.1.1 0 _ rfl
      have hN2 : w.heap.size + 1 ≠ nb := by have := HNb.out; have := HWz.out; omega
      have HIO : OwnFrom W5.heap.size (fun (k : Nat) X => ButD W5.heap.size nb W5 X ∧ Boxed X nb 3 (.int .i64 (k : Nat))) := OwnFrom.and (butD_own (Nat.le_refl _) (Nat.le_refl _)) ((boxed_own _ _ _).from _)
      refine wp_rangeGoesO_brk2 14 15 (fun k => .int .i64 (k : Nat)) (fun k => .int .i64 (zAt D.wt k)) (gf := 40) (lb := #[.pointer (some ⟨b4, 0, none⟩)]) rfl (enters_of Try.func40 (by kernel_rfl) rfl)
        HG.out (fun b hb => by have := HS5.out b hb; have := HNb.out; omega)
        (fun k X => (ButD W5.heap.size nb W5 X ∧ Boxed X nb 3 (.int .i64 (k : Nat))) ∧ (k = 0 ∨ ¬ many ≤ (k : Int)))
        (fun X => ∃ n : Nat, (ButD W5.heap.size nb W5 X ∧ Boxed X nb 3 (.int .i64 (n : Nat))) ∧ n ≤ m ∧ (many ≤ (n : Int) ∨ n = m) ∧ (n ≤ 1 ∨ ¬ many ≤ (n : Int) - 1) ∧ (n = 0 → m = 0)) 2
        (OwnFrom.and HIO (ownFrom_pure _ _)) (fun _ X Y row hs hg hr => by
          obtain ⟨n, h1, h2⟩ := hs
          exact ⟨n, HIO n X Y row h1 hg hr, h2⟩) ⟨⟨ButS.refl _ _ _, HBx5.out⟩, .inl rfl⟩ ?assign ?body ?done ?qx ?after
      case assign =>
        intro ll k X K hK
        gi_wp2
        exact hK
      case body =>
        rintro ll k X hk hl _ ⟨⟨hbu, hbx⟩, hkm⟩
        have HBu := Lib.hid hbu
        have HBx := Lib.hid hbx
        have HKm := Lib.hid hkm
        have HDX := Lib.hid (HFact.out X hbu)
        have HVX : Hid (RfV X (inR Q) (.agg #[.slice A3 D.n C3, .slice A4 D.wt.length C4, .int .i64 D.left]) D) := HVq.out.stay (R' := Q) HDX.out fun r hr => hr
        obtain ⟨z, hz⟩ : ∃ z, D.wt[k]? = some z := ⟨_, List.getElem?_eq_getElem hk⟩
        obtain ⟨g2, hA2, d0⟩ := rdO_at HVX.out.put (putsL_at hz).1
        have hz9 : zAt D.wt k = z.1 := zAt_eq hz
        obtain ⟨⟨z0, z1, z2⟩, _⟩ := r3 (HDX.out.row HQm.out)
        have y0 := hbx.cell
        have y1 := hbx.frozen
        have m0 := HMy.out X hbu
        rw [hA2, ← HMm.out] at z1
        rw [hz9]
        have hkI : (k : Int) < (m : Int) := by have := HMm.out; omega
        clear hbu hbx hz hA2 hz9 hkm
        refine wpIn_block ?_
        by_cases hge : many ≤ (k : Int) + 1
        · gi_wp2
          refine ⟨⟨⟨by rw [World.size_setCell]; exact Nat.le_refl _, fun i' o' hi' ho _ => (Below.heap_setCell _ _ _ _ (show i' ≠ nb by have := HNb.out; omega)).trans ho⟩, (fun b hb => Below.heap_setCell _ _ _ _ (show b ≠ nb by
            have h2 := HNb.out
            rcases hb with hb | hb
            · have := HS5.out b hb; omega
            · have := hb.1; omega))⟩, rfl, k + 1, ⟨HBu.out.set (.inl rfl) 0 _, ?_⟩, by omega, .inl (by omega), ?_, by omega⟩
          · rw [Int.natCast_add]
            exact HBx.out.set _
          · have := HKm.out
            omega
        · gi_wp2
          refine ⟨⟨by rw [World.size_setCell]; exact Nat.le_refl _, fun i' o' hi' ho _ => (Below.heap_setCell _ _ _ _ (show i' ≠ nb by have := HNb.out; omega)).trans ho⟩, (fun b hb => Below.heap_setCell _ _ _ _ (show b ≠ nb by
            have h2 := HNb.out
            rcases hb with hb | hb
            · have := HS5.out b hb; omega
            · have := hb.1; omega)), ⟨HBu.out.set (.inl rfl) 0 _, ?_⟩, .inr (by omega)⟩
          rw [Int.natCast_add]
          exact HBx.out.set _
      case done =>
        rintro X ⟨⟨hbu, hbx⟩, hkm⟩
        rw [← HMm.out] at hbx hkm
        exact ⟨m, ⟨hbu, hbx⟩, Nat.le_refl _, .inr rfl, by omega, fun h => h⟩
      case qx =>
        intro a X h
        exact wp_exit (by simpa only [Exit.inBlock, if_true, ite_true, beq_self_eq_true] using h)
      case after =>
        rintro Dd X hDd ⟨n, ⟨hbu, hbx⟩, hn1, hn2, hn3, hn4⟩ hK
        have HK := Lib.hid hK
        have HBu := Lib.hid hbu
        have HBxX := Lib.hid hbx
        have HDX : Hid (DStK (fun b => betw W5 X b ∨ b = nb) X wc X p D Q) := HD5.out.butK (by have := HNb.out; omega) (fun r hr => by
          have h1 := HLt.out r hr
          have h2 := HNb.out
          omega) hbu
        have HNm := Lib.hid (minmax_dk many m n hn1 hn2 hn3 hn4)
        have HVX : Hid (RfV X (inR Q) (.agg #[.slice A3 D.n C3, .slice A4 D.wt.length C4, .int .i64 D.left]) D) := HVq.out.stay HDX.out fun r hr => hr
        have HDdK : Hid (betw W5 X Dd) := ⟨hDd, (Array.getElem?_eq_some_iff.1 hK).1⟩
        clear hbu hbx hn1 hn2 hn3 hn4 hK hnil
        go_wp2_with fail
        refine (HDX.out.copyK2).mono ?_
        rintro e wa ⟨q, rfl, hda, hca, hba⟩
        have HDa := Lib.hid hda
        have HCa := Lib.hid hca
        have HBa := Lib.hid hba
        clear hda hca hba
        have HVa : Hid (RfV wa (inR Q) (.agg #[.slice A3 D.n C3, .slice A4 D.wt.length C4, .int .i64 D.left]) D) := HVX.out.stay HDa.out fun r hr => hr
        have HAx : Hid (ActOk wc x.what x.ka x.mo x.kA x.keep) := act_ok (HFine.out x (by simp)) (HFx.out wc HBc.out).1
        have HAy : Hid (ActOk wc y.what y.ka y.mo y.kA y.keep) := act_ok (HFine.out y (by simp)) (HFx.out wc HBc.out).2
        obtain ⟨⟨z0, z1, z2⟩, _⟩ := r3 (HDa.out.row HQm.out)
        obtain ⟨⟨x0, x1, x2, x3, x4⟩, _⟩ := r10 (HX.out wa (HBc.out.trans (HDa.out.below.mono HSc))).1
        go_wp2_with fail
        clear z0 z1 z2 x0 x1 x2 x3 x4
        refine (act_any wc wa p D Q _ HDa.out HPl.out (by have := HFewI.out; omega) HVa.out x.what x.ka x.mo x.bt x.kA x.kC x.keep HAx.out).mono ?_
        rintro e w6 ⟨vr, R', rfl, hd6, hv6⟩
        have HP5 : Hid ((nextM D x.what x.ka x.mo x.bt x.keep).pl) := next_pl HPl.out _ _ _ _ _
        have HF5 : Hid ((nextM D x.what x.ka x.mo x.bt x.keep).wt.length < 1001) := Lib.hid (show (nextM D x.what x.ka x.mo x.bt x.keep).wt.length < 1001 by
          have h1 := next_few D x.what x.ka x.mo x.bt x.keep
          have h2 := HFewI.out
          omega)
        generalize (nextM D x.what x.ka x.mo x.bt x.keep) = D1 at hd6 hv6 HP5 HF5
        obtain ⟨A5, C5, A6, C6, rfl, q1, q2⟩ := hv6
        have hv6 : RfV w6 (inR (R' ++ Q)) (.agg #[.slice A5 D1.n C5, .slice A6 D1.wt.length C6, .int .i64 D1.left]) D1 := ⟨A5, C5, A6, C6, rfl, q1, q2⟩
        obtain ⟨o5, ho5⟩ : ∃ o5, o5 = w6.heap.size := ⟨_, rfl⟩
        obtain ⟨Wb, hWb⟩ : ∃ Wb, Wb = w6.alloc (.cells #[.slice A5 D1.n C5, .slice A6 D1.wt.length C6, .int .i64 D1.left] 30) := ⟨_, rfl⟩
        obtain ⟨Q5, hQ5⟩ : ∃ Q5, Q5 = (o5, [.slice A5 D1.n C5, .slice A6 D1.wt.length C6, .int .i64 D1.left]) :: (R' ++ Q) := ⟨_, rfl⟩
        have hdb : DStK (fun b => (betw W5 X b ∨ b = nb) ∨ betw X wa b) wa wc Wb p D1 Q5 := by rw [hWb, hQ5, ho5]; exact hd6.alloc1 _ _
        have HDb := Lib.hid hdb
        have HVb : Hid (RfV Wb (inR Q5) (.agg #[.slice A5 D1.n C5, .slice A6 D1.wt.length C6, .int .i64 D1.left]) D1) := hv6.stay hdb fun r hr => by rw [hQ5]; exact List.mem_cons_of_mem _ hr
        have HSub5 : Hid (∀ r ∈ Q, r ∈ Q5) := fun r hr => by rw [hQ5]; exact List.mem_cons_of_mem _ (List.mem_append_right _ hr)
        have HM5 : Hid ((o5, [.slice A5 D1.n C5, .slice A6 D1.wt.length C6, .int .i64 D1.left]) ∈ Q5) := Lib.hid (show (o5, [.slice A5 D1.n C5, .slice A6 D1.wt.length C6, .int .i64 D1.left]) ∈ Q5 by rw [hQ5]; exact List.mem_cons_self ..)
        have HWant5 : Hid (RfV Wb (inR Q5) (.agg #[.slice A3 D.n C3, .slice A4 D.wt.length C4, .int .i64 D.left]) D) := HVa.out.stay hdb HSub5.out
        go_upto_region 23 with fail
        rw [← hWb]
        rw [← ho5]
        clear hd6 hv6 q1 q2 hWb hQ5 ho5 hdb
        have HCb : Hid (DStK (restK X wa Wb Q5) Wb wc Wb q D Q5) := HCa.out.other (fun _ h => h) (HDb.out.weaken fun b hb => .inr hb) HDX.out.size (fun r hr => hr)
        obtain ⟨⟨z0, z1, z2⟩, _⟩ := r3 (HCb.out.row (HSub5.out _ HQm.out))
        obtain ⟨_, x0, x1, x2, x3, x4⟩ := r10 (HX.out Wb (HBc.out.trans (HCb.out.below.mono HSc))).1
        go_wp2_with fail
        clear z0 z1 z2 x0 x1 x2 x3 x4
        refine (act_any wc Wb q D Q5 _ HCb.out HPl.out (by have := HFewI.out; omega) HWant5.out y.what y.ka y.mo y.bt y.kA y.kC y.keep HAy.out).mono ?_
        rintro e w7 ⟨vr, R7, rfl, hd7, hv7⟩
        have HF7 : Hid ((nextM D y.what y.ka y.mo y.bt y.keep).wt.length < 1001) := Lib.hid (show (nextM D y.what y.ka y.mo y.bt y.keep).wt.length < 1001 by
          have h1 := next_few D y.what y.ka y.mo y.bt y.keep
          have h2 := HFewI.out
          omega)
        generalize (nextM D y.what y.ka y.mo y.bt y.keep) = E1 at hd7 hv7 HF7
        obtain ⟨A7, C7, A8, C8, rfl, q1, q2⟩ := hv7
        have hv7 : RfV w7 (inR (R7 ++ Q5)) (.agg #[.slice A7 E1.n C7, .slice A8 E1.wt.length C8, .int .i64 E1.left]) E1 := ⟨A7, C7, A8, C8, rfl, q1, q2⟩
        obtain ⟨o7, ho7⟩ : ∃ o7, o7 = w7.heap.size := ⟨_, rfl⟩
        obtain ⟨Wc, hWc⟩ : ∃ Wc, Wc = w7.alloc (.cells #[.slice A7 E1.n C7, .slice A8 E1.wt.length C8, .int .i64 E1.left] 30) := ⟨_, rfl⟩
        obtain ⟨Q7, hQ7⟩ : ∃ Q7, Q7 = (o7, [.slice A7 E1.n C7, .slice A8 E1.wt.length C8, .int .i64 E1.left]) :: (R7 ++ Q5) := ⟨_, rfl⟩
        have hdc : DStK (restK X wa Wb Q5) Wb wc Wc q E1 Q7 := by rw [hWc, hQ7, ho7]; exact hd7.alloc1 _ _
        have HSub7 : Hid (∀ r ∈ Q5, r ∈ Q7) := fun r hr => by rw [hQ7]; exact List.mem_cons_of_mem _ (List.mem_append_right _ hr)
        have HM7 : Hid ((o7, [.slice A7 E1.n C7, .slice A8 E1.wt.length C8, .int .i64 E1.left]) ∈ Q7) := Lib.hid (show (o7, [.slice A7 E1.n C7, .slice A8 E1.wt.length C8, .int .i64 E1.left]) ∈ Q7 by rw [hQ7]; exact List.mem_cons_self ..)
        have HVc : Hid (RfV Wc (inR Q7) (.agg #[.slice A7 E1.n C7, .slice A8 E1.wt.length C8, .int .i64 E1.left]) E1) := hv7.stay hdc fun r hr => by rw [hQ7]; exact List.mem_cons_of_mem _ hr
        have HV5c : Hid (RfV Wc (inR Q7) (.agg #[.slice A5 D1.n C5, .slice A6 D1.wt.length C6, .int .i64 D1.left]) D1) := HVb.out.stay hdc HSub7.out
        have HDc : Hid (DSt wc Wc p D1 Q5) := DStK.back (HDb.out.weaken fun b hb => .inr hb) hdc (fun r hr => hr) (fun r hr => ⟨hr, HSub7.out r hr⟩)
        have HCc : Hid (DSt wc Wc q E1 Q7) := hdc.plain
        have HKeep : Hid (∀ b, (betw W5 X b ∨ b = nb) → Wc.heap[b]? = X.heap[b]? ∧ b < Wc.heap.size) := fun b hb => by
          have h1 := HDX.out.kp hb
          have h2 := HDb.out.kp (.inl hb)
          have h3 := hdc.kp (b := b) ⟨h2.2.1, fun h => by have := h.1; omega, h2.2.2⟩
          exact ⟨h3.1.trans (h2.1.trans (HBa.out.block b h1.2.1)), h3.2.1⟩
        go_upto_region 24 with fail
        rw [← hWc]
        rw [← ho7]
        clear hd7 hv7 q1 q2 hWc hQ7 ho7 hdc
        obtain ⟨⟨z0, z1, z2⟩, _⟩ := r3 (HDc.out.row HM5.out)
        obtain ⟨⟨x0, x1, x2⟩, _⟩ := r3 (HCc.out.row HM7.out)
        go_wp2_with fail
        refine (rsame_any (inR Q7) (inR Q7) D1 E1 HDc.out.ok.n2 (by have := HF5.out; omega) HCc.out.ok.n2 (by have := HF7.out; omega) _ _ Wc HV5c.out HVc.out).mono ?_
        rintro e Wd ⟨rfl, hb⟩
        clear z0 z1 z2 x0 x1 x2
        have HDd := Lib.hid (HDc.out.on hb)
        have HCd := Lib.hid (HCc.out.on hb)
        have HVd5 := Lib.hid (HV5c.out.stay HCd.out fun r hr => hr)
        have HVd7 := Lib.hid (HVc.out.stay HCd.out fun r hr => hr)
        have HKd : Hid (∀ b, (betw W5 X b ∨ b = nb) → Wd.heap[b]? = X.heap[b]? ∧ b < Wd.heap.size) := fun b hb2 => by
          have h := HKeep.out b hb2
          exact ⟨(hb.block b h.2).trans h.1, Nat.lt_of_lt_of_le h.2 hb.size⟩
        obtain ⟨sb, hsb⟩ : ∃ sb, sb = sameB D1 E1 := ⟨_, rfl⟩
        rw [← hsb]
        have HSb := Lib.hid hsb
        clear hb hsb
        have n0 : Wd.cell? ⟨nb, 0, none⟩ = some (.int .i64 (n : Nat)) := (World.cell?_of_block (a := ⟨nb, 0, none⟩) (HKd.out nb (.inr rfl)).1).trans HBxX.out.cell
        have m0 : Wd.cell? ⟨w.heap.size + 1, 0, none⟩ = some (.int .i64 many) := (HX.out Wd (HBc.out.trans (HDd.out.below.mono HSc))).2.1.1 0 _ rfl
        obtain ⟨⟨z0, z1, z2⟩, _⟩ := r3 (HDd.out.row (HSub5.out _ HQm.out))
        rw [← HMm.out] at z1
        obtain ⟨⟨x0, x1, x2⟩, _⟩ := r3 (HDd.out.row HM5.out)
        go_upto_region 25 with fail
        have hbe : ∀ X : World, (binOp .eql 4 (.bool sb) (.bool sb)).run Try.prog X = .ok (.bool true) X := fun X => by cases sb <;> rfl
        have HBf : Hid (Below W.heap.size W Wd) := HBc.out.trans (HDd.out.below.mono HSc)
        have HVe5 : Hid (RfV Wd (inR Q5) (.agg #[.slice A5 D1.n C5, .slice A6 D1.wt.length C6, .int .i64 D1.left]) D1) := HVb.out.stay HDd.out fun r hr => hr
        have HCases : Hid ((¬ 1 < many ∧ m = 0 ∧ n = 0) ∨ (¬ 1 < many ∧ m = 1 ∧ n = 1) ∨ (¬ 1 < many ∧ 2 ≤ m ∧ n = 1) ∨ (1 < many ∧ many < (m : Int) ∧ (n : Int) = many) ∨ (1 < many ∧ (m : Int) ≤ many ∧ n = m)) := Lib.hid (show _ by
          have h := HNm.out
          split at h <;> split at h <;> omega)
        have HRn := Lib.hid n0
        clear n0 HSc hM hlt hi
        rcases HCases.out with ⟨h1, h2, h3⟩ | ⟨h1, h2, h3⟩ | ⟨h1, h2, h3⟩ | ⟨h1, h2, h3⟩ | ⟨h1, h2, h3⟩
        · subst h3
          subst h2
          have n0 := HRn.out
          have h5 : many ≤ 1 := by omega
          skip
          clear HRn HCases
          go_wp2_with fail
          clear n0 m0 z0 z1 z2 x0 x1 x2
          refine (is_any wc Wd p D1 Q5 _ HDd.out (by have := HF5.out; omega) HVe5.out).mono ?_
          rintro e We ⟨rfl, hde, hb⟩
          have HDe := Lib.hid hde
          have HCe := Lib.hid (HCd.out.on hb)
          have HVe7 := Lib.hid (HVd7.out.stay HCe.out fun r hr => hr)
          have HBe : Hid (Below Wd.heap.size Wd We) := hb
          clear hde hb
          obtain ⟨⟨x0, x1, x2⟩, _⟩ := r3 (HCe.out.row HM7.out)
          go_wp2_with fail
          clear x0 x1 x2
          refine (is_any wc We q E1 Q7 _ HCe.out (by have := HF7.out; omega) HVe7.out).mono ?_
          rintro e Wf ⟨rfl, hcf, hb⟩
          have HCf := Lib.hid hcf
          have HDf := Lib.hid (HDe.out.on hb)
          have HBf2 : Hid (Below Wd.heap.size Wd Wf) := below_on HBe.out hb
          clear hcf hb
          go_wp2_with fail
          refine (HDf.out.same2 HCf.out).mono ?_
          rintro e Wg ⟨rfl, hb⟩
          rw [← HSb.out]
          have HBg : Hid (Below Wd.heap.size Wd Wg) := below_on HBf2.out hb
          have HDg := Lib.hid (HDf.out.on hb)
          have HCg := Lib.hid (HCf.out.on hb)
          clear hb
          go_wp2_with fail
          refine (HCg.out.same2 HDg.out).mono ?_
          rintro e Wh ⟨rfl, hb⟩
          rw [sameB_comm E1 D1, ← HSb.out]
          have HBh : Hid (Below Wd.heap.size Wd Wh) := below_on HBg.out hb
          have HDh := Lib.hid (HDg.out.on hb)
          clear hb
          go_wp2_with fail
          refine (same_gone (.pointer (some ⟨p, 0, none⟩)) (.pointer none) D1.n 0 _ HDh.out.n (.inl ⟨rfl, rfl⟩) (.inr rfl)).mono ?_
          rintro e Wi ⟨rfl, hb⟩
          rw [show ((D1.n == 0) && ((0 : Nat) == 0)) = false by
            have h := HDh.out.ok.n1
            have h2 : (D1.n == 0) = false := by rw [beq_eq_false_iff_ne]; omega
            rw [h2]; rfl]
          have HBi : Hid (Below Wd.heap.size Wd Wi) := below_on HBh.out hb
          clear hb
          go_wp2_with fail
          refine (dkworks_any _).mono ?_
          rintro e Wj ⟨rfl, hb⟩
          have HBj : Hid (Below Wd.heap.size Wd Wj) := below_on HBi.out hb
          have HBW : Hid (Below W.heap.size W Wj) := HBf.out.trans (HBj.out.mono HBf.out.size)
          clear hb hbe
          have r0 := (HX.out _ HBW.out).2.2.1 0 _ rfl
          have r1 := (HX.out _ HBW.out).2.2.2 0
          go_wp2_with fail
          have hr := ((HX.out _ HBW.out).2.2.set 0 (.bool true)).1 0 _ rfl
          have hkd := HKd.out Dd (.inl HDdK.out)
          have hne : Dd ≠ w.heap.size + 2 := by
            have h1 := HDdK.out.1
            have h2 := HNb.out
            have h3 := HBc.out.size
            have h4 := HWz.out
            omega
          have hKf : (Wj.setCell ⟨w.heap.size + 2, 0, none⟩ (.bool true)).heap[Dd]? = some (.deferred (some [])) := (Below.heap_setCell _ _ _ _ hne).trans ((HBj.out.block Dd hkd.2).trans (hkd.1.trans HK.out))
          have hsz : W.heap.size ≤ (Wj.setCell ⟨w.heap.size + 2, 0, none⟩ (.bool true)).heap.size := by rw [World.size_setCell]; exact HBW.out.size
          have hBu : ButS W.heap.size (fun b => b = w.heap.size + 2) W ((Wj.setCell ⟨w.heap.size + 2, 0, none⟩ (.bool true)).putObj Dd (.deferred none)) := buts_put (ButS.set (S := fun b => b = w.heap.size + 2) (.of_below HBW.out) (.inl rfl) 0 _) (by
            have h1 := HDdK.out.1
            have h2 := HNb.out
            have h3 := HBc.out.size
            omega) hsz _
          have hcell : ((Wj.setCell ⟨w.heap.size + 2, 0, none⟩ (.bool true)).putObj Dd (.deferred none)).cell? ⟨w.heap.size + 2, 0, none⟩ = some (.bool true) := by
            have hg := grownBy_putObj' (Wj.setCell ⟨w.heap.size + 2, 0, none⟩ (.bool true)) Dd (.deferred none)
            refine (World.cell?_of_block (a := ⟨w.heap.size + 2, 0, none⟩) (hg.block _ (World.block_lt_of_cell? _ _ hr) (fun e => ?_))).trans hr
            injection e with e
            exact hne e.symm
          refine marks_one hKf (results_cell rfl (by rfl) (bool_load hcell)) ⟨rfl, ?_⟩
          exact HB0.out.trans (ButS.below hBu (by have := HWz.out; omega) fun k hk => by rw [hk]; omega)
        · subst h3
          subst h2
          have n0 := HRn.out
          have h5 : many ≤ 1 := by omega
          skip
          clear HRn HCases
          go_wp2_with fail
          clear n0 m0 z0 z1 z2 x0 x1 x2
          refine (is_any wc Wd p D1 Q5 _ HDd.out (by have := HF5.out; omega) HVe5.out).mono ?_
          rintro e We ⟨rfl, hde, hb⟩
          have HDe := Lib.hid hde
          have HCe := Lib.hid (HCd.out.on hb)
          have HVe7 := Lib.hid (HVd7.out.stay HCe.out fun r hr => hr)
          have HBe : Hid (Below Wd.heap.size Wd We) := hb
          clear hde hb
          obtain ⟨⟨x0, x1, x2⟩, _⟩ := r3 (HCe.out.row HM7.out)
          go_wp2_with fail
          clear x0 x1 x2
          refine (is_any wc We q E1 Q7 _ HCe.out (by have := HF7.out; omega) HVe7.out).mono ?_
          rintro e Wf ⟨rfl, hcf, hb⟩
          have HCf := Lib.hid hcf
          have HDf := Lib.hid (HDe.out.on hb)
          have HBf2 : Hid (Below Wd.heap.size Wd Wf) := below_on HBe.out hb
          clear hcf hb
          go_wp2_with fail
          refine (HDf.out.same2 HCf.out).mono ?_
          rintro e Wg ⟨rfl, hb⟩
          rw [← HSb.out]
          have HBg : Hid (Below Wd.heap.size Wd Wg) := below_on HBf2.out hb
          have HDg := Lib.hid (HDf.out.on hb)
          have HCg := Lib.hid (HCf.out.on hb)
          clear hb
          go_wp2_with fail
          refine (HCg.out.same2 HDg.out).mono ?_
          rintro e Wh ⟨rfl, hb⟩
          rw [sameB_comm E1 D1, ← HSb.out]
          have HBh : Hid (Below Wd.heap.size Wd Wh) := below_on HBg.out hb
          have HDh := Lib.hid (HDg.out.on hb)
          clear hb
          go_wp2_with fail
          refine (same_gone (.pointer (some ⟨p, 0, none⟩)) (.pointer none) D1.n 0 _ HDh.out.n (.inl ⟨rfl, rfl⟩) (.inr rfl)).mono ?_
          rintro e Wi ⟨rfl, hb⟩
          rw [show ((D1.n == 0) && ((0 : Nat) == 0)) = false by
            have h := HDh.out.ok.n1
            have h2 : (D1.n == 0) = false := by rw [beq_eq_false_iff_ne]; omega
            rw [h2]; rfl]
          have HBi : Hid (Below Wd.heap.size Wd Wi) := below_on HBh.out hb
          clear hb
          go_wp2_with fail
          refine (dkworks_any _).mono ?_
          rintro e Wj ⟨rfl, hb⟩
          have HBj : Hid (Below Wd.heap.size Wd Wj) := below_on HBi.out hb
          have HBW : Hid (Below W.heap.size W Wj) := HBf.out.trans (HBj.out.mono HBf.out.size)
          clear hb hbe
          have r0 := (HX.out _ HBW.out).2.2.1 0 _ rfl
          have r1 := (HX.out _ HBW.out).2.2.2 0
          go_wp2_with fail
          have hr := ((HX.out _ HBW.out).2.2.set 0 (.bool true)).1 0 _ rfl
          have hkd := HKd.out Dd (.inl HDdK.out)
          have hne : Dd ≠ w.heap.size + 2 := by
            have h1 := HDdK.out.1
            have h2 := HNb.out
            have h3 := HBc.out.size
            have h4 := HWz.out
            omega
          have hKf : (Wj.setCell ⟨w.heap.size + 2, 0, none⟩ (.bool true)).heap[Dd]? = some (.deferred (some [])) := (Below.heap_setCell _ _ _ _ hne).trans ((HBj.out.block Dd hkd.2).trans (hkd.1.trans HK.out))
          have hsz : W.heap.size ≤ (Wj.setCell ⟨w.heap.size + 2, 0, none⟩ (.bool true)).heap.size := by rw [World.size_setCell]; exact HBW.out.size
          have hBu : ButS W.heap.size (fun b => b = w.heap.size + 2) W ((Wj.setCell ⟨w.heap.size + 2, 0, none⟩ (.bool true)).putObj Dd (.deferred none)) := buts_put (ButS.set (S := fun b => b = w.heap.size + 2) (.of_below HBW.out) (.inl rfl) 0 _) (by
            have h1 := HDdK.out.1
            have h2 := HNb.out
            have h3 := HBc.out.size
            omega) hsz _
          have hcell : ((Wj.setCell ⟨w.heap.size + 2, 0, none⟩ (.bool true)).putObj Dd (.deferred none)).cell? ⟨w.heap.size + 2, 0, none⟩ = some (.bool true) := by
            have hg := grownBy_putObj' (Wj.setCell ⟨w.heap.size + 2, 0, none⟩ (.bool true)) Dd (.deferred none)
            refine (World.cell?_of_block (a := ⟨w.heap.size + 2, 0, none⟩) (hg.block _ (World.block_lt_of_cell? _ _ hr) (fun e => ?_))).trans hr
            injection e with e
            exact hne e.symm
          refine marks_one hKf (results_cell rfl (by rfl) (bool_load hcell)) ⟨rfl, ?_⟩
          exact HB0.out.trans (ButS.below hBu (by have := HWz.out; omega) fun k hk => by rw [hk]; omega)
        · subst h3
          have n0 := HRn.out
          rw [show ((1 : Nat) : Int) = 1 from rfl] at n0
          have h5 : many ≤ 1 := by omega
          have h6 : (1 : Int) < (m : Int) := by omega
          have h7 : ¬ (m : Int) < 1 := by omega
          have h8 : ¬ (m : Int) ≤ 1 := by omega
          have h9 : (1 : Int) ≤ (m : Int) := by omega
          clear h2
          clear HRn HCases
          go_wp2_with fail
          clear n0 m0 z0 z1 z2 x0 x1 x2
          refine (is_any wc Wd p D1 Q5 _ HDd.out (by have := HF5.out; omega) HVe5.out).mono ?_
          rintro e We ⟨rfl, hde, hb⟩
          have HDe := Lib.hid hde
          have HCe := Lib.hid (HCd.out.on hb)
          have HVe7 := Lib.hid (HVd7.out.stay HCe.out fun r hr => hr)
          have HBe : Hid (Below Wd.heap.size Wd We) := hb
          clear hde hb
          obtain ⟨⟨x0, x1, x2⟩, _⟩ := r3 (HCe.out.row HM7.out)
          go_wp2_with fail
          clear x0 x1 x2
          refine (is_any wc We q E1 Q7 _ HCe.out (by have := HF7.out; omega) HVe7.out).mono ?_
          rintro e Wf ⟨rfl, hcf, hb⟩
          have HCf := Lib.hid hcf
          have HDf := Lib.hid (HDe.out.on hb)
          have HBf2 : Hid (Below Wd.heap.size Wd Wf) := below_on HBe.out hb
          clear hcf hb
          go_wp2_with fail
          refine (HDf.out.same2 HCf.out).mono ?_
          rintro e Wg ⟨rfl, hb⟩
          rw [← HSb.out]
          have HBg : Hid (Below Wd.heap.size Wd Wg) := below_on HBf2.out hb
          have HDg := Lib.hid (HDf.out.on hb)
          have HCg := Lib.hid (HCf.out.on hb)
          clear hb
          go_wp2_with fail
          refine (HCg.out.same2 HDg.out).mono ?_
          rintro e Wh ⟨rfl, hb⟩
          rw [sameB_comm E1 D1, ← HSb.out]
          have HBh : Hid (Below Wd.heap.size Wd Wh) := below_on HBg.out hb
          have HDh := Lib.hid (HDg.out.on hb)
          clear hb
          go_wp2_with fail
          refine (same_gone (.pointer (some ⟨p, 0, none⟩)) (.pointer none) D1.n 0 _ HDh.out.n (.inl ⟨rfl, rfl⟩) (.inr rfl)).mono ?_
          rintro e Wi ⟨rfl, hb⟩
          rw [show ((D1.n == 0) && ((0 : Nat) == 0)) = false by
            have h := HDh.out.ok.n1
            have h2 : (D1.n == 0) = false := by rw [beq_eq_false_iff_ne]; omega
            rw [h2]; rfl]
          have HBi : Hid (Below Wd.heap.size Wd Wi) := below_on HBh.out hb
          clear hb
          go_wp2_with fail
          refine (dkworks_any _).mono ?_
          rintro e Wj ⟨rfl, hb⟩
          have HBj : Hid (Below Wd.heap.size Wd Wj) := below_on HBi.out hb
          have HBW : Hid (Below W.heap.size W Wj) := HBf.out.trans (HBj.out.mono HBf.out.size)
          clear hb hbe
          have r0 := (HX.out _ HBW.out).2.2.1 0 _ rfl
          have r1 := (HX.out _ HBW.out).2.2.2 0
          go_wp2_with fail
          have hr := ((HX.out _ HBW.out).2.2.set 0 (.bool true)).1 0 _ rfl
          have hkd := HKd.out Dd (.inl HDdK.out)
          have hne : Dd ≠ w.heap.size + 2 := by
            have h1 := HDdK.out.1
            have h2 := HNb.out
            have h3 := HBc.out.size
            have h4 := HWz.out
            omega
          have hKf : (Wj.setCell ⟨w.heap.size + 2, 0, none⟩ (.bool true)).heap[Dd]? = some (.deferred (some [])) := (Below.heap_setCell _ _ _ _ hne).trans ((HBj.out.block Dd hkd.2).trans (hkd.1.trans HK.out))
          have hsz : W.heap.size ≤ (Wj.setCell ⟨w.heap.size + 2, 0, none⟩ (.bool true)).heap.size := by rw [World.size_setCell]; exact HBW.out.size
          have hBu : ButS W.heap.size (fun b => b = w.heap.size + 2) W ((Wj.setCell ⟨w.heap.size + 2, 0, none⟩ (.bool true)).putObj Dd (.deferred none)) := buts_put (ButS.set (S := fun b => b = w.heap.size + 2) (.of_below HBW.out) (.inl rfl) 0 _) (by
            have h1 := HDdK.out.1
            have h2 := HNb.out
            have h3 := HBc.out.size
            omega) hsz _
          have hcell : ((Wj.setCell ⟨w.heap.size + 2, 0, none⟩ (.bool true)).putObj Dd (.deferred none)).cell? ⟨w.heap.size + 2, 0, none⟩ = some (.bool true) := by
            have hg := grownBy_putObj' (Wj.setCell ⟨w.heap.size + 2, 0, none⟩ (.bool true)) Dd (.deferred none)
            refine (World.cell?_of_block (a := ⟨w.heap.size + 2, 0, none⟩) (hg.block _ (World.block_lt_of_cell? _ _ hr) (fun e => ?_))).trans hr
            injection e with e
            exact hne e.symm
          refine marks_one hKf (results_cell rfl (by rfl) (bool_load hcell)) ⟨rfl, ?_⟩
          exact HB0.out.trans (ButS.below hBu (by have := HWz.out; omega) fun k hk => by rw [hk]; omega)
        · have n0 := HRn.out
          rw [h3] at n0
          have h4 : ¬ (m : Int) ≤ many := by omega
          have h5 : ¬ many ≤ 1 := by omega
          have h6 : ¬ (m : Int) < many := by omega
          clear h3
          clear HRn HCases
          go_wp2_with fail
          clear n0 m0 z0 z1 z2 x0 x1 x2
          refine (is_any wc Wd p D1 Q5 _ HDd.out (by have := HF5.out; omega) HVe5.out).mono ?_
          rintro e We ⟨rfl, hde, hb⟩
          have HDe := Lib.hid hde
          have HCe := Lib.hid (HCd.out.on hb)
          have HVe7 := Lib.hid (HVd7.out.stay HCe.out fun r hr => hr)
          have HBe : Hid (Below Wd.heap.size Wd We) := hb
          clear hde hb
          obtain ⟨⟨x0, x1, x2⟩, _⟩ := r3 (HCe.out.row HM7.out)
          go_wp2_with fail
          clear x0 x1 x2
          refine (is_any wc We q E1 Q7 _ HCe.out (by have := HF7.out; omega) HVe7.out).mono ?_
          rintro e Wf ⟨rfl, hcf, hb⟩
          have HCf := Lib.hid hcf
          have HDf := Lib.hid (HDe.out.on hb)
          have HBf2 : Hid (Below Wd.heap.size Wd Wf) := below_on HBe.out hb
          clear hcf hb
          go_wp2_with fail
          refine (HDf.out.same2 HCf.out).mono ?_
          rintro e Wg ⟨rfl, hb⟩
          rw [← HSb.out]
          have HBg : Hid (Below Wd.heap.size Wd Wg) := below_on HBf2.out hb
          have HDg := Lib.hid (HDf.out.on hb)
          have HCg := Lib.hid (HCf.out.on hb)
          clear hb
          go_wp2_with fail
          refine (HCg.out.same2 HDg.out).mono ?_
          rintro e Wh ⟨rfl, hb⟩
          rw [sameB_comm E1 D1, ← HSb.out]
          have HBh : Hid (Below Wd.heap.size Wd Wh) := below_on HBg.out hb
          have HDh := Lib.hid (HDg.out.on hb)
          clear hb
          go_wp2_with fail
          refine (same_gone (.pointer (some ⟨p, 0, none⟩)) (.pointer none) D1.n 0 _ HDh.out.n (.inl ⟨rfl, rfl⟩) (.inr rfl)).mono ?_
          rintro e Wi ⟨rfl, hb⟩
          rw [show ((D1.n == 0) && ((0 : Nat) == 0)) = false by
            have h := HDh.out.ok.n1
            have h2 : (D1.n == 0) = false := by rw [beq_eq_false_iff_ne]; omega
            rw [h2]; rfl]
          have HBi : Hid (Below Wd.heap.size Wd Wi) := below_on HBh.out hb
          clear hb
          go_wp2_with fail
          refine (dkworks_any _).mono ?_
          rintro e Wj ⟨rfl, hb⟩
          have HBj : Hid (Below Wd.heap.size Wd Wj) := below_on HBi.out hb
          have HBW : Hid (Below W.heap.size W Wj) := HBf.out.trans (HBj.out.mono HBf.out.size)
          clear hb hbe
          have r0 := (HX.out _ HBW.out).2.2.1 0 _ rfl
          have r1 := (HX.out _ HBW.out).2.2.2 0
          go_wp2_with fail
          have hr := ((HX.out _ HBW.out).2.2.set 0 (.bool true)).1 0 _ rfl
          have hkd := HKd.out Dd (.inl HDdK.out)
          have hne : Dd ≠ w.heap.size + 2 := by
            have h1 := HDdK.out.1
            have h2 := HNb.out
            have h3 := HBc.out.size
            have h4 := HWz.out
            omega
          have hKf : (Wj.setCell ⟨w.heap.size + 2, 0, none⟩ (.bool true)).heap[Dd]? = some (.deferred (some [])) := (Below.heap_setCell _ _ _ _ hne).trans ((HBj.out.block Dd hkd.2).trans (hkd.1.trans HK.out))
          have hsz : W.heap.size ≤ (Wj.setCell ⟨w.heap.size + 2, 0, none⟩ (.bool true)).heap.size := by rw [World.size_setCell]; exact HBW.out.size
          have hBu : ButS W.heap.size (fun b => b = w.heap.size + 2) W ((Wj.setCell ⟨w.heap.size + 2, 0, none⟩ (.bool true)).putObj Dd (.deferred none)) := buts_put (ButS.set (S := fun b => b = w.heap.size + 2) (.of_below HBW.out) (.inl rfl) 0 _) (by
            have h1 := HDdK.out.1
            have h2 := HNb.out
            have h3 := HBc.out.size
            omega) hsz _
          have hcell : ((Wj.setCell ⟨w.heap.size + 2, 0, none⟩ (.bool true)).putObj Dd (.deferred none)).cell? ⟨w.heap.size + 2, 0, none⟩ = some (.bool true) := by
            have hg := grownBy_putObj' (Wj.setCell ⟨w.heap.size + 2, 0, none⟩ (.bool true)) Dd (.deferred none)
            refine (World.cell?_of_block (a := ⟨w.heap.size + 2, 0, none⟩) (hg.block _ (World.block_lt_of_cell? _ _ hr) (fun e => ?_))).trans hr
            injection e with e
            exact hne e.symm
          refine marks_one hKf (results_cell rfl (by rfl) (bool_load hcell)) ⟨rfl, ?_⟩
          exact HB0.out.trans (ButS.below hBu (by have := HWz.out; omega) fun k hk => by rw [hk]; omega)
        · subst h3
          have n0 := HRn.out
          have h4 : ¬ many < (n : Int) := by omega
          have h5 : ¬ many ≤ 1 := by omega
          skip
          clear HRn HCases
          go_wp2_with fail
          clear n0 m0 z0 z1 z2 x0 x1 x2
          refine (is_any wc Wd p D1 Q5 _ HDd.out (by have := HF5.out; omega) HVe5.out).mono ?_
          rintro e We ⟨rfl, hde, hb⟩
          have HDe := Lib.hid hde
          have HCe := Lib.hid (HCd.out.on hb)
          have HVe7 := Lib.hid (HVd7.out.stay HCe.out fun r hr => hr)
          have HBe : Hid (Below Wd.heap.size Wd We) := hb
          clear hde hb
          obtain ⟨⟨x0, x1, x2⟩, _⟩ := r3 (HCe.out.row HM7.out)
          go_wp2_with fail
          clear x0 x1 x2
          refine (is_any wc We q E1 Q7 _ HCe.out (by have := HF7.out; omega) HVe7.out).mono ?_
          rintro e Wf ⟨rfl, hcf, hb⟩
          have HCf := Lib.hid hcf
          have HDf := Lib.hid (HDe.out.on hb)
          have HBf2 : Hid (Below Wd.heap.size Wd Wf) := below_on HBe.out hb
          clear hcf hb
          go_wp2_with fail
          refine (HDf.out.same2 HCf.out).mono ?_
          rintro e Wg ⟨rfl, hb⟩
          rw [← HSb.out]
          have HBg : Hid (Below Wd.heap.size Wd Wg) := below_on HBf2.out hb
          have HDg := Lib.hid (HDf.out.on hb)
          have HCg := Lib.hid (HCf.out.on hb)
          clear hb
          go_wp2_with fail
          refine (HCg.out.same2 HDg.out).mono ?_
          rintro e Wh ⟨rfl, hb⟩
          rw [sameB_comm E1 D1, ← HSb.out]
          have HBh : Hid (Below Wd.heap.size Wd Wh) := below_on HBg.out hb
          have HDh := Lib.hid (HDg.out.on hb)
          clear hb
          go_wp2_with fail
          refine (same_gone (.pointer (some ⟨p, 0, none⟩)) (.pointer none) D1.n 0 _ HDh.out.n (.inl ⟨rfl, rfl⟩) (.inr rfl)).mono ?_
          rintro e Wi ⟨rfl, hb⟩
          rw [show ((D1.n == 0) && ((0 : Nat) == 0)) = false by
            have h := HDh.out.ok.n1
            have h2 : (D1.n == 0) = false := by rw [beq_eq_false_iff_ne]; omega
            rw [h2]; rfl]
          have HBi : Hid (Below Wd.heap.size Wd Wi) := below_on HBh.out hb
          clear hb
          go_wp2_with fail
          refine (dkworks_any _).mono ?_
          rintro e Wj ⟨rfl, hb⟩
          have HBj : Hid (Below Wd.heap.size Wd Wj) := below_on HBi.out hb
          have HBW : Hid (Below W.heap.size W Wj) := HBf.out.trans (HBj.out.mono HBf.out.size)
          clear hb hbe
          have r0 := (HX.out _ HBW.out).2.2.1 0 _ rfl
          have r1 := (HX.out _ HBW.out).2.2.2 0
          go_wp2_with fail
          have hr := ((HX.out _ HBW.out).2.2.set 0 (.bool true)).1 0 _ rfl
          have hkd := HKd.out Dd (.inl HDdK.out)
          have hne : Dd ≠ w.heap.size + 2 := by
            have h1 := HDdK.out.1
            have h2 := HNb.out
            have h3 := HBc.out.size
            have h4 := HWz.out
            omega
          have hKf : (Wj.setCell ⟨w.heap.size + 2, 0, none⟩ (.bool true)).heap[Dd]? = some (.deferred (some [])) := (Below.heap_setCell _ _ _ _ hne).trans ((HBj.out.block Dd hkd.2).trans (hkd.1.trans HK.out))
          have hsz : W.heap.size ≤ (Wj.setCell ⟨w.heap.size + 2, 0, none⟩ (.bool true)).heap.size := by rw [World.size_setCell]; exact HBW.out.size
          have hBu : ButS W.heap.size (fun b => b = w.heap.size + 2) W ((Wj.setCell ⟨w.heap.size + 2, 0, none⟩ (.bool true)).putObj Dd (.deferred none)) := buts_put (ButS.set (S := fun b => b = w.heap.size + 2) (.of_below HBW.out) (.inl rfl) 0 _) (by
            have h1 := HDdK.out.1
            have h2 := HNb.out
            have h3 := HBc.out.size
            omega) hsz _
          have hcell : ((Wj.setCell ⟨w.heap.size + 2, 0, none⟩ (.bool true)).putObj Dd (.deferred none)).cell? ⟨w.heap.size + 2, 0, none⟩ = some (.bool true) := by
            have hg := grownBy_putObj' (Wj.setCell ⟨w.heap.size + 2, 0, none⟩ (.bool true)) Dd (.deferred none)
            refine (World.cell?_of_block (a := ⟨w.heap.size + 2, 0, none⟩) (hg.block _ (World.block_lt_of_cell? _ _ hr) (fun e => ?_))).trans hr
            injection e with e
            exact hne e.symm
          refine marks_one hKf (results_cell rfl (by rfl) (bool_load hcell)) ⟨rfl, ?_⟩
          exact HB0.out.trans (ButS.below hBu (by have := HWz.out; omega) fun k hk => by rw [hk]; omega)
end Go.Proofs.Ytekeooeapiodmaa

