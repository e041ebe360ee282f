/- Package rank: join. -/
import Derived.Test.YthfndphngeaihaaDoorRkE
namespace Go.Proofs.YthfndphngeaihaaDoor
open Go Go.RowKit Go.Shelf
open Go.ChangeMaps (setBlock)
set_option linter.unusedSimpArgs false
set_option linter.unusedVariables false
set_option linter.unusedSectionVars false
set_option maxRecDepth 100000

attribute [local go_sem] Oper.semAt_some

theorem info_nm : (Tryd.prog.info? 28).map (fun i => (i.zero, i.size, i.bytes)) = some (some (.agg #[.int .u32 0, .int .u32 0, .int .u64 0, .int .u32 0]), 4, 24) := by kernel_rfl
theorem own_form {w : World} {B : Nat} {e : TypeId} {k : Nat} {v : Value} {n : Nat} {xs : List Value} (h : w.ownsRow B e k v n xs) : ∃ A c, v = .slice A n c := by
  rcases h.2 with ⟨rfl, h2⟩ | ⟨g, cap, cur, rfl, _⟩
  · exact ⟨none, 0, by rw [h2]⟩
  · exact ⟨_, _, rfl⟩

/-- What turns where the blocks of S may be written. -/
theorem ButS.setBlock {B : Nat} {S : Nat → Prop} {w0 w : World} (h : ButS B S w0 w) {b : Nat} (hb : S b ∨ B ≤ b) (o : Obj) : ButS B S w0 (setBlock w b o) := by
  refine ⟨h.os, h.tape, h.output, by rw [setBlock_size]; exact h.size, fun k hk hn => ?_⟩
  have hne : k ≠ b := by
    rintro rfl
    rcases hb with hb | hb
    · exact hn hb
    · omega
  rw [setBlock_block _ _ _ _ hne]
  exact h.block k hk hn
theorem ButS.grown {B : Nat} {S : Nat → Prop} {w0 w w' : World} {row : Option Nat} (h : ButS B S w0 w) (hB : B ≤ w.heap.size) (hg : w.grownBy w' row) (hr : ∀ r, row = some r → S r ∨ B ≤ r) : ButS B S w0 w' := by
  refine ⟨hg.os.trans h.os, hg.tape.trans h.tape, hg.output.trans h.output, Nat.le_trans h.size hg.size, fun k hk hn => ?_⟩
  refine (hg.block k (Nat.lt_of_lt_of_le hk hB) fun e => ?_).trans (h.block k hk hn)
  rcases hr k e.symm with h | h
  · exact hn h
  · omega

set_option maxHeartbeats 8000000 in
theorem join_any (S : Nat → Prop) (p : Nat) (most : Int) (D : List Wt) (x : Wt) (w : World) (h : LineAt w S p most D) (hx : wt D x.nm = none) (hlen : D.length ≤ 100000) :
    Calls Tryd.prog 26 #[.pointer (some ⟨p, 0, none⟩), .agg #[.int .u32 x.nm.n, .int .u32 x.nm.m, .int .u64 x.nm.t, .int .u32 x.nm.q, .int .u32 x.node, .int .i64 x.rank, .int .i64 x.size]] w fun e w' => e = .returned (.tuple #[]) ∧ LineAt w' (fun b => S b ∨ newS w w' b) p most (D ++ [x]) ∧ ButS w.heap.size S w w' := by
  obtain ⟨bq, bw, lq, lw, h1, h2, h3, h4, h5, h6, h7⟩ := h
  obtain ⟨W0, hW0⟩ : ∃ W, W = w.alloc (.cells #[.int .u32 x.nm.n, .int .u32 x.nm.m, .int .u64 x.nm.t, .int .u32 x.nm.q, .int .u32 x.node, .int .i64 x.rank, .int .i64 x.size] 30) := ⟨_, rfl⟩
  have HB0 : Hid (Below w.heap.size w W0) := by rw [hW0]; exact below_al (Below.refl _ _) _
  have HX0 : Hid (RowB W0 w.heap.size x.cells ∧ w.heap.size < W0.heap.size) := by
    rw [Hid, hW0]
    exact ⟨RowB.new w x.cells _, by simp⟩
  have hz0 := HX0.out.1.1 0 _ rfl
  have hz1 := HX0.out.1.1 1 _ rfl
  have hz2 := HX0.out.1.1 2 _ rfl
  have hz3 := HX0.out.1.1 3 _ rfl
  have hz4 := HX0.out.1.1 4 _ rfl
  have hz5 := HX0.out.1.1 5 _ rfl
  have hz6 := HX0.out.1.1 6 _ rfl
  have HW0 := Lib.hid hW0
  have HPc := Lib.hid h1
  have HQm := Lib.hid h2
  have HWm := Lib.hid h3
  have HQs := Lib.hid h4
  have HWs := Lib.hid h5
  have HSs := Lib.hid h6
  have HNs := Lib.hid h7
  have HNo := Lib.hid hx
  have HLe := Lib.hid hlen
  clear h1 h2 h3 h4 h5 h6 h7 hx hlen hW0
  go_enter Tryd.func26, Tryd.ntmps26
  go_wp2_with fail
  rw [← HW0.out]
  refine (queueOf_any x W0).mono ?_
  rintro e w1 ⟨rfl, hb1⟩
  have HB1 := Lib.hid hb1
  clear hz0 hz1 hz2 hz3 hz4 hz5 hz6 hb1
  go_upto_region 2 with fail
  obtain ⟨W1, hW1⟩ : ∃ W, W = w1.alloc (.cells #[.int .u32 x.node, .int .i64 x.rank] 68) := ⟨_, rfl⟩
  rw [← hW1]
  obtain ⟨Wd, hWd⟩ : ∃ wd, wd = W1.drew := ⟨_, rfl⟩
  have HZ1 : Hid (Below W0.heap.size W0 Wd ∧ RowB Wd w1.heap.size [.int .u32 x.node, .int .i64 x.rank] ∧ w1.heap.size < Wd.heap.size) := by
    rw [Hid, hWd, hW1]
    exact ⟨(below_al HB1.out _).drew, RowB.new w1 [.int .u32 x.node, .int .i64 x.rank] _, by simp⟩
  have HWd := Lib.hid hWd
  clear hWd hW1
  have HBd : Hid (Below w.heap.size w Wd) := HB0.out.trans (HZ1.out.1.mono HB0.out.size)
  have HSz : Hid (w.heap.size < w1.heap.size) := by
    have := HB1.out.size
    have := HX0.out.2
    rw [Hid]; omega
  have HPd : Hid (RowB Wd p [.int .i64 most, .map (some bq), .map (some bw)]) := HPc.out.on HBd.out HPc.out.lt
  have HQd : Hid (KMap encQk Wd bq lq) := HQm.out.kept (HBd.out.block _ HQm.out.lt)
  have HWmd : Hid (KMap encNm Wd bw lw) := HWm.out.kept (HBd.out.block _ HWm.out.lt)
  have HQsd : Hid (QsAt Wd lq D) := HQs.out.kept fun q v j hq hj => HBd.out.block j (HQs.out.lt hq hj)
  have HXd : Hid (RowB Wd w.heap.size x.cells) := HX0.out.1.kept (HZ1.out.1.block _ HX0.out.2)
  have HX : Hid (∀ X : World, X.heap[p]? = Wd.heap[p]? → X.heap[w1.heap.size]? = Wd.heap[w1.heap.size]? → X.heap[w.heap.size]? = Wd.heap[w.heap.size]? → (X.cell? ⟨p, 1, none⟩ = some (.map (some bq)) ∧ (X.cell? ⟨w1.heap.size, 0, none⟩ = some (.int .u32 x.node) ∧ X.cell? ⟨w1.heap.size, 1, none⟩ = some (.int .i64 x.rank)) ∧ X.cell? ⟨w.heap.size, 0, none⟩ = some (.int .u32 x.nm.n) ∧ X.cell? ⟨w.heap.size, 1, none⟩ = some (.int .u32 x.nm.m) ∧ X.cell? ⟨w.heap.size, 2, none⟩ = some (.int .u64 x.nm.t) ∧ X.cell? ⟨w.heap.size, 3, none⟩ = some (.int .u32 x.nm.q))) := fun X g1 g2 g3 =>
    have r1 := HPd.out.kept g1
    have r2 := HZ1.out.2.1.kept g2
    have r3 := HXd.out.kept g3
    ⟨r1.1 1 _ rfl, ⟨r2.1 0 _ rfl, r2.1 1 _ rfl⟩, r3.1 0 _ rfl, r3.1 1 _ rfl, r3.1 2 _ rfl, r3.1 3 _ rfl⟩
  have HLp : Hid (p < w.heap.size ∧ bq < w.heap.size ∧ bw < w.heap.size) := ⟨HPc.out.lt, HQm.out.lt, HWm.out.lt⟩
  obtain ⟨st, oe, hent, hstore⟩ := HQd.out.entry keyQk Tryd.underlying59 zeroNs x.qk
  obtain ⟨A, cp, hsl⟩ := own_form (HQsd.out.own x.qk)
  obtain ⟨n, hn⟩ : ∃ n, n = (namesOf D x.qk).length := ⟨_, rfl⟩
  have hnl : n ≤ 100000 := by
    rw [hn, namesOf, List.length_map]
    exact Nat.le_trans (List.length_filter_le _ _) HLe.out
  rw [← hn] at hsl
  obtain ⟨W2, hW2⟩ : ∃ W, W = setBlock (Wd.alloc (.cells #[.int .u32 x.nm.n, .int .u32 x.nm.m, .int .u64 x.nm.t, .int .u32 x.nm.q] 28)) bq oe := ⟨_, rfl⟩
  obtain ⟨W8, hW8⟩ : ∃ W, W = setBlock Wd bq oe := ⟨_, rfl⟩
  have HW28 : Hid (W8.alloc (.cells #[.int .u32 x.nm.n, .int .u32 x.nm.m, .int .u64 x.nm.t, .int .u32 x.nm.q] 28) = W2) := by rw [Hid, hW8, hW2, setBlock_alloc HQd.out.lt]
  have hz8 : W8.heap.size = Wd.heap.size := by rw [hW8]; exact setBlock_size _ _ _
  have hz2 : W2.heap.size = Wd.heap.size + 1 := by rw [← HW28.out]; simp [hz8]
  have hk8 : ∀ j, j ≠ bq → W8.heap[j]? = Wd.heap[j]? := fun j hj => by rw [hW8]; exact setBlock_block _ _ _ _ hj
  have hk2 : ∀ j, j < Wd.heap.size → j ≠ bq → W2.heap[j]? = Wd.heap[j]? := fun j hl hj => by
    rw [← HW28.out]
    have := (below_al (Below.refl W8.heap.size W8) (.cells #[.int .u32 x.nm.n, .int .u32 x.nm.m, .int .u64 x.nm.t, .int .u32 x.nm.q] 28)).block j (by omega)
    exact this.trans (hk8 j hj)
  have hk7 : ∀ j, j < Wd.heap.size → (Wd.alloc (.cells #[.int .u32 x.nm.n, .int .u32 x.nm.m, .int .u64 x.nm.t, .int .u32 x.nm.q] 28)).heap[j]? = Wd.heap[j]? := fun j hl => (below_al (Below.refl Wd.heap.size Wd) _).block j hl
  have hent7 : (Instr.mapEntry 59 (.map (some bq)) (.agg #[.int .u32 x.node, .int .i64 x.rank])).run Tryd.prog (Wd.alloc (.cells #[.int .u32 x.nm.n, .int .u32 x.nm.m, .int .u64 x.nm.t, .int .u32 x.nm.q] 28)) = .ok (.tuple #[.slice A n cp, .int .i64 st]) W2 := by
    have := hent (Wd.alloc (.cells #[.int .u32 x.nm.n, .int .u32 x.nm.m, .int .u64 x.nm.t, .int .u32 x.nm.q] 28)) (hk7 bq HQd.out.lt)
    rw [← hW2] at this
    unfold sliceOf at hsl
    rw [hsl] at this
    exact this
  have hent8 : (Instr.mapEntry 59 (.map (some bq)) (.agg #[.int .u32 x.node, .int .i64 x.rank])).run Tryd.prog Wd = .ok (.tuple #[.slice A n cp, .int .i64 st]) W8 := by
    have := hent Wd rfl
    rw [← hW8] at this
    unfold sliceOf at hsl
    rw [hsl] at this
    exact this
  have hlp := HLp.out
  have hsz := HSz.out
  have hbz := HZ1.out.2.2
  have HS0 : Hid (Wd.cell? ⟨p, 1, none⟩ = some (.map (some bq)) ∧ (Wd.cell? ⟨w1.heap.size, 0, none⟩ = some (.int .u32 x.node) ∧ Wd.cell? ⟨w1.heap.size, 1, none⟩ = some (.int .i64 x.rank)) ∧ Wd.cell? ⟨w.heap.size, 0, none⟩ = some (.int .u32 x.nm.n) ∧ Wd.cell? ⟨w.heap.size, 1, none⟩ = some (.int .u32 x.nm.m) ∧ Wd.cell? ⟨w.heap.size, 2, none⟩ = some (.int .u64 x.nm.t) ∧ Wd.cell? ⟨w.heap.size, 3, none⟩ = some (.int .u32 x.nm.q)) := HX.out _ rfl rfl rfl
  have HS7 : Hid ((Wd.alloc (.cells #[.int .u32 x.nm.n, .int .u32 x.nm.m, .int .u64 x.nm.t, .int .u32 x.nm.q] 28)).cell? ⟨p, 1, none⟩ = some (.map (some bq)) ∧ ((Wd.alloc (.cells #[.int .u32 x.nm.n, .int .u32 x.nm.m, .int .u64 x.nm.t, .int .u32 x.nm.q] 28)).cell? ⟨w1.heap.size, 0, none⟩ = some (.int .u32 x.node) ∧ (Wd.alloc (.cells #[.int .u32 x.nm.n, .int .u32 x.nm.m, .int .u64 x.nm.t, .int .u32 x.nm.q] 28)).cell? ⟨w1.heap.size, 1, none⟩ = some (.int .i64 x.rank)) ∧ (Wd.alloc (.cells #[.int .u32 x.nm.n, .int .u32 x.nm.m, .int .u64 x.nm.t, .int .u32 x.nm.q] 28)).cell? ⟨w.heap.size, 0, none⟩ = some (.int .u32 x.nm.n) ∧ (Wd.alloc (.cells #[.int .u32 x.nm.n, .int .u32 x.nm.m, .int .u64 x.nm.t, .int .u32 x.nm.q] 28)).cell? ⟨w.heap.size, 1, none⟩ = some (.int .u32 x.nm.m) ∧ (Wd.alloc (.cells #[.int .u32 x.nm.n, .int .u32 x.nm.m, .int .u64 x.nm.t, .int .u32 x.nm.q] 28)).cell? ⟨w.heap.size, 2, none⟩ = some (.int .u64 x.nm.t) ∧ (Wd.alloc (.cells #[.int .u32 x.nm.n, .int .u32 x.nm.m, .int .u64 x.nm.t, .int .u32 x.nm.q] 28)).cell? ⟨w.heap.size, 3, none⟩ = some (.int .u32 x.nm.q)) := HX.out _ (hk7 _ (by omega)) (hk7 _ (by omega)) (hk7 _ (by omega))
  have HS8 : Hid (W8.cell? ⟨p, 1, none⟩ = some (.map (some bq)) ∧ (W8.cell? ⟨w1.heap.size, 0, none⟩ = some (.int .u32 x.node) ∧ W8.cell? ⟨w1.heap.size, 1, none⟩ = some (.int .i64 x.rank)) ∧ W8.cell? ⟨w.heap.size, 0, none⟩ = some (.int .u32 x.nm.n) ∧ W8.cell? ⟨w.heap.size, 1, none⟩ = some (.int .u32 x.nm.m) ∧ W8.cell? ⟨w.heap.size, 2, none⟩ = some (.int .u64 x.nm.t) ∧ W8.cell? ⟨w.heap.size, 3, none⟩ = some (.int .u32 x.nm.q)) := HX.out _ (hk8 _ HNs.out.2.1) (hk8 _ (by omega)) (hk8 _ (by omega))
  have HS2 : Hid (W2.cell? ⟨p, 1, none⟩ = some (.map (some bq)) ∧ (W2.cell? ⟨w1.heap.size, 0, none⟩ = some (.int .u32 x.node) ∧ W2.cell? ⟨w1.heap.size, 1, none⟩ = some (.int .i64 x.rank)) ∧ W2.cell? ⟨w.heap.size, 0, none⟩ = some (.int .u32 x.nm.n) ∧ W2.cell? ⟨w.heap.size, 1, none⟩ = some (.int .u32 x.nm.m) ∧ W2.cell? ⟨w.heap.size, 2, none⟩ = some (.int .u64 x.nm.t) ∧ W2.cell? ⟨w.heap.size, 3, none⟩ = some (.int .u32 x.nm.q)) := HX.out _ (hk2 _ (by omega) HNs.out.2.1) (hk2 _ (by omega) (by omega)) (hk2 _ (by omega) (by omega))
  have hownb : ∀ j, (Value.slice A n cp).ownBlock = some j → j < w.heap.size ∧ j ≠ p ∧ j ≠ bq ∧ j ≠ bw ∧ S j := fun j hj => by
    rw [← hsl] at hj
    unfold sliceOf at hj
    cases hl : lk lq x.qk with
    | none => rw [hl] at hj; cases hj
    | some v =>
      rw [hl] at hj
      have := HNs.out.2.2.2 _ v j hl hj
      exact ⟨HQs.out.lt hl hj, this.1, this.2.1, this.2.2, HSs.out.2.2.2 _ v j hl hj⟩
  have hown : W2.ownsRow 0 28 4 (.slice A n cp) n (flatNm (namesOf D x.qk)) := by
    have := HQsd.out.own x.qk
    rw [hsl, ← hn] at this
    exact ownsRow_kept this fun j hj => hk2 j (Nat.lt_of_lt_of_le (hownb j hj).1 HBd.out.size) (hownb j hj).2.2.1
  have hnews : ∀ j u, x.nm.cells[j]? = some u → W2.cell? ((⟨Wd.heap.size, 0, none⟩ : Addr).add j) = some u := fun j u hu => by
    rw [mk_addr_add, Nat.zero_add, ← HW28.out, ← hz8]
    exact (RowB.new W8 x.nm.cells 28).1 j u hu
  obtain ⟨i, hi, hz, hsz0, hbt⟩ := info_parts info_nm
  obtain ⟨v', W3, hap, ho3, hg3, _, hv3⟩ := run_append_own_at (P := Tryd.prog) W2 0 69 69 28 i _ 4 24 Tryd.underlying69 hi hz hsz0 hbt (by kernel_rfl) (by decide) (.slice A n cp) n (flatNm (namesOf D x.qk)) hown ⟨Wd.heap.size, 0, none⟩ 1 1 x.nm.cells rfl hnews (by simp [Nm.cells, Value.oneCell']) (by unfold maxLen; omega) (by omega) (Nat.zero_le _)
  have hk3 : ∀ j, j < W2.heap.size → (Value.slice A n cp).ownBlock ≠ some j → W3.heap[j]? = W2.heap[j]? := fun j hj hne => hg3.block j hj (fun e => hne e.symm)
  have HS3 : Hid (W3.cell? ⟨p, 1, none⟩ = some (.map (some bq)) ∧ (W3.cell? ⟨w1.heap.size, 0, none⟩ = some (.int .u32 x.node) ∧ W3.cell? ⟨w1.heap.size, 1, none⟩ = some (.int .i64 x.rank)) ∧ W3.cell? ⟨w.heap.size, 0, none⟩ = some (.int .u32 x.nm.n) ∧ W3.cell? ⟨w.heap.size, 1, none⟩ = some (.int .u32 x.nm.m) ∧ W3.cell? ⟨w.heap.size, 2, none⟩ = some (.int .u64 x.nm.t) ∧ W3.cell? ⟨w.heap.size, 3, none⟩ = some (.int .u32 x.nm.q)) := by
    have q1 := fun j (hj : (Value.slice A n cp).ownBlock = some j) => (hownb j hj).1
    refine HX.out _ ((hk3 _ (by omega) fun e => (hownb _ e).2.1 rfl).trans (hk2 _ (by omega) HNs.out.2.1)) ((hk3 _ (by omega) fun e => ?_).trans (hk2 _ (by omega) (by omega))) ((hk3 _ (by omega) fun e => ?_).trans (hk2 _ (by omega) (by omega)))
    · have := q1 _ e
      omega
    · have := q1 _ e
      omega
  have hw3 : W3.heap[bq]? = some oe := by
    rw [hk3 bq (by have := HLp.out; have := HBd.out.size; omega) (fun e => (hownb _ e).2.2.1 rfl), hW2, heap_setBlock]
    simp
    have := HQd.out.lt
    omega
  obtain ⟨os, hst, hq4⟩ := hstore W3 hw3 v'
  obtain ⟨W4, hW4⟩ : ∃ W, W = setBlock W3 bq os := ⟨_, rfl⟩
  rw [← hW4] at hst hq4
  have HQ4 := Lib.hid hq4
  have hk4 : ∀ j, j ≠ bq → W4.heap[j]? = W3.heap[j]? := fun j hj => by rw [hW4]; exact setBlock_block _ _ _ _ hj
  have hz3 : W2.heap.size ≤ W3.heap.size := hg3.size
  have hz4 : W4.heap.size = W3.heap.size := by rw [hW4]; exact setBlock_size _ _ _
  have HK4 : Hid (∀ j, j < Wd.heap.size → j ≠ bq → (Value.slice A n cp).ownBlock ≠ some j → W4.heap[j]? = Wd.heap[j]?) := fun j hj hb hne => (hk4 j hb).trans ((hk3 j (by omega) hne).trans (hk2 j hj hb))
  obtain ⟨jv, hjv, hjl⟩ := own_some ho3 (by omega)
  have hjb : jv ≠ bq := by
    rintro rfl
    rcases hv3 with h | h
    · exact (hownb _ (h ▸ hjv)).2.2.1 rfl
    · rw [h] at hjv
      injection hjv with hjv
      have := HQd.out.lt
      omega
  have HO4 : Hid (W4.ownsRow 0 28 4 v' (n + 1) (flatNm (namesOf D x.qk) ++ x.nm.cells)) := ownsRow_kept ho3 fun j hj => hk4 j (by
    rw [hjv] at hj
    injection hj with hj
    omega)
  have HV4 : Hid (∀ j, v'.ownBlock = some j → (Value.slice A n cp).ownBlock = some j ∨ Wd.heap.size ≤ j) := fun j hj => by
    rcases hv3 with h | h
    · exact .inl (h ▸ hj)
    · rw [h] at hj
      injection hj with hj
      exact .inr (by omega)
  have HBt : Hid (ButS w.heap.size S w W4) := by
    rw [Hid, hW4]
    refine ButS.setBlock (ButS.grown ?_ (by have := HBd.out.size; omega) hg3 fun r hr => .inl (hownb r hr).2.2.2.2) (.inl HSs.out.2.1) os
    rw [hW2]
    exact ButS.setBlock (ButS.alloc (ButS.of_below HBd.out) HBd.out.size _) (.inl HSs.out.2.1) oe
  have HZ4 : Hid (Wd.heap.size < W4.heap.size) := by rw [Hid, hz4]; omega
  have HW4m : Hid (KMap encNm W4 bw lw) := HWmd.out.kept (HK4.out bw (by have := HWmd.out.lt; omega) (Ne.symm HNs.out.1) fun e => (hownb _ e).2.2.2.1 rfl)
  have HS4 : Hid (RowB W4 p [.int .i64 most, .map (some bq), .map (some bw)] ∧ RowB W4 w.heap.size x.cells) := ⟨HPd.out.kept (HK4.out p (by omega) HNs.out.2.1 fun e => (hownb _ e).2.1 rfl), HXd.out.kept (HK4.out _ (by omega) (by omega) fun e => by have := (hownb _ e).1; omega)⟩
  have HSl := Lib.hid hsl
  have HN := Lib.hid hn
  have HOb := Lib.hid hownb
  clear hk8 hk2 hk7 hk3 hk4 hent hstore hnl hsl hn hz8 hz2 hlp hsz hbz hownb hown hnews hi hz hsz0 hbt ho3 hg3 hv3 hw3 hq4 hz3 hz4 hjv hjl hjb hW2 hW8 hW4
  refine wp_region_T (fun X => (X.cell? ⟨p, 1, none⟩ = some (.map (some bq)) ∧ (X.cell? ⟨w1.heap.size, 0, none⟩ = some (.int .u32 x.node) ∧ X.cell? ⟨w1.heap.size, 1, none⟩ = some (.int .i64 x.rank)) ∧ X.cell? ⟨w.heap.size, 0, none⟩ = some (.int .u32 x.nm.n) ∧ X.cell? ⟨w.heap.size, 1, none⟩ = some (.int .u32 x.nm.m) ∧ X.cell? ⟨w.heap.size, 2, none⟩ = some (.int .u64 x.nm.t) ∧ X.cell? ⟨w.heap.size, 3, none⟩ = some (.int .u32 x.nm.q))) 12 (by kernel_rfl) ?_
  rw [← HWd.out]
  refine wpAnyT_take (i := 0) (v := ?_) rfl (by kernel_rfl) (by kernel_rfl) (by kernel_rfl) (by kernel_rfl) (fun _ _ _ h => h) (Or.inl ⟨by rfl, ?_⟩) HS0.out ?_
  rotate_left
  · intro w hSw
    (try dsimp only at hSw)
    go_simp
    all_goals with_reducible rfl
  simp only [Act.put, List.setIfInBounds_toArray, List.set_cons_zero, List.set_cons_succ]
  refine wpAnyT_take (i := 1) (v := ?_) rfl (by kernel_rfl) (by kernel_rfl) (by kernel_rfl) (by kernel_rfl) (fun _ _ _ h => h) (Or.inl ⟨by rfl, ?_⟩) HS0.out ?_
  rotate_left
  · intro w hSw
    (try dsimp only at hSw)
    go_simp
    all_goals with_reducible rfl
  simp only [Act.put, List.setIfInBounds_toArray, List.set_cons_zero, List.set_cons_succ]
  refine wpAnyT_take (i := 2) (v := ?_) rfl (by kernel_rfl) (by kernel_rfl) (by kernel_rfl) (by kernel_rfl) (fun _ _ _ h => h) (Or.inl ⟨by rfl, ?_⟩) HS0.out ?_
  rotate_left
  · intro w hSw
    (try dsimp only at hSw)
    go_simp
    all_goals with_reducible rfl
  simp only [Act.put, List.setIfInBounds_toArray, List.set_cons_zero, List.set_cons_succ]
  refine wpAnyT_take (i := 3) (v := ?_) rfl (by kernel_rfl) (by kernel_rfl) (by kernel_rfl) (by kernel_rfl) (fun _ _ _ h => h) (Or.inl ⟨by rfl, ?_⟩) HS0.out ?_
  rotate_left
  · intro w hSw
    (try dsimp only at hSw)
    go_simp
    all_goals with_reducible rfl
  simp only [Act.put, List.setIfInBounds_toArray, List.set_cons_zero, List.set_cons_succ]
  refine wpAnyT_take (i := 4) (v := ?_) rfl (by kernel_rfl) (by kernel_rfl) (by kernel_rfl) (by kernel_rfl) (fun _ _ _ h => h) (Or.inl ⟨by rfl, ?_⟩) HS0.out ?_
  rotate_left
  · intro w hSw
    (try dsimp only at hSw)
    go_simp
    all_goals with_reducible rfl
  simp only [Act.put, List.setIfInBounds_toArray, List.set_cons_zero, List.set_cons_succ]
  refine wpAnyT_take (i := 5) (v := ?_) rfl (by kernel_rfl) (by kernel_rfl) (by kernel_rfl) (by kernel_rfl) (fun _ _ _ h => h) (Or.inl ⟨by rfl, ?_⟩) HS0.out ?_
  rotate_left
  · intro w hSw
    (try dsimp only at hSw)
    go_simp
    all_goals with_reducible rfl
  simp only [Act.put, List.setIfInBounds_toArray, List.set_cons_zero, List.set_cons_succ]
  refine wpAnyT_take (i := 6) (v := ?_) rfl (by kernel_rfl) (by kernel_rfl) (by kernel_rfl) (by kernel_rfl) (fun _ _ _ h => h) (Or.inl ⟨by rfl, ?_⟩) HS0.out ?_
  rotate_left
  · intro w hSw
    (try dsimp only at hSw)
    go_simp
    all_goals with_reducible rfl
  simp only [Act.put, List.setIfInBounds_toArray, List.set_cons_zero, List.set_cons_succ]
  refine wpAnyT_one (i := 7) (by kernel_rfl) rfl (fun K hK => ?_)
  go_simp
  refine hK.out _ _ (fun _ => HS7.out) ?_
  clear hK K
  try simp only [Act.put, List.setIfInBounds_toArray, List.set_cons_zero, List.set_cons_succ]
  refine wpAnyT_one (i := 8) (by kernel_rfl) rfl (fun K hK => ?_)
  go_simp
  refine hK.out _ _ (fun _ => HS2.out) ?_
  clear hK K
  try simp only [Act.put, List.setIfInBounds_toArray, List.set_cons_zero, List.set_cons_succ]
  refine wpAnyT_take (i := 9) (v := ?_) rfl (by kernel_rfl) (by kernel_rfl) (by kernel_rfl) (by kernel_rfl) (fun _ _ _ h => h) (Or.inl ⟨by rfl, ?_⟩) HS2.out ?_
  rotate_left
  · intro w hSw
    (try dsimp only at hSw)
    go_simp
    all_goals with_reducible rfl
  simp only [Act.put, List.setIfInBounds_toArray, List.set_cons_zero, List.set_cons_succ]
  refine wpAnyT_take (i := 11) (v := ?_) rfl (by kernel_rfl) (by kernel_rfl) (by kernel_rfl) (by kernel_rfl) (fun _ _ _ h => h) (Or.inl ⟨by rfl, ?_⟩) HS2.out ?_
  rotate_left
  · intro w hSw
    (try dsimp only at hSw)
    go_simp
    all_goals with_reducible rfl
  simp only [Act.put, List.setIfInBounds_toArray, List.set_cons_zero, List.set_cons_succ]
  refine wpAnyT_one (i := 10) (by kernel_rfl) rfl (fun K hK => ?_)
  refine step_app rfl (.tmp 12) (.tmp 15) 69 69 rfl _ _ _ W3 (by rfl) (by rfl) hap ?_
  refine hK.out _ _ (fun _ => HS3.out) ?_
  clear hK K
  try simp only [Act.put, List.setIfInBounds_toArray, List.set_cons_zero, List.set_cons_succ]
  refine wpAnyT_one (i := 12) (by kernel_rfl) rfl (fun K hK => ?_)
  go_simp
  refine hK.out _ _ (fun h => absurd h (by decide)) ?_
  clear hK K
  try simp only [Act.put, List.setIfInBounds_toArray, List.set_cons_zero, List.set_cons_succ]
  refine wpAnyT_done (by kernel_rfl) ?_ _
  clear hap hst hent7 hent8
  go_upto_region 3 with fail
  obtain ⟨Wf, hWf⟩ : ∃ W, W = W4.drew := ⟨_, rfl⟩
  have HWf : Hid (Wf = W4.drew) := hWf
  have HSY : Hid (∀ X : World, X.heap[p]? = W4.heap[p]? → X.heap[w.heap.size]? = W4.heap[w.heap.size]? → (X.cell? ⟨p, 2, none⟩ = some (.map (some bw)) ∧ X.cell? ⟨w.heap.size, 0, none⟩ = some (.int .u32 x.nm.n) ∧ X.cell? ⟨w.heap.size, 1, none⟩ = some (.int .u32 x.nm.m) ∧ X.cell? ⟨w.heap.size, 2, none⟩ = some (.int .u64 x.nm.t) ∧ X.cell? ⟨w.heap.size, 3, none⟩ = some (.int .u32 x.nm.q) ∧ X.cell? ⟨w.heap.size, 4, none⟩ = some (.int .u32 x.node) ∧ X.cell? ⟨w.heap.size, 5, none⟩ = some (.int .i64 x.rank) ∧ X.cell? ⟨w.heap.size, 6, none⟩ = some (.int .i64 x.size))) := fun X g1 g2 =>
    have r1 := HS4.out.1.kept g1
    have r3 := HS4.out.2.kept g2
    ⟨r1.1 2 _ rfl, r3.1 0 _ rfl, r3.1 1 _ rfl, r3.1 2 _ rfl, r3.1 3 _ rfl, r3.1 4 _ rfl, r3.1 5 _ rfl, r3.1 6 _ rfl⟩
  have hmf : KMap encNm Wf bw lw := by rw [hWf]; exact HW4m.out.kept rfl
  obtain ⟨om, hup, hm6⟩ := hmf.update keyNm Tryd.underlying60 x.nm (encWt x)
  unfold encNm encWt at hup
  have HM6 := Lib.hid hm6
  have HF : Hid ((Wf.cell? ⟨p, 2, none⟩ = some (.map (some bw)) ∧ Wf.cell? ⟨w.heap.size, 0, none⟩ = some (.int .u32 x.nm.n) ∧ Wf.cell? ⟨w.heap.size, 1, none⟩ = some (.int .u32 x.nm.m) ∧ Wf.cell? ⟨w.heap.size, 2, none⟩ = some (.int .u64 x.nm.t) ∧ Wf.cell? ⟨w.heap.size, 3, none⟩ = some (.int .u32 x.nm.q) ∧ Wf.cell? ⟨w.heap.size, 4, none⟩ = some (.int .u32 x.node) ∧ Wf.cell? ⟨w.heap.size, 5, none⟩ = some (.int .i64 x.rank) ∧ Wf.cell? ⟨w.heap.size, 6, none⟩ = some (.int .i64 x.size))) := HSY.out Wf (by rw [hWf]; rfl) (by rw [hWf]; rfl)
  clear hm6 hWf hmf
  refine wp_region_T (fun X => (X.cell? ⟨p, 2, none⟩ = some (.map (some bw)) ∧ X.cell? ⟨w.heap.size, 0, none⟩ = some (.int .u32 x.nm.n) ∧ X.cell? ⟨w.heap.size, 1, none⟩ = some (.int .u32 x.nm.m) ∧ X.cell? ⟨w.heap.size, 2, none⟩ = some (.int .u64 x.nm.t) ∧ X.cell? ⟨w.heap.size, 3, none⟩ = some (.int .u32 x.nm.q) ∧ X.cell? ⟨w.heap.size, 4, none⟩ = some (.int .u32 x.node) ∧ X.cell? ⟨w.heap.size, 5, none⟩ = some (.int .i64 x.rank) ∧ X.cell? ⟨w.heap.size, 6, none⟩ = some (.int .i64 x.size))) 7 (by kernel_rfl) ?_
  rw [← HWf.out]
  refine wpAnyT_take (i := 0) (v := ?_) rfl (by kernel_rfl) (by kernel_rfl) (by kernel_rfl) (by kernel_rfl) (fun _ _ _ h => h) (Or.inl ⟨by rfl, ?_⟩) HF.out ?_
  rotate_left
  · intro w hSw
    (try dsimp only at hSw)
    go_simp
    all_goals with_reducible rfl
  simp only [Act.put, List.setIfInBounds_toArray, List.set_cons_zero, List.set_cons_succ]
  refine wpAnyT_take (i := 1) (v := ?_) rfl (by kernel_rfl) (by kernel_rfl) (by kernel_rfl) (by kernel_rfl) (fun _ _ _ h => h) (Or.inl ⟨by rfl, ?_⟩) HF.out ?_
  rotate_left
  · intro w hSw
    (try dsimp only at hSw)
    go_simp
    all_goals with_reducible rfl
  simp only [Act.put, List.setIfInBounds_toArray, List.set_cons_zero, List.set_cons_succ]
  refine wpAnyT_take (i := 2) (v := ?_) rfl (by kernel_rfl) (by kernel_rfl) (by kernel_rfl) (by kernel_rfl) (fun _ _ _ h => h) (Or.inl ⟨by rfl, ?_⟩) HF.out ?_
  rotate_left
  · intro w hSw
    (try dsimp only at hSw)
    go_simp
    all_goals with_reducible rfl
  simp only [Act.put, List.setIfInBounds_toArray, List.set_cons_zero, List.set_cons_succ]
  refine wpAnyT_take (i := 3) (v := ?_) rfl (by kernel_rfl) (by kernel_rfl) (by kernel_rfl) (by kernel_rfl) (fun _ _ _ h => h) (Or.inl ⟨by rfl, ?_⟩) HF.out ?_
  rotate_left
  · intro w hSw
    (try dsimp only at hSw)
    go_simp
    all_goals with_reducible rfl
  simp only [Act.put, List.setIfInBounds_toArray, List.set_cons_zero, List.set_cons_succ]
  refine wpAnyT_take (i := 4) (v := ?_) rfl (by kernel_rfl) (by kernel_rfl) (by kernel_rfl) (by kernel_rfl) (fun _ _ _ h => h) (Or.inl ⟨by rfl, ?_⟩) HF.out ?_
  rotate_left
  · intro w hSw
    (try dsimp only at hSw)
    go_simp
    all_goals with_reducible rfl
  simp only [Act.put, List.setIfInBounds_toArray, List.set_cons_zero, List.set_cons_succ]
  refine wpAnyT_take (i := 5) (v := ?_) rfl (by kernel_rfl) (by kernel_rfl) (by kernel_rfl) (by kernel_rfl) (fun _ _ _ h => h) (Or.inl ⟨by rfl, ?_⟩) HF.out ?_
  rotate_left
  · intro w hSw
    (try dsimp only at hSw)
    go_simp
    all_goals with_reducible rfl
  simp only [Act.put, List.setIfInBounds_toArray, List.set_cons_zero, List.set_cons_succ]
  refine wpAnyT_take (i := 6) (v := ?_) rfl (by kernel_rfl) (by kernel_rfl) (by kernel_rfl) (by kernel_rfl) (fun _ _ _ h => h) (Or.inl ⟨by rfl, ?_⟩) HF.out ?_
  rotate_left
  · intro w hSw
    (try dsimp only at hSw)
    go_simp
    all_goals with_reducible rfl
  simp only [Act.put, List.setIfInBounds_toArray, List.set_cons_zero, List.set_cons_succ]
  refine wpAnyT_one (i := 7) (by kernel_rfl) rfl (fun K hK => ?_)
  go_simp
  refine hK.out _ _ (fun h => absurd h (by decide)) ?_
  clear hK K
  try simp only [Act.put, List.setIfInBounds_toArray, List.set_cons_zero, List.set_cons_succ]
  refine wpAnyT_done (by kernel_rfl) ?_ _
  obtain ⟨W6, hW6⟩ : ∃ W, W = setBlock Wf bw om := ⟨_, rfl⟩
  rw [← hW6]
  have HW6 := Lib.hid hW6
  clear hW6 hup
  go_wp2_with fail
  (try simp only [Exit.inBlock, Exit.then])
  refine bodyPost_end (results_none rfl _ _ _) rfl ?_
  have hlp := HLp.out
  have hbd := HBd.out.size
  have hzf : Wf.heap = W4.heap := by rw [HWf.out]; rfl
  have hz6 : W6.heap.size = W4.heap.size := by rw [HW6.out, setBlock_size, hzf]
  have hz4' := HZ4.out
  have hk6 : ∀ j, j ≠ bw → W6.heap[j]? = W4.heap[j]? := fun j hj => by rw [HW6.out, setBlock_block _ _ _ _ hj, hzf]
  have HL := line_join (w := w) (w' := W6) x HPc.out HQs.out HWs.out HSs.out HNs.out HNo.out v' (HQ4.out.kept (hk6 bq HNs.out.1)) (by rw [HW6.out]; exact HM6.out) (by
    rw [← HN.out]
    exact ownsRow_kept HO4.out fun j hj => hk6 j fun e => by
      rcases HV4.out j hj with h | h
      · exact (HOb.out j h).2.2.2.1 e
      · omega) (fun j hj g1 g2 hne => ((hk6 j g2).trans (HK4.out j (by omega) g1 (by rw [← HSl.out]; exact hne))).trans (HBd.out.block j hj)) (fun j hj => by
      rw [HSl.out]
      exact (HV4.out j hj).imp id fun h => by omega) hlp.2.1 hlp.2.2
  exact ⟨rfl, HL, by rw [HW6.out]; exact ButS.setBlock (by rw [HWf.out]; exact HBt.out.drew) (.inl HSs.out.2.2.1) om⟩

end Go.Proofs.YthfndphngeaihaaDoor
