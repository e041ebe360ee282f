/- Package rank: Drop. -/
import Derived.Test.YthfndphngeaihaaDoorRkI
namespace Go.Proofs.YthfndphngeaihaaDoor
open Go Go.RowKit Go.Shelf
open Go.ChangeMaps (setBlock)
set_option linter.unusedSimpArgs false
set_option linter.unusedVariables false
set_option linter.unusedSectionVars false
set_option maxRecDepth 100000

attribute [local go_sem] Oper.semAt_some

/-- A result that lies in a box, and one in a slot. -/
theorem results_ct {P : Program} {fn : Func} {tm : Array Value} {w : World} {s r : Tmp} {t : TypeId} {b : Addr} {v u : Value} (hf : fn.results = #[.cell s t, .tmp r]) (h : tm[s]? = some (.pointer (some b))) (hl : (loadVar t b).run P w = .ok v w) (hr : tm[r]? = some u) : (results fn tm).run P w = .ok (.tuple #[v, u]) w := by
  unfold results
  rw [hf]
  simp [h, hr, asAddr, hl, Sem.run_bind, Result.andThen]

def sDrop (i : Nat) : Nat := ([7, 8, 9, 10, 11, 12, 13] : List Nat).getD i 0
def vDrop (p : Nat) (n : Nm) : Nat → Value → World → Prop
  | 0, u, w => u = .pointer (some ⟨p, 0, none⟩)
  | 1, u, w => u = .func (.func 19) #[.pointer (some ⟨p, 0, none⟩)] #[]
  | 2, u, w => u = .agg #[.int .u32 n.n, .int .u32 n.m, .int .u64 n.t, .int .u32 n.q]
  | 3, u, w => NamedV n u w
  | 4, u, w => u = .pointer (some ⟨p, 0, none⟩)
  | 5, u, w => u = .agg #[.int .u32 n.n, .int .u32 n.m, .int .u64 n.t, .int .u32 n.q]
  | 6, u, w => WaitingV p n u w
  | _, _, _ => True
theorem vDrop_mono {p : Nat} {n : Nm} (i : Nat) (u : Value) (w w' : World) (h : vDrop p n i u w) (hb : Below w.heap.size w w') : vDrop p n i u w' := by
  unfold vDrop at h ⊢
  split at h <;> first | exact h | exact NamedV.mono h hb | exact WaitingV.mono h hb

/-- What Drop, Get answer. -/
def dropE (D : List Wt) (n : Nm) : Int := if mayN n = false then 2 else if (wt D n).isSome = true then 0 else 5
def dropAsks (D : List Wt) (n : Nm) (p b3 b6 c6 : Nat) : List Ask :=
  [⟨19, #[.pointer (some ⟨p, 0, none⟩)], #[], 0⟩, ⟨46, #[], #[.pointer (some ⟨b3, 0, none⟩)], unE (mayN n) 2⟩, ⟨56, #[], #[.pointer (some ⟨b6, 0, none⟩), .pointer (some ⟨c6, 0, none⟩)], unE (wt D n).isSome 5⟩]
theorem dropAsks_first (D : List Wt) (n : Nm) (p b3 b6 c6 : Nat) : firstE (dropAsks D n p b3 b6 c6) = dropE D n := by
  unfold dropAsks dropE
  simp only [firstE]
  cases mayN n <;> cases (wt D n).isSome <;> simp [unE]

set_option maxHeartbeats 8000000 in
theorem drop_any (S : Nat → Prop) (p : Nat) (most : Int) (D : List Wt) (n : Nm) (w : World) (h : LineAt w S p most D) (hS : ∀ b, S b → b < w.heap.size) (hlen : D.length ≤ 100000) :
    Calls Tryd.prog 9 #[.pointer (some ⟨p, 0, none⟩), .agg #[.int .u32 n.n, .int .u32 n.m, .int .u64 n.t, .int .u32 n.q]] w fun e w' => e = .returned (.tuple #[encWt (if dropE D n = 0 then (wt D n).getD wtZ else wtZ), .int .i64 (dropE D n)]) ∧ LineAt w' S p most (if dropE D n = 0 then rm D n else D) ∧ ButS w.heap.size S w w' := by
  obtain ⟨W, hW⟩ : ∃ W, W = (w.alloc (.cells #[.int .u32 n.n, .int .u32 n.m, .int .u64 n.t, .int .u32 n.q] 28)).alloc (.cells #[.int .u32 0, .int .u32 0, .int .u64 0, .int .u32 0, .int .u32 0, .int .i64 0, .int .i64 0] 30) := ⟨_, rfl⟩
  have HB0 : Hid (Below w.heap.size w W) := by rw [hW]; exact below_al (below_al (Below.refl _ _) _) _
  obtain ⟨bx, hbx⟩ : ∃ bx, bx = w.heap.size := ⟨_, rfl⟩
  obtain ⟨br, hbr⟩ : ∃ br, br = w.heap.size + 1 := ⟨_, rfl⟩
  have HZ0 : Hid (W.heap.size = br + 1 ∧ bx < br ∧ w.heap.size ≤ br) := by
    rw [Hid, hW, hbr, hbx]
    simp
  have HX0 : Hid (RowB W bx n.cells ∧ RowB W br wtZ.cells) := by
    rw [Hid, hW, hbx, hbr]
    refine ⟨(RowB.new w n.cells _).on (below_al (Below.refl _ _) _) (by simp), ?_⟩
    have := RowB.new (w.alloc (.cells #[.int .u32 n.n, .int .u32 n.m, .int .u64 n.t, .int .u32 n.q] 28)) wtZ.cells 30
    rw [show (w.alloc (.cells #[.int .u32 n.n, .int .u32 n.m, .int .u64 n.t, .int .u32 n.q] 28)).heap.size = w.heap.size + 1 by simp] at this
    exact this
  have HX : Hid (∀ v, Below W.heap.size W v → RowB v bx n.cells) := fun v hb => HX0.out.1.on hb (by have := HZ0.out; omega)
  have HL := Lib.hid h
  have HSb : Hid (∀ b, S b → b < w.heap.size) := hS
  have HLe := Lib.hid hlen
  have HW := Lib.hid hW
  have HBx : Hid (bx = w.heap.size ∧ br = w.heap.size + 1) := ⟨hbx, hbr⟩
  clear h hlen hW hS
  go_enter Tryd.func9, Tryd.ntmps9
  go_upto_region 1 with fail
  rw [← HW.out, ← hbr, ← hbx]
  clear hbx hbr
  refine wp_region_free3 7 sDrop (vDrop p n) (by kernel_rfl) (by decide) (fun i j hi hj => (by decide : ∀ i, i < 7 → ∀ j, j < 7 → sDrop i = sDrop j → i = j) i hi j hj) (fun i hi => (by decide : ∀ i, i < 7 → sDrop i < 23) i hi) (dep_ok (by kernel_rfl)) (late_ok (by kernel_rfl)) (fun i u w w' hi h hb => vDrop_mono i u w w' h hb) ?step ?fin
  case step =>
    intro i tm v K hi hb htz hrest hdeps hK
    have hx := HX.out v hb
    have z0 := hx.1 0 _ rfl
    have z1 := hx.1 1 _ rfl
    have z2 := hx.1 2 _ rfl
    have z3 := hx.1 3 _ rfl
    clear hx
    have HK := Lib.hid hK
    have t0 : tm[0]? = some (.pointer (some ⟨p, 0, none⟩)) := hrest 0 (by decide)
    have t3 : tm[3]? = some (.pointer (some ⟨bx, 0, none⟩)) := hrest 3 (by decide)
    clear hK hrest htz
    match i, hi with
    | 0, _ =>
      clear hdeps
      refine wpOp_of rfl rfl ?_
      go_simp
      exact HK.out _ v (Below.refl _ _) rfl
    | 1, _ =>
      obtain ⟨u0, d0, e0⟩ := hdeps 0 (by kernel_rfl)
      have d0 : tm[7]? = some (.pointer (some ⟨p, 0, none⟩)) := by rw [show u0 = .pointer (some ⟨p, 0, none⟩) from e0] at d0; exact d0
      clear hdeps
      refine wpOp_of rfl rfl ?_
      go_simp
      exact HK.out _ v (Below.refl _ _) rfl
    | 2, _ =>
      clear hdeps
      refine wpOp_of rfl rfl ?_
      go_simp
      exact HK.out _ v (Below.refl _ _) rfl
    | 3, _ =>
      obtain ⟨u2, d2, e2⟩ := hdeps 2 (by kernel_rfl)
      have d2 : tm[9]? = some (.agg #[.int .u32 n.n, .int .u32 n.m, .int .u64 n.t, .int .u32 n.q]) := by rw [show u2 = .agg #[.int .u32 n.n, .int .u32 n.m, .int .u64 n.t, .int .u32 n.q] from e2] at d2; exact d2
      clear hdeps
      refine wpOp_of rfl rfl ?_
      go_simp
      refine (rnamed_any n v).mono ?_
      rintro e v' ⟨rfl, rfl⟩
      exact HK.out _ _ (below_al (Below.refl _ _) _) (rnamed_v n v)
    | 4, _ =>
      clear hdeps
      refine wpOp_of rfl rfl ?_
      go_simp
      exact HK.out _ v (Below.refl _ _) rfl
    | 5, _ =>
      clear hdeps
      refine wpOp_of rfl rfl ?_
      go_simp
      exact HK.out _ v (Below.refl _ _) rfl
    | 6, _ =>
      obtain ⟨u4, d4, e4⟩ := hdeps 4 (by kernel_rfl)
      have d4 : tm[11]? = some (.pointer (some ⟨p, 0, none⟩)) := by rw [show u4 = .pointer (some ⟨p, 0, none⟩) from e4] at d4; exact d4
      obtain ⟨u5, d5, e5⟩ := hdeps 5 (by kernel_rfl)
      have d5 : tm[12]? = some (.agg #[.int .u32 n.n, .int .u32 n.m, .int .u64 n.t, .int .u32 n.q]) := by rw [show u5 = .agg #[.int .u32 n.n, .int .u32 n.m, .int .u64 n.t, .int .u32 n.q] from e5] at d5; exact d5
      clear hdeps
      refine wpOp_of rfl rfl ?_
      go_simp
      refine (waiting_any (some ⟨p, 0, none⟩) n v).mono ?_
      rintro e v' ⟨rfl, rfl⟩
      exact HK.out _ _ (below_al (below_al (Below.refl _ _) _) _) ⟨_, _, rfl, (absent_row p n v).1, by simp; omega, (absent_row p n v).2, by simp⟩
    | n + 7, h => exact absurd h (by omega)
  case fin =>
    intro v vals listed hsz hl1 hl2 hb hV
    have hle := listed_eq hsz hl1 hl2
    rw [hle]
    clear hle hsz hl1 hl2
    have e0 : vals 0 = .pointer (some ⟨p, 0, none⟩) := hV 0 (by omega)
    have e1 : vals 1 = .func (.func 19) #[.pointer (some ⟨p, 0, none⟩)] #[] := hV 1 (by omega)
    have e2 : vals 2 = .agg #[.int .u32 n.n, .int .u32 n.m, .int .u64 n.t, .int .u32 n.q] := hV 2 (by omega)
    obtain ⟨b3, e3, r3, l3⟩ := hV 3 (by omega)
    have e4 : vals 4 = .pointer (some ⟨p, 0, none⟩) := hV 4 (by omega)
    have e5 : vals 5 = .agg #[.int .u32 n.n, .int .u32 n.m, .int .u64 n.t, .int .u32 n.q] := hV 5 (by omega)
    obtain ⟨b6, c6, e6, r6, l6, k6, m6⟩ := hV 6 (by omega)
    clear hV
    simp only [laidV, sDrop, List.getD_cons_zero, List.getD_cons_succ, List.setIfInBounds_toArray, List.set_cons_zero, List.set_cons_succ, e0, e1, e2, e3, e4, e5, e6]
    clear e0 e1 e2 e3 e4 e5 e6
    change wpAny _ _ _ _ 3 _ _ _
    refine wpAny_next (i := 7) (by kernel_rfl) rfl (fun K hK => ?_)
    go_simp
    refine hK _ _ ?_
    clear hK K
    try simp only [Act.put, List.setIfInBounds_toArray, List.set_cons_zero, List.set_cons_succ]
    obtain ⟨V2, hV2⟩ : ∃ V, V = v.alloc (.cells #[.func (.func 19) #[.pointer (some ⟨p, 0, none⟩)] #[], .func (.func 46) #[] #[.pointer (some ⟨b3, 0, none⟩)], .func (.func 56) #[] #[.pointer (some ⟨b6, 0, none⟩), .pointer (some ⟨c6, 0, none⟩)]] 56) := ⟨_, rfl⟩
    rw [← hV2]
    have hbv : Below v.heap.size v V2 := by rw [hV2]; exact below_al (Below.refl _ _) _
    have hrow : ∀ (j : Nat) (q : Ask), (dropAsks D n p b3 b6 c6)[j]? = some q → V2.cell? ⟨v.heap.size, j, none⟩ = some (.func (.func q.g) q.fs q.lb) := fun j q hj => by
      have hr := RowB.new v [.func (.func 19) #[.pointer (some ⟨p, 0, none⟩)] #[], .func (.func 46) #[] #[.pointer (some ⟨b3, 0, none⟩)], .func (.func 56) #[] #[.pointer (some ⟨b6, 0, none⟩), .pointer (some ⟨c6, 0, none⟩)]] 56
      rw [hV2]
      refine hr.1 j _ ?_
      unfold dropAsks at hj
      match j, hj with
      | 0, hj | 1, hj | 2, hj => injection hj with hj; subst hj; rfl
      | n + 3, hj => simp at hj
    have hline : ∀ X, Below V2.heap.size V2 X → LineAt X S p most D := fun X hX => HL.out.on (HB0.out.trans ((hb.trans ((hbv.trans (hX.mono hbv.size)).mono hb.size)).mono HB0.out.size))
    have hcell : ∀ X, Below V2.heap.size V2 X → ∃ bq, X.cell? ⟨p, 1, none⟩ = some (.map (some bq)) := fun X hX => by
      obtain ⟨bq, bw, lq, lw, h1, _⟩ := hline X hX
      exact ⟨bq, h1.1 1 _ rfl⟩
    have hon : ∀ (X : World) (b : Nat) (vs : List Value), Below V2.heap.size V2 X → RowB v b vs → b < v.heap.size → RowB X b vs := fun X b vs hX hr hl => (hr.on hbv hl).on hX (Nat.lt_of_lt_of_le hl hbv.size)
    have hask : AsksAt V2 (dropAsks D n p b3 b6 c6) := by
      unfold dropAsks
      refine asks_cons ent_there (fun X hX => ?_) (asks_cons ent_named1 (fun X hX => ?_) (asks_one ent_waiting1 (fun X hX => ?_)))
      · obtain ⟨bq, hq⟩ := hcell X hX
        exact there_any p bq X hq
      · have hr := hon X b3 _ hX r3 l3
        exact rnamed1_any b3 n X (hr.1 0 _ rfl) (hr.1 1 _ rfl) (hr.1 2 _ rfl) (hr.1 3 _ rfl)
      · have hr := hon X c6 _ hX k6 m6
        exact waiting1_any S p most D n b6 c6 X (hline X hX) ((hon X b6 _ hX r6 l6).1 0 _ rfl) (hr.1 0 _ rfl) (hr.1 1 _ rfl) (hr.1 2 _ rfl) (hr.1 3 _ rfl)
    have HRef := Lib.hid (rkrefusal_any v.heap.size (dropAsks D n p b3 b6 c6) V2 (by simp [dropAsks]) (by rw [hV2]; simp) hrow hask)
    rw [dropAsks_first, show (dropAsks D n p b3 b6 c6).length = 3 from rfl] at HRef
    have HBv : Hid (Below W.heap.size W V2) := hb.trans (hbv.mono hb.size)
    clear hrow hask hline hcell hon hbv hV2 hb r3 l3 r6 l6 k6 m6
    refine wpAny_next (i := 8) (by kernel_rfl) rfl (fun K hK => ?_)
    go_simp
    refine HRef.out.mono ?_
    rintro e v3 ⟨rfl, hb3⟩
    have HB3 : Hid (Below W.heap.size W v3) := HBv.out.trans (hb3.mono HBv.out.size)
    refine hK _ _ ?_
    clear hK K HRef hb3 HBv
    try simp only [Act.put, List.setIfInBounds_toArray, List.set_cons_zero, List.set_cons_succ]
    refine wpAny_next (i := 9) (by kernel_rfl) rfl (fun K hK => ?_)
    go_simp
    refine hK _ _ ?_
    clear hK K
    try simp only [Act.put, List.setIfInBounds_toArray, List.set_cons_zero, List.set_cons_succ]
    refine wpAny_done (by kernel_rfl) ?_ _
    have HLv : Hid (LineAt v3 S p most D) := HL.out.on (HB0.out.trans (HB3.out.mono HB0.out.size))
    have HBw : Hid (Below w.heap.size w v3) := HB0.out.trans (HB3.out.mono HB0.out.size)
    have HXv : Hid (RowB v3 bx n.cells) := HX.out v3 HB3.out
    have HRv : Hid (RowB v3 br wtZ.cells) := HX0.out.2.on HB3.out (by have := HZ0.out; omega)
    have r3 := HRv.out
    have u0 := r3.1 0 _ rfl
    have u1 := r3.1 1 _ rfl
    have u2 := r3.1 2 _ rfl
    have u3 := r3.1 3 _ rfl
    have u4 := r3.1 4 _ rfl
    have u5 := r3.1 5 _ rfl
    have u6 := r3.1 6 _ rfl
    have g0 := r3.2 0
    have g1 := r3.2 1
    have g2 := r3.2 2
    have g3 := r3.2 3
    have g4 := r3.2 4
    have g5 := r3.2 5
    have g6 := r3.2 6
    clear r3
    by_cases he : dropE D n = 0
    · obtain ⟨x, hx⟩ : ∃ x, wt D n = some x := by
        unfold dropE at he
        cases hw : wt D n with
        | some y => exact ⟨y, rfl⟩
        | none =>
          rw [hw] at he
          split at he
          · cases he
          · simp at he
      have HE : Hid (dropE D n = 0) := he
      have HWt : Hid (wt D n = some x) := hx
      clear u0 u1 u2 u3 u4 u5 u6 g0 g1 g2 g3 g4 g5 g6
      rw [he]
      have hx := HXv.out
      have z0 := hx.1 0 _ rfl
      have z1 := hx.1 1 _ rfl
      have z2 := hx.1 2 _ rfl
      have z3 := hx.1 3 _ rfl
      clear hx he
      go_wp2_with fail
      refine (leave_any S p most D x n v3 HLv.out (wt_mem HWt.out).1 (wt_mem HWt.out).2 HLe.out).mono ?_
      rintro e w4 ⟨rfl, hl4, hb4⟩
      have HL4 := Lib.hid hl4
      have HB4 := Lib.hid hb4
      clear hl4 hb4 z0 z1 z2 z3
      have HR4 : Hid (RowB w4 br wtZ.cells) := HRv.out.kept (HB4.out.block br (by have := HB3.out.size; have := HZ0.out; omega) fun h => by have := HSb.out br h; have := HZ0.out; omega)
      unfold encWt
      have r3 := HR4.out
      have u0 := r3.1 0 _ rfl
      have u1 := r3.1 1 _ rfl
      have u2 := r3.1 2 _ rfl
      have u3 := r3.1 3 _ rfl
      have u4 := r3.1 4 _ rfl
      have u5 := r3.1 5 _ rfl
      have u6 := r3.1 6 _ rfl
      have g0 := r3.2 0
      have g1 := r3.2 1
      have g2 := r3.2 2
      have g3 := r3.2 3
      have g4 := r3.2 4
      have g5 := r3.2 5
      have g6 := r3.2 6
      clear r3
      go_wp2_with fail
      change bodyPost _ _ _ _ _ (putWt w4 br x)
      refine bodyPost_ret (results_ct rfl (by rfl) (load_wt (putWt_row HR4.out)) (by rfl)) rfl ⟨by first | rfl | (rw [HE.out, if_pos rfl, HWt.out]; rfl), ?_, ?_⟩
      · (try rw [if_pos HE.out])
        exact HL4.out.kept fun b hb _ => putWt_block _ _ _ _ (by rintro rfl; have := HSb.out _ hb; have := HZ0.out; omega)
      · exact ButS.putWt ((ButS.of_below HBw.out).trans (HB4.out.mono HBw.out.size fun _ _ h => h)) (.inr HZ0.out.2.2) x
    · obtain ⟨e, hE⟩ : ∃ e, e = dropE D n := ⟨_, rfl⟩
      have HE := Lib.hid hE
      rw [← hE]
      have he0 : (e == 0) = false := by rw [hE]; simpa using he
      have he1 : (e != 0) = true := by rw [hE]; simpa using he
      have HN0 : Hid (¬ dropE D n = 0) := he
      clear he hE
      go_wp2_with fail
      change bodyPost _ _ _ _ _ (putWt v3 br wtZ)
      refine bodyPost_ret (results_ct rfl (by rfl) (load_wt (putWt_row HRv.out)) (by rfl)) rfl ⟨by first | (rw [HE.out]; rfl) | (rw [HE.out, if_neg HN0.out]; rfl), ?_, ?_⟩
      · (try rw [if_neg HN0.out])
        exact HLv.out.kept fun b hb _ => putWt_block _ _ _ _ (by rintro rfl; have := HSb.out _ hb; have := HZ0.out; omega)
      · exact ButS.putWt (ButS.of_below HBw.out) (.inr HZ0.out.2.2) wtZ

end Go.Proofs.YthfndphngeaihaaDoor
