/- Package rank: Move. -/
import Derived.Test.YthfndphngeaihaaDoorRkJ
namespace Go.Proofs.YthfndphngeaihaaDoor
open Go Go.RowKit Go.Shelf
open Go.ChangeMaps (setBlock)
set_option linter.unusedSimpArgs false
set_option linter.unusedVariables false
set_option linter.unusedSectionVars false
set_option maxRecDepth 100000

attribute [local go_sem] Oper.semAt_some

def sMove (i : Nat) : Nat := ([9, 10, 11, 12, 13, 14, 15, 16, 17] : List Nat).getD i 0
def vMove (p : Nat) (n : Nm) (node : Int) : Nat → Value → World → Prop
  | 0, u, w => u = .pointer (some ⟨p, 0, none⟩)
  | 1, u, w => u = .func (.func 19) #[.pointer (some ⟨p, 0, none⟩)] #[]
  | 2, u, w => u = .agg #[.int .u32 n.n, .int .u32 n.m, .int .u64 n.t, .int .u32 n.q]
  | 3, u, w => NamedV n u w
  | 4, u, w => u = .int .u32 node
  | 5, u, w => NearV node u w
  | 6, u, w => u = .pointer (some ⟨p, 0, none⟩)
  | 7, u, w => u = .agg #[.int .u32 n.n, .int .u32 n.m, .int .u64 n.t, .int .u32 n.q]
  | 8, u, w => WaitingV p n u w
  | _, _, _ => True
theorem vMove_mono {p : Nat} {n : Nm} {node : Int} (i : Nat) (u : Value) (w w' : World) (h : vMove p n node i u w) (hb : Below w.heap.size w w') : vMove p n node i u w' := by
  unfold vMove at h ⊢
  split at h <;> first | exact h | exact NamedV.mono h hb | exact NearV.mono h hb | exact WaitingV.mono h hb

/-- What Move answers. -/
def moveE (D : List Wt) (n : Nm) (node : Int) : Int := if mayN n = false then 2 else if node ≤ 0 then 2 else if (wt D n).isSome = true then 0 else 5
def moved (D : List Wt) (n : Nm) (node : Int) : List Wt := rm D n ++ [{ (wt D n).getD wtZ with node := node }]
def moveAsks (D : List Wt) (n : Nm) (node : Int) (p b3 b5 b8 c8 : Nat) : List Ask :=
  [⟨19, #[.pointer (some ⟨p, 0, none⟩)], #[], 0⟩, ⟨46, #[], #[.pointer (some ⟨b3, 0, none⟩)], unE (mayN n) 2⟩, ⟨48, #[], #[.pointer (some ⟨b5, 0, none⟩)], unE (decide (0 < node)) 2⟩, ⟨56, #[], #[.pointer (some ⟨b8, 0, none⟩), .pointer (some ⟨c8, 0, none⟩)], unE (wt D n).isSome 5⟩]
theorem moveAsks_first (D : List Wt) (n : Nm) (node : Int) (p b3 b5 b8 c8 : Nat) : firstE (moveAsks D n node p b3 b5 b8 c8) = moveE D n node := by
  unfold moveAsks moveE
  simp only [firstE]
  by_cases h : 0 < node
  · have h' : ¬ node ≤ 0 := by omega
    cases mayN n <;> cases (wt D n).isSome <;> simp [unE, h, h']
  · have h' : node ≤ 0 := by omega
    cases mayN n <;> cases (wt D n).isSome <;> simp [unE, h, h']

set_option maxHeartbeats 8000000 in
theorem move_any (S : Nat → Prop) (p : Nat) (most : Int) (D : List Wt) (n : Nm) (node : Int) (w : World) (h : LineAt w S p most D) (hS : ∀ b, S b → b < w.heap.size) (hlen : D.length ≤ 100000) :
    Calls Tryd.prog 15 #[.pointer (some ⟨p, 0, none⟩), .agg #[.int .u32 n.n, .int .u32 n.m, .int .u64 n.t, .int .u32 n.q], .int .u32 node] w fun e w' => e = .returned (.int .i64 (moveE D n node)) ∧ LineAt w' (fun b => S b ∨ newS w w' b) p most (if moveE D n node = 0 then moved D n node else D) ∧ ButS w.heap.size S w w' := by
  obtain ⟨W, hW⟩ : ∃ W, W = w.alloc (.cells #[.int .u32 n.n, .int .u32 n.m, .int .u64 n.t, .int .u32 n.q] 28) := ⟨_, rfl⟩
  have HB0 : Hid (Below w.heap.size w W) := by rw [hW]; exact below_al (Below.refl _ _) _
  obtain ⟨bx, hbx⟩ : ∃ bx, bx = w.heap.size := ⟨_, rfl⟩
  have HZ0 : Hid (W.heap.size = bx + 1 ∧ w.heap.size ≤ bx) := by
    rw [Hid, hW, hbx]
    simp
  have HX0 : Hid (RowB W bx n.cells) := by
    rw [Hid, hW, hbx]
    exact RowB.new w n.cells _
  have HX : Hid (∀ v, Below W.heap.size W v → RowB v bx n.cells) := fun v hb => HX0.out.on hb (by have := HZ0.out; omega)
  have HL := Lib.hid h
  have HSb : Hid (∀ b, S b → b < w.heap.size) := hS
  have HLe := Lib.hid hlen
  have HW := Lib.hid hW
  have HBx : Hid (bx = w.heap.size) := hbx
  clear h hlen hW hS
  go_enter Tryd.func15, Tryd.ntmps15
  go_upto_region 1 with fail
  rw [← HW.out, ← hbx]
  clear hbx
  refine wp_region_free3 9 sMove (vMove p n node) (by kernel_rfl) (by decide) (fun i j hi hj => (by decide : ∀ i, i < 9 → ∀ j, j < 9 → sMove i = sMove j → i = j) i hi j hj) (fun i hi => (by decide : ∀ i, i < 9 → sMove i < 31) i hi) (dep_ok (by kernel_rfl)) (late_ok (by kernel_rfl)) (fun i u w w' hi h hb => vMove_mono i u w w' h hb) ?step ?fin
  case step =>
    intro i tm v K hi hb htz hrest hdeps hK
    have hx := HX.out v hb
    have z0 := hx.1 0 _ rfl
    have z1 := hx.1 1 _ rfl
    have z2 := hx.1 2 _ rfl
    have z3 := hx.1 3 _ rfl
    clear hx
    have HK := Lib.hid hK
    have t0 : tm[0]? = some (.pointer (some ⟨p, 0, none⟩)) := hrest 0 (by decide)
    have t2 : tm[2]? = some (.int .u32 node) := hrest 2 (by decide)
    have t4 : tm[4]? = some (.pointer (some ⟨bx, 0, none⟩)) := hrest 4 (by decide)
    clear hK hrest htz
    match i, hi with
    | 0, _ =>
      clear hdeps
      refine wpOp_of rfl rfl ?_
      go_simp
      exact HK.out _ v (Below.refl _ _) rfl
    | 1, _ =>
      obtain ⟨u0, d0, e0⟩ := hdeps 0 (by kernel_rfl)
      have d0 : tm[9]? = some (.pointer (some ⟨p, 0, none⟩)) := by rw [show u0 = .pointer (some ⟨p, 0, none⟩) from e0] at d0; exact d0
      clear hdeps
      refine wpOp_of rfl rfl ?_
      go_simp
      exact HK.out _ v (Below.refl _ _) rfl
    | 2, _ =>
      clear hdeps
      refine wpOp_of rfl rfl ?_
      go_simp
      exact HK.out _ v (Below.refl _ _) rfl
    | 3, _ =>
      obtain ⟨u2, d2, e2⟩ := hdeps 2 (by kernel_rfl)
      have d2 : tm[11]? = some (.agg #[.int .u32 n.n, .int .u32 n.m, .int .u64 n.t, .int .u32 n.q]) := by rw [show u2 = .agg #[.int .u32 n.n, .int .u32 n.m, .int .u64 n.t, .int .u32 n.q] from e2] at d2; exact d2
      clear hdeps
      refine wpOp_of rfl rfl ?_
      go_simp
      refine (rnamed_any n v).mono ?_
      rintro e v' ⟨rfl, rfl⟩
      exact HK.out _ _ (below_al (Below.refl _ _) _) (rnamed_v n v)
    | 4, _ =>
      clear hdeps
      refine wpOp_of rfl rfl ?_
      go_simp
      exact HK.out _ v (Below.refl _ _) rfl
    | 5, _ =>
      obtain ⟨u4, d4, e4⟩ := hdeps 4 (by kernel_rfl)
      have d4 : tm[13]? = some (.int .u32 node) := by rw [show u4 = .int .u32 node from e4] at d4; exact d4
      clear hdeps
      refine wpOp_of rfl rfl ?_
      go_simp
      refine (near_any node v).mono ?_
      rintro e v' ⟨rfl, rfl⟩
      exact HK.out _ _ (below_al (Below.refl _ _) _) ⟨_, rfl, RowB.new v [.int .u32 node] _, by simp⟩
    | 6, _ =>
      clear hdeps
      refine wpOp_of rfl rfl ?_
      go_simp
      exact HK.out _ v (Below.refl _ _) rfl
    | 7, _ =>
      clear hdeps
      refine wpOp_of rfl rfl ?_
      go_simp
      exact HK.out _ v (Below.refl _ _) rfl
    | 8, _ =>
      obtain ⟨u6, d6, e6⟩ := hdeps 6 (by kernel_rfl)
      have d6 : tm[15]? = some (.pointer (some ⟨p, 0, none⟩)) := by rw [show u6 = .pointer (some ⟨p, 0, none⟩) from e6] at d6; exact d6
      obtain ⟨u7, d7, e7⟩ := hdeps 7 (by kernel_rfl)
      have d7 : tm[16]? = some (.agg #[.int .u32 n.n, .int .u32 n.m, .int .u64 n.t, .int .u32 n.q]) := by rw [show u7 = .agg #[.int .u32 n.n, .int .u32 n.m, .int .u64 n.t, .int .u32 n.q] from e7] at d7; exact d7
      clear hdeps
      refine wpOp_of rfl rfl ?_
      go_simp
      refine (waiting_any (some ⟨p, 0, none⟩) n v).mono ?_
      rintro e v' ⟨rfl, rfl⟩
      exact HK.out _ _ (below_al (below_al (Below.refl _ _) _) _) ⟨_, _, rfl, (absent_row p n v).1, by simp; omega, (absent_row p n v).2, by simp⟩
    | n + 9, h => exact absurd h (by omega)
  case fin =>
    intro v vals listed hsz hl1 hl2 hb hV
    have hle := listed_eq hsz hl1 hl2
    rw [hle]
    clear hle hsz hl1 hl2
    have e0 : vals 0 = .pointer (some ⟨p, 0, none⟩) := hV 0 (by omega)
    have e1 : vals 1 = .func (.func 19) #[.pointer (some ⟨p, 0, none⟩)] #[] := hV 1 (by omega)
    have e2 : vals 2 = .agg #[.int .u32 n.n, .int .u32 n.m, .int .u64 n.t, .int .u32 n.q] := hV 2 (by omega)
    obtain ⟨b3, e3, r3, l3⟩ := hV 3 (by omega)
    have e4 : vals 4 = .int .u32 node := hV 4 (by omega)
    obtain ⟨b5, e5, r5, l5⟩ := hV 5 (by omega)
    have e6 : vals 6 = .pointer (some ⟨p, 0, none⟩) := hV 6 (by omega)
    have e7 : vals 7 = .agg #[.int .u32 n.n, .int .u32 n.m, .int .u64 n.t, .int .u32 n.q] := hV 7 (by omega)
    obtain ⟨b8, c8, e8, r8, l8, k8, m8⟩ := hV 8 (by omega)
    clear hV
    simp only [laidV, sMove, List.getD_cons_zero, List.getD_cons_succ, List.setIfInBounds_toArray, List.set_cons_zero, List.set_cons_succ, e0, e1, e2, e3, e4, e5, e6, e7, e8]
    clear e0 e1 e2 e3 e4 e5 e6 e7 e8
    change wpAny _ _ _ _ 3 _ _ _
    refine wpAny_next (i := 9) (by kernel_rfl) rfl (fun K hK => ?_)
    go_simp
    refine hK _ _ ?_
    clear hK K
    try simp only [Act.put, List.setIfInBounds_toArray, List.set_cons_zero, List.set_cons_succ]
    obtain ⟨V2, hV2⟩ : ∃ V, V = v.alloc (.cells #[.func (.func 19) #[.pointer (some ⟨p, 0, none⟩)] #[], .func (.func 46) #[] #[.pointer (some ⟨b3, 0, none⟩)], .func (.func 48) #[] #[.pointer (some ⟨b5, 0, none⟩)], .func (.func 56) #[] #[.pointer (some ⟨b8, 0, none⟩), .pointer (some ⟨c8, 0, none⟩)]] 56) := ⟨_, rfl⟩
    rw [← hV2]
    have hbv : Below v.heap.size v V2 := by rw [hV2]; exact below_al (Below.refl _ _) _
    have hrow : ∀ (j : Nat) (q : Ask), (moveAsks D n node p b3 b5 b8 c8)[j]? = some q → V2.cell? ⟨v.heap.size, j, none⟩ = some (.func (.func q.g) q.fs q.lb) := fun j q hj => by
      have hr := RowB.new v [.func (.func 19) #[.pointer (some ⟨p, 0, none⟩)] #[], .func (.func 46) #[] #[.pointer (some ⟨b3, 0, none⟩)], .func (.func 48) #[] #[.pointer (some ⟨b5, 0, none⟩)], .func (.func 56) #[] #[.pointer (some ⟨b8, 0, none⟩), .pointer (some ⟨c8, 0, none⟩)]] 56
      rw [hV2]
      refine hr.1 j _ ?_
      unfold moveAsks at hj
      match j, hj with
      | 0, hj | 1, hj | 2, hj | 3, hj => injection hj with hj; subst hj; rfl
      | n + 4, hj => simp at hj
    have hline : ∀ X, Below V2.heap.size V2 X → LineAt X S p most D := fun X hX => HL.out.on (HB0.out.trans ((hb.trans ((hbv.trans (hX.mono hbv.size)).mono hb.size)).mono HB0.out.size))
    have hcell : ∀ X, Below V2.heap.size V2 X → ∃ bq, X.cell? ⟨p, 1, none⟩ = some (.map (some bq)) := fun X hX => by
      obtain ⟨bq, bw, lq, lw, h1, _⟩ := hline X hX
      exact ⟨bq, h1.1 1 _ rfl⟩
    have hon : ∀ (X : World) (b : Nat) (vs : List Value), Below V2.heap.size V2 X → RowB v b vs → b < v.heap.size → RowB X b vs := fun X b vs hX hr hl => (hr.on hbv hl).on hX (Nat.lt_of_lt_of_le hl hbv.size)
    have hask : AsksAt V2 (moveAsks D n node p b3 b5 b8 c8) := by
      unfold moveAsks
      refine asks_cons ent_there (fun X hX => ?_) (asks_cons ent_named1 (fun X hX => ?_) (asks_cons ent_near1 (fun X hX => ?_) (asks_one ent_waiting1 (fun X hX => ?_))))
      · obtain ⟨bq, hq⟩ := hcell X hX
        exact there_any p bq X hq
      · have hr := hon X b3 _ hX r3 l3
        exact rnamed1_any b3 n X (hr.1 0 _ rfl) (hr.1 1 _ rfl) (hr.1 2 _ rfl) (hr.1 3 _ rfl)
      · exact near1_any b5 node X ((hon X b5 _ hX r5 l5).1 0 _ rfl)
      · have hr := hon X c8 _ hX k8 m8
        exact waiting1_any S p most D n b8 c8 X (hline X hX) ((hon X b8 _ hX r8 l8).1 0 _ rfl) (hr.1 0 _ rfl) (hr.1 1 _ rfl) (hr.1 2 _ rfl) (hr.1 3 _ rfl)
    have HRef := Lib.hid (rkrefusal_any v.heap.size (moveAsks D n node p b3 b5 b8 c8) V2 (by simp [moveAsks]) (by rw [hV2]; simp) hrow hask)
    rw [moveAsks_first, show (moveAsks D n node p b3 b5 b8 c8).length = 4 from rfl] at HRef
    have HBv : Hid (Below W.heap.size W V2) := hb.trans (hbv.mono hb.size)
    clear hrow hask hline hcell hon hbv hV2 hb r3 l3 r5 l5 r8 l8 k8 m8
    refine wpAny_next (i := 10) (by kernel_rfl) rfl (fun K hK => ?_)
    go_simp
    refine HRef.out.mono ?_
    rintro e v3 ⟨rfl, hb3⟩
    have HB3 : Hid (Below W.heap.size W v3) := HBv.out.trans (hb3.mono HBv.out.size)
    refine hK _ _ ?_
    clear hK K HRef hb3 HBv
    try simp only [Act.put, List.setIfInBounds_toArray, List.set_cons_zero, List.set_cons_succ]
    refine wpAny_next (i := 11) (by kernel_rfl) rfl (fun K hK => ?_)
    go_simp
    refine hK _ _ ?_
    clear hK K
    try simp only [Act.put, List.setIfInBounds_toArray, List.set_cons_zero, List.set_cons_succ]
    refine wpAny_done (by kernel_rfl) ?_ _
    have HLv : Hid (LineAt v3 S p most D) := HL.out.on (HB0.out.trans (HB3.out.mono HB0.out.size))
    have HBw : Hid (Below w.heap.size w v3) := HB0.out.trans (HB3.out.mono HB0.out.size)
    have HXv : Hid (RowB v3 bx n.cells) := HX.out v3 HB3.out
    by_cases he : moveE D n node = 0
    · obtain ⟨x, hx⟩ : ∃ x, wt D n = some x := by
        unfold moveE at he
        cases hw : wt D n with
        | some y => exact ⟨y, rfl⟩
        | none =>
          rw [hw] at he
          split at he
          · cases he
          · split at he
            · cases he
            · simp at he
      have HE : Hid (moveE D n node = 0) := he
      have HWt : Hid (wt D n = some x) := hx
      rw [he]
      have hx := HXv.out
      have z0 := hx.1 0 _ rfl
      have z1 := hx.1 1 _ rfl
      have z2 := hx.1 2 _ rfl
      have z3 := hx.1 3 _ rfl
      clear hx he
      go_wp2_with fail
      refine (leave_any S p most D x n v3 HLv.out (wt_mem HWt.out).1 (wt_mem HWt.out).2 HLe.out).mono ?_
      rintro e w4 ⟨rfl, hl4, hb4⟩
      have HL4 := Lib.hid hl4
      have HB4 := Lib.hid hb4
      clear hl4 hb4 z0 z1 z2 z3
      unfold encWt
      go_upto_region 5 with fail
      obtain ⟨y, hy⟩ : ∃ y : Wt, y = { x with node := node } := ⟨_, rfl⟩
      have HYn : Hid (y.nm = x.nm) := by rw [Hid, hy]
      obtain ⟨W5, hW5⟩ : ∃ W, W = w4.alloc (.cells #[.int .u32 x.nm.n, .int .u32 x.nm.m, .int .u64 x.nm.t, .int .u32 x.nm.q, .int .u32 node, .int .i64 x.rank, .int .i64 x.size] 30) := ⟨_, rfl⟩
      rw [← hW5]
      have HB5 : Hid (Below w4.heap.size w4 W5) := by rw [Hid, hW5]; exact below_al (Below.refl _ _) _
      have HR5 : Hid (RowB W5 w4.heap.size y.cells) := by
        rw [Hid, hW5, hy]
        exact RowB.new w4 ({ x with node := node } : Wt).cells _
      have HY := Lib.hid hy
      have z0 := HR5.out.1 0 _ rfl
      have z1 := HR5.out.1 1 _ rfl
      have z2 := HR5.out.1 2 _ rfl
      have z3 := HR5.out.1 3 _ rfl
      have z4 := HR5.out.1 4 _ rfl
      have z5 := HR5.out.1 5 _ rfl
      have z6 := HR5.out.1 6 _ rfl
      clear hy hW5
      go_wp2_with fail
      refine (join_any S p most (rm D n) y W5 (HL4.out.on HB5.out) (by rw [wt_rm, if_pos (HYn.out.trans (wt_mem HWt.out).2)]) (Nat.le_trans (List.length_filter_le _ _) HLe.out)).mono ?_
      rintro e w6 ⟨rfl, hl6, hb6⟩
      have HL6 := Lib.hid hl6
      have HB6 := Lib.hid hb6
      clear hl6 hb6 z0 z1 z2 z3 z4 z5 z6
      go_wp2_with fail
      go_ret
      have hs1 := HBw.out.size
      have hs2 := HB4.out.size
      have hs3 := HB5.out.size
      refine ⟨by (try rw [HE.out]); rfl, ?_, ((ButS.of_below HBw.out).trans (HB4.out.mono HBw.out.size fun _ _ h => h)).trans ((ButS.of_below HB5.out).trans (HB6.out.mono hs3 fun _ _ h => h) |>.mono (by omega) fun _ _ h => h)⟩
      (try rw [if_pos HE.out])
      have hm : moved D n node = rm D n ++ [y] := by
        unfold moved
        rw [HWt.out, HY.out]
        rfl
      rw [hm]
      exact HL6.out.into fun b hb => hb.imp id fun h => ⟨by have := h.1; omega, h.2⟩
    · obtain ⟨e, hE⟩ : ∃ e, e = moveE D n node := ⟨_, rfl⟩
      have HE := Lib.hid hE
      rw [← hE]
      have he0 : (e == 0) = false := by rw [hE]; simpa using he
      have he1 : (e != 0) = true := by rw [hE]; simpa using he
      have HN0 : Hid (¬ moveE D n node = 0) := he
      clear he hE
      go_wp2_with fail
      go_ret
      refine ⟨by first | rfl | (rw [HE.out]; rfl), ?_, ButS.of_below HBw.out⟩
      (try rw [if_neg HN0.out])
      exact HLv.out.into fun b h => .inl h

end Go.Proofs.YthfndphngeaihaaDoor
