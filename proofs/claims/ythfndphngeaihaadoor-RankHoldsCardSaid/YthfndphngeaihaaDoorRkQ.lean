/- Package rank: Get. -/
import Derived.Test.YthfndphngeaihaaDoorRkJ
import Derived.Test.YthfndphngeaihaaDoorRkP
namespace Go.Proofs.YthfndphngeaihaaDoor
open Go Go.RowKit Go.Shelf
open Go.ChangeMaps (setBlock)
set_option linter.unusedSimpArgs false
set_option linter.unusedVariables false
set_option linter.unusedSectionVars false
set_option maxRecDepth 100000

attribute [local go_sem] Oper.semAt_some

/-- A result that lies in a box, and two in slots. -/
theorem results_ctt {P : Program} {fn : Func} {tm : Array Value} {w : World} {s r q : Tmp} {t : TypeId} {b : Addr} {v u z : Value} (hf : fn.results = #[.cell s t, .tmp r, .tmp q]) (h : tm[s]? = some (.pointer (some b))) (hl : (loadVar t b).run P w = .ok v w) (hr : tm[r]? = some u) (hq : tm[q]? = some z) : (results fn tm).run P w = .ok (.tuple #[v, u, z]) w := by
  unfold results
  rw [hf]
  simp [h, hr, hq, asAddr, hl, Sem.run_bind, Result.andThen]

def sGet (i : Nat) : Nat := ([9, 10, 11, 12, 13, 14, 15] : List Nat).getD i 0
def vGet (p : Nat) (n : Nm) : Nat → Value → World → Prop
  | 0, u, w => u = .pointer (some ⟨p, 0, none⟩)
  | 1, u, w => u = .func (.func 19) #[.pointer (some ⟨p, 0, none⟩)] #[]
  | 2, u, w => u = .agg #[.int .u32 n.n, .int .u32 n.m, .int .u64 n.t, .int .u32 n.q]
  | 3, u, w => NamedV n u w
  | 4, u, w => u = .pointer (some ⟨p, 0, none⟩)
  | 5, u, w => u = .agg #[.int .u32 n.n, .int .u32 n.m, .int .u64 n.t, .int .u32 n.q]
  | 6, u, w => WaitingV p n u w
  | _, _, _ => True
theorem vGet_mono {p : Nat} {n : Nm} (i : Nat) (u : Value) (w w' : World) (h : vGet p n i u w) (hb : Below w.heap.size w w') : vGet p n i u w' := by
  unfold vGet at h ⊢
  split at h <;> first | exact h | exact NamedV.mono h hb | exact WaitingV.mono h hb

/-- What Get answers. -/
def getWE (D : List Wt) (n : Nm) : Wt × Nat × Int := if dropE D n = 0 then ((wt D n).getD wtZ, aheadN (allOf D ((wt D n).getD wtZ).node) n, 0) else (wtZ, 0, dropE D n)

set_option maxHeartbeats 8000000 in
theorem get_any (S : Nat → Prop) (p : Nat) (most : Int) (D : List Wt) (n : Nm) (w : World) (h : LineAt w S p most D) (hS : ∀ b, S b → b < w.heap.size) (hT : TabR w) (hlen : D.length ≤ 100000) :
    Calls Tryd.prog 13 #[.pointer (some ⟨p, 0, none⟩), .agg #[.int .u32 n.n, .int .u32 n.m, .int .u64 n.t, .int .u32 n.q]] w fun e w' => e = .returned (.tuple #[encWt (getWE D n).1, .int .i64 ((getWE D n).2.1 : Nat), .int .i64 (getWE D n).2.2]) ∧ Below w.heap.size w w' := by
  obtain ⟨W, hW⟩ : ∃ W, W = (w.alloc (.cells #[.int .u32 n.n, .int .u32 n.m, .int .u64 n.t, .int .u32 n.q] 28)).alloc (.cells #[.int .u32 0, .int .u32 0, .int .u64 0, .int .u32 0, .int .u32 0, .int .i64 0, .int .i64 0] 30) := ⟨_, rfl⟩
  have HB0 : Hid (Below w.heap.size w W) := by rw [hW]; exact below_al (below_al (Below.refl _ _) _) _
  obtain ⟨bx, hbx⟩ : ∃ bx, bx = w.heap.size := ⟨_, rfl⟩
  obtain ⟨br, hbr⟩ : ∃ br, br = w.heap.size + 1 := ⟨_, rfl⟩
  have HZ0 : Hid (W.heap.size = br + 1 ∧ bx < br ∧ w.heap.size ≤ br) := by
    rw [Hid, hW, hbr, hbx]
    simp
  have HX0 : Hid (RowB W bx n.cells ∧ RowB W br wtZ.cells) := by
    rw [Hid, hW, hbx, hbr]
    refine ⟨(RowB.new w n.cells _).on (below_al (Below.refl _ _) _) (by simp), ?_⟩
    have := RowB.new (w.alloc (.cells #[.int .u32 n.n, .int .u32 n.m, .int .u64 n.t, .int .u32 n.q] 28)) wtZ.cells 30
    rw [show (w.alloc (.cells #[.int .u32 n.n, .int .u32 n.m, .int .u64 n.t, .int .u32 n.q] 28)).heap.size = w.heap.size + 1 by simp] at this
    exact this
  have HX : Hid (∀ v, Below W.heap.size W v → RowB v bx n.cells) := fun v hb => HX0.out.1.on hb (by have := HZ0.out; omega)
  have HL := Lib.hid h
  have HSb : Hid (∀ b, S b → b < w.heap.size) := hS
  have HT := Lib.hid hT
  have HLe := Lib.hid hlen
  have HW := Lib.hid hW
  have HBx : Hid (bx = w.heap.size ∧ br = w.heap.size + 1) := ⟨hbx, hbr⟩
  clear h hlen hW hS hT
  go_enter Tryd.func13, Tryd.ntmps13
  go_upto_region 1 with fail
  rw [← HW.out, ← hbr, ← hbx]
  clear hbx hbr
  refine wp_region_free3 7 sGet (vGet p n) (by kernel_rfl) (by decide) (fun i j hi hj => (by decide : ∀ i, i < 7 → ∀ j, j < 7 → sGet i = sGet j → i = j) i hi j hj) (fun i hi => (by decide : ∀ i, i < 7 → sGet i < 32) i hi) (dep_ok (by kernel_rfl)) (late_ok (by kernel_rfl)) (fun i u w w' hi h hb => vGet_mono i u w w' h hb) ?step ?fin
  case step =>
    intro i tm v K hi hb htz hrest hdeps hK
    have hx := HX.out v hb
    have z0 := hx.1 0 _ rfl
    have z1 := hx.1 1 _ rfl
    have z2 := hx.1 2 _ rfl
    have z3 := hx.1 3 _ rfl
    clear hx
    have HK := Lib.hid hK
    have t0 : tm[0]? = some (.pointer (some ⟨p, 0, none⟩)) := hrest 0 (by decide)
    have t3 : tm[3]? = some (.pointer (some ⟨bx, 0, none⟩)) := hrest 3 (by decide)
    clear hK hrest htz
    match i, hi with
    | 0, _ =>
      clear hdeps
      refine wpOp_of rfl rfl ?_
      go_simp
      exact HK.out _ v (Below.refl _ _) rfl
    | 1, _ =>
      obtain ⟨u0, d0, e0⟩ := hdeps 0 (by kernel_rfl)
      have d0 : tm[9]? = some (.pointer (some ⟨p, 0, none⟩)) := by rw [show u0 = .pointer (some ⟨p, 0, none⟩) from e0] at d0; exact d0
      clear hdeps
      refine wpOp_of rfl rfl ?_
      go_simp
      exact HK.out _ v (Below.refl _ _) rfl
    | 2, _ =>
      clear hdeps
      refine wpOp_of rfl rfl ?_
      go_simp
      exact HK.out _ v (Below.refl _ _) rfl
    | 3, _ =>
      obtain ⟨u2, d2, e2⟩ := hdeps 2 (by kernel_rfl)
      have d2 : tm[11]? = some (.agg #[.int .u32 n.n, .int .u32 n.m, .int .u64 n.t, .int .u32 n.q]) := by rw [show u2 = .agg #[.int .u32 n.n, .int .u32 n.m, .int .u64 n.t, .int .u32 n.q] from e2] at d2; exact d2
      clear hdeps
      refine wpOp_of rfl rfl ?_
      go_simp
      refine (rnamed_any n v).mono ?_
      rintro e v' ⟨rfl, rfl⟩
      exact HK.out _ _ (below_al (Below.refl _ _) _) (rnamed_v n v)
    | 4, _ =>
      clear hdeps
      refine wpOp_of rfl rfl ?_
      go_simp
      exact HK.out _ v (Below.refl _ _) rfl
    | 5, _ =>
      clear hdeps
      refine wpOp_of rfl rfl ?_
      go_simp
      exact HK.out _ v (Below.refl _ _) rfl
    | 6, _ =>
      obtain ⟨u4, d4, e4⟩ := hdeps 4 (by kernel_rfl)
      have d4 : tm[13]? = some (.pointer (some ⟨p, 0, none⟩)) := by rw [show u4 = .pointer (some ⟨p, 0, none⟩) from e4] at d4; exact d4
      obtain ⟨u5, d5, e5⟩ := hdeps 5 (by kernel_rfl)
      have d5 : tm[14]? = some (.agg #[.int .u32 n.n, .int .u32 n.m, .int .u64 n.t, .int .u32 n.q]) := by rw [show u5 = .agg #[.int .u32 n.n, .int .u32 n.m, .int .u64 n.t, .int .u32 n.q] from e5] at d5; exact d5
      clear hdeps
      refine wpOp_of rfl rfl ?_
      go_simp
      refine (waiting_any (some ⟨p, 0, none⟩) n v).mono ?_
      rintro e v' ⟨rfl, rfl⟩
      exact HK.out _ _ (below_al (below_al (Below.refl _ _) _) _) ⟨_, _, rfl, (absent_row p n v).1, by simp; omega, (absent_row p n v).2, by simp⟩
    | n + 7, h => exact absurd h (by omega)
  case fin =>
    intro v vals listed hsz hl1 hl2 hb hV
    have hle := listed_eq hsz hl1 hl2
    rw [hle]
    clear hle hsz hl1 hl2
    have e0 : vals 0 = .pointer (some ⟨p, 0, none⟩) := hV 0 (by omega)
    have e1 : vals 1 = .func (.func 19) #[.pointer (some ⟨p, 0, none⟩)] #[] := hV 1 (by omega)
    have e2 : vals 2 = .agg #[.int .u32 n.n, .int .u32 n.m, .int .u64 n.t, .int .u32 n.q] := hV 2 (by omega)
    obtain ⟨b3, e3, r3, l3⟩ := hV 3 (by omega)
    have e4 : vals 4 = .pointer (some ⟨p, 0, none⟩) := hV 4 (by omega)
    have e5 : vals 5 = .agg #[.int .u32 n.n, .int .u32 n.m, .int .u64 n.t, .int .u32 n.q] := hV 5 (by omega)
    obtain ⟨b6, c6, e6, r6, l6, k6, m6⟩ := hV 6 (by omega)
    clear hV
    simp only [laidV, sGet, List.getD_cons_zero, List.getD_cons_succ, List.setIfInBounds_toArray, List.set_cons_zero, List.set_cons_succ, e0, e1, e2, e3, e4, e5, e6]
    clear e0 e1 e2 e3 e4 e5 e6
    change wpAny _ _ _ _ 3 _ _ _
    refine wpAny_next (i := 7) (by kernel_rfl) rfl (fun K hK => ?_)
    go_simp
    refine hK _ _ ?_
    clear hK K
    try simp only [Act.put, List.setIfInBounds_toArray, List.set_cons_zero, List.set_cons_succ]
    obtain ⟨V2, hV2⟩ : ∃ V, V = v.alloc (.cells #[.func (.func 19) #[.pointer (some ⟨p, 0, none⟩)] #[], .func (.func 46) #[] #[.pointer (some ⟨b3, 0, none⟩)], .func (.func 56) #[] #[.pointer (some ⟨b6, 0, none⟩), .pointer (some ⟨c6, 0, none⟩)]] 56) := ⟨_, rfl⟩
    rw [← hV2]
    have hbv : Below v.heap.size v V2 := by rw [hV2]; exact below_al (Below.refl _ _) _
    have hrow : ∀ (j : Nat) (q : Ask), (dropAsks D n p b3 b6 c6)[j]? = some q → V2.cell? ⟨v.heap.size, j, none⟩ = some (.func (.func q.g) q.fs q.lb) := fun j q hj => by
      have hr := RowB.new v [.func (.func 19) #[.pointer (some ⟨p, 0, none⟩)] #[], .func (.func 46) #[] #[.pointer (some ⟨b3, 0, none⟩)], .func (.func 56) #[] #[.pointer (some ⟨b6, 0, none⟩), .pointer (some ⟨c6, 0, none⟩)]] 56
      rw [hV2]
      refine hr.1 j _ ?_
      unfold dropAsks at hj
      match j, hj with
      | 0, hj | 1, hj | 2, hj => injection hj with hj; subst hj; rfl
      | n + 3, hj => simp at hj
    have hline : ∀ X, Below V2.heap.size V2 X → LineAt X S p most D := fun X hX => HL.out.on (HB0.out.trans ((hb.trans ((hbv.trans (hX.mono hbv.size)).mono hb.size)).mono HB0.out.size))
    have hcell : ∀ X, Below V2.heap.size V2 X → ∃ bq, X.cell? ⟨p, 1, none⟩ = some (.map (some bq)) := fun X hX => by
      obtain ⟨bq, bw, lq, lw, h1, _⟩ := hline X hX
      exact ⟨bq, h1.1 1 _ rfl⟩
    have hon : ∀ (X : World) (b : Nat) (vs : List Value), Below V2.heap.size V2 X → RowB v b vs → b < v.heap.size → RowB X b vs := fun X b vs hX hr hl => (hr.on hbv hl).on hX (Nat.lt_of_lt_of_le hl hbv.size)
    have hask : AsksAt V2 (dropAsks D n p b3 b6 c6) := by
      unfold dropAsks
      refine asks_cons ent_there (fun X hX => ?_) (asks_cons ent_named1 (fun X hX => ?_) (asks_one ent_waiting1 (fun X hX => ?_)))
      · obtain ⟨bq, hq⟩ := hcell X hX
        exact there_any p bq X hq
      · have hr := hon X b3 _ hX r3 l3
        exact rnamed1_any b3 n X (hr.1 0 _ rfl) (hr.1 1 _ rfl) (hr.1 2 _ rfl) (hr.1 3 _ rfl)
      · have hr := hon X c6 _ hX k6 m6
        exact waiting1_any S p most D n b6 c6 X (hline X hX) ((hon X b6 _ hX r6 l6).1 0 _ rfl) (hr.1 0 _ rfl) (hr.1 1 _ rfl) (hr.1 2 _ rfl) (hr.1 3 _ rfl)
    have HRef := Lib.hid (rkrefusal_any v.heap.size (dropAsks D n p b3 b6 c6) V2 (by simp [dropAsks]) (by rw [hV2]; simp) hrow hask)
    rw [dropAsks_first, show (dropAsks D n p b3 b6 c6).length = 3 from rfl] at HRef
    have HBv : Hid (Below W.heap.size W V2) := hb.trans (hbv.mono hb.size)
    clear hrow hask hline hcell hon hbv hV2 hb r3 l3 r6 l6 k6 m6
    refine wpAny_next (i := 8) (by kernel_rfl) rfl (fun K hK => ?_)
    go_simp
    refine HRef.out.mono ?_
    rintro e v3 ⟨rfl, hb3⟩
    have HB3 : Hid (Below W.heap.size W v3) := HBv.out.trans (hb3.mono HBv.out.size)
    refine hK _ _ ?_
    clear hK K HRef hb3 HBv
    try simp only [Act.put, List.setIfInBounds_toArray, List.set_cons_zero, List.set_cons_succ]
    refine wpAny_next (i := 9) (by kernel_rfl) rfl (fun K hK => ?_)
    go_simp
    refine hK _ _ ?_
    clear hK K
    try simp only [Act.put, List.setIfInBounds_toArray, List.set_cons_zero, List.set_cons_succ]
    refine wpAny_done (by kernel_rfl) ?_ _
    have HLv : Hid (LineAt v3 S p most D) := HL.out.on (HB0.out.trans (HB3.out.mono HB0.out.size))
    have HBw : Hid (Below w.heap.size w v3) := HB0.out.trans (HB3.out.mono HB0.out.size)
    have HXv : Hid (RowB v3 bx n.cells) := HX.out v3 HB3.out
    have HRv : Hid (RowB v3 br wtZ.cells) := HX0.out.2.on HB3.out (by have := HZ0.out; omega)
    by_cases he : dropE D n = 0
    · obtain ⟨x, hx⟩ : ∃ x, wt D n = some x := by
        unfold dropE at he
        cases hw : wt D n with
        | some y => exact ⟨y, rfl⟩
        | none =>
          rw [hw] at he
          split at he
          · cases he
          · simp at he
      have HE : Hid (dropE D n = 0) := he
      have HWt : Hid (wt D n = some x) := hx
      rw [he]
      clear hx he
      obtain ⟨bq, bw, lq, lw, k1, k2, k3, k4, k5, k6, k7⟩ := HLv.out
      obtain ⟨Wd, hWd⟩ : ∃ wd, wd = v3.drew := ⟨_, rfl⟩
      have HWd := Lib.hid hWd
      have HBd : Hid (Below v3.heap.size v3 Wd) := by rw [hWd]; exact (Below.refl _ _).drew
      have HZd : Hid (Wd.heap.size = v3.heap.size) := by rw [hWd]; rfl
      have HS : Hid (∀ X, Below v3.heap.size v3 X → (X.cell? ⟨p, 2, none⟩ = some (.map (some bw)) ∧ X.cell? ⟨bx, 0, none⟩ = some (.int .u32 n.n) ∧ X.cell? ⟨bx, 1, none⟩ = some (.int .u32 n.m) ∧ X.cell? ⟨bx, 2, none⟩ = some (.int .u64 n.t) ∧ X.cell? ⟨bx, 3, none⟩ = some (.int .u32 n.q) ∧ (Instr.lookup 60 (.map (some bw)) (.agg #[.int .u32 n.n, .int .u32 n.m, .int .u64 n.t, .int .u32 n.q]) false).run Tryd.prog X = .ok (.agg #[.int .u32 x.nm.n, .int .u32 x.nm.m, .int .u64 x.nm.t, .int .u32 x.nm.q, .int .u32 x.node, .int .i64 x.rank, .int .i64 x.size]) X)) := fun X hb => by
        have r1 := k1.on hb k1.lt
        have r2 := HXv.out.on hb HXv.out.lt
        have hm : KMap encNm X bw lw := k3.kept (hb.block _ k3.lt)
        refine ⟨r1.1 2 _ rfl, r2.1 0 _ rfl, r2.1 1 _ rfl, r2.1 2 _ rfl, r2.1 3 _ rfl, ?_⟩
        have := hm.look keyNm Tryd.underlying60 zeroWt n false
        rw [k5.1 n, HWt.out] at this
        exact this
      have HS4 : Hid ((Wd.cell? ⟨p, 2, none⟩ = some (.map (some bw)) ∧ Wd.cell? ⟨bx, 0, none⟩ = some (.int .u32 n.n) ∧ Wd.cell? ⟨bx, 1, none⟩ = some (.int .u32 n.m) ∧ Wd.cell? ⟨bx, 2, none⟩ = some (.int .u64 n.t) ∧ Wd.cell? ⟨bx, 3, none⟩ = some (.int .u32 n.q) ∧ (Instr.lookup 60 (.map (some bw)) (.agg #[.int .u32 n.n, .int .u32 n.m, .int .u64 n.t, .int .u32 n.q]) false).run Tryd.prog Wd = .ok (.agg #[.int .u32 x.nm.n, .int .u32 x.nm.m, .int .u64 x.nm.t, .int .u32 x.nm.q, .int .u32 x.node, .int .i64 x.rank, .int .i64 x.size]) Wd)) := HS.out _ HBd.out
      have HS4b : Hid (((Wd.alloc (.cells #[.int .u32 0, .int .u32 0, .int .u64 0, .int .u32 0, .int .u32 0, .int .i64 0, .int .i64 0] 30)).cell? ⟨p, 2, none⟩ = some (.map (some bw)) ∧ (Wd.alloc (.cells #[.int .u32 0, .int .u32 0, .int .u64 0, .int .u32 0, .int .u32 0, .int .i64 0, .int .i64 0] 30)).cell? ⟨bx, 0, none⟩ = some (.int .u32 n.n) ∧ (Wd.alloc (.cells #[.int .u32 0, .int .u32 0, .int .u64 0, .int .u32 0, .int .u32 0, .int .i64 0, .int .i64 0] 30)).cell? ⟨bx, 1, none⟩ = some (.int .u32 n.m) ∧ (Wd.alloc (.cells #[.int .u32 0, .int .u32 0, .int .u64 0, .int .u32 0, .int .u32 0, .int .i64 0, .int .i64 0] 30)).cell? ⟨bx, 2, none⟩ = some (.int .u64 n.t) ∧ (Wd.alloc (.cells #[.int .u32 0, .int .u32 0, .int .u64 0, .int .u32 0, .int .u32 0, .int .i64 0, .int .i64 0] 30)).cell? ⟨bx, 3, none⟩ = some (.int .u32 n.q) ∧ (Instr.lookup 60 (.map (some bw)) (.agg #[.int .u32 n.n, .int .u32 n.m, .int .u64 n.t, .int .u32 n.q]) false).run Tryd.prog (Wd.alloc (.cells #[.int .u32 0, .int .u32 0, .int .u64 0, .int .u32 0, .int .u32 0, .int .i64 0, .int .i64 0] 30)) = .ok (.agg #[.int .u32 x.nm.n, .int .u32 x.nm.m, .int .u64 x.nm.t, .int .u32 x.nm.q, .int .u32 x.node, .int .i64 x.rank, .int .i64 x.size]) (Wd.alloc (.cells #[.int .u32 0, .int .u32 0, .int .u64 0, .int .u32 0, .int .u32 0, .int .i64 0, .int .i64 0] 30)))) := HS.out _ (below_al HBd.out _)
      clear hWd k1 k2 k3 k4 k5 k6 k7
      go_upto_region 4 with fail
      refine wp_region_T (fun X => (X.cell? ⟨p, 2, none⟩ = some (.map (some bw)) ∧ X.cell? ⟨bx, 0, none⟩ = some (.int .u32 n.n) ∧ X.cell? ⟨bx, 1, none⟩ = some (.int .u32 n.m) ∧ X.cell? ⟨bx, 2, none⟩ = some (.int .u64 n.t) ∧ X.cell? ⟨bx, 3, none⟩ = some (.int .u32 n.q) ∧ (Instr.lookup 60 (.map (some bw)) (.agg #[.int .u32 n.n, .int .u32 n.m, .int .u64 n.t, .int .u32 n.q]) false).run Tryd.prog X = .ok (.agg #[.int .u32 x.nm.n, .int .u32 x.nm.m, .int .u64 x.nm.t, .int .u32 x.nm.q, .int .u32 x.node, .int .i64 x.rank, .int .i64 x.size]) X)) 7 (by kernel_rfl) ?_
      rw [← HWd.out]
      refine wpAnyT_take (i := 0) (v := ?_) rfl (by kernel_rfl) (by kernel_rfl) (by kernel_rfl) (by kernel_rfl) (fun _ _ _ h => h) (Or.inl ⟨by rfl, ?_⟩) HS4.out ?_
      rotate_left
      · intro w hSw
        (try dsimp only at hSw)
        go_simp
        all_goals with_reducible rfl
      simp only [Act.put, List.setIfInBounds_toArray, List.set_cons_zero, List.set_cons_succ]
      refine wpAnyT_take (i := 1) (v := ?_) rfl (by kernel_rfl) (by kernel_rfl) (by kernel_rfl) (by kernel_rfl) (fun _ _ _ h => h) (Or.inl ⟨by rfl, ?_⟩) HS4.out ?_
      rotate_left
      · intro w hSw
        (try dsimp only at hSw)
        go_simp
        all_goals with_reducible rfl
      simp only [Act.put, List.setIfInBounds_toArray, List.set_cons_zero, List.set_cons_succ]
      refine wpAnyT_take (i := 2) (v := ?_) rfl (by kernel_rfl) (by kernel_rfl) (by kernel_rfl) (by kernel_rfl) (fun _ _ _ h => h) (Or.inl ⟨by rfl, ?_⟩) HS4.out ?_
      rotate_left
      · intro w hSw
        (try dsimp only at hSw)
        go_simp
        all_goals with_reducible rfl
      simp only [Act.put, List.setIfInBounds_toArray, List.set_cons_zero, List.set_cons_succ]
      refine wpAnyT_take (i := 3) (v := ?_) rfl (by kernel_rfl) (by kernel_rfl) (by kernel_rfl) (by kernel_rfl) (fun _ _ _ h => h) (Or.inl ⟨by rfl, ?_⟩) HS4.out ?_
      rotate_left
      · intro w hSw
        (try dsimp only at hSw)
        go_simp
        all_goals with_reducible rfl
      simp only [Act.put, List.setIfInBounds_toArray, List.set_cons_zero, List.set_cons_succ]
      refine wpAnyT_take (i := 4) (v := ?_) rfl (by kernel_rfl) (by kernel_rfl) (by kernel_rfl) (by kernel_rfl) (fun _ _ _ h => h) (Or.inl ⟨by rfl, ?_⟩) HS4.out ?_
      rotate_left
      · intro w hSw
        (try dsimp only at hSw)
        go_simp
        all_goals with_reducible rfl
      simp only [Act.put, List.setIfInBounds_toArray, List.set_cons_zero, List.set_cons_succ]
      refine wpAnyT_take (i := 5) (v := ?_) rfl (by kernel_rfl) (by kernel_rfl) (by kernel_rfl) (by kernel_rfl) (fun _ _ _ h => h) (Or.inl ⟨by rfl, ?_⟩) HS4.out ?_
      rotate_left
      · intro w hSw
        (try dsimp only at hSw)
        go_simp
        all_goals with_reducible rfl
      simp only [Act.put, List.setIfInBounds_toArray, List.set_cons_zero, List.set_cons_succ]
      refine wpAnyT_one (i := 6) (by kernel_rfl) rfl (fun K hK => ?_)
      go_simp
      refine hK.out _ _ (fun _ => HS4b.out) ?_
      clear hK K
      try simp only [Act.put, List.setIfInBounds_toArray, List.set_cons_zero, List.set_cons_succ]
      refine wpAnyT_one (i := 7) (by kernel_rfl) rfl (fun K hK => ?_)
      go_simp
      refine hK.out _ _ (fun h => absurd h (by decide)) ?_
      clear hK K
      try simp only [Act.put, List.setIfInBounds_toArray, List.set_cons_zero, List.set_cons_succ]
      refine wpAnyT_done (by kernel_rfl) ?_ _
      go_upto_region 5 with fail
      obtain ⟨bo, hbo⟩ : ∃ b, b = Wd.heap.size := ⟨_, rfl⟩
      obtain ⟨Wf, hWf⟩ : ∃ W, W = (Wd.alloc (.cells #[.int .u32 x.nm.n, .int .u32 x.nm.m, .int .u64 x.nm.t, .int .u32 x.nm.q, .int .u32 x.node, .int .i64 x.rank, .int .i64 x.size] 30)).drew := ⟨_, rfl⟩
      rw [← hbo]
      have HWf := Lib.hid hWf
      have HBf : Hid (Below v3.heap.size v3 Wf) := by rw [Hid, hWf]; exact (below_al HBd.out _).drew
      have HRf : Hid (RowB Wf bo x.cells) := by
        rw [Hid, hWf, hbo]
        exact (RowB.new Wd x.cells _).kept rfl
      have HZf : Hid (bo = v3.heap.size ∧ Wf.heap.size = bo + 1 ∧ br < v3.heap.size) := by
        have h0 := HZ0.out
        have h1 := HB3.out.size
        rw [Hid, hbo, hWf]
        refine ⟨HZd.out, by simp, by omega⟩
      have HLf : Hid (LineAt Wf S p most D) := HLv.out.on HBf.out
      have HTf : Hid (TabR Wf) := (HT.out.on HBw.out).on HBf.out
      have HRb : Hid (RowB Wf br wtZ.cells) := HRv.out.on HBf.out (by have := HZf.out; omega)
      have HS5 : Hid (∀ X, Below Wf.heap.size Wf X → (X.cell? ⟨bo, 0, none⟩ = some (.int .u32 x.nm.n) ∧ X.cell? ⟨bo, 1, none⟩ = some (.int .u32 x.nm.m) ∧ X.cell? ⟨bo, 2, none⟩ = some (.int .u64 x.nm.t) ∧ X.cell? ⟨bo, 3, none⟩ = some (.int .u32 x.nm.q) ∧ X.cell? ⟨bo, 4, none⟩ = some (.int .u32 x.node) ∧ X.cell? ⟨bo, 5, none⟩ = some (.int .i64 x.rank) ∧ X.cell? ⟨bo, 6, none⟩ = some (.int .i64 x.size))) := fun X hb =>
        have r := HRf.out.on hb (by have := HZf.out; omega)
        ⟨r.1 0 _ rfl, r.1 1 _ rfl, r.1 2 _ rfl, r.1 3 _ rfl, r.1 4 _ rfl, r.1 5 _ rfl, r.1 6 _ rfl⟩
      clear hWf hbo
      refine wp_region_T (fun X => (X.cell? ⟨bo, 0, none⟩ = some (.int .u32 x.nm.n) ∧ X.cell? ⟨bo, 1, none⟩ = some (.int .u32 x.nm.m) ∧ X.cell? ⟨bo, 2, none⟩ = some (.int .u64 x.nm.t) ∧ X.cell? ⟨bo, 3, none⟩ = some (.int .u32 x.nm.q) ∧ X.cell? ⟨bo, 4, none⟩ = some (.int .u32 x.node) ∧ X.cell? ⟨bo, 5, none⟩ = some (.int .i64 x.rank) ∧ X.cell? ⟨bo, 6, none⟩ = some (.int .i64 x.size))) 5 (by kernel_rfl) ?_
      rw [← HWf.out]
      refine wpAnyT_take (i := 0) (v := ?_) rfl (by kernel_rfl) (by kernel_rfl) (by kernel_rfl) (by kernel_rfl) (fun _ _ _ h => h) (Or.inl ⟨by rfl, ?_⟩) (HS5.out _ (Below.refl _ _)) ?_
      rotate_left
      · intro w hSw
        (try dsimp only at hSw)
        go_simp
        all_goals with_reducible rfl
      simp only [Act.put, List.setIfInBounds_toArray, List.set_cons_zero, List.set_cons_succ]
      refine wpAnyT_take (i := 1) (v := ?_) rfl (by kernel_rfl) (by kernel_rfl) (by kernel_rfl) (by kernel_rfl) (fun _ _ _ h => h) (Or.inl ⟨by rfl, ?_⟩) (HS5.out _ (Below.refl _ _)) ?_
      rotate_left
      · intro w hSw
        (try dsimp only at hSw)
        go_simp
        all_goals with_reducible rfl
      simp only [Act.put, List.setIfInBounds_toArray, List.set_cons_zero, List.set_cons_succ]
      refine wpAnyT_take (i := 2) (v := ?_) rfl (by kernel_rfl) (by kernel_rfl) (by kernel_rfl) (by kernel_rfl) (fun _ _ _ h => h) (Or.inl ⟨by rfl, ?_⟩) (HS5.out _ (Below.refl _ _)) ?_
      rotate_left
      · intro w hSw
        (try dsimp only at hSw)
        go_simp
        all_goals with_reducible rfl
      simp only [Act.put, List.setIfInBounds_toArray, List.set_cons_zero, List.set_cons_succ]
      refine wpAnyT_one (i := 3) (by kernel_rfl) rfl (fun K hK => ?_)
      go_simp
      refine (ahead_any S p most D x Wf HLf.out (fun b hb => by have := HSb.out b hb; have := HZf.out; have := HBw.out.size; omega) HTf.out HLe.out).mono ?_
      rintro e V ⟨rfl, hbV⟩
      have HV : Hid (Below Wf.heap.size Wf V) := hbV
      clear hbV
      have HSV := Lib.hid (HS5.out V HV.out)
      have q7 : RowB V br wtZ.cells := HRb.out.on HV.out (by have := HZf.out; omega)
      have HQ7 := Lib.hid q7
      have HS6 : Hid (((putWt V br x).cell? ⟨bo, 0, none⟩ = some (.int .u32 x.nm.n) ∧ (putWt V br x).cell? ⟨bo, 1, none⟩ = some (.int .u32 x.nm.m) ∧ (putWt V br x).cell? ⟨bo, 2, none⟩ = some (.int .u64 x.nm.t) ∧ (putWt V br x).cell? ⟨bo, 3, none⟩ = some (.int .u32 x.nm.q) ∧ (putWt V br x).cell? ⟨bo, 4, none⟩ = some (.int .u32 x.node) ∧ (putWt V br x).cell? ⟨bo, 5, none⟩ = some (.int .i64 x.rank) ∧ (putWt V br x).cell? ⟨bo, 6, none⟩ = some (.int .i64 x.size))) := by
        have r := (HRf.out.on HV.out (by have := HZf.out; omega)).kept (putWt_block V br x bo (by have := HZf.out; omega))
        exact ⟨r.1 0 _ rfl, r.1 1 _ rfl, r.1 2 _ rfl, r.1 3 _ rfl, r.1 4 _ rfl, r.1 5 _ rfl, r.1 6 _ rfl⟩
      have g0 := q7.2 0
      have g1 := q7.2 1
      have g2 := q7.2 2
      have g3 := q7.2 3
      have g4 := q7.2 4
      have g5 := q7.2 5
      have g6 := q7.2 6
      have u0 := q7.1 0 _ rfl
      have u1 := q7.1 1 _ rfl
      have u2 := q7.1 2 _ rfl
      have u3 := q7.1 3 _ rfl
      have u4 := q7.1 4 _ rfl
      have u5 := q7.1 5 _ rfl
      have u6 := q7.1 6 _ rfl
      clear q7
      refine hK.out _ _ (fun _ => HSV.out) ?_
      clear hK K
      try simp only [Act.put, List.setIfInBounds_toArray, List.set_cons_zero, List.set_cons_succ]
      refine wpAnyT_one (i := 4) (by kernel_rfl) rfl (fun K hK => ?_)
      go_simp
      refine hK.out _ _ (fun _ => HS6.out) ?_
      clear hK K
      try simp only [Act.put, List.setIfInBounds_toArray, List.set_cons_zero, List.set_cons_succ]
      refine wpAnyT_one (i := 5) (by kernel_rfl) rfl (fun K hK => ?_)
      go_simp
      refine hK.out _ _ (fun h => absurd h (by decide)) ?_
      clear hK K
      try simp only [Act.put, List.setIfInBounds_toArray, List.set_cons_zero, List.set_cons_succ]
      refine wpAnyT_one (i := 6) (by kernel_rfl) rfl (fun K hK => ?_)
      go_simp
      refine hK.out _ _ (fun h => absurd h (by decide)) ?_
      clear hK K
      try simp only [Act.put, List.setIfInBounds_toArray, List.set_cons_zero, List.set_cons_succ]
      refine wpAnyT_done (by kernel_rfl) ?_ _
      go_wp2_with fail
      change bodyPost _ _ _ _ _ (putWt V br x)
      refine bodyPost_ret (results_ctt rfl (by rfl) (load_wt (putWt_row HQ7.out)) (by rfl) (by rfl)) rfl ⟨?_, ?_⟩
      · have hnm := (wt_mem HWt.out).2
        unfold getWE
        rw [if_pos HE.out, HWt.out, Option.getD_some, hnm]
        rfl
      · exact (ButS.putWt (S := fun _ => False) (ButS.of_below (HBw.out.trans ((HBf.out.trans (HV.out.mono HBf.out.size)).mono HBw.out.size))) (.inr HZ0.out.2.2) x).below (Nat.le_refl _) fun k h => h.elim
    · obtain ⟨e, hE⟩ : ∃ e, e = dropE D n := ⟨_, rfl⟩
      have HE := Lib.hid hE
      rw [← hE]
      have he0 : (e == 0) = false := by rw [hE]; simpa using he
      have he1 : (e != 0) = true := by rw [hE]; simpa using he
      have HN0 : Hid (¬ dropE D n = 0) := he
      have r3 := HRv.out
      have u0 := r3.1 0 _ rfl
      have u1 := r3.1 1 _ rfl
      have u2 := r3.1 2 _ rfl
      have u3 := r3.1 3 _ rfl
      have u4 := r3.1 4 _ rfl
      have u5 := r3.1 5 _ rfl
      have u6 := r3.1 6 _ rfl
      have g0 := r3.2 0
      have g1 := r3.2 1
      have g2 := r3.2 2
      have g3 := r3.2 3
      have g4 := r3.2 4
      have g5 := r3.2 5
      have g6 := r3.2 6
      clear he hE r3
      go_wp2_with fail
      change bodyPost _ _ _ _ _ (putWt v3 br wtZ)
      refine bodyPost_ret (results_ctt rfl (by rfl) (load_wt (putWt_row HRv.out)) (by rfl) (by rfl)) rfl ⟨?_, ?_⟩
      · unfold getWE
        rw [if_neg HN0.out, HE.out]
        rfl
      · exact (ButS.putWt (S := fun _ => False) (ButS.of_below HBw.out) (.inr HZ0.out.2.2) wtZ).below (Nat.le_refl _) fun k h => h.elim

end Go.Proofs.YthfndphngeaihaaDoor
