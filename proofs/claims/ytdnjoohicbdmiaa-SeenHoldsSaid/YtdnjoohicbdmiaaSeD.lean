/- Package seen: See. -/
import Derived.Test.YtdnjoohicbdmiaaSeC
import Derived.Test.YtdnjoohicbdmiaaFree3
import Derived.Test.YtdnjoohicbdmiaaRgTwo
namespace Go.Proofs.Ytdnjoohicbdmiaa
open Go Go.RowKit Go.Shelf
open Go.ChangeMaps (setBlock)
set_option linter.unusedSimpArgs false
set_option linter.unusedVariables false
set_option linter.unusedSectionVars false
set_option maxRecDepth 100000

attribute [local go_sem] Oper.semAt_some

/-- What asks whether a name may be; whether a sight may count until then; whether it is new. -/
def SeNamedV (x : Nm) (u : Value) (w : World) : Prop := ∃ b, u = .func (.func 46) #[] #[.pointer (some ⟨b, 0, none⟩)] ∧ RowB w b x.cells ∧ b < w.heap.size
def SeEndsV (n : Int) (u : Value) (w : World) : Prop := ∃ b, u = .func (.func 48) #[] #[.pointer (some ⟨b, 0, none⟩)] ∧ RowB w b [.int .u64 n] ∧ b < w.heap.size
def SeUnseenV (p : Nat) (x : Sg) (u : Value) (w : World) : Prop := ∃ b c, u = .func (.func 49) #[] #[.pointer (some ⟨b, 0, none⟩), .pointer (some ⟨c, 0, none⟩)] ∧ RowB w b [.pointer (some ⟨p, 0, none⟩)] ∧ b < w.heap.size ∧ RowB w c x.cells ∧ c < w.heap.size
theorem SeNamedV.mono {x : Nm} {u : Value} {w w' : World} (h : SeNamedV x u w) (hb : Below w.heap.size w w') : SeNamedV x u w' := by
  obtain ⟨b, e, r, l⟩ := h
  exact ⟨b, e, r.on hb l, Nat.lt_of_lt_of_le l hb.size⟩
theorem SeEndsV.mono {x : Int} {u : Value} {w w' : World} (h : SeEndsV x u w) (hb : Below w.heap.size w w') : SeEndsV x u w' := by
  obtain ⟨b, e, r, l⟩ := h
  exact ⟨b, e, r.on hb l, Nat.lt_of_lt_of_le l hb.size⟩
theorem SeUnseenV.mono {p : Nat} {x : Sg} {u : Value} {w w' : World} (h : SeUnseenV p x u w) (hb : Below w.heap.size w w') : SeUnseenV p x u w' := by
  obtain ⟨b, c, e, r, l, r2, l2⟩ := h
  exact ⟨b, c, e, r.on hb l, Nat.lt_of_lt_of_le l hb.size, r2.on hb l2, Nat.lt_of_lt_of_le l2 hb.size⟩
theorem senamed_v (x : Nm) (w : World) : SeNamedV x (.func (.func 46) #[] #[.pointer (some ⟨w.heap.size, 0, none⟩)]) (w.alloc (.cells #[.int .u32 x.n, .int .u32 x.m, .int .u64 x.t, .int .u32 x.q] 40)) := ⟨_, rfl, RowB.new w x.cells _, by simp⟩
theorem seunseen_row (p : Nat) (x : Sg) (w : World) : RowB ((w.alloc (.cells #[.pointer (some ⟨p, 0, none⟩)] 24)).alloc (.cells #[.int .u32 x.nm.n, .int .u32 x.nm.m, .int .u64 x.nm.t, .int .u32 x.nm.q, .bool x.back, .int .u8 x.cnt] 80)) w.heap.size [.pointer (some ⟨p, 0, none⟩)] ∧ RowB ((w.alloc (.cells #[.pointer (some ⟨p, 0, none⟩)] 24)).alloc (.cells #[.int .u32 x.nm.n, .int .u32 x.nm.m, .int .u64 x.nm.t, .int .u32 x.nm.q, .bool x.back, .int .u8 x.cnt] 80)) (w.heap.size + 1) x.cells := by
  refine ⟨(RowB.new w [.pointer (some ⟨p, 0, none⟩)] _).on (below_al (Below.refl _ _) _) (by simp), ?_⟩
  have := RowB.new (w.alloc (.cells #[.pointer (some ⟨p, 0, none⟩)] 24)) x.cells 80
  rw [show (w.alloc (.cells #[.pointer (some ⟨p, 0, none⟩)] 24)).heap.size = w.heap.size + 1 by simp] at this
  exact this

def sSee (i : Nat) : Nat := ([8, 9, 10, 11, 12, 13, 14, 15, 16, 17, 18, 19] : List Nat).getD i 0
def vSee (p bx : Nat) (x : Sg) (at0 : Int) : Nat → Value → World → Prop
  | 0, u, w => u = .pointer (some ⟨p, 0, none⟩)
  | 1, u, w => u = .func (.func 32) #[.pointer (some ⟨p, 0, none⟩)] #[]
  | 2, u, w => u = .pointer (some ⟨bx, 0, none⟩)
  | 3, u, w => u = .agg #[.int .u32 x.nm.n, .int .u32 x.nm.m, .int .u64 x.nm.t, .int .u32 x.nm.q]
  | 4, u, w => SeNamedV x.nm u w
  | 5, u, w => u = .int .u64 at0
  | 6, u, w => SeEndsV at0 u w
  | 7, u, w => u = .pointer (some ⟨p, 0, none⟩)
  | 8, u, w => u = .agg #[.int .u32 x.nm.n, .int .u32 x.nm.m, .int .u64 x.nm.t, .int .u32 x.nm.q, .bool x.back, .int .u8 x.cnt]
  | 9, u, w => SeUnseenV p x u w
  | 10, u, w => u = .pointer (some ⟨p, 0, none⟩)
  | 11, u, w => u = .func (.func 36) #[.pointer (some ⟨p, 0, none⟩)] #[]
  | _, _, _ => True
theorem vSee_mono {p bx : Nat} {x : Sg} {at0 : Int} (i : Nat) (u : Value) (w w' : World) (h : vSee p bx x at0 i u w) (hb : Below w.heap.size w w') : vSee p bx x at0 i u w' := by
  unfold vSee at h ⊢
  split at h <;> first | exact h | exact SeNamedV.mono h hb | exact SeEndsV.mono h hb | exact SeUnseenV.mono h hb

/-- What See answers. -/
def seeE (l : List (Sg × Value)) (most : Int) (x : Sg) (at0 : Int) : Int := if (mayN x.nm && endB at0) = false then 2 else if (lk l x).isSome = true then 150 else if (l.length : Int) < most then 0 else 230
def seeAsks (l : List (Sg × Value)) (most : Int) (x : Sg) (at0 : Int) (p b4 b6 b9 c9 : Nat) : List Ask :=
  [⟨32, #[.pointer (some ⟨p, 0, none⟩)], #[], 0⟩, ⟨46, #[], #[.pointer (some ⟨b4, 0, none⟩)], unE (mayN x.nm) 2⟩, ⟨48, #[], #[.pointer (some ⟨b6, 0, none⟩)], unE (endB at0) 2⟩,
   ⟨49, #[], #[.pointer (some ⟨b9, 0, none⟩), .pointer (some ⟨c9, 0, none⟩)], unE (!(lk l x).isSome) 150⟩, ⟨36, #[.pointer (some ⟨p, 0, none⟩)], #[], unE (decide ((l.length : Int) < most)) 230⟩]
theorem seeAsks_first (l : List (Sg × Value)) (most : Int) (x : Sg) (at0 : Int) (p b4 b6 b9 c9 : Nat) : firstE (seeAsks l most x at0 p b4 b6 b9 c9) = seeE l most x at0 := by
  unfold seeAsks seeE
  simp only [firstE]
  cases mayN x.nm <;> cases endB at0 <;> cases (lk l x).isSome <;> by_cases h : (l.length : Int) < most <;> simp [unE, h]

set_option maxHeartbeats 8000000 in
theorem see_any (S : Nat → Prop) (p : Nat) (most : Int) (l : List (Sg × Value)) (x : Sg) (at0 : Int) (w : World) (h : TabAt w S p most l) :
    Calls Try.prog 16 #[.pointer (some ⟨p, 0, none⟩), .agg #[.int .u32 x.nm.n, .int .u32 x.nm.m, .int .u64 x.nm.t, .int .u32 x.nm.q, .bool x.back, .int .u8 x.cnt], .int .u64 at0] w fun e w' => e = .returned (.int .i64 (seeE l most x at0)) ∧ TabAt w' S p most (if seeE l most x at0 = 0 then up l x (.int .u64 at0) else l) ∧ ButS w.heap.size S w w' := by
  obtain ⟨W, hW⟩ : ∃ W, W = w.alloc (.cells #[.int .u32 x.nm.n, .int .u32 x.nm.m, .int .u64 x.nm.t, .int .u32 x.nm.q, .bool x.back, .int .u8 x.cnt] 42) := ⟨_, rfl⟩
  have HB0 : Hid (Below w.heap.size w W) := by rw [hW]; exact below_al (Below.refl _ _) _
  obtain ⟨bx, hbx⟩ : ∃ bx, bx = w.heap.size := ⟨_, rfl⟩
  have HX0 : Hid (RowB W bx x.cells ∧ bx < W.heap.size) := by
    rw [Hid, hW, hbx]
    exact ⟨RowB.new w x.cells _, by simp⟩
  have HX : Hid (∀ v, Below W.heap.size W v → RowB v bx x.cells) := fun v hb => HX0.out.1.on hb HX0.out.2
  obtain ⟨lz, hlz⟩ : ∃ z, z = (if seeE l most x at0 = 0 then up l x (.int .u64 at0) else l) := ⟨_, rfl⟩
  obtain ⟨ez, hez⟩ : ∃ z, z = seeE l most x at0 := ⟨_, rfl⟩
  rw [← hlz, ← hez]
  have HLZ := Lib.hid hlz
  have HEZ := Lib.hid hez
  clear hlz hez
  have HL := Lib.hid h
  have HW := Lib.hid hW
  have HBx : Hid (bx = w.heap.size) := hbx
  clear h hW
  go_enter Try.func16, Try.ntmps16
  go_upto_region 1 with fail
  rw [← HW.out, ← hbx]
  clear hbx
  refine wp_region_free3 12 sSee (vSee p bx x at0) (by kernel_rfl) (by decide) (fun i j hi hj => (by decide : ∀ i, i < 12 → ∀ j, j < 12 → sSee i = sSee j → i = j) i hi j hj) (fun i hi => (by decide : ∀ i, i < 12 → sSee i < 31) i hi) (dep_ok (by kernel_rfl)) (late_ok (by kernel_rfl)) (fun i u w w' hi h hb => vSee_mono i u w w' h hb) ?step ?fin
  case step =>
    intro i tm v K hi hb htz hrest hdeps hK
    have hx := HX.out v hb
    have z0 := hx.1 0 _ rfl
    have z1 := hx.1 1 _ rfl
    have z2 := hx.1 2 _ rfl
    have z3 := hx.1 3 _ rfl
    have z4 := hx.1 4 _ rfl
    have z5 := hx.1 5 _ rfl
    clear hx
    have HK := Lib.hid hK
    have t0 : tm[0]? = some (.pointer (some ⟨p, 0, none⟩)) := hrest 0 (by decide)
    have t2 : tm[2]? = some (.int .u64 at0) := hrest 2 (by decide)
    have t4 : tm[4]? = some (.pointer (some ⟨bx, 0, none⟩)) := hrest 4 (by decide)
    clear hK hrest htz
    match i, hi with
    | 0, _ =>
      clear hdeps
      refine wpOp_of rfl rfl ?_
      go_simp
      exact HK.out _ v (Below.refl _ _) rfl
    | 1, _ =>
      obtain ⟨u0, d0, e0⟩ := hdeps 0 (by kernel_rfl)
      have d0 : tm[8]? = some (.pointer (some ⟨p, 0, none⟩)) := by rw [show u0 = .pointer (some ⟨p, 0, none⟩) from e0] at d0; exact d0
      clear hdeps
      refine wpOp_of rfl rfl ?_
      go_simp
      exact HK.out _ v (Below.refl _ _) rfl
    | 2, _ =>
      clear hdeps
      refine wpOp_of rfl rfl ?_
      go_simp
      exact HK.out _ v (Below.refl _ _) rfl
    | 3, _ =>
      obtain ⟨u2, d2, e2⟩ := hdeps 2 (by kernel_rfl)
      have d2 : tm[10]? = some (.pointer (some ⟨bx, 0, none⟩)) := by rw [show u2 = .pointer (some ⟨bx, 0, none⟩) from e2] at d2; exact d2
      clear hdeps
      refine wpOp_of rfl rfl ?_
      go_simp
      exact HK.out _ v (Below.refl _ _) rfl
    | 4, _ =>
      obtain ⟨u3, d3, e3⟩ := hdeps 3 (by kernel_rfl)
      have d3 : tm[11]? = some (.agg #[.int .u32 x.nm.n, .int .u32 x.nm.m, .int .u64 x.nm.t, .int .u32 x.nm.q]) := by rw [show u3 = .agg #[.int .u32 x.nm.n, .int .u32 x.nm.m, .int .u64 x.nm.t, .int .u32 x.nm.q] from e3] at d3; exact d3
      clear hdeps
      refine wpOp_of rfl rfl ?_
      go_simp
      refine (senamed_any x.nm v).mono ?_
      rintro e v' ⟨rfl, rfl⟩
      exact HK.out _ _ (below_al (Below.refl _ _) _) (senamed_v x.nm v)
    | 5, _ =>
      clear hdeps
      refine wpOp_of rfl rfl ?_
      go_simp
      exact HK.out _ v (Below.refl _ _) rfl
    | 6, _ =>
      obtain ⟨u5, d5, e5⟩ := hdeps 5 (by kernel_rfl)
      have d5 : tm[13]? = some (.int .u64 at0) := by rw [show u5 = .int .u64 at0 from e5] at d5; exact d5
      clear hdeps
      refine wpOp_of rfl rfl ?_
      go_simp
      refine (seends_any at0 v).mono ?_
      rintro e v' ⟨rfl, rfl⟩
      exact HK.out _ _ (below_al (Below.refl _ _) _) ⟨_, rfl, RowB.new v [.int .u64 at0] _, by simp⟩
    | 7, _ =>
      clear hdeps
      refine wpOp_of rfl rfl ?_
      go_simp
      exact HK.out _ v (Below.refl _ _) rfl
    | 8, _ =>
      clear hdeps
      refine wpOp_of rfl rfl ?_
      go_simp
      exact HK.out _ v (Below.refl _ _) rfl
    | 9, _ =>
      obtain ⟨u7, d7, e7⟩ := hdeps 7 (by kernel_rfl)
      have d7 : tm[15]? = some (.pointer (some ⟨p, 0, none⟩)) := by rw [show u7 = .pointer (some ⟨p, 0, none⟩) from e7] at d7; exact d7
      obtain ⟨u8, d8, e8⟩ := hdeps 8 (by kernel_rfl)
      have d8 : tm[16]? = some (.agg #[.int .u32 x.nm.n, .int .u32 x.nm.m, .int .u64 x.nm.t, .int .u32 x.nm.q, .bool x.back, .int .u8 x.cnt]) := by rw [show u8 = .agg #[.int .u32 x.nm.n, .int .u32 x.nm.m, .int .u64 x.nm.t, .int .u32 x.nm.q, .bool x.back, .int .u8 x.cnt] from e8] at d8; exact d8
      clear hdeps
      refine wpOp_of rfl rfl ?_
      go_simp
      refine (seunseen_any (some ⟨p, 0, none⟩) x v).mono ?_
      rintro e v' ⟨rfl, rfl⟩
      exact HK.out _ _ (below_al (below_al (Below.refl _ _) _) _) ⟨_, _, rfl, (seunseen_row p x v).1, by simp; omega, (seunseen_row p x v).2, by simp⟩
    | 10, _ =>
      clear hdeps
      refine wpOp_of rfl rfl ?_
      go_simp
      exact HK.out _ v (Below.refl _ _) rfl
    | 11, _ =>
      obtain ⟨u10, d10, e10⟩ := hdeps 10 (by kernel_rfl)
      have d10 : tm[18]? = some (.pointer (some ⟨p, 0, none⟩)) := by rw [show u10 = .pointer (some ⟨p, 0, none⟩) from e10] at d10; exact d10
      clear hdeps
      refine wpOp_of rfl rfl ?_
      go_simp
      exact HK.out _ v (Below.refl _ _) rfl
    | n + 12, h => exact absurd h (by omega)
  case fin =>
    intro v vals listed hsz hl1 hl2 hb hV
    have hle := listed_eq hsz hl1 hl2
    rw [hle]
    clear hle hsz hl1 hl2
    have e0 : vals 0 = .pointer (some ⟨p, 0, none⟩) := hV 0 (by omega)
    have e1 : vals 1 = .func (.func 32) #[.pointer (some ⟨p, 0, none⟩)] #[] := hV 1 (by omega)
    have e2 : vals 2 = .pointer (some ⟨bx, 0, none⟩) := hV 2 (by omega)
    have e3 : vals 3 = .agg #[.int .u32 x.nm.n, .int .u32 x.nm.m, .int .u64 x.nm.t, .int .u32 x.nm.q] := hV 3 (by omega)
    obtain ⟨b4, e4, r4, l4⟩ := hV 4 (by omega)
    have e5 : vals 5 = .int .u64 at0 := hV 5 (by omega)
    obtain ⟨b6, e6, r6, l6⟩ := hV 6 (by omega)
    have e7 : vals 7 = .pointer (some ⟨p, 0, none⟩) := hV 7 (by omega)
    have e8 : vals 8 = .agg #[.int .u32 x.nm.n, .int .u32 x.nm.m, .int .u64 x.nm.t, .int .u32 x.nm.q, .bool x.back, .int .u8 x.cnt] := hV 8 (by omega)
    obtain ⟨b9, c9, e9, r9, l9, k9, m9⟩ := hV 9 (by omega)
    have e10 : vals 10 = .pointer (some ⟨p, 0, none⟩) := hV 10 (by omega)
    have e11 : vals 11 = .func (.func 36) #[.pointer (some ⟨p, 0, none⟩)] #[] := hV 11 (by omega)
    clear hV
    simp only [laidV, sSee, List.getD_cons_zero, List.getD_cons_succ, List.setIfInBounds_toArray, List.set_cons_zero, List.set_cons_succ, e0, e1, e2, e3, e4, e5, e6, e7, e8, e9, e10, e11]
    clear e0 e1 e2 e3 e4 e5 e6 e7 e8 e9 e10 e11
    change wpAny _ _ _ _ 3 _ _ _
    refine wpAny_next (i := 12) (by kernel_rfl) rfl (fun K hK => ?_)
    go_simp
    refine hK _ _ ?_
    clear hK K
    try simp only [Act.put, List.setIfInBounds_toArray, List.set_cons_zero, List.set_cons_succ]
    obtain ⟨V2, hV2⟩ : ∃ V, V = v.alloc (.cells #[.func (.func 32) #[.pointer (some ⟨p, 0, none⟩)] #[], .func (.func 46) #[] #[.pointer (some ⟨b4, 0, none⟩)], .func (.func 48) #[] #[.pointer (some ⟨b6, 0, none⟩)], .func (.func 49) #[] #[.pointer (some ⟨b9, 0, none⟩), .pointer (some ⟨c9, 0, none⟩)], .func (.func 36) #[.pointer (some ⟨p, 0, none⟩)] #[]] 64) := ⟨_, rfl⟩
    rw [← hV2]
    have hbv : Below v.heap.size v V2 := by rw [hV2]; exact below_al (Below.refl _ _) _
    have hrow : ∀ (j : Nat) (q : Ask), (seeAsks l most x at0 p b4 b6 b9 c9)[j]? = some q → V2.cell? ⟨v.heap.size, j, none⟩ = some (.func (.func q.g) q.fs q.lb) := fun j q hj => by
      have hr := RowB.new v [.func (.func 32) #[.pointer (some ⟨p, 0, none⟩)] #[], .func (.func 46) #[] #[.pointer (some ⟨b4, 0, none⟩)], .func (.func 48) #[] #[.pointer (some ⟨b6, 0, none⟩)], .func (.func 49) #[] #[.pointer (some ⟨b9, 0, none⟩), .pointer (some ⟨c9, 0, none⟩)], .func (.func 36) #[.pointer (some ⟨p, 0, none⟩)] #[]] 64
      rw [hV2]
      refine hr.1 j _ ?_
      unfold seeAsks at hj
      match j, hj with
      | 0, hj | 1, hj | 2, hj | 3, hj | 4, hj => injection hj with hj; subst hj; rfl
      | n + 5, hj => simp at hj
    have hline : ∀ X, Below V2.heap.size V2 X → TabAt X S p most l := fun X hX => HL.out.on (HB0.out.trans ((hb.trans ((hbv.trans (hX.mono hbv.size)).mono hb.size)).mono HB0.out.size))
    have hcell : ∀ X, Below V2.heap.size V2 X → ∃ bq, X.cell? ⟨p, 1, none⟩ = some (.map (some bq)) := fun X hX => by
      obtain ⟨bq, h1, _⟩ := hline X hX
      exact ⟨bq, h1.1 1 _ rfl⟩
    have hon : ∀ (X : World) (b : Nat) (vs : List Value), Below V2.heap.size V2 X → RowB v b vs → b < v.heap.size → RowB X b vs := fun X b vs hX hr hl => (hr.on hbv hl).on hX (Nat.lt_of_lt_of_le hl hbv.size)
    have hask : AsksAt V2 (seeAsks l most x at0 p b4 b6 b9 c9) := by
      unfold seeAsks
      refine asks_cons ent_sethere (fun X hX => ?_) (asks_cons ent_senamed1 (fun X hX => ?_) (asks_cons ent_seends1 (fun X hX => ?_) (asks_cons ent_seunseen1 (fun X hX => ?_) (asks_one ent_seroomy (fun X hX => ?_)))))
      · obtain ⟨bq, hq⟩ := hcell X hX
        exact sethere_any p bq X hq
      · have hr := hon X b4 _ hX r4 l4
        exact senamed1_any b4 x.nm X (hr.1 0 _ rfl) (hr.1 1 _ rfl) (hr.1 2 _ rfl) (hr.1 3 _ rfl)
      · exact seends1_any b6 at0 X ((hon X b6 _ hX r6 l6).1 0 _ rfl)
      · exact seunseen1_any S p most l x b9 c9 X (hline X hX) ((hon X b9 _ hX r9 l9).1 0 _ rfl) (hon X c9 _ hX k9 m9)
      · exact seroomy_any S p most l X (hline X hX)
    have HRef := Lib.hid (serefusal_any v.heap.size (seeAsks l most x at0 p b4 b6 b9 c9) V2 (by simp [seeAsks]) (by rw [hV2]; simp) hrow hask)
    rw [seeAsks_first, show (seeAsks l most x at0 p b4 b6 b9 c9).length = 5 from rfl] at HRef
    have HBv : Hid (Below W.heap.size W V2) := hb.trans (hbv.mono hb.size)
    clear hrow hask hline hcell hon hbv hV2 r4 l4 r6 l6 r9 l9 k9 m9 hb
    refine wpAny_next (i := 13) (by kernel_rfl) rfl (fun K hK => ?_)
    go_simp
    refine HRef.out.mono ?_
    rintro e v3 ⟨rfl, hb3⟩
    have HB3 : Hid (Below W.heap.size W v3) := HBv.out.trans (hb3.mono HBv.out.size)
    refine hK _ _ ?_
    clear hK K HRef hb3 HBv
    try simp only [Act.put, List.setIfInBounds_toArray, List.set_cons_zero, List.set_cons_succ]
    refine wpAny_next (i := 14) (by kernel_rfl) rfl (fun K hK => ?_)
    go_simp
    refine hK _ _ ?_
    clear hK K
    try simp only [Act.put, List.setIfInBounds_toArray, List.set_cons_zero, List.set_cons_succ]
    refine wpAny_done (by kernel_rfl) ?_ _
    have HLv : Hid (TabAt v3 S p most l) := HL.out.on (HB0.out.trans (HB3.out.mono HB0.out.size))
    have HXv : Hid (RowB v3 bx x.cells) := HX.out v3 HB3.out
    have HBw : Hid (Below w.heap.size w v3) := HB0.out.trans (HB3.out.mono HB0.out.size)
    rw [← HEZ.out]
    by_cases he : ez = 0
    · subst he
      have HLu : Hid (lz = up l x (.int .u64 at0)) := by rw [Hid, HLZ.out, if_pos HEZ.out.symm]
      go_upto_region 3 with fail
      obtain ⟨Wd, hWd⟩ : ∃ W, W = v3.drew := ⟨_, rfl⟩
      have HWd := Lib.hid hWd
      obtain ⟨bu, h1, h2, h3, h4⟩ := HLv.out
      have HSd : Hid (Wd.cell? ⟨p, 1, none⟩ = some (.map (some bu)) ∧ Wd.heap[bu]? = v3.heap[bu]? ∧ Wd.cell? ⟨bx, 0, none⟩ = some (.int .u32 x.nm.n) ∧ Wd.cell? ⟨bx, 1, none⟩ = some (.int .u32 x.nm.m) ∧ Wd.cell? ⟨bx, 2, none⟩ = some (.int .u64 x.nm.t) ∧ Wd.cell? ⟨bx, 3, none⟩ = some (.int .u32 x.nm.q) ∧ Wd.cell? ⟨bx, 4, none⟩ = some (.bool x.back) ∧ Wd.cell? ⟨bx, 5, none⟩ = some (.int .u8 x.cnt)) := by
        rw [Hid, hWd]
        have a := HXv.out
        exact ⟨h1.1 1 _ rfl, rfl, a.1 0 _ rfl, a.1 1 _ rfl, a.1 2 _ rfl, a.1 3 _ rfl, a.1 4 _ rfl, a.1 5 _ rfl⟩
      have hkd : KMap encSg Wd bu l := h2.kept (by rw [hWd]; rfl)
      obtain ⟨ob, hup, hku⟩ := hkd.update keySg Try.underlying67 x (.int .u64 at0)
      unfold encSg at hup
      have HU : Hid (KMap encSg (setBlock Wd bu ob) bu (up l x (.int .u64 at0)) ∧ RowB Wd p [.int .i64 most, .map (some bu)] ∧ (S p ∧ S bu) ∧ p ≠ bu ∧ Below w.heap.size w Wd) := ⟨hku, h1.kept (by rw [hWd]; rfl), h3, h4, by rw [hWd]; exact HBw.out.drew⟩
      clear hWd h1 h2 h3 h4 hkd hku
      refine wp_region_T (fun X => X.cell? ⟨p, 1, none⟩ = some (.map (some bu)) ∧ X.heap[bu]? = v3.heap[bu]? ∧ X.cell? ⟨bx, 0, none⟩ = some (.int .u32 x.nm.n) ∧ X.cell? ⟨bx, 1, none⟩ = some (.int .u32 x.nm.m) ∧ X.cell? ⟨bx, 2, none⟩ = some (.int .u64 x.nm.t) ∧ X.cell? ⟨bx, 3, none⟩ = some (.int .u32 x.nm.q) ∧ X.cell? ⟨bx, 4, none⟩ = some (.bool x.back) ∧ X.cell? ⟨bx, 5, none⟩ = some (.int .u8 x.cnt)) 6 (by kernel_rfl) ?_
      rw [← HWd.out]
      refine wpAnyT_take (i := 0) (v := ?_) rfl (by kernel_rfl) (by kernel_rfl) (by kernel_rfl) (by kernel_rfl) (fun _ _ _ h => h) (Or.inl ⟨by rfl, ?_⟩) HSd.out ?_
      rotate_left
      · intro w hSw
        (try dsimp only at hSw)
        go_simp
        all_goals with_reducible rfl
      simp only [Act.put, List.setIfInBounds_toArray, List.set_cons_zero, List.set_cons_succ]
      refine wpAnyT_take (i := 1) (v := ?_) rfl (by kernel_rfl) (by kernel_rfl) (by kernel_rfl) (by kernel_rfl) (fun _ _ _ h => h) (Or.inl ⟨by rfl, ?_⟩) HSd.out ?_
      rotate_left
      · intro w hSw
        (try dsimp only at hSw)
        go_simp
        all_goals with_reducible rfl
      simp only [Act.put, List.setIfInBounds_toArray, List.set_cons_zero, List.set_cons_succ]
      refine wpAnyT_take (i := 2) (v := ?_) rfl (by kernel_rfl) (by kernel_rfl) (by kernel_rfl) (by kernel_rfl) (fun _ _ _ h => h) (Or.inl ⟨by rfl, ?_⟩) HSd.out ?_
      rotate_left
      · intro w hSw
        (try dsimp only at hSw)
        go_simp
        all_goals with_reducible rfl
      simp only [Act.put, List.setIfInBounds_toArray, List.set_cons_zero, List.set_cons_succ]
      refine wpAnyT_take (i := 3) (v := ?_) rfl (by kernel_rfl) (by kernel_rfl) (by kernel_rfl) (by kernel_rfl) (fun _ _ _ h => h) (Or.inl ⟨by rfl, ?_⟩) HSd.out ?_
      rotate_left
      · intro w hSw
        (try dsimp only at hSw)
        go_simp
        all_goals with_reducible rfl
      simp only [Act.put, List.setIfInBounds_toArray, List.set_cons_zero, List.set_cons_succ]
      refine wpAnyT_take (i := 4) (v := ?_) rfl (by kernel_rfl) (by kernel_rfl) (by kernel_rfl) (by kernel_rfl) (fun _ _ _ h => h) (Or.inl ⟨by rfl, ?_⟩) HSd.out ?_
      rotate_left
      · intro w hSw
        (try dsimp only at hSw)
        go_simp
        all_goals with_reducible rfl
      simp only [Act.put, List.setIfInBounds_toArray, List.set_cons_zero, List.set_cons_succ]
      refine wpAnyT_take (i := 5) (v := ?_) rfl (by kernel_rfl) (by kernel_rfl) (by kernel_rfl) (by kernel_rfl) (fun _ _ _ h => h) (Or.inl ⟨by rfl, ?_⟩) HSd.out ?_
      rotate_left
      · intro w hSw
        (try dsimp only at hSw)
        go_simp
        all_goals with_reducible rfl
      simp only [Act.put, List.setIfInBounds_toArray, List.set_cons_zero, List.set_cons_succ]
      refine wpAnyT_one (i := 6) (by kernel_rfl) rfl (fun K hK => ?_)
      go_simp
      refine hK.out _ _ (fun h => absurd h (by decide)) ?_
      clear hK K
      try simp only [Act.put, List.setIfInBounds_toArray, List.set_cons_zero, List.set_cons_succ]
      refine wpAnyT_done (by kernel_rfl) ?_ _
      go_wp2_with fail
      go_ret
      obtain ⟨u1, u2, u3, u4, u5⟩ := HU.out
      rw [HLu.out]
      exact ⟨rfl, ⟨bu, u2.kept (setBlock_block _ _ _ _ u4), u1, u3, u4⟩, (ButS.of_below u5).setBlock (.inl u3.2) ob⟩
    · have h1 : (ez == 0) = false := by simpa using he
      have HLu : Hid (lz = l) := by rw [Hid, HLZ.out, if_neg (by rw [← HEZ.out]; exact he)]
      clear he
      go_wp2_with fail
      go_ret
      rw [HLu.out]
      exact ⟨rfl, HLv.out, ButS.of_below HBw.out⟩

end Go.Proofs.Ytdnjoohicbdmiaa
