/- Package rank: Put. -/
import Derived.Test.YthfndphngeaihaaDoorRkH
import Derived.Test.YthfndphngeaihaaDoorFree3
namespace Go.Proofs.YthfndphngeaihaaDoor
open Go Go.RowKit Go.Shelf
open Go.ChangeMaps (setBlock)
set_option linter.unusedSimpArgs false
set_option linter.unusedVariables false
set_option linter.unusedSectionVars false
set_option maxRecDepth 100000

attribute [local go_sem] Oper.semAt_some

/-- What asks whether a name may be; whether a node may be a neighbour; of ranks; of sizes; whether a name does not wait, does. -/
def NamedV (x : Nm) (u : Value) (w : World) : Prop := ∃ b, u = .func (.func 46) #[] #[.pointer (some ⟨b, 0, none⟩)] ∧ RowB w b x.cells ∧ b < w.heap.size
def NearV (n : Int) (u : Value) (w : World) : Prop := ∃ b, u = .func (.func 48) #[] #[.pointer (some ⟨b, 0, none⟩)] ∧ RowB w b [.int .u32 n] ∧ b < w.heap.size
def RankedV (n : Int) (u : Value) (w : World) : Prop := ∃ b, u = .func (.func 49) #[] #[.pointer (some ⟨b, 0, none⟩)] ∧ RowB w b [.int .i64 n] ∧ b < w.heap.size
def SizedV (n : Int) (u : Value) (w : World) : Prop := ∃ b, u = .func (.func 50) #[] #[.pointer (some ⟨b, 0, none⟩)] ∧ RowB w b [.int .i64 n] ∧ b < w.heap.size
def AbsentV (p : Nat) (x : Nm) (u : Value) (w : World) : Prop := ∃ b c, u = .func (.func 51) #[] #[.pointer (some ⟨b, 0, none⟩), .pointer (some ⟨c, 0, none⟩)] ∧ RowB w b [.pointer (some ⟨p, 0, none⟩)] ∧ b < w.heap.size ∧ RowB w c x.cells ∧ c < w.heap.size
def WaitingV (p : Nat) (x : Nm) (u : Value) (w : World) : Prop := ∃ b c, u = .func (.func 56) #[] #[.pointer (some ⟨b, 0, none⟩), .pointer (some ⟨c, 0, none⟩)] ∧ RowB w b [.pointer (some ⟨p, 0, none⟩)] ∧ b < w.heap.size ∧ RowB w c x.cells ∧ c < w.heap.size
theorem NamedV.mono {x : Nm} {u : Value} {w w' : World} (h : NamedV x u w) (hb : Below w.heap.size w w') : NamedV x u w' := by
  obtain ⟨b, e, r, l⟩ := h
  exact ⟨b, e, r.on hb l, Nat.lt_of_lt_of_le l hb.size⟩
theorem NearV.mono {x : Int} {u : Value} {w w' : World} (h : NearV x u w) (hb : Below w.heap.size w w') : NearV x u w' := by
  obtain ⟨b, e, r, l⟩ := h
  exact ⟨b, e, r.on hb l, Nat.lt_of_lt_of_le l hb.size⟩
theorem RankedV.mono {x : Int} {u : Value} {w w' : World} (h : RankedV x u w) (hb : Below w.heap.size w w') : RankedV x u w' := by
  obtain ⟨b, e, r, l⟩ := h
  exact ⟨b, e, r.on hb l, Nat.lt_of_lt_of_le l hb.size⟩
theorem SizedV.mono {x : Int} {u : Value} {w w' : World} (h : SizedV x u w) (hb : Below w.heap.size w w') : SizedV x u w' := by
  obtain ⟨b, e, r, l⟩ := h
  exact ⟨b, e, r.on hb l, Nat.lt_of_lt_of_le l hb.size⟩
theorem AbsentV.mono {p : Nat} {x : Nm} {u : Value} {w w' : World} (h : AbsentV p x u w) (hb : Below w.heap.size w w') : AbsentV p x u w' := by
  obtain ⟨b, c, e, r, l, r2, l2⟩ := h
  exact ⟨b, c, e, r.on hb l, Nat.lt_of_lt_of_le l hb.size, r2.on hb l2, Nat.lt_of_lt_of_le l2 hb.size⟩
theorem WaitingV.mono {p : Nat} {x : Nm} {u : Value} {w w' : World} (h : WaitingV p x u w) (hb : Below w.heap.size w w') : WaitingV p x u w' := by
  obtain ⟨b, c, e, r, l, r2, l2⟩ := h
  exact ⟨b, c, e, r.on hb l, Nat.lt_of_lt_of_le l hb.size, r2.on hb l2, Nat.lt_of_lt_of_le l2 hb.size⟩
theorem rnamed_v (x : Nm) (w : World) : NamedV x (.func (.func 46) #[] #[.pointer (some ⟨w.heap.size, 0, none⟩)]) (w.alloc (.cells #[.int .u32 x.n, .int .u32 x.m, .int .u64 x.t, .int .u32 x.q] 28)) := ⟨_, rfl, RowB.new w x.cells _, by simp⟩
theorem absent_row (p : Nat) (x : Nm) (w : World) : RowB ((w.alloc (.cells #[.pointer (some ⟨p, 0, none⟩)] 32)).alloc (.cells #[.int .u32 x.n, .int .u32 x.m, .int .u64 x.t, .int .u32 x.q] 28)) w.heap.size [.pointer (some ⟨p, 0, none⟩)] ∧ RowB ((w.alloc (.cells #[.pointer (some ⟨p, 0, none⟩)] 32)).alloc (.cells #[.int .u32 x.n, .int .u32 x.m, .int .u64 x.t, .int .u32 x.q] 28)) (w.heap.size + 1) x.cells := by
  refine ⟨(RowB.new w [.pointer (some ⟨p, 0, none⟩)] _).on (below_al (Below.refl _ _) _) (by simp), ?_⟩
  have := RowB.new (w.alloc (.cells #[.pointer (some ⟨p, 0, none⟩)] 32)) x.cells 28
  rw [show (w.alloc (.cells #[.pointer (some ⟨p, 0, none⟩)] 32)).heap.size = w.heap.size + 1 by simp] at this
  exact this

def sPut (i : Nat) : Nat := ([6, 7, 8, 9, 10, 11, 12, 13, 14, 15, 16, 17, 18, 19, 20, 21, 22, 23, 24, 25] : List Nat).getD i 0
def vPut (p bx : Nat) (x : Wt) : Nat → Value → World → Prop
  | 0, u, w => u = .pointer (some ⟨p, 0, none⟩)
  | 1, u, w => u = .func (.func 19) #[.pointer (some ⟨p, 0, none⟩)] #[]
  | 2, u, w => u = .pointer (some ⟨bx, 0, none⟩)
  | 3, u, w => u = .agg #[.int .u32 x.nm.n, .int .u32 x.nm.m, .int .u64 x.nm.t, .int .u32 x.nm.q]
  | 4, u, w => NamedV x.nm u w
  | 5, u, w => u = .pointer (some ⟨bx, 4, none⟩)
  | 6, u, w => u = .int .u32 x.node
  | 7, u, w => NearV x.node u w
  | 8, u, w => u = .pointer (some ⟨bx, 5, none⟩)
  | 9, u, w => u = .int .i64 x.rank
  | 10, u, w => RankedV x.rank u w
  | 11, u, w => u = .pointer (some ⟨bx, 6, none⟩)
  | 12, u, w => u = .int .i64 x.size
  | 13, u, w => SizedV x.size u w
  | 14, u, w => u = .pointer (some ⟨p, 0, none⟩)
  | 15, u, w => u = .pointer (some ⟨bx, 0, none⟩)
  | 16, u, w => u = .agg #[.int .u32 x.nm.n, .int .u32 x.nm.m, .int .u64 x.nm.t, .int .u32 x.nm.q]
  | 17, u, w => AbsentV p x.nm u w
  | 18, u, w => u = .pointer (some ⟨p, 0, none⟩)
  | 19, u, w => u = .func (.func 25) #[.pointer (some ⟨p, 0, none⟩)] #[]
  | _, _, _ => True
theorem vPut_mono {p bx : Nat} {x : Wt} (i : Nat) (u : Value) (w w' : World) (h : vPut p bx x i u w) (hb : Below w.heap.size w w') : vPut p bx x i u w' := by
  unfold vPut at h ⊢
  split at h <;> first | exact h | exact NamedV.mono h hb | exact NearV.mono h hb | exact RankedV.mono h hb | exact SizedV.mono h hb | exact AbsentV.mono h hb

/-- What Put answers. -/
def rightW (x : Wt) : Bool := mayN x.nm && (decide (0 < x.node) && (inB 0 2 x.rank && inB 1 65536 x.size))
def putE (D : List Wt) (most : Int) (x : Wt) : Int := if rightW x = false then 2 else if (wt D x.nm).isSome = true then 150 else if (D.length : Int) < most then 0 else 220
def putAsks (D : List Wt) (most : Int) (x : Wt) (p b4 b7 b10 b13 b17 c17 : Nat) : List Ask :=
  [⟨19, #[.pointer (some ⟨p, 0, none⟩)], #[], 0⟩, ⟨46, #[], #[.pointer (some ⟨b4, 0, none⟩)], unE (mayN x.nm) 2⟩, ⟨48, #[], #[.pointer (some ⟨b7, 0, none⟩)], unE (decide (0 < x.node)) 2⟩,
   ⟨49, #[], #[.pointer (some ⟨b10, 0, none⟩)], unE (inB 0 2 x.rank) 2⟩, ⟨50, #[], #[.pointer (some ⟨b13, 0, none⟩)], unE (inB 1 65536 x.size) 2⟩, ⟨51, #[], #[.pointer (some ⟨b17, 0, none⟩), .pointer (some ⟨c17, 0, none⟩)], unE (!(wt D x.nm).isSome) 150⟩, ⟨25, #[.pointer (some ⟨p, 0, none⟩)], #[], unE (decide ((D.length : Int) < most)) 220⟩]
theorem putAsks_first (D : List Wt) (most : Int) (x : Wt) (p b4 b7 b10 b13 b17 c17 : Nat) : firstE (putAsks D most x p b4 b7 b10 b13 b17 c17) = putE D most x := by
  unfold putAsks putE rightW
  simp only [firstE]
  cases mayN x.nm <;> cases decide (0 < x.node) <;> cases inB 0 2 x.rank <;> cases inB 1 65536 x.size <;> cases (wt D x.nm).isSome <;> by_cases h : (D.length : Int) < most <;> simp [unE, h]

set_option maxHeartbeats 8000000 in
theorem put_any (S : Nat → Prop) (p : Nat) (most : Int) (D : List Wt) (x : Wt) (w : World) (h : LineAt w S p most D) (hlen : D.length ≤ 100000) :
    Calls Tryd.prog 7 #[.pointer (some ⟨p, 0, none⟩), .agg #[.int .u32 x.nm.n, .int .u32 x.nm.m, .int .u64 x.nm.t, .int .u32 x.nm.q, .int .u32 x.node, .int .i64 x.rank, .int .i64 x.size]] w fun e w' => e = .returned (.int .i64 (putE D most x)) ∧ LineAt w' (fun b => S b ∨ newS w w' b) p most (if putE D most x = 0 then D ++ [x] else D) ∧ ButS w.heap.size S w w' := by
  obtain ⟨W, hW⟩ : ∃ W, W = w.alloc (.cells #[.int .u32 x.nm.n, .int .u32 x.nm.m, .int .u64 x.nm.t, .int .u32 x.nm.q, .int .u32 x.node, .int .i64 x.rank, .int .i64 x.size] 30) := ⟨_, rfl⟩
  have HB0 : Hid (Below w.heap.size w W) := by rw [hW]; exact below_al (Below.refl _ _) _
  obtain ⟨bx, hbx⟩ : ∃ bx, bx = w.heap.size := ⟨_, rfl⟩
  have HX0 : Hid (RowB W bx x.cells ∧ bx < W.heap.size) := by
    rw [Hid, hW, hbx]
    exact ⟨RowB.new w x.cells _, by simp⟩
  have HX : Hid (∀ v, Below W.heap.size W v → RowB v bx x.cells) := fun v hb => HX0.out.1.on hb HX0.out.2
  have HL := Lib.hid h
  have HLe := Lib.hid hlen
  have HW := Lib.hid hW
  have HBx : Hid (bx = w.heap.size) := hbx
  clear h hlen hW
  go_enter Tryd.func7, Tryd.ntmps7
  go_upto_region 1 with fail
  rw [← HW.out, ← hbx]
  clear hbx
  refine wp_region_free3 20 sPut (vPut p bx x) (by kernel_rfl) (by decide) (fun i j hi hj => (by decide : ∀ i, i < 20 → ∀ j, j < 20 → sPut i = sPut j → i = j) i hi j hj) (fun i hi => (by decide : ∀ i, i < 20 → sPut i < 34) i hi) (dep_ok (by kernel_rfl)) (late_ok (by kernel_rfl)) (fun i u w w' hi h hb => vPut_mono i u w w' h hb) ?step ?fin
  case step =>
    intro i tm v K hi hb htz hrest hdeps hK
    have hx := HX.out v hb
    have z0 := hx.1 0 _ rfl
    have z1 := hx.1 1 _ rfl
    have z2 := hx.1 2 _ rfl
    have z3 := hx.1 3 _ rfl
    have z4 := hx.1 4 _ rfl
    have z5 := hx.1 5 _ rfl
    have z6 := hx.1 6 _ rfl
    clear hx
    have HK := Lib.hid hK
    have t0 : tm[0]? = some (.pointer (some ⟨p, 0, none⟩)) := hrest 0 (by decide)
    have t3 : tm[3]? = some (.pointer (some ⟨bx, 0, none⟩)) := hrest 3 (by decide)
    clear hK hrest htz
    match i, hi with
    | 0, _ =>
      clear hdeps
      refine wpOp_of rfl rfl ?_
      go_simp
      exact HK.out _ v (Below.refl _ _) rfl
    | 1, _ =>
      obtain ⟨u0, d0, e0⟩ := hdeps 0 (by kernel_rfl)
      have d0 : tm[6]? = some (.pointer (some ⟨p, 0, none⟩)) := by rw [show u0 = .pointer (some ⟨p, 0, none⟩) from e0] at d0; exact d0
      clear hdeps
      refine wpOp_of rfl rfl ?_
      go_simp
      exact HK.out _ v (Below.refl _ _) rfl
    | 2, _ =>
      clear hdeps
      refine wpOp_of rfl rfl ?_
      go_simp
      exact HK.out _ v (Below.refl _ _) rfl
    | 3, _ =>
      obtain ⟨u2, d2, e2⟩ := hdeps 2 (by kernel_rfl)
      have d2 : tm[8]? = some (.pointer (some ⟨bx, 0, none⟩)) := by rw [show u2 = .pointer (some ⟨bx, 0, none⟩) from e2] at d2; exact d2
      clear hdeps
      refine wpOp_of rfl rfl ?_
      go_simp
      exact HK.out _ v (Below.refl _ _) rfl
    | 4, _ =>
      obtain ⟨u3, d3, e3⟩ := hdeps 3 (by kernel_rfl)
      have d3 : tm[9]? = some (.agg #[.int .u32 x.nm.n, .int .u32 x.nm.m, .int .u64 x.nm.t, .int .u32 x.nm.q]) := by rw [show u3 = .agg #[.int .u32 x.nm.n, .int .u32 x.nm.m, .int .u64 x.nm.t, .int .u32 x.nm.q] from e3] at d3; exact d3
      clear hdeps
      refine wpOp_of rfl rfl ?_
      go_simp
      refine (rnamed_any x.nm v).mono ?_
      rintro e v' ⟨rfl, rfl⟩
      exact HK.out _ _ (below_al (Below.refl _ _) _) (rnamed_v x.nm v)
    | 5, _ =>
      clear hdeps
      refine wpOp_of rfl rfl ?_
      go_simp
      exact HK.out _ v (Below.refl _ _) rfl
    | 6, _ =>
      obtain ⟨u5, d5, e5⟩ := hdeps 5 (by kernel_rfl)
      have d5 : tm[11]? = some (.pointer (some ⟨bx, 4, none⟩)) := by rw [show u5 = .pointer (some ⟨bx, 4, none⟩) from e5] at d5; exact d5
      clear hdeps
      refine wpOp_of rfl rfl ?_
      go_simp
      exact HK.out _ v (Below.refl _ _) rfl
    | 7, _ =>
      obtain ⟨u6, d6, e6⟩ := hdeps 6 (by kernel_rfl)
      have d6 : tm[12]? = some (.int .u32 x.node) := by rw [show u6 = .int .u32 x.node from e6] at d6; exact d6
      clear hdeps
      refine wpOp_of rfl rfl ?_
      go_simp
      refine (near_any x.node v).mono ?_
      rintro e v' ⟨rfl, rfl⟩
      exact HK.out _ _ (below_al (Below.refl _ _) _) ⟨_, rfl, RowB.new v [.int .u32 x.node] _, by simp⟩
    | 8, _ =>
      clear hdeps
      refine wpOp_of rfl rfl ?_
      go_simp
      exact HK.out _ v (Below.refl _ _) rfl
    | 9, _ =>
      obtain ⟨u8, d8, e8⟩ := hdeps 8 (by kernel_rfl)
      have d8 : tm[14]? = some (.pointer (some ⟨bx, 5, none⟩)) := by rw [show u8 = .pointer (some ⟨bx, 5, none⟩) from e8] at d8; exact d8
      clear hdeps
      refine wpOp_of rfl rfl ?_
      go_simp
      exact HK.out _ v (Below.refl _ _) rfl
    | 10, _ =>
      obtain ⟨u9, d9, e9⟩ := hdeps 9 (by kernel_rfl)
      have d9 : tm[15]? = some (.int .i64 x.rank) := by rw [show u9 = .int .i64 x.rank from e9] at d9; exact d9
      clear hdeps
      refine wpOp_of rfl rfl ?_
      go_simp
      refine (ranked_any x.rank v).mono ?_
      rintro e v' ⟨rfl, rfl⟩
      exact HK.out _ _ (below_al (Below.refl _ _) _) ⟨_, rfl, RowB.new v [.int .i64 x.rank] _, by simp⟩
    | 11, _ =>
      clear hdeps
      refine wpOp_of rfl rfl ?_
      go_simp
      exact HK.out _ v (Below.refl _ _) rfl
    | 12, _ =>
      obtain ⟨u11, d11, e11⟩ := hdeps 11 (by kernel_rfl)
      have d11 : tm[17]? = some (.pointer (some ⟨bx, 6, none⟩)) := by rw [show u11 = .pointer (some ⟨bx, 6, none⟩) from e11] at d11; exact d11
      clear hdeps
      refine wpOp_of rfl rfl ?_
      go_simp
      exact HK.out _ v (Below.refl _ _) rfl
    | 13, _ =>
      obtain ⟨u12, d12, e12⟩ := hdeps 12 (by kernel_rfl)
      have d12 : tm[18]? = some (.int .i64 x.size) := by rw [show u12 = .int .i64 x.size from e12] at d12; exact d12
      clear hdeps
      refine wpOp_of rfl rfl ?_
      go_simp
      refine (sized_any x.size v).mono ?_
      rintro e v' ⟨rfl, rfl⟩
      exact HK.out _ _ (below_al (Below.refl _ _) _) ⟨_, rfl, RowB.new v [.int .i64 x.size] _, by simp⟩
    | 14, _ =>
      clear hdeps
      refine wpOp_of rfl rfl ?_
      go_simp
      exact HK.out _ v (Below.refl _ _) rfl
    | 15, _ =>
      clear hdeps
      refine wpOp_of rfl rfl ?_
      go_simp
      exact HK.out _ v (Below.refl _ _) rfl
    | 16, _ =>
      obtain ⟨u15, d15, e15⟩ := hdeps 15 (by kernel_rfl)
      have d15 : tm[21]? = some (.pointer (some ⟨bx, 0, none⟩)) := by rw [show u15 = .pointer (some ⟨bx, 0, none⟩) from e15] at d15; exact d15
      clear hdeps
      refine wpOp_of rfl rfl ?_
      go_simp
      exact HK.out _ v (Below.refl _ _) rfl
    | 17, _ =>
      obtain ⟨u14, d14, e14⟩ := hdeps 14 (by kernel_rfl)
      have d14 : tm[20]? = some (.pointer (some ⟨p, 0, none⟩)) := by rw [show u14 = .pointer (some ⟨p, 0, none⟩) from e14] at d14; exact d14
      obtain ⟨u16, d16, e16⟩ := hdeps 16 (by kernel_rfl)
      have d16 : tm[22]? = some (.agg #[.int .u32 x.nm.n, .int .u32 x.nm.m, .int .u64 x.nm.t, .int .u32 x.nm.q]) := by rw [show u16 = .agg #[.int .u32 x.nm.n, .int .u32 x.nm.m, .int .u64 x.nm.t, .int .u32 x.nm.q] from e16] at d16; exact d16
      clear hdeps
      refine wpOp_of rfl rfl ?_
      go_simp
      refine (absent_any (some ⟨p, 0, none⟩) x.nm v).mono ?_
      rintro e v' ⟨rfl, rfl⟩
      exact HK.out _ _ (below_al (below_al (Below.refl _ _) _) _) ⟨_, _, rfl, (absent_row p x.nm v).1, by simp; omega, (absent_row p x.nm v).2, by simp⟩
    | 18, _ =>
      clear hdeps
      refine wpOp_of rfl rfl ?_
      go_simp
      exact HK.out _ v (Below.refl _ _) rfl
    | 19, _ =>
      obtain ⟨u18, d18, e18⟩ := hdeps 18 (by kernel_rfl)
      have d18 : tm[24]? = some (.pointer (some ⟨p, 0, none⟩)) := by rw [show u18 = .pointer (some ⟨p, 0, none⟩) from e18] at d18; exact d18
      clear hdeps
      refine wpOp_of rfl rfl ?_
      go_simp
      exact HK.out _ v (Below.refl _ _) rfl
    | n + 20, h => exact absurd h (by omega)
  case fin =>
    intro v vals listed hsz hl1 hl2 hb hV
    have hle := listed_eq hsz hl1 hl2
    rw [hle]
    clear hle hsz hl1 hl2
    have e0 : vals 0 = .pointer (some ⟨p, 0, none⟩) := hV 0 (by omega)
    have e1 : vals 1 = .func (.func 19) #[.pointer (some ⟨p, 0, none⟩)] #[] := hV 1 (by omega)
    have e2 : vals 2 = .pointer (some ⟨bx, 0, none⟩) := hV 2 (by omega)
    have e3 : vals 3 = .agg #[.int .u32 x.nm.n, .int .u32 x.nm.m, .int .u64 x.nm.t, .int .u32 x.nm.q] := hV 3 (by omega)
    obtain ⟨b4, e4, r4, l4⟩ := hV 4 (by omega)
    have e5 : vals 5 = .pointer (some ⟨bx, 4, none⟩) := hV 5 (by omega)
    have e6 : vals 6 = .int .u32 x.node := hV 6 (by omega)
    obtain ⟨b7, e7, r7, l7⟩ := hV 7 (by omega)
    have e8 : vals 8 = .pointer (some ⟨bx, 5, none⟩) := hV 8 (by omega)
    have e9 : vals 9 = .int .i64 x.rank := hV 9 (by omega)
    obtain ⟨b10, e10, r10, l10⟩ := hV 10 (by omega)
    have e11 : vals 11 = .pointer (some ⟨bx, 6, none⟩) := hV 11 (by omega)
    have e12 : vals 12 = .int .i64 x.size := hV 12 (by omega)
    obtain ⟨b13, e13, r13, l13⟩ := hV 13 (by omega)
    have e14 : vals 14 = .pointer (some ⟨p, 0, none⟩) := hV 14 (by omega)
    have e15 : vals 15 = .pointer (some ⟨bx, 0, none⟩) := hV 15 (by omega)
    have e16 : vals 16 = .agg #[.int .u32 x.nm.n, .int .u32 x.nm.m, .int .u64 x.nm.t, .int .u32 x.nm.q] := hV 16 (by omega)
    obtain ⟨b17, c17, e17, r17, l17, k17, m17⟩ := hV 17 (by omega)
    have e18 : vals 18 = .pointer (some ⟨p, 0, none⟩) := hV 18 (by omega)
    have e19 : vals 19 = .func (.func 25) #[.pointer (some ⟨p, 0, none⟩)] #[] := hV 19 (by omega)
    clear hV
    simp only [laidV, sPut, List.getD_cons_zero, List.getD_cons_succ, List.setIfInBounds_toArray, List.set_cons_zero, List.set_cons_succ, e0, e1, e2, e3, e4, e5, e6, e7, e8, e9, e10, e11, e12, e13, e14, e15, e16, e17, e18, e19]
    clear e0 e1 e2 e3 e4 e5 e6 e7 e8 e9 e10 e11 e12 e13 e14 e15 e16 e17 e18 e19
    change wpAny _ _ _ _ 3 _ _ _
    refine wpAny_next (i := 20) (by kernel_rfl) rfl (fun K hK => ?_)
    go_simp
    refine hK _ _ ?_
    clear hK K
    try simp only [Act.put, List.setIfInBounds_toArray, List.set_cons_zero, List.set_cons_succ]
    obtain ⟨V2, hV2⟩ : ∃ V, V = v.alloc (.cells #[.func (.func 19) #[.pointer (some ⟨p, 0, none⟩)] #[], .func (.func 46) #[] #[.pointer (some ⟨b4, 0, none⟩)], .func (.func 48) #[] #[.pointer (some ⟨b7, 0, none⟩)], .func (.func 49) #[] #[.pointer (some ⟨b10, 0, none⟩)], .func (.func 50) #[] #[.pointer (some ⟨b13, 0, none⟩)], .func (.func 51) #[] #[.pointer (some ⟨b17, 0, none⟩), .pointer (some ⟨c17, 0, none⟩)], .func (.func 25) #[.pointer (some ⟨p, 0, none⟩)] #[]] 56) := ⟨_, rfl⟩
    rw [← hV2]
    have hbv : Below v.heap.size v V2 := by rw [hV2]; exact below_al (Below.refl _ _) _
    have hrow : ∀ (j : Nat) (q : Ask), (putAsks D most x p b4 b7 b10 b13 b17 c17)[j]? = some q → V2.cell? ⟨v.heap.size, j, none⟩ = some (.func (.func q.g) q.fs q.lb) := fun j q hj => by
      have hr := RowB.new v [.func (.func 19) #[.pointer (some ⟨p, 0, none⟩)] #[], .func (.func 46) #[] #[.pointer (some ⟨b4, 0, none⟩)], .func (.func 48) #[] #[.pointer (some ⟨b7, 0, none⟩)], .func (.func 49) #[] #[.pointer (some ⟨b10, 0, none⟩)], .func (.func 50) #[] #[.pointer (some ⟨b13, 0, none⟩)], .func (.func 51) #[] #[.pointer (some ⟨b17, 0, none⟩), .pointer (some ⟨c17, 0, none⟩)], .func (.func 25) #[.pointer (some ⟨p, 0, none⟩)] #[]] 56
      rw [hV2]
      refine hr.1 j _ ?_
      unfold putAsks at hj
      match j, hj with
      | 0, hj | 1, hj | 2, hj | 3, hj | 4, hj | 5, hj | 6, hj => injection hj with hj; subst hj; rfl
      | n + 7, hj => simp at hj
    have hline : ∀ X, Below V2.heap.size V2 X → LineAt X S p most D := fun X hX => HL.out.on (HB0.out.trans ((hb.trans ((hbv.trans (hX.mono hbv.size)).mono hb.size)).mono HB0.out.size))
    have hcell : ∀ X, Below V2.heap.size V2 X → ∃ bq, X.cell? ⟨p, 1, none⟩ = some (.map (some bq)) := fun X hX => by
      obtain ⟨bq, bw, lq, lw, h1, _⟩ := hline X hX
      exact ⟨bq, h1.1 1 _ rfl⟩
    have hon : ∀ (X : World) (b : Nat) (vs : List Value), Below V2.heap.size V2 X → RowB v b vs → b < v.heap.size → RowB X b vs := fun X b vs hX hr hl => (hr.on hbv hl).on hX (Nat.lt_of_lt_of_le hl hbv.size)
    have hask : AsksAt V2 (putAsks D most x p b4 b7 b10 b13 b17 c17) := by
      unfold putAsks
      refine asks_cons ent_there (fun X hX => ?_) (asks_cons ent_named1 (fun X hX => ?_) (asks_cons ent_near1 (fun X hX => ?_) (asks_cons ent_ranked1 (fun X hX => ?_) (asks_cons ent_sized1 (fun X hX => ?_) (asks_cons ent_absent1 (fun X hX => ?_) (asks_one ent_roomy (fun X hX => ?_)))))))
      · obtain ⟨bq, hq⟩ := hcell X hX
        exact there_any p bq X hq
      · have hr := hon X b4 _ hX r4 l4
        exact rnamed1_any b4 x.nm X (hr.1 0 _ rfl) (hr.1 1 _ rfl) (hr.1 2 _ rfl) (hr.1 3 _ rfl)
      · exact near1_any b7 x.node X ((hon X b7 _ hX r7 l7).1 0 _ rfl)
      · exact ranked1_any b10 x.rank X ((hon X b10 _ hX r10 l10).1 0 _ rfl)
      · exact sized1_any b13 x.size X ((hon X b13 _ hX r13 l13).1 0 _ rfl)
      · have hr := hon X c17 _ hX k17 m17
        exact absent1_any S p most D x.nm b17 c17 X (hline X hX) ((hon X b17 _ hX r17 l17).1 0 _ rfl) (hr.1 0 _ rfl) (hr.1 1 _ rfl) (hr.1 2 _ rfl) (hr.1 3 _ rfl)
      · exact roomy_any S p most D X (hline X hX)
    have HRef := Lib.hid (rkrefusal_any v.heap.size (putAsks D most x p b4 b7 b10 b13 b17 c17) V2 (by simp [putAsks]) (by rw [hV2]; simp) hrow hask)
    rw [putAsks_first, show (putAsks D most x p b4 b7 b10 b13 b17 c17).length = 7 from rfl] at HRef
    have HBv : Hid (Below W.heap.size W V2) := hb.trans (hbv.mono hb.size)
    clear hrow hask hline hcell hon hbv hV2 r4 l4 r7 l7 r10 l10 r13 l13 r17 l17 k17 m17 hb
    refine wpAny_next (i := 21) (by kernel_rfl) rfl (fun K hK => ?_)
    go_simp
    refine HRef.out.mono ?_
    rintro e v3 ⟨rfl, hb3⟩
    have HB3 : Hid (Below W.heap.size W v3) := HBv.out.trans (hb3.mono HBv.out.size)
    refine hK _ _ ?_
    clear hK K HRef hb3 HBv
    try simp only [Act.put, List.setIfInBounds_toArray, List.set_cons_zero, List.set_cons_succ]
    refine wpAny_next (i := 22) (by kernel_rfl) rfl (fun K hK => ?_)
    go_simp
    refine hK _ _ ?_
    clear hK K
    try simp only [Act.put, List.setIfInBounds_toArray, List.set_cons_zero, List.set_cons_succ]
    refine wpAny_done (by kernel_rfl) ?_ _
    have HLv : Hid (LineAt v3 S p most D) := HL.out.on (HB0.out.trans (HB3.out.mono HB0.out.size))
    have HXv : Hid (RowB v3 bx x.cells) := HX.out v3 HB3.out
    have HBw : Hid (Below w.heap.size w v3) := HB0.out.trans (HB3.out.mono HB0.out.size)
    by_cases he : putE D most x = 0
    · have HNo : Hid (wt D x.nm = none) := by
        unfold putE at he
        rw [Hid]
        cases hw : wt D x.nm with
        | none => rfl
        | some y =>
          rw [hw] at he
          split at he
          · cases he
          · simp at he
      have HE : Hid (putE D most x = 0) := he
      rw [he]
      have hx := HXv.out
      have z0 := hx.1 0 _ rfl
      have z1 := hx.1 1 _ rfl
      have z2 := hx.1 2 _ rfl
      have z3 := hx.1 3 _ rfl
      have z4 := hx.1 4 _ rfl
      have z5 := hx.1 5 _ rfl
      have z6 := hx.1 6 _ rfl
      clear hx he
      go_wp2_with fail
      refine (join_any S p most D x v3 HLv.out HNo.out HLe.out).mono ?_
      rintro e w4 ⟨rfl, hl4, hb4⟩
      have HL4 := Lib.hid hl4
      have HB4 := Lib.hid hb4
      clear hl4 hb4 z0 z1 z2 z3 z4 z5 z6
      go_wp2_with fail
      go_ret
      refine ⟨by (try rw [HE.out]); rfl, ?_, (ButS.of_below HBw.out).trans (HB4.out.mono HBw.out.size fun _ _ h => h)⟩
      (try rw [if_pos HE.out])
      exact HL4.out.into fun b hb => hb.imp id fun h => ⟨Nat.le_trans HBw.out.size h.1, h.2⟩
    · obtain ⟨e, hE⟩ : ∃ e, e = putE D most x := ⟨_, rfl⟩
      have HE := Lib.hid hE
      rw [← hE]
      have he0 : (e == 0) = false := by rw [hE]; simpa using he
      have HN0 : Hid (¬ putE D most x = 0) := he
      clear he hE
      go_wp2_with fail
      go_ret
      refine ⟨by rw [HE.out]; rfl, ?_, ButS.of_below HBw.out⟩
      (try rw [if_neg HN0.out])
      exact HLv.out.into fun b hb => .inl hb

end Go.Proofs.YthfndphngeaihaaDoor
