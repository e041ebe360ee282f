/- NameHolds, walked. -/
import Derived.Test.YtjbdpkjkeelgfaaDoorNmH1
namespace Go.Proofs.YtjbdpkjkeelgfaaDoor
open Go Go.RowKit Go.Shelf
set_option linter.unusedSimpArgs false
set_option linter.unusedVariables false

def at3 (x y z : NmT) (j : Nat) : NmT := if j = 0 then x else if j = 1 then y else z

/-- The three names in their block. -/
def Box12 (w : World) (B : Nat) (x y z : NmT) : Prop :=
  ∀ j, j < 3 → w.cell? ⟨B, j * 4, none⟩ = some (.int .u32 (at3 x y z j).n) ∧ w.cell? ⟨B, j * 4 + 1, none⟩ = some (.int .u32 (at3 x y z j).m) ∧ w.cell? ⟨B, j * 4 + 2, none⟩ = some (.int .u64 (at3 x y z j).t) ∧ w.cell? ⟨B, j * 4 + 3, none⟩ = some (.int .u32 (at3 x y z j).q)

theorem Box12.below {w w' : World} {B : Nat} {x y z : NmT} (h : Box12 w B x y z) (hb : Below (B + 1) w w') : Box12 w' B x y z := fun j hj => by
  have hh : ∀ i, w'.cell? ⟨B, i, none⟩ = w.cell? ⟨B, i, none⟩ := fun i => hb.cell (p := ⟨B, i, none⟩) (Nat.lt_succ_self B)
  rw [hh, hh, hh, hh]
  exact h j hj

theorem box12_new (w : World) (t : TypeId) (x y z : NmT) : Box12 (w.alloc (.cells #[.int .u32 x.n, .int .u32 x.m, .int .u64 x.t, .int .u32 x.q, .int .u32 y.n, .int .u32 y.m, .int .u64 y.t, .int .u32 y.q, .int .u32 z.n, .int .u32 z.m, .int .u64 z.t, .int .u32 z.q] t)) w.heap.size x y z := fun j hj => by
  have : j = 0 ∨ j = 1 ∨ j = 2 := by omega
  rw [World.cell?_alloc_mark, World.cell?_alloc_mark, World.cell?_alloc_mark, World.cell?_alloc_mark]
  rcases this with rfl | rfl | rfl <;> exact ⟨rfl, rfl, rfl, rfl⟩

theorem pair_new (w : World) (t : TypeId) (a b : NmT) (w' : World) (hb : Below (((w.alloc (.cells #[.int .u32 a.n, .int .u32 a.m, .int .u64 a.t, .int .u32 a.q] t)).alloc (.cells #[.int .u32 b.n, .int .u32 b.m, .int .u64 b.t, .int .u32 b.q] t)).drew).heap.size (((w.alloc (.cells #[.int .u32 a.n, .int .u32 a.m, .int .u64 a.t, .int .u32 a.q] t)).alloc (.cells #[.int .u32 b.n, .int .u32 b.m, .int .u64 b.t, .int .u32 b.q] t)).drew) w') :
    (w'.cell? ⟨w.heap.size, 0, none⟩ = some (.int .u32 a.n) ∧ w'.cell? ⟨w.heap.size, 1, none⟩ = some (.int .u32 a.m) ∧ w'.cell? ⟨w.heap.size, 2, none⟩ = some (.int .u64 a.t) ∧ w'.cell? ⟨w.heap.size, 3, none⟩ = some (.int .u32 a.q)) ∧ (w'.cell? ⟨w.heap.size + 1, 0, none⟩ = some (.int .u32 b.n) ∧ w'.cell? ⟨w.heap.size + 1, 1, none⟩ = some (.int .u32 b.m) ∧ w'.cell? ⟨w.heap.size + 1, 2, none⟩ = some (.int .u64 b.t) ∧ w'.cell? ⟨w.heap.size + 1, 3, none⟩ = some (.int .u32 b.q)) := by
  have h0 : ∀ i, w'.cell? ⟨w.heap.size, i, none⟩ = _ := fun i => hb.cell (p := ⟨w.heap.size, i, none⟩) (by simp; omega)
  have h1 : ∀ i, w'.cell? ⟨w.heap.size + 1, i, none⟩ = _ := fun i => hb.cell (p := ⟨w.heap.size + 1, i, none⟩) (by simp)
  refine ⟨⟨(h0 0).trans ?_, (h0 1).trans ?_, (h0 2).trans ?_, (h0 3).trans ?_⟩, (h1 0).trans ?_, (h1 1).trans ?_, (h1 2).trans ?_, (h1 3).trans ?_⟩ <;> simp

attribute [local go_sem high] eqName_run

set_option maxRecDepth 100000 in
set_option maxHeartbeats 16000000 in
theorem walk_nameHolds (x y z : NmT) (hx : x.ok) (hy : y.ok) (hz : z.ok) (w : World) (ht : TabN w) :
    Calls Tryd.prog 8 #[.agg #[.int .u32 x.n, .int .u32 x.m, .int .u64 x.t, .int .u32 x.q, .int .u32 y.n, .int .u32 y.m, .int .u64 y.t, .int .u32 y.q, .int .u32 z.n, .int .u32 z.m, .int .u64 z.t, .int .u32 z.q]] w fun e w' => e = .returned (.bool true) ∧ Below w.heap.size w w' := by
  have HT : Hid (∀ w', Below w.heap.size w w' → TabN w') := fun w' h => ht.on h
  obtain ⟨W0, hW0⟩ : ∃ W, W = w.alloc (.cells #[.int .u32 x.n, .int .u32 x.m, .int .u64 x.t, .int .u32 x.q, .int .u32 y.n, .int .u32 y.m, .int .u64 y.t, .int .u32 y.q, .int .u32 z.n, .int .u32 z.m, .int .u64 z.t, .int .u32 z.q] 75) := ⟨_, rfl⟩
  have HB0 : Hid (Below w.heap.size w W0) := by rw [hW0]; exact below_al (Below.refl _ _) _
  have hs0 : W0.heap.size ≤ w.heap.size + 1 ∧ w.heap.size + 1 ≤ W0.heap.size := by rw [hW0]; simp
  have HBX : Hid (∀ w', Below W0.heap.size W0 w' → Box12 w' w.heap.size x y z) := fun w' hb => by
    have h0 : Box12 W0 w.heap.size x y z := by rw [hW0]; exact box12_new w _ x y z
    exact h0.below (hb.mono (by omega))
  have HOK : Hid (∀ j, (at3 x y z j).ok) := fun j => by unfold at3; split; exact hx; split; exact hy; exact hz
  have HW0 := Lib.hid hW0
  clear hW0 ht
  go_enter Tryd.func8, Tryd.ntmps8
  go_wp2_with fail
  rw [← HW0.out]
  go_loopw [3] (fun i wr => ∃ j : Nat, j ≤ 3 ∧ i = .int .i64 j ∧ Hid (Below W0.heap.size W0 wr)) (fun i _ => 3 - (intOf i).toNat)
  case atStart => exact ⟨0, by omega, rfl, Below.refl _ _⟩
  case round =>
    obtain ⟨j, hj, rfl, HB⟩ := hrel
    by_cases hlt : j < 3
    · obtain ⟨k, hk3, hkr, hkI⟩ : ∃ k : Nat, k < 3 ∧ Hid (k = (j + 1) % 3) ∧ ((j : Int) + 1).tmod 3 = (k : Int) := ⟨(j + 1) % 3, by omega, rfl, by
        have : j = 0 ∨ j = 1 ∨ j = 2 := by omega
        rcases this with rfl | rfl | rfl <;> decide⟩
      have HELD : Hid (∀ w', Below W0.heap.size W0 w' → (w'.cell? ⟨w.heap.size, j * 4, none⟩ = some (.int .u32 (at3 x y z j).n) ∧ w'.cell? ⟨w.heap.size, j * 4 + 1, none⟩ = some (.int .u32 (at3 x y z j).m) ∧ w'.cell? ⟨w.heap.size, j * 4 + 2, none⟩ = some (.int .u64 (at3 x y z j).t) ∧ w'.cell? ⟨w.heap.size, j * 4 + 3, none⟩ = some (.int .u32 (at3 x y z j).q)) ∧ (w'.cell? ⟨w.heap.size, k * 4, none⟩ = some (.int .u32 (at3 x y z k).n) ∧ w'.cell? ⟨w.heap.size, k * 4 + 1, none⟩ = some (.int .u32 (at3 x y z k).m) ∧ w'.cell? ⟨w.heap.size, k * 4 + 2, none⟩ = some (.int .u64 (at3 x y z k).t) ∧ w'.cell? ⟨w.heap.size, k * 4 + 3, none⟩ = some (.int .u32 (at3 x y z k).q))) :=
        fun w' hb => ⟨HBX.out w' hb j hlt, HBX.out w' hb k hk3⟩
      obtain ⟨a, ha⟩ : ∃ a, a = at3 x y z j := ⟨_, rfl⟩
      obtain ⟨b, hb⟩ : ∃ b, b = at3 x y z k := ⟨_, rfl⟩
      have hak : a.ok := by rw [ha]; exact HOK.out j
      have hbk : b.ok := by rw [hb]; exact HOK.out k
      rw [← ha, ← hb] at HELD
      clear ha hb
      have hj0 : (0 : Int) ≤ (j : Int) := by omega
      have hj3 : (j : Int) < 3 := by omega
      have hk0 : (0 : Int) ≤ (k : Int) := by omega
      have hk3' : (k : Int) < 3 := by omega
      have hjw : IntKind.i64.wrap ((j : Int) + 1) = (j : Int) + 1 := by rw [IntKind.wrap_i64]; omega
      have hkw : IntKind.i64.wrap (k : Int) = (k : Int) := by rw [IntKind.wrap_i64]; omega
      have hzr : W0.heap.size ≤ wr.heap.size := HB.out.size
      go_wp2_with fail
      rename_i Q' K' hK
      have HREST : Hid (∀ (A4 A5 : Nat) (W1 : World), (∀ w', Below W1.heap.size W1 w' → (w'.cell? ⟨A4, 0, none⟩ = some (.int .u32 a.n) ∧ w'.cell? ⟨A4, 1, none⟩ = some (.int .u32 a.m) ∧ w'.cell? ⟨A4, 2, none⟩ = some (.int .u64 a.t) ∧ w'.cell? ⟨A4, 3, none⟩ = some (.int .u32 a.q)) ∧ (w'.cell? ⟨A5, 0, none⟩ = some (.int .u32 b.n) ∧ w'.cell? ⟨A5, 1, none⟩ = some (.int .u32 b.m) ∧ w'.cell? ⟨A5, 2, none⟩ = some (.int .u64 b.t) ∧ w'.cell? ⟨A5, 3, none⟩ = some (.int .u32 b.q))) → Below W0.heap.size W0 W1 →
          K' { tmps := #[.agg #[.int .u32 x.n, .int .u32 x.m, .int .u64 x.t, .int .u32 x.q, .int .u32 y.n, .int .u32 y.m, .int .u64 y.t, .int .u32 y.q, .int .u32 z.n, .int .u32 z.m, .int .u64 z.t, .int .u32 z.q], .pointer (some ⟨w.heap.size, 0, none⟩), u2, .int .i64 j, .pointer (some ⟨A4, 0, none⟩), .pointer (some ⟨A5, 0, none⟩), u6, u7, u8, u9, u10, u11, u12, u13, .int .i64 j, .bool true, u16, u17, .int .i64 j, .pointer (some ⟨w.heap.size, j * 4, none⟩), .agg #[.int .u32 a.n, .int .u32 a.m, .int .u64 a.t, .int .u32 a.q], .int .i64 j, .int .i64 ((j : Int) + 1), .int .i64 k, .pointer (some ⟨w.heap.size, k * 4, none⟩), .agg #[.int .u32 b.n, .int .u32 b.m, .int .u64 b.t, .int .u32 b.q], u26, u27, u28, u29, u30, u31, u32, u33, u34, u35, u36, u37, u38, u39, u40, u41, u42, u43, u44, u45, u46, u47, u48, u49, u50, u51, u52, u53, u54, u55, u56, u57, u58, u59, u60, u61, u62, u63, u64, u65, u66, u67, u68, u69, u70, u71, u72, u73, u74, u75, u76, u77, u78, u79, u80, u81, u82, u83, u84, u85, u86, u87, u88, u89, u90, u91, u92, u93, u94, u95, u96, u97, u98, u99, u100, u101, undef, undef, undef, undef, undef, undef, undef, undef, undef, undef, undef, undef, undef, undef, undef, undef, undef, undef, undef, undef, undef, undef, undef], defers := [] } W1) := by
        intro A4 A5 W1 hP hB1
        refine hK _ _ ?_
        clear hK HELD hjw hkw hkI
        have HP := Lib.hid hP
        have HB1 := Lib.hid hB1
        clear hP hB1
        obtain ⟨⟨c0, c1, c2, c3⟩, d0, d1, d2, d3⟩ := HP.out W1 (Below.refl _ _)
        go_wp2_with fail
        refine (ntextT_any a hak _ (HT.out _ (HB0.out.trans (HB1.out.mono HB0.out.size)))).mono ?_
        rintro e w2 ⟨rfl, hb⟩
        have HB2 := Lib.hid hb
        clear hb c0 c1 c2 c3 d0 d1 d2 d3
        obtain ⟨_, d0, d1, d2, d3⟩ := HP.out w2 HB2.out
        go_wp2_with fail
        refine (ntextT_any b hbk _ (HT.out _ (HB0.out.trans ((HB1.out.trans (HB2.out.mono HB1.out.size)).mono HB0.out.size)))).mono ?_
        rintro e w3 ⟨rfl, hb⟩
        have HB3 := Lib.hid (below_on HB2.out hb)
        clear hb d0 d1 d2 d3
        obtain ⟨⟨c0, c1, c2, c3⟩, _⟩ := HP.out w3 HB3.out
        go_wp2_with fail
        refine (nitemT_any a hak _).mono ?_
        rintro e w4 ⟨a4, q4, A4', C4, rfl, hv4, hb⟩
        obtain ⟨X4, hX4⟩ : ∃ X, X = w4.alloc (.cells #[.int .i64 a.it.k, .int .u64 a.it.n, .slice a4 a.it.b.length q4, .string ⟨a.it.s.toArray⟩, .slice A4' a.it.l.length C4] 33) := ⟨_, rfl⟩
        have BX4 : Hid (Below w3.heap.size w3 X4) := by rw [hX4]; exact below_al hb _
        have HV4 : Hid (ItV X4 X4.heap.size (.agg #[.int .i64 a.it.k, .int .u64 a.it.n, .slice a4 a.it.b.length q4, .string ⟨a.it.s.toArray⟩, .slice A4' a.it.l.length C4]) a.it) := by rw [hX4]; exact hv4.new_itV.on (below_al (Below.refl _ _) _)
        have HI4 : Hid (∀ w' (i : Nat), Below X4.heap.size X4 w' → w'.cell? ⟨w4.heap.size, i, none⟩ = (#[.int .i64 a.it.k, .int .u64 a.it.n, .slice a4 a.it.b.length q4, .string ⟨a.it.s.toArray⟩, .slice A4' a.it.l.length C4])[i]?) := fun w' i h =>
          (h.cell (p := ⟨w4.heap.size, i, none⟩) (by rw [hX4]; simp)).trans (by rw [hX4, World.cell?_alloc_mark])
        have HB4 : Hid (Below W1.heap.size W1 X4) := below_on HB3.out BX4.out
        have HX4 := Lib.hid hX4
        obtain ⟨_, d0, d1, d2, d3⟩ := HP.out X4 HB4.out
        rw [hX4] at d0 d1 d2 d3
        clear hb hX4 c0 c1 c2 c3 hv4
        go_wp2_with fail
        rw [← HX4.out]
        refine (nitemT_any b hbk _).mono ?_
        rintro e w5 ⟨a5, q5, A5', C5, rfl, hv5, hb⟩
        obtain ⟨X5, hX5⟩ : ∃ X, X = w5.alloc (.cells #[.int .i64 b.it.k, .int .u64 b.it.n, .slice a5 b.it.b.length q5, .string ⟨b.it.s.toArray⟩, .slice A5' b.it.l.length C5] 33) := ⟨_, rfl⟩
        have BX5 : Hid (Below X4.heap.size X4 X5) := by rw [hX5]; exact below_al hb _
        have HV5 : Hid (ItV X5 X5.heap.size (.agg #[.int .i64 b.it.k, .int .u64 b.it.n, .slice a5 b.it.b.length q5, .string ⟨b.it.s.toArray⟩, .slice A5' b.it.l.length C5]) b.it) := by rw [hX5]; exact hv5.new_itV.on (below_al (Below.refl _ _) _)
        have HI5 : Hid (∀ w' (i : Nat), Below X5.heap.size X5 w' → w'.cell? ⟨w5.heap.size, i, none⟩ = (#[.int .i64 b.it.k, .int .u64 b.it.n, .slice a5 b.it.b.length q5, .string ⟨b.it.s.toArray⟩, .slice A5' b.it.l.length C5])[i]?) := fun w' i h =>
          (h.cell (p := ⟨w5.heap.size, i, none⟩) (by rw [hX5]; simp)).trans (by rw [hX5, World.cell?_alloc_mark])
        have HB5 : Hid (Below W1.heap.size W1 X5) := below_on HB4.out BX5.out
        have HX5 := Lib.hid hX5
        clear hb hX5 d0 d1 d2 d3 hv5
        go_wp2_with fail
        rw [← HX5.out]
        have HELD : Hid (∀ w', Below X5.heap.size X5 w' → (w'.cell? ⟨A4, 0, none⟩ = some (.int .u32 a.n) ∧ w'.cell? ⟨A4, 1, none⟩ = some (.int .u32 a.m) ∧ w'.cell? ⟨A4, 2, none⟩ = some (.int .u64 a.t) ∧ w'.cell? ⟨A4, 3, none⟩ = some (.int .u32 a.q)) ∧ (w'.cell? ⟨A5, 0, none⟩ = some (.int .u32 b.n) ∧ w'.cell? ⟨A5, 1, none⟩ = some (.int .u32 b.m) ∧ w'.cell? ⟨A5, 2, none⟩ = some (.int .u64 b.t) ∧ w'.cell? ⟨A5, 3, none⟩ = some (.int .u32 b.q))) := fun w' h => HP.out w' (below_on HB5.out h)
        have F0 : Below X5.heap.size X5 X5.drew := (Below.refl _ _).drew
        have OAB := Lib.hid (nordT_any a b hak hbk)
        have OBA := Lib.hid (nordT_any b a hbk hak)
        rw [ord_swap b a] at OBA
        obtain ⟨r, hr⟩ : ∃ r, r = a.ord b := ⟨_, rfl⟩
        have HRb := ord_bound a b
        have HZ := @ord_zero a b
        rw [← hr] at OAB OBA HRb HZ
        have hw1 : IntKind.i64.wrap (- -r) = r := by rw [IntKind.wrap_i64]; omega
        have hw2 : IntKind.i64.wrap r = r := by rw [IntKind.wrap_i64]; omega
        obtain ⟨s, hs⟩ : ∃ s, s = a.same b := ⟨_, rfl⟩
        have hsm : a.same b = s := hs.symm
        have HS := Lib.hid hs
        have hrs : (r == 0) = s := by
          rw [hs, Bool.eq_iff_iff, NmT.same_iff, beq_iff_eq]
          exact HZ
        clear hr HRb HZ hs
        go_region_held3 (fun w' => (w'.cell? ⟨A4, 0, none⟩ = some (.int .u32 a.n) ∧ w'.cell? ⟨A4, 1, none⟩ = some (.int .u32 a.m) ∧ w'.cell? ⟨A4, 2, none⟩ = some (.int .u64 a.t) ∧ w'.cell? ⟨A4, 3, none⟩ = some (.int .u32 a.q)) ∧ (w'.cell? ⟨A5, 0, none⟩ = some (.int .u32 b.n) ∧ w'.cell? ⟨A5, 1, none⟩ = some (.int .u32 b.m) ∧ w'.cell? ⟨A5, 2, none⟩ = some (.int .u64 b.t) ∧ w'.cell? ⟨A5, 3, none⟩ = some (.int .u32 b.q)))
          (first | (refine HELD.out _ ?_; with_reducible exact F3) | (refine HELD.out _ ?_; with_reducible exact F2) | (refine HELD.out _ ?_; with_reducible exact F1) | (refine HELD.out _ ?_; with_reducible exact F0))
          (first
            | (go_at_call 14; refine (nmNum_any _ _).mono ?_; rintro e w' ⟨rfl, rfl⟩)
            | (go_at_call 33; (with_reducible refine (OAB.out _).mono ?_); rintro e w8 ⟨rfl, hb8⟩; have F3 : Below X5.heap.size X5 w8 := below_on F2 hb8)
            | (go_at_call 33; (with_reducible refine (OBA.out _).mono ?_); rintro e w7 ⟨rfl, hb7⟩; have F2 : Below X5.heap.size X5 w7 := below_on F1 hb7)
            | (go_at_call 33; (with_reducible refine (OAB.out _).mono ?_); rintro e w6 ⟨rfl, hb6⟩; have F1 : Below X5.heap.size X5 w6 := below_on F0 hb6))
        rename_i hHeld
        clear hHeld F0 F1 F2 OAB OBA hw1 hw2
        have HBR : Hid (∀ w'', Below X5.heap.size X5 w'' → Below W0.heap.size W0 w'') := fun w'' h => HB1.out.trans ((below_on HB5.out h).mono HB1.out.size)
        have HF3 := Lib.hid F3
        by_cases hma : a.may = true
        · have hea : a.er = 0 := if_pos hma
          by_cases hmb : b.may = true
          · have heb : b.er = 0 := if_pos hmb
            have HSE : Hid ((a.txt == b.txt) = s ∧ a.it.same b.it = s) := by
              refine ⟨?_, ?_⟩
              · rw [HS.out, Bool.eq_iff_iff, NmT.same_iff, beq_iff_eq]
                exact ⟨txt_inj hak hbk hma hmb, fun h => by rw [h]⟩
              · rw [HS.out, Bool.eq_iff_iff, NmT.same_iff, It.same_iff]
                exact ⟨it_inj hma hmb, fun h => by rw [h]⟩
            have hst := HSE.out.1
            have HSAME : Hid (∀ w'', Below X5.heap.size X5 w'' → Calls Tryd.prog 13 #[.agg #[.int .i64 a.it.k, .int .u64 a.it.n, .slice a4 a.it.b.length q4, .string ⟨a.it.s.toArray⟩, .slice A4' a.it.l.length C4], .agg #[.int .i64 b.it.k, .int .u64 b.it.n, .slice a5 b.it.b.length q5, .string ⟨b.it.s.toArray⟩, .slice A5' b.it.l.length C5]] w'' fun e w' => e = .returned (.bool s) ∧ Below w''.heap.size w'' w') := fun w'' h => by
              have h1 := refSame_any a.it b.it _ _ w'' (HV4.out.on (BX5.out.trans (h.mono BX5.out.size))) (HV5.out.on h)
              rw [HSE.out.2] at h1
              exact h1
            have HELD2 : Hid (∀ w', Below X5.heap.size X5 w' → ((w'.cell? ⟨A4, 0, none⟩ = some (.int .u32 a.n) ∧ w'.cell? ⟨A4, 1, none⟩ = some (.int .u32 a.m) ∧ w'.cell? ⟨A4, 2, none⟩ = some (.int .u64 a.t) ∧ w'.cell? ⟨A4, 3, none⟩ = some (.int .u32 a.q)) ∧ (w'.cell? ⟨A5, 0, none⟩ = some (.int .u32 b.n) ∧ w'.cell? ⟨A5, 1, none⟩ = some (.int .u32 b.m) ∧ w'.cell? ⟨A5, 2, none⟩ = some (.int .u64 b.t) ∧ w'.cell? ⟨A5, 3, none⟩ = some (.int .u32 b.q))) ∧ ((w'.cell? ⟨w4.heap.size, 0, none⟩ = some (.int .i64 a.it.k) ∧ w'.cell? ⟨w4.heap.size, 1, none⟩ = some (.int .u64 a.it.n) ∧ w'.cell? ⟨w4.heap.size, 2, none⟩ = some (.slice a4 a.it.b.length q4) ∧ w'.cell? ⟨w4.heap.size, 3, none⟩ = some (.string ⟨a.it.s.toArray⟩) ∧ w'.cell? ⟨w4.heap.size, 4, none⟩ = some (.slice A4' a.it.l.length C4)) ∧ (w'.cell? ⟨w5.heap.size, 0, none⟩ = some (.int .i64 b.it.k) ∧ w'.cell? ⟨w5.heap.size, 1, none⟩ = some (.int .u64 b.it.n) ∧ w'.cell? ⟨w5.heap.size, 2, none⟩ = some (.slice a5 b.it.b.length q5) ∧ w'.cell? ⟨w5.heap.size, 3, none⟩ = some (.string ⟨b.it.s.toArray⟩) ∧ w'.cell? ⟨w5.heap.size, 4, none⟩ = some (.slice A5' b.it.l.length C5)))) := fun w' h =>
              ⟨HELD.out w' h, ⟨HI4.out w' 0 (BX5.out.trans (h.mono BX5.out.size)), HI4.out w' 1 (BX5.out.trans (h.mono BX5.out.size)), HI4.out w' 2 (BX5.out.trans (h.mono BX5.out.size)), HI4.out w' 3 (BX5.out.trans (h.mono BX5.out.size)), HI4.out w' 4 (BX5.out.trans (h.mono BX5.out.size))⟩, HI5.out w' 0 h, HI5.out w' 1 h, HI5.out w' 2 h, HI5.out w' 3 h, HI5.out w' 4 h⟩
            have F4 := F3.drew
            go_wp2_with fail
            clear F3
            go_region_held3 (fun w' => ((w'.cell? ⟨A4, 0, none⟩ = some (.int .u32 a.n) ∧ w'.cell? ⟨A4, 1, none⟩ = some (.int .u32 a.m) ∧ w'.cell? ⟨A4, 2, none⟩ = some (.int .u64 a.t) ∧ w'.cell? ⟨A4, 3, none⟩ = some (.int .u32 a.q)) ∧ (w'.cell? ⟨A5, 0, none⟩ = some (.int .u32 b.n) ∧ w'.cell? ⟨A5, 1, none⟩ = some (.int .u32 b.m) ∧ w'.cell? ⟨A5, 2, none⟩ = some (.int .u64 b.t) ∧ w'.cell? ⟨A5, 3, none⟩ = some (.int .u32 b.q))) ∧ ((w'.cell? ⟨w4.heap.size, 0, none⟩ = some (.int .i64 a.it.k) ∧ w'.cell? ⟨w4.heap.size, 1, none⟩ = some (.int .u64 a.it.n) ∧ w'.cell? ⟨w4.heap.size, 2, none⟩ = some (.slice a4 a.it.b.length q4) ∧ w'.cell? ⟨w4.heap.size, 3, none⟩ = some (.string ⟨a.it.s.toArray⟩) ∧ w'.cell? ⟨w4.heap.size, 4, none⟩ = some (.slice A4' a.it.l.length C4)) ∧ (w'.cell? ⟨w5.heap.size, 0, none⟩ = some (.int .i64 b.it.k) ∧ w'.cell? ⟨w5.heap.size, 1, none⟩ = some (.int .u64 b.it.n) ∧ w'.cell? ⟨w5.heap.size, 2, none⟩ = some (.slice a5 b.it.b.length q5) ∧ w'.cell? ⟨w5.heap.size, 3, none⟩ = some (.string ⟨b.it.s.toArray⟩) ∧ w'.cell? ⟨w5.heap.size, 4, none⟩ = some (.slice A5' b.it.l.length C5))))
              (first | (refine HELD2.out _ ?_; with_reducible exact F5) | (refine HELD2.out _ ?_; with_reducible exact F4))
              (first
                | (go_at_call 14; refine (nmNum_any _ _).mono ?_; rintro e w' ⟨rfl, rfl⟩)
                | (go_at_call 13; (with_reducible refine (HSAME.out _ F4).mono ?_); rintro e w9 ⟨rfl, hb9⟩; have F5 : Below X5.heap.size X5 w9 := below_on F4 hb9))
            rename_i hHeld
            clear hHeld
            have HF5 := Lib.hid F5
            clear F4 F5
            go_wp2_with fail
            go_roundw
            case rel => exact ⟨j + 1, by omega, by go_num, HBR.out _ HF5.out⟩
            case measure => simp [intOf]; omega
          · have heb : b.er = 2 := if_neg hmb
            clear F3
            go_wp2_with fail
            go_quiet ((go_at_call 14; exact Calls.quiet_of_same (nmNum_any _ _)))
            go_wp2_with fail
            go_roundw
            case rel => exact ⟨j + 1, by omega, by go_num, HBR.out _ (below_dr HF3.out _)⟩
            case measure => simp [intOf]; omega
        · have hea : a.er = 2 := if_neg hma
          by_cases hmb : b.may = true
          · have heb : b.er = 0 := if_pos hmb
            clear F3
            go_wp2_with fail
            go_quiet ((go_at_call 14; exact Calls.quiet_of_same (nmNum_any _ _)))
            go_wp2_with fail
            go_roundw
            case rel => exact ⟨j + 1, by omega, by go_num, HBR.out _ (below_dr HF3.out _)⟩
            case measure => simp [intOf]; omega
          · have heb : b.er = 2 := if_neg hmb
            clear F3
            go_wp2_with fail
            go_quiet ((go_at_call 14; exact Calls.quiet_of_same (nmNum_any _ _)))
            go_wp2_with fail
            go_roundw
            case rel => exact ⟨j + 1, by omega, by go_num, HBR.out _ (below_dr HF3.out _)⟩
            case measure => simp [intOf]; omega
      clear hK
      go_region_held3 (fun w' => (w'.cell? ⟨w.heap.size, j * 4, none⟩ = some (.int .u32 a.n) ∧ w'.cell? ⟨w.heap.size, j * 4 + 1, none⟩ = some (.int .u32 a.m) ∧ w'.cell? ⟨w.heap.size, j * 4 + 2, none⟩ = some (.int .u64 a.t) ∧ w'.cell? ⟨w.heap.size, j * 4 + 3, none⟩ = some (.int .u32 a.q)) ∧ (w'.cell? ⟨w.heap.size, k * 4, none⟩ = some (.int .u32 b.n) ∧ w'.cell? ⟨w.heap.size, k * 4 + 1, none⟩ = some (.int .u32 b.m) ∧ w'.cell? ⟨w.heap.size, k * 4 + 2, none⟩ = some (.int .u64 b.t) ∧ w'.cell? ⟨w.heap.size, k * 4 + 3, none⟩ = some (.int .u32 b.q)))
        (first | (refine HELD.out _ ?_; repeat (first | with_reducible exact HB.out | refine Below.drew ?_ | refine below_al ?_ _ | refine Below.setCell ?_ (by first | exact hzr | exact Nat.le_succ_of_le hzr | (simp; omega)) _)))
        (first | fail)
      · rename_i hHeld
        clear hHeld
        exact HREST.out _ _ _ (pair_new wr _ a b) (below_al (below_al HB.out _) _).drew
      · rename_i hHeld
        clear hHeld
        exact HREST.out _ _ _ (fun w' h => (pair_new wr _ b a w' h).symm) (below_al (below_al HB.out _) _).drew
    · obtain rfl : j = 3 := by omega
      have HC : Hid (∀ w', Below W0.heap.size W0 w' → (w'.cell? ⟨w.heap.size, 0, none⟩ = some (.int .u32 x.n) ∧ w'.cell? ⟨w.heap.size, 1, none⟩ = some (.int .u32 x.m) ∧ w'.cell? ⟨w.heap.size, 2, none⟩ = some (.int .u64 x.t) ∧ w'.cell? ⟨w.heap.size, 3, none⟩ = some (.int .u32 x.q)) ∧ (w'.cell? ⟨w.heap.size, 4, none⟩ = some (.int .u32 y.n) ∧ w'.cell? ⟨w.heap.size, 5, none⟩ = some (.int .u32 y.m) ∧ w'.cell? ⟨w.heap.size, 6, none⟩ = some (.int .u64 y.t) ∧ w'.cell? ⟨w.heap.size, 7, none⟩ = some (.int .u32 y.q)) ∧ (w'.cell? ⟨w.heap.size, 8, none⟩ = some (.int .u32 z.n) ∧ w'.cell? ⟨w.heap.size, 9, none⟩ = some (.int .u32 z.m) ∧ w'.cell? ⟨w.heap.size, 10, none⟩ = some (.int .u64 z.t) ∧ w'.cell? ⟨w.heap.size, 11, none⟩ = some (.int .u32 z.q))) := fun w' h => by
        have h0 := HBX.out w' h 0 (by decide)
        have h1 := HBX.out w' h 1 (by decide)
        have h2 := HBX.out w' h 2 (by decide)
        simp [at3] at h0 h1 h2
        exact ⟨h0, h1, h2⟩
      obtain ⟨⟨x0, x1, x2, x3⟩, ⟨y0, y1, y2, y3⟩, ⟨z0, z1, z2, z3⟩⟩ := HC.out wr HB.out
      have HTR := Lib.hid (@ord_trans x y z)
      obtain ⟨r1, hr1⟩ : ∃ r, r = x.ord y := ⟨_, rfl⟩
      obtain ⟨r2, hr2⟩ : ∃ r, r = y.ord z := ⟨_, rfl⟩
      obtain ⟨r3, hr3⟩ : ∃ r, r = x.ord z := ⟨_, rfl⟩
      have O1 := Lib.hid (nordT_any x y hx hy)
      have O2 := Lib.hid (nordT_any y z hy hz)
      have O3 := Lib.hid (nordT_any x z hx hz)
      rw [← hr1, ← hr2] at HTR
      rw [← hr3] at HTR O3
      rw [← hr1] at O1
      rw [← hr2] at O2
      clear hr1 hr2 hr3
      go_wp2_with fail
      refine (O1.out _).mono ?_
      rintro e w1 ⟨rfl, hb⟩
      have HB1 := Lib.hid (below_on HB.out hb)
      clear hb x0 x1 x2 x3 y0 y1 y2 y3 z0 z1 z2 z3
      obtain ⟨⟨x0, x1, x2, x3⟩, ⟨y0, y1, y2, y3⟩, ⟨z0, z1, z2, z3⟩⟩ := HC.out w1 HB1.out
      by_cases h1 : r1 < 0
      · go_wp2_with fail
        refine (O2.out _).mono ?_
        rintro e w2 ⟨rfl, hb⟩
        have HB2 := Lib.hid (below_on HB1.out hb)
        clear hb x0 x1 x2 x3 y0 y1 y2 y3 z0 z1 z2 z3
        obtain ⟨⟨x0, x1, x2, x3⟩, ⟨y0, y1, y2, y3⟩, ⟨z0, z1, z2, z3⟩⟩ := HC.out w2 HB2.out
        by_cases h2 : r2 < 0
        · have h3 := HTR.out h1 h2
          have h3' : ¬ (0 : Int) ≤ r3 := by omega
          go_wp2_with fail
          refine (O3.out _).mono ?_
          rintro e w3 ⟨rfl, hb⟩
          have HB3 := Lib.hid (below_on HB2.out hb)
          clear hb x0 x1 x2 x3 y0 y1 y2 y3 z0 z1 z2 z3
          go_wp2_with fail
          refine (nmWorks_any _ (HT.out _ (HB0.out.trans (HB3.out.mono HB0.out.size)))).mono ?_
          rintro e w4 ⟨rfl, hb⟩
          have HB4 := Lib.hid (below_on HB3.out hb)
          clear hb
          go_wp2
          go_ret
          exact ⟨rfl, HB0.out.trans (HB4.out.mono HB0.out.size)⟩
        · clear x0 x1 x2 x3 y0 y1 y2 y3 z0 z1 z2 z3
          go_wp2_with fail
          refine (nmWorks_any _ (HT.out _ (HB0.out.trans (HB2.out.mono HB0.out.size)))).mono ?_
          rintro e w4 ⟨rfl, hb⟩
          have HB4 := Lib.hid (below_on HB2.out hb)
          clear hb
          go_wp2
          go_ret
          exact ⟨rfl, HB0.out.trans (HB4.out.mono HB0.out.size)⟩
      · clear x0 x1 x2 x3 y0 y1 y2 y3 z0 z1 z2 z3
        go_wp2_with fail
        refine (nmWorks_any _ (HT.out _ (HB0.out.trans (HB1.out.mono HB0.out.size)))).mono ?_
        rintro e w4 ⟨rfl, hb⟩
        have HB4 := Lib.hid (below_on HB1.out hb)
        clear hb
        go_wp2
        go_ret
        exact ⟨rfl, HB0.out.trans (HB4.out.mono HB0.out.size)⟩

end Go.Proofs.YtjbdpkjkeelgfaaDoor
