/- Joined texts. -/
import Derived.Test.YtlmdbeccfoncpaaGreatDoorZMd
import Derived.Test.YtlmdbeccfoncpaaGreatDoorZKs
namespace Go.Proofs.YtlmdbeccfoncpaaGreatDoor
open Go Go.RowKit Go.Shelf
set_option linter.unusedSimpArgs false
set_option linter.unusedVariables false
set_option maxRecDepth 100000

attribute [local go_sem] Oper.semAt_some

/-- The flags. -/
def flg (k : Nat) : Int := if k = 0 then 2 else 32

set_option maxHeartbeats 2000000 in
theorem both_goes (S : Nat → Prop) (w : World) (hSw : ∀ b, S b → b < w.heap.size) :
    GoesO Tryz.prog 72 #[] (fun k => #[.int .u32 (flg k)]) S 2 w := by
  intro L J Jx W hW hJ hJx hY h0
  have hWS := hW.size
  obtain ⟨fn, tmps, assign, body, hy, hR⟩ := hY 0 W (by decide) h0 (Nat.le_refl _)
  have HY := Lib.hid hY
  simp only [flg, if_true] at hy
  clear hY
  refine (callsIn_wide (n := 10)).1 (callsIn_of_wp Tryz.func72 rfl trivial ?_ rfl)
  simp only [Tryz.ntmps72, List.size_toArray, List.length_cons, List.length_nil, Nat.reduceAdd, Nat.reduceSub, Array.replicate_succ, Array.replicate_zero, List.push_toArray, List.append_toArray, List.nil_append, List.cons_append]
  gi_wp2
  refine hR.mono ?_
  rintro e W3 (⟨rfl, hJ3, hz3, hk3⟩ | ⟨rfl, hJx3, _, _⟩)
  · obtain ⟨fn2, tmps2, assign2, body2, hy2, hR2⟩ := HY.out 1 W3 (by decide) hJ3 hz3
    clear hy hR
    simp only [flg, Nat.one_ne_zero, if_false] at hy2
    gi_wp2
    refine hR2.mono ?_
    rintro e W4 (⟨rfl, hJ4, hz4, hk4⟩ | ⟨rfl, hJx4, _, _⟩)
    · gi_wp2
      go_end0
      exact ⟨⟨_, rfl⟩, .inl hJ4⟩
    · gi_wp2
      go_end0
      exact ⟨⟨_, rfl⟩, .inr ⟨1, by decide, hJx4⟩⟩
  · clear hy
    gi_wp2
    refine ⟨(fun f h => nomatch h), ?_⟩
    gi_wp2
    go_end0
    exact ⟨⟨_, rfl⟩, .inr ⟨0, by decide, hJx3⟩⟩

theorem both_any (w : World) : Calls Tryz.prog 43 #[] w fun e w' => e = .returned (.func (.func 72) #[] #[]) ∧ w' = w := by
  go_enter Tryz.func43, Tryz.ntmps43
  go_wp2
  go_ret
  exact ⟨rfl, rfl⟩

end Go.Proofs.YtlmdbeccfoncpaaGreatDoor

namespace Go.Proofs.YtlmdbeccfoncpaaGreatDoor
open Go Go.RowKit Go.Shelf
set_option linter.unusedSimpArgs false
set_option linter.unusedVariables false
set_option maxRecDepth 100000

attribute [local go_sem] Oper.semAt_some

/-- Has it a flag? -/
def hasB (f φ : Nat) : Bool := (decide (φ = 2) || decide (φ = 32)) && decide (f &&& φ ≠ 0)

set_option maxHeartbeats 4000000 in
theorem has_any (p : Pm) (φ : Nat) (hf : p.f < 4294967296) (hφ : φ < 4294967296) (w : World) : Calls Tryz.prog 16 #[.agg #[.int .u32 p.f, .int .i64 p.s, .int .u32 p.tn, .int .u32 p.tm, .int .u32 p.sn, .int .u32 p.sm, .int .u32 p.rn, .int .u32 p.rm, .int .u64 p.t, .int .u32 p.q, .int .u64 p.l], .int .u32 φ] w fun e w' => e = .returned (.bool (hasB p.f φ)) ∧ Below w.heap.size w w' := by
  obtain ⟨W, hW⟩ : ∃ W, W = ((w.alloc (.cells #[.int .u32 p.f, .int .i64 p.s, .int .u32 p.tn, .int .u32 p.tm, .int .u32 p.sn, .int .u32 p.sm, .int .u32 p.rn, .int .u32 p.rm, .int .u64 p.t, .int .u32 p.q, .int .u64 p.l] 28)).alloc (.cells #[.int .u32 φ] 22)).alloc (.cells #[.bool false] 4) := ⟨_, rfl⟩
  have hs : W.heap.size = w.heap.size + 3 := by rw [hW]; simp
  have HB0 : Hid (Below w.heap.size w W) := by rw [hW]; exact below_al (below_al (below_al (Below.refl _ _) _) _) _
  have HX : Hid (∀ w', Below (w.heap.size + 1 + 1) W w' → (w'.cell? ⟨w.heap.size, 0, none⟩ = some (.int .u32 p.f) ∧ w'.cell? ⟨w.heap.size, 1, none⟩ = some (.int .i64 p.s) ∧ w'.cell? ⟨w.heap.size, 2, none⟩ = some (.int .u32 p.tn) ∧ w'.cell? ⟨w.heap.size, 3, none⟩ = some (.int .u32 p.tm) ∧ w'.cell? ⟨w.heap.size, 4, none⟩ = some (.int .u32 p.sn) ∧ w'.cell? ⟨w.heap.size, 5, none⟩ = some (.int .u32 p.sm) ∧ w'.cell? ⟨w.heap.size, 6, none⟩ = some (.int .u32 p.rn) ∧ w'.cell? ⟨w.heap.size, 7, none⟩ = some (.int .u32 p.rm) ∧ w'.cell? ⟨w.heap.size, 8, none⟩ = some (.int .u64 p.t) ∧ w'.cell? ⟨w.heap.size, 9, none⟩ = some (.int .u32 p.q) ∧ w'.cell? ⟨w.heap.size, 10, none⟩ = some (.int .u64 p.l)) ∧ w'.cell? ⟨w.heap.size + 1, 0, none⟩ = some (.int .u32 φ)) := fun w' h => by
    have hz : ((w.alloc (.cells #[.int .u32 p.f, .int .i64 p.s, .int .u32 p.tn, .int .u32 p.tm, .int .u32 p.sn, .int .u32 p.sm, .int .u32 p.rn, .int .u32 p.rm, .int .u64 p.t, .int .u32 p.q, .int .u64 p.l] 28)).alloc (.cells #[.int .u32 φ] 22)).heap.size = w.heap.size + 1 + 1 := by simp
    have h1 : Below (w.heap.size + 1 + 1) ((w.alloc (.cells #[.int .u32 p.f, .int .i64 p.s, .int .u32 p.tn, .int .u32 p.tm, .int .u32 p.sn, .int .u32 p.sm, .int .u32 p.rn, .int .u32 p.rm, .int .u64 p.t, .int .u32 p.q, .int .u64 p.l] 28)).alloc (.cells #[.int .u32 φ] 22)) w' := by
      rw [hW] at h
      have h9 := below_al (Below.refl _ ((w.alloc (.cells #[.int .u32 p.f, .int .i64 p.s, .int .u32 p.tn, .int .u32 p.tm, .int .u32 p.sn, .int .u32 p.sm, .int .u32 p.rn, .int .u32 p.rm, .int .u64 p.t, .int .u32 p.q, .int .u64 p.l] 28)).alloc (.cells #[.int .u32 φ] 22))) (.cells #[.bool false] 4)
      rw [hz] at h9
      exact h9.trans h
    refine ⟨pbox ((below_al (Below.refl _ _) _).trans (h1.mono (by simp))), ?_⟩
    have h2 := box_at (w := w.alloc (.cells #[.int .u32 p.f, .int .i64 p.s, .int .u32 p.tn, .int .u32 p.tm, .int .u32 p.sn, .int .u32 p.sm, .int .u32 p.rn, .int .u32 p.rm, .int .u64 p.t, .int .u32 p.q, .int .u64 p.l] 28)) (cs := #[.int .u32 φ]) (t := 22) (w' := w') (by rw [hz]; exact h1) 0
    simpa using h2
  have HR : Hid (Boxed W (w.heap.size + 1 + 1) 4 (.bool false)) := by
    have h := Boxed.new ((w.alloc (.cells #[.int .u32 p.f, .int .i64 p.s, .int .u32 p.tn, .int .u32 p.tm, .int .u32 p.sn, .int .u32 p.sm, .int .u32 p.rn, .int .u32 p.rm, .int .u64 p.t, .int .u32 p.q, .int .u64 p.l] 28)).alloc (.cells #[.int .u32 φ] 22)) 4 (.bool false)
    rw [← hW] at h
    simpa [Hid] using h
  have HW := Lib.hid hW
  clear hW
  refine calls_of_marks Tryz.func16 rfl ?_
  simp only [Tryz.ntmps16, List.size_toArray, List.length_cons, List.length_nil, Nat.reduceAdd, Nat.reduceSub, Array.replicate_succ, Array.replicate_zero, List.push_toArray, List.append_toArray, List.nil_append, List.cons_append]
  go_wp2_with fail
  rw [← HW.out]
  refine (both_any W).mono ?_
  rintro e w2 ⟨rfl, h2⟩
  rw [h2]
  clear h2 w2
  go_wp2_with fail
  have hIO : OwnFrom W.heap.size (fun (k : Nat) X => ((1 ≤ k → φ ≠ 2) ∧ (2 ≤ k → φ ≠ 32)) ∧ Boxed X (w.heap.size + 1 + 1) 4 (.bool false) ∧ Below w.heap.size w X ∧ Below (w.heap.size + 1 + 1) W X) :=
    OwnFrom.and (ownFrom_pure _ (fun k => (1 ≤ k → φ ≠ 2) ∧ (2 ≤ k → φ ≠ 32))) (OwnFrom.and ((boxed_own _ _ _).from _) (OwnFrom.and (ownFrom_below (Nat.le_refl _) (by omega)) (ownFrom_below (by omega) (by omega))))
  have hIxO : ∀ c : Code, OwnFrom W.heap.size (fun (k : Nat) X => c = .ret ∧ Boxed X (w.heap.size + 1 + 1) 4 (.bool (hasB p.f φ)) ∧ Below w.heap.size w X) := fun c =>
    OwnFrom.and (ownFrom_pure _ (fun _ => c = .ret)) (OwnFrom.and ((boxed_own _ _ _).from _) (ownFrom_below (Nat.le_refl _) (by omega)))
  refine wp_rangeGoesO_at (gf := 72) (lb := #[]) 5 (fun k => .int .u32 (flg k)) rfl (enters_of Tryz.func72 (by kernel_rfl) rfl)
    (both_goes (fun _ => False) W (fun b hb => hb.elim)) (fun b hb => hb.elim) _ _ hIO hIxO ⟨⟨fun h => by omega, fun h => by omega⟩, HR.out, HB0.out, Below.refl _ _⟩ ?assign ?body ?done ?stop
  case assign =>
    intro l k X K hK
    simp only [List.setIfInBounds_toArray, List.set_cons_succ, List.set_cons_zero] at hK ⊢
    have HK := Lib.hid hK
    clear hK
    gi_wp2
    exact HK.out
  case body =>
    rintro l k X hk hl _ ⟨hkk, hbx, hbi, hbw⟩
    obtain ⟨⟨x0, x1, x2, x3, x4, x5, x6, x7, x8, x9, x10⟩, y0⟩ := HX.out X hbw
    have HK := Lib.hid hkk
    have HBX := Lib.hid hbx
    have HBI := Lib.hid hbi
    have HBW := Lib.hid hbw
    have z0 := hbx.cell
    have zf := hbx.frozen
    clear hkk hbx hbi hbw hIO hIxO
    simp only [List.setIfInBounds_toArray, List.set_cons_succ, List.set_cons_zero]
    have hk2 : k = 0 ∨ k = 1 := by omega
    rcases hk2 with rfl | rfl
    · rw [show flg 0 = 2 from rfl]
      have h0 : hasB p.f φ = (decide (φ = 2) && decide (p.f &&& φ ≠ 0)) ∨ φ ≠ 2 := by
        by_cases h : φ = 2
        · exact .inl (by rw [h]; simp [hasB])
        · exact .inr h
      by_cases hk : φ = 2
      · subst hk
        have HV := Lib.hid (show hasB p.f 2 = decide (p.f &&& 2 ≠ 0) by simp [hasB])
        have hbt : bits .and .u32 (p.f : Int) 2 = ((p.f &&& 2 : Nat) : Int) := u32_and_nat p.f 2 hf (by omega)
        have HN : Hid ((((p.f &&& 2 : Nat) : Int) != 0) = decide (p.f &&& 2 ≠ 0)) := by
          by_cases h : p.f &&& 2 = 0
          · rw [Hid, h]; rfl
          · rw [Hid, decide_eq_true h]; simpa using h
        have HM : Hid ((p.f &&& 2 : Nat) ≤ 2) := Nat.and_le_right
        generalize ((p.f &&& 2 : Nat) : Int) = r at *
        clear h0
        gi_wp2
        refine ⟨⟨(KeepsOthers.setCell _ _ _).from _, fun b hb => ?_⟩, rfl, ?_, HBI.out.setCell (p := ⟨w.heap.size + 1 + 1, 0, none⟩) (by simp; omega) _⟩
        · rcases hb with hb | hb
          · exact hb.elim
          · exact Below.heap_setCell _ _ _ b (by have := hb.1; show b ≠ w.heap.size + 1 + 1; omega)
        · rw [HV.out, ← HN.out]
          exact HBX.out.set _
      · have hne : (φ == 2) = false := by simpa using hk
        have hne2 : ((2 : Int) == (φ : Int)) = false := by simp; omega
        clear h0
        gi_wp2
        exact ⟨KeepsFrom.refl _ _, fun _ _ => rfl, ⟨fun _ => hk, fun h => by omega⟩, HBX.out, HBI.out, HBW.out⟩
    · rw [show flg 1 = 32 from rfl]
      have h0 : hasB p.f φ = (decide (φ = 32) && decide (p.f &&& φ ≠ 0)) ∨ φ ≠ 32 := by
        by_cases h : φ = 32
        · exact .inl (by rw [h]; simp [hasB])
        · exact .inr h
      by_cases hk : φ = 32
      · subst hk
        have HV := Lib.hid (show hasB p.f 32 = decide (p.f &&& 32 ≠ 0) by simp [hasB])
        have hbt : bits .and .u32 (p.f : Int) 32 = ((p.f &&& 32 : Nat) : Int) := u32_and_nat p.f 32 hf (by omega)
        have HN : Hid ((((p.f &&& 32 : Nat) : Int) != 0) = decide (p.f &&& 32 ≠ 0)) := by
          by_cases h : p.f &&& 32 = 0
          · rw [Hid, h]; rfl
          · rw [Hid, decide_eq_true h]; simpa using h
        have HM : Hid ((p.f &&& 32 : Nat) ≤ 32) := Nat.and_le_right
        generalize ((p.f &&& 32 : Nat) : Int) = r at *
        clear h0
        gi_wp2
        refine ⟨⟨(KeepsOthers.setCell _ _ _).from _, fun b hb => ?_⟩, rfl, ?_, HBI.out.setCell (p := ⟨w.heap.size + 1 + 1, 0, none⟩) (by simp; omega) _⟩
        · rcases hb with hb | hb
          · exact hb.elim
          · exact Below.heap_setCell _ _ _ b (by have := hb.1; show b ≠ w.heap.size + 1 + 1; omega)
        · rw [HV.out, ← HN.out]
          exact HBX.out.set _
      · have hne : (φ == 32) = false := by simpa using hk
        have hne2 : ((32 : Int) == (φ : Int)) = false := by simp; omega
        clear h0
        gi_wp2
        exact ⟨KeepsFrom.refl _ _, fun _ _ => rfl, ⟨fun _ => HK.out.1 (by omega), fun _ => hk⟩, HBX.out, HBI.out, HBW.out⟩
  case done =>
    rintro D X hD ⟨⟨h1, h2⟩, hbx, hbi, hbw⟩ hK
    have HV : Hid (hasB p.f φ = false) := by
      have := h1 (by omega)
      have := h2 (by omega)
      rw [Hid]
      simp [hasB, *]
    have HBX := Lib.hid hbx
    have HBI := Lib.hid hbi
    have z0 := hbx.cell
    have zf := hbx.frozen
    have hne : D ≠ w.heap.size + 1 + 1 := by omega
    have HK2 : Hid ((X.setCell ⟨w.heap.size + 1 + 1, 0, none⟩ (.bool false)).heap[D]? = some (.deferred (some []))) := (Below.heap_setCell _ _ _ D hne).trans hK
    clear hbx hbi hbw hIO hIxO hK h1 h2
    go_wp2
    have hb3 : Boxed ((X.setCell ⟨w.heap.size + 1 + 1, 0, none⟩ (.bool false)).putObj D (.deferred none)) (w.heap.size + 1 + 1) 4 (.bool false) :=
      boxed_below (B := w.heap.size + 3) (HBX.out.set _) ((Below.refl _ _).grown (grownBy_putObj' _ _ _) (by simp; have := HBI.out.size; have := HBX.out; have := (Array.getElem?_eq_some_iff.1 this).1; omega) (fun r e => by cases e; omega)) (by omega)
    refine marks_one (v := .bool false) HK2.out (by simp [results, Tryz.results16, go_sem, hb3.cell]) ⟨by rw [HV.out], ?_⟩
    exact (HBI.out.setCell (p := ⟨w.heap.size + 1 + 1, 0, none⟩) (by simp; omega) _).grown (grownBy_putObj' _ _ _) (by simp; exact HBI.out.size) (fun r e => by cases e; omega)
  case stop =>
    rintro D c k X hD hk ⟨rfl, hbx, hbi⟩ hK
    have HBX := Lib.hid hbx
    have HBI := Lib.hid hbi
    have HK2 := Lib.hid hK
    clear hbx hbi hIO hIxO hK
    go_wp2
    have hb3 : Boxed (X.putObj D (.deferred none)) (w.heap.size + 1 + 1) 4 (.bool (hasB p.f φ)) :=
      boxed_below (B := w.heap.size + 3) HBX.out ((Below.refl _ _).grown (grownBy_putObj' _ _ _) (by have := (Array.getElem?_eq_some_iff.1 HBX.out).1; omega) (fun r e => by cases e; omega)) (by omega)
    refine marks_one (v := .bool (hasB p.f φ)) HK2.out (by simp [results, Tryz.results16, go_sem, hb3.cell]) ⟨rfl, ?_⟩
    exact HBI.out.grown (grownBy_putObj' _ _ _) HBI.out.size (fun r e => by cases e; omega)

end Go.Proofs.YtlmdbeccfoncpaaGreatDoor

namespace Go.Proofs.YtlmdbeccfoncpaaGreatDoor
open Go Go.RowKit Go.Shelf
set_option linter.unusedSimpArgs false
set_option linter.unusedVariables false
set_option maxRecDepth 100000

attribute [local go_sem] run_store_func

def set4 (w : World) (g : Nat) (v0 v1 v2 v3 : Value) : World :=
  (((w.setCell ⟨g, 0, none⟩ v0).setCell ⟨g, 1, none⟩ v1).setCell ⟨g, 2, none⟩ v2).setCell ⟨g, 3, none⟩ v3

theorem set4_on {B g : Nat} {w0 w : World} (h : Below B w0 w) (hB : B ≤ g) (v0 v1 v2 v3 : Value) : Below B w0 (set4 w g v0 v1 v2 v3) := by
  unfold set4
  exact (((h.setCell hB v0).setCell hB v1).setCell hB v2).setCell hB v3

set_option maxHeartbeats 8000000 in
theorem name_any6 (p : Pm) (hp : p.ok) (w : World) : Calls Tryz.prog 13 #[.agg #[.int .u32 p.f, .int .i64 p.s, .int .u32 p.tn, .int .u32 p.tm, .int .u32 p.sn, .int .u32 p.sm, .int .u32 p.rn, .int .u32 p.rm, .int .u64 p.t, .int .u32 p.q, .int .u64 p.l]] w (NameP p w) := by
  have HY : Hid (∀ (g : Nat) (w1 : World), w1.cell? ⟨g, 0, none⟩ = some (.func (.func 30) #[] #[]) → Calls Tryz.prog 26 #[.agg #[.int .u32 p.f, .int .i64 p.s, .int .u32 p.tn, .int .u32 p.tm, .int .u32 p.sn, .int .u32 p.sm, .int .u32 p.rn, .int .u32 p.rm, .int .u64 p.t, .int .u32 p.q, .int .u64 p.l], .slice (some ⟨g, 0, none⟩) 1 1] w1 fun e w' => e = .returned (.bool (nmOk p)) ∧ Below w1.heap.size w1 w') := fun g w1 h => yesName_any p hp g w1 h
  have HPN := Lib.hid (fun w => pname_any p w)
  have HC : Hid (∀ w e w', NameP p w e w' ↔ Below w.heap.size w w' ∧ e = if nmOk p = true then .returned (.tuple #[.agg #[.int .u32 p.sn, .int .u32 p.sm, .int .u64 p.t, .int .u32 p.q], .int .i64 0]) else .returned (.tuple #[.agg #[.int .u32 0, .int .u32 0, .int .u64 0, .int .u32 0], .int .i64 2])) := fun w e w' => Iff.rfl
  generalize NameP p = R at *
  generalize nmOk p = q at *
  go_enter Tryz.func13, Tryz.ntmps13
  go_wp2_with fail
  refine wp_scope_on 0 rfl ?_
  go_wp2_with fail
  obtain ⟨W, hW⟩ : ∃ W, W = (((w.alloc (.cells #[.int .u32 p.f, .int .i64 p.s, .int .u32 p.tn, .int .u32 p.tm, .int .u32 p.sn, .int .u32 p.sm, .int .u32 p.rn, .int .u32 p.rm, .int .u64 p.t, .int .u32 p.q, .int .u64 p.l] 28)).alloc (.cells #[.int .u32 0, .int .u32 0, .int .u64 0, .int .u32 0] 42)).alloc (.cells #[.func (.func 30) #[] #[]] 62)) := ⟨_, rfl⟩
  have HB0 : Hid (Below w.heap.size w W) := by rw [hW]; exact below_al (below_al (below_al (Below.refl _ _) _) _) _
  have hz : ((w.alloc (.cells #[.int .u32 p.f, .int .i64 p.s, .int .u32 p.tn, .int .u32 p.tm, .int .u32 p.sn, .int .u32 p.sm, .int .u32 p.rn, .int .u32 p.rm, .int .u64 p.t, .int .u32 p.q, .int .u64 p.l] 28)).alloc (.cells #[.int .u32 0, .int .u32 0, .int .u64 0, .int .u32 0] 42)).heap.size = w.heap.size + 1 + 1 := by simp
  have HF0 : Hid (W.cell? ⟨w.heap.size + 1 + 1, 0, none⟩ = some (.func (.func 30) #[] #[])) := by
    have h := box_at (w := ((w.alloc (.cells #[.int .u32 p.f, .int .i64 p.s, .int .u32 p.tn, .int .u32 p.tm, .int .u32 p.sn, .int .u32 p.sm, .int .u32 p.rn, .int .u32 p.rm, .int .u64 p.t, .int .u32 p.q, .int .u64 p.l] 28)).alloc (.cells #[.int .u32 0, .int .u32 0, .int .u64 0, .int .u32 0] 42))) (cs := #[.func (.func 30) #[] #[]]) (t := 62) (Below.refl _ _) 0
    rw [← hW, hz] at h
    simpa [Hid] using h
  have HXp : Hid (∀ w', Below W.heap.size W w' → (w'.cell? ⟨w.heap.size, 0, none⟩ = some (.int .u32 p.f) ∧ w'.cell? ⟨w.heap.size, 1, none⟩ = some (.int .i64 p.s) ∧ w'.cell? ⟨w.heap.size, 2, none⟩ = some (.int .u32 p.tn) ∧ w'.cell? ⟨w.heap.size, 3, none⟩ = some (.int .u32 p.tm) ∧ w'.cell? ⟨w.heap.size, 4, none⟩ = some (.int .u32 p.sn) ∧ w'.cell? ⟨w.heap.size, 5, none⟩ = some (.int .u32 p.sm) ∧ w'.cell? ⟨w.heap.size, 6, none⟩ = some (.int .u32 p.rn) ∧ w'.cell? ⟨w.heap.size, 7, none⟩ = some (.int .u32 p.rm) ∧ w'.cell? ⟨w.heap.size, 8, none⟩ = some (.int .u64 p.t) ∧ w'.cell? ⟨w.heap.size, 9, none⟩ = some (.int .u32 p.q) ∧ w'.cell? ⟨w.heap.size, 10, none⟩ = some (.int .u64 p.l)) ∧ (w'.cell? ⟨w.heap.size + 1, 0, none⟩ = some (.int .u32 0) ∧ w'.cell? ⟨w.heap.size + 1, 1, none⟩ = some (.int .u32 0) ∧ w'.cell? ⟨w.heap.size + 1, 2, none⟩ = some (.int .u64 0) ∧ w'.cell? ⟨w.heap.size + 1, 3, none⟩ = some (.int .u32 0)) ∧ (w'.frozen? ⟨w.heap.size + 1, 0, none⟩ = false ∧ w'.frozen? ⟨w.heap.size + 1, 1, none⟩ = false ∧ w'.frozen? ⟨w.heap.size + 1, 2, none⟩ = false ∧ w'.frozen? ⟨w.heap.size + 1, 3, none⟩ = false)) := fun w' h => by
    rw [hW] at h
    have h2 := below_on (below_al (Below.refl _ _) _) h
    have h3 := fun i => box_at (w := w.alloc (.cells #[.int .u32 p.f, .int .i64 p.s, .int .u32 p.tn, .int .u32 p.tm, .int .u32 p.sn, .int .u32 p.sm, .int .u32 p.rn, .int .u32 p.rm, .int .u64 p.t, .int .u32 p.q, .int .u64 p.l] 28)) (cs := #[.int .u32 0, .int .u32 0, .int .u64 0, .int .u32 0]) (t := 42) h2 i
    have h4 := fun i => frozen_at (w := w.alloc (.cells #[.int .u32 p.f, .int .i64 p.s, .int .u32 p.tn, .int .u32 p.tm, .int .u32 p.sn, .int .u32 p.sm, .int .u32 p.rn, .int .u32 p.rm, .int .u64 p.t, .int .u32 p.q, .int .u64 p.l] 28)) (cs := #[.int .u32 0, .int .u32 0, .int .u64 0, .int .u32 0]) (t := 42) h2 i
    simp only [World.size_alloc] at h4
    refine ⟨pbox (below_on (below_al (Below.refl _ _) _) h2), ⟨?_, ?_, ?_, ?_⟩, h4 0, h4 1, h4 2, h4 3⟩
    · have h := h3 0
      rw [World.size_alloc] at h
      simpa using h
    · have h := h3 1
      rw [World.size_alloc] at h
      simpa using h
    · have h := h3 2
      rw [World.size_alloc] at h
      simpa using h
    · have h := h3 3
      rw [World.size_alloc] at h
      simpa using h
  have HW := Lib.hid hW
  clear hp hz
  rw [← hW]
  clear hW
  refine (HY.out (w.heap.size + 1 + 1) W HF0.out).mono ?_
  rintro e w1 ⟨rfl, hb⟩
  have HB1 := Lib.hid (below_on HB0.out hb)
  have HBW1 := Lib.hid hb
  obtain ⟨⟨x0, x1, x2, x3, x4, x5, x6, x7, x8, x9, x10⟩, ⟨n0, n1, n2, n3⟩, nf0, nf1, nf2, nf3⟩ := HXp.out w1 hb
  clear hb
  cases q
  · go_wp2_with fail
    go_step3
    refine ⟨rfl, ?_⟩
    show Code.wp _ _ _ _ _
    go_wp2_with fail
    rw [Exit.noGoto_ret]
    refine bodyPost_ret (v := .tuple #[.agg #[.int .u32 0, .int .u32 0, .int .u64 0, .int .u32 0], .int .i64 2]) (by simp [results, Tryz.results13, go_sem, n0, n1, n2, n3]) rfl ((HC.out _ _ _).2 ⟨?_, rfl⟩)
    exact set4_on (g := w.heap.size + 1) HB1.out (by omega) _ _ _ _
  · go_wp2_with fail
    refine (HPN.out w1).mono ?_
    rintro e w2 ⟨rfl, hb2⟩
    have hb3 := below_on HBW1.out hb2
    have HB2 := Lib.hid (below_on HB1.out hb2)
    obtain ⟨_, ⟨m0, m1, m2, m3⟩, mf0, mf1, mf2, mf3⟩ := HXp.out w2 hb3
    clear hb2 hb3 n0 n1 n2 n3 nf0 nf1 nf2 nf3 x0 x1 x2 x3 x4 x5 x6 x7 x8 x9 x10
    go_wp2_with fail
    simp only [Exit.jump]
    refine bodyPost_ret (v := .tuple #[.agg #[.int .u32 p.sn, .int .u32 p.sm, .int .u64 p.t, .int .u32 p.q], .int .i64 0]) (by simp [results, Tryz.results13, go_sem, m0, m1, m2, m3]) rfl ((HC.out _ _ _).2 ⟨?_, rfl⟩)
    exact set4_on (g := w.heap.size + 1) HB2.out (by omega) _ _ _ _

set_option maxHeartbeats 1000000 in
theorem wants_any (p : Pm) (w : World) : Calls Tryz.prog 18 #[.agg #[.int .u32 p.f, .int .i64 p.s, .int .u32 p.tn, .int .u32 p.tm, .int .u32 p.sn, .int .u32 p.sm, .int .u32 p.rn, .int .u32 p.rm, .int .u64 p.t, .int .u32 p.q, .int .u64 p.l]] w fun e w' => e = .returned (.func (.func 44) #[] #[.pointer (some ⟨w.heap.size, 0, none⟩)]) ∧ w' = w.alloc (.cells #[.int .u32 p.f, .int .i64 p.s, .int .u32 p.tn, .int .u32 p.tm, .int .u32 p.sn, .int .u32 p.sm, .int .u32 p.rn, .int .u32 p.rm, .int .u64 p.t, .int .u32 p.q, .int .u64 p.l] 28) := by
  have hmf : ∀ (fn : Fn) (first cap : Array Value) (w : World), (Instr.makeFunc fn first cap).run Tryz.prog w = .ok (.func fn first cap) w := fun _ _ _ _ => rfl
  go_enter Tryz.func18, Tryz.ntmps18
  go_wp2
  go_ret
  exact ⟨rfl, rfl⟩

end Go.Proofs.YtlmdbeccfoncpaaGreatDoor

namespace Go.Proofs.YtlmdbeccfoncpaaGreatDoor
open Go Go.RowKit Go.Shelf
set_option linter.unusedSimpArgs false
set_option linter.unusedVariables false
set_option maxRecDepth 100000


theorem flB_iff (f : Nat) (hf : f < 4294967296) : flB f = true ↔ (f % 128 = 0 ∨ f % 128 = 2 ∨ f % 128 = 32 ∨ f % 128 = 34) ∧ f / 128 ≤ 2 := by
  have h1 : (f &&& 4294967261) % 128 = (f % 128) &&& 93 := by
    have := Nat.and_mod_two_pow (a := f) (b := 4294967261) (n := 7)
    simpa using this
  have h2 : (f &&& 4294967261) / 128 = f / 128 := by
    have h := Nat.and_div_two_pow (a := f) (b := 4294967261) (n := 7)
    have h3 := Nat.and_two_pow_sub_one_eq_mod (f / 128) 25
    simp at h h3
    rw [h, h3]
    omega
  have h3 : ∀ m : Fin 128, (m.val &&& 93 = 0) ↔ (m.val = 0 ∨ m.val = 2 ∨ m.val = 32 ∨ m.val = 34) := by decide
  have h4 := h3 ⟨f % 128, Nat.mod_lt _ (by decide)⟩
  unfold flB
  rw [h1, h2]
  simp only [Bool.and_eq_true, decide_eq_true_eq]
  simp only at h4
  rw [h4]

set_option maxHeartbeats 8000000 in
theorem refFlagsRight_any (f : Nat) (hf : f < 4294967296) (w : World) : Calls Tryz.prog 33 #[.int .u32 f] w fun e w' => e = .returned (.bool (flB f)) ∧ w = w' := by
  have hm : ((f : Nat) : Int).tmod 128 = ((f % 128 : Nat) : Int) := by rw [Int.tmod_eq_emod_of_nonneg (by omega)]; omega
  have hd : ((f : Nat) : Int).tdiv 128 = ((f / 128 : Nat) : Int) := by rw [Int.tdiv_eq_ediv_of_nonneg (by omega)]; omega
  have hlt : ((f / 128 : Nat) : Int) % 4294967296 = ((f / 128 : Nat) : Int) := by omega
  have hlm : ((f % 128 : Nat) : Int) % 4294967296 = ((f % 128 : Nat) : Int) := by omega
  by_cases hc : f ≤ 418
  · have ha : decide ((f : Int) ≤ 418) = true := by simp; omega
    by_cases hle : f % 128 ≤ 34
    · have hb : decide (((f % 128 : Nat) : Int) ≤ 34) = true := by simp; omega
      by_cases h0 : f % 128 = 0
      · have hk : ((f % 128 : Nat) : Int) = 0 := by omega
        by_cases hd2 : f / 128 ≤ 2
        · have he : decide (((f / 128 : Nat) : Int) ≤ 2) = true := by simp; omega
          have HV : Hid (flB f = true) := by
            rw [Hid]
            cases h9 : flB f
            · exact absurd ((flB_iff f hf).2 (by omega)) (by rw [h9]; decide)
            · rfl
          rw [hk] at hm
          generalize ((f / 128 : Nat) : Int) = d at *
          clear hc hle hd2 hf hb hlm hk h0
          go_enter Tryz.func33, Tryz.ntmps33
          go_wp2_with fail
          go_ret
          exact ⟨by rw [HV.out]; rfl, rfl⟩
        · have he : decide (((f / 128 : Nat) : Int) ≤ 2) = false := by simp; omega
          have HV : Hid (flB f = false) := by
            rw [Hid]
            cases h9 : flB f
            · rfl
            · exact absurd ((flB_iff f hf).1 h9) (by omega)
          rw [hk] at hm
          generalize ((f / 128 : Nat) : Int) = d at *
          clear hc hle hd2 hf hb hlm hk h0
          go_enter Tryz.func33, Tryz.ntmps33
          go_wp2_with fail
          go_ret
          exact ⟨by rw [HV.out]; rfl, rfl⟩
      by_cases h2 : f % 128 = 2
      · have hk : ((f % 128 : Nat) : Int) = 2 := by omega
        by_cases hd2 : f / 128 ≤ 2
        · have he : decide (((f / 128 : Nat) : Int) ≤ 2) = true := by simp; omega
          have HV : Hid (flB f = true) := by
            rw [Hid]
            cases h9 : flB f
            · exact absurd ((flB_iff f hf).2 (by omega)) (by rw [h9]; decide)
            · rfl
          rw [hk] at hm
          generalize ((f / 128 : Nat) : Int) = d at *
          clear hc hle hd2 hf hb hlm hk h0 h2
          go_enter Tryz.func33, Tryz.ntmps33
          go_wp2_with fail
          go_ret
          exact ⟨by rw [HV.out]; rfl, rfl⟩
        · have he : decide (((f / 128 : Nat) : Int) ≤ 2) = false := by simp; omega
          have HV : Hid (flB f = false) := by
            rw [Hid]
            cases h9 : flB f
            · rfl
            · exact absurd ((flB_iff f hf).1 h9) (by omega)
          rw [hk] at hm
          generalize ((f / 128 : Nat) : Int) = d at *
          clear hc hle hd2 hf hb hlm hk h0 h2
          go_enter Tryz.func33, Tryz.ntmps33
          go_wp2_with fail
          go_ret
          exact ⟨by rw [HV.out]; rfl, rfl⟩
      by_cases h32 : f % 128 = 32
      · have hk : ((f % 128 : Nat) : Int) = 32 := by omega
        by_cases hd2 : f / 128 ≤ 2
        · have he : decide (((f / 128 : Nat) : Int) ≤ 2) = true := by simp; omega
          have HV : Hid (flB f = true) := by
            rw [Hid]
            cases h9 : flB f
            · exact absurd ((flB_iff f hf).2 (by omega)) (by rw [h9]; decide)
            · rfl
          rw [hk] at hm
          generalize ((f / 128 : Nat) : Int) = d at *
          clear hc hle hd2 hf hb hlm hk h0 h2 h32
          go_enter Tryz.func33, Tryz.ntmps33
          go_wp2_with fail
          go_ret
          exact ⟨by rw [HV.out]; rfl, rfl⟩
        · have he : decide (((f / 128 : Nat) : Int) ≤ 2) = false := by simp; omega
          have HV : Hid (flB f = false) := by
            rw [Hid]
            cases h9 : flB f
            · rfl
            · exact absurd ((flB_iff f hf).1 h9) (by omega)
          rw [hk] at hm
          generalize ((f / 128 : Nat) : Int) = d at *
          clear hc hle hd2 hf hb hlm hk h0 h2 h32
          go_enter Tryz.func33, Tryz.ntmps33
          go_wp2_with fail
          go_ret
          exact ⟨by rw [HV.out]; rfl, rfl⟩
      by_cases h34 : f % 128 = 34
      · have hk : ((f % 128 : Nat) : Int) = 34 := by omega
        by_cases hd2 : f / 128 ≤ 2
        · have he : decide (((f / 128 : Nat) : Int) ≤ 2) = true := by simp; omega
          have HV : Hid (flB f = true) := by
            rw [Hid]
            cases h9 : flB f
            · exact absurd ((flB_iff f hf).2 (by omega)) (by rw [h9]; decide)
            · rfl
          rw [hk] at hm
          generalize ((f / 128 : Nat) : Int) = d at *
          clear hc hle hd2 hf hb hlm hk h0 h2 h32 h34
          go_enter Tryz.func33, Tryz.ntmps33
          go_wp2_with fail
          go_ret
          exact ⟨by rw [HV.out]; rfl, rfl⟩
        · have he : decide (((f / 128 : Nat) : Int) ≤ 2) = false := by simp; omega
          have HV : Hid (flB f = false) := by
            rw [Hid]
            cases h9 : flB f
            · rfl
            · exact absurd ((flB_iff f hf).1 h9) (by omega)
          rw [hk] at hm
          generalize ((f / 128 : Nat) : Int) = d at *
          clear hc hle hd2 hf hb hlm hk h0 h2 h32 h34
          go_enter Tryz.func33, Tryz.ntmps33
          go_wp2_with fail
          go_ret
          exact ⟨by rw [HV.out]; rfl, rfl⟩
      have HV : Hid (flB f = false) := by
        rw [Hid]
        cases h9 : flB f
        · rfl
        · exact absurd ((flB_iff f hf).1 h9) (by omega)
      have n0 : (((f % 128 : Nat) : Int) == 0) = false := by simp; omega
      have n2 : (((f % 128 : Nat) : Int) == 2) = false := by simp; omega
      have n32 : (((f % 128 : Nat) : Int) == 32) = false := by simp; omega
      have n34 : (((f % 128 : Nat) : Int) == 34) = false := by simp; omega
      generalize ((f / 128 : Nat) : Int) = d at *
      generalize ((f % 128 : Nat) : Int) = m at *
      clear hc hle hf h0 h2 h32 h34
      go_enter Tryz.func33, Tryz.ntmps33
      go_wp2_with fail
      go_ret
      exact ⟨by rw [HV.out]; rfl, rfl⟩
    · have hb : decide (((f % 128 : Nat) : Int) ≤ 34) = false := by simp; omega
      have HV : Hid (flB f = false) := by
        rw [Hid]
        cases h9 : flB f
        · rfl
        · exact absurd ((flB_iff f hf).1 h9) (by omega)
      generalize ((f / 128 : Nat) : Int) = d at *
      generalize ((f % 128 : Nat) : Int) = m at *
      clear hc hle hf
      go_enter Tryz.func33, Tryz.ntmps33
      go_wp2_with fail
      go_ret
      exact ⟨by rw [HV.out]; rfl, rfl⟩
  · have ha : decide ((f : Int) ≤ 418) = false := by simp; omega
    have HV : Hid (flB f = false) := by
      rw [Hid]
      cases h9 : flB f
      · rfl
      · exact absurd ((flB_iff f hf).1 h9) (by omega)
    generalize ((f / 128 : Nat) : Int) = d at *
    generalize ((f % 128 : Nat) : Int) = m at *
    clear hc hf
    go_enter Tryz.func33, Tryz.ntmps33
    go_wp2_with fail
    go_ret
    exact ⟨by rw [HV.out]; rfl, rfl⟩

theorem and2_iff (f : Nat) : f &&& 2 ≠ 0 ↔ f / 2 % 2 = 1 := by
  have h1 : (f &&& 2) % 4 = (f % 4) &&& 2 := by
    have := Nat.and_mod_two_pow (a := f) (b := 2) (n := 2)
    simpa using this
  have h2 : f &&& 2 ≤ 2 := Nat.and_le_right
  have h3 : ∀ m : Fin 4, (m.val &&& 2 ≠ 0) ↔ m.val / 2 % 2 = 1 := by decide
  have h4 := h3 ⟨f % 4, Nat.mod_lt _ (by decide)⟩
  rw [Nat.mod_eq_of_lt (by omega)] at h1
  rw [h1, show f / 2 % 2 = f % 4 / 2 % 2 by omega]
  exact h4

theorem and32_iff (f : Nat) : f &&& 32 ≠ 0 ↔ f / 32 % 2 = 1 := by
  have h1 : (f &&& 32) % 64 = (f % 64) &&& 32 := by
    have := Nat.and_mod_two_pow (a := f) (b := 32) (n := 6)
    simpa using this
  have h2 : f &&& 32 ≤ 32 := Nat.and_le_right
  have h3 : ∀ m : Fin 64, (m.val &&& 32 ≠ 0) ↔ m.val / 32 % 2 = 1 := by decide
  have h4 := h3 ⟨f % 64, Nat.mod_lt _ (by decide)⟩
  rw [Nat.mod_eq_of_lt (by omega)] at h1
  rw [h1, show f / 32 % 2 = f % 64 / 32 % 2 by omega]
  exact h4

set_option maxHeartbeats 4000000 in
theorem refHas_any (p : Pm) (f φ : Nat) (hff : p.f = f) (hf : f < 4294967296) (hφ : φ < 4294967296) (w : World) : Calls Tryz.prog 17 #[.agg #[.int .u32 f, .int .i64 p.s, .int .u32 p.tn, .int .u32 p.tm, .int .u32 p.sn, .int .u32 p.sm, .int .u32 p.rn, .int .u32 p.rm, .int .u64 p.t, .int .u32 p.q, .int .u64 p.l], .int .u32 φ] w fun e w' => e = .returned (.bool (hasB f φ)) ∧ Below w.heap.size w w' := by
  by_cases h2 : φ = 2
  · subst h2
    have HV : Hid ((((f / 2 % 2 : Nat) : Int) == 1) = hasB f 2) := by
      have h1 := and2_iff f
      rw [Hid]
      by_cases h : f / 2 % 2 = 1
      · rw [h]
        simp [hasB, h1.2 h]
      · rw [show f / 2 % 2 = 0 by omega]
        have h3 : f &&& 2 = 0 := Classical.byContradiction fun h4 => h (h1.1 h4)
        simp [hasB, h3]
    have hq : ((f : Nat) : Int).tdiv 2 = ((f / 2 : Nat) : Int) := by rw [Int.tdiv_eq_ediv_of_nonneg (by omega)]; omega
    have hlq : ((f / 2 : Nat) : Int) % 4294967296 = ((f / 2 : Nat) : Int) := by omega
    have hr : ((f / 2 : Nat) : Int).tmod 2 = ((f / 2 % 2 : Nat) : Int) := by rw [Int.tmod_eq_emod_of_nonneg (by omega)]; omega
    have hlr : ((f / 2 % 2 : Nat) : Int) % 4294967296 = ((f / 2 % 2 : Nat) : Int) := by omega
    have HFF := Lib.hid hff
    generalize ((f / 2 % 2 : Nat) : Int) = r at *
    generalize ((f / 2 : Nat) : Int) = q at *
    clear hf hφ hff
    go_enter Tryz.func17, Tryz.ntmps17
    go_wp2_with fail
    go_ret
    exact ⟨by rw [← HV.out]; rfl, below_al (Below.refl _ _) _⟩
  by_cases h32 : φ = 32
  · subst h32
    have HV : Hid ((((f / 32 % 2 : Nat) : Int) == 1) = hasB f 32) := by
      have h1 := and32_iff f
      rw [Hid]
      by_cases h : f / 32 % 2 = 1
      · rw [h]
        simp [hasB, h1.2 h]
      · rw [show f / 32 % 2 = 0 by omega]
        have h3 : f &&& 32 = 0 := Classical.byContradiction fun h4 => h (h1.1 h4)
        simp [hasB, h3]
    have hq : ((f : Nat) : Int).tdiv 32 = ((f / 32 : Nat) : Int) := by rw [Int.tdiv_eq_ediv_of_nonneg (by omega)]; omega
    have hlq : ((f / 32 : Nat) : Int) % 4294967296 = ((f / 32 : Nat) : Int) := by omega
    have hr : ((f / 32 : Nat) : Int).tmod 2 = ((f / 32 % 2 : Nat) : Int) := by rw [Int.tmod_eq_emod_of_nonneg (by omega)]; omega
    have hlr : ((f / 32 % 2 : Nat) : Int) % 4294967296 = ((f / 32 % 2 : Nat) : Int) := by omega
    have HFF := Lib.hid hff
    generalize ((f / 32 % 2 : Nat) : Int) = r at *
    generalize ((f / 32 : Nat) : Int) = q at *
    clear hf hφ hff
    go_enter Tryz.func17, Tryz.ntmps17
    go_wp2_with fail
    go_ret
    exact ⟨by rw [← HV.out]; rfl, below_al (Below.refl _ _) _⟩
  have HV : Hid (hasB f φ = false) := by
    rw [Hid]
    simp [hasB, h2, h32]
  have n2 : ((φ : Int) == 2) = false := by simp; omega
  have n32 : ((φ : Int) == 32) = false := by simp; omega
  clear hf hφ hff h2 h32
  go_enter Tryz.func17, Tryz.ntmps17
  go_wp2_with fail
  go_ret
  exact ⟨by rw [HV.out]; rfl, below_al (Below.refl _ _) _⟩

set_option maxHeartbeats 1000000 in
theorem refName_any6 (p : Pm) (w : World) : Calls Tryz.prog 14 #[.agg #[.int .u32 p.f, .int .i64 p.s, .int .u32 p.tn, .int .u32 p.tm, .int .u32 p.sn, .int .u32 p.sm, .int .u32 p.rn, .int .u32 p.rm, .int .u64 p.t, .int .u32 p.q, .int .u64 p.l]] w fun e w' => e = .returned (.agg #[.int .u32 p.sn, .int .u32 p.sm, .int .u64 p.t, .int .u32 p.q]) ∧ Below w.heap.size w w' := by
  go_enter Tryz.func14, Tryz.ntmps14
  go_wp2
  exact bodyPost_ret (v := .agg #[.int .u32 p.sn, .int .u32 p.sm, .int .u64 p.t, .int .u32 p.q]) (by simp [results, Tryz.results14, go_sem]) rfl ⟨rfl, below_al (below_al (Below.refl _ _) _) _⟩

set_option maxHeartbeats 4000000 in
theorem refExpires_any (p : Pm) (w : World) : Calls Tryz.prog 24 #[.agg #[.int .u32 p.f, .int .i64 p.s, .int .u32 p.tn, .int .u32 p.tm, .int .u32 p.sn, .int .u32 p.sm, .int .u32 p.rn, .int .u32 p.rm, .int .u64 p.t, .int .u32 p.q, .int .u64 p.l]] w fun e w' => e = .returned (.int .u64 (addT p.t p.l)) ∧ Below w.heap.size w w' := by
  have HA := Lib.hid (fun w => refAdd_any p.t p.l w (by omega) (by omega))
  generalize addT p.t p.l = r at *
  go_enter Tryz.func24, Tryz.ntmps24
  go_wp2_with fail
  refine (HA.out _).mono ?_
  rintro e w1 ⟨rfl, rfl⟩
  go_wp2
  go_ret
  exact ⟨rfl, below_al (Below.refl _ _) _⟩

set_option maxHeartbeats 4000000 in
theorem refRank_any (p : Pm) (hp : p.ok) (w : World) : Calls Tryz.prog 22 #[.agg #[.int .u32 p.f, .int .i64 p.s, .int .u32 p.tn, .int .u32 p.tm, .int .u32 p.sn, .int .u32 p.sm, .int .u32 p.rn, .int .u32 p.rm, .int .u64 p.t, .int .u32 p.q, .int .u64 p.l]] w fun e w' => e = .returned (.int .i64 p.rank) ∧ Below w.heap.size w w' := by
  have hf := hp.f
  have HF := Lib.hid (fun w => refFlagsRight_any p.f (by omega) w)
  have HC : Hid (p.rank = if flB p.f = true then ((p.f / 128 : Nat) : Int) else 0) := rfl
  have hd : ((p.f : Nat) : Int).tdiv 128 = ((p.f / 128 : Nat) : Int) := by rw [Int.tdiv_eq_ediv_of_nonneg (by omega)]; omega
  have hlt : ((p.f / 128 : Nat) : Int) % 4294967296 = ((p.f / 128 : Nat) : Int) := by omega
  have hwr : IntKind.i64.wrap ((p.f / 128 : Nat) : Int) = ((p.f / 128 : Nat) : Int) := by
    simp [IntKind.wrap, IntKind.signed, IntKind.bits]
    omega
  generalize flB p.f = q at *
  generalize p.rank = r at *
  clear hf hp
  go_enter Tryz.func22, Tryz.ntmps22
  go_wp2_with fail
  refine (HF.out _).mono ?_
  rintro e w1 ⟨rfl, rfl⟩
  cases q
  · go_wp2_with fail
    go_ret
    exact ⟨by rw [HC.out]; rfl, below_al (Below.refl _ _) _⟩
  · generalize ((p.f / 128 : Nat) : Int) = d at *
    go_wp2_with fail
    go_ret
    exact ⟨by rw [HC.out]; rfl, below_al (Below.refl _ _) _⟩

end Go.Proofs.YtlmdbeccfoncpaaGreatDoor
