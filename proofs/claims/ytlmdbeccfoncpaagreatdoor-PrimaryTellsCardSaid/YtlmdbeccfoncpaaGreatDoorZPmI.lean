/- Name; Wants. -/
import Derived.Test.YtlmdbeccfoncpaaGreatDoorZPmH
namespace Go.Proofs.YtlmdbeccfoncpaaGreatDoor
open Go Go.RowKit Go.Shelf
set_option linter.unusedSimpArgs false
set_option linter.unusedVariables false
set_option maxRecDepth 100000

attribute [local go_sem] run_store_func

def set4 (w : World) (g : Nat) (v0 v1 v2 v3 : Value) : World :=
  (((w.setCell ⟨g, 0, none⟩ v0).setCell ⟨g, 1, none⟩ v1).setCell ⟨g, 2, none⟩ v2).setCell ⟨g, 3, none⟩ v3

theorem set4_on {B g : Nat} {w0 w : World} (h : Below B w0 w) (hB : B ≤ g) (v0 v1 v2 v3 : Value) : Below B w0 (set4 w g v0 v1 v2 v3) := by
  unfold set4
  exact (((h.setCell hB v0).setCell hB v1).setCell hB v2).setCell hB v3

set_option maxHeartbeats 8000000 in
theorem name_any6 (p : Pm) (hp : p.ok) (w : World) : Calls Tryz.prog 13 #[.agg #[.int .u32 p.f, .int .i64 p.s, .int .u32 p.tn, .int .u32 p.tm, .int .u32 p.sn, .int .u32 p.sm, .int .u32 p.rn, .int .u32 p.rm, .int .u64 p.t, .int .u32 p.q, .int .u64 p.l]] w (NameP p w) := by
  have HY : Hid (∀ (g : Nat) (w1 : World), w1.cell? ⟨g, 0, none⟩ = some (.func (.func 30) #[] #[]) → Calls Tryz.prog 26 #[.agg #[.int .u32 p.f, .int .i64 p.s, .int .u32 p.tn, .int .u32 p.tm, .int .u32 p.sn, .int .u32 p.sm, .int .u32 p.rn, .int .u32 p.rm, .int .u64 p.t, .int .u32 p.q, .int .u64 p.l], .slice (some ⟨g, 0, none⟩) 1 1] w1 fun e w' => e = .returned (.bool (nmOk p)) ∧ Below w1.heap.size w1 w') := fun g w1 h => yesName_any p hp g w1 h
  have HPN := Lib.hid (fun w => pname_any p w)
  have HC : Hid (∀ w e w', NameP p w e w' ↔ Below w.heap.size w w' ∧ e = if nmOk p = true then .returned (.tuple #[.agg #[.int .u32 p.sn, .int .u32 p.sm, .int .u64 p.t, .int .u32 p.q], .int .i64 0]) else .returned (.tuple #[.agg #[.int .u32 0, .int .u32 0, .int .u64 0, .int .u32 0], .int .i64 2])) := fun w e w' => Iff.rfl
  generalize NameP p = R at *
  generalize nmOk p = q at *
  go_enter Tryz.func13, Tryz.ntmps13
  go_wp2_with fail
  refine wp_scope_on 0 rfl ?_
  go_wp2_with fail
  obtain ⟨W, hW⟩ : ∃ W, W = (((w.alloc (.cells #[.int .u32 p.f, .int .i64 p.s, .int .u32 p.tn, .int .u32 p.tm, .int .u32 p.sn, .int .u32 p.sm, .int .u32 p.rn, .int .u32 p.rm, .int .u64 p.t, .int .u32 p.q, .int .u64 p.l] 28)).alloc (.cells #[.int .u32 0, .int .u32 0, .int .u64 0, .int .u32 0] 42)).alloc (.cells #[.func (.func 30) #[] #[]] 62)) := ⟨_, rfl⟩
  have HB0 : Hid (Below w.heap.size w W) := by rw [hW]; exact below_al (below_al (below_al (Below.refl _ _) _) _) _
  have hz : ((w.alloc (.cells #[.int .u32 p.f, .int .i64 p.s, .int .u32 p.tn, .int .u32 p.tm, .int .u32 p.sn, .int .u32 p.sm, .int .u32 p.rn, .int .u32 p.rm, .int .u64 p.t, .int .u32 p.q, .int .u64 p.l] 28)).alloc (.cells #[.int .u32 0, .int .u32 0, .int .u64 0, .int .u32 0] 42)).heap.size = w.heap.size + 1 + 1 := by simp
  have HF0 : Hid (W.cell? ⟨w.heap.size + 1 + 1, 0, none⟩ = some (.func (.func 30) #[] #[])) := by
    have h := box_at (w := ((w.alloc (.cells #[.int .u32 p.f, .int .i64 p.s, .int .u32 p.tn, .int .u32 p.tm, .int .u32 p.sn, .int .u32 p.sm, .int .u32 p.rn, .int .u32 p.rm, .int .u64 p.t, .int .u32 p.q, .int .u64 p.l] 28)).alloc (.cells #[.int .u32 0, .int .u32 0, .int .u64 0, .int .u32 0] 42))) (cs := #[.func (.func 30) #[] #[]]) (t := 62) (Below.refl _ _) 0
    rw [← hW, hz] at h
    simpa [Hid] using h
  have HXp : Hid (∀ w', Below W.heap.size W w' → (w'.cell? ⟨w.heap.size, 0, none⟩ = some (.int .u32 p.f) ∧ w'.cell? ⟨w.heap.size, 1, none⟩ = some (.int .i64 p.s) ∧ w'.cell? ⟨w.heap.size, 2, none⟩ = some (.int .u32 p.tn) ∧ w'.cell? ⟨w.heap.size, 3, none⟩ = some (.int .u32 p.tm) ∧ w'.cell? ⟨w.heap.size, 4, none⟩ = some (.int .u32 p.sn) ∧ w'.cell? ⟨w.heap.size, 5, none⟩ = some (.int .u32 p.sm) ∧ w'.cell? ⟨w.heap.size, 6, none⟩ = some (.int .u32 p.rn) ∧ w'.cell? ⟨w.heap.size, 7, none⟩ = some (.int .u32 p.rm) ∧ w'.cell? ⟨w.heap.size, 8, none⟩ = some (.int .u64 p.t) ∧ w'.cell? ⟨w.heap.size, 9, none⟩ = some (.int .u32 p.q) ∧ w'.cell? ⟨w.heap.size, 10, none⟩ = some (.int .u64 p.l)) ∧ (w'.cell? ⟨w.heap.size + 1, 0, none⟩ = some (.int .u32 0) ∧ w'.cell? ⟨w.heap.size + 1, 1, none⟩ = some (.int .u32 0) ∧ w'.cell? ⟨w.heap.size + 1, 2, none⟩ = some (.int .u64 0) ∧ w'.cell? ⟨w.heap.size + 1, 3, none⟩ = some (.int .u32 0)) ∧ (w'.frozen? ⟨w.heap.size + 1, 0, none⟩ = false ∧ w'.frozen? ⟨w.heap.size + 1, 1, none⟩ = false ∧ w'.frozen? ⟨w.heap.size + 1, 2, none⟩ = false ∧ w'.frozen? ⟨w.heap.size + 1, 3, none⟩ = false)) := fun w' h => by
    rw [hW] at h
    have h2 := below_on (below_al (Below.refl _ _) _) h
    have h3 := fun i => box_at (w := w.alloc (.cells #[.int .u32 p.f, .int .i64 p.s, .int .u32 p.tn, .int .u32 p.tm, .int .u32 p.sn, .int .u32 p.sm, .int .u32 p.rn, .int .u32 p.rm, .int .u64 p.t, .int .u32 p.q, .int .u64 p.l] 28)) (cs := #[.int .u32 0, .int .u32 0, .int .u64 0, .int .u32 0]) (t := 42) h2 i
    have h4 := fun i => frozen_at (w := w.alloc (.cells #[.int .u32 p.f, .int .i64 p.s, .int .u32 p.tn, .int .u32 p.tm, .int .u32 p.sn, .int .u32 p.sm, .int .u32 p.rn, .int .u32 p.rm, .int .u64 p.t, .int .u32 p.q, .int .u64 p.l] 28)) (cs := #[.int .u32 0, .int .u32 0, .int .u64 0, .int .u32 0]) (t := 42) h2 i
    simp only [World.size_alloc] at h4
    refine ⟨pbox (below_on (below_al (Below.refl _ _) _) h2), ⟨?_, ?_, ?_, ?_⟩, h4 0, h4 1, h4 2, h4 3⟩
    · have h := h3 0
      rw [World.size_alloc] at h
      simpa using h
    · have h := h3 1
      rw [World.size_alloc] at h
      simpa using h
    · have h := h3 2
      rw [World.size_alloc] at h
      simpa using h
    · have h := h3 3
      rw [World.size_alloc] at h
      simpa using h
  have HW := Lib.hid hW
  clear hp hz
  rw [← hW]
  clear hW
  refine (HY.out (w.heap.size + 1 + 1) W HF0.out).mono ?_
  rintro e w1 ⟨rfl, hb⟩
  have HB1 := Lib.hid (below_on HB0.out hb)
  have HBW1 := Lib.hid hb
  obtain ⟨⟨x0, x1, x2, x3, x4, x5, x6, x7, x8, x9, x10⟩, ⟨n0, n1, n2, n3⟩, nf0, nf1, nf2, nf3⟩ := HXp.out w1 hb
  clear hb
  cases q
  · go_wp2_with fail
    go_step3
    refine ⟨rfl, ?_⟩
    show Code.wp _ _ _ _ _
    go_wp2_with fail
    rw [Exit.noGoto_ret]
    refine bodyPost_ret (v := .tuple #[.agg #[.int .u32 0, .int .u32 0, .int .u64 0, .int .u32 0], .int .i64 2]) (by simp [results, Tryz.results13, go_sem, n0, n1, n2, n3]) rfl ((HC.out _ _ _).2 ⟨?_, rfl⟩)
    exact set4_on (g := w.heap.size + 1) HB1.out (by omega) _ _ _ _
  · go_wp2_with fail
    refine (HPN.out w1).mono ?_
    rintro e w2 ⟨rfl, hb2⟩
    have hb3 := below_on HBW1.out hb2
    have HB2 := Lib.hid (below_on HB1.out hb2)
    obtain ⟨_, ⟨m0, m1, m2, m3⟩, mf0, mf1, mf2, mf3⟩ := HXp.out w2 hb3
    clear hb2 hb3 n0 n1 n2 n3 nf0 nf1 nf2 nf3 x0 x1 x2 x3 x4 x5 x6 x7 x8 x9 x10
    go_wp2_with fail
    simp only [Exit.jump]
    refine bodyPost_ret (v := .tuple #[.agg #[.int .u32 p.sn, .int .u32 p.sm, .int .u64 p.t, .int .u32 p.q], .int .i64 0]) (by simp [results, Tryz.results13, go_sem, m0, m1, m2, m3]) rfl ((HC.out _ _ _).2 ⟨?_, rfl⟩)
    exact set4_on (g := w.heap.size + 1) HB2.out (by omega) _ _ _ _

set_option maxHeartbeats 1000000 in
theorem wants_any (p : Pm) (w : World) : Calls Tryz.prog 18 #[.agg #[.int .u32 p.f, .int .i64 p.s, .int .u32 p.tn, .int .u32 p.tm, .int .u32 p.sn, .int .u32 p.sm, .int .u32 p.rn, .int .u32 p.rm, .int .u64 p.t, .int .u32 p.q, .int .u64 p.l]] w fun e w' => e = .returned (.func (.func 44) #[] #[.pointer (some ⟨w.heap.size, 0, none⟩)]) ∧ w' = w.alloc (.cells #[.int .u32 p.f, .int .i64 p.s, .int .u32 p.tn, .int .u32 p.tm, .int .u32 p.sn, .int .u32 p.sm, .int .u32 p.rn, .int .u32 p.rm, .int .u64 p.t, .int .u32 p.q, .int .u64 p.l] 28) := by
  have hmf : ∀ (fn : Fn) (first cap : Array Value) (w : World), (Instr.makeFunc fn first cap).run Tryz.prog w = .ok (.func fn first cap) w := fun _ _ _ _ => rfl
  go_enter Tryz.func18, Tryz.ntmps18
  go_wp2
  go_ret
  exact ⟨rfl, rfl⟩

end Go.Proofs.YtlmdbeccfoncpaaGreatDoor
