/- Package name: what is read, or why that gave up; Parse, ParseName. -/
import Derived.Test.YtjbdpkjkeelgfaaDoorNmH
import Derived.Recover
namespace Go.Proofs.YtjbdpkjkeelgfaaDoor
open Go Go.RowKit Go.Shelf
set_option linter.unusedSimpArgs false
set_option linter.unusedVariables false

theorem assert_errno (v : Value) (w : World) : (Instr.typeAssert (.iface 25 v) 20 25 false).run Tryd.prog w = .ok v w := by
  simp [Instr.typeAssert, run_underlying Tryd.underlying25]

set_option maxRecDepth 100000 in
set_option maxHeartbeats 1000000 in
theorem catchE_gives (p : Addr) (x c : Int) (w : World) (hc : w.cell? p = some (.int .i64 x)) (hz : w.frozen? p = false) :
    CallsD Tryd.prog 76 #[.pointer (some p)] (.panicking [{ v := .iface 25 (.int .i64 c), recovered := false }]) w fun e u' w' =>
      e = .returned (.tuple #[]) ∧ u' = .panicking [{ v := .iface 25 (.int .i64 c), recovered := true }] ∧ w' = w.setCell p (.int .i64 c) := by
  refine callsD_of_wpS Tryd.func76 rfl fun c₀ cs hu => ?_
  apply wpS_seq
  apply wpS_region
  simp [wpOpsS, go_sem, recoverD, hu, Tryd.ntmps76, Exit.thenS]
  refine wpS_of_wp ?_
  change Code.wp _ _ _ { tmps := #[.pointer (some p), .iface 25 (.int .i64 c), .iface 25 (.int .i64 c), undef, undef, undef, undef], defers := [] } _
  have has := assert_errno (.int .i64 c)
  go_wp2_with fail
  cases c₀
  simp_all [bodyPostS, results, Tryd.results76]

theorem catchE_idle (p : Addr) (w : World) :
    CallsD Tryd.prog 76 #[.pointer (some p)] .returning w fun e u' w' => e = .returned (.tuple #[]) ∧ u' = .returning ∧ w' = w := by
  refine callsD_of_wpS Tryd.func76 rfl fun c₀ cs hu => ?_
  apply wpS_seq
  apply wpS_region
  simp [wpOpsS, go_sem, recoverD, hu, Tryd.ntmps76, Exit.thenS]
  refine wpS_of_wp ?_
  change Code.wp _ _ _ { tmps := #[.pointer (some p), .nilIface, .nilIface, undef, undef, undef, undef], defers := [] } _
  go_wp2_with fail
  cases c₀
  simp_all [bodyPostS, results, Tryd.results76]

/-- What a function of no arguments that reads this answers. -/
def RdE (w : World) (r : Except Int (Nat × Nat)) (e : Ending) (w' : World) : Prop :=
  Below w.heap.size w w' ∧ match r with
    | .ok ⟨n, m⟩ => e = .returned (.agg #[.int .u32 n, .int .u32 m])
    | .error c => e = gives c

/-- What is read of a text, or why it is not. -/
def rdE (s : List UInt8) : Except Int (Nat × Nat) := if 100 < s.length then .error 3 else match epN s with
    | some p => .ok p
    | none => .error 130

set_option maxRecDepth 100000 in
set_option maxHeartbeats 2000000 in
theorem bodyE_any (Bs Bf : Nat) (s : List UInt8) (hs : s.length ≤ 140737488355328) (w : World) (ht : TabN w) (h1 : w.cell? ⟨Bs, 0, none⟩ = some (.string ⟨s.toArray⟩)) (h2 : w.cell? ⟨Bf, 0, none⟩ = some (.func (.func 41) #[] #[])) :
    Calls Tryd.prog 70 #[.pointer (some ⟨Bs, 0, none⟩), .pointer (some ⟨Bf, 0, none⟩)] w (RdE w (rdE s)) := by
  have hsz : (⟨s.toArray⟩ : ByteArray).size = s.length := by simp [ByteArray.size]
  have HT := Lib.hid ht
  have l1 := World.block_lt_of_cell? w _ h1
  have l2 := World.block_lt_of_cell? w _ h2
  simp only at l1 l2
  clear ht
  by_cases hl : 100 < s.length
  · have hg : (100 : Int) < (s.length : Int) := by omega
    have e : rdE s = .error 3 := if_pos hl
    rw [e]
    clear hl e
    go_enter Tryd.func70, Tryd.ntmps70
    go_wp2_with fail
    exact ⟨rfl, below_al (Below.refl _ _) _, rfl⟩
  · have hg : ¬ (100 : Int) < (s.length : Int) := by omega
    have e : rdE s = match epN s with | some p => .ok p | none => .error 130 := if_neg hl
    have HE := Lib.hid e
    clear hl e
    obtain ⟨W, hW⟩ : ∃ W, W = (w.alloc (.cells #[.int .u32 0, .int .u32 0] 24)).alloc (.cells #[.string ⟨s.toArray⟩] 110) := ⟨_, rfl⟩
    have hbW : Below w.heap.size w W := by rw [hW]; exact below_al (below_al (Below.refl _ _) _) _
    have hsW : W.heap.size ≤ w.heap.size + 2 ∧ w.heap.size + 2 ≤ W.heap.size := by rw [hW]; simp
    have HTS : Hid (TS W (w.heap.size + 1) s) := by
      rw [hW]
      refine ⟨?_, ?_, by simp⟩
      · rw [← World.size_alloc w (.cells #[.int .u32 0, .int .u32 0] 24), World.cell?_alloc_mark]
        rfl
      · rw [← World.size_alloc w (.cells #[.int .u32 0, .int .u32 0] 24)]
        exact World.frozen?_alloc_new _ _ _ _
    have HC : Hid (∀ w', Bt (w.heap.size + 1) W w' → (w'.cell? ⟨w.heap.size, 0, none⟩ = some (.int .u32 0) ∧ w'.cell? ⟨w.heap.size, 1, none⟩ = some (.int .u32 0)) ∧ ∀ i, w'.frozen? ⟨w.heap.size, i, none⟩ = false) := fun w' hb => by
      have hh : ∀ i, w'.cell? ⟨w.heap.size, i, none⟩ = W.cell? ⟨w.heap.size, i, none⟩ := fun i => hb.cell (by omega) (by omega)
      have hf : ∀ i, w'.frozen? ⟨w.heap.size, i, none⟩ = W.frozen? ⟨w.heap.size, i, none⟩ := fun i => hb.frozen (by omega) (by omega)
      exact ⟨⟨(hh 0).trans (by rw [hW]; simp), (hh 1).trans (by rw [hW]; simp)⟩, fun i => (hf i).trans (by rw [hW]; simp)⟩
    have HB := Lib.hid hbW
    have HW := Lib.hid hW
    have hU : Up (w.heap.size + 1) := HT.out.up (by omega)
    have HR := Lib.hid (endpoint_any (w.heap.size + 1) s hs W (HT.out.on hbW) hU HTS.out)
    clear hW hbW
    go_enter Tryd.func70, Tryd.ntmps70
    go_wp2_with fail
    rw [← HW.out]
    refine HR.out.mono ?_
    rintro e w1 ⟨hb1, hm⟩
    have HB1 := Lib.hid (hb1.below (B := w.heap.size) (by omega) (by omega))
    have HBB := Lib.hid (HB.out.trans HB1.out)
    cases hc : epN s with
    | none =>
      rw [hc] at hm
      have hm : e = gives 130 := hm
      subst hm
      have HE2 : Hid (rdE s = .error 130) := by rw [Hid, HE.out, hc]
      clear hc hb1
      rw [gives_def]
      go_wp2_with fail
      exact ⟨rfl, HBB.out, by rw [HE2.out]; rfl⟩
    | some p =>
      obtain ⟨n, m⟩ := p
      rw [hc] at hm
      have hm : e = .returned (.agg #[.int .u32 n, .int .u32 m]) := hm
      subst hm
      have HE2 : Hid (rdE s = .ok (n, m)) := by rw [Hid, HE.out, hc]
      obtain ⟨⟨d0, d1⟩, df⟩ := HC.out w1 hb1
      have f0 := df 0
      have f1 := df 1
      clear hc hb1 df h1 h2
      go_wp2_with fail
      obtain ⟨e0, e1⟩ := put2 (.int .u32 (n : Int)) (.int .u32 (m : Int)) d0 d1
      refine bodyPost_ret (v := .agg #[.int .u32 n, .int .u32 m]) (by simp [results, Tryd.results70, go_sem, e0, e1]) rfl ⟨?_, by rw [HE2.out]⟩
      exact ((HBB.out.setCell (p := ⟨w.heap.size, 0, none⟩) (Nat.le_refl _) _).setCell (p := ⟨w.heap.size, 1, none⟩) (Nat.le_refl _) _)

set_option maxRecDepth 100000 in
set_option maxHeartbeats 1000000 in
theorem catchN_gives (p : Addr) (x c : Int) (w : World) (hc : w.cell? p = some (.int .i64 x)) (hz : w.frozen? p = false) :
    CallsD Tryd.prog 81 #[.pointer (some p)] (.panicking [{ v := .iface 25 (.int .i64 c), recovered := false }]) w fun e u' w' =>
      e = .returned (.tuple #[]) ∧ u' = .panicking [{ v := .iface 25 (.int .i64 c), recovered := true }] ∧ w' = w.setCell p (.int .i64 c) := by
  refine callsD_of_wpS Tryd.func81 rfl fun c₀ cs hu => ?_
  apply wpS_seq
  apply wpS_region
  simp [wpOpsS, go_sem, recoverD, hu, Tryd.ntmps81, Exit.thenS]
  refine wpS_of_wp ?_
  change Code.wp _ _ _ { tmps := #[.pointer (some p), .iface 25 (.int .i64 c), .iface 25 (.int .i64 c), undef, undef, undef, undef], defers := [] } _
  have has := assert_errno (.int .i64 c)
  go_wp2_with fail
  cases c₀
  simp_all [bodyPostS, results, Tryd.results81]

theorem catchN_idle (p : Addr) (w : World) :
    CallsD Tryd.prog 81 #[.pointer (some p)] .returning w fun e u' w' => e = .returned (.tuple #[]) ∧ u' = .returning ∧ w' = w := by
  refine callsD_of_wpS Tryd.func81 rfl fun c₀ cs hu => ?_
  apply wpS_seq
  apply wpS_region
  simp [wpOpsS, go_sem, recoverD, hu, Tryd.ntmps81, Exit.thenS]
  refine wpS_of_wp ?_
  change Code.wp _ _ _ { tmps := #[.pointer (some p), .nilIface, .nilIface, undef, undef, undef, undef], defers := [] } _
  go_wp2_with fail
  cases c₀
  simp_all [bodyPostS, results, Tryd.results81]

/-- What a function of no arguments that reads this answers. -/
def RdN (w : World) (r : Except Int (Nat × Nat × Nat × Nat)) (e : Ending) (w' : World) : Prop :=
  Below w.heap.size w w' ∧ match r with
    | .ok ⟨n, m, t, q⟩ => e = .returned (.agg #[.int .u32 n, .int .u32 m, .int .u64 t, .int .u32 q])
    | .error c => e = gives c

/-- What is read of a text, or why it is not. -/
def rdN (s : List UInt8) : Except Int (Nat × Nat × Nat × Nat) := if 100 < s.length then .error 3 else match nmN s with
    | some p => .ok p
    | none => .error 130

set_option maxRecDepth 100000 in
set_option maxHeartbeats 2000000 in
theorem bodyN_any (Bs Bf : Nat) (s : List UInt8) (hs : s.length ≤ 140737488355328) (w : World) (ht : TabN w) (h1 : w.cell? ⟨Bs, 0, none⟩ = some (.string ⟨s.toArray⟩)) (h2 : w.cell? ⟨Bf, 0, none⟩ = some (.func (.func 50) #[] #[])) :
    Calls Tryd.prog 79 #[.pointer (some ⟨Bs, 0, none⟩), .pointer (some ⟨Bf, 0, none⟩)] w (RdN w (rdN s)) := by
  have hsz : (⟨s.toArray⟩ : ByteArray).size = s.length := by simp [ByteArray.size]
  have HT := Lib.hid ht
  have l1 := World.block_lt_of_cell? w _ h1
  have l2 := World.block_lt_of_cell? w _ h2
  simp only at l1 l2
  clear ht
  by_cases hl : 100 < s.length
  · have hg : (100 : Int) < (s.length : Int) := by omega
    have e : rdN s = .error 3 := if_pos hl
    rw [e]
    clear hl e
    go_enter Tryd.func79, Tryd.ntmps79
    go_wp2_with fail
    exact ⟨rfl, below_al (Below.refl _ _) _, rfl⟩
  · have hg : ¬ (100 : Int) < (s.length : Int) := by omega
    have e : rdN s = match nmN s with | some p => .ok p | none => .error 130 := if_neg hl
    have HE := Lib.hid e
    clear hl e
    obtain ⟨W, hW⟩ : ∃ W, W = (w.alloc (.cells #[.int .u32 0, .int .u32 0, .int .u64 0, .int .u32 0] 47)).alloc (.cells #[.string ⟨s.toArray⟩] 110) := ⟨_, rfl⟩
    have hbW : Below w.heap.size w W := by rw [hW]; exact below_al (below_al (Below.refl _ _) _) _
    have hsW : W.heap.size ≤ w.heap.size + 2 ∧ w.heap.size + 2 ≤ W.heap.size := by rw [hW]; simp
    have HTS : Hid (TS W (w.heap.size + 1) s) := by
      rw [hW]
      refine ⟨?_, ?_, by simp⟩
      · rw [← World.size_alloc w (.cells #[.int .u32 0, .int .u32 0, .int .u64 0, .int .u32 0] 47), World.cell?_alloc_mark]
        rfl
      · rw [← World.size_alloc w (.cells #[.int .u32 0, .int .u32 0, .int .u64 0, .int .u32 0] 47)]
        exact World.frozen?_alloc_new _ _ _ _
    have HC : Hid (∀ w', Bt (w.heap.size + 1) W w' → (w'.cell? ⟨w.heap.size, 0, none⟩ = some (.int .u32 0) ∧ w'.cell? ⟨w.heap.size, 1, none⟩ = some (.int .u32 0) ∧ w'.cell? ⟨w.heap.size, 2, none⟩ = some (.int .u64 0) ∧ w'.cell? ⟨w.heap.size, 3, none⟩ = some (.int .u32 0)) ∧ ∀ i, w'.frozen? ⟨w.heap.size, i, none⟩ = false) := fun w' hb => by
      have hh : ∀ i, w'.cell? ⟨w.heap.size, i, none⟩ = W.cell? ⟨w.heap.size, i, none⟩ := fun i => hb.cell (by omega) (by omega)
      have hf : ∀ i, w'.frozen? ⟨w.heap.size, i, none⟩ = W.frozen? ⟨w.heap.size, i, none⟩ := fun i => hb.frozen (by omega) (by omega)
      exact ⟨⟨(hh 0).trans (by rw [hW]; simp), (hh 1).trans (by rw [hW]; simp), (hh 2).trans (by rw [hW]; simp), (hh 3).trans (by rw [hW]; simp)⟩, fun i => (hf i).trans (by rw [hW]; simp)⟩
    have HB := Lib.hid hbW
    have HW := Lib.hid hW
    have hU : Up (w.heap.size + 1) := HT.out.up (by omega)
    have HR := Lib.hid (name_any (w.heap.size + 1) s hs W (HT.out.on hbW) hU HTS.out)
    clear hW hbW
    go_enter Tryd.func79, Tryd.ntmps79
    go_wp2_with fail
    rw [← HW.out]
    refine HR.out.mono ?_
    rintro e w1 ⟨hb1, hm⟩
    have HB1 := Lib.hid (hb1.below (B := w.heap.size) (by omega) (by omega))
    have HBB := Lib.hid (HB.out.trans HB1.out)
    cases hc : nmN s with
    | none =>
      rw [hc] at hm
      have hm : e = gives 130 := hm
      subst hm
      have HE2 : Hid (rdN s = .error 130) := by rw [Hid, HE.out, hc]
      clear hc hb1
      rw [gives_def]
      go_wp2_with fail
      exact ⟨rfl, HBB.out, by rw [HE2.out]; rfl⟩
    | some p =>
      obtain ⟨n, m, t, q⟩ := p
      rw [hc] at hm
      have hm : e = .returned (.agg #[.int .u32 n, .int .u32 m, .int .u64 t, .int .u32 q]) := hm
      subst hm
      have HE2 : Hid (rdN s = .ok (n, m, t, q)) := by rw [Hid, HE.out, hc]
      obtain ⟨⟨d0, d1, d2, d3⟩, df⟩ := HC.out w1 hb1
      have f0 := df 0
      have f1 := df 1
      have f2 := df 2
      have f3 := df 3
      clear hc hb1 df h1 h2
      go_wp2_with fail
      obtain ⟨e0, e1, e2, e3⟩ := put4 (.int .u32 (n : Int)) (.int .u32 (m : Int)) (.int .u64 (t : Int)) (.int .u32 (q : Int)) d0 d1 d2 d3
      refine bodyPost_ret (v := .agg #[.int .u32 n, .int .u32 m, .int .u64 t, .int .u32 q]) (by simp [results, Tryd.results79, go_sem, e0, e1, e2, e3]) rfl ⟨?_, by rw [HE2.out]⟩
      exact ((((HBB.out.setCell (p := ⟨w.heap.size, 0, none⟩) (Nat.le_refl _) _).setCell (p := ⟨w.heap.size, 1, none⟩) (Nat.le_refl _) _).setCell (p := ⟨w.heap.size, 2, none⟩) (Nat.le_refl _) _).setCell (p := ⟨w.heap.size, 3, none⟩) (Nat.le_refl _) _)

end Go.Proofs.YtjbdpkjkeelgfaaDoor
