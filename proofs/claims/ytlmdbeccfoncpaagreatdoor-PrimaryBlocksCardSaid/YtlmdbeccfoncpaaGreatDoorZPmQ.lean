/- Package primary reads: need, numberOf, shortOf, endOf; what is read, or why that gave up. -/
import Derived.Test.YtlmdbeccfoncpaaGreatDoorZKm
import Derived.Test.YtlmdbeccfoncpaaGreatDoorZPmF
import Derived.Test.YtlmdbeccfoncpaaGreatDoorZKp
import Derived.Recover
namespace Go.Proofs.YtlmdbeccfoncpaaGreatDoor
open Go Go.RowKit Go.Shelf
set_option linter.unusedSimpArgs false
set_option linter.unusedVariables false
set_option maxRecDepth 100000

attribute [local go_sem] Oper.semAt_some

theorem pneed_yes (w : World) : Calls Tryz.prog 97 #[.bool true] w fun e w' => e = .returned (.tuple #[]) ∧ w = w' := by
  go_enter Tryz.func97, Tryz.ntmps97
  go_wp2_with fail
  first | go_end0 | skip
  exact ⟨rfl, rfl⟩

theorem pneed_no (w : World) : Calls Tryz.prog 97 #[.bool false] w fun e w' => e = gives 140 ∧ w = w' := by
  go_enter Tryz.func97, Tryz.ntmps97
  go_wp2_with fail
  exact ⟨rfl, rfl, rfl⟩

/-- need, in one form. -/
theorem pneed_any (b : Bool) (w : World) : Calls Tryz.prog 97 #[.bool b] w fun e w' => w = w' ∧ ((e = .returned (.tuple #[]) ∧ b = true) ∨ (e = gives 140 ∧ b = false)) := by
  cases b
  · exact (pneed_no w).mono fun e w' ⟨h1, h2⟩ => ⟨h2, .inr ⟨h1, rfl⟩⟩
  · exact (pneed_yes w).mono fun e w' ⟨h1, h2⟩ => ⟨h2, .inl ⟨h1, rfl⟩⟩

/-- The number of an item, of one that fits 32 bits. -/
def nuP (x : It) : Option Nat := if x.k = 1 then some x.n.toNat else none
def shP (x : It) : Option Nat := if x.k = 1 ∧ x.n.toNat ≤ 4294967295 then some x.n.toNat else none

/-- What numberOf, shortOf answer. -/
def NuR (w : World) (x : It) (e : Ending) (w' : World) : Prop := Below w.heap.size w w' ∧ ((∃ n : Nat, e = .returned (.int .u64 n) ∧ nuP x = some n ∧ n < 18446744073709551616) ∨ (e = gives 140 ∧ nuP x = none))
def ShR (w : World) (x : It) (e : Ending) (w' : World) : Prop := Below w.heap.size w w' ∧ ((∃ n : Nat, e = .returned (.int .u32 n) ∧ shP x = some n ∧ n ≤ 4294967295) ∨ (e = gives 140 ∧ shP x = none))

set_option maxHeartbeats 2000000 in
theorem pnum_any (x : It) (v : Value) (w : World) (hv : ItV w w.heap.size v x) : Calls Tryz.prog 98 #[v] w (NuR w x) := by
  have hu := hv.u64
  obtain ⟨a, c, A, C, rfl⟩ := hv.form
  have HU : Hid (x.n = (x.n.toNat : Int) ∧ x.n.toNat < 18446744073709551616) := by
    unfold U64 at hu
    constructor <;> omega
  clear hv hu
  have HB : Hid (Below w.heap.size w (w.alloc (.cells #[.int .i64 x.k, .int .u64 x.n, .slice a x.b.length c, .string ⟨x.s.toArray⟩, .slice A x.l.length C] 84))) := below_al (Below.refl _ _) _
  have hc : (w.alloc (.cells #[.int .i64 x.k, .int .u64 x.n, .slice a x.b.length c, .string ⟨x.s.toArray⟩, .slice A x.l.length C] 84)).cell? ⟨w.heap.size, 0, none⟩ = some (.int .i64 x.k) := by simp
  have hc1 : (w.alloc (.cells #[.int .i64 x.k, .int .u64 x.n, .slice a x.b.length c, .string ⟨x.s.toArray⟩, .slice A x.l.length C] 84)).cell? ⟨w.heap.size, 1, none⟩ = some (.int .u64 x.n) := by simp
  go_enter Tryz.func98, Tryz.ntmps98
  go_wp2_with fail
  refine (pneed_any (x.k == 1) _).mono ?_
  rintro e w1 ⟨hw, ⟨rfl, hk⟩ | ⟨rfl, hk⟩⟩
  · rw [← hw]
    have HN : Hid (nuP x = some x.n.toNat) := by simp at hk; simp [Hid, nuP, hk]
    clear hw hk
    go_wp2_with fail
    go_ret
    exact ⟨HB.out, .inl ⟨x.n.toNat, by rw [← HU.out.1]; rfl, HN.out, HU.out.2⟩⟩
  · rw [← hw]
    have HN : Hid (nuP x = none) := by simp at hk; simp [Hid, nuP, hk]
    rw [gives_def]
    clear hw hk
    go_wp2_with fail
    exact ⟨rfl, HB.out, .inr ⟨rfl, HN.out⟩⟩

set_option maxHeartbeats 2000000 in
theorem pshort_any (x : It) (v : Value) (w : World) (hv : ItV w w.heap.size v x) : Calls Tryz.prog 99 #[v] w (ShR w x) := by
  obtain ⟨a, c, A, C, rfl⟩ := hv.form
  have HV : Hid (ItV (w.alloc (.cells #[.int .i64 x.k, .int .u64 x.n, .slice a x.b.length c, .string ⟨x.s.toArray⟩, .slice A x.l.length C] 84)) (w.alloc (.cells #[.int .i64 x.k, .int .u64 x.n, .slice a x.b.length c, .string ⟨x.s.toArray⟩, .slice A x.l.length C] 84)).heap.size (.agg #[.int .i64 x.k, .int .u64 x.n, .slice a x.b.length c, .string ⟨x.s.toArray⟩, .slice A x.l.length C]) x) := hv.on (below_al (Below.refl _ _) _)
  clear hv
  have HB : Hid (Below w.heap.size w (w.alloc (.cells #[.int .i64 x.k, .int .u64 x.n, .slice a x.b.length c, .string ⟨x.s.toArray⟩, .slice A x.l.length C] 84))) := below_al (Below.refl _ _) _
  go_enter Tryz.func99, Tryz.ntmps99
  go_wp2_with fail
  refine (pnum_any x _ _ HV.out).mono ?_
  rintro e w1 ⟨hb, ⟨n, rfl, hn, hn64⟩ | ⟨rfl, hn⟩⟩
  · have HB1 := Lib.hid (HB.out.trans (hb.mono HB.out.size))
    have HN : Hid (x.k = 1 ∧ x.n.toNat = n) := by
      unfold nuP at hn
      split at hn
      · rename_i h1
        injection hn with hn
        exact ⟨h1, hn⟩
      · cases hn
    clear hb hn
    go_wp2_with fail
    refine (pneed_any (decide ((n : Int) ≤ 4294967295)) _).mono ?_
    rintro e w2 ⟨rfl, ⟨rfl, hk⟩ | ⟨rfl, hk⟩⟩
    · have hk' : n ≤ 4294967295 := by have := of_decide_eq_true hk; omega
      have hw32 : IntKind.u32.wrap (n : Int) = n := by
        have : IntKind.u32.wrap (n : Int) = (n : Int) % 4294967296 := by simp [IntKind.wrap, IntKind.bits, IntKind.signed]
        rw [this]
        omega
      have HS : Hid (shP x = some n) := by
        have := HN.out
        rw [Hid, shP, this.2, if_pos ⟨this.1, hk'⟩]
      have HK := Lib.hid hk'
      clear hk hk'
      go_wp2_with fail
      go_ret
      exact ⟨HB1.out, .inl ⟨n, rfl, HS.out, HK.out⟩⟩
    · have HS : Hid (shP x = none) := by
        have := HN.out
        rw [Hid, shP, this.2, if_neg]
        rintro ⟨_, h⟩
        exact of_decide_eq_false hk (by omega)
      rw [gives_def]
      clear hk
      go_wp2_with fail
      exact ⟨rfl, HB1.out, .inr ⟨rfl, HS.out⟩⟩
  · have HB1 := Lib.hid (HB.out.trans (hb.mono HB.out.size))
    have HS : Hid (shP x = none) := by
      unfold nuP at hn
      split at hn
      · cases hn
      · rename_i h1
        rw [Hid, shP, if_neg (fun h => h1 h.1)]
    rw [gives_def]
    clear hb hn
    go_wp2_with fail
    exact ⟨rfl, HB1.out, .inr ⟨rfl, HS.out⟩⟩

/-- What endOf answers. -/
def EnR (w : World) (x : It) (e : Ending) (w' : World) : Prop := Below w.heap.size w w' ∧ ((∃ n m : Nat, e = .returned (.agg #[.int .u32 n, .int .u32 m]) ∧ epI x = some (n, m)) ∨ (e = gives 140 ∧ epI x = none))

set_option maxHeartbeats 4000000 in
theorem pend_any (x : It) (v : Value) (w : World) (hd : x.depth ≤ 60000) (hv : ItV w w.heap.size v x) : Calls Tryz.prog 100 #[v] w (EnR w x) := by
  obtain ⟨a, c, A, C, rfl⟩ := hv.form
  obtain ⟨W, hW⟩ : ∃ W, W = (w.alloc (.cells #[.int .i64 x.k, .int .u64 x.n, .slice a x.b.length c, .string ⟨x.s.toArray⟩, .slice A x.l.length C] 84)).alloc (.cells #[.int .u32 0, .int .u32 0] 25) := ⟨_, rfl⟩
  have HB : Hid (Below w.heap.size w W) := by rw [hW]; exact below_al (below_al (Below.refl _ _) _) _
  have HV : Hid (ItV W W.heap.size (.agg #[.int .i64 x.k, .int .u64 x.n, .slice a x.b.length c, .string ⟨x.s.toArray⟩, .slice A x.l.length C]) x) := hv.on HB.out
  have hsW : w.heap.size + 2 ≤ W.heap.size := by rw [hW]; simp
  have x0 : W.cell? ⟨w.heap.size, 0, none⟩ = some (.int .i64 x.k) := by rw [hW]; simp
  have x1 : W.cell? ⟨w.heap.size, 1, none⟩ = some (.int .u64 x.n) := by rw [hW]; simp
  have x2 : W.cell? ⟨w.heap.size, 2, none⟩ = some (.slice a x.b.length c) := by rw [hW]; simp
  have x3 : W.cell? ⟨w.heap.size, 3, none⟩ = some (.string ⟨x.s.toArray⟩) := by rw [hW]; simp
  have x4 : W.cell? ⟨w.heap.size, 4, none⟩ = some (.slice A x.l.length C) := by rw [hW]; simp
  have HC : Hid (∀ w', Below W.heap.size W w' → (w'.cell? ⟨w.heap.size + 1, 0, none⟩ = some (.int .u32 0) ∧ w'.cell? ⟨w.heap.size + 1, 1, none⟩ = some (.int .u32 0)) ∧ ∀ i, w'.frozen? ⟨w.heap.size + 1, i, none⟩ = false) := fun w' hb => by
    have hh : ∀ i, w'.cell? ⟨w.heap.size + 1, i, none⟩ = W.cell? ⟨w.heap.size + 1, i, none⟩ := fun i => hb.cell (p := ⟨w.heap.size + 1, i, none⟩) (show w.heap.size + 1 < _ by omega)
    have hf : ∀ i, w'.frozen? ⟨w.heap.size + 1, i, none⟩ = W.frozen? ⟨w.heap.size + 1, i, none⟩ := fun i => hb.frozen (p := ⟨w.heap.size + 1, i, none⟩) (show w.heap.size + 1 < _ by omega)
    have e1 : w.heap.size + 1 = (w.alloc (.cells #[.int .i64 x.k, .int .u64 x.n, .slice a x.b.length c, .string ⟨x.s.toArray⟩, .slice A x.l.length C] 84)).heap.size := by simp
    exact ⟨⟨(hh 0).trans (by rw [hW, e1, World.cell?_alloc_mark]; rfl), (hh 1).trans (by rw [hW, e1, World.cell?_alloc_mark]; rfl)⟩, fun i => (hf i).trans (by rw [hW, e1]; exact World.frozen?_alloc_new _ _ _ _)⟩
  have HW := Lib.hid hW
  have HSW := Lib.hid hsW
  clear hW hv hsW
  go_enter Tryz.func100, Tryz.ntmps100
  go_wp2_with fail
  rw [← HW.out]
  go_wp2_with fail
  refine (nmOf_any x _ W hd HV.out).mono ?_
  intro e w1 htr
  have HB1 := Lib.hid htr.1
  obtain ⟨n, m, c', rfl, hr⟩ := trE_agg htr
  have hr' : (c' = 0 ∧ epI x = some (n, m)) ∨ (c' = 130 ∧ epI x = none) := by
    unfold rdI at hr
    cases he : epI x with
    | none => rw [he] at hr; rcases hr with ⟨h, _⟩ | ⟨h, _⟩
              · cases h
              · injection h with h; exact .inr ⟨h.symm, rfl⟩
    | some q => rw [he] at hr; rcases hr with ⟨h, h0⟩ | ⟨h, _⟩
                · injection h with h; exact .inl ⟨h0, by rw [h]⟩
                · cases h
  clear hr htr x0 x1 x2 x3 x4
  rcases hr' with ⟨rfl, hE⟩ | ⟨rfl, hE⟩
  · have HE := Lib.hid hE
    clear hE
    go_wp2_with fail
    refine (pneed_any true _).mono ?_
    rintro e w2 ⟨rfl, ⟨rfl, _⟩ | ⟨_, h⟩⟩
    rotate_left
    · cases h
    have HB2 : Hid (Below W.heap.size W (w1.alloc (.cells #[.int .u32 (n : Int), .int .u32 (m : Int)] 25))) := below_al HB1.out _
    obtain ⟨⟨d0, d1⟩, df⟩ := HC.out _ HB2.out
    have f0 := df 0
    have f1 := df 1
    clear df
    go_wp2_with fail
    obtain ⟨e0, e1⟩ := put2 (.int .u32 (n : Int)) (.int .u32 (m : Int)) d0 d1
    refine bodyPost_ret (v := .agg #[.int .u32 n, .int .u32 m]) (by simp [results, Tryz.results100, go_sem, e0, e1]) rfl ⟨?_, .inl ⟨n, m, rfl, HE.out⟩⟩
    exact (((below_on HB.out HB2.out).setCell (p := ⟨w.heap.size + 1, 0, none⟩) (Nat.le_succ _) _).setCell (p := ⟨w.heap.size + 1, 1, none⟩) (Nat.le_succ _) _)
  · have HE := Lib.hid hE
    clear hE
    go_wp2_with fail
    refine (pneed_any false _).mono ?_
    rintro e w2 ⟨rfl, ⟨_, h⟩ | ⟨rfl, _⟩⟩
    · cases h
    rw [gives_def]
    go_wp2_with fail
    exact ⟨rfl, below_al (below_on HB.out HB1.out) _, .inr ⟨rfl, HE.out⟩⟩

theorem passert_errno (v : Value) (w : World) : (Instr.typeAssert (.iface 30 v) 20 30 false).run Tryz.prog w = .ok v w := by
  simp [Instr.typeAssert, run_underlying Tryz.underlying30]

set_option maxHeartbeats 1000000 in
theorem catchP_gives (p : Addr) (x c : Int) (w : World) (hc : w.cell? p = some (.int .i64 x)) (hz : w.frozen? p = false) :
    CallsD Tryz.prog 60 #[.pointer (some p)] (.panicking [{ v := .iface 30 (.int .i64 c), recovered := false }]) w fun e u' w' =>
      e = .returned (.tuple #[]) ∧ u' = .panicking [{ v := .iface 30 (.int .i64 c), recovered := true }] ∧ w' = w.setCell p (.int .i64 c) := by
  refine callsD_of_wpS Tryz.func60 rfl fun c₀ cs hu => ?_
  apply wpS_seq
  apply wpS_region
  simp [wpOpsS, go_sem, recoverD, hu, Tryz.ntmps60, Exit.thenS]
  refine wpS_of_wp ?_
  change Code.wp _ _ _ { tmps := #[.pointer (some p), .iface 30 (.int .i64 c), .iface 30 (.int .i64 c), undef, undef, undef, undef], defers := [] } _
  have has := passert_errno (.int .i64 c)
  go_wp2_with fail
  cases c₀
  simp_all [bodyPostS, results, Tryz.results60]

theorem catchP_idle (p : Addr) (w : World) :
    CallsD Tryz.prog 60 #[.pointer (some p)] .returning w fun e u' w' => e = .returned (.tuple #[]) ∧ u' = .returning ∧ w' = w := by
  refine callsD_of_wpS Tryz.func60 rfl fun c₀ cs hu => ?_
  apply wpS_seq
  apply wpS_region
  simp [wpOpsS, go_sem, recoverD, hu, Tryz.ntmps60, Exit.thenS]
  refine wpS_of_wp ?_
  change Code.wp _ _ _ { tmps := #[.pointer (some p), .nilIface, .nilIface, undef, undef, undef, undef], defers := [] } _
  go_wp2_with fail
  cases c₀
  simp_all [bodyPostS, results, Tryz.results60]

/-- What a function that reads a primary answers; what tried makes of it. -/
def RdPm (w : World) (r : Except Int Pm) (e : Ending) (w' : World) : Prop :=
  Below w.heap.size w w' ∧ match r with
    | .ok p => e = .returned (.agg #[.int .u32 p.f, .int .i64 p.s, .int .u32 p.tn, .int .u32 p.tm, .int .u32 p.sn, .int .u32 p.sm, .int .u32 p.rn, .int .u32 p.rm, .int .u64 p.t, .int .u32 p.q, .int .u64 p.l])
    | .error c => e = gives c
def TrPm (w : World) (r : Except Int Pm) (e : Ending) (w' : World) : Prop :=
  Below w.heap.size w w' ∧ match r with
    | .ok p => e = .returned (.tuple #[.agg #[.int .u32 p.f, .int .i64 p.s, .int .u32 p.tn, .int .u32 p.tm, .int .u32 p.sn, .int .u32 p.sm, .int .u32 p.rn, .int .u32 p.rm, .int .u64 p.t, .int .u32 p.q, .int .u64 p.l], .int .i64 0])
    | .error c => e = .returned (.tuple #[.agg #[.int .u32 0, .int .i64 0, .int .u32 0, .int .u32 0, .int .u32 0, .int .u32 0, .int .u32 0, .int .u32 0, .int .u64 0, .int .u32 0, .int .u64 0], .int .i64 c])

/-- Eleven cells written. -/
def put11 (w : World) (g : Nat) (p : Pm) : World := (((((((((((w.setCell ⟨g, 0, none⟩ (.int .u32 p.f)).setCell ⟨g, 1, none⟩ (.int .i64 p.s)).setCell ⟨g, 2, none⟩ (.int .u32 p.tn)).setCell ⟨g, 3, none⟩ (.int .u32 p.tm)).setCell ⟨g, 4, none⟩ (.int .u32 p.sn)).setCell ⟨g, 5, none⟩ (.int .u32 p.sm)).setCell ⟨g, 6, none⟩ (.int .u32 p.rn)).setCell ⟨g, 7, none⟩ (.int .u32 p.rm)).setCell ⟨g, 8, none⟩ (.int .u64 p.t)).setCell ⟨g, 9, none⟩ (.int .u32 p.q)).setCell ⟨g, 10, none⟩ (.int .u64 p.l))
theorem put11_cells {w : World} {g : Nat} {u0 u1 u2 u3 u4 u5 u6 u7 u8 u9 u10 : Value} (h0 : w.cell? ⟨g, 0, none⟩ = some u0) (h1 : w.cell? ⟨g, 1, none⟩ = some u1) (h2 : w.cell? ⟨g, 2, none⟩ = some u2) (h3 : w.cell? ⟨g, 3, none⟩ = some u3) (h4 : w.cell? ⟨g, 4, none⟩ = some u4) (h5 : w.cell? ⟨g, 5, none⟩ = some u5) (h6 : w.cell? ⟨g, 6, none⟩ = some u6) (h7 : w.cell? ⟨g, 7, none⟩ = some u7) (h8 : w.cell? ⟨g, 8, none⟩ = some u8) (h9 : w.cell? ⟨g, 9, none⟩ = some u9) (h10 : w.cell? ⟨g, 10, none⟩ = some u10) (p : Pm) : ((put11 w g p).cell? ⟨g, 0, none⟩ = some (.int .u32 p.f) ∧ (put11 w g p).cell? ⟨g, 1, none⟩ = some (.int .i64 p.s) ∧ (put11 w g p).cell? ⟨g, 2, none⟩ = some (.int .u32 p.tn) ∧ (put11 w g p).cell? ⟨g, 3, none⟩ = some (.int .u32 p.tm) ∧ (put11 w g p).cell? ⟨g, 4, none⟩ = some (.int .u32 p.sn) ∧ (put11 w g p).cell? ⟨g, 5, none⟩ = some (.int .u32 p.sm) ∧ (put11 w g p).cell? ⟨g, 6, none⟩ = some (.int .u32 p.rn) ∧ (put11 w g p).cell? ⟨g, 7, none⟩ = some (.int .u32 p.rm) ∧ (put11 w g p).cell? ⟨g, 8, none⟩ = some (.int .u64 p.t) ∧ (put11 w g p).cell? ⟨g, 9, none⟩ = some (.int .u32 p.q) ∧ (put11 w g p).cell? ⟨g, 10, none⟩ = some (.int .u64 p.l)) := by
  unfold put11
  refine ⟨?_, ?_, ?_, ?_, ?_, ?_, ?_, ?_, ?_, ?_, ?_⟩ <;> go_simp
theorem put11_block {w : World} {g b : Nat} (h : b ≠ g) (p : Pm) : (put11 w g p).heap[b]? = w.heap[b]? := by
  unfold put11
  rw [Below.heap_setCell _ _ _ _ h, Below.heap_setCell _ _ _ _ h, Below.heap_setCell _ _ _ _ h, Below.heap_setCell _ _ _ _ h, Below.heap_setCell _ _ _ _ h, Below.heap_setCell _ _ _ _ h, Below.heap_setCell _ _ _ _ h, Below.heap_setCell _ _ _ _ h, Below.heap_setCell _ _ _ _ h, Below.heap_setCell _ _ _ _ h, Below.heap_setCell _ _ _ _ h]
theorem put11_other {w : World} {g b : Nat} (h : b ≠ g) (i : Nat) (p : Pm) : (put11 w g p).cell? ⟨b, i, none⟩ = w.cell? ⟨b, i, none⟩ := by
  have hb := put11_block (w := w) h p
  generalize put11 w g p = w' at *
  exact World.cell?_of_block (a := ⟨b, i, none⟩) hb
theorem put11_on {B g : Nat} {w0 w : World} (h : Below B w0 w) (hB : B ≤ g) (p : Pm) : Below B w0 (put11 w g p) := by
  unfold put11
  exact (((((((((((h.setCell (p := ⟨g, 0, none⟩) hB _).setCell (p := ⟨g, 1, none⟩) hB _).setCell (p := ⟨g, 2, none⟩) hB _).setCell (p := ⟨g, 3, none⟩) hB _).setCell (p := ⟨g, 4, none⟩) hB _).setCell (p := ⟨g, 5, none⟩) hB _).setCell (p := ⟨g, 6, none⟩) hB _).setCell (p := ⟨g, 7, none⟩) hB _).setCell (p := ⟨g, 8, none⟩) hB _).setCell (p := ⟨g, 9, none⟩) hB _).setCell (p := ⟨g, 10, none⟩) hB _)
theorem put11_size (w : World) (g : Nat) (p : Pm) : (put11 w g p).heap.size = w.heap.size := by simp [put11]

set_option maxHeartbeats 4000000 in
theorem triedP_any (fc : Nat) (lb : Array Value) (r : Except Int Pm) (w : World) (hent : ∀ args w, (callFunc fc args).run Tryz.prog w = .ok (.enter fc args) w) (hR : ∀ w', Below w.heap.size w w' → Calls Tryz.prog fc lb w' (RdPm w' r)) :
    Calls Tryz.prog 37 #[.func (.func fc) #[] lb] w (TrPm w r) := by
  have hmf : ∀ (fn : Fn) (first cap : Array Value) (w : World), (Instr.makeFunc fn first cap).run Tryz.prog w = .ok (.func fn first cap) w := fun _ _ _ _ => rfl
  obtain ⟨W, hW⟩ : ∃ W, W = (w.alloc (.cells #[.int .u32 0, .int .i64 0, .int .u32 0, .int .u32 0, .int .u32 0, .int .u32 0, .int .u32 0, .int .u32 0, .int .u64 0, .int .u32 0, .int .u64 0] 28)).alloc (.cells #[.int .i64 0] 30) := ⟨_, rfl⟩
  have hbW : Below w.heap.size w W := by rw [hW]; exact below_al (below_al (Below.refl _ _) _) _
  have hsW : W.heap.size ≤ w.heap.size + 2 ∧ w.heap.size + 2 ≤ W.heap.size := by rw [hW]; simp
  have HC : Hid (∀ w', Below W.heap.size W w' → ((w'.cell? ⟨w.heap.size, 0, none⟩ = some (.int .u32 0) ∧ w'.cell? ⟨w.heap.size, 1, none⟩ = some (.int .i64 0) ∧ w'.cell? ⟨w.heap.size, 2, none⟩ = some (.int .u32 0) ∧ w'.cell? ⟨w.heap.size, 3, none⟩ = some (.int .u32 0) ∧ w'.cell? ⟨w.heap.size, 4, none⟩ = some (.int .u32 0) ∧ w'.cell? ⟨w.heap.size, 5, none⟩ = some (.int .u32 0) ∧ w'.cell? ⟨w.heap.size, 6, none⟩ = some (.int .u32 0) ∧ w'.cell? ⟨w.heap.size, 7, none⟩ = some (.int .u32 0) ∧ w'.cell? ⟨w.heap.size, 8, none⟩ = some (.int .u64 0) ∧ w'.cell? ⟨w.heap.size, 9, none⟩ = some (.int .u32 0) ∧ w'.cell? ⟨w.heap.size, 10, none⟩ = some (.int .u64 0)) ∧ ∀ i, w'.frozen? ⟨w.heap.size, i, none⟩ = false) ∧ w'.cell? ⟨w.heap.size + 1, 0, none⟩ = some (.int .i64 0) ∧ w'.frozen? ⟨w.heap.size + 1, 0, none⟩ = false) := fun w' hb => by
    have hh : ∀ i, w'.cell? ⟨w.heap.size, i, none⟩ = W.cell? ⟨w.heap.size, i, none⟩ := fun i => hb.cell (p := ⟨w.heap.size, i, none⟩) (show w.heap.size < _ by omega)
    have hf : ∀ i, w'.frozen? ⟨w.heap.size, i, none⟩ = W.frozen? ⟨w.heap.size, i, none⟩ := fun i => hb.frozen (p := ⟨w.heap.size, i, none⟩) (show w.heap.size < _ by omega)
    refine ⟨⟨⟨(hh 0).trans (by rw [hW]; simp), (hh 1).trans (by rw [hW]; simp), (hh 2).trans (by rw [hW]; simp), (hh 3).trans (by rw [hW]; simp), (hh 4).trans (by rw [hW]; simp), (hh 5).trans (by rw [hW]; simp), (hh 6).trans (by rw [hW]; simp), (hh 7).trans (by rw [hW]; simp), (hh 8).trans (by rw [hW]; simp), (hh 9).trans (by rw [hW]; simp), (hh 10).trans (by rw [hW]; simp)⟩, fun i => (hf i).trans (by rw [hW]; simp)⟩, (hb.cell (p := ⟨w.heap.size + 1, 0, none⟩) (show w.heap.size + 1 < _ by omega)).trans ?_, (hb.frozen (p := ⟨w.heap.size + 1, 0, none⟩) (show w.heap.size + 1 < _ by omega)).trans ?_⟩
    · rw [hW, ← World.size_alloc w (.cells #[.int .u32 0, .int .i64 0, .int .u32 0, .int .u32 0, .int .u32 0, .int .u32 0, .int .u32 0, .int .u32 0, .int .u64 0, .int .u32 0, .int .u64 0] 28), World.cell?_alloc_mark]
      rfl
    · rw [hW, ← World.size_alloc w (.cells #[.int .u32 0, .int .i64 0, .int .u32 0, .int .u32 0, .int .u32 0, .int .u32 0, .int .u32 0, .int .u32 0, .int .u64 0, .int .u32 0, .int .u64 0] 28)]
      exact World.frozen?_alloc_new _ _ _ _
  have HB := Lib.hid hbW
  have HW := Lib.hid hW
  have HR := Lib.hid (hR W hbW)
  clear hW hbW hR
  go_enter_defers Tryz.func37, Tryz.ntmps37
  go_wp2_with fail
  rw [← HW.out]
  refine HR.out.mono ?_
  rintro e w1 ⟨hb1, hm⟩
  obtain ⟨⟨⟨d0, d1, d2, d3, d4, d5, d6, d7, d8, d9, d10⟩, df⟩, ec, ef⟩ := HC.out w1 hb1
  have f0 := df 0
  have f1 := df 1
  have f2 := df 2
  have f3 := df 3
  have f4 := df 4
  have f5 := df 5
  have f6 := df 6
  have f7 := df 7
  have f8 := df 8
  have f9 := df 9
  have f10 := df 10
  have HB1 := Lib.hid (HB.out.trans (hb1.mono (by omega)))
  clear hb1 df
  cases r with
  | error q =>
    have hm : e = gives q := hm
    subst hm
    rw [gives_def]
    go_wp2_with fail
    refine leaves_cons (f := 60) (args := #[.pointer (some ⟨w.heap.size + 1, 0, none⟩)]) (by simp) (by simp [go_sem]) ?_
    refine (catchP_gives ⟨w.heap.size + 1, 0, none⟩ 0 q w1 ec ef).mono ?_
    rintro e u' w'' ⟨rfl, rfl, rfl⟩
    have k0 : (w1.setCell ⟨w.heap.size + 1, 0, none⟩ (.int .i64 q)).cell? ⟨w.heap.size, 0, none⟩ = some (.int .u32 0) := (World.cell?_setCell_other _ _ _ _ (by simp)).trans d0
    have k1 : (w1.setCell ⟨w.heap.size + 1, 0, none⟩ (.int .i64 q)).cell? ⟨w.heap.size, 1, none⟩ = some (.int .i64 0) := (World.cell?_setCell_other _ _ _ _ (by simp)).trans d1
    have k2 : (w1.setCell ⟨w.heap.size + 1, 0, none⟩ (.int .i64 q)).cell? ⟨w.heap.size, 2, none⟩ = some (.int .u32 0) := (World.cell?_setCell_other _ _ _ _ (by simp)).trans d2
    have k3 : (w1.setCell ⟨w.heap.size + 1, 0, none⟩ (.int .i64 q)).cell? ⟨w.heap.size, 3, none⟩ = some (.int .u32 0) := (World.cell?_setCell_other _ _ _ _ (by simp)).trans d3
    have k4 : (w1.setCell ⟨w.heap.size + 1, 0, none⟩ (.int .i64 q)).cell? ⟨w.heap.size, 4, none⟩ = some (.int .u32 0) := (World.cell?_setCell_other _ _ _ _ (by simp)).trans d4
    have k5 : (w1.setCell ⟨w.heap.size + 1, 0, none⟩ (.int .i64 q)).cell? ⟨w.heap.size, 5, none⟩ = some (.int .u32 0) := (World.cell?_setCell_other _ _ _ _ (by simp)).trans d5
    have k6 : (w1.setCell ⟨w.heap.size + 1, 0, none⟩ (.int .i64 q)).cell? ⟨w.heap.size, 6, none⟩ = some (.int .u32 0) := (World.cell?_setCell_other _ _ _ _ (by simp)).trans d6
    have k7 : (w1.setCell ⟨w.heap.size + 1, 0, none⟩ (.int .i64 q)).cell? ⟨w.heap.size, 7, none⟩ = some (.int .u32 0) := (World.cell?_setCell_other _ _ _ _ (by simp)).trans d7
    have k8 : (w1.setCell ⟨w.heap.size + 1, 0, none⟩ (.int .i64 q)).cell? ⟨w.heap.size, 8, none⟩ = some (.int .u64 0) := (World.cell?_setCell_other _ _ _ _ (by simp)).trans d8
    have k9 : (w1.setCell ⟨w.heap.size + 1, 0, none⟩ (.int .i64 q)).cell? ⟨w.heap.size, 9, none⟩ = some (.int .u32 0) := (World.cell?_setCell_other _ _ _ _ (by simp)).trans d9
    have k10 : (w1.setCell ⟨w.heap.size + 1, 0, none⟩ (.int .i64 q)).cell? ⟨w.heap.size, 10, none⟩ = some (.int .u64 0) := (World.cell?_setCell_other _ _ _ _ (by simp)).trans d10
    have k99 : (w1.setCell ⟨w.heap.size + 1, 0, none⟩ (.int .i64 q)).cell? ⟨w.heap.size + 1, 0, none⟩ = some (.int .i64 q) := World.cell?_setCell_same _ _ _ ec
    have hP : TrPm w (.error q) (.returned (.tuple #[.agg #[.int .u32 0, .int .i64 0, .int .u32 0, .int .u32 0, .int .u32 0, .int .u32 0, .int .u32 0, .int .u32 0, .int .u64 0, .int .u32 0, .int .u64 0], .int .i64 q])) (w1.setCell ⟨w.heap.size + 1, 0, none⟩ (.int .i64 q)) := ⟨HB1.out.setCell (p := ⟨w.heap.size + 1, 0, none⟩) (Nat.le_succ _) _, rfl⟩
    generalize w1.setCell ⟨w.heap.size + 1, 0, none⟩ (.int .i64 q) = w9 at *
    simp [Leaves, settle, results, Tryz.results37, go_sem, k0, k1, k2, k3, k4, k5, k6, k7, k8, k9, k10, k99]
    exact hP
  | ok p =>
    have hm : e = .returned (.agg #[.int .u32 p.f, .int .i64 p.s, .int .u32 p.tn, .int .u32 p.tm, .int .u32 p.sn, .int .u32 p.sm, .int .u32 p.rn, .int .u32 p.rm, .int .u64 p.t, .int .u32 p.q, .int .u64 p.l]) := hm
    subst hm
    go_wp2_with fail
    change bodyPostD _ _ _ _ _ ((put11 w1 w.heap.size p).setCell ⟨w.heap.size + 1, 0, none⟩ (.int .i64 0))
    have e9 := (put11_other (show w.heap.size + 1 ≠ w.heap.size from Nat.succ_ne_self _) 0 p).trans ec
    have hbk : Below w.heap.size w (put11 w1 w.heap.size p) := put11_on HB1.out (Nat.le_refl _) p
    obtain ⟨e0, e1, e2, e3, e4, e5, e6, e7, e8, e9x, e10⟩ := put11_cells d0 d1 d2 d3 d4 d5 d6 d7 d8 d9 d10 p
    generalize put11 w1 w.heap.size p = w3 at *
    have k0 : (w3.setCell ⟨w.heap.size + 1, 0, none⟩ (.int .i64 0)).cell? ⟨w.heap.size, 0, none⟩ = some (.int .u32 p.f) := (World.cell?_setCell_other _ _ _ _ (by simp)).trans e0
    have k1 : (w3.setCell ⟨w.heap.size + 1, 0, none⟩ (.int .i64 0)).cell? ⟨w.heap.size, 1, none⟩ = some (.int .i64 p.s) := (World.cell?_setCell_other _ _ _ _ (by simp)).trans e1
    have k2 : (w3.setCell ⟨w.heap.size + 1, 0, none⟩ (.int .i64 0)).cell? ⟨w.heap.size, 2, none⟩ = some (.int .u32 p.tn) := (World.cell?_setCell_other _ _ _ _ (by simp)).trans e2
    have k3 : (w3.setCell ⟨w.heap.size + 1, 0, none⟩ (.int .i64 0)).cell? ⟨w.heap.size, 3, none⟩ = some (.int .u32 p.tm) := (World.cell?_setCell_other _ _ _ _ (by simp)).trans e3
    have k4 : (w3.setCell ⟨w.heap.size + 1, 0, none⟩ (.int .i64 0)).cell? ⟨w.heap.size, 4, none⟩ = some (.int .u32 p.sn) := (World.cell?_setCell_other _ _ _ _ (by simp)).trans e4
    have k5 : (w3.setCell ⟨w.heap.size + 1, 0, none⟩ (.int .i64 0)).cell? ⟨w.heap.size, 5, none⟩ = some (.int .u32 p.sm) := (World.cell?_setCell_other _ _ _ _ (by simp)).trans e5
    have k6 : (w3.setCell ⟨w.heap.size + 1, 0, none⟩ (.int .i64 0)).cell? ⟨w.heap.size, 6, none⟩ = some (.int .u32 p.rn) := (World.cell?_setCell_other _ _ _ _ (by simp)).trans e6
    have k7 : (w3.setCell ⟨w.heap.size + 1, 0, none⟩ (.int .i64 0)).cell? ⟨w.heap.size, 7, none⟩ = some (.int .u32 p.rm) := (World.cell?_setCell_other _ _ _ _ (by simp)).trans e7
    have k8 : (w3.setCell ⟨w.heap.size + 1, 0, none⟩ (.int .i64 0)).cell? ⟨w.heap.size, 8, none⟩ = some (.int .u64 p.t) := (World.cell?_setCell_other _ _ _ _ (by simp)).trans e8
    have k9 : (w3.setCell ⟨w.heap.size + 1, 0, none⟩ (.int .i64 0)).cell? ⟨w.heap.size, 9, none⟩ = some (.int .u32 p.q) := (World.cell?_setCell_other _ _ _ _ (by simp)).trans e9x
    have k10 : (w3.setCell ⟨w.heap.size + 1, 0, none⟩ (.int .i64 0)).cell? ⟨w.heap.size, 10, none⟩ = some (.int .u64 p.l) := (World.cell?_setCell_other _ _ _ _ (by simp)).trans e10
    have k99 : (w3.setCell ⟨w.heap.size + 1, 0, none⟩ (.int .i64 0)).cell? ⟨w.heap.size + 1, 0, none⟩ = some (.int .i64 0) := World.cell?_setCell_same _ _ _ e9
    have hP : TrPm w (.ok p) (.returned (.tuple #[.agg #[.int .u32 p.f, .int .i64 p.s, .int .u32 p.tn, .int .u32 p.tm, .int .u32 p.sn, .int .u32 p.sm, .int .u32 p.rn, .int .u32 p.rm, .int .u64 p.t, .int .u32 p.q, .int .u64 p.l], .int .i64 0])) (w3.setCell ⟨w.heap.size + 1, 0, none⟩ (.int .i64 0)) := ⟨hbk.setCell (p := ⟨w.heap.size + 1, 0, none⟩) (Nat.le_succ _) _, rfl⟩
    refine leaves_cons (f := 60) (args := #[.pointer (some ⟨w.heap.size + 1, 0, none⟩)]) (by simp) (by simp [go_sem]) ?_
    refine (catchP_idle ⟨w.heap.size + 1, 0, none⟩ _).mono ?_
    rintro e u' w'' ⟨rfl, rfl, rfl⟩
    generalize w3.setCell ⟨w.heap.size + 1, 0, none⟩ (.int .i64 0) = w9 at *
    simp [Leaves, settle, results, Tryz.results37, go_sem, k0, k1, k2, k3, k4, k5, k6, k7, k8, k9, k10, k99]
    exact hP

end Go.Proofs.YtlmdbeccfoncpaaGreatDoor
