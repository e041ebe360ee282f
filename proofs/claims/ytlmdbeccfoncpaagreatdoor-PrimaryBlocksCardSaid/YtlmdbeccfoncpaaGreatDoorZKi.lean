/- Joined texts. -/
import Derived.Test.YtlmdbeccfoncpaaGreatDoorZKh
import Derived.Test.YtlmdbeccfoncpaaGreatDoorZJg
import Derived.Recover
namespace Go.Proofs.YtlmdbeccfoncpaaGreatDoor
open Go Go.RowKit Go.Shelf
set_option linter.unusedSimpArgs false
set_option linter.unusedVariables false

/-- All lies as it lay but two blocks, and what is new. -/
structure Bt2 (R Q : Nat) (w w' : World) : Prop where
  os : w'.os = w.os
  tape : w'.tape = w.tape
  output : w'.output = w.output
  size : w.heap.size ≤ w'.heap.size
  block : ∀ k, k < w.heap.size → k ≠ R → k ≠ Q → w'.heap[k]? = w.heap[k]?

theorem Bt2.refl (R Q : Nat) (w : World) : Bt2 R Q w w := ⟨rfl, rfl, rfl, Nat.le_refl _, fun _ _ _ _ => rfl⟩
theorem Bt2.trans {R Q : Nat} {a b c : World} (h : Bt2 R Q a b) (k : Bt2 R Q b c) : Bt2 R Q a c :=
  ⟨k.os.trans h.os, k.tape.trans h.tape, k.output.trans h.output, Nat.le_trans h.size k.size, fun i hi h1 h2 => (k.block i (Nat.lt_of_lt_of_le hi h.size) h1 h2).trans (h.block i hi h1 h2)⟩
theorem Bt2.one {R Q : Nat} {a b : World} (h : Bt R a b) : Bt2 R Q a b := ⟨h.os, h.tape, h.output, h.size, fun k hk h1 _ => h.block k hk h1⟩
theorem Bt2.two {R Q : Nat} {a b : World} (h : Bt Q a b) : Bt2 R Q a b := ⟨h.os, h.tape, h.output, h.size, fun k hk _ h2 => h.block k hk h2⟩
theorem Bt2.of_below {R Q : Nat} {w w' : World} (h : Below w.heap.size w w') : Bt2 R Q w w' := ⟨h.os, h.tape, h.output, h.size, fun k hk _ _ => h.block k hk⟩
theorem Bt2.cell {R Q b o : Nat} {w w' : World} (h : Bt2 R Q w w') (hb : b < w.heap.size) (h1 : b ≠ R) (h2 : b ≠ Q) : w'.cell? ⟨b, o, none⟩ = w.cell? ⟨b, o, none⟩ :=
  World.cell?_of_block (w := w) (h.block b hb h1 h2)
theorem Bt2.frozen {R Q b o : Nat} {w w' : World} (h : Bt2 R Q w w') (hb : b < w.heap.size) (h1 : b ≠ R) (h2 : b ≠ Q) : w'.frozen? ⟨b, o, none⟩ = w.frozen? ⟨b, o, none⟩ :=
  World.frozen?_of_block (w := w) (h.block b hb h1 h2)
theorem Bt2.drew {R Q : Nat} {w w' : World} (h : Bt2 R Q w w') : Bt2 R Q w w'.drew := ⟨h.os, h.tape, h.output, h.size, h.block⟩
/-- Seen from ahead of the new block, one block alone. -/
theorem Bt2.bt {R Q : Nat} {a b c : World} (h : Bt R a b) (k : Bt2 R Q b c) (hQ : a.heap.size ≤ Q) : Bt R a c :=
  ⟨k.os.trans h.os, k.tape.trans h.tape, k.output.trans h.output, Nat.le_trans h.size k.size, fun i hi h1 => (k.block i (Nat.lt_of_lt_of_le hi h.size) h1 (by omega)).trans (h.block i hi h1)⟩

theorem TS.bt {w w' : World} {R Q : Nat} {s : List UInt8} (h : TS w R s) (hb : Bt Q w w') (hne : R ≠ Q) : TS w' R s :=
  ⟨(hb.cell h.2.2 hne).trans h.1, (hb.frozen h.2.2 hne).trans h.2.1, Nat.lt_of_lt_of_le h.2.2 hb.size⟩

/-- What name answers. -/
def NmP (w : World) (R : Nat) (s : List UInt8) (e : Ending) (w' : World) : Prop :=
  Bt R w w' ∧ match nmN s with
    | some (n, m, t, q) => e = .returned (.agg #[.int .u32 n, .int .u32 m, .int .u64 t, .int .u32 q])
    | none => e = nmGives 130

theorem nmP_no {w w' : World} {R : Nat} {s : List UInt8} (hb : Bt R w w') (h : nmN s = none) : NmP w R s (nmGives 130) w' := ⟨hb, by rw [h]⟩
theorem nmP_yes {w w' : World} {R n m t q : Nat} {s : List UInt8} (hb : Bt R w w') (h : nmN s = some (n, m, t, q)) : NmP w R s (.returned (.agg #[.int .u32 n, .int .u32 m, .int .u64 t, .int .u32 q])) w' := ⟨hb, by rw [h]⟩

theorem nm_cut {s : List UInt8} (h : cutL 32 s = none) : nmN s = none := by simp [nmN, h]
theorem nm_two {s a r : List UInt8} (h : cutL 32 s = some (a, r)) : nmN s = match epN a with
      | none => none
      | some (n, m) => match cutL 32 r with
        | none => none
        | some (b, c) => match nmNumN b with
          | none => none
          | some t => match nmNumN c with
            | none => none
            | some q => if nmB n t q = true then some (n, m, t, q) else none := by
  simp only [nmN, h]
  cases cutL 32 r with
  | none => cases epN a <;> rfl
  | some p =>
    obtain ⟨b, c⟩ := p
    simp only []
    cases epN a with
    | none => rfl
    | some p =>
      obtain ⟨n, m⟩ := p
      simp only []
      cases nmNumN b with
      | none => rfl
      | some t =>
        cases nmNumN c with
        | none => rfl
        | some q => simp [nmB]

end Go.Proofs.YtlmdbeccfoncpaaGreatDoor

namespace Go.Proofs.YtlmdbeccfoncpaaGreatDoor
open Go Go.RowKit Go.Shelf
set_option linter.unusedSimpArgs false
set_option linter.unusedVariables false

theorem nmAssert_errno (v : Value) (w : World) : (Instr.typeAssert (.iface 30 v) 20 30 false).run Tryz.prog w = .ok v w := by
  simp [Instr.typeAssert, run_underlying Tryz.underlying30]

set_option maxRecDepth 100000 in
set_option maxHeartbeats 1000000 in
theorem catchE_gives (p : Addr) (x c : Int) (w : World) (hc : w.cell? p = some (.int .i64 x)) (hz : w.frozen? p = false) :
    CallsD Tryz.prog 149 #[.pointer (some p)] (.panicking [{ v := .iface 30 (.int .i64 c), recovered := false }]) w fun e u' w' =>
      e = .returned (.tuple #[]) ∧ u' = .panicking [{ v := .iface 30 (.int .i64 c), recovered := true }] ∧ w' = w.setCell p (.int .i64 c) := by
  refine callsD_of_wpS Tryz.func149 rfl fun c₀ cs hu => ?_
  apply wpS_seq
  apply wpS_region
  simp [wpOpsS, go_sem, recoverD, hu, Tryz.ntmps149, Exit.thenS]
  refine wpS_of_wp ?_
  change Code.wp _ _ _ { tmps := #[.pointer (some p), .iface 30 (.int .i64 c), .iface 30 (.int .i64 c), undef, undef, undef, undef], defers := [] } _
  have has := nmAssert_errno (.int .i64 c)
  go_wp2_with fail
  cases c₀
  simp_all [bodyPostS, results, Tryz.results149]

theorem catchE_idle (p : Addr) (w : World) :
    CallsD Tryz.prog 149 #[.pointer (some p)] .returning w fun e u' w' => e = .returned (.tuple #[]) ∧ u' = .returning ∧ w' = w := by
  refine callsD_of_wpS Tryz.func149 rfl fun c₀ cs hu => ?_
  apply wpS_seq
  apply wpS_region
  simp [wpOpsS, go_sem, recoverD, hu, Tryz.ntmps149, Exit.thenS]
  refine wpS_of_wp ?_
  change Code.wp _ _ _ { tmps := #[.pointer (some p), .nilIface, .nilIface, undef, undef, undef, undef], defers := [] } _
  go_wp2_with fail
  cases c₀
  simp_all [bodyPostS, results, Tryz.results149]

/-- What a function of no arguments that reads this answers. -/
def RdE (w : World) (r : Except Int (Nat × Nat)) (e : Ending) (w' : World) : Prop :=
  Below w.heap.size w w' ∧ match r with
    | .ok ⟨n, m⟩ => e = .returned (.agg #[.int .u32 n, .int .u32 m])
    | .error c => e = nmGives c

/-- What is read of a text, or why it is not. -/
def rdE (s : List UInt8) : Except Int (Nat × Nat) := if 100 < s.length then .error 3 else match epN s with
    | some p => .ok p
    | none => .error 130

/-- What a function of no arguments that reads this answers. -/
def RdN (w : World) (r : Except Int (Nat × Nat × Nat × Nat)) (e : Ending) (w' : World) : Prop :=
  Below w.heap.size w w' ∧ match r with
    | .ok ⟨n, m, t, q⟩ => e = .returned (.agg #[.int .u32 n, .int .u32 m, .int .u64 t, .int .u32 q])
    | .error c => e = nmGives c

/-- What is read of a text, or why it is not. -/
def rdN (s : List UInt8) : Except Int (Nat × Nat × Nat × Nat) := if 100 < s.length then .error 3 else match nmN s with
    | some p => .ok p
    | none => .error 130

end Go.Proofs.YtlmdbeccfoncpaaGreatDoor

namespace Go.Proofs.YtlmdbeccfoncpaaGreatDoor
open Go Go.RowKit Go.Shelf
set_option linter.unusedSimpArgs false
set_option linter.unusedVariables false

/-- What tried answers. -/
def TrE (w : World) (r : Except Int (Nat × Nat)) (e : Ending) (w' : World) : Prop :=
  Below w.heap.size w w' ∧ match r with
    | .ok ⟨n, m⟩ => e = .returned (.tuple #[.agg #[.int .u32 n, .int .u32 m], .int .i64 0])
    | .error c => e = .returned (.tuple #[.agg #[.int .u32 0, .int .u32 0], .int .i64 c])

set_option maxRecDepth 100000 in
set_option maxHeartbeats 4000000 in
theorem triedE_any (fc : Nat) (lb : Array Value) (r : Except Int (Nat × Nat)) (w : World) (hent : ∀ args w, (callFunc fc args).run Tryz.prog w = .ok (.enter fc args) w) (hR : ∀ w', Below w.heap.size w w' → Calls Tryz.prog fc lb w' (RdE w' r)) :
    Calls Tryz.prog 139 #[.func (.func fc) #[] lb] w (TrE w r) := by
  have hmf : ∀ (fn : Fn) (first cap : Array Value) (w : World), (Instr.makeFunc fn first cap).run Tryz.prog w = .ok (.func fn first cap) w := fun _ _ _ _ => rfl
  obtain ⟨W, hW⟩ : ∃ W, W = (w.alloc (.cells #[.int .u32 0, .int .u32 0] 25)).alloc (.cells #[.int .i64 0] 30) := ⟨_, rfl⟩
  have hbW : Below w.heap.size w W := by rw [hW]; exact below_al (below_al (Below.refl _ _) _) _
  have hsW : W.heap.size ≤ w.heap.size + 2 ∧ w.heap.size + 2 ≤ W.heap.size := by rw [hW]; simp
  have HC : Hid (∀ w', Below W.heap.size W w' → ((w'.cell? ⟨w.heap.size, 0, none⟩ = some (.int .u32 0) ∧ w'.cell? ⟨w.heap.size, 1, none⟩ = some (.int .u32 0)) ∧ ∀ i, w'.frozen? ⟨w.heap.size, i, none⟩ = false) ∧ w'.cell? ⟨w.heap.size + 1, 0, none⟩ = some (.int .i64 0) ∧ w'.frozen? ⟨w.heap.size + 1, 0, none⟩ = false) := fun w' hb => by
    have hh : ∀ i, w'.cell? ⟨w.heap.size, i, none⟩ = W.cell? ⟨w.heap.size, i, none⟩ := fun i => hb.cell (p := ⟨w.heap.size, i, none⟩) (show w.heap.size < _ by omega)
    have hf : ∀ i, w'.frozen? ⟨w.heap.size, i, none⟩ = W.frozen? ⟨w.heap.size, i, none⟩ := fun i => hb.frozen (p := ⟨w.heap.size, i, none⟩) (show w.heap.size < _ by omega)
    refine ⟨⟨⟨(hh 0).trans (by rw [hW]; simp), (hh 1).trans (by rw [hW]; simp)⟩, fun i => (hf i).trans (by rw [hW]; simp)⟩, (hb.cell (p := ⟨w.heap.size + 1, 0, none⟩) (show w.heap.size + 1 < _ by omega)).trans ?_, (hb.frozen (p := ⟨w.heap.size + 1, 0, none⟩) (show w.heap.size + 1 < _ by omega)).trans ?_⟩
    · rw [hW, ← World.size_alloc w (.cells #[.int .u32 0, .int .u32 0] 25), World.cell?_alloc_mark]
      rfl
    · rw [hW, ← World.size_alloc w (.cells #[.int .u32 0, .int .u32 0] 25)]
      exact World.frozen?_alloc_new _ _ _ _
  have HB := Lib.hid hbW
  have HW := Lib.hid hW
  have HR := Lib.hid (hR W hbW)
  clear hW hbW hR
  go_enter_defers Tryz.func139, Tryz.ntmps139
  go_wp2_with fail
  rw [← HW.out]
  refine HR.out.mono ?_
  rintro e w1 ⟨hb1, hm⟩
  obtain ⟨⟨⟨d0, d1⟩, df⟩, ec, ef⟩ := HC.out w1 hb1
  have f0 := df 0
  have f1 := df 1
  have HB1 := Lib.hid (HB.out.trans (hb1.mono (by omega)))
  clear hb1 df
  cases r with
  | error q =>
    have hm : e = nmGives q := hm
    subst hm
    rw [nmGives_def]
    go_wp2_with fail
    refine leaves_cons (f := 149) (args := #[.pointer (some ⟨w.heap.size + 1, 0, none⟩)]) (by simp) (by simp [go_sem]) ?_
    refine (catchE_gives ⟨w.heap.size + 1, 0, none⟩ 0 q w1 ec ef).mono ?_
    rintro e u' w'' ⟨rfl, rfl, rfl⟩
    have k0 : (w1.setCell ⟨w.heap.size + 1, 0, none⟩ (.int .i64 q)).cell? ⟨w.heap.size, 0, none⟩ = some (.int .u32 0) := (World.cell?_setCell_other _ _ _ _ (by simp)).trans d0
    have k1 : (w1.setCell ⟨w.heap.size + 1, 0, none⟩ (.int .i64 q)).cell? ⟨w.heap.size, 1, none⟩ = some (.int .u32 0) := (World.cell?_setCell_other _ _ _ _ (by simp)).trans d1
    have k9 : (w1.setCell ⟨w.heap.size + 1, 0, none⟩ (.int .i64 q)).cell? ⟨w.heap.size + 1, 0, none⟩ = some (.int .i64 q) := World.cell?_setCell_same _ _ _ ec
    have hP : TrE w (.error q) (.returned (.tuple #[.agg #[.int .u32 0, .int .u32 0], .int .i64 q])) (w1.setCell ⟨w.heap.size + 1, 0, none⟩ (.int .i64 q)) := ⟨HB1.out.setCell (p := ⟨w.heap.size + 1, 0, none⟩) (Nat.le_succ _) _, rfl⟩
    generalize w1.setCell ⟨w.heap.size + 1, 0, none⟩ (.int .i64 q) = w9 at *
    simp [Leaves, settle, results, Tryz.results139, go_sem, k0, k1, k9]
    exact hP
  | ok p =>
    obtain ⟨n, m⟩ := p
    have hm : e = .returned (.agg #[.int .u32 n, .int .u32 m]) := hm
    subst hm
    go_wp2_with fail
    obtain ⟨e0, e1⟩ := put2 (.int .u32 (n : Int)) (.int .u32 (m : Int)) d0 d1
    have hbk : Below w.heap.size w (((w1.setCell ⟨w.heap.size, 0, none⟩ (.int .u32 (n : Int))).setCell ⟨w.heap.size, 1, none⟩ (.int .u32 (m : Int)))) := ((HB1.out.setCell (p := ⟨w.heap.size, 0, none⟩) (Nat.le_refl _) _).setCell (p := ⟨w.heap.size, 1, none⟩) (Nat.le_refl _) _)
    have e9 : (((w1.setCell ⟨w.heap.size, 0, none⟩ (.int .u32 (n : Int))).setCell ⟨w.heap.size, 1, none⟩ (.int .u32 (m : Int)))).cell? ⟨w.heap.size + 1, 0, none⟩ = some (.int .i64 0) := ((World.cell?_setCell_other _ _ _ _ (by simp)).trans ((World.cell?_setCell_other _ _ _ _ (by simp)).trans ec))
    generalize ((w1.setCell ⟨w.heap.size, 0, none⟩ (.int .u32 (n : Int))).setCell ⟨w.heap.size, 1, none⟩ (.int .u32 (m : Int))) = w3 at *
    have k0 : (w3.setCell ⟨w.heap.size + 1, 0, none⟩ (.int .i64 0)).cell? ⟨w.heap.size, 0, none⟩ = some (.int .u32 n) := (World.cell?_setCell_other _ _ _ _ (by simp)).trans e0
    have k1 : (w3.setCell ⟨w.heap.size + 1, 0, none⟩ (.int .i64 0)).cell? ⟨w.heap.size, 1, none⟩ = some (.int .u32 m) := (World.cell?_setCell_other _ _ _ _ (by simp)).trans e1
    have k9 : (w3.setCell ⟨w.heap.size + 1, 0, none⟩ (.int .i64 0)).cell? ⟨w.heap.size + 1, 0, none⟩ = some (.int .i64 0) := World.cell?_setCell_same _ _ _ e9
    have hP : TrE w (.ok (n, m)) (.returned (.tuple #[.agg #[.int .u32 n, .int .u32 m], .int .i64 0])) (w3.setCell ⟨w.heap.size + 1, 0, none⟩ (.int .i64 0)) := ⟨hbk.setCell (p := ⟨w.heap.size + 1, 0, none⟩) (Nat.le_succ _) _, rfl⟩
    refine leaves_cons (f := 149) (args := #[.pointer (some ⟨w.heap.size + 1, 0, none⟩)]) (by simp) (by simp [go_sem]) ?_
    refine (catchE_idle ⟨w.heap.size + 1, 0, none⟩ _).mono ?_
    rintro e u' w'' ⟨rfl, rfl, rfl⟩
    generalize w3.setCell ⟨w.heap.size + 1, 0, none⟩ (.int .i64 0) = w9 at *
    simp [Leaves, settle, results, Tryz.results139, go_sem, k0, k1, k9]
    exact hP

theorem trE_agg {w w' : World} {r : Except Int (Nat × Nat)} {e : Ending} (h : TrE w r e w') : ∃ (n m : Nat) (c : Int), e = .returned (.tuple #[.agg #[.int .u32 n, .int .u32 m], .int .i64 c]) ∧ (r = .ok (n, m) ∧ c = 0 ∨ r = .error c ∧ n = 0 ∧ m = 0) := by
  obtain ⟨_, h⟩ := h
  cases r with
  | error q => exact ⟨0, 0, q, h, .inr ⟨rfl, rfl, rfl⟩⟩
  | ok p =>
    obtain ⟨n, m⟩ := p
    exact ⟨n, m, 0, h, .inl ⟨rfl, rfl⟩⟩

theorem trE_of {w w' : World} {r : Except Int (Nat × Nat)} {n m : Nat} {c : Int} (h : r = .ok (n, m) ∧ c = 0 ∨ r = .error c ∧ n = 0 ∧ m = 0) (hb : Below w.heap.size w w') : TrE w r (.returned (.tuple #[.agg #[.int .u32 n, .int .u32 m], .int .i64 c])) w' := by
  rcases h with ⟨rfl, rfl⟩ | ⟨rfl, rfl, rfl⟩
  · exact ⟨hb, rfl⟩
  · exact ⟨hb, rfl⟩

/-- What tried answers. -/
def TrN (w : World) (r : Except Int (Nat × Nat × Nat × Nat)) (e : Ending) (w' : World) : Prop :=
  Below w.heap.size w w' ∧ match r with
    | .ok ⟨n, m, t, q⟩ => e = .returned (.tuple #[.agg #[.int .u32 n, .int .u32 m, .int .u64 t, .int .u32 q], .int .i64 0])
    | .error c => e = .returned (.tuple #[.agg #[.int .u32 0, .int .u32 0, .int .u64 0, .int .u32 0], .int .i64 c])

theorem trN_agg {w w' : World} {r : Except Int (Nat × Nat × Nat × Nat)} {e : Ending} (h : TrN w r e w') : ∃ (n m t q : Nat) (c : Int), e = .returned (.tuple #[.agg #[.int .u32 n, .int .u32 m, .int .u64 t, .int .u32 q], .int .i64 c]) ∧ (r = .ok (n, m, t, q) ∧ c = 0 ∨ r = .error c ∧ n = 0 ∧ m = 0 ∧ t = 0 ∧ q = 0) := by
  obtain ⟨_, h⟩ := h
  cases r with
  | error q => exact ⟨0, 0, 0, 0, q, h, .inr ⟨rfl, rfl, rfl, rfl, rfl⟩⟩
  | ok p =>
    obtain ⟨n, m, t, q⟩ := p
    exact ⟨n, m, t, q, 0, h, .inl ⟨rfl, rfl⟩⟩

theorem trN_of {w w' : World} {r : Except Int (Nat × Nat × Nat × Nat)} {n m t q : Nat} {c : Int} (h : r = .ok (n, m, t, q) ∧ c = 0 ∨ r = .error c ∧ n = 0 ∧ m = 0 ∧ t = 0 ∧ q = 0) (hb : Below w.heap.size w w') : TrN w r (.returned (.tuple #[.agg #[.int .u32 n, .int .u32 m, .int .u64 t, .int .u32 q], .int .i64 c])) w' := by
  rcases h with ⟨rfl, rfl⟩ | ⟨rfl, rfl, rfl, rfl, rfl⟩
  · exact ⟨hb, rfl⟩
  · exact ⟨hb, rfl⟩

end Go.Proofs.YtlmdbeccfoncpaaGreatDoor
