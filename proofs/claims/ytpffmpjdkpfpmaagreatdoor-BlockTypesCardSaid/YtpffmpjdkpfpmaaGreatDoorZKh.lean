/- Joined texts. -/
import Derived.Test.YtpffmpjdkpfpmaaGreatDoorZBy
import Derived.Test.YtpffmpjdkpfpmaaGreatDoorZJg
import Derived.Recover
import Derived.Test.YtpffmpjdkpfpmaaGreatDoorZJa
import Derived.Deep.RegionHeld3
import Derived.Sort.Grow
import Derived.Lib.Hide
namespace Go.Proofs.YtpffmpjdkpfpmaaGreatDoor
open Go Go.RowKit Go.Shelf
set_option linter.unusedSimpArgs false
set_option linter.unusedVariables false
set_option maxRecDepth 100000

end Go.Proofs.YtpffmpjdkpfpmaaGreatDoor

namespace Go.Proofs.YtpffmpjdkpfpmaaGreatDoor
open Go Go.RowKit Go.Shelf
set_option linter.unusedSimpArgs false
set_option linter.unusedVariables false
set_option maxRecDepth 100000

/-- A name's item. -/
def itN (n m t q : Nat) : It := itLs [itE n m, itU t, itU q]

end Go.Proofs.YtpffmpjdkpfpmaaGreatDoor

namespace Go.Proofs.YtpffmpjdkpfpmaaGreatDoor
open Go Go.RowKit Go.Shelf
set_option linter.unusedSimpArgs false
set_option linter.unusedVariables false

theorem Bt.put {R : Nat} {w w' : World} (h : Bt R w w') {p : Addr} (hp : w.heap.size ≤ p.block) (v : Value) : Bt R w (w'.setCell p v) :=
  ⟨h.os, h.tape, h.output, by rw [World.size_setCell]; exact h.size, fun k hk hne => (Below.heap_setCell w' _ _ k (by omega)).trans (h.block k hk hne)⟩

theorem Bt.drew {R : Nat} {w w' : World} (h : Bt R w w') : Bt R w w'.drew := ⟨h.os, h.tape, h.output, h.size, h.block⟩

theorem put2 {w : World} {b : Nat} {a0 a1 : Value} (v0 v1 : Value) (h0 : w.cell? ⟨b, 0, none⟩ = some a0) (h1 : w.cell? ⟨b, 1, none⟩ = some a1) :
    ((w.setCell ⟨b, 0, none⟩ v0).setCell ⟨b, 1, none⟩ v1).cell? ⟨b, 0, none⟩ = some v0 ∧ ((w.setCell ⟨b, 0, none⟩ v0).setCell ⟨b, 1, none⟩ v1).cell? ⟨b, 1, none⟩ = some v1 :=
  ⟨(World.cell?_setCell_other _ _ _ _ (by simp)).trans (World.cell?_setCell_same _ _ _ h0), World.cell?_setCell_same _ _ _ ((World.cell?_setCell_other _ _ _ _ (by simp)).trans h1)⟩

end Go.Proofs.YtpffmpjdkpfpmaaGreatDoor

namespace Go.Proofs.YtpffmpjdkpfpmaaGreatDoor
open Go Go.RowKit Go.Shelf
set_option linter.unusedSimpArgs false
set_option linter.unusedVariables false

/-- All lies as it lay but two blocks, and what is new. -/
structure Bt2 (R Q : Nat) (w w' : World) : Prop where
  os : w'.os = w.os
  tape : w'.tape = w.tape
  output : w'.output = w.output
  size : w.heap.size ≤ w'.heap.size
  block : ∀ k, k < w.heap.size → k ≠ R → k ≠ Q → w'.heap[k]? = w.heap[k]?

theorem Bt2.refl (R Q : Nat) (w : World) : Bt2 R Q w w := ⟨rfl, rfl, rfl, Nat.le_refl _, fun _ _ _ _ => rfl⟩
theorem Bt2.trans {R Q : Nat} {a b c : World} (h : Bt2 R Q a b) (k : Bt2 R Q b c) : Bt2 R Q a c :=
  ⟨k.os.trans h.os, k.tape.trans h.tape, k.output.trans h.output, Nat.le_trans h.size k.size, fun i hi h1 h2 => (k.block i (Nat.lt_of_lt_of_le hi h.size) h1 h2).trans (h.block i hi h1 h2)⟩
theorem Bt2.one {R Q : Nat} {a b : World} (h : Bt R a b) : Bt2 R Q a b := ⟨h.os, h.tape, h.output, h.size, fun k hk h1 _ => h.block k hk h1⟩
theorem Bt2.two {R Q : Nat} {a b : World} (h : Bt Q a b) : Bt2 R Q a b := ⟨h.os, h.tape, h.output, h.size, fun k hk _ h2 => h.block k hk h2⟩
theorem Bt2.of_below {R Q : Nat} {w w' : World} (h : Below w.heap.size w w') : Bt2 R Q w w' := ⟨h.os, h.tape, h.output, h.size, fun k hk _ _ => h.block k hk⟩
theorem Bt2.cell {R Q b o : Nat} {w w' : World} (h : Bt2 R Q w w') (hb : b < w.heap.size) (h1 : b ≠ R) (h2 : b ≠ Q) : w'.cell? ⟨b, o, none⟩ = w.cell? ⟨b, o, none⟩ :=
  World.cell?_of_block (w := w) (h.block b hb h1 h2)
theorem Bt2.frozen {R Q b o : Nat} {w w' : World} (h : Bt2 R Q w w') (hb : b < w.heap.size) (h1 : b ≠ R) (h2 : b ≠ Q) : w'.frozen? ⟨b, o, none⟩ = w.frozen? ⟨b, o, none⟩ :=
  World.frozen?_of_block (w := w) (h.block b hb h1 h2)
theorem Bt2.drew {R Q : Nat} {w w' : World} (h : Bt2 R Q w w') : Bt2 R Q w w'.drew := ⟨h.os, h.tape, h.output, h.size, h.block⟩
/-- Seen from ahead of the new block, one block alone. -/
theorem Bt2.bt {R Q : Nat} {a b c : World} (h : Bt R a b) (k : Bt2 R Q b c) (hQ : a.heap.size ≤ Q) : Bt R a c :=
  ⟨k.os.trans h.os, k.tape.trans h.tape, k.output.trans h.output, Nat.le_trans h.size k.size, fun i hi h1 => (k.block i (Nat.lt_of_lt_of_le hi h.size) h1 (by omega)).trans (h.block i hi h1)⟩

theorem TS.bt {w w' : World} {R Q : Nat} {s : List UInt8} (h : TS w R s) (hb : Bt Q w w') (hne : R ≠ Q) : TS w' R s :=
  ⟨(hb.cell h.2.2 hne).trans h.1, (hb.frozen h.2.2 hne).trans h.2.1, Nat.lt_of_lt_of_le h.2.2 hb.size⟩

end Go.Proofs.YtpffmpjdkpfpmaaGreatDoor

namespace Go.Proofs.YtpffmpjdkpfpmaaGreatDoor
open Go Go.RowKit Go.Shelf
set_option linter.unusedSimpArgs false
set_option linter.unusedVariables false

theorem nmAssert_errno (v : Value) (w : World) : (Instr.typeAssert (.iface 28 v) 20 28 false).run Tryz.prog w = .ok v w := by
  simp [Instr.typeAssert, run_underlying Tryz.underlying28]

set_option maxRecDepth 100000 in
set_option maxHeartbeats 1000000 in
theorem catchE_gives (p : Addr) (x c : Int) (w : World) (hc : w.cell? p = some (.int .i64 x)) (hz : w.frozen? p = false) :
    CallsD Tryz.prog 283 #[.pointer (some p)] (.panicking [{ v := .iface 28 (.int .i64 c), recovered := false }]) w fun e u' w' =>
      e = .returned (.tuple #[]) ∧ u' = .panicking [{ v := .iface 28 (.int .i64 c), recovered := true }] ∧ w' = w.setCell p (.int .i64 c) := by
  refine callsD_of_wpS Tryz.func283 rfl fun c₀ cs hu => ?_
  apply wpS_seq
  apply wpS_region
  simp [wpOpsS, go_sem, recoverD, hu, Tryz.ntmps283, Exit.thenS]
  refine wpS_of_wp ?_
  change Code.wp _ _ _ { tmps := #[.pointer (some p), .iface 28 (.int .i64 c), .iface 28 (.int .i64 c), undef, undef, undef, undef], defers := [] } _
  have has := nmAssert_errno (.int .i64 c)
  go_wp2_with fail
  cases c₀
  simp_all [bodyPostS, results, Tryz.results283]

theorem catchE_idle (p : Addr) (w : World) :
    CallsD Tryz.prog 283 #[.pointer (some p)] .returning w fun e u' w' => e = .returned (.tuple #[]) ∧ u' = .returning ∧ w' = w := by
  refine callsD_of_wpS Tryz.func283 rfl fun c₀ cs hu => ?_
  apply wpS_seq
  apply wpS_region
  simp [wpOpsS, go_sem, recoverD, hu, Tryz.ntmps283, Exit.thenS]
  refine wpS_of_wp ?_
  change Code.wp _ _ _ { tmps := #[.pointer (some p), .nilIface, .nilIface, undef, undef, undef, undef], defers := [] } _
  go_wp2_with fail
  cases c₀
  simp_all [bodyPostS, results, Tryz.results283]

/-- What a function of no arguments that reads this answers. -/
def RdE (w : World) (r : Except Int (Nat × Nat)) (e : Ending) (w' : World) : Prop :=
  Below w.heap.size w w' ∧ match r with
    | .ok ⟨n, m⟩ => e = .returned (.agg #[.int .u32 n, .int .u32 m])
    | .error c => e = nmGives c

end Go.Proofs.YtpffmpjdkpfpmaaGreatDoor

namespace Go.Proofs.YtpffmpjdkpfpmaaGreatDoor
open Go Go.RowKit Go.Shelf
set_option linter.unusedSimpArgs false
set_option linter.unusedVariables false

/-- What tried answers. -/
def TrE (w : World) (r : Except Int (Nat × Nat)) (e : Ending) (w' : World) : Prop :=
  Below w.heap.size w w' ∧ match r with
    | .ok ⟨n, m⟩ => e = .returned (.tuple #[.agg #[.int .u32 n, .int .u32 m], .int .i64 0])
    | .error c => e = .returned (.tuple #[.agg #[.int .u32 0, .int .u32 0], .int .i64 c])

set_option maxRecDepth 100000 in
set_option maxHeartbeats 4000000 in
theorem triedE_any (fc : Nat) (lb : Array Value) (r : Except Int (Nat × Nat)) (w : World) (hent : ∀ args w, (callFunc fc args).run Tryz.prog w = .ok (.enter fc args) w) (hR : ∀ w', Below w.heap.size w w' → Calls Tryz.prog fc lb w' (RdE w' r)) :
    Calls Tryz.prog 264 #[.func (.func fc) #[] lb] w (TrE w r) := by
  have hmf : ∀ (fn : Fn) (first cap : Array Value) (w : World), (Instr.makeFunc fn first cap).run Tryz.prog w = .ok (.func fn first cap) w := fun _ _ _ _ => rfl
  obtain ⟨W, hW⟩ : ∃ W, W = (w.alloc (.cells #[.int .u32 0, .int .u32 0] 41)).alloc (.cells #[.int .i64 0] 28) := ⟨_, rfl⟩
  have hbW : Below w.heap.size w W := by rw [hW]; exact below_al (below_al (Below.refl _ _) _) _
  have hsW : W.heap.size ≤ w.heap.size + 2 ∧ w.heap.size + 2 ≤ W.heap.size := by rw [hW]; simp
  have HC : Hid (∀ w', Below W.heap.size W w' → ((w'.cell? ⟨w.heap.size, 0, none⟩ = some (.int .u32 0) ∧ w'.cell? ⟨w.heap.size, 1, none⟩ = some (.int .u32 0)) ∧ ∀ i, w'.frozen? ⟨w.heap.size, i, none⟩ = false) ∧ w'.cell? ⟨w.heap.size + 1, 0, none⟩ = some (.int .i64 0) ∧ w'.frozen? ⟨w.heap.size + 1, 0, none⟩ = false) := fun w' hb => by
    have hh : ∀ i, w'.cell? ⟨w.heap.size, i, none⟩ = W.cell? ⟨w.heap.size, i, none⟩ := fun i => hb.cell (p := ⟨w.heap.size, i, none⟩) (show w.heap.size < _ by omega)
    have hf : ∀ i, w'.frozen? ⟨w.heap.size, i, none⟩ = W.frozen? ⟨w.heap.size, i, none⟩ := fun i => hb.frozen (p := ⟨w.heap.size, i, none⟩) (show w.heap.size < _ by omega)
    refine ⟨⟨⟨(hh 0).trans (by rw [hW]; simp), (hh 1).trans (by rw [hW]; simp)⟩, fun i => (hf i).trans (by rw [hW]; simp)⟩, (hb.cell (p := ⟨w.heap.size + 1, 0, none⟩) (show w.heap.size + 1 < _ by omega)).trans ?_, (hb.frozen (p := ⟨w.heap.size + 1, 0, none⟩) (show w.heap.size + 1 < _ by omega)).trans ?_⟩
    · rw [hW, ← World.size_alloc w (.cells #[.int .u32 0, .int .u32 0] 41), World.cell?_alloc_mark]
      rfl
    · rw [hW, ← World.size_alloc w (.cells #[.int .u32 0, .int .u32 0] 41)]
      exact World.frozen?_alloc_new _ _ _ _
  have HB := Lib.hid hbW
  have HW := Lib.hid hW
  have HR := Lib.hid (hR W hbW)
  clear hW hbW hR
  go_enter_defers Tryz.func264, Tryz.ntmps264
  go_wp2_with fail
  rw [← HW.out]
  refine HR.out.mono ?_
  rintro e w1 ⟨hb1, hm⟩
  obtain ⟨⟨⟨d0, d1⟩, df⟩, ec, ef⟩ := HC.out w1 hb1
  have f0 := df 0
  have f1 := df 1
  have HB1 := Lib.hid (HB.out.trans (hb1.mono (by omega)))
  clear hb1 df
  cases r with
  | error q =>
    have hm : e = nmGives q := hm
    subst hm
    rw [nmGives_def]
    go_wp2_with fail
    refine leaves_cons (f := 283) (args := #[.pointer (some ⟨w.heap.size + 1, 0, none⟩)]) (by simp) (by simp [go_sem]) ?_
    refine (catchE_gives ⟨w.heap.size + 1, 0, none⟩ 0 q w1 ec ef).mono ?_
    rintro e u' w'' ⟨rfl, rfl, rfl⟩
    have k0 : (w1.setCell ⟨w.heap.size + 1, 0, none⟩ (.int .i64 q)).cell? ⟨w.heap.size, 0, none⟩ = some (.int .u32 0) := (World.cell?_setCell_other _ _ _ _ (by simp)).trans d0
    have k1 : (w1.setCell ⟨w.heap.size + 1, 0, none⟩ (.int .i64 q)).cell? ⟨w.heap.size, 1, none⟩ = some (.int .u32 0) := (World.cell?_setCell_other _ _ _ _ (by simp)).trans d1
    have k9 : (w1.setCell ⟨w.heap.size + 1, 0, none⟩ (.int .i64 q)).cell? ⟨w.heap.size + 1, 0, none⟩ = some (.int .i64 q) := World.cell?_setCell_same _ _ _ ec
    have hP : TrE w (.error q) (.returned (.tuple #[.agg #[.int .u32 0, .int .u32 0], .int .i64 q])) (w1.setCell ⟨w.heap.size + 1, 0, none⟩ (.int .i64 q)) := ⟨HB1.out.setCell (p := ⟨w.heap.size + 1, 0, none⟩) (Nat.le_succ _) _, rfl⟩
    generalize w1.setCell ⟨w.heap.size + 1, 0, none⟩ (.int .i64 q) = w9 at *
    simp [Leaves, settle, results, Tryz.results264, go_sem, k0, k1, k9]
    exact hP
  | ok p =>
    obtain ⟨n, m⟩ := p
    have hm : e = .returned (.agg #[.int .u32 n, .int .u32 m]) := hm
    subst hm
    go_wp2_with fail
    obtain ⟨e0, e1⟩ := put2 (.int .u32 (n : Int)) (.int .u32 (m : Int)) d0 d1
    have hbk : Below w.heap.size w (((w1.setCell ⟨w.heap.size, 0, none⟩ (.int .u32 (n : Int))).setCell ⟨w.heap.size, 1, none⟩ (.int .u32 (m : Int)))) := ((HB1.out.setCell (p := ⟨w.heap.size, 0, none⟩) (Nat.le_refl _) _).setCell (p := ⟨w.heap.size, 1, none⟩) (Nat.le_refl _) _)
    have e9 : (((w1.setCell ⟨w.heap.size, 0, none⟩ (.int .u32 (n : Int))).setCell ⟨w.heap.size, 1, none⟩ (.int .u32 (m : Int)))).cell? ⟨w.heap.size + 1, 0, none⟩ = some (.int .i64 0) := ((World.cell?_setCell_other _ _ _ _ (by simp)).trans ((World.cell?_setCell_other _ _ _ _ (by simp)).trans ec))
    generalize ((w1.setCell ⟨w.heap.size, 0, none⟩ (.int .u32 (n : Int))).setCell ⟨w.heap.size, 1, none⟩ (.int .u32 (m : Int))) = w3 at *
    have k0 : (w3.setCell ⟨w.heap.size + 1, 0, none⟩ (.int .i64 0)).cell? ⟨w.heap.size, 0, none⟩ = some (.int .u32 n) := (World.cell?_setCell_other _ _ _ _ (by simp)).trans e0
    have k1 : (w3.setCell ⟨w.heap.size + 1, 0, none⟩ (.int .i64 0)).cell? ⟨w.heap.size, 1, none⟩ = some (.int .u32 m) := (World.cell?_setCell_other _ _ _ _ (by simp)).trans e1
    have k9 : (w3.setCell ⟨w.heap.size + 1, 0, none⟩ (.int .i64 0)).cell? ⟨w.heap.size + 1, 0, none⟩ = some (.int .i64 0) := World.cell?_setCell_same _ _ _ e9
    have hP : TrE w (.ok (n, m)) (.returned (.tuple #[.agg #[.int .u32 n, .int .u32 m], .int .i64 0])) (w3.setCell ⟨w.heap.size + 1, 0, none⟩ (.int .i64 0)) := ⟨hbk.setCell (p := ⟨w.heap.size + 1, 0, none⟩) (Nat.le_succ _) _, rfl⟩
    refine leaves_cons (f := 283) (args := #[.pointer (some ⟨w.heap.size + 1, 0, none⟩)]) (by simp) (by simp [go_sem]) ?_
    refine (catchE_idle ⟨w.heap.size + 1, 0, none⟩ _).mono ?_
    rintro e u' w'' ⟨rfl, rfl, rfl⟩
    generalize w3.setCell ⟨w.heap.size + 1, 0, none⟩ (.int .i64 0) = w9 at *
    simp [Leaves, settle, results, Tryz.results264, go_sem, k0, k1, k9]
    exact hP

theorem trE_agg {w w' : World} {r : Except Int (Nat × Nat)} {e : Ending} (h : TrE w r e w') : ∃ (n m : Nat) (c : Int), e = .returned (.tuple #[.agg #[.int .u32 n, .int .u32 m], .int .i64 c]) ∧ (r = .ok (n, m) ∧ c = 0 ∨ r = .error c ∧ n = 0 ∧ m = 0) := by
  obtain ⟨_, h⟩ := h
  cases r with
  | error q => exact ⟨0, 0, q, h, .inr ⟨rfl, rfl, rfl⟩⟩
  | ok p =>
    obtain ⟨n, m⟩ := p
    exact ⟨n, m, 0, h, .inl ⟨rfl, rfl⟩⟩

theorem trE_of {w w' : World} {r : Except Int (Nat × Nat)} {n m : Nat} {c : Int} (h : r = .ok (n, m) ∧ c = 0 ∨ r = .error c ∧ n = 0 ∧ m = 0) (hb : Below w.heap.size w w') : TrE w r (.returned (.tuple #[.agg #[.int .u32 n, .int .u32 m], .int .i64 c])) w' := by
  rcases h with ⟨rfl, rfl⟩ | ⟨rfl, rfl, rfl⟩
  · exact ⟨hb, rfl⟩
  · exact ⟨hb, rfl⟩

end Go.Proofs.YtpffmpjdkpfpmaaGreatDoor

namespace Go.Proofs.YtpffmpjdkpfpmaaGreatDoor
open Go Go.RowKit Go.Shelf Go.Sort
set_option linter.unusedSimpArgs false
set_option linter.unusedVariables false

/-- What has come of w by draws and new blocks alone. -/
def GrownQ (w w' : World) : Prop := ∃ q os, w' = grow (w.drewN q) os

theorem drewN_grow (w : World) (os : Array Obj) (q : Nat) : (grow w os).drewN q = grow (w.drewN q) os := rfl

theorem GrownQ.refl (w : World) : GrownQ w w := ⟨0, #[], by rw [grow_empty]; rfl⟩
theorem GrownQ.drew {w w' : World} (h : GrownQ w w') (n : Nat) : GrownQ w (w'.drewN n) := by
  obtain ⟨q, os, rfl⟩ := h
  exact ⟨q + n, os, by rw [drewN_grow, World.drewN_drewN]⟩
theorem GrownQ.alloc {w w' : World} (h : GrownQ w w') (o : Obj) : GrownQ w (w'.alloc o) := by
  obtain ⟨q, os, rfl⟩ := h
  exact ⟨q, os ++ #[o], by rw [alloc_eq_grow, grow_grow]⟩

theorem GrownQ.trans {a b c : World} (h : GrownQ a b) (k : GrownQ b c) : GrownQ a c := by
  obtain ⟨q, os, rfl⟩ := h
  obtain ⟨p, os', rfl⟩ := k
  exact ⟨q + p, os ++ os', by rw [drewN_grow, grow_grow, World.drewN_drewN]⟩
theorem GrownQ.cell {w w' : World} (h : GrownQ w w') {a : Addr} (ha : a.block < w.heap.size) : w'.cell? a = w.cell? a := by
  obtain ⟨q, os, rfl⟩ := h
  refine World.cell?_of_block ?_
  show ((w.drewN q).heap ++ os)[a.block]? = _
  rw [Array.getElem?_append_left (by simpa using ha)]
  rfl
theorem GrownQ.below {w w' : World} (h : GrownQ w w') : Below w.heap.size w w' := by
  obtain ⟨q, os, rfl⟩ := h
  refine ⟨rfl, rfl, rfl, by simp [grow], fun b hb => ?_⟩
  show ((w.drewN q).heap ++ os)[b]? = w.heap[b]?
  exact Array.getElem?_append_left hb

end Go.Proofs.YtpffmpjdkpfpmaaGreatDoor

namespace Go.Proofs.YtpffmpjdkpfpmaaGreatDoor
open Go Go.RowKit Go.Shelf Go.Sort
set_option linter.unusedSimpArgs false
set_option linter.unusedVariables false

end Go.Proofs.YtpffmpjdkpfpmaaGreatDoor

namespace Go.Proofs.YtpffmpjdkpfpmaaGreatDoor
open Go Go.RowKit Go.Shelf
set_option linter.unusedSimpArgs false
set_option linter.unusedVariables false

theorem d3 : Lib.decDigits 3 = [51] := by rw [dd_small (by decide)]; decide
theorem d5 : Lib.decDigits 5 = [53] := by rw [dd_small (by decide)]; decide
theorem d9 : Lib.decDigits 9 = [57] := by rw [dd_small (by decide)]; decide

end Go.Proofs.YtpffmpjdkpfpmaaGreatDoor

namespace Go.Proofs.YtpffmpjdkpfpmaaGreatDoor
open Go Go.RowKit Go.Shelf
set_option linter.unusedSimpArgs false
set_option linter.unusedVariables false
set_option maxRecDepth 100000

/-- A name: node, service, time, number. -/
structure NmT where
  n : Nat
  m : Nat
  t : Nat
  q : Nat

/-- What fits its types. -/
def NmT.ok (x : NmT) : Prop := (x.n ≤ 4294967295 ∧ x.m ≤ 4294967295) ∧ (x.t < 18446744073709551616 ∧ x.q ≤ 4294967295)
/-- May it be? -/
def NmT.may (x : NmT) : Bool := decide (0 < x.n) && decide (x.t ≤ forever)
def NmT.val (x : NmT) : Value := .agg #[.int .u32 x.n, .int .u32 x.m, .int .u64 x.t, .int .u32 x.q]
def NmT.it (x : NmT) : It := if x.may = true then itN x.n x.m x.t x.q else .mk 0 0 [] [] []

theorem NmT.ext' {x y : NmT} (h0 : x.n = y.n) (h1 : x.m = y.m) (h2 : x.t = y.t) (h3 : x.q = y.q) : x = y := by
  cases x; cases y; simp_all

/-- Are they the same? -/
def NmT.same (x y : NmT) : Bool := (x.n == y.n && x.m == y.m) && (x.t == y.t && x.q == y.q)
theorem NmT.same_iff {x y : NmT} : x.same y = true ↔ x = y := by
  constructor
  · intro h
    simp only [NmT.same, Bool.and_eq_true, beq_iff_eq] at h
    exact NmT.ext' h.1.1 h.1.2 h.2.1 h.2.2
  · rintro rfl
    simp [NmT.same]

end Go.Proofs.YtpffmpjdkpfpmaaGreatDoor

namespace Go.Proofs.YtpffmpjdkpfpmaaGreatDoor
open Go Go.RowKit Go.Shelf
set_option linter.unusedSimpArgs false
set_option linter.unusedVariables false
set_option maxRecDepth 100000

end Go.Proofs.YtpffmpjdkpfpmaaGreatDoor

namespace Go.Proofs.YtpffmpjdkpfpmaaGreatDoor
open Go Go.RowKit Go.Shelf
set_option linter.unusedSimpArgs false
set_option linter.unusedVariables false
set_option maxRecDepth 100000





end Go.Proofs.YtpffmpjdkpfpmaaGreatDoor
