/- Joined texts. -/
import Derived.Test.YtkbnglcpcehaiaaDoorZJa
import Derived.DeepKeys4
import Derived.RegionTactic
import Derived.BigRegion
import Derived.Deep.QuietTactic
import Derived.BigQuiet
import Derived.StillTailTactics
import Derived.Deep.RegionHeld3
import Derived.ProofKit
import Derived.OpenShut
import Derived.ChangeOld
import Derived.SizedLaws
namespace Go.Proofs.YtkbnglcpcehaiaaDoor
open Go Go.RowKit Go.Shelf
open Go.Maps (Keyed)
set_option linter.unusedSimpArgs false
set_option linter.unusedVariables false
set_option maxRecDepth 100000

/-- A crossing: its gate, and whether it goes up. -/
abbrev Cr := UInt32 × Bool

def crV (x : Cr) : Value := .agg #[.int .u32 x.1.toNat, .bool x.2]
def atX (xs : List Cr) (k : Nat) : Cr := xs[k]?.getD (0, false)

theorem gate_lt (x : Cr) : (x.1.toNat : Int) < 4294967296 := by have := x.1.toNat_lt; omega

/-- Two cells that are a crossing's. -/
def CellX (w : World) (g o : Nat) (x : Cr) : Prop := w.cell? ⟨g, o, none⟩ = some (.int .u32 x.1.toNat) ∧ w.cell? ⟨g, o + 1, none⟩ = some (.bool x.2)

theorem CellX.kept {w w' : World} {g o : Nat} {x : Cr} (h : CellX w g o x) (hb : w'.heap[g]? = w.heap[g]?) : CellX w' g o x :=
  ⟨(World.cell?_of_block (a := ⟨g, o, none⟩) hb).trans h.1, (World.cell?_of_block (a := ⟨g, o + 1, none⟩) hb).trans h.2⟩

/-- A slice at a reads as these crossings. -/
def RdX (w : World) (B : Nat) (a : Option Addr) (xs : List Cr) : Prop := xs = [] ∨ ∃ b o, a = some ⟨b, o, none⟩ ∧ b < B ∧ ∀ j, j < xs.length → CellX w b (o + j * 2) (atX xs j)

theorem RdX.below {w w' : World} {B : Nat} {a : Option Addr} {xs : List Cr} (h : RdX w B a xs) (hb : Below B w w') : RdX w' B a xs := by
  rcases h with h | ⟨b, o, e, hlt, hc⟩
  · exact .inl h
  · exact .inr ⟨b, o, e, hlt, fun j hj => (hc j hj).kept (hb.block b hlt)⟩

theorem RdX.mono {w : World} {B B' : Nat} {a : Option Addr} {xs : List Cr} (h : RdX w B a xs) (hB : B ≤ B') : RdX w B' a xs := by
  rcases h with h | ⟨b, o, e, hlt, hc⟩
  · exact .inl h
  · exact .inr ⟨b, o, e, by omega, hc⟩

theorem RdX.on {w w' : World} {a : Option Addr} {xs : List Cr} (h : RdX w w.heap.size a xs) (hb : Below w.heap.size w w') : RdX w' w'.heap.size a xs := (h.below hb).mono hb.size

theorem RdX.cells {w : World} {B : Nat} {a : Option Addr} {xs : List Cr} (h : RdX w B a xs) (k : Nat) (hk : k < xs.length) : ∃ g o, a = some ⟨g, o, none⟩ ∧ g < B ∧ CellX w g (o + k * 2) (atX xs k) := by
  rcases h with rfl | ⟨b, o, rfl, hlt, hc⟩
  · simp at hk
  · exact ⟨b, o, rfl, hlt, hc k hk⟩

theorem RdX.take {w : World} {B : Nat} {a : Option Addr} {xs : List Cr} (h : RdX w B a xs) (n : Nat) : RdX w B a (xs.take n) := by
  rcases h with rfl | ⟨b, o, e, hlt, hc⟩
  · exact .inl (by simp)
  · refine .inr ⟨b, o, e, hlt, fun j hj => ?_⟩
    simp only [List.length_take] at hj
    have e1 : atX (xs.take n) j = atX xs j := by
      unfold atX
      rw [List.getElem?_take_of_lt (by omega)]
    rw [e1]
    exact hc j (by omega)

theorem take_atX (xs : List Cr) (k : Nat) (hk : k < xs.length) : xs.take (k + 1) = xs.take k ++ [atX xs k] := by
  rw [List.take_succ_eq_append_getElem hk]
  simp [atX, List.getElem?_eq_getElem hk]

theorem atX_mem (xs : List Cr) (k : Nat) (hk : k < xs.length) : atX xs k ∈ xs := by
  unfold atX
  rw [List.getElem?_eq_getElem hk]
  exact List.getElem_mem hk

/-- What a crossing reads as, as a key. -/
def keyX (x : Cr) : Lit := .string (keyBytes [.int .u32 x.1.toNat, .bool x.2])

theorem keyOf_cross (x : Cr) : keyOf Tryd.prog 27 (.agg #[.int .u32 x.1.toNat, .bool x.2]) = some (keyX x) := by
  have hw : (Lit.int .u32 (x.1.toNat : Int)).wf = true := by
    have := x.1.toNat_lt
    simp [Lit.wf, IntKind.min, IntKind.max, IntKind.signed, IntKind.bits]
    omega
  have h1 : Tryd.prog.keyType 27 = true := by kernel_rfl
  have c0 : Tryd.prog.cellsOf 25 = 1 := by kernel_rfl
  have c1 : Tryd.prog.cellsOf 4 = 1 := by kernel_rfl
  have c2 : Tryd.prog.cellsOf 27 = 2 := by kernel_rfl
  obtain ⟨m, hm⟩ : ∃ m, Tryd.prog.types.size = m + 1 := by
    have h0 : 0 < Tryd.prog.types.size := of_decide_eq_true (by kernel_rfl)
    exact ⟨Tryd.prog.types.size - 1, by omega⟩
  have lit : Tryd.prog.keyLits (m + 1 + 1) 27 (Value.agg #[.int .u32 x.1.toNat, .bool x.2]).cells.toList = some [.int .u32 x.1.toNat, .bool x.2] := by
    simp [Program.keyLits, Tryd.underlying27, Tryd.underlying25, Tryd.underlying4, c0, c1, c2, Value.cells, hw]
  unfold keyOf
  rw [Tryd.underlying27]
  simp only [h1, hm, lit]
  simp [Value.formed, Tryd.underlying27, keyX, c2]

theorem cross_keyed : Keyed Tryd.prog 27 := Keyed.of_law (deep_law_laid (by kernel_rfl) (m := 200) (by decide) (of_decide_eq_true (by kernel_rfl)) (by kernel_rfl) (by kernel_rfl))

theorem keyX_inj {x y : Cr} (h : keyX x = keyX y) : x = y := by
  have h1 := cross_keyed.inj (keyOf_cross x) (h ▸ keyOf_cross y)
  have h2 : [Value.int .u32 (x.1.toNat : Int), .bool x.2] = [.int .u32 (y.1.toNat : Int), .bool y.2] := congrArg (fun v => match v with | .agg l => l.toList | _ => []) h1
  simp only [List.cons.injEq, Value.int.injEq, Value.bool.injEq, true_and, and_true] at h2
  obtain ⟨g, u⟩ := x
  obtain ⟨g', u'⟩ := y
  simp only [Prod.mk.injEq]
  have h3 : (g.toNat : Int) = (g'.toNat : Int) := h2.1
  exact ⟨UInt32.toNat_inj.1 (by omega), h2.2⟩

theorem zero_int (w : World) : (zeroValue 3).run Tryd.prog w = .ok (.int .i64 0) w := by kernel_rfl

end Go.Proofs.YtkbnglcpcehaiaaDoor

namespace Go.Proofs.YtkbnglcpcehaiaaDoor
open Go Go.RowKit Go.Shelf
open Go.Maps (Keyed)
set_option linter.unusedSimpArgs false
set_option linter.unusedVariables false
set_option maxRecDepth 100000

abbrev DU := DataW Unit
def i64d (c : Int) : DU := .lit (.int .i64 c)

/-- A map of how often each crossing is there. -/
def CntD (D : DU) (xs : List Cr) : Prop :=
  (∀ y, D.atKey (keyX y) (i64d 0) = i64d (xs.count y)) ∧ (∀ y, Maps.has D (keyX y) = decide (y ∈ xs)) ∧ Maps.size D ≤ xs.length ∧ (Maps.size D = xs.length ↔ xs.Nodup)

theorem CntD.nil : CntD (.map []) [] := ⟨fun _ => rfl, fun _ => rfl, Nat.le_refl _, by simp [Maps.size_eq]⟩

theorem keyX_key (x : Cr) : WideAt.IsKeyLit (keyX x) := cross_keyed.key (keyOf_cross x)

theorem CntD.step {D : DU} {xs : List Cr} (h : CntD D xs) (hD : Maps.Tidy D) (x : Cr) : CntD (D.put (keyX x) (i64d ((xs.count x : Int) + 1))) (xs ++ [x]) := by
  obtain ⟨h1, h2, h3, h4⟩ := h
  have hs := Maps.size_put hD (k := keyX x) (i64d ((xs.count x : Int) + 1))
  refine ⟨fun y => ?_, fun y => ?_, ?_, ?_⟩
  · by_cases e : y = x
    · subst e
      rw [Maps.atKey_put_same hD.isMap (keyX_key _)]
      simp [i64d]
    · rw [Maps.atKey_put_other (fun hk => e (keyX_inj hk)), h1]
      have e' : ¬ x = y := fun q => e q.symm
      simp [List.count_append, List.count_singleton, e']
  · by_cases e : y = x
    · subst e
      rw [Maps.has_put_same hD.isMap (keyX_key _)]
      simp
    · rw [Maps.has_put_other (fun hk => e (keyX_inj hk)), h2]
      simp [e]
  · rw [hs]
    simp only [List.length_append, List.length_cons, List.length_nil]
    split <;> omega
  · rw [hs, h2]
    have hnd : (xs ++ [x]).Nodup ↔ xs.Nodup ∧ ¬ x ∈ xs := by
      rw [List.nodup_append]
      constructor
      · rintro ⟨a, _, b⟩
        exact ⟨a, fun hx => b x hx x (by simp) rfl⟩
      · rintro ⟨a, b⟩
        refine ⟨a, by simp, fun y hy z hz e => ?_⟩
        simp only [List.mem_singleton] at hz
        subst hz
        subst e
        exact b hy
    rw [hnd]
    simp only [List.length_append, List.length_cons, List.length_nil]
    by_cases hx : x ∈ xs
    · simp only [hx, decide_true, if_true, not_true_eq_false, and_false, iff_false]
      omega
    · simp only [hx, decide_false, Bool.false_eq_true, if_false, not_false_eq_true, and_true]
      rw [← h4]
      omega

/-- The crossings, where a call made the map. -/
def MapP (w w' : World) (b : Nat) (xs : List Cr) : Prop :=
  (∃ D : DU, w'.ownsMap Tryd.prog 27 (plainElem Tryd.prog 3) b xs.length D ∧ CntD D xs) ∧ w.heap.size ≤ b ∧ Below w.heap.size w w'

set_option maxHeartbeats 4000000 in
theorem there_any (bk : Bool) (a : Option Addr) (c : Nat) (xs : List Cr) (w : World) (hlen : xs.length ≤ 1000000) (hr : RdX w w.heap.size a xs) :
    Calls Tryd.prog 30 #[.agg #[.bool bk, .slice a xs.length c]] w fun e w' => ∃ b, e = .returned (.map (some b)) ∧ MapP w w' b xs := by
  have HR := Lib.hid hr
  have hmm := @run_makeMap Tryd.prog
  clear hr
  go_enter Tryd.func30, Tryd.ntmps30
  go_wp2_with fail
  go_loopw [11] (fun i wr => ∃ k : Nat, k ≤ xs.length ∧ i = .int .i64 k ∧ Hid ((∃ D : DU, wr.ownsMap Tryd.prog 27 (plainElem Tryd.prog 3) (w.heap.size + 1) k D ∧ CntD D (xs.take k)) ∧ Below w.heap.size w wr))
    (fun i _ => xs.length - (intOf i).toNat)
  case atStart =>
    refine ⟨0, Nat.zero_le _, rfl, ⟨.map [], ?_, by simpa using CntD.nil⟩, below_al (below_al (Below.refl _ _) _) _⟩
    have h := World.ownsMap_made (H := Unit) (w.alloc (.cells #[.bool bk, .slice a xs.length c] 68)) Tryd.prog 27 (plainElem Tryd.prog 3)
    rw [World.size_alloc] at h
    exact h
  case round =>
    obtain ⟨k, hk, rfl, HI⟩ := hrel
    by_cases hlt : k < xs.length
    · obtain ⟨g, o, rfl, hg, hc0⟩ := HR.out.cells k hlt
      have hc1 := hc0.kept (HI.out.2.block g hg)
      obtain ⟨q0, q1⟩ := hc1
      clear hc0
      obtain ⟨D, hown, hcnt⟩ := HI.out.1
      obtain ⟨W5, hW5⟩ : ∃ W, W = wr.alloc (.cells #[.int .u32 (atX xs k).1.toNat, .bool (atX xs k).2] 27) := ⟨_, rfl⟩
      have ho5 : W5.drew.ownsMap Tryd.prog 27 (plainElem Tryd.prog 3) (w.heap.size + 1) k D := by rw [hW5]; exact (hown.alloc _).drew
      obtain ⟨cc, st, w1, e0, e1, e2, e3, e4⟩ := incr_run cross_keyed Tryd.underlying70 Tryd.underlying3 zero_int ho5 (by unfold maxLen; omega) (keyOf_cross (atX xs k))
      have hcc : cc = ((xs.take k).count (atX xs k) : Int) := by
        have h := hcnt.1 (atX xs k)
        rw [i64d, e0] at h
        simpa [i64d] using h
      have hcc0 : 0 ≤ cc := by omega
      have hcc1 : cc ≤ 1000000 := by
        have := List.count_le_length (a := atX xs k) (l := xs.take k)
        simp only [List.length_take] at this
        omega
      obtain ⟨w2, e5, ho2, hg2⟩ := e4 (cc + 1) (by simp [Lit.wf, IntKind.min, IntKind.max, IntKind.signed, IntKind.bits]; omega)
      have HN : Hid ((∃ D : DU, w2.ownsMap Tryd.prog 27 (plainElem Tryd.prog 3) (w.heap.size + 1) (k + 1) D ∧ CntD D (xs.take (k + 1))) ∧ Below w.heap.size w w2) := by
        refine ⟨⟨_, ho2, ?_⟩, ?_⟩
        · rw [take_atX xs k hlt, hcc]
          exact hcnt.step (hown.tidy cross_keyed) _
        · have hb5 : Below w.heap.size w W5.drew := by rw [hW5]; exact (below_al HI.out.2 _).drew
          exact hb5.grown hg2 hb5.size (fun r e => by cases e; omega)
      have p0 : W5.drew.cell? ⟨wr.heap.size, 0, none⟩ = some (.int .u32 (atX xs k).1.toNat) := by rw [hW5]; simp
      have p1 : W5.drew.cell? ⟨wr.heap.size, 1, none⟩ = some (.bool (atX xs k).2) := by rw [hW5]; simp
      have HW5 := Lib.hid hW5
      clear hW5 e0 e4 hcc hg2 ho2 ho5 hown hcnt
      generalize atX xs k = x at *
      go_wp2_with fail
      rw [← HW5.out]
      go_region
      all_goals
        go_wp2_with fail
        go_roundw
        case rel => exact ⟨k + 1, by omega, by go_num, HN⟩
        case measure => simp [intOf]; omega
    · obtain rfl : k = xs.length := by omega
      have h := HI.out
      rw [List.take_length] at h
      have HI2 := Lib.hid h
      clear h HI
      go_wp2_with fail
      go_ret
      exact ⟨_, rfl, HI2.out.1, by omega, HI2.out.2⟩

end Go.Proofs.YtkbnglcpcehaiaaDoor

namespace Go.Proofs.YtkbnglcpcehaiaaDoor
open Go Go.RowKit Go.Shelf
set_option linter.unusedSimpArgs false
set_option linter.unusedVariables false
set_option maxRecDepth 100000

/-- Is it of no gate? -/
def noGate (x : Cr) : Bool := decide (x.1.toNat = 0)

set_option maxHeartbeats 1000000 in
theorem gateless_any (x : Cr) (w : World) : Calls Tryd.prog 29 #[.agg #[.int .u32 x.1.toNat, .bool x.2]] w fun e w' => e = .returned (.bool (noGate x)) ∧ Below w.heap.size w w' := by
  have hb : (((x.1.toNat : Nat) : Int) == 0) = noGate x := by
    unfold noGate
    by_cases h : x.1.toNat = 0 <;> simp [h]
  generalize noGate x = q at *
  have h0 := gate_lt x
  go_enter Tryd.func29, Tryd.ntmps29
  go_wp2_with fail
  go_ret
  exact ⟨rfl, below_al (Below.refl _ _) _⟩

theorem box2_all {w w' : World} {v0 v1 : Value} {t : TypeId} (h : Below (w.alloc (.cells #[v0, v1] t)).heap.size (w.alloc (.cells #[v0, v1] t)) w') : w'.cell? ⟨w.heap.size, 0, none⟩ = some v0 ∧ w'.cell? ⟨w.heap.size, 1, none⟩ = some v1 :=
  ⟨(h.cell (p := ⟨w.heap.size, 0, none⟩) (by simp)).trans (by rw [World.cell?_alloc_mark]; rfl), (h.cell (p := ⟨w.heap.size, 1, none⟩) (by simp)).trans (by rw [World.cell?_alloc_mark]; rfl)⟩

theorem box_at {w w' : World} {cs : Array Value} {t : TypeId} (h : Below (w.alloc (.cells cs t)).heap.size (w.alloc (.cells cs t)) w') (i : Nat) : w'.cell? ⟨w.heap.size, i, none⟩ = cs[i]? :=
  (h.cell (p := ⟨w.heap.size, i, none⟩) (by simp)).trans (by rw [World.cell?_alloc_mark])

theorem any_step {xs : List Cr} {k : Nat} (h : k < xs.length) (h1 : (xs.take k).any noGate = false) (h2 : noGate (atX xs k) = false) : (xs.take (k + 1)).any noGate = false := by
  rw [take_atX xs k h, List.any_append, h1]
  simp [h2]

theorem any_hit {xs : List Cr} {k : Nat} (h : k < xs.length) (h2 : noGate (atX xs k) = true) : xs.any noGate = true :=
  List.any_eq_true.2 ⟨_, atX_mem xs k h, h2⟩

set_option maxHeartbeats 4000000 in
theorem indexFunc_any (a : Option Addr) (c : Nat) (xs : List Cr) (w : World) (hlen : xs.length ≤ 1000000) (hr : RdX w w.heap.size a xs) :
    Calls Tryd.prog 70 #[.slice a xs.length c, .func (.func 29) #[] #[]] w fun e w' => (∃ i : Int, e = .returned (.int .i64 i) ∧ decide (0 ≤ i) = xs.any noGate ∧ -1 ≤ i ∧ i ≤ 1000000) ∧ Below w.heap.size w w' := by
  have HR := Lib.hid hr
  have HG := Lib.hid (fun x w => gateless_any x w)
  clear hr
  go_enter Tryd.func70, Tryd.ntmps70
  go_wp2_with fail
  go_loopw [8] (fun i wr => ∃ k : Nat, k ≤ xs.length ∧ i = .int .i64 k ∧ Hid ((xs.take k).any noGate = false ∧ Below w.heap.size w wr)) (fun i _ => xs.length - (intOf i).toNat)
  case atStart => exact ⟨0, Nat.zero_le _, rfl, by simp, Below.refl _ _⟩
  case round =>
    obtain ⟨k, hk, rfl, HI⟩ := hrel
    by_cases hlt : k < xs.length
    · obtain ⟨g, o, rfl, hg, hc0⟩ := HR.out.cells k hlt
      have hc1 := hc0.kept (HI.out.2.block g hg)
      obtain ⟨q0, q1⟩ := hc1
      clear hc0
      have HS : Hid (noGate (atX xs k) = false → (xs.take (k + 1)).any noGate = false) := any_step hlt HI.out.1
      have HH : Hid (noGate (atX xs k) = true → xs.any noGate = true) := any_hit hlt
      generalize atX xs k = x at *
      go_wp2_with fail
      refine (HG.out x wr).mono ?_
      rintro e w1 ⟨rfl, hb⟩
      have HB := Lib.hid (below_on HI.out.2 hb)
      clear hb q0 q1
      obtain ⟨q, hq⟩ : ∃ q, q = noGate x := ⟨_, rfl⟩
      rw [← hq]
      have HQ := Lib.hid hq
      clear hq
      cases q
      · go_wp2_with fail
        go_roundw
        case rel => exact ⟨k + 1, by omega, by go_num, HS.out HQ.out.symm, HB.out⟩
        case measure => simp [intOf]; omega
      · go_wp2_with fail
        go_ret
        exact ⟨⟨_, rfl, by rw [HH.out HQ.out.symm]; simp, by omega, by omega⟩, HB.out⟩
    · obtain rfl : k = xs.length := by omega
      have h := HI.out
      rw [List.take_length] at h
      have HI2 := Lib.hid h
      clear h HI
      go_wp2_with fail
      go_ret
      exact ⟨⟨-1, rfl, by rw [HI2.out.1]; rfl, by omega, by omega⟩, HI2.out.2⟩

set_option maxHeartbeats 1000000 in
theorem containsFunc_any (a : Option Addr) (c : Nat) (xs : List Cr) (w : World) (hlen : xs.length ≤ 1000000) (hr : RdX w w.heap.size a xs) :
    Calls Tryd.prog 47 #[.slice a xs.length c, .func (.func 29) #[] #[]] w fun e w' => e = .returned (.bool (xs.any noGate)) ∧ Below w.heap.size w w' := by
  have HC := Lib.hid (indexFunc_any a c xs w hlen hr)
  clear hr
  go_enter Tryd.func47, Tryd.ntmps47
  go_wp2_with fail
  refine HC.out.mono ?_
  rintro e w1 ⟨⟨i, rfl, hi, h0, h1⟩, hb⟩
  have HI := Lib.hid hi
  have HB := Lib.hid hb
  clear hi hb
  go_wp2_with fail
  go_ret
  exact ⟨by rw [← HI.out]; rfl, HB.out⟩

/-- May these be a path's crossings? -/
def rightX (xs : List Cr) : Bool := decide (xs.length ≤ 64) && (!(xs.any noGate) && decide xs.Nodup)

set_option maxHeartbeats 1000000 in
theorem short_any (bk : Bool) (a : Option Addr) (c : Nat) (xs : List Cr) (w : World) (hlen : xs.length ≤ 1000000) :
    Calls Tryd.prog 32 #[.agg #[.bool bk, .slice a xs.length c]] w fun e w' => e = .returned (.bool (decide (xs.length ≤ 64))) ∧ Below w.heap.size w w' := by
  have hq : decide ((xs.length : Int) ≤ 64) = decide (xs.length ≤ 64) := by
    by_cases h : xs.length ≤ 64
    · rw [decide_eq_true h, decide_eq_true (by omega)]
    · rw [decide_eq_false h, decide_eq_false (by omega)]
  generalize decide (xs.length ≤ 64) = q at *
  go_enter Tryd.func32, Tryd.ntmps32
  go_wp2_with fail
  go_ret
  exact ⟨rfl, below_al (Below.refl _ _) _⟩

set_option maxHeartbeats 1000000 in
theorem gated_any (bk : Bool) (a : Option Addr) (c : Nat) (xs : List Cr) (w : World) (hlen : xs.length ≤ 1000000) (hr : RdX w w.heap.size a xs) :
    Calls Tryd.prog 33 #[.agg #[.bool bk, .slice a xs.length c]] w fun e w' => e = .returned (.bool (!(xs.any noGate))) ∧ Below w.heap.size w w' := by
  have HB0 : Hid (Below w.heap.size w (w.alloc (.cells #[.bool bk, .slice a xs.length c] 68))) := below_al (Below.refl _ _) _
  have HC := Lib.hid (containsFunc_any a c xs _ hlen (hr.on HB0.out))
  clear hr
  generalize xs.any noGate = q at *
  go_enter Tryd.func33, Tryd.ntmps33
  go_wp2_with fail
  refine HC.out.mono ?_
  rintro e w1 ⟨rfl, hb⟩
  have HB := Lib.hid hb
  clear hb
  go_wp2_with fail
  go_ret
  exact ⟨rfl, below_on HB0.out HB.out⟩

set_option maxHeartbeats 2000000 in
theorem single_any (bk : Bool) (a : Option Addr) (c : Nat) (xs : List Cr) (w : World) (hlen : xs.length ≤ 1000000) (hr : RdX w w.heap.size a xs) :
    Calls Tryd.prog 34 #[.agg #[.bool bk, .slice a xs.length c]] w fun e w' => e = .returned (.bool (decide xs.Nodup)) ∧ Below w.heap.size w w' := by
  obtain ⟨W, hW⟩ : ∃ W, W = w.alloc (.cells #[.bool bk, .slice a xs.length c] 68) := ⟨_, rfl⟩
  have HB0 : Hid (Below w.heap.size w W) := by rw [hW]; exact below_al (Below.refl _ _) _
  have HX : Hid (∀ w', Below W.heap.size W w' → w'.cell? ⟨w.heap.size, 0, none⟩ = some (.bool bk) ∧ w'.cell? ⟨w.heap.size, 1, none⟩ = some (.slice a xs.length c)) := by
    rw [hW]
    exact fun w' h => box2_all h
  have HT : Hid (∀ w', Below W.heap.size W w' → Calls Tryd.prog 30 #[.agg #[.bool bk, .slice a xs.length c]] w' fun e w'' => ∃ b, e = .returned (.map (some b)) ∧ (∃ s : Nat, decide (s = xs.length) = decide xs.Nodup ∧ s ≤ 1000000 ∧ ∀ ty w3, Below w''.heap.size w'' w3 → (Builtin.len_ #[70] ty #[.map (some b)]).run Tryd.prog w3 = .ok (.int .i64 s) w3) ∧ Below w'.heap.size w' w'') := fun w' h => by
    refine (there_any bk a c xs w' hlen ((hr.on HB0.out).on h)).mono ?_
    rintro e w'' ⟨b, rfl, ⟨D, hown, hc⟩, hb, hbel⟩
    refine ⟨b, rfl, ⟨Maps.size D, ?_, by have := hc.2.2.1; omega, fun ty w3 h3 => ?_⟩, hbel⟩
    · by_cases hn : xs.Nodup
      · rw [decide_eq_true hn, decide_eq_true (hc.2.2.2.2 hn)]
      · rw [decide_eq_false hn, decide_eq_false (fun q => hn (hc.2.2.2.1 q))]
    · obtain ⟨es, clock, hbk, F, hs, hD⟩ := hown
      have hown3 : w3.ownsMap Tryd.prog 27 (plainElem Tryd.prog 3) b xs.length D := ⟨es, clock, (h3.block b (Array.getElem?_eq_some_iff.1 hbk).1).trans hbk, F, hs, hD⟩
      exact hown3.len Tryd.underlying70 ty
  have HW := Lib.hid hW
  clear hr hW
  generalize decide xs.Nodup = q at *
  obtain ⟨x0, x1⟩ := HX.out W (Below.refl _ _)
  have F0 : Below W.heap.size W W.drew := (Below.refl _ _).drew
  go_enter Tryd.func34, Tryd.ntmps34
  go_wp2_with fail
  rw [← HW.out]
  go_region_held (fun w' => w'.cell? ⟨w.heap.size, 0, none⟩ = some (.bool bk) ∧ w'.cell? ⟨w.heap.size, 1, none⟩ = some (.slice a xs.length c))
    (first | (refine HX.out _ ?_; with_reducible exact F1) | (refine HX.out _ ?_; with_reducible exact F0))
    (first | (go_at_call 30; (with_reducible refine (HT.out _ F0).mono ?_); rintro e w1 ⟨b, rfl, ⟨s, hs, hs1, hl⟩, hb⟩; have F1 : Below W.heap.size W w1 := below_on F0 hb; have hl1 := hl 3 w1 (Below.refl _ _); have HS := Lib.hid hs; clear hl hs))
  have HF1 := Lib.hid F1
  clear F0 F1 x0 x1
  go_wp2
  go_ret
  have he : ((s : Int) == (xs.length : Int)) = q := by
    rw [← HS.out]
    by_cases h : s = xs.length
    · simp [h]
    · have h' : ¬ (s : Int) = (xs.length : Int) := by omega
      simp [h, h']
  exact ⟨by rw [← he]; rfl, HB0.out.trans (HF1.out.mono HB0.out.size)⟩

set_option maxHeartbeats 4000000 in
theorem yes_any (bk : Bool) (a : Option Addr) (c : Nat) (xs : List Cr) (g : Nat) (w : World) (hlen : xs.length ≤ 1000000) (hr : RdX w w.heap.size a xs)
    (h0 : w.cell? ⟨g, 0, none⟩ = some (.func (.func 32) #[] #[])) (h1 : w.cell? ⟨g, 1, none⟩ = some (.func (.func 33) #[] #[])) (h2 : w.cell? ⟨g, 2, none⟩ = some (.func (.func 34) #[] #[])) :
    Calls Tryd.prog 31 #[.agg #[.bool bk, .slice a xs.length c], .slice (some ⟨g, 0, none⟩) 3 3] w fun e w' => e = .returned (.bool (rightX xs)) ∧ Below w.heap.size w w' := by
  have hg : g < w.heap.size := World.block_lt_of_cell? w _ h0
  obtain ⟨W, hW⟩ : ∃ W, W = w.alloc (.cells #[.bool bk, .slice a xs.length c] 68) := ⟨_, rfl⟩
  have HB0 : Hid (Below w.heap.size w W) := by rw [hW]; exact below_al (Below.refl _ _) _
  have HX : Hid (∀ w', Below W.heap.size W w' → (w'.cell? ⟨w.heap.size, 0, none⟩ = some (.bool bk) ∧ w'.cell? ⟨w.heap.size, 1, none⟩ = some (.slice a xs.length c)) ∧ (w'.cell? ⟨g, 0, none⟩ = some (.func (.func 32) #[] #[]) ∧ w'.cell? ⟨g, 1, none⟩ = some (.func (.func 33) #[] #[]) ∧ w'.cell? ⟨g, 2, none⟩ = some (.func (.func 34) #[] #[]))) := fun w' h => by
    have hb := HB0.out.trans (h.mono HB0.out.size)
    refine ⟨?_, (hb.cell (p := ⟨g, 0, none⟩) hg).trans h0, (hb.cell (p := ⟨g, 1, none⟩) hg).trans h1, (hb.cell (p := ⟨g, 2, none⟩) hg).trans h2⟩
    rw [hW] at h
    exact box2_all h
  obtain ⟨q0, e0⟩ : ∃ q, q = decide (xs.length ≤ 64) := ⟨_, rfl⟩
  obtain ⟨q1, e1⟩ : ∃ q, q = !(xs.any noGate) := ⟨_, rfl⟩
  obtain ⟨q2, e2⟩ : ∃ q, q = decide xs.Nodup := ⟨_, rfl⟩
  have HR : Hid (rightX xs = (q0 && (q1 && q2))) := by rw [e0, e1, e2]; rfl
  have HQ0 : Hid (∀ w', Below W.heap.size W w' → Calls Tryd.prog 32 #[.agg #[.bool bk, .slice a xs.length c]] w' fun e w'' => e = .returned (.bool q0) ∧ Below w'.heap.size w' w'') := fun w' h => e0 ▸ short_any bk a c xs w' hlen
  have HQ1 : Hid (∀ w', Below W.heap.size W w' → Calls Tryd.prog 33 #[.agg #[.bool bk, .slice a xs.length c]] w' fun e w'' => e = .returned (.bool q1) ∧ Below w'.heap.size w' w'') := fun w' h => e1 ▸ gated_any bk a c xs w' hlen ((hr.on HB0.out).on h)
  have HQ2 : Hid (∀ w', Below W.heap.size W w' → Calls Tryd.prog 34 #[.agg #[.bool bk, .slice a xs.length c]] w' fun e w'' => e = .returned (.bool q2) ∧ Below w'.heap.size w' w'') := fun w' h => e2 ▸ single_any bk a c xs w' hlen ((hr.on HB0.out).on h)
  have HW := Lib.hid hW
  clear e0 e1 e2 h0 h1 h2 hr hW
  go_enter Tryd.func31, Tryd.ntmps31
  go_wp2_with fail
  rw [← HW.out]
  go_loopw [9] (fun i wr => ∃ k : Nat, k ≤ 3 ∧ i = .int .i64 k ∧ Hid (Below W.heap.size W wr ∧ (1 ≤ k → q0 = true) ∧ (2 ≤ k → q1 = true) ∧ (3 ≤ k → q2 = true))) (fun i _ => 3 - (intOf i).toNat)
  case atStart => exact ⟨0, by omega, rfl, Below.refl _ _, fun h => by omega, fun h => by omega, fun h => by omega⟩
  case round =>
    obtain ⟨k, hk, rfl, HI⟩ := hrel
    obtain ⟨⟨x0, x1⟩, y0, y1, y2⟩ := HX.out wr HI.out.1
    have hk4 : k = 0 ∨ k = 1 ∨ k = 2 ∨ k = 3 := by omega
    rcases hk4 with rfl | rfl | rfl | rfl
    · go_wp2_with fail
      refine (HQ0.out wr HI.out.1).mono ?_
      rintro e w1 ⟨rfl, hb⟩
      have HB := Lib.hid (below_on HI.out.1 hb)
      clear hb x0 x1 y0 y1 y2
      cases q0
      · go_wp2_with fail
        go_ret
        exact ⟨by rw [HR.out]; rfl, HB0.out.trans (HB.out.mono HB0.out.size)⟩
      · go_wp2_with fail
        go_roundw
        case rel => exact ⟨1, by omega, rfl, HB.out, (fun _ => by first | trivial | rfl), (fun h => by omega), (fun h => by omega)⟩
        case measure => simp [intOf]
    · go_wp2_with fail
      refine (HQ1.out wr HI.out.1).mono ?_
      rintro e w1 ⟨rfl, hb⟩
      have HB := Lib.hid (below_on HI.out.1 hb)
      clear hb x0 x1 y0 y1 y2
      cases q1
      · go_wp2_with fail
        go_ret
        exact ⟨by rw [HR.out]; simp, HB0.out.trans (HB.out.mono HB0.out.size)⟩
      · go_wp2_with fail
        go_roundw
        case rel => exact ⟨2, by omega, rfl, HB.out, (fun _ => HI.out.2.1 (by omega)), (fun _ => by first | trivial | rfl), (fun h => by omega)⟩
        case measure => simp [intOf]
    · go_wp2_with fail
      refine (HQ2.out wr HI.out.1).mono ?_
      rintro e w1 ⟨rfl, hb⟩
      have HB := Lib.hid (below_on HI.out.1 hb)
      clear hb x0 x1 y0 y1 y2
      cases q2
      · go_wp2_with fail
        go_ret
        exact ⟨by rw [HR.out]; simp, HB0.out.trans (HB.out.mono HB0.out.size)⟩
      · go_wp2_with fail
        go_roundw
        case rel => exact ⟨3, by omega, rfl, HB.out, (fun _ => HI.out.2.1 (by omega)), (fun _ => HI.out.2.2.1 (by omega)), (fun _ => by first | trivial | rfl)⟩
        case measure => simp [intOf]
    · have r0 := HI.out.2.1 (by omega)
      have r1 := HI.out.2.2.1 (by omega)
      have r2 := HI.out.2.2.2 (by omega)
      subst r0 r1 r2
      clear x0 x1 y0 y1 y2
      go_wp2_with fail
      go_ret
      exact ⟨by rw [HR.out]; rfl, HB0.out.trans (HI.out.1.mono HB0.out.size)⟩

end Go.Proofs.YtkbnglcpcehaiaaDoor

namespace Go.Proofs.YtkbnglcpcehaiaaDoor
open Go Go.RowKit Go.Shelf
set_option linter.unusedSimpArgs false
set_option linter.unusedVariables false
set_option maxRecDepth 100000

/-- Check's answer. -/
def chX (xs : List Cr) : Int := if rightX xs = true then 0 else 2

set_option maxHeartbeats 2000000 in
theorem pcheck_any (bk : Bool) (a : Option Addr) (c : Nat) (xs : List Cr) (w : World) (hlen : xs.length ≤ 1000000) (hr : RdX w w.heap.size a xs) :
    Calls Tryd.prog 17 #[.agg #[.bool bk, .slice a xs.length c]] w fun e w' => e = .returned (.int .i64 (chX xs)) ∧ Below w.heap.size w w' := by
  have HY : Hid (∀ (g : Nat) (w1 : World), Below w.heap.size w w1 → w1.cell? ⟨g, 0, none⟩ = some (.func (.func 32) #[] #[]) → w1.cell? ⟨g, 1, none⟩ = some (.func (.func 33) #[] #[]) → w1.cell? ⟨g, 2, none⟩ = some (.func (.func 34) #[] #[]) →
      Calls Tryd.prog 31 #[.agg #[.bool bk, .slice a xs.length c], .slice (some ⟨g, 0, none⟩) 3 3] w1 fun e w' => e = .returned (.bool (rightX xs)) ∧ Below w1.heap.size w1 w') := fun g w1 h => yes_any bk a c xs g w1 hlen (hr.on h)
  have HC : Hid (chX xs = if rightX xs = true then 0 else 2) := rfl
  clear hr
  generalize rightX xs = q at *
  generalize chX xs = r at *
  go_enter Tryd.func17, Tryd.ntmps17
  go_wp2_with fail
  refine wp_scope_on 0 rfl ?_
  go_wp2_with fail
  obtain ⟨W, hW⟩ : ∃ W, W = (((w.alloc (.cells #[.bool bk, .slice a xs.length c] 24)).alloc (.cells #[.bool bk, .slice a xs.length c] 68)).alloc (.cells #[.func (.func 32) #[] #[], .func (.func 33) #[] #[], .func (.func 34) #[] #[]] 73)) := ⟨_, rfl⟩
  have HB0 : Hid (Below w.heap.size w W) := by rw [hW]; exact below_al (below_al (below_al (Below.refl _ _) _) _) _
  have hf : ∀ i, W.cell? ⟨w.heap.size + 1 + 1, i, none⟩ = (#[Value.func (.func 32) #[] #[], .func (.func 33) #[] #[], .func (.func 34) #[] #[]])[i]? := fun i => by
    have h := box_at (w := ((w.alloc (.cells #[.bool bk, .slice a xs.length c] 24)).alloc (.cells #[.bool bk, .slice a xs.length c] 68))) (Below.refl _ (((w.alloc (.cells #[.bool bk, .slice a xs.length c] 24)).alloc (.cells #[.bool bk, .slice a xs.length c] 68)).alloc (.cells #[.func (.func 32) #[] #[], .func (.func 33) #[] #[], .func (.func 34) #[] #[]] 73))) i
    rw [← hW] at h
    simpa using h
  rw [← hW]
  refine (HY.out (w.heap.size + 1 + 1) W HB0.out (hf 0) (hf 1) (hf 2)).mono ?_
  rintro e w1 ⟨rfl, hb⟩
  have HB1 := Lib.hid (below_on HB0.out hb)
  clear hb hf hW
  cases q
  · go_wp2_with fail
    go_step3
    refine ⟨rfl, ?_⟩
    show Code.wp _ _ _ _ _
    go_wp2_with fail
    rw [Exit.noGoto_ret]
    go_ret
    exact ⟨by rw [HC.out]; rfl, HB1.out⟩
  · go_wp2_with fail
    simp only [Exit.jump]
    go_ret
    exact ⟨by rw [HC.out]; rfl, HB1.out⟩

set_option maxHeartbeats 2000000 in
theorem phas_any (bk : Bool) (a : Option Addr) (c : Nat) (xs : List Cr) (x : Cr) (w : World) (hlen : xs.length ≤ 1000000) (hr : RdX w w.heap.size a xs) :
    Calls Tryd.prog 15 #[.agg #[.bool bk, .slice a xs.length c], .agg #[.int .u32 x.1.toNat, .bool x.2]] w fun e w' => e = .returned (.bool (decide (x ∈ xs))) ∧ Below w.heap.size w w' := by
  obtain ⟨V, hV⟩ : ∃ V, V = w.alloc (.cells #[.bool bk, .slice a xs.length c] 24) := ⟨_, rfl⟩
  have HBV : Hid (Below w.heap.size w V) := by rw [hV]; exact below_al (Below.refl _ _) _
  have hVs : V.heap.size = w.heap.size + 1 := by rw [hV]; simp
  have HXV : Hid (∀ w', Below V.heap.size V w' → w'.cell? ⟨w.heap.size, 0, none⟩ = some (.bool bk) ∧ w'.cell? ⟨w.heap.size, 1, none⟩ = some (.slice a xs.length c)) := by
    rw [hV]
    exact fun w' h => box2_all h
  obtain ⟨W, hW⟩ : ∃ W, W = V.alloc (.cells #[.int .u32 x.1.toNat, .bool x.2] 27) := ⟨_, rfl⟩
  have HBW : Hid (Below V.heap.size V W) := by rw [hW]; exact below_al (Below.refl _ _) _
  have HX : Hid (∀ w', Below W.heap.size W w' → (w'.cell? ⟨w.heap.size, 0, none⟩ = some (.bool bk) ∧ w'.cell? ⟨w.heap.size, 1, none⟩ = some (.slice a xs.length c)) ∧ (w'.cell? ⟨w.heap.size + 1, 0, none⟩ = some (.int .u32 x.1.toNat) ∧ w'.cell? ⟨w.heap.size + 1, 1, none⟩ = some (.bool x.2))) := fun w' h => by
    refine ⟨HXV.out w' (below_on HBW.out h), ?_⟩
    rw [hW] at h
    have := box2_all h
    rw [hVs] at this
    exact this
  have HB0 : Hid (Below w.heap.size w W) := below_on HBV.out HBW.out
  have HT : Hid (∀ w', Below W.heap.size W w' → Calls Tryd.prog 30 #[.agg #[.bool bk, .slice a xs.length c]] w' fun e w'' => ∃ b, e = .returned (.map (some b)) ∧ (∃ s : Int, decide (0 < s) = decide (x ∈ xs) ∧ (0 ≤ s ∧ s ≤ 1000000) ∧ ∀ w3, Below w''.heap.size w'' w3 → (Instr.lookup 70 (.map (some b)) (.agg #[.int .u32 x.1.toNat, .bool x.2]) false).run Tryd.prog w3 = .ok (.int .i64 s) w3) ∧ Below w'.heap.size w' w'') := fun w' h => by
    refine (there_any bk a c xs w' hlen ((hr.on HB0.out).on h)).mono ?_
    rintro e w'' ⟨b, rfl, ⟨D, hown, hc⟩, hb, hbel⟩
    refine ⟨b, rfl, ⟨(xs.count x : Int), ?_, ?_, fun w3 h3 => ?_⟩, hbel⟩
    · by_cases hn : x ∈ xs
      · have := List.count_pos_iff.2 hn
        rw [decide_eq_true hn, decide_eq_true (by omega)]
      · have := List.count_eq_zero.2 hn
        rw [decide_eq_false hn, decide_eq_false (by omega)]
    · have := List.count_le_length (a := x) (l := xs)
      omega
    · obtain ⟨es, clock, hbk, F, hs, hD⟩ := hown
      have hown3 : w3.ownsMap Tryd.prog 27 (plainElem Tryd.prog 3) b xs.length D := ⟨es, clock, (h3.block b (Array.getElem?_eq_some_iff.1 hbk).1).trans hbk, F, hs, hD⟩
      obtain ⟨cc, hrun, hat, _⟩ := hown3.lookup_int cross_keyed Tryd.underlying70 Tryd.underlying3 (zero_int w3) (keyOf_cross x)
      have h1 := hc.1 x
      rw [i64d, hat] at h1
      have h2 : cc = (xs.count x : Int) := by simpa [i64d] using h1
      rw [hrun, h2]
  have HW : Hid (W = (w.alloc (.cells #[.bool bk, .slice a xs.length c] 24)).alloc (.cells #[.int .u32 x.1.toNat, .bool x.2] 27)) := by rw [hW, hV]; rfl
  clear hr hW hVs hV HXV
  generalize decide (x ∈ xs) = q at *
  have hgl := gate_lt x
  obtain ⟨⟨x0, x1⟩, x2, x3⟩ := HX.out W (Below.refl _ _)
  have F0 : Below W.heap.size W W.drew := (Below.refl _ _).drew
  go_enter Tryd.func15, Tryd.ntmps15
  go_wp2_with fail
  rw [← HW.out]
  go_region_held (fun w' => (w'.cell? ⟨w.heap.size, 0, none⟩ = some (.bool bk) ∧ w'.cell? ⟨w.heap.size, 1, none⟩ = some (.slice a xs.length c)) ∧ (w'.cell? ⟨w.heap.size + 1, 0, none⟩ = some (.int .u32 x.1.toNat) ∧ w'.cell? ⟨w.heap.size + 1, 1, none⟩ = some (.bool x.2)))
    (first | (refine HX.out _ ?_; with_reducible exact F1) | (refine HX.out _ ?_; with_reducible exact F0))
    (first | (go_at_call 30; (with_reducible refine (HT.out _ F0).mono ?_); rintro e w1 ⟨b, rfl, ⟨s, hs, hs1, hl⟩, hb⟩; have F1 : Below W.heap.size W w1 := below_on F0 hb; have hl1 := hl w1 (Below.refl _ _); have HS := Lib.hid hs; clear hl hs))
  have HF1 := Lib.hid F1
  clear F0 F1 x0 x1 x2 x3
  go_wp2
  go_ret
  exact ⟨by rw [← HS.out]; rfl, HB0.out.trans (HF1.out.mono HB0.out.size)⟩

end Go.Proofs.YtkbnglcpcehaiaaDoor

namespace Go.Proofs.YtkbnglcpcehaiaaDoor
open Go Go.RowKit Go.Shelf
set_option linter.unusedSimpArgs false
set_option linter.unusedVariables false
set_option maxRecDepth 100000

/-- 's[:h]', elements of z cells: at the same place. -/
theorem cut_h {P : Program} (t e : TypeId) (z : Nat) (ht : P.underlying t = some (.slice e)) (hz : ∀ w, (Go.sizeOf e).run P w = .ok z w) (a : Option Addr) (n cap h : Nat) (h1 : h ≤ cap) (w : World) :
    (Instr.slice t (.slice a n cap) none (some (.int .i64 (h : Int))) none).run P w = .ok (.slice a h cap) w := by
  have ht' : P.underlying t = some (.slice (P.elem t)) := by simp [Program.elem, ht]
  have he : P.elem t = e := by simp [Program.elem, ht]
  rw [run_slice_h w t a n cap ht' .i64 h (by omega) (by omega), he, hz]
  rcases a with _ | ad
  · simp [Result.andThen, sliced]
  · simp [Result.andThen, sliced, Addr.add]

/-- 's[:h:m]'. -/
theorem cut_hm {P : Program} (t e : TypeId) (z : Nat) (ht : P.underlying t = some (.slice e)) (hz : ∀ w, (Go.sizeOf e).run P w = .ok z w) (a : Option Addr) (n cap h m : Nat) (h1 : h ≤ m) (h2 : m ≤ cap) (w : World) :
    (Instr.slice t (.slice a n cap) none (some (.int .i64 (h : Int))) (some (.int .i64 (m : Int)))).run P w = .ok (.slice a h m) w := by
  have ht' : P.underlying t = some (.slice (P.elem t)) := by simp [Program.elem, ht]
  have he : P.elem t = e := by simp [Program.elem, ht]
  rw [run_slice_hm w t a n cap ht' .i64 .i64 h m (by omega) (by omega) (by omega), he, hz]
  rcases a with _ | ad
  · simp [Result.andThen, sliced]
  · simp [Result.andThen, sliced, Addr.add]

theorem size_cross (w : World) : (Go.sizeOf 27).run Tryd.prog w = .ok 2 w := by kernel_rfl
theorem size_item (w : World) : (Go.sizeOf 45).run Tryd.prog w = .ok 5 w := by kernel_rfl

theorem cr_ext {x y : Cr} (h0 : x.1.toNat = y.1.toNat) (h1 : x.2 = y.2) : x = y := by
  obtain ⟨g, u⟩ := x
  obtain ⟨g', u'⟩ := y
  simp only [Prod.mk.injEq]
  exact ⟨UInt32.toNat_inj.1 h0, h1⟩

theorem eqCross_run (x y : Cr) (w : World) : (Op.equalIn 10000 27 (.agg #[.int .u32 x.1.toNat, .bool x.2]) (.agg #[.int .u32 y.1.toNat, .bool y.2])).run Tryd.prog w = .ok (decide (x = y)) w := by
  have e1 : ((x.1.toNat : Int) == (y.1.toNat : Int)) = decide (x.1.toNat = y.1.toNat) := by
    by_cases h : x.1.toNat = y.1.toNat
    · simp [h]
    · have h' : ¬ (x.1.toNat : Int) = (y.1.toNat : Int) := by omega
      simp [h, h']
  have e2 : decide (x = y) = (decide (x.1.toNat = y.1.toNat) && (x.2 == y.2)) := by
    by_cases h0 : x.1.toNat = y.1.toNat
    · by_cases h1 : x.2 = y.2
      · simp [cr_ext h0 h1]
      · have : ¬ x = y := fun e => h1 (by rw [e])
        simp [this, h1]
    · have : ¬ x = y := fun e => h0 (by rw [e])
      simp [this, h0]
  rw [e2]
  go_simp
  by_cases h0 : x.1.toNat = y.1.toNat <;> by_cases h1 : x.2 = y.2 <;> simp [h0, h1]

theorem mem_step {xs : List Cr} {k : Nat} {x : Cr} (h : k < xs.length) (h1 : ¬ x ∈ xs.take k) (h2 : ¬ atX xs k = x) : ¬ x ∈ xs.take (k + 1) := by
  rw [take_atX xs k h]
  simp only [List.mem_append, List.mem_singleton, not_or]
  exact ⟨h1, fun e => h2 e.symm⟩

set_option maxHeartbeats 4000000 in
theorem refHas_any (bk : Bool) (a : Option Addr) (c : Nat) (xs : List Cr) (x : Cr) (w : World) (hlen : xs.length ≤ 1000000) (hr : RdX w w.heap.size a xs) :
    Calls Tryd.prog 16 #[.agg #[.bool bk, .slice a xs.length c], .agg #[.int .u32 x.1.toNat, .bool x.2]] w fun e w' => e = .returned (.bool (decide (x ∈ xs))) ∧ Below w.heap.size w w' := by
  have HR := Lib.hid hr
  obtain ⟨V, hV⟩ : ∃ V, V = w.alloc (.cells #[.bool bk, .slice a xs.length c] 24) := ⟨_, rfl⟩
  have HBV : Hid (Below w.heap.size w V) := by rw [hV]; exact below_al (Below.refl _ _) _
  have hVs : V.heap.size = w.heap.size + 1 := by rw [hV]; simp
  have HXV : Hid (∀ w', Below V.heap.size V w' → w'.cell? ⟨w.heap.size, 0, none⟩ = some (.bool bk) ∧ w'.cell? ⟨w.heap.size, 1, none⟩ = some (.slice a xs.length c)) := by
    rw [hV]
    exact fun w' h => box2_all h
  obtain ⟨W, hW⟩ : ∃ W, W = V.alloc (.cells #[.int .u32 x.1.toNat, .bool x.2] 27) := ⟨_, rfl⟩
  have HBW : Hid (Below V.heap.size V W) := by rw [hW]; exact below_al (Below.refl _ _) _
  have HX : Hid (∀ w', Below W.heap.size W w' → (w'.cell? ⟨w.heap.size, 0, none⟩ = some (.bool bk) ∧ w'.cell? ⟨w.heap.size, 1, none⟩ = some (.slice a xs.length c)) ∧ (w'.cell? ⟨w.heap.size + 1, 0, none⟩ = some (.int .u32 x.1.toNat) ∧ w'.cell? ⟨w.heap.size + 1, 1, none⟩ = some (.bool x.2))) := fun w' h => by
    refine ⟨HXV.out w' (below_on HBW.out h), ?_⟩
    rw [hW] at h
    have := box2_all h
    rw [hVs] at this
    exact this
  have HB0 : Hid (Below w.heap.size w W) := below_on HBV.out HBW.out
  have HW : Hid (W = (w.alloc (.cells #[.bool bk, .slice a xs.length c] 24)).alloc (.cells #[.int .u32 x.1.toNat, .bool x.2] 27)) := by rw [hW, hV]; rfl
  have HEQ := Lib.hid (fun y w => eqCross_run y x w)
  clear hr hW hVs hV HXV
  go_enter Tryd.func16, Tryd.ntmps16
  go_wp2_with fail
  rw [← HW.out]
  go_loopw [5] (fun i wr => ∃ k : Nat, k ≤ xs.length ∧ i = .int .i64 k ∧ Hid (¬ x ∈ xs.take k ∧ Below W.heap.size W wr)) (fun i _ => xs.length - (intOf i).toNat)
  case atStart => exact ⟨0, Nat.zero_le _, rfl, by simp, Below.refl _ _⟩
  case round =>
    obtain ⟨k, hk, rfl, HI⟩ := hrel
    obtain ⟨⟨x0, x1⟩, x2, x3⟩ := HX.out wr HI.out.2
    by_cases hlt : k < xs.length
    · obtain ⟨g, o, rfl, hg, hc0⟩ := HR.out.cells k hlt
      have hc1 := hc0.kept ((HB0.out.trans (HI.out.2.mono HB0.out.size)).block g hg)
      obtain ⟨q0, q1⟩ := hc1
      clear hc0
      have HS : Hid (¬ atX xs k = x → ¬ x ∈ xs.take (k + 1)) := mem_step hlt HI.out.1
      have HH : Hid (atX xs k = x → x ∈ xs) := fun e => e ▸ atX_mem xs k hlt
      have he := fun w => HEQ.out (atX xs k) w
      generalize atX xs k = y at *
      by_cases hq : y = x
      · rw [decide_eq_true hq] at he
        have HQ := Lib.hid (HH.out hq)
        clear hq
        go_wp2_with fail
        go_quiet (fail)
        go_wp2_with fail
        go_ret
        exact ⟨by rw [decide_eq_true HQ.out]; rfl, HB0.out.trans ((below_dr HI.out.2 _).mono HB0.out.size)⟩
      · rw [decide_eq_false hq] at he
        have HQ := Lib.hid (HS.out hq)
        clear hq
        go_wp2_with fail
        go_quiet (fail)
        go_wp2_with fail
        go_roundw
        case rel => exact ⟨k + 1, by omega, by go_num, HQ.out, below_dr HI.out.2 _⟩
        case measure => simp [intOf]; omega
    · obtain rfl : k = xs.length := by omega
      have h := HI.out
      rw [List.take_length] at h
      have HI2 := Lib.hid h
      clear h HI
      go_wp2_with fail
      go_ret
      exact ⟨by rw [decide_eq_false HI2.out.1]; rfl, HB0.out.trans (HI2.out.2.mono HB0.out.size)⟩

theorem nodup_snoc {xs : List Cr} {x : Cr} : (xs ++ [x]).Nodup ↔ xs.Nodup ∧ ¬ x ∈ xs := by
  rw [List.nodup_append]
  constructor
  · rintro ⟨a, _, b⟩
    exact ⟨a, fun hx => b x hx x (by simp) rfl⟩
  · rintro ⟨a, b⟩
    refine ⟨a, by simp, fun y hy z hz e => ?_⟩
    simp only [List.mem_singleton] at hz
    subst hz
    subst e
    exact b hy

/-- What the loop of Right holds of the first crossings. -/
def goodX (xs : List Cr) : Prop := xs.any noGate = false ∧ xs.Nodup

theorem goodX_step {xs : List Cr} {k : Nat} (h : k < xs.length) (h1 : goodX (xs.take k)) (h2 : noGate (atX xs k) = false) (h3 : ¬ atX xs k ∈ xs.take k) : goodX (xs.take (k + 1)) := by
  refine ⟨any_step h h1.1 h2, ?_⟩
  rw [take_atX xs k h, nodup_snoc]
  exact ⟨h1.2, h3⟩

theorem right_gate {xs : List Cr} {k : Nat} (h : k < xs.length) (h2 : noGate (atX xs k) = true) : rightX xs = false := by
  unfold rightX
  rw [any_hit h h2]
  simp

theorem right_twice {xs : List Cr} {k : Nat} (h : k < xs.length) (h2 : atX xs k ∈ xs.take k) : rightX xs = false := by
  have hn : ¬ xs.Nodup := fun hd => by
    have h3 : (xs.take (k + 1)).Nodup := hd.sublist (List.take_sublist _ _)
    rw [take_atX xs k h, nodup_snoc] at h3
    exact h3.2 h2
  unfold rightX
  rw [decide_eq_false hn]
  simp

theorem right_good {xs : List Cr} (h : xs.length ≤ 64) (h1 : goodX xs) : rightX xs = true := by
  unfold rightX
  rw [decide_eq_true h, h1.1, decide_eq_true h1.2]
  rfl

set_option maxHeartbeats 8000000 in
theorem refRight_any (bk : Bool) (a : Option Addr) (c : Nat) (xs : List Cr) (w : World) (hlen : xs.length ≤ 1000000) (hcap : xs.length ≤ c) (hr : RdX w w.heap.size a xs) :
    Calls Tryd.prog 12 #[.agg #[.bool bk, .slice a xs.length c]] w fun e w' => e = .returned (.bool (rightX xs)) ∧ Below w.heap.size w w' := by
  have HR := Lib.hid hr
  obtain ⟨W, hW⟩ : ∃ W, W = w.alloc (.cells #[.bool bk, .slice a xs.length c] 24) := ⟨_, rfl⟩
  have HB0 : Hid (Below w.heap.size w W) := by rw [hW]; exact below_al (Below.refl _ _) _
  have HX : Hid (∀ w', Below W.heap.size W w' → w'.cell? ⟨w.heap.size, 0, none⟩ = some (.bool bk) ∧ w'.cell? ⟨w.heap.size, 1, none⟩ = some (.slice a xs.length c)) := by
    rw [hW]
    exact fun w' h => box2_all h
  have HH : Hid (∀ (k : Nat) (x : Cr) (w' : World), k ≤ xs.length → Below W.heap.size W w' → Calls Tryd.prog 16 #[.agg #[.bool false, .slice a k c], .agg #[.int .u32 x.1.toNat, .bool x.2]] w' fun e w'' => e = .returned (.bool (decide (x ∈ xs.take k))) ∧ Below w'.heap.size w' w'') := fun k x w' hk h => by
    have h1 := refHas_any false a c (xs.take k) x w' (by simp; omega) (((hr.on HB0.out).on h).take k)
    have e : (xs.take k).length = k := by simp; omega
    rw [e] at h1
    exact h1
  have HW := Lib.hid hW
  clear hr hW
  by_cases h64 : 64 < xs.length
  · have hq : rightX xs = false := by unfold rightX; rw [decide_eq_false (by omega)]; rfl
    rw [hq]
    go_enter Tryd.func12, Tryd.ntmps12
    go_wp2_with fail
    go_ret
    exact ⟨rfl, HW.out ▸ HB0.out⟩
  have h64' : xs.length ≤ 64 := by omega
  clear h64
  go_enter Tryd.func12, Tryd.ntmps12
  go_wp2_with fail
  rw [← HW.out]
  go_loopw [3] (fun i wr => ∃ k : Nat, k ≤ xs.length ∧ i = .int .i64 k ∧ Hid (goodX (xs.take k) ∧ Below W.heap.size W wr)) (fun i _ => xs.length - (intOf i).toNat)
  case atStart => exact ⟨0, Nat.zero_le _, rfl, ⟨by simp, by simp⟩, Below.refl _ _⟩
  case round =>
    obtain ⟨k, hk, rfl, HI⟩ := hrel
    obtain ⟨x0, x1⟩ := HX.out wr HI.out.2
    by_cases hlt : k < xs.length
    · obtain ⟨g, o, rfl, hg, hc0⟩ := HR.out.cells k hlt
      have HC : Hid (∀ w', Below wr.heap.size wr w' → (w'.cell? ⟨w.heap.size, 0, none⟩ = some (.bool bk) ∧ w'.cell? ⟨w.heap.size, 1, none⟩ = some (.slice (some ⟨g, o, none⟩) xs.length c)) ∧ (w'.cell? ⟨g, o + k * 2, none⟩ = some (.int .u32 (atX xs k).1.toNat) ∧ w'.cell? ⟨g, o + k * 2 + 1, none⟩ = some (.bool (atX xs k).2))) := fun w' h =>
        ⟨HX.out w' (below_on HI.out.2 h), hc0.kept ((HB0.out.trans ((below_on HI.out.2 h).mono HB0.out.size)).block g hg)⟩
      obtain ⟨_, q0, q1⟩ := HC.out wr (Below.refl _ _)
      clear hc0
      have HS : Hid (noGate (atX xs k) = false → ¬ atX xs k ∈ xs.take k → goodX (xs.take (k + 1))) := goodX_step hlt HI.out.1
      have HG : Hid (noGate (atX xs k) = true → rightX xs = false) := right_gate hlt
      have HT : Hid (atX xs k ∈ xs.take k → rightX xs = false) := right_twice hlt
      have HHk := Lib.hid (fun w' h => HH.out k (atX xs k) w' hk (below_on HI.out.2 h))
      have hb : (((atX xs k).1.toNat : Int) == 0) = noGate (atX xs k) := by
        unfold noGate
        by_cases h : (atX xs k).1.toNat = 0 <;> simp [h]
      have hgl := gate_lt (atX xs k)
      generalize atX xs k = y at *
      obtain ⟨q, hq⟩ : ∃ q, q = noGate y := ⟨_, rfl⟩
      rw [← hq] at HS HG hb
      clear hq
      cases q
      · obtain ⟨t, ht⟩ : ∃ t, t = decide (y ∈ xs.take k) := ⟨_, rfl⟩
        rw [← ht] at HHk
        have HTt := Lib.hid ht
        clear ht
        have F0 : Below wr.heap.size wr wr.drew := (Below.refl _ _).drew
        have hsl := fun w : World => cut_h (P := Tryd.prog) 22 27 2 Tryd.underlying22 size_cross (some ⟨g, o, none⟩) xs.length c k (by omega) w
        go_wp2_with fail
        go_region_held (fun w' => (w'.cell? ⟨w.heap.size, 0, none⟩ = some (.bool bk) ∧ w'.cell? ⟨w.heap.size, 1, none⟩ = some (.slice (some ⟨g, o, none⟩) xs.length c)) ∧ (w'.cell? ⟨g, o + k * 2, none⟩ = some (.int .u32 y.1.toNat) ∧ w'.cell? ⟨g, o + k * 2 + 1, none⟩ = some (.bool y.2)))
          (first | (refine HC.out _ ?_; with_reducible exact F1) | (refine HC.out _ ?_; with_reducible exact F0))
          (first | (go_at_call 16; (with_reducible refine (HHk.out _ F0).mono ?_); rintro e w1 ⟨rfl, hb1⟩; have F1 : Below wr.heap.size wr w1 := below_on F0 hb1))
        have HF1 := Lib.hid (below_on HI.out.2 F1)
        clear F0 F1 x0 x1 q0 q1
        cases t
        · go_wp2_with fail
          go_roundw
          case rel => exact ⟨k + 1, by omega, by go_num, HS.out (by first | trivial | rfl) (of_decide_eq_false HTt.out.symm), HF1.out⟩
          case measure => simp [intOf]; omega
        · go_wp2_with fail
          go_ret
          exact ⟨by rw [HT.out (of_decide_eq_true HTt.out.symm)]; rfl, HB0.out.trans (HF1.out.mono HB0.out.size)⟩
      · go_wp2_with fail
        go_quiet (fail)
        go_wp2_with fail
        go_ret
        exact ⟨by rw [HG.out (by first | trivial | rfl)]; rfl, HB0.out.trans ((below_dr HI.out.2 _).mono HB0.out.size)⟩
    · obtain rfl : k = xs.length := by omega
      have h := HI.out
      rw [List.take_length] at h
      have HI2 := Lib.hid h
      have HRt := Lib.hid (right_good h64' h.1)
      clear h HI
      go_wp2_with fail
      go_ret
      exact ⟨by rw [HRt.out]; rfl, HB0.out.trans (HI2.out.2.mono HB0.out.size)⟩

end Go.Proofs.YtkbnglcpcehaiaaDoor

namespace Go.Proofs.YtkbnglcpcehaiaaDoor
open Go.ChangeShapes Go.WideShapes Go.ChangeAt Go.RowKit

set_option maxRecDepth 100000

section
variable {H : Type} {enc : TypeId × Value → H} {W : World}

theorem wf_g32 {n : Int} (h : (Lit.int .u32 n).wf = true) : ∃ k : UInt32, n = k.toNat := by
  simp [Lit.wf, IntKind.min, IntKind.max, IntKind.signed, IntKind.bits] at h
  refine ⟨UInt32.ofNat n.toNat, ?_⟩
  have e : (UInt32.ofNat n.toNat).toNat = n.toNat := by
    rw [UInt32.toNat_ofNat']
    exact Nat.mod_eq_of_lt (by omega)
  rw [e]
  omega

theorem cross_cells {fuel : Nat} {cs : List Value} {x : DataW H × List MemPlace} (h : DataW.trod enc Tryd.prog W 0 (fun _ => true) true fuel 27 cs = some x) : ∃ x : Cr, cs = [.int .u32 x.1.toNat, .bool x.2] := by
  obtain ⟨xs, n, rfl, hx, hlen, hn, hf⟩ := DataW.trod_struct Tryd.underlying27 h
  have c2 : Tryd.prog.cellsOf 27 = 2 := by kernel_rfl
  rw [c2] at hlen
  match cs, hlen with
  | [c0, c1], _ =>
  match xs, hn with
  | [x0, x1], _ =>
  have u0 : Tryd.prog.cellsOf 25 = 1 := by kernel_rfl
  have u1 : Tryd.prog.cellsOf 4 = 1 := by kernel_rfl
  have f0 : DataW.trod enc Tryd.prog W 0 (fun _ => true) true n 25 [c0] = some x0 := by have h := hf 0 _ rfl; simpa [u0] using h
  have f1 : DataW.trod enc Tryd.prog W 0 (fun _ => true) true n 4 [c1] = some x1 := by have h := hf 1 _ rfl; simpa [u0, u1] using h
  obtain ⟨k, e0, _, k0⟩ := DataW.trod_int Tryd.underlying25 f0
  obtain ⟨b, e1, _⟩ := DataW.trod_bool Tryd.underlying4 f1
  simp only [List.cons.injEq, and_true] at e0 e1
  subst e0 e1
  obtain ⟨g, rfl⟩ := wf_g32 k0
  exact ⟨(g, b), rfl⟩

/-- A slice of crossings, its cell. -/
theorem crossesF {fuel : Nat} {v : Value} {d : DataW H} {p : List MemPlace} (hf : DataW.trod enc Tryd.prog W 0 (fun _ => true) true fuel 22 [v] = some (d, p)) (hlt : ∀ x ∈ p, x.block < W.heap.size)
    (hw : ∀ n ∈ d.weights Tryd.prog 22, n ≤ 140737488351232) : ∃ a c xs, v = .slice a (List.length xs) c ∧ xs.length ≤ c ∧ xs.length ≤ 140737488351232 ∧ RdX W W.heap.size a xs := by
  have c2 : Tryd.prog.cellsOf 27 = 2 := by kernel_rfl
  rcases DataW.trod_slice Tryd.underlying22 hf with ⟨e4, _⟩ | ⟨A, len, cap, elems, rest, n', rfl, e4, hx, _, hl, hle, hel, hat, _, _⟩
  · simp at e4
    subst e4
    exact ⟨none, 0, [], rfl, Nat.le_refl _, by simp, .inl rfl⟩
  · simp at e4
    subst e4
    simp only [Prod.mk.injEq] at hx
    obtain ⟨rfl, rfl⟩ := hx
    simp only [DataW.weights, Tryd.underlying22] at hw
    rw [c2] at hat
    have hlen : len ≤ 140737488351232 := by
      have q := hw _ (List.mem_cons_self ..)
      have b8 : Tryd.prog.bytesOf 27 = 8 := by kernel_rfl
      rw [b8] at q
      simp only [List.length_map] at q
      omega
    have hA : 0 < len → A.spot = none ∧ A.block < W.heap.size := by
      intro h0
      have h := hat 0 h0
      rw [List.getElem?_eq_getElem (by omega), Option.bind_eq_some_iff] at h
      obtain ⟨csi, hcs, _⟩ := h
      obtain ⟨_, hcl, hcc⟩ := World.cells?_some hcs
      obtain ⟨b, off, spot⟩ := A
      have q0 := hcc 0 (by omega)
      obtain ⟨y, hy⟩ : ∃ y, csi[0]? = some y := ⟨_, List.getElem?_eq_getElem (by omega)⟩
      rw [hy] at q0
      have e0 : ((⟨b, off, spot⟩ : Addr).add (0 * 2)).add 0 = ⟨b, off, spot⟩ := by simp [Addr.add]
      rw [e0] at q0
      exact ⟨World.cell?_spot q0, World.block_lt_of_cell? W _ q0⟩
    have hex : ∀ i, ∃ x : Cr, i < len → CellX W A.block (A.off + i * 2) x := by
      intro i
      by_cases hi : i < len
      · have h := hat i hi
        rw [List.getElem?_eq_getElem (by omega), Option.bind_eq_some_iff] at h
        obtain ⟨csi, hcs, ht⟩ := h
        obtain ⟨_, hcl, hcc⟩ := World.cells?_some hcs
        obtain ⟨x, rfl⟩ := cross_cells ht
        refine ⟨x, fun _ => ?_⟩
        have hspot := (hA (by omega)).1
        obtain ⟨b, off, spot⟩ := A
        simp only at hspot
        subst hspot
        have q0 := hcc 0 (by omega)
        have q1 := hcc 1 (by omega)
        rw [mk_addr_add, mk_addr_add] at q0 q1
        exact ⟨by simpa using q0, by simpa using q1⟩
      · exact ⟨(0, false), fun h => absurd h hi⟩
    let f : Nat → Cr := fun i => (hex i).choose
    have hfs := fun i => (hex i).choose_spec
    have hll : ((List.range len).map f).length = len := by simp
    refine ⟨some A, cap, (List.range len).map f, by rw [hll], by rw [hll]; omega, by rw [hll]; exact hlen, ?_⟩
    by_cases hl0 : len = 0
    · exact .inl (List.eq_nil_of_length_eq_zero (by rw [hll]; exact hl0))
    · obtain ⟨hsp, hbl⟩ := hA (by omega)
      obtain ⟨b, off, spot⟩ := A
      simp only at hsp
      subst hsp
      refine .inr ⟨b, off, rfl, hbl, fun i hi => ?_⟩
      rw [hll] at hi
      have h := hfs i hi
      have e : atX ((List.range len).map f) i = f i := by simp [atX, hi]
      rw [e]
      exact h

/-- A slice of crossings that came in. -/
theorem open_crosses {base : Nat} {ts : List TypeId} {ds : List (DataW H)} {jn : Nat} {v : Value} {d : DataW H} {p : List MemPlace} (hv : Value.okWide Tryd.prog W .any base 22 v)
    (hd : DataW.Trod enc Tryd.prog W 0 (fun _ => true) true 22 v d p) (hlt : ∀ x ∈ p, x.block < W.heap.size)
    (hsz : (DataW.weightsEach Tryd.prog ts ds).all (· ≤ reachBytes) = true) (ht : ts[jn]? = some 22) (hdj : ds[jn]? = some d) :
    ∃ a c xs, v = .slice a (List.length xs) c ∧ xs.length ≤ c ∧ xs.length ≤ 140737488351232 ∧ RdX W W.heap.size a xs := by
  obtain ⟨a0, len0, cap0, rfl⟩ := okWide_slice Tryd.underlying22 hv
  obtain ⟨fuel, hf⟩ := hd
  have hw : ∀ n ∈ d.weights Tryd.prog 22, n ≤ 140737488351232 := by
    intro n hn
    have := List.all_eq_true.1 hsz n (DataW.weights_mem_each ht hdj n hn)
    have h := of_decide_eq_true this
    simpa [reachBytes] using h
  exact crossesF (by simpa [Value.cells] using hf) hlt hw

/-- A crossing that came in. -/
theorem open_cross {base : Nat} {v : Value} {d : DataW H} {p : List MemPlace} (hv : Value.okWide Tryd.prog W .any base 27 v)
    (hd : DataW.Trod enc Tryd.prog W 0 (fun _ => true) true 27 v d p) : ∃ x : Cr, v = .agg #[.int .u32 x.1.toNat, .bool x.2] := by
  obtain ⟨cs, rfl, _⟩ := okWide_struct Tryd.underlying27 hv
  obtain ⟨fuel, hf⟩ := hd
  obtain ⟨x, e⟩ := cross_cells hf
  obtain ⟨l⟩ := cs
  have e' : l = [.int .u32 x.1.toNat, .bool x.2] := by simpa [Value.cells] using e
  subst e'
  exact ⟨x, rfl⟩

/-- A path that came in. -/
theorem open_path {base : Nat} {ts : List TypeId} {ds : List (DataW H)} {jn : Nat} {v : Value} {d : DataW H} {p : List MemPlace} (hv : Value.okWide Tryd.prog W .any base 24 v)
    (hd : DataW.Trod enc Tryd.prog W 0 (fun _ => true) true 24 v d p) (hlt : ∀ x ∈ p, x.block < W.heap.size)
    (hsz : (DataW.weightsEach Tryd.prog ts ds).all (· ≤ reachBytes) = true) (ht : ts[jn]? = some 24) (hdj : ds[jn]? = some d) :
    ∃ bk a c xs, v = .agg #[.bool bk, .slice a (List.length xs) c] ∧ xs.length ≤ c ∧ xs.length ≤ 140737488351232 ∧ RdX W W.heap.size a xs := by
  obtain ⟨cs, rfl, _⟩ := okWide_struct Tryd.underlying24 hv
  obtain ⟨fuel, hf⟩ := hd
  have hw : ∀ n ∈ d.weights Tryd.prog 24, n ≤ 140737488351232 := by
    intro n hn
    have := List.all_eq_true.1 hsz n (DataW.weights_mem_each ht hdj n hn)
    have h := of_decide_eq_true this
    simpa [reachBytes] using h
  obtain ⟨l⟩ := cs
  simp only [Value.cells] at hf
  obtain ⟨xs, n, rfl, hx, hlen, hn, hg⟩ := DataW.trod_struct Tryd.underlying24 hf
  have c2 : Tryd.prog.cellsOf 24 = 2 := by kernel_rfl
  rw [c2] at hlen
  simp only [Prod.mk.injEq] at hx
  obtain ⟨rfl, rfl⟩ := hx
  match l, hlen with
  | [c0, c1], _ =>
  match xs, hn with
  | [x0, x1], _ =>
  have u0 : Tryd.prog.cellsOf 4 = 1 := by kernel_rfl
  have u1 : Tryd.prog.cellsOf 22 = 1 := by kernel_rfl
  have f0 : DataW.trod enc Tryd.prog W 0 (fun _ => true) true n 4 [c0] = some x0 := by have h := hg 0 _ rfl; simpa [u0] using h
  have f1 : DataW.trod enc Tryd.prog W 0 (fun _ => true) true n 22 [c1] = some x1 := by have h := hg 1 _ rfl; simpa [u0, u1] using h
  simp only [DataW.weights, Tryd.underlying24] at hw
  have w1 : ∀ n ∈ x1.1.weights Tryd.prog 22, n ≤ 140737488351232 := fun n hn => hw n (DataW.weights_mem_each (j := 1) rfl rfl n hn)
  have l1 : ∀ x ∈ x1.2, x.block < W.heap.size := fun x hx => hlt x (by simp [hx])
  obtain ⟨b, e0, _⟩ := DataW.trod_bool Tryd.underlying4 f0
  obtain ⟨a, c, xs, rfl, h1, h2, h3⟩ := crossesF (d := x1.1) (p := x1.2) f1 l1 w1
  simp only [List.cons.injEq, and_true] at e0
  subst e0
  exact ⟨b, a, c, xs, rfl, h1, h2, h3⟩

end
end Go.Proofs.YtkbnglcpcehaiaaDoor
