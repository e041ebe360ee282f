/- Joined texts. -/
import Derived.Test.YtpffmpjdkpfpmaaGreatDoorZBu
import Derived.Test.YtpffmpjdkpfpmaaGreatDoorZBp
import Derived.StillTailTactics
import Derived.Deep.RegionHeld3
namespace Go.Proofs.YtpffmpjdkpfpmaaGreatDoor
open Go Go.RowKit Go.Shelf
set_option linter.unusedSimpArgs false
set_option linter.unusedVariables false
set_option maxRecDepth 100000

/-- Is it of no gate? -/
def noGate (x : Cr) : Bool := decide (x.1.toNat = 0)

set_option maxHeartbeats 1000000 in
theorem gateless_any (x : Cr) (w : World) : Calls Tryz.prog 262 #[.agg #[.int .u32 x.1.toNat, .bool x.2]] w fun e w' => e = .returned (.bool (noGate x)) ∧ Below w.heap.size w w' := by
  have hb : (((x.1.toNat : Nat) : Int) == 0) = noGate x := by
    unfold noGate
    by_cases h : x.1.toNat = 0 <;> simp [h]
  generalize noGate x = q at *
  have h0 := gate_lt x
  go_enter Tryz.func262, Tryz.ntmps262
  go_wp2_with fail
  go_ret
  exact ⟨rfl, below_al (Below.refl _ _) _⟩

theorem ptBox2_all {w w' : World} {v0 v1 : Value} {t : TypeId} (h : Below (w.alloc (.cells #[v0, v1] t)).heap.size (w.alloc (.cells #[v0, v1] t)) w') : w'.cell? ⟨w.heap.size, 0, none⟩ = some v0 ∧ w'.cell? ⟨w.heap.size, 1, none⟩ = some v1 :=
  ⟨(h.cell (p := ⟨w.heap.size, 0, none⟩) (by simp)).trans (by rw [World.cell?_alloc_mark]; rfl), (h.cell (p := ⟨w.heap.size, 1, none⟩) (by simp)).trans (by rw [World.cell?_alloc_mark]; rfl)⟩

theorem any_step {xs : List Cr} {k : Nat} (h : k < xs.length) (h1 : (xs.take k).any noGate = false) (h2 : noGate (atX xs k) = false) : (xs.take (k + 1)).any noGate = false := by
  rw [take_atX xs k h, List.any_append, h1]
  simp [h2]

theorem any_hit {xs : List Cr} {k : Nat} (h : k < xs.length) (h2 : noGate (atX xs k) = true) : xs.any noGate = true :=
  List.any_eq_true.2 ⟨_, atX_mem xs k h, h2⟩

set_option maxHeartbeats 4000000 in
theorem indexFunc_any (a : Option Addr) (c : Nat) (xs : List Cr) (w : World) (hlen : xs.length ≤ 1000000) (hr : RdX w w.heap.size a xs) :
    Calls Tryz.prog 282 #[.slice a xs.length c, .func (.func 262) #[] #[]] w fun e w' => (∃ i : Int, e = .returned (.int .i64 i) ∧ decide (0 ≤ i) = xs.any noGate ∧ -1 ≤ i ∧ i ≤ 1000000) ∧ Below w.heap.size w w' := by
  have HR := Lib.hid hr
  have HG := Lib.hid (fun x w => gateless_any x w)
  clear hr
  go_enter Tryz.func282, Tryz.ntmps282
  go_wp2_with fail
  go_loopw [8] (fun i wr => ∃ k : Nat, k ≤ xs.length ∧ i = .int .i64 k ∧ Hid ((xs.take k).any noGate = false ∧ Below w.heap.size w wr)) (fun i _ => xs.length - (intOf i).toNat)
  case atStart => exact ⟨0, Nat.zero_le _, rfl, by simp, Below.refl _ _⟩
  case round =>
    obtain ⟨k, hk, rfl, HI⟩ := hrel
    by_cases hlt : k < xs.length
    · obtain ⟨g, o, rfl, hg, hc0⟩ := HR.out.cells k hlt
      have hc1 := hc0.kept (HI.out.2.block g hg)
      obtain ⟨q0, q1⟩ := hc1
      clear hc0
      have HS : Hid (noGate (atX xs k) = false → (xs.take (k + 1)).any noGate = false) := any_step hlt HI.out.1
      have HH : Hid (noGate (atX xs k) = true → xs.any noGate = true) := any_hit hlt
      generalize atX xs k = x at *
      go_wp2_with fail
      refine (HG.out x wr).mono ?_
      rintro e w1 ⟨rfl, hb⟩
      have HB := Lib.hid (below_on HI.out.2 hb)
      clear hb q0 q1
      obtain ⟨q, hq⟩ : ∃ q, q = noGate x := ⟨_, rfl⟩
      rw [← hq]
      have HQ := Lib.hid hq
      clear hq
      cases q
      · go_wp2_with fail
        go_roundw
        case rel => exact ⟨k + 1, by omega, by go_num, HS.out HQ.out.symm, HB.out⟩
        case measure => simp [intOf]; omega
      · go_wp2_with fail
        go_ret
        exact ⟨⟨_, rfl, by rw [HH.out HQ.out.symm]; simp, by omega, by omega⟩, HB.out⟩
    · obtain rfl : k = xs.length := by omega
      have h := HI.out
      rw [List.take_length] at h
      have HI2 := Lib.hid h
      clear h HI
      go_wp2_with fail
      go_ret
      exact ⟨⟨-1, rfl, by rw [HI2.out.1]; rfl, by omega, by omega⟩, HI2.out.2⟩

set_option maxHeartbeats 1000000 in
theorem containsFunc_any (a : Option Addr) (c : Nat) (xs : List Cr) (w : World) (hlen : xs.length ≤ 1000000) (hr : RdX w w.heap.size a xs) :
    Calls Tryz.prog 261 #[.slice a xs.length c, .func (.func 262) #[] #[]] w fun e w' => e = .returned (.bool (xs.any noGate)) ∧ Below w.heap.size w w' := by
  have HC := Lib.hid (indexFunc_any a c xs w hlen hr)
  clear hr
  go_enter Tryz.func261, Tryz.ntmps261
  go_wp2_with fail
  refine HC.out.mono ?_
  rintro e w1 ⟨⟨i, rfl, hi, h0, h1⟩, hb⟩
  have HI := Lib.hid hi
  have HB := Lib.hid hb
  clear hi hb
  go_wp2_with fail
  go_ret
  exact ⟨by rw [← HI.out]; rfl, HB.out⟩

/-- May these be a path's crossings? -/
def rightX (xs : List Cr) : Bool := decide (xs.length ≤ 64) && (!(xs.any noGate) && decide xs.Nodup)

set_option maxHeartbeats 1000000 in
theorem short_any (bk : Bool) (a : Option Addr) (c : Nat) (xs : List Cr) (w : World) (hlen : xs.length ≤ 1000000) :
    Calls Tryz.prog 231 #[.agg #[.bool bk, .slice a xs.length c]] w fun e w' => e = .returned (.bool (decide (xs.length ≤ 64))) ∧ Below w.heap.size w w' := by
  have hq : decide ((xs.length : Int) ≤ 64) = decide (xs.length ≤ 64) := by
    by_cases h : xs.length ≤ 64
    · rw [decide_eq_true h, decide_eq_true (by omega)]
    · rw [decide_eq_false h, decide_eq_false (by omega)]
  generalize decide (xs.length ≤ 64) = q at *
  go_enter Tryz.func231, Tryz.ntmps231
  go_wp2_with fail
  go_ret
  exact ⟨rfl, below_al (Below.refl _ _) _⟩

set_option maxHeartbeats 1000000 in
theorem gated_any (bk : Bool) (a : Option Addr) (c : Nat) (xs : List Cr) (w : World) (hlen : xs.length ≤ 1000000) (hr : RdX w w.heap.size a xs) :
    Calls Tryz.prog 232 #[.agg #[.bool bk, .slice a xs.length c]] w fun e w' => e = .returned (.bool (!(xs.any noGate))) ∧ Below w.heap.size w w' := by
  have HB0 : Hid (Below w.heap.size w (w.alloc (.cells #[.bool bk, .slice a xs.length c] 257))) := below_al (Below.refl _ _) _
  have HC := Lib.hid (containsFunc_any a c xs _ hlen (hr.on HB0.out))
  clear hr
  generalize xs.any noGate = q at *
  go_enter Tryz.func232, Tryz.ntmps232
  go_wp2_with fail
  refine HC.out.mono ?_
  rintro e w1 ⟨rfl, hb⟩
  have HB := Lib.hid hb
  clear hb
  go_wp2_with fail
  go_ret
  exact ⟨rfl, below_on HB0.out HB.out⟩

set_option maxHeartbeats 2000000 in
theorem single_any (bk : Bool) (a : Option Addr) (c : Nat) (xs : List Cr) (w : World) (hlen : xs.length ≤ 1000000) (hr : RdX w w.heap.size a xs) :
    Calls Tryz.prog 233 #[.agg #[.bool bk, .slice a xs.length c]] w fun e w' => e = .returned (.bool (decide xs.Nodup)) ∧ Below w.heap.size w w' := by
  obtain ⟨W, hW⟩ : ∃ W, W = w.alloc (.cells #[.bool bk, .slice a xs.length c] 257) := ⟨_, rfl⟩
  have HB0 : Hid (Below w.heap.size w W) := by rw [hW]; exact below_al (Below.refl _ _) _
  have HX : Hid (∀ w', Below W.heap.size W w' → w'.cell? ⟨w.heap.size, 0, none⟩ = some (.bool bk) ∧ w'.cell? ⟨w.heap.size, 1, none⟩ = some (.slice a xs.length c)) := by
    rw [hW]
    exact fun w' h => ptBox2_all h
  have HT : Hid (∀ w', Below W.heap.size W w' → Calls Tryz.prog 263 #[.agg #[.bool bk, .slice a xs.length c]] w' fun e w'' => ∃ b, e = .returned (.map (some b)) ∧ (∃ s : Nat, decide (s = xs.length) = decide xs.Nodup ∧ s ≤ 1000000 ∧ ∀ ty w3, Below w''.heap.size w'' w3 → (Builtin.len_ #[322] ty #[.map (some b)]).run Tryz.prog w3 = .ok (.int .i64 s) w3) ∧ Below w'.heap.size w' w'') := fun w' h => by
    refine (there_any bk a c xs w' hlen ((hr.on HB0.out).on h)).mono ?_
    rintro e w'' ⟨b, rfl, ⟨D, hown, hc⟩, hb, hbel⟩
    refine ⟨b, rfl, ⟨Maps.size D, ?_, by have := hc.2.2.1; omega, fun ty w3 h3 => ?_⟩, hbel⟩
    · by_cases hn : xs.Nodup
      · rw [decide_eq_true hn, decide_eq_true (hc.2.2.2.2 hn)]
      · rw [decide_eq_false hn, decide_eq_false (fun q => hn (hc.2.2.2.1 q))]
    · obtain ⟨es, clock, hbk, F, hs, hD⟩ := hown
      have hown3 : w3.ownsMap Tryz.prog 205 (plainElem Tryz.prog 3) b xs.length D := ⟨es, clock, (h3.block b (Array.getElem?_eq_some_iff.1 hbk).1).trans hbk, F, hs, hD⟩
      exact hown3.len Tryz.underlying322 ty
  have HW := Lib.hid hW
  clear hr hW
  generalize decide xs.Nodup = q at *
  obtain ⟨x0, x1⟩ := HX.out W (Below.refl _ _)
  have F0 : Below W.heap.size W W.drew := (Below.refl _ _).drew
  go_enter Tryz.func233, Tryz.ntmps233
  go_wp2_with fail
  rw [← HW.out]
  go_region_held (fun w' => w'.cell? ⟨w.heap.size, 0, none⟩ = some (.bool bk) ∧ w'.cell? ⟨w.heap.size, 1, none⟩ = some (.slice a xs.length c))
    (first | (refine HX.out _ ?_; with_reducible exact F1) | (refine HX.out _ ?_; with_reducible exact F0))
    (first | (go_at_call 263; (with_reducible refine (HT.out _ F0).mono ?_); rintro e w1 ⟨b, rfl, ⟨s, hs, hs1, hl⟩, hb⟩; have F1 : Below W.heap.size W w1 := below_on F0 hb; have hl1 := hl 3 w1 (Below.refl _ _); have HS := Lib.hid hs; clear hl hs))
  have HF1 := Lib.hid F1
  clear F0 F1 x0 x1
  go_wp2
  go_ret
  have he : ((s : Int) == (xs.length : Int)) = q := by
    rw [← HS.out]
    by_cases h : s = xs.length
    · simp [h]
    · have h' : ¬ (s : Int) = (xs.length : Int) := by omega
      simp [h, h']
  exact ⟨by rw [← he]; rfl, HB0.out.trans (HF1.out.mono HB0.out.size)⟩

set_option maxHeartbeats 4000000 in
theorem yes_any (bk : Bool) (a : Option Addr) (c : Nat) (xs : List Cr) (g : Nat) (w : World) (hlen : xs.length ≤ 1000000) (hr : RdX w w.heap.size a xs)
    (h0 : w.cell? ⟨g, 0, none⟩ = some (.func (.func 231) #[] #[])) (h1 : w.cell? ⟨g, 1, none⟩ = some (.func (.func 232) #[] #[])) (h2 : w.cell? ⟨g, 2, none⟩ = some (.func (.func 233) #[] #[])) :
    Calls Tryz.prog 230 #[.agg #[.bool bk, .slice a xs.length c], .slice (some ⟨g, 0, none⟩) 3 3] w fun e w' => e = .returned (.bool (rightX xs)) ∧ Below w.heap.size w w' := by
  have hg : g < w.heap.size := World.block_lt_of_cell? w _ h0
  obtain ⟨W, hW⟩ : ∃ W, W = w.alloc (.cells #[.bool bk, .slice a xs.length c] 257) := ⟨_, rfl⟩
  have HB0 : Hid (Below w.heap.size w W) := by rw [hW]; exact below_al (Below.refl _ _) _
  have HX : Hid (∀ w', Below W.heap.size W w' → (w'.cell? ⟨w.heap.size, 0, none⟩ = some (.bool bk) ∧ w'.cell? ⟨w.heap.size, 1, none⟩ = some (.slice a xs.length c)) ∧ (w'.cell? ⟨g, 0, none⟩ = some (.func (.func 231) #[] #[]) ∧ w'.cell? ⟨g, 1, none⟩ = some (.func (.func 232) #[] #[]) ∧ w'.cell? ⟨g, 2, none⟩ = some (.func (.func 233) #[] #[]))) := fun w' h => by
    have hb := HB0.out.trans (h.mono HB0.out.size)
    refine ⟨?_, (hb.cell (p := ⟨g, 0, none⟩) hg).trans h0, (hb.cell (p := ⟨g, 1, none⟩) hg).trans h1, (hb.cell (p := ⟨g, 2, none⟩) hg).trans h2⟩
    rw [hW] at h
    exact ptBox2_all h
  obtain ⟨q0, e0⟩ : ∃ q, q = decide (xs.length ≤ 64) := ⟨_, rfl⟩
  obtain ⟨q1, e1⟩ : ∃ q, q = !(xs.any noGate) := ⟨_, rfl⟩
  obtain ⟨q2, e2⟩ : ∃ q, q = decide xs.Nodup := ⟨_, rfl⟩
  have HR : Hid (rightX xs = (q0 && (q1 && q2))) := by rw [e0, e1, e2]; rfl
  have HQ0 : Hid (∀ w', Below W.heap.size W w' → Calls Tryz.prog 231 #[.agg #[.bool bk, .slice a xs.length c]] w' fun e w'' => e = .returned (.bool q0) ∧ Below w'.heap.size w' w'') := fun w' h => e0 ▸ short_any bk a c xs w' hlen
  have HQ1 : Hid (∀ w', Below W.heap.size W w' → Calls Tryz.prog 232 #[.agg #[.bool bk, .slice a xs.length c]] w' fun e w'' => e = .returned (.bool q1) ∧ Below w'.heap.size w' w'') := fun w' h => e1 ▸ gated_any bk a c xs w' hlen ((hr.on HB0.out).on h)
  have HQ2 : Hid (∀ w', Below W.heap.size W w' → Calls Tryz.prog 233 #[.agg #[.bool bk, .slice a xs.length c]] w' fun e w'' => e = .returned (.bool q2) ∧ Below w'.heap.size w' w'') := fun w' h => e2 ▸ single_any bk a c xs w' hlen ((hr.on HB0.out).on h)
  have HW := Lib.hid hW
  clear e0 e1 e2 h0 h1 h2 hr hW
  go_enter Tryz.func230, Tryz.ntmps230
  go_wp2_with fail
  rw [← HW.out]
  go_loopw [9] (fun i wr => ∃ k : Nat, k ≤ 3 ∧ i = .int .i64 k ∧ Hid (Below W.heap.size W wr ∧ (1 ≤ k → q0 = true) ∧ (2 ≤ k → q1 = true) ∧ (3 ≤ k → q2 = true))) (fun i _ => 3 - (intOf i).toNat)
  case atStart => exact ⟨0, by omega, rfl, Below.refl _ _, fun h => by omega, fun h => by omega, fun h => by omega⟩
  case round =>
    obtain ⟨k, hk, rfl, HI⟩ := hrel
    obtain ⟨⟨x0, x1⟩, y0, y1, y2⟩ := HX.out wr HI.out.1
    have hk4 : k = 0 ∨ k = 1 ∨ k = 2 ∨ k = 3 := by omega
    rcases hk4 with rfl | rfl | rfl | rfl
    · go_wp2_with fail
      refine (HQ0.out wr HI.out.1).mono ?_
      rintro e w1 ⟨rfl, hb⟩
      have HB := Lib.hid (below_on HI.out.1 hb)
      clear hb x0 x1 y0 y1 y2
      cases q0
      · go_wp2_with fail
        go_ret
        exact ⟨by rw [HR.out]; rfl, HB0.out.trans (HB.out.mono HB0.out.size)⟩
      · go_wp2_with fail
        go_roundw
        case rel => exact ⟨1, by omega, rfl, HB.out, (fun _ => by first | trivial | rfl), (fun h => by omega), (fun h => by omega)⟩
        case measure => simp [intOf]
    · go_wp2_with fail
      refine (HQ1.out wr HI.out.1).mono ?_
      rintro e w1 ⟨rfl, hb⟩
      have HB := Lib.hid (below_on HI.out.1 hb)
      clear hb x0 x1 y0 y1 y2
      cases q1
      · go_wp2_with fail
        go_ret
        exact ⟨by rw [HR.out]; simp, HB0.out.trans (HB.out.mono HB0.out.size)⟩
      · go_wp2_with fail
        go_roundw
        case rel => exact ⟨2, by omega, rfl, HB.out, (fun _ => HI.out.2.1 (by omega)), (fun _ => by first | trivial | rfl), (fun h => by omega)⟩
        case measure => simp [intOf]
    · go_wp2_with fail
      refine (HQ2.out wr HI.out.1).mono ?_
      rintro e w1 ⟨rfl, hb⟩
      have HB := Lib.hid (below_on HI.out.1 hb)
      clear hb x0 x1 y0 y1 y2
      cases q2
      · go_wp2_with fail
        go_ret
        exact ⟨by rw [HR.out]; simp, HB0.out.trans (HB.out.mono HB0.out.size)⟩
      · go_wp2_with fail
        go_roundw
        case rel => exact ⟨3, by omega, rfl, HB.out, (fun _ => HI.out.2.1 (by omega)), (fun _ => HI.out.2.2.1 (by omega)), (fun _ => by first | trivial | rfl)⟩
        case measure => simp [intOf]
    · have r0 := HI.out.2.1 (by omega)
      have r1 := HI.out.2.2.1 (by omega)
      have r2 := HI.out.2.2.2 (by omega)
      subst r0 r1 r2
      clear x0 x1 y0 y1 y2
      go_wp2_with fail
      go_ret
      exact ⟨by rw [HR.out]; rfl, HB0.out.trans (HI.out.1.mono HB0.out.size)⟩

end Go.Proofs.YtpffmpjdkpfpmaaGreatDoor

namespace Go.Proofs.YtpffmpjdkpfpmaaGreatDoor
open Go Go.RowKit Go.Shelf
set_option linter.unusedSimpArgs false
set_option linter.unusedVariables false
set_option maxRecDepth 100000

/-- Check's answer. -/
def chX (xs : List Cr) : Int := if rightX xs = true then 0 else 2

set_option maxHeartbeats 2000000 in
theorem pcheck_any (bk : Bool) (a : Option Addr) (c : Nat) (xs : List Cr) (w : World) (hlen : xs.length ≤ 1000000) (hr : RdX w w.heap.size a xs) :
    Calls Tryz.prog 186 #[.agg #[.bool bk, .slice a xs.length c]] w fun e w' => e = .returned (.int .i64 (chX xs)) ∧ Below w.heap.size w w' := by
  have HY : Hid (∀ (g : Nat) (w1 : World), Below w.heap.size w w1 → w1.cell? ⟨g, 0, none⟩ = some (.func (.func 231) #[] #[]) → w1.cell? ⟨g, 1, none⟩ = some (.func (.func 232) #[] #[]) → w1.cell? ⟨g, 2, none⟩ = some (.func (.func 233) #[] #[]) →
      Calls Tryz.prog 230 #[.agg #[.bool bk, .slice a xs.length c], .slice (some ⟨g, 0, none⟩) 3 3] w1 fun e w' => e = .returned (.bool (rightX xs)) ∧ Below w1.heap.size w1 w') := fun g w1 h => yes_any bk a c xs g w1 hlen (hr.on h)
  have HC : Hid (chX xs = if rightX xs = true then 0 else 2) := rfl
  clear hr
  generalize rightX xs = q at *
  generalize chX xs = r at *
  go_enter Tryz.func186, Tryz.ntmps186
  go_wp2_with fail
  refine wp_scope_on 0 rfl ?_
  go_wp2_with fail
  obtain ⟨W, hW⟩ : ∃ W, W = (((w.alloc (.cells #[.bool bk, .slice a xs.length c] 44)).alloc (.cells #[.bool bk, .slice a xs.length c] 257)).alloc (.cells #[.func (.func 231) #[] #[], .func (.func 232) #[] #[], .func (.func 233) #[] #[]] 296)) := ⟨_, rfl⟩
  have HB0 : Hid (Below w.heap.size w W) := by rw [hW]; exact below_al (below_al (below_al (Below.refl _ _) _) _) _
  have hf : ∀ i, W.cell? ⟨w.heap.size + 1 + 1, i, none⟩ = (#[Value.func (.func 231) #[] #[], .func (.func 232) #[] #[], .func (.func 233) #[] #[]])[i]? := fun i => by
    have h := box_at (w := ((w.alloc (.cells #[.bool bk, .slice a xs.length c] 44)).alloc (.cells #[.bool bk, .slice a xs.length c] 257))) (Below.refl _ (((w.alloc (.cells #[.bool bk, .slice a xs.length c] 44)).alloc (.cells #[.bool bk, .slice a xs.length c] 257)).alloc (.cells #[.func (.func 231) #[] #[], .func (.func 232) #[] #[], .func (.func 233) #[] #[]] 296))) i
    rw [← hW] at h
    simpa using h
  rw [← hW]
  refine (HY.out (w.heap.size + 1 + 1) W HB0.out (hf 0) (hf 1) (hf 2)).mono ?_
  rintro e w1 ⟨rfl, hb⟩
  have HB1 := Lib.hid (below_on HB0.out hb)
  clear hb hf hW
  cases q
  · go_wp2_with fail
    go_step3
    refine ⟨rfl, ?_⟩
    show Code.wp _ _ _ _ _
    go_wp2_with fail
    rw [Exit.noGoto_ret]
    go_ret
    exact ⟨by rw [HC.out]; rfl, HB1.out⟩
  · go_wp2_with fail
    simp only [Exit.jump]
    go_ret
    exact ⟨by rw [HC.out]; rfl, HB1.out⟩

end Go.Proofs.YtpffmpjdkpfpmaaGreatDoor

namespace Go.Proofs.YtpffmpjdkpfpmaaGreatDoor
open Go Go.RowKit Go.Shelf
set_option linter.unusedSimpArgs false
set_option linter.unusedVariables false
set_option maxRecDepth 100000
theorem size_item (w : World) : (Go.sizeOf 118).run Tryz.prog w = .ok 5 w := by kernel_rfl

theorem cr_ext {x y : Cr} (h0 : x.1.toNat = y.1.toNat) (h1 : x.2 = y.2) : x = y := by
  obtain ⟨g, u⟩ := x
  obtain ⟨g', u'⟩ := y
  simp only [Prod.mk.injEq]
  exact ⟨UInt32.toNat_inj.1 h0, h1⟩

theorem eqCross_run (x y : Cr) (w : World) : (Op.equalIn 10000 205 (.agg #[.int .u32 x.1.toNat, .bool x.2]) (.agg #[.int .u32 y.1.toNat, .bool y.2])).run Tryz.prog w = .ok (decide (x = y)) w := by
  have e1 : ((x.1.toNat : Int) == (y.1.toNat : Int)) = decide (x.1.toNat = y.1.toNat) := by
    by_cases h : x.1.toNat = y.1.toNat
    · simp [h]
    · have h' : ¬ (x.1.toNat : Int) = (y.1.toNat : Int) := by omega
      simp [h, h']
  have e2 : decide (x = y) = (decide (x.1.toNat = y.1.toNat) && (x.2 == y.2)) := by
    by_cases h0 : x.1.toNat = y.1.toNat
    · by_cases h1 : x.2 = y.2
      · simp [cr_ext h0 h1]
      · have : ¬ x = y := fun e => h1 (by rw [e])
        simp [this, h1]
    · have : ¬ x = y := fun e => h0 (by rw [e])
      simp [this, h0]
  rw [e2]
  go_simp
  by_cases h0 : x.1.toNat = y.1.toNat <;> by_cases h1 : x.2 = y.2 <;> simp [h0, h1]

end Go.Proofs.YtpffmpjdkpfpmaaGreatDoor
