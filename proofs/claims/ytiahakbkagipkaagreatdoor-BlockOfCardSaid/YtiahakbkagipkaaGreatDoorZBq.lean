/- Joined texts. -/
import Derived.Test.YtiahakbkagipkaaGreatDoorZBu
import Derived.Test.YtiahakbkagipkaaGreatDoorZBp
import Derived.StillTailTactics
import Derived.Deep.RegionHeld3
set_option maxHeartbeats 8000000
set_option linter.unusedSimpArgs false
set_option linter.unusedVariables false
set_option maxRecDepth 100000
namespace Go.Proofs.YtiahakbkagipkaaGreatDoor
open Go Go.RowKit Go.Shelf

def noGate (x : Cr) : Bool := decide (x.1.toNat = 0)

theorem gateless_any (x : Cr) (w : World) : Calls Tryz.prog 168 #[.agg #[.int .u32 x.1.toNat, .bool x.2]] w fun e w' => e = .returned (.bool (noGate x)) ∧ Below w.heap.size w w' := by
 have hb : (((x.1.toNat : Nat) : Int) == 0) = noGate x := by
  unfold noGate
  by_cases h : x.1.toNat = 0 <;> simp [h]
 generalize noGate x = q at *
 have h0 := gate_lt x
 go_enter Tryz.func168, Tryz.ntmps168
 go_wp2_with fail
 go_ret
 exact ⟨rfl, below_al bR _⟩

theorem ptBox2_all {w w' : World} {v0 v1 : Value} {t : TypeId} (h : Below (w.alloc (.cells #[v0, v1] t)).heap.size (w.alloc (.cells #[v0, v1] t)) w') : w'.cell? ⟨w.heap.size, 0, none⟩ = some v0 ∧ w'.cell? ⟨w.heap.size, 1, none⟩ = some v1 :=
 ⟨(h.cell (p := ⟨w.heap.size, 0, none⟩) (by simp)).trans (by rw [World.cell?_alloc_mark]; rfl), (h.cell (p := ⟨w.heap.size, 1, none⟩) (by simp)).trans (by rw [World.cell?_alloc_mark]; rfl)⟩

theorem any_step {xs : List Cr} {k : Nat} (h : k < xs.length) (h1 : (xs.take k).any noGate = false) (h2 : noGate (atX xs k) = false) : (xs.take (k + 1)).any noGate = false := by
 rw [take_atX xs k h, List.any_append, h1]
 simp [h2]

theorem any_hit {xs : List Cr} {k : Nat} (h : k < xs.length) (h2 : noGate (atX xs k) = true) : xs.any noGate = true :=
 List.any_eq_true.2 ⟨_, atX_mem xs k h, h2⟩

theorem indexFunc_any (a : Option Addr) (c : Nat) (xs : List Cr) (w : World) (hlen : xs.length ≤ 1000000) (hr : RdX w w.heap.size a xs) :
  Calls Tryz.prog 184 #[.slice a xs.length c, .func (.func 168) #[] #[]] w fun e w' => (∃ i : Int, e = .returned (.int .i64 i) ∧ decide (0 ≤ i) = xs.any noGate ∧ -1 ≤ i ∧ i ≤ 1000000) ∧ Below w.heap.size w w' := by
 have HR := h_ hr
 have HG := h_ (fun x w => gateless_any x w)
 clear hr
 go_enter Tryz.func184, Tryz.ntmps184
 go_wp2_with fail
 go_loopw [8] (fun i wr => ∃ k : Nat, k ≤ xs.length ∧ i = .int .i64 k ∧ Hid ((xs.take k).any noGate = false ∧ Below w.heap.size w wr)) (fun i _ => xs.length - (intOf i).toNat)
 case atStart => exact ⟨0, Nat.zero_le _, rfl, by simp, Below.refl _ _⟩
 case round =>
  obtain ⟨k, hk, rfl, HI⟩ := hrel
  by_cases hlt : k < xs.length
  ·obtain ⟨g, o, rfl, hg, hc0⟩ := HR.out.cells k hlt
   have hc1 := hc0.kept (HI.out.2.block g hg)
   obtain ⟨q0, q1⟩ := hc1
   clear hc0
   have HS : Hid (noGate (atX xs k) = false → (xs.take (k + 1)).any noGate = false) := any_step hlt HI.out.1
   have HH : Hid (noGate (atX xs k) = true → xs.any noGate = true) := any_hit hlt
   generalize atX xs k = x at *
   go_wp2_with fail
   refine (HG.out x wr).mono ?_
   rintro e w1 ⟨rfl, hb⟩
   have HB := h_ (below_on HI.out.2 hb)
   clear hb q0 q1
   obtain ⟨q, hq⟩ : ∃ q, q = noGate x := ⟨_, rfl⟩
   rw [← hq]
   have HQ := h_ hq
   clear hq
   cases q
   ·go_wp2_with fail
    go_roundw
    case rel => exact ⟨k + 1, by omega, by go_num, HS.out HQ.out.symm, HB.out⟩
    case measure => simp [intOf]; omega
   ·go_wp2_with fail
    go_ret
    exact ⟨⟨_, rfl, by rw [HH.out HQ.out.symm]; simp, by omega, by omega⟩, HB.out⟩
  ·obtain rfl : k = xs.length := by omega
   have h := HI.out
   rw [List.take_length] at h
   have HI2 := h_ h
   clear h HI
   go_wp2_with fail
   go_ret
   exact ⟨⟨-1, rfl, by rw [HI2.out.1]; rfl, by omega, by omega⟩, HI2.out.2⟩

theorem containsFunc_any (a : Option Addr) (c : Nat) (xs : List Cr) (w : World) (hlen : xs.length ≤ 1000000) (hr : RdX w w.heap.size a xs) :
  Calls Tryz.prog 167 #[.slice a xs.length c, .func (.func 168) #[] #[]] w fun e w' => e = .returned (.bool (xs.any noGate)) ∧ Below w.heap.size w w' := by
 have HC := h_ (indexFunc_any a c xs w hlen hr)
 clear hr
 go_enter Tryz.func167, Tryz.ntmps167
 go_wp2_with fail
 refine HC.out.mono ?_
 rintro e w1 ⟨⟨i, rfl, hi, h0, h1⟩, hb⟩
 have HI := h_ hi
 have HB := h_ hb
 clear hi hb
 go_wp2_with fail
 go_ret
 exact ⟨by rw [← HI.out]; rfl, HB.out⟩

def rightX (xs : List Cr) : Bool := decide (xs.length ≤ 64) && (!(xs.any noGate) && decide xs.Nodup)

theorem short_any (bk : Bool) (a : Option Addr) (c : Nat) (xs : List Cr) (w : World) (hlen : xs.length ≤ 1000000) :
  Calls Tryz.prog 142 #[.agg #[.bool bk, .slice a xs.length c]] w fun e w' => e = .returned (.bool (decide (xs.length ≤ 64))) ∧ Below w.heap.size w w' := by
 have hq : decide ((xs.length : Int) ≤ 64) = decide (xs.length ≤ 64) := by
  by_cases h : xs.length ≤ 64
  ·rw [decide_eq_true h, decide_eq_true (by omega)]
  ·rw [decide_eq_false h, decide_eq_false (by omega)]
 generalize decide (xs.length ≤ 64) = q at *
 go_enter Tryz.func142, Tryz.ntmps142
 go_wp2_with fail
 go_ret
 exact ⟨rfl, below_al bR _⟩

theorem gated_any (bk : Bool) (a : Option Addr) (c : Nat) (xs : List Cr) (w : World) (hlen : xs.length ≤ 1000000) (hr : RdX w w.heap.size a xs) :
  Calls Tryz.prog 143 #[.agg #[.bool bk, .slice a xs.length c]] w fun e w' => e = .returned (.bool (!(xs.any noGate))) ∧ Below w.heap.size w w' := by
 have HB0 : Hid (Below w.heap.size w (w.alloc (.cells #[.bool bk, .slice a xs.length c] 174))) := below_al bR _
 have HC := h_ (containsFunc_any a c xs _ hlen (hr.on HB0.out))
 clear hr
 generalize xs.any noGate = q at *
 go_enter Tryz.func143, Tryz.ntmps143
 go_wp2_with fail
 refine HC.out.mono ?_
 rintro e w1 ⟨rfl, hb⟩
 have HB := h_ hb
 clear hb
 go_wp2_with fail
 go_ret
 exact ⟨rfl, below_on HB0.out HB.out⟩

theorem single_any (bk : Bool) (a : Option Addr) (c : Nat) (xs : List Cr) (w : World) (hlen : xs.length ≤ 1000000) (hr : RdX w w.heap.size a xs) :
  Calls Tryz.prog 144 #[.agg #[.bool bk, .slice a xs.length c]] w fun e w' => e = .returned (.bool (decide xs.Nodup)) ∧ Below w.heap.size w w' := by
 obtain ⟨W, hW⟩ : ∃ W, W = w.alloc (.cells #[.bool bk, .slice a xs.length c] 174) := ⟨_, rfl⟩
 have HB0 : Hid (Below w.heap.size w W) := by rw [hW]; exact below_al bR _
 have HX : Hid (∀ w', Below W.heap.size W w' → w'.cell? ⟨w.heap.size, 0, none⟩ = some (.bool bk) ∧ w'.cell? ⟨w.heap.size, 1, none⟩ = some (.slice a xs.length c)) := by
  rw [hW]
  exact fun w' h => ptBox2_all h
 have HT : Hid (∀ w', Below W.heap.size W w' → Calls Tryz.prog 169 #[.agg #[.bool bk, .slice a xs.length c]] w' fun e w'' => ∃ b, e = .returned (.map (some b)) ∧ (∃ s : Nat, decide (s = xs.length) = decide xs.Nodup ∧ s ≤ 1000000 ∧ ∀ ty w3, Below w''.heap.size w'' w3 → (Builtin.len_ #[229] ty #[.map (some b)]).run Tryz.prog w3 = .ok (.int .i64 s) w3) ∧ Below w'.heap.size w' w'') := fun w' h => by
  refine (there_any bk a c xs w' hlen ((hr.on HB0.out).on h)).mono ?_
  rintro e w'' ⟨b, rfl, ⟨D, hown, hc⟩, hb, hbel⟩
  refine ⟨b, rfl, ⟨Maps.size D, ?_, by have := hc.2.2.1; omega, fun ty w3 h3 => ?_⟩, hbel⟩
  ·by_cases hn : xs.Nodup
   ·rw [decide_eq_true hn, decide_eq_true (hc.2.2.2.2 hn)]
   ·rw [decide_eq_false hn, decide_eq_false (fun q => hn (hc.2.2.2.1 q))]
  ·obtain ⟨es, clock, hbk, F, hs, hD⟩ := hown
   have hown3 : w3.ownsMap Tryz.prog 138 (plainElem Tryz.prog 3) b xs.length D := ⟨es, clock, (h3.block b (Array.getElem?_eq_some_iff.1 hbk).1).trans hbk, F, hs, hD⟩
   exact hown3.len Tryz.underlying229 ty
 have HW := h_ hW
 clear hr hW
 generalize decide xs.Nodup = q at *
 obtain ⟨x0, x1⟩ := HX.out W bR
 have F0 : Below W.heap.size W W.drew := bR.drew
 go_enter Tryz.func144, Tryz.ntmps144
 go_wp2_with fail
 rw [← HW.out]
 go_region_held (fun w' => w'.cell? ⟨w.heap.size, 0, none⟩ = some (.bool bk) ∧ w'.cell? ⟨w.heap.size, 1, none⟩ = some (.slice a xs.length c))
  (first | (refine HX.out _ ?_; with_reducible exact F1) | (refine HX.out _ ?_; with_reducible exact F0))
  (first | (go_at_call 169; (with_reducible refine (HT.out _ F0).mono ?_); rintro e w1 ⟨b, rfl, ⟨s, hs, hs1, hl⟩, hb⟩; have F1 : Below W.heap.size W w1 := below_on F0 hb; have hl1 := hl 3 w1 bR; have HS := h_ hs; clear hl hs))
 have HF1 := h_ F1
 clear F0 F1 x0 x1
 go_wp2
 go_ret
 have he : ((s : Int) == (xs.length : Int)) = q := by
  rw [← HS.out]
  by_cases h : s = xs.length
  ·simp [h]
  ·have h' : ¬ (s : Int) = (xs.length : Int) := by omega
   simp [h, h']
 exact ⟨by rw [← he]; rfl, HB0.out.trans (HF1.out.mono HB0.out.size)⟩

theorem yes_any (bk : Bool) (a : Option Addr) (c : Nat) (xs : List Cr) (g : Nat) (w : World) (hlen : xs.length ≤ 1000000) (hr : RdX w w.heap.size a xs)
  (h0 : w.cell? ⟨g, 0, none⟩ = some (.func (.func 142) #[] #[])) (h1 : w.cell? ⟨g, 1, none⟩ = some (.func (.func 143) #[] #[])) (h2 : w.cell? ⟨g, 2, none⟩ = some (.func (.func 144) #[] #[])) :
  Calls Tryz.prog 141 #[.agg #[.bool bk, .slice a xs.length c], .slice (some ⟨g, 0, none⟩) 3 3] w fun e w' => e = .returned (.bool (rightX xs)) ∧ Below w.heap.size w w' := by
 have hg : g < w.heap.size := World.block_lt_of_cell? w _ h0
 obtain ⟨W, hW⟩ : ∃ W, W = w.alloc (.cells #[.bool bk, .slice a xs.length c] 174) := ⟨_, rfl⟩
 have HB0 : Hid (Below w.heap.size w W) := by rw [hW]; exact below_al bR _
 have HX : Hid (∀ w', Below W.heap.size W w' → (w'.cell? ⟨w.heap.size, 0, none⟩ = some (.bool bk) ∧ w'.cell? ⟨w.heap.size, 1, none⟩ = some (.slice a xs.length c)) ∧ (w'.cell? ⟨g, 0, none⟩ = some (.func (.func 142) #[] #[]) ∧ w'.cell? ⟨g, 1, none⟩ = some (.func (.func 143) #[] #[]) ∧ w'.cell? ⟨g, 2, none⟩ = some (.func (.func 144) #[] #[]))) := fun w' h => by
  have hb := HB0.out.trans (h.mono HB0.out.size)
  refine ⟨?_, (hb.cell (p := ⟨g, 0, none⟩) hg).trans h0, (hb.cell (p := ⟨g, 1, none⟩) hg).trans h1, (hb.cell (p := ⟨g, 2, none⟩) hg).trans h2⟩
  rw [hW] at h
  exact ptBox2_all h
 obtain ⟨q0, e0⟩ : ∃ q, q = decide (xs.length ≤ 64) := ⟨_, rfl⟩
 obtain ⟨q1, e1⟩ : ∃ q, q = !(xs.any noGate) := ⟨_, rfl⟩
 obtain ⟨q2, e2⟩ : ∃ q, q = decide xs.Nodup := ⟨_, rfl⟩
 have HR : Hid (rightX xs = (q0 && (q1 && q2))) := by rw [e0, e1, e2]; rfl
 have HQ0 : Hid (∀ w', Below W.heap.size W w' → Calls Tryz.prog 142 #[.agg #[.bool bk, .slice a xs.length c]] w' fun e w'' => e = .returned (.bool q0) ∧ Below w'.heap.size w' w'') := fun w' h => e0 ▸ short_any bk a c xs w' hlen
 have HQ1 : Hid (∀ w', Below W.heap.size W w' → Calls Tryz.prog 143 #[.agg #[.bool bk, .slice a xs.length c]] w' fun e w'' => e = .returned (.bool q1) ∧ Below w'.heap.size w' w'') := fun w' h => e1 ▸ gated_any bk a c xs w' hlen ((hr.on HB0.out).on h)
 have HQ2 : Hid (∀ w', Below W.heap.size W w' → Calls Tryz.prog 144 #[.agg #[.bool bk, .slice a xs.length c]] w' fun e w'' => e = .returned (.bool q2) ∧ Below w'.heap.size w' w'') := fun w' h => e2 ▸ single_any bk a c xs w' hlen ((hr.on HB0.out).on h)
 have HW := h_ hW
 clear e0 e1 e2 h0 h1 h2 hr hW
 go_enter Tryz.func141, Tryz.ntmps141
 go_wp2_with fail
 rw [← HW.out]
 go_loopw [9] (fun i wr => ∃ k : Nat, k ≤ 3 ∧ i = .int .i64 k ∧ Hid (Below W.heap.size W wr ∧ (1 ≤ k → q0 = true) ∧ (2 ≤ k → q1 = true) ∧ (3 ≤ k → q2 = true))) (fun i _ => 3 - (intOf i).toNat)
 case atStart => exact ⟨0, by omega, rfl, Below.refl _ _, fun h => by omega, fun h => by omega, fun h => by omega⟩
 case round =>
  obtain ⟨k, hk, rfl, HI⟩ := hrel
  obtain ⟨⟨x0, x1⟩, y0, y1, y2⟩ := HX.out wr HI.out.1
  have hk4 : k = 0 ∨ k = 1 ∨ k = 2 ∨ k = 3 := by omega
  rcases hk4 with rfl | rfl | rfl | rfl
  ·go_wp2_with fail
   refine (HQ0.out wr HI.out.1).mono ?_
   rintro e w1 ⟨rfl, hb⟩
   have HB := h_ (below_on HI.out.1 hb)
   clear hb x0 x1 y0 y1 y2
   cases q0
   ·go_wp2_with fail
    go_ret
    exact ⟨by rw [HR.out]; rfl, HB0.out.trans (HB.out.mono HB0.out.size)⟩
   ·go_wp2_with fail
    go_roundw
    case rel => exact ⟨1, by omega, rfl, HB.out, (fun _ => by first | trivial | rfl), (fun h => by omega), (fun h => by omega)⟩
    case measure => simp [intOf]
  ·go_wp2_with fail
   refine (HQ1.out wr HI.out.1).mono ?_
   rintro e w1 ⟨rfl, hb⟩
   have HB := h_ (below_on HI.out.1 hb)
   clear hb x0 x1 y0 y1 y2
   cases q1
   ·go_wp2_with fail
    go_ret
    exact ⟨by rw [HR.out]; simp, HB0.out.trans (HB.out.mono HB0.out.size)⟩
   ·go_wp2_with fail
    go_roundw
    case rel => exact ⟨2, by omega, rfl, HB.out, (fun _ => HI.out.2.1 (by omega)), (fun _ => by first | trivial | rfl), (fun h => by omega)⟩
    case measure => simp [intOf]
  ·go_wp2_with fail
   refine (HQ2.out wr HI.out.1).mono ?_
   rintro e w1 ⟨rfl, hb⟩
   have HB := h_ (below_on HI.out.1 hb)
   clear hb x0 x1 y0 y1 y2
   cases q2
   ·go_wp2_with fail
    go_ret
    exact ⟨by rw [HR.out]; simp, HB0.out.trans (HB.out.mono HB0.out.size)⟩
   ·go_wp2_with fail
    go_roundw
    case rel => exact ⟨3, by omega, rfl, HB.out, (fun _ => HI.out.2.1 (by omega)), (fun _ => HI.out.2.2.1 (by omega)), (fun _ => by first | trivial | rfl)⟩
    case measure => simp [intOf]
  ·have r0 := HI.out.2.1 (by omega)
   have r1 := HI.out.2.2.1 (by omega)
   have r2 := HI.out.2.2.2 (by omega)
   subst r0 r1 r2
   clear x0 x1 y0 y1 y2
   go_wp2_with fail
   go_ret
   exact ⟨by rw [HR.out]; rfl, HB0.out.trans (HI.out.1.mono HB0.out.size)⟩

def chX (xs : List Cr) : Int := if rightX xs = true then 0 else 2

theorem pcheck_any (bk : Bool) (a : Option Addr) (c : Nat) (xs : List Cr) (w : World) (hlen : xs.length ≤ 1000000) (hr : RdX w w.heap.size a xs) :
  Calls Tryz.prog 109 #[.agg #[.bool bk, .slice a xs.length c]] w fun e w' => e = .returned (.int .i64 (chX xs)) ∧ Below w.heap.size w w' := by
 have HY : Hid (∀ (g : Nat) (w1 : World), Below w.heap.size w w1 → w1.cell? ⟨g, 0, none⟩ = some (.func (.func 142) #[] #[]) → w1.cell? ⟨g, 1, none⟩ = some (.func (.func 143) #[] #[]) → w1.cell? ⟨g, 2, none⟩ = some (.func (.func 144) #[] #[]) →
   Calls Tryz.prog 141 #[.agg #[.bool bk, .slice a xs.length c], .slice (some ⟨g, 0, none⟩) 3 3] w1 fun e w' => e = .returned (.bool (rightX xs)) ∧ Below w1.heap.size w1 w') := fun g w1 h => yes_any bk a c xs g w1 hlen (hr.on h)
 have HC : Hid (chX xs = if rightX xs = true then 0 else 2) := rfl
 clear hr
 generalize rightX xs = q at *
 generalize chX xs = r at *
 go_enter Tryz.func109, Tryz.ntmps109
 go_wp2_with fail
 refine wp_scope_on 0 rfl ?_
 go_wp2_with fail
 obtain ⟨W, hW⟩ : ∃ W, W = (((w.alloc (.cells #[.bool bk, .slice a xs.length c] 44)).alloc (.cells #[.bool bk, .slice a xs.length c] 174)).alloc (.cells #[.func (.func 142) #[] #[], .func (.func 143) #[] #[], .func (.func 144) #[] #[]] 207)) := ⟨_, rfl⟩
 have HB0 : Hid (Below w.heap.size w W) := by rw [hW]; exact below_al (below_al (below_al bR _) _) _
 have hf : ∀ i, W.cell? ⟨w.heap.size + 1 + 1, i, none⟩ = (#[Value.func (.func 142) #[] #[], .func (.func 143) #[] #[], .func (.func 144) #[] #[]])[i]? := fun i => by
  have h := box_at (w := ((w.alloc (.cells #[.bool bk, .slice a xs.length c] 44)).alloc (.cells #[.bool bk, .slice a xs.length c] 174))) (Below.refl _ (((w.alloc (.cells #[.bool bk, .slice a xs.length c] 44)).alloc (.cells #[.bool bk, .slice a xs.length c] 174)).alloc (.cells #[.func (.func 142) #[] #[], .func (.func 143) #[] #[], .func (.func 144) #[] #[]] 207))) i
  rw [← hW] at h
  simpa using h
 rw [← hW]
 refine (HY.out (w.heap.size + 1 + 1) W HB0.out (hf 0) (hf 1) (hf 2)).mono ?_
 rintro e w1 ⟨rfl, hb⟩
 have HB1 := h_ (below_on HB0.out hb)
 clear hb hf hW
 cases q
 ·go_wp2_with fail
  go_step3
  refine ⟨rfl, ?_⟩
  show Code.wp _ _ _ _ _
  go_wp2_with fail
  rw [Exit.noGoto_ret]
  go_ret
  exact ⟨by rw [HC.out]; rfl, HB1.out⟩
 ·go_wp2_with fail
  simp only [Exit.jump]
  go_ret
  exact ⟨by rw [HC.out]; rfl, HB1.out⟩

theorem cut_h {P : Program} (t e : TypeId) (z : Nat) (ht : P.underlying t = some (.slice e)) (hz : ∀ w, (Go.sizeOf e).run P w = .ok z w) (a : Option Addr) (n cap h : Nat) (h1 : h ≤ cap) (w : World) :
  (Instr.slice t (.slice a n cap) none (some (.int .i64 (h : Int))) none).run P w = .ok (.slice a h cap) w := by
 have ht' : P.underlying t = some (.slice (P.elem t)) := by simp [Program.elem, ht]
 have he : P.elem t = e := by simp [Program.elem, ht]
 rw [run_slice_h w t a n cap ht' .i64 h (by omega) (by omega), he, hz]
 rcases a with _ | ad
 ·simp [Result.andThen, sliced]
 ·simp [Result.andThen, sliced, Addr.add]

theorem size_cross (w : World) : (Go.sizeOf 138).run Tryz.prog w = .ok 2 w := by kernel_rfl
theorem size_item (w : World) : (Go.sizeOf 83).run Tryz.prog w = .ok 5 w := by kernel_rfl

theorem cr_ext {x y : Cr} (h0 : x.1.toNat = y.1.toNat) (h1 : x.2 = y.2) : x = y := by
 obtain ⟨g, u⟩ := x
 obtain ⟨g', u'⟩ := y
 simp only [Prod.mk.injEq]
 exact ⟨UInt32.toNat_inj.1 h0, h1⟩

theorem eqCross_run (x y : Cr) (w : World) : (Op.equalIn 10000 138 (.agg #[.int .u32 x.1.toNat, .bool x.2]) (.agg #[.int .u32 y.1.toNat, .bool y.2])).run Tryz.prog w = .ok (decide (x = y)) w := by
 have e1 : ((x.1.toNat : Int) == (y.1.toNat : Int)) = decide (x.1.toNat = y.1.toNat) := by
  by_cases h : x.1.toNat = y.1.toNat
  ·simp [h]
  ·have h' : ¬ (x.1.toNat : Int) = (y.1.toNat : Int) := by omega
   simp [h, h']
 have e2 : decide (x = y) = (decide (x.1.toNat = y.1.toNat) && (x.2 == y.2)) := by
  by_cases h0 : x.1.toNat = y.1.toNat
  ·by_cases h1 : x.2 = y.2
   ·simp [cr_ext h0 h1]
   ·have : ¬ x = y := fun e => h1 (by rw [e])
    simp [this, h1]
  ·have : ¬ x = y := fun e => h0 (by rw [e])
   simp [this, h0]
 rw [e2]
 go_simp
 by_cases h0 : x.1.toNat = y.1.toNat <;> by_cases h1 : x.2 = y.2 <;> simp [h0, h1]

theorem mem_step {xs : List Cr} {k : Nat} {x : Cr} (h : k < xs.length) (h1 : ¬ x ∈ xs.take k) (h2 : ¬ atX xs k = x) : ¬ x ∈ xs.take (k + 1) := by
 rw [take_atX xs k h]
 simp only [List.mem_append, List.mem_singleton, not_or]
 exact ⟨h1, fun e => h2 e.symm⟩

theorem refHas_any (bk : Bool) (a : Option Addr) (c : Nat) (xs : List Cr) (x : Cr) (w : World) (hlen : xs.length ≤ 1000000) (hr : RdX w w.heap.size a xs) :
  Calls Tryz.prog 80 #[.agg #[.bool bk, .slice a xs.length c], .agg #[.int .u32 x.1.toNat, .bool x.2]] w fun e w' => e = .returned (.bool (decide (x ∈ xs))) ∧ Below w.heap.size w w' := by
 have HR := h_ hr
 obtain ⟨V, hV⟩ : ∃ V, V = w.alloc (.cells #[.bool bk, .slice a xs.length c] 44) := ⟨_, rfl⟩
 have HBV : Hid (Below w.heap.size w V) := by rw [hV]; exact below_al bR _
 have hVs : V.heap.size = w.heap.size + 1 := by rw [hV]; simp
 have HXV : Hid (∀ w', Below V.heap.size V w' → w'.cell? ⟨w.heap.size, 0, none⟩ = some (.bool bk) ∧ w'.cell? ⟨w.heap.size, 1, none⟩ = some (.slice a xs.length c)) := by
  rw [hV]
  exact fun w' h => ptBox2_all h
 obtain ⟨W, hW⟩ : ∃ W, W = V.alloc (.cells #[.int .u32 x.1.toNat, .bool x.2] 138) := ⟨_, rfl⟩
 have HBW : Hid (Below V.heap.size V W) := by rw [hW]; exact below_al bR _
 have HX : Hid (∀ w', Below W.heap.size W w' → (w'.cell? ⟨w.heap.size, 0, none⟩ = some (.bool bk) ∧ w'.cell? ⟨w.heap.size, 1, none⟩ = some (.slice a xs.length c)) ∧ (w'.cell? ⟨w.heap.size + 1, 0, none⟩ = some (.int .u32 x.1.toNat) ∧ w'.cell? ⟨w.heap.size + 1, 1, none⟩ = some (.bool x.2))) := fun w' h => by
  refine ⟨HXV.out w' (below_on HBW.out h), ?_⟩
  rw [hW] at h
  have := ptBox2_all h
  rw [hVs] at this
  exact this
 have HB0 : Hid (Below w.heap.size w W) := below_on HBV.out HBW.out
 have HW : Hid (W = (w.alloc (.cells #[.bool bk, .slice a xs.length c] 44)).alloc (.cells #[.int .u32 x.1.toNat, .bool x.2] 138)) := by rw [hW, hV]; rfl
 have HEQ := h_ (fun y w => eqCross_run y x w)
 clear hr hW hVs hV HXV
 go_enter Tryz.func80, Tryz.ntmps80
 go_wp2_with fail
 rw [← HW.out]
 go_loopw [5] (fun i wr => ∃ k : Nat, k ≤ xs.length ∧ i = .int .i64 k ∧ Hid (¬ x ∈ xs.take k ∧ Below W.heap.size W wr)) (fun i _ => xs.length - (intOf i).toNat)
 case atStart => exact ⟨0, Nat.zero_le _, rfl, by simp, Below.refl _ _⟩
 case round =>
  obtain ⟨k, hk, rfl, HI⟩ := hrel
  obtain ⟨⟨x0, x1⟩, x2, x3⟩ := HX.out wr HI.out.2
  by_cases hlt : k < xs.length
  ·obtain ⟨g, o, rfl, hg, hc0⟩ := HR.out.cells k hlt
   have hc1 := hc0.kept ((HB0.out.trans (HI.out.2.mono HB0.out.size)).block g hg)
   obtain ⟨q0, q1⟩ := hc1
   clear hc0
   have HS : Hid (¬ atX xs k = x → ¬ x ∈ xs.take (k + 1)) := mem_step hlt HI.out.1
   have HH : Hid (atX xs k = x → x ∈ xs) := fun e => e ▸ atX_mem xs k hlt
   have he := fun w => HEQ.out (atX xs k) w
   generalize atX xs k = y at *
   by_cases hq : y = x
   ·rw [decide_eq_true hq] at he
    have HQ := h_ (HH.out hq)
    clear hq
    go_wp2_with fail
    go_quiet (fail)
    go_wp2_with fail
    go_ret
    exact ⟨by rw [decide_eq_true HQ.out]; rfl, HB0.out.trans ((below_dr HI.out.2 _).mono HB0.out.size)⟩
   ·rw [decide_eq_false hq] at he
    have HQ := h_ (HS.out hq)
    clear hq
    go_wp2_with fail
    go_quiet (fail)
    go_wp2_with fail
    go_roundw
    case rel => exact ⟨k + 1, by omega, by go_num, HQ.out, below_dr HI.out.2 _⟩
    case measure => simp [intOf]; omega
  ·obtain rfl : k = xs.length := by omega
   have h := HI.out
   rw [List.take_length] at h
   have HI2 := h_ h
   clear h HI
   go_wp2_with fail
   go_ret
   exact ⟨by rw [decide_eq_false HI2.out.1]; rfl, HB0.out.trans (HI2.out.2.mono HB0.out.size)⟩

theorem nodup_snoc {xs : List Cr} {x : Cr} : (xs ++ [x]).Nodup ↔ xs.Nodup ∧ ¬ x ∈ xs := by
 rw [List.nodup_append]
 constructor
 ·rintro ⟨a, _, b⟩
  exact ⟨a, fun hx => b x hx x (by simp) rfl⟩
 ·rintro ⟨a, b⟩
  refine ⟨a, by simp, fun y hy z hz e => ?_⟩
  simp only [List.mem_singleton] at hz
  subst hz
  subst e
  exact b hy

def goodX (xs : List Cr) : Prop := xs.any noGate = false ∧ xs.Nodup

theorem goodX_step {xs : List Cr} {k : Nat} (h : k < xs.length) (h1 : goodX (xs.take k)) (h2 : noGate (atX xs k) = false) (h3 : ¬ atX xs k ∈ xs.take k) : goodX (xs.take (k + 1)) := by
 refine ⟨any_step h h1.1 h2, ?_⟩
 rw [take_atX xs k h, nodup_snoc]
 exact ⟨h1.2, h3⟩

theorem right_gate {xs : List Cr} {k : Nat} (h : k < xs.length) (h2 : noGate (atX xs k) = true) : rightX xs = false := by
 unfold rightX
 rw [any_hit h h2]
 simp

theorem right_twice {xs : List Cr} {k : Nat} (h : k < xs.length) (h2 : atX xs k ∈ xs.take k) : rightX xs = false := by
 have hn : ¬ xs.Nodup := fun hd => by
  have h3 : (xs.take (k + 1)).Nodup := hd.sublist (List.take_sublist _ _)
  rw [take_atX xs k h, nodup_snoc] at h3
  exact h3.2 h2
 unfold rightX
 rw [decide_eq_false hn]
 simp

theorem right_good {xs : List Cr} (h : xs.length ≤ 64) (h1 : goodX xs) : rightX xs = true := by
 unfold rightX
 rw [decide_eq_true h, h1.1, decide_eq_true h1.2]
 rfl

theorem ptRefRight_any (bk : Bool) (a : Option Addr) (c : Nat) (xs : List Cr) (w : World) (hlen : xs.length ≤ 1000000) (hcap : xs.length ≤ c) (hr : RdX w w.heap.size a xs) :
  Calls Tryz.prog 36 #[.agg #[.bool bk, .slice a xs.length c]] w fun e w' => e = .returned (.bool (rightX xs)) ∧ Below w.heap.size w w' := by
 have HR := h_ hr
 obtain ⟨W, hW⟩ : ∃ W, W = w.alloc (.cells #[.bool bk, .slice a xs.length c] 44) := ⟨_, rfl⟩
 have HB0 : Hid (Below w.heap.size w W) := by rw [hW]; exact below_al bR _
 have HX : Hid (∀ w', Below W.heap.size W w' → w'.cell? ⟨w.heap.size, 0, none⟩ = some (.bool bk) ∧ w'.cell? ⟨w.heap.size, 1, none⟩ = some (.slice a xs.length c)) := by
  rw [hW]
  exact fun w' h => ptBox2_all h
 have HH : Hid (∀ (k : Nat) (x : Cr) (w' : World), k ≤ xs.length → Below W.heap.size W w' → Calls Tryz.prog 80 #[.agg #[.bool false, .slice a k c], .agg #[.int .u32 x.1.toNat, .bool x.2]] w' fun e w'' => e = .returned (.bool (decide (x ∈ xs.take k))) ∧ Below w'.heap.size w' w'') := fun k x w' hk h => by
  have h1 := refHas_any false a c (xs.take k) x w' (by simp; omega) (((hr.on HB0.out).on h).take k)
  have e : (xs.take k).length = k := by simp; omega
  rw [e] at h1
  exact h1
 have HW := h_ hW
 clear hr hW
 by_cases h64 : 64 < xs.length
 ·have hq : rightX xs = false := by unfold rightX; rw [decide_eq_false (by omega)]; rfl
  rw [hq]
  go_enter Tryz.func36, Tryz.ntmps36
  go_wp2_with fail
  go_ret
  exact ⟨rfl, HW.out ▸ HB0.out⟩
 have h64' : xs.length ≤ 64 := by omega
 clear h64
 go_enter Tryz.func36, Tryz.ntmps36
 go_wp2_with fail
 rw [← HW.out]
 go_loopw [3] (fun i wr => ∃ k : Nat, k ≤ xs.length ∧ i = .int .i64 k ∧ Hid (goodX (xs.take k) ∧ Below W.heap.size W wr)) (fun i _ => xs.length - (intOf i).toNat)
 case atStart => exact ⟨0, Nat.zero_le _, rfl, ⟨by simp, by simp⟩, Below.refl _ _⟩
 case round =>
  obtain ⟨k, hk, rfl, HI⟩ := hrel
  obtain ⟨x0, x1⟩ := HX.out wr HI.out.2
  by_cases hlt : k < xs.length
  ·obtain ⟨g, o, rfl, hg, hc0⟩ := HR.out.cells k hlt
   have HC : Hid (∀ w', Below wr.heap.size wr w' → (w'.cell? ⟨w.heap.size, 0, none⟩ = some (.bool bk) ∧ w'.cell? ⟨w.heap.size, 1, none⟩ = some (.slice (some ⟨g, o, none⟩) xs.length c)) ∧ (w'.cell? ⟨g, o + k * 2, none⟩ = some (.int .u32 (atX xs k).1.toNat) ∧ w'.cell? ⟨g, o + k * 2 + 1, none⟩ = some (.bool (atX xs k).2))) := fun w' h =>
    ⟨HX.out w' (below_on HI.out.2 h), hc0.kept ((HB0.out.trans ((below_on HI.out.2 h).mono HB0.out.size)).block g hg)⟩
   obtain ⟨_, q0, q1⟩ := HC.out wr bR
   clear hc0
   have HS : Hid (noGate (atX xs k) = false → ¬ atX xs k ∈ xs.take k → goodX (xs.take (k + 1))) := goodX_step hlt HI.out.1
   have HG : Hid (noGate (atX xs k) = true → rightX xs = false) := right_gate hlt
   have HT : Hid (atX xs k ∈ xs.take k → rightX xs = false) := right_twice hlt
   have HHk := h_ (fun w' h => HH.out k (atX xs k) w' hk (below_on HI.out.2 h))
   have hb : (((atX xs k).1.toNat : Int) == 0) = noGate (atX xs k) := by
    unfold noGate
    by_cases h : (atX xs k).1.toNat = 0 <;> simp [h]
   have hgl := gate_lt (atX xs k)
   generalize atX xs k = y at *
   obtain ⟨q, hq⟩ : ∃ q, q = noGate y := ⟨_, rfl⟩
   rw [← hq] at HS HG hb
   clear hq
   cases q
   ·obtain ⟨t, ht⟩ : ∃ t, t = decide (y ∈ xs.take k) := ⟨_, rfl⟩
    rw [← ht] at HHk
    have HTt := h_ ht
    clear ht
    have F0 : Below wr.heap.size wr wr.drew := bR.drew
    have hsl := fun w : World => cut_h (P := Tryz.prog) 42 138 2 Tryz.underlying42 size_cross (some ⟨g, o, none⟩) xs.length c k (by omega) w
    go_wp2_with fail
    go_region_held (fun w' => (w'.cell? ⟨w.heap.size, 0, none⟩ = some (.bool bk) ∧ w'.cell? ⟨w.heap.size, 1, none⟩ = some (.slice (some ⟨g, o, none⟩) xs.length c)) ∧ (w'.cell? ⟨g, o + k * 2, none⟩ = some (.int .u32 y.1.toNat) ∧ w'.cell? ⟨g, o + k * 2 + 1, none⟩ = some (.bool y.2)))
     (first | (refine HC.out _ ?_; with_reducible exact F1) | (refine HC.out _ ?_; with_reducible exact F0))
     (first | (go_at_call 80; (with_reducible refine (HHk.out _ F0).mono ?_); rintro e w1 ⟨rfl, hb1⟩; have F1 : Below wr.heap.size wr w1 := below_on F0 hb1))
    have HF1 := h_ (below_on HI.out.2 F1)
    clear F0 F1 x0 x1 q0 q1
    cases t
    ·go_wp2_with fail
     go_roundw
     case rel => exact ⟨k + 1, by omega, by go_num, HS.out (by first | trivial | rfl) (of_decide_eq_false HTt.out.symm), HF1.out⟩
     case measure => simp [intOf]; omega
    ·go_wp2_with fail
     go_ret
     exact ⟨by rw [HT.out (of_decide_eq_true HTt.out.symm)]; rfl, HB0.out.trans (HF1.out.mono HB0.out.size)⟩
   ·go_wp2_with fail
    go_quiet (fail)
    go_wp2_with fail
    go_ret
    exact ⟨by rw [HG.out (by first | trivial | rfl)]; rfl, HB0.out.trans ((below_dr HI.out.2 _).mono HB0.out.size)⟩
  ·obtain rfl : k = xs.length := by omega
   have h := HI.out
   rw [List.take_length] at h
   have HI2 := h_ h
   have HRt := h_ (right_good h64' h.1)
   clear h HI
   go_wp2_with fail
   go_ret
   exact ⟨by rw [HRt.out]; rfl, HB0.out.trans (HI2.out.2.mono HB0.out.size)⟩

end Go.Proofs.YtiahakbkagipkaaGreatDoor
