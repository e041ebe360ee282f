/- Package disk: the fates of a write. -/
import Derived.Test.YtekeooeapiodmaaZDkF
import Derived.Test.YtekeooeapiodmaaZHeldTI
import Derived.Carry
namespace Go.Proofs.Ytekeooeapiodmaa
open Go Go.RowKit Go.Shelf
set_option linter.unusedSimpArgs false
set_option linter.unusedVariables false
set_option maxRecDepth 100000

attribute [local go_sem] Oper.semAt_some

/-- What a fate does. -/
def fateV (q : Bool) : Value := if q = true then .func (.func 71) #[] #[] else .func (.func 70) #[] #[]
def fateN (q : Bool) : Int := if q = true then 1 else 0
def fMap : Array MapEntry := #[{ key := .int .i64 0, val := .func (.func 70) #[] #[], born := 0 }, { key := .int .i64 1, val := .func (.func 71) #[] #[], born := 1 }]

theorem dmap_set (w : World) (es fs : Array MapEntry) (c d : Nat) :
    { (w.alloc (.map es c)) with heap := (w.alloc (.map es c)).heap.setIfInBounds w.heap.size (.map fs d) } = w.alloc (.map fs d) := by
  simp only [World.alloc]
  congr 1
  apply Array.ext'
  simp [Array.setIfInBounds, Array.toList_push]

theorem frun_insert (w : World) (es : Array MapEntry) (c : Nat) (k : Int) (v : Value) (hf : Instr.findNow (.int .i64) (.int .i64 k) es.toList 0 = some none) :
    (Instr.mapUpdate 108 (.map (some w.heap.size)) (.int .i64 k) v).run Try.prog (w.alloc (.map es c)) = .ok () (w.alloc (.map (es.push { key := .int .i64 k, val := v, born := c }) (c + 1))) := by
  have hb := (MapKept.heap_alloc w (.map es c)).1
  have hc : (Instr.checkKey false 10000 98 (.int .i64 k)).run Try.prog (w.alloc (.map es c)) = .ok () (w.alloc (.map es c)) := MapKept.run_checkKey (k := .int .i64 k) Try.underlying98 (by simp [MapKept.IsKey]) false 9999
  simp [Instr.mapUpdate, run_underlying Try.underlying108, MapKept.run_getObj_map hb, hc, MapKept.run_findKey Try.underlying98 hf, MapKept.run_setObj_map _ hb, Result.andThen]
  exact dmap_set w _ _ _ _

set_option maxHeartbeats 4000000 in
theorem fates_any (w : World) : Calls Try.prog 68 #[] w fun e w' => e = .returned (.map (some w.heap.size)) ∧ w' = w.alloc (.map fMap 2) := by
  have hmm := @run_makeMap Try.prog
  have h0 := frun_insert w #[] 0 0 (.func (.func 70) #[] #[]) rfl
  have h1 := frun_insert w #[{ key := .int .i64 0, val := .func (.func 70) #[] #[], born := 0 }] 1 1 (.func (.func 71) #[] #[]) rfl
  change _ = Result.ok () (w.alloc (.map #[{ key := .int .i64 0, val := .func (.func 70) #[] #[], born := 0 }] 1)) at h0
  change _ = Result.ok () (w.alloc (.map fMap 2)) at h1
  go_enter Try.func68, Try.ntmps68
  go_wp2_with fail
  go_ret
  exact ⟨rfl, rfl⟩

theorem fate_look {w : World} {b : Nat} (hb : w.heap[b]? = some (.map fMap 2)) (q : Bool) : (Instr.lookup 108 (.map (some b)) (.int .i64 (fateN q)) false).run Try.prog w = .ok (fateV q) w := by
  have hc : ∀ e, (Instr.checkKey e 10000 98 (.int .i64 (fateN q))).run Try.prog w = .ok () w := fun e => MapKept.run_checkKey (k := .int .i64 (fateN q)) Try.underlying98 (by simp [MapKept.IsKey]) e 9999
  have hf : Instr.findNow (.int .i64) (.int .i64 (fateN q)) fMap.toList 0 = some (some ((if q = true then 1 else 0), fateV q)) := by cases q <;> rfl
  simp [Instr.lookup, run_underlying Try.underlying108, MapKept.run_getObj_map hb, hc, MapKept.run_findKey Try.underlying98 hf, Result.andThen]

/-- A sector that lies there. -/
def layM (lie : Int → List UInt8) (x : Int × List UInt8) : Int → List UInt8 := fun j => if j = x.1 then x.2 else lie j
/-- The map of what lies. -/
def LieAt (w : World) (m1 : Nat) (lie : Int → List UInt8) : Prop := ∃ f, IMap w m1 f ∧ ∀ k, (f k).getD (secV zeroS) = secV (lie k)
theorem LieAt.kept {w w' : World} {m1 : Nat} {lie : Int → List UInt8} (h : LieAt w m1 lie) (hb : w'.heap[m1]? = w.heap[m1]?) : LieAt w' m1 lie := by
  obtain ⟨f, h1, h2⟩ := h
  exact ⟨f, h1.kept hb, h2⟩
theorem LieAt.lt {w : World} {m1 : Nat} {lie : Int → List UInt8} (h : LieAt w m1 lie) : m1 < w.heap.size := by
  obtain ⟨f, h1, h2⟩ := h
  exact h1.lt
theorem LieAt.lay {w : World} {m1 : Nat} {lie : Int → List UInt8} (h : LieAt w m1 lie) (x : Int × List UInt8) :
    ∃ o, (Instr.mapUpdate 69 (.map (some m1)) (.int .i64 x.1) (secV x.2)).run Try.prog w = .ok () (setB w m1 o) ∧ LieAt (setB w m1 o) m1 (layM lie x) := by
  obtain ⟨f, h1, h2⟩ := h
  obtain ⟨o, h3, h4⟩ := h1.update Try.underlying69 Try.underlying3 x.1 (secV x.2)
  refine ⟨o, h3, _, h4, fun k => ?_⟩
  unfold updI layM
  by_cases hk : k = x.1
  · rw [if_pos hk, if_pos hk]; rfl
  · rw [if_neg hk, if_neg hk]; exact h2 k

theorem setB_but {B : Nat} {w : World} (b : Nat) (o : Obj) : ButS B (· = b) w (setB w b o) := ⟨rfl, rfl, rfl, by rw [setB_size]; exact Nat.le_refl _, fun k _ hn => setB_block _ _ _ _ hn⟩

set_option maxHeartbeats 4000000 in
theorem lay_any (p m1 : Nat) (lie : Int → List UInt8) (x : Int × List UInt8) (hx : x.2.length = 64) (w : World) (hp : p < w.heap.size) (hpm : p ≠ m1) (hc : w.cell? ⟨p, 1, none⟩ = some (.map (some m1))) (h : LieAt w m1 lie) :
    Calls Try.prog 71 #[wrV x, .pointer (some ⟨p, 0, none⟩)] w fun e w' => e = .returned (.tuple #[]) ∧ LieAt w' m1 (layM lie x) ∧ ButS w.heap.size (· = m1) w w' := by
  obtain ⟨W, hW⟩ : ∃ W, W = w.alloc (.cells (wrL x).toArray 88) := ⟨_, rfl⟩
  have HB0 : Hid (Below w.heap.size w W) := by rw [hW]; exact below_al (Below.refl _ _) _
  have hrow : RowB W w.heap.size (wrL x) := by rw [hW]; exact RowB.new w _ _
  have HX : Hid (∀ w', Below W.heap.size W w' → (w'.cell? ⟨p, 1, none⟩ = some (.map (some m1)) ∧ w'.cell? ⟨w.heap.size, 0, none⟩ = some (.int .i64 x.1) ∧ w'.rangeAt w.heap.size 1 (x.2.map encB))) := fun w' hb => by
    have e0 := hb.block w.heap.size hrow.lt
    have hr := hrow.kept e0
    refine ⟨(hb.cell (p := ⟨p, 1, none⟩) (Nat.lt_of_lt_of_le hp HB0.out.size)).trans ((HB0.out.cell (p := ⟨p, 1, none⟩) hp).trans hc), hr.1 0 _ rfl, fun j v hv => ?_⟩
    rw [Nat.add_comm 1 j]
    exact hr.1 (j + 1) v (by simpa [wrL] using hv)
  have HL0 : Hid (LieAt W m1 lie) := h.kept (HB0.out.block m1 h.lt)
  have HM : Hid (m1 < w.heap.size) := h.lt
  have HW := Lib.hid hW
  have hxl : (x.2.map encB).length = 64 := by rw [List.length_map, hx]
  have HXL := Lib.hid hxl
  clear hW hrow h hc hxl hx
  unfold wrV
  go_enter Try.func71, Try.ntmps71
  go_upto_region 1 with fail
  rw [← HW.out]
  obtain ⟨ob, hup, hl⟩ := (show LieAt W.drew m1 lie from HL0.out).lay x
  have HL := Lib.hid hl
  have F : Below W.heap.size W W.drew := (Below.refl _ _).drew
  clear hl
  unfold secV at hup
  refine wp_region_T (fun w' => (w'.cell? ⟨p, 1, none⟩ = some (.map (some m1)) ∧ w'.cell? ⟨w.heap.size, 0, none⟩ = some (.int .i64 x.1) ∧ w'.rangeAt w.heap.size 1 (x.2.map encB))) 8 (by kernel_rfl) ?_
  refine wpAnyT_take (i := 0) (v := ?_) rfl (by kernel_rfl) (by kernel_rfl) (by kernel_rfl) (by kernel_rfl) (fun _ _ _ h => h) (Or.inl ⟨by rfl, ?_⟩) (HX.out _ F) ?_
  rotate_left
  · intro w hSw
    (try dsimp only at hSw)
    go_simp
    all_goals with_reducible rfl
  simp only [Act.put, List.setIfInBounds_toArray, List.set_cons_zero, List.set_cons_succ]
  refine wpAnyT_take (i := 1) (v := ?_) rfl (by kernel_rfl) (by kernel_rfl) (by kernel_rfl) (by kernel_rfl) (fun _ _ _ h => h) (Or.inl ⟨by rfl, ?_⟩) (HX.out _ F) ?_
  rotate_left
  · intro w hSw
    (try dsimp only at hSw)
    go_simp
    all_goals with_reducible rfl
  simp only [Act.put, List.setIfInBounds_toArray, List.set_cons_zero, List.set_cons_succ]
  refine wpAnyT_take (i := 2) (v := ?_) rfl (by kernel_rfl) (by kernel_rfl) (by kernel_rfl) (by kernel_rfl) (fun _ _ _ h => h) (Or.inl ⟨by rfl, ?_⟩) (HX.out _ F) ?_
  rotate_left
  · intro w hSw
    (try dsimp only at hSw)
    go_simp
    all_goals with_reducible rfl
  simp only [Act.put, List.setIfInBounds_toArray, List.set_cons_zero, List.set_cons_succ]
  refine wpAnyT_take (i := 3) (v := ?_) rfl (by kernel_rfl) (by kernel_rfl) (by kernel_rfl) (by kernel_rfl) (fun _ _ _ h => h) (Or.inl ⟨by rfl, ?_⟩) (HX.out _ F) ?_
  rotate_left
  · intro w hSw
    (try dsimp only at hSw)
    go_simp
    all_goals with_reducible rfl
  simp only [Act.put, List.setIfInBounds_toArray, List.set_cons_zero, List.set_cons_succ]
  refine wpAnyT_take (i := 4) (v := ?_) rfl (by kernel_rfl) (by kernel_rfl) (by kernel_rfl) (by kernel_rfl) (fun _ _ _ h => h) (Or.inl ⟨by rfl, ?_⟩) (HX.out _ F) ?_
  rotate_left
  · intro w hSw
    (try dsimp only at hSw)
    go_simp
    all_goals with_reducible rfl
  simp only [Act.put, List.setIfInBounds_toArray, List.set_cons_zero, List.set_cons_succ]
  refine wpAnyT_take (i := 5) (v := ?_) rfl (by kernel_rfl) (by kernel_rfl) (by kernel_rfl) (by kernel_rfl) (fun _ _ _ h => h) (Or.inl ⟨by rfl, ?_⟩) (HX.out _ F) ?_
  rotate_left
  · intro w hSw
    (try dsimp only at hSw)
    go_simp
    all_goals with_reducible rfl
  simp only [Act.put, List.setIfInBounds_toArray, List.set_cons_zero, List.set_cons_succ]
  refine wpAnyT_take (i := 6) (v := ?_) rfl (by kernel_rfl) (by kernel_rfl) (by kernel_rfl) (by kernel_rfl) (fun _ _ _ h => h) (Or.inl ⟨by rfl, ?_⟩) (HX.out _ F) ?_
  rotate_left
  · intro w hSw
    (try dsimp only at hSw)
    go_simp
    all_goals with_reducible rfl
  simp only [Act.put, List.setIfInBounds_toArray, List.set_cons_zero, List.set_cons_succ]
  refine wpAnyT_take (i := 7) (v := .agg (x.2.map encB).toArray) rfl (by kernel_rfl) (by kernel_rfl) (by kernel_rfl) (by kernel_rfl) (fun _ _ _ h => h) (yieldsIf_load_mid (by rfl) 86 (.tmp 10) rfl w.heap.size 1 (by rfl) (x.2.map encB) _ (fun _ hS => hS.2.2) Try.underlying86 rfl (by rw [HXL.out]; kernel_rfl)) (HX.out _ F) ?_
  simp only [Act.put, List.setIfInBounds_toArray, List.set_cons_zero, List.set_cons_succ]
  refine wpAnyT_one (i := 8) (by kernel_rfl) rfl (fun K hK => ?_)
  go_simp
  refine hK.out _ _ (fun h => absurd h (by decide)) ?_
  clear hK K
  try simp only [Act.put, List.setIfInBounds_toArray, List.set_cons_zero, List.set_cons_succ]
  refine wpAnyT_done (by kernel_rfl) ?_ _
  have hbs := (setB_but (B := W.heap.size) (w := W.drew) m1 ob)
  generalize setB W.drew m1 ob = w9 at *
  go_wp2_with fail
  first | go_end0 | skip
  exact ⟨rfl, HL.out, (ButS.of_below HB0.out).trans (((ButS.refl _ _ W).drew.trans hbs).mono HB0.out.size fun _ _ h => h)⟩

theorem lose_any (x : Int × List UInt8) (v : Value) (w : World) : Calls Try.prog 70 #[wrV x, v] w fun e w' => e = .returned (.tuple #[]) ∧ Below w.heap.size w w' := by
  have hb := below_al (Below.refl w.heap.size w) (.cells (wrL x).toArray 88)
  unfold wrV
  generalize (wrL x).toArray = L at *
  go_enter Try.func70, Try.ntmps70
  go_wp2_with fail
  first | go_end0 | skip
  exact ⟨rfl, hb⟩

/-- What becomes of all: to lay. -/
theorem sync1_any (k : Int) (w : World) : Calls Try.prog 53 #[.int .i64 k] w fun e w' => e = .returned (.int .i64 (fateN true)) ∧ w = w' := by
  go_enter Try.func53, Try.ntmps53
  go_wp2_with fail
  go_ret
  exact ⟨rfl, rfl⟩

/-- Truths that are read. -/
def RdT (w : World) (B : Nat) (A : Option Addr) (l : List Bool) : Prop := l = [] ∨ ∃ g o, A = some ⟨g, o, none⟩ ∧ g < B ∧ ∀ k q, l[k]? = some q → w.cell? ⟨g, o + k, none⟩ = some (.bool q)
def keepAt (l : List Bool) (k : Nat) : Bool := l[k]?.getD false

set_option maxHeartbeats 2000000 in
theorem crash1_any (b : Nat) (A : Option Addr) (C : Nat) (l : List Bool) (k : Nat) (hk : k ≤ 1000000) (hl : l.length ≤ 140737488355328) (w : World) (hc : w.cell? ⟨b, 0, none⟩ = some (.slice A l.length C)) (hr : RdT w w.heap.size A l) :
    Calls Try.prog 54 #[.int .i64 (k : Nat), .pointer (some ⟨b, 0, none⟩)] w fun e w' => e = .returned (.int .i64 (fateN (keepAt l k))) ∧ w = w' := by
  by_cases hlt : k < l.length
  · obtain ⟨q, hq⟩ : ∃ q, l[k]? = some q := ⟨_, List.getElem?_eq_getElem hlt⟩
    obtain ⟨g, o, rfl, hg, hcc⟩ : ∃ g o, A = some ⟨g, o, none⟩ ∧ g < w.heap.size ∧ w.cell? ⟨g, o + k, none⟩ = some (.bool q) := by
      rcases hr with h | ⟨g, o, e, hg, h⟩
      · rw [h] at hlt; simp at hlt
      · exact ⟨g, o, e, hg, h k q hq⟩
    have HE : Hid (keepAt l k = q) := by rw [Hid, keepAt, hq]; rfl
    have h1 : decide ((k : Int) < (l.length : Int)) = true := by simpa using hlt
    clear hr hq
    cases q
    · go_enter Try.func54, Try.ntmps54
      go_wp2_with fail
      go_ret
      rw [HE.out]
      exact ⟨rfl, rfl⟩
    · go_enter Try.func54, Try.ntmps54
      go_wp2_with fail
      go_ret
      rw [HE.out]
      exact ⟨rfl, rfl⟩
  · have HE : Hid (keepAt l k = false) := by rw [Hid, keepAt, List.getElem?_eq_none (by omega)]; rfl
    have h1 : decide ((k : Int) < (l.length : Int)) = false := by simpa using hlt
    clear hr
    go_enter Try.func54, Try.ntmps54
    go_wp2_with fail
    go_ret
    rw [HE.out]
    exact ⟨rfl, rfl⟩

end Go.Proofs.Ytekeooeapiodmaa

