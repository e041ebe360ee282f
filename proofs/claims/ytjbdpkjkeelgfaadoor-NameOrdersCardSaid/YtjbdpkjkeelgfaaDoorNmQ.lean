/- Package name: tried; Parse, ParseName. -/
import Derived.Test.YtjbdpkjkeelgfaaDoorNmP
namespace Go.Proofs.YtjbdpkjkeelgfaaDoor
open Go Go.RowKit Go.Shelf
set_option linter.unusedSimpArgs false
set_option linter.unusedVariables false

/-- What tried answers. -/
def TrE (w : World) (r : Except Int (Nat × Nat)) (e : Ending) (w' : World) : Prop :=
  Below w.heap.size w w' ∧ match r with
    | .ok ⟨n, m⟩ => e = .returned (.tuple #[.agg #[.int .u32 n, .int .u32 m], .int .i64 0])
    | .error c => e = .returned (.tuple #[.agg #[.int .u32 0, .int .u32 0], .int .i64 c])

set_option maxRecDepth 100000 in
set_option maxHeartbeats 4000000 in
theorem triedE_any (fc : Nat) (lb : Array Value) (r : Except Int (Nat × Nat)) (w : World) (hent : ∀ args w, (callFunc fc args).run Tryd.prog w = .ok (.enter fc args) w) (hR : ∀ w', Below w.heap.size w w' → Calls Tryd.prog fc lb w' (RdE w' r)) :
    Calls Tryd.prog 42 #[.func (.func fc) #[] lb] w (TrE w r) := by
  have hmf : ∀ (fn : Fn) (first cap : Array Value) (w : World), (Instr.makeFunc fn first cap).run Tryd.prog w = .ok (.func fn first cap) w := fun _ _ _ _ => rfl
  obtain ⟨W, hW⟩ : ∃ W, W = (w.alloc (.cells #[.int .u32 0, .int .u32 0] 24)).alloc (.cells #[.int .i64 0] 25) := ⟨_, rfl⟩
  have hbW : Below w.heap.size w W := by rw [hW]; exact below_al (below_al (Below.refl _ _) _) _
  have hsW : W.heap.size ≤ w.heap.size + 2 ∧ w.heap.size + 2 ≤ W.heap.size := by rw [hW]; simp
  have HC : Hid (∀ w', Below W.heap.size W w' → ((w'.cell? ⟨w.heap.size, 0, none⟩ = some (.int .u32 0) ∧ w'.cell? ⟨w.heap.size, 1, none⟩ = some (.int .u32 0)) ∧ ∀ i, w'.frozen? ⟨w.heap.size, i, none⟩ = false) ∧ w'.cell? ⟨w.heap.size + 1, 0, none⟩ = some (.int .i64 0) ∧ w'.frozen? ⟨w.heap.size + 1, 0, none⟩ = false) := fun w' hb => by
    have hh : ∀ i, w'.cell? ⟨w.heap.size, i, none⟩ = W.cell? ⟨w.heap.size, i, none⟩ := fun i => hb.cell (p := ⟨w.heap.size, i, none⟩) (show w.heap.size < _ by omega)
    have hf : ∀ i, w'.frozen? ⟨w.heap.size, i, none⟩ = W.frozen? ⟨w.heap.size, i, none⟩ := fun i => hb.frozen (p := ⟨w.heap.size, i, none⟩) (show w.heap.size < _ by omega)
    refine ⟨⟨⟨(hh 0).trans (by rw [hW]; simp), (hh 1).trans (by rw [hW]; simp)⟩, fun i => (hf i).trans (by rw [hW]; simp)⟩, (hb.cell (p := ⟨w.heap.size + 1, 0, none⟩) (show w.heap.size + 1 < _ by omega)).trans ?_, (hb.frozen (p := ⟨w.heap.size + 1, 0, none⟩) (show w.heap.size + 1 < _ by omega)).trans ?_⟩
    · rw [hW, ← World.size_alloc w (.cells #[.int .u32 0, .int .u32 0] 24), World.cell?_alloc_mark]
      rfl
    · rw [hW, ← World.size_alloc w (.cells #[.int .u32 0, .int .u32 0] 24)]
      exact World.frozen?_alloc_new _ _ _ _
  have HB := Lib.hid hbW
  have HW := Lib.hid hW
  have HR := Lib.hid (hR W hbW)
  clear hW hbW hR
  go_enter_defers Tryd.func42, Tryd.ntmps42
  go_wp2_with fail
  rw [← HW.out]
  refine HR.out.mono ?_
  rintro e w1 ⟨hb1, hm⟩
  obtain ⟨⟨⟨d0, d1⟩, df⟩, ec, ef⟩ := HC.out w1 hb1
  have f0 := df 0
  have f1 := df 1
  have HB1 := Lib.hid (HB.out.trans (hb1.mono (by omega)))
  clear hb1 df
  cases r with
  | error q =>
    have hm : e = gives q := hm
    subst hm
    rw [gives_def]
    go_wp2_with fail
    refine leaves_cons (f := 76) (args := #[.pointer (some ⟨w.heap.size + 1, 0, none⟩)]) (by simp) (by simp [go_sem]) ?_
    refine (catchE_gives ⟨w.heap.size + 1, 0, none⟩ 0 q w1 ec ef).mono ?_
    rintro e u' w'' ⟨rfl, rfl, rfl⟩
    have k0 : (w1.setCell ⟨w.heap.size + 1, 0, none⟩ (.int .i64 q)).cell? ⟨w.heap.size, 0, none⟩ = some (.int .u32 0) := (World.cell?_setCell_other _ _ _ _ (by simp)).trans d0
    have k1 : (w1.setCell ⟨w.heap.size + 1, 0, none⟩ (.int .i64 q)).cell? ⟨w.heap.size, 1, none⟩ = some (.int .u32 0) := (World.cell?_setCell_other _ _ _ _ (by simp)).trans d1
    have k9 : (w1.setCell ⟨w.heap.size + 1, 0, none⟩ (.int .i64 q)).cell? ⟨w.heap.size + 1, 0, none⟩ = some (.int .i64 q) := World.cell?_setCell_same _ _ _ ec
    have hP : TrE w (.error q) (.returned (.tuple #[.agg #[.int .u32 0, .int .u32 0], .int .i64 q])) (w1.setCell ⟨w.heap.size + 1, 0, none⟩ (.int .i64 q)) := ⟨HB1.out.setCell (p := ⟨w.heap.size + 1, 0, none⟩) (Nat.le_succ _) _, rfl⟩
    generalize w1.setCell ⟨w.heap.size + 1, 0, none⟩ (.int .i64 q) = w9 at *
    simp [Leaves, settle, results, Tryd.results42, go_sem, k0, k1, k9]
    exact hP
  | ok p =>
    obtain ⟨n, m⟩ := p
    have hm : e = .returned (.agg #[.int .u32 n, .int .u32 m]) := hm
    subst hm
    go_wp2_with fail
    obtain ⟨e0, e1⟩ := put2 (.int .u32 (n : Int)) (.int .u32 (m : Int)) d0 d1
    have hbk : Below w.heap.size w (((w1.setCell ⟨w.heap.size, 0, none⟩ (.int .u32 (n : Int))).setCell ⟨w.heap.size, 1, none⟩ (.int .u32 (m : Int)))) := ((HB1.out.setCell (p := ⟨w.heap.size, 0, none⟩) (Nat.le_refl _) _).setCell (p := ⟨w.heap.size, 1, none⟩) (Nat.le_refl _) _)
    have e9 : (((w1.setCell ⟨w.heap.size, 0, none⟩ (.int .u32 (n : Int))).setCell ⟨w.heap.size, 1, none⟩ (.int .u32 (m : Int)))).cell? ⟨w.heap.size + 1, 0, none⟩ = some (.int .i64 0) := ((World.cell?_setCell_other _ _ _ _ (by simp)).trans ((World.cell?_setCell_other _ _ _ _ (by simp)).trans ec))
    generalize ((w1.setCell ⟨w.heap.size, 0, none⟩ (.int .u32 (n : Int))).setCell ⟨w.heap.size, 1, none⟩ (.int .u32 (m : Int))) = w3 at *
    have k0 : (w3.setCell ⟨w.heap.size + 1, 0, none⟩ (.int .i64 0)).cell? ⟨w.heap.size, 0, none⟩ = some (.int .u32 n) := (World.cell?_setCell_other _ _ _ _ (by simp)).trans e0
    have k1 : (w3.setCell ⟨w.heap.size + 1, 0, none⟩ (.int .i64 0)).cell? ⟨w.heap.size, 1, none⟩ = some (.int .u32 m) := (World.cell?_setCell_other _ _ _ _ (by simp)).trans e1
    have k9 : (w3.setCell ⟨w.heap.size + 1, 0, none⟩ (.int .i64 0)).cell? ⟨w.heap.size + 1, 0, none⟩ = some (.int .i64 0) := World.cell?_setCell_same _ _ _ e9
    have hP : TrE w (.ok (n, m)) (.returned (.tuple #[.agg #[.int .u32 n, .int .u32 m], .int .i64 0])) (w3.setCell ⟨w.heap.size + 1, 0, none⟩ (.int .i64 0)) := ⟨hbk.setCell (p := ⟨w.heap.size + 1, 0, none⟩) (Nat.le_succ _) _, rfl⟩
    refine leaves_cons (f := 76) (args := #[.pointer (some ⟨w.heap.size + 1, 0, none⟩)]) (by simp) (by simp [go_sem]) ?_
    refine (catchE_idle ⟨w.heap.size + 1, 0, none⟩ _).mono ?_
    rintro e u' w'' ⟨rfl, rfl, rfl⟩
    generalize w3.setCell ⟨w.heap.size + 1, 0, none⟩ (.int .i64 0) = w9 at *
    simp [Leaves, settle, results, Tryd.results42, go_sem, k0, k1, k9]
    exact hP

theorem trE_agg {w w' : World} {r : Except Int (Nat × Nat)} {e : Ending} (h : TrE w r e w') : ∃ (n m : Nat) (c : Int), e = .returned (.tuple #[.agg #[.int .u32 n, .int .u32 m], .int .i64 c]) ∧ (r = .ok (n, m) ∧ c = 0 ∨ r = .error c ∧ n = 0 ∧ m = 0) := by
  obtain ⟨_, h⟩ := h
  cases r with
  | error q => exact ⟨0, 0, q, h, .inr ⟨rfl, rfl, rfl⟩⟩
  | ok p =>
    obtain ⟨n, m⟩ := p
    exact ⟨n, m, 0, h, .inl ⟨rfl, rfl⟩⟩

theorem trE_of {w w' : World} {r : Except Int (Nat × Nat)} {n m : Nat} {c : Int} (h : r = .ok (n, m) ∧ c = 0 ∨ r = .error c ∧ n = 0 ∧ m = 0) (hb : Below w.heap.size w w') : TrE w r (.returned (.tuple #[.agg #[.int .u32 n, .int .u32 m], .int .i64 c])) w' := by
  rcases h with ⟨rfl, rfl⟩ | ⟨rfl, rfl, rfl⟩
  · exact ⟨hb, rfl⟩
  · exact ⟨hb, rfl⟩

set_option maxRecDepth 100000 in
set_option maxHeartbeats 4000000 in
theorem parsedE_any (s : List UInt8) (hs : s.length ≤ 140737488355328) (w : World) (ht : TabN w) :
    Calls Tryd.prog 40 #[.string ⟨s.toArray⟩, .func (.func 41) #[] #[]] w (TrE w (rdE s)) := by
  have hmf : ∀ (fn : Fn) (first cap : Array Value) (w : World), (Instr.makeFunc fn first cap).run Tryd.prog w = .ok (.func fn first cap) w := fun _ _ _ _ => rfl
  obtain ⟨W1, hW1⟩ : ∃ W, W = (w.alloc (.cells #[.string ⟨s.toArray⟩] 9)).alloc (.cells #[.func (.func 41) #[] #[]] 81) := ⟨_, rfl⟩
  have s1 : W1.heap.size = w.heap.size + 2 := by rw [hW1]; simp
  have a1 : W1.cell? ⟨w.heap.size, 0, none⟩ = some (.string ⟨s.toArray⟩) := by rw [hW1]; simp
  have a2 : W1.cell? ⟨w.heap.size + 1, 0, none⟩ = some (.func (.func 41) #[] #[]) := by
    rw [hW1, ← World.size_alloc w (.cells #[.string ⟨s.toArray⟩] 9), World.cell?_alloc_mark]
    rfl
  obtain ⟨W, hW⟩ : ∃ W, W = W1.alloc (.cells #[.int .u32 0, .int .u32 0] 24) := ⟨_, rfl⟩
  have hb1 : Below w.heap.size w W1 := by rw [hW1]; exact below_al (below_al (Below.refl _ _) _) _
  have hbW : Below w.heap.size w W := by rw [hW]; exact below_al hb1 _
  have hb2 : Below W1.heap.size W1 W := by rw [hW]; exact below_al (Below.refl _ _) _
  have hsW : W.heap.size = w.heap.size + 3 := by rw [hW]; simp [s1]
  have HB := Lib.hid hbW
  have HT := Lib.hid (triedE_any 70 #[.pointer (some ⟨w.heap.size, 0, none⟩), .pointer (some ⟨w.heap.size + 1, 0, none⟩)] (rdE s) W (enters_of Tryd.func70 (by kernel_rfl) rfl)
    (fun w' hb => bodyE_any _ _ s hs w' (ht.on (below_on hbW hb)) ((hb.cell (p := ⟨w.heap.size, 0, none⟩) (show w.heap.size < _ by omega)).trans ((hb2.cell (p := ⟨w.heap.size, 0, none⟩) (show w.heap.size < _ by omega)).trans a1))
      ((hb.cell (p := ⟨w.heap.size + 1, 0, none⟩) (show w.heap.size + 1 < _ by omega)).trans ((hb2.cell (p := ⟨w.heap.size + 1, 0, none⟩) (show w.heap.size + 1 < _ by omega)).trans a2))))
  have HC : Hid (∀ w', Below W.heap.size W w' → (w'.cell? ⟨w.heap.size + 2, 0, none⟩ = some (.int .u32 0) ∧ w'.cell? ⟨w.heap.size + 2, 1, none⟩ = some (.int .u32 0)) ∧ ∀ i, w'.frozen? ⟨w.heap.size + 2, i, none⟩ = false) := fun w' hb => by
    have hh : ∀ i, w'.cell? ⟨w.heap.size + 2, i, none⟩ = W.cell? ⟨w.heap.size + 2, i, none⟩ := fun i => hb.cell (p := ⟨w.heap.size + 2, i, none⟩) (show w.heap.size + 2 < _ by omega)
    have hf : ∀ i, w'.frozen? ⟨w.heap.size + 2, i, none⟩ = W.frozen? ⟨w.heap.size + 2, i, none⟩ := fun i => hb.frozen (p := ⟨w.heap.size + 2, i, none⟩) (show w.heap.size + 2 < _ by omega)
    exact ⟨⟨(hh 0).trans (by rw [hW, ← s1, World.cell?_alloc_mark]; rfl), (hh 1).trans (by rw [hW, ← s1, World.cell?_alloc_mark]; rfl)⟩, fun i => (hf i).trans (by rw [hW, ← s1]; exact World.frozen?_alloc_new _ _ _ _)⟩
  have HW : Hid (W = ((w.alloc (.cells #[.string ⟨s.toArray⟩] 9)).alloc (.cells #[.func (.func 41) #[] #[]] 81)).alloc (.cells #[.int .u32 0, .int .u32 0] 24)) := by rw [← hW1]; exact hW
  clear hW1 hW hb1 hb2 hbW a1 a2 s1 ht
  go_enter Tryd.func40, Tryd.ntmps40
  go_wp2_with fail
  rw [← HW.out]
  refine HT.out.mono ?_
  intro e w1 htr
  have HBB := Lib.hid (below_on HB.out htr.1)
  obtain ⟨⟨d0, d1⟩, df⟩ := HC.out w1 htr.1
  have f0 := df 0
  have f1 := df 1
  obtain ⟨n, m, c, rfl, hr⟩ := trE_agg htr
  have HR := Lib.hid hr
  clear htr hr df
  go_wp2_with fail
  obtain ⟨e0, e1⟩ := put2 (.int .u32 (n : Int)) (.int .u32 (m : Int)) d0 d1
  refine bodyPost_ret (v := .tuple #[.agg #[.int .u32 n, .int .u32 m], .int .i64 c]) (by simp [results, Tryd.results40, go_sem, e0, e1]) rfl (trE_of HR.out ?_)
  exact ((HBB.out.setCell (p := ⟨w.heap.size + 2, 0, none⟩) (by show w.heap.size ≤ w.heap.size + 2; omega) _).setCell (p := ⟨w.heap.size + 2, 1, none⟩) (by show w.heap.size ≤ w.heap.size + 2; omega) _)

set_option maxRecDepth 100000 in
set_option maxHeartbeats 4000000 in
theorem parseE_any (s : List UInt8) (hs : s.length ≤ 140737488355328) (w : World) (ht : TabN w) :
    Calls Tryd.prog 16 #[.string ⟨s.toArray⟩] w (TrE w (rdE s)) := by
  obtain ⟨W, hW⟩ : ∃ W, W = w.alloc (.cells #[.int .u32 0, .int .u32 0] 24) := ⟨_, rfl⟩
  have hbW : Below w.heap.size w W := by rw [hW]; exact below_al (Below.refl _ _) _
  have hsW : W.heap.size = w.heap.size + 1 := by rw [hW]; simp
  have HB := Lib.hid hbW
  have HT := Lib.hid (parsedE_any s hs W (ht.on hbW))
  have HC : Hid (∀ w', Below W.heap.size W w' → (w'.cell? ⟨w.heap.size, 0, none⟩ = some (.int .u32 0) ∧ w'.cell? ⟨w.heap.size, 1, none⟩ = some (.int .u32 0)) ∧ ∀ i, w'.frozen? ⟨w.heap.size, i, none⟩ = false) := fun w' hb => by
    have hh : ∀ i, w'.cell? ⟨w.heap.size, i, none⟩ = W.cell? ⟨w.heap.size, i, none⟩ := fun i => hb.cell (p := ⟨w.heap.size, i, none⟩) (show w.heap.size < _ by omega)
    have hf : ∀ i, w'.frozen? ⟨w.heap.size, i, none⟩ = W.frozen? ⟨w.heap.size, i, none⟩ := fun i => hb.frozen (p := ⟨w.heap.size, i, none⟩) (show w.heap.size < _ by omega)
    exact ⟨⟨(hh 0).trans (by rw [hW]; simp), (hh 1).trans (by rw [hW]; simp)⟩, fun i => (hf i).trans (by rw [hW]; simp)⟩
  have HW := Lib.hid hW
  clear hW hbW ht
  go_enter Tryd.func16, Tryd.ntmps16
  go_wp2_with fail
  rw [← HW.out]
  refine HT.out.mono ?_
  intro e w1 htr
  have HBB := Lib.hid (below_on HB.out htr.1)
  obtain ⟨⟨d0, d1⟩, df⟩ := HC.out w1 htr.1
  have f0 := df 0
  have f1 := df 1
  obtain ⟨n, m, c, rfl, hr⟩ := trE_agg htr
  have HR := Lib.hid hr
  clear htr hr df
  go_wp2_with fail
  obtain ⟨e0, e1⟩ := put2 (.int .u32 (n : Int)) (.int .u32 (m : Int)) d0 d1
  refine bodyPost_ret (v := .tuple #[.agg #[.int .u32 n, .int .u32 m], .int .i64 c]) (by simp [results, Tryd.results16, go_sem, e0, e1]) rfl (trE_of HR.out ?_)
  exact ((HBB.out.setCell (p := ⟨w.heap.size, 0, none⟩) (Nat.le_refl _) _).setCell (p := ⟨w.heap.size, 1, none⟩) (Nat.le_refl _) _)

/-- What tried answers. -/
def TrN (w : World) (r : Except Int (Nat × Nat × Nat × Nat)) (e : Ending) (w' : World) : Prop :=
  Below w.heap.size w w' ∧ match r with
    | .ok ⟨n, m, t, q⟩ => e = .returned (.tuple #[.agg #[.int .u32 n, .int .u32 m, .int .u64 t, .int .u32 q], .int .i64 0])
    | .error c => e = .returned (.tuple #[.agg #[.int .u32 0, .int .u32 0, .int .u64 0, .int .u32 0], .int .i64 c])

set_option maxRecDepth 100000 in
set_option maxHeartbeats 4000000 in
theorem triedN_any (fc : Nat) (lb : Array Value) (r : Except Int (Nat × Nat × Nat × Nat)) (w : World) (hent : ∀ args w, (callFunc fc args).run Tryd.prog w = .ok (.enter fc args) w) (hR : ∀ w', Below w.heap.size w w' → Calls Tryd.prog fc lb w' (RdN w' r)) :
    Calls Tryd.prog 51 #[.func (.func fc) #[] lb] w (TrN w r) := by
  have hmf : ∀ (fn : Fn) (first cap : Array Value) (w : World), (Instr.makeFunc fn first cap).run Tryd.prog w = .ok (.func fn first cap) w := fun _ _ _ _ => rfl
  obtain ⟨W, hW⟩ : ∃ W, W = (w.alloc (.cells #[.int .u32 0, .int .u32 0, .int .u64 0, .int .u32 0] 47)).alloc (.cells #[.int .i64 0] 25) := ⟨_, rfl⟩
  have hbW : Below w.heap.size w W := by rw [hW]; exact below_al (below_al (Below.refl _ _) _) _
  have hsW : W.heap.size ≤ w.heap.size + 2 ∧ w.heap.size + 2 ≤ W.heap.size := by rw [hW]; simp
  have HC : Hid (∀ w', Below W.heap.size W w' → ((w'.cell? ⟨w.heap.size, 0, none⟩ = some (.int .u32 0) ∧ w'.cell? ⟨w.heap.size, 1, none⟩ = some (.int .u32 0) ∧ w'.cell? ⟨w.heap.size, 2, none⟩ = some (.int .u64 0) ∧ w'.cell? ⟨w.heap.size, 3, none⟩ = some (.int .u32 0)) ∧ ∀ i, w'.frozen? ⟨w.heap.size, i, none⟩ = false) ∧ w'.cell? ⟨w.heap.size + 1, 0, none⟩ = some (.int .i64 0) ∧ w'.frozen? ⟨w.heap.size + 1, 0, none⟩ = false) := fun w' hb => by
    have hh : ∀ i, w'.cell? ⟨w.heap.size, i, none⟩ = W.cell? ⟨w.heap.size, i, none⟩ := fun i => hb.cell (p := ⟨w.heap.size, i, none⟩) (show w.heap.size < _ by omega)
    have hf : ∀ i, w'.frozen? ⟨w.heap.size, i, none⟩ = W.frozen? ⟨w.heap.size, i, none⟩ := fun i => hb.frozen (p := ⟨w.heap.size, i, none⟩) (show w.heap.size < _ by omega)
    refine ⟨⟨⟨(hh 0).trans (by rw [hW]; simp), (hh 1).trans (by rw [hW]; simp), (hh 2).trans (by rw [hW]; simp), (hh 3).trans (by rw [hW]; simp)⟩, fun i => (hf i).trans (by rw [hW]; simp)⟩, (hb.cell (p := ⟨w.heap.size + 1, 0, none⟩) (show w.heap.size + 1 < _ by omega)).trans ?_, (hb.frozen (p := ⟨w.heap.size + 1, 0, none⟩) (show w.heap.size + 1 < _ by omega)).trans ?_⟩
    · rw [hW, ← World.size_alloc w (.cells #[.int .u32 0, .int .u32 0, .int .u64 0, .int .u32 0] 47), World.cell?_alloc_mark]
      rfl
    · rw [hW, ← World.size_alloc w (.cells #[.int .u32 0, .int .u32 0, .int .u64 0, .int .u32 0] 47)]
      exact World.frozen?_alloc_new _ _ _ _
  have HB := Lib.hid hbW
  have HW := Lib.hid hW
  have HR := Lib.hid (hR W hbW)
  clear hW hbW hR
  go_enter_defers Tryd.func51, Tryd.ntmps51
  go_wp2_with fail
  rw [← HW.out]
  refine HR.out.mono ?_
  rintro e w1 ⟨hb1, hm⟩
  obtain ⟨⟨⟨d0, d1, d2, d3⟩, df⟩, ec, ef⟩ := HC.out w1 hb1
  have f0 := df 0
  have f1 := df 1
  have f2 := df 2
  have f3 := df 3
  have HB1 := Lib.hid (HB.out.trans (hb1.mono (by omega)))
  clear hb1 df
  cases r with
  | error q =>
    have hm : e = gives q := hm
    subst hm
    rw [gives_def]
    go_wp2_with fail
    refine leaves_cons (f := 81) (args := #[.pointer (some ⟨w.heap.size + 1, 0, none⟩)]) (by simp) (by simp [go_sem]) ?_
    refine (catchN_gives ⟨w.heap.size + 1, 0, none⟩ 0 q w1 ec ef).mono ?_
    rintro e u' w'' ⟨rfl, rfl, rfl⟩
    have k0 : (w1.setCell ⟨w.heap.size + 1, 0, none⟩ (.int .i64 q)).cell? ⟨w.heap.size, 0, none⟩ = some (.int .u32 0) := (World.cell?_setCell_other _ _ _ _ (by simp)).trans d0
    have k1 : (w1.setCell ⟨w.heap.size + 1, 0, none⟩ (.int .i64 q)).cell? ⟨w.heap.size, 1, none⟩ = some (.int .u32 0) := (World.cell?_setCell_other _ _ _ _ (by simp)).trans d1
    have k2 : (w1.setCell ⟨w.heap.size + 1, 0, none⟩ (.int .i64 q)).cell? ⟨w.heap.size, 2, none⟩ = some (.int .u64 0) := (World.cell?_setCell_other _ _ _ _ (by simp)).trans d2
    have k3 : (w1.setCell ⟨w.heap.size + 1, 0, none⟩ (.int .i64 q)).cell? ⟨w.heap.size, 3, none⟩ = some (.int .u32 0) := (World.cell?_setCell_other _ _ _ _ (by simp)).trans d3
    have k9 : (w1.setCell ⟨w.heap.size + 1, 0, none⟩ (.int .i64 q)).cell? ⟨w.heap.size + 1, 0, none⟩ = some (.int .i64 q) := World.cell?_setCell_same _ _ _ ec
    have hP : TrN w (.error q) (.returned (.tuple #[.agg #[.int .u32 0, .int .u32 0, .int .u64 0, .int .u32 0], .int .i64 q])) (w1.setCell ⟨w.heap.size + 1, 0, none⟩ (.int .i64 q)) := ⟨HB1.out.setCell (p := ⟨w.heap.size + 1, 0, none⟩) (Nat.le_succ _) _, rfl⟩
    generalize w1.setCell ⟨w.heap.size + 1, 0, none⟩ (.int .i64 q) = w9 at *
    simp [Leaves, settle, results, Tryd.results51, go_sem, k0, k1, k2, k3, k9]
    exact hP
  | ok p =>
    obtain ⟨n, m, t, q⟩ := p
    have hm : e = .returned (.agg #[.int .u32 n, .int .u32 m, .int .u64 t, .int .u32 q]) := hm
    subst hm
    go_wp2_with fail
    obtain ⟨e0, e1, e2, e3⟩ := put4 (.int .u32 (n : Int)) (.int .u32 (m : Int)) (.int .u64 (t : Int)) (.int .u32 (q : Int)) d0 d1 d2 d3
    have hbk : Below w.heap.size w (((((w1.setCell ⟨w.heap.size, 0, none⟩ (.int .u32 (n : Int))).setCell ⟨w.heap.size, 1, none⟩ (.int .u32 (m : Int))).setCell ⟨w.heap.size, 2, none⟩ (.int .u64 (t : Int))).setCell ⟨w.heap.size, 3, none⟩ (.int .u32 (q : Int)))) := ((((HB1.out.setCell (p := ⟨w.heap.size, 0, none⟩) (Nat.le_refl _) _).setCell (p := ⟨w.heap.size, 1, none⟩) (Nat.le_refl _) _).setCell (p := ⟨w.heap.size, 2, none⟩) (Nat.le_refl _) _).setCell (p := ⟨w.heap.size, 3, none⟩) (Nat.le_refl _) _)
    have e9 : (((((w1.setCell ⟨w.heap.size, 0, none⟩ (.int .u32 (n : Int))).setCell ⟨w.heap.size, 1, none⟩ (.int .u32 (m : Int))).setCell ⟨w.heap.size, 2, none⟩ (.int .u64 (t : Int))).setCell ⟨w.heap.size, 3, none⟩ (.int .u32 (q : Int)))).cell? ⟨w.heap.size + 1, 0, none⟩ = some (.int .i64 0) := ((World.cell?_setCell_other _ _ _ _ (by simp)).trans ((World.cell?_setCell_other _ _ _ _ (by simp)).trans ((World.cell?_setCell_other _ _ _ _ (by simp)).trans ((World.cell?_setCell_other _ _ _ _ (by simp)).trans ec))))
    generalize ((((w1.setCell ⟨w.heap.size, 0, none⟩ (.int .u32 (n : Int))).setCell ⟨w.heap.size, 1, none⟩ (.int .u32 (m : Int))).setCell ⟨w.heap.size, 2, none⟩ (.int .u64 (t : Int))).setCell ⟨w.heap.size, 3, none⟩ (.int .u32 (q : Int))) = w3 at *
    have k0 : (w3.setCell ⟨w.heap.size + 1, 0, none⟩ (.int .i64 0)).cell? ⟨w.heap.size, 0, none⟩ = some (.int .u32 n) := (World.cell?_setCell_other _ _ _ _ (by simp)).trans e0
    have k1 : (w3.setCell ⟨w.heap.size + 1, 0, none⟩ (.int .i64 0)).cell? ⟨w.heap.size, 1, none⟩ = some (.int .u32 m) := (World.cell?_setCell_other _ _ _ _ (by simp)).trans e1
    have k2 : (w3.setCell ⟨w.heap.size + 1, 0, none⟩ (.int .i64 0)).cell? ⟨w.heap.size, 2, none⟩ = some (.int .u64 t) := (World.cell?_setCell_other _ _ _ _ (by simp)).trans e2
    have k3 : (w3.setCell ⟨w.heap.size + 1, 0, none⟩ (.int .i64 0)).cell? ⟨w.heap.size, 3, none⟩ = some (.int .u32 q) := (World.cell?_setCell_other _ _ _ _ (by simp)).trans e3
    have k9 : (w3.setCell ⟨w.heap.size + 1, 0, none⟩ (.int .i64 0)).cell? ⟨w.heap.size + 1, 0, none⟩ = some (.int .i64 0) := World.cell?_setCell_same _ _ _ e9
    have hP : TrN w (.ok (n, m, t, q)) (.returned (.tuple #[.agg #[.int .u32 n, .int .u32 m, .int .u64 t, .int .u32 q], .int .i64 0])) (w3.setCell ⟨w.heap.size + 1, 0, none⟩ (.int .i64 0)) := ⟨hbk.setCell (p := ⟨w.heap.size + 1, 0, none⟩) (Nat.le_succ _) _, rfl⟩
    refine leaves_cons (f := 81) (args := #[.pointer (some ⟨w.heap.size + 1, 0, none⟩)]) (by simp) (by simp [go_sem]) ?_
    refine (catchN_idle ⟨w.heap.size + 1, 0, none⟩ _).mono ?_
    rintro e u' w'' ⟨rfl, rfl, rfl⟩
    generalize w3.setCell ⟨w.heap.size + 1, 0, none⟩ (.int .i64 0) = w9 at *
    simp [Leaves, settle, results, Tryd.results51, go_sem, k0, k1, k2, k3, k9]
    exact hP

theorem trN_agg {w w' : World} {r : Except Int (Nat × Nat × Nat × Nat)} {e : Ending} (h : TrN w r e w') : ∃ (n m t q : Nat) (c : Int), e = .returned (.tuple #[.agg #[.int .u32 n, .int .u32 m, .int .u64 t, .int .u32 q], .int .i64 c]) ∧ (r = .ok (n, m, t, q) ∧ c = 0 ∨ r = .error c ∧ n = 0 ∧ m = 0 ∧ t = 0 ∧ q = 0) := by
  obtain ⟨_, h⟩ := h
  cases r with
  | error q => exact ⟨0, 0, 0, 0, q, h, .inr ⟨rfl, rfl, rfl, rfl, rfl⟩⟩
  | ok p =>
    obtain ⟨n, m, t, q⟩ := p
    exact ⟨n, m, t, q, 0, h, .inl ⟨rfl, rfl⟩⟩

theorem trN_of {w w' : World} {r : Except Int (Nat × Nat × Nat × Nat)} {n m t q : Nat} {c : Int} (h : r = .ok (n, m, t, q) ∧ c = 0 ∨ r = .error c ∧ n = 0 ∧ m = 0 ∧ t = 0 ∧ q = 0) (hb : Below w.heap.size w w') : TrN w r (.returned (.tuple #[.agg #[.int .u32 n, .int .u32 m, .int .u64 t, .int .u32 q], .int .i64 c])) w' := by
  rcases h with ⟨rfl, rfl⟩ | ⟨rfl, rfl, rfl, rfl, rfl⟩
  · exact ⟨hb, rfl⟩
  · exact ⟨hb, rfl⟩

set_option maxRecDepth 100000 in
set_option maxHeartbeats 4000000 in
theorem parsedN_any (s : List UInt8) (hs : s.length ≤ 140737488355328) (w : World) (ht : TabN w) :
    Calls Tryd.prog 49 #[.string ⟨s.toArray⟩, .func (.func 50) #[] #[]] w (TrN w (rdN s)) := by
  have hmf : ∀ (fn : Fn) (first cap : Array Value) (w : World), (Instr.makeFunc fn first cap).run Tryd.prog w = .ok (.func fn first cap) w := fun _ _ _ _ => rfl
  obtain ⟨W1, hW1⟩ : ∃ W, W = (w.alloc (.cells #[.string ⟨s.toArray⟩] 9)).alloc (.cells #[.func (.func 50) #[] #[]] 88) := ⟨_, rfl⟩
  have s1 : W1.heap.size = w.heap.size + 2 := by rw [hW1]; simp
  have a1 : W1.cell? ⟨w.heap.size, 0, none⟩ = some (.string ⟨s.toArray⟩) := by rw [hW1]; simp
  have a2 : W1.cell? ⟨w.heap.size + 1, 0, none⟩ = some (.func (.func 50) #[] #[]) := by
    rw [hW1, ← World.size_alloc w (.cells #[.string ⟨s.toArray⟩] 9), World.cell?_alloc_mark]
    rfl
  obtain ⟨W, hW⟩ : ∃ W, W = W1.alloc (.cells #[.int .u32 0, .int .u32 0, .int .u64 0, .int .u32 0] 47) := ⟨_, rfl⟩
  have hb1 : Below w.heap.size w W1 := by rw [hW1]; exact below_al (below_al (Below.refl _ _) _) _
  have hbW : Below w.heap.size w W := by rw [hW]; exact below_al hb1 _
  have hb2 : Below W1.heap.size W1 W := by rw [hW]; exact below_al (Below.refl _ _) _
  have hsW : W.heap.size = w.heap.size + 3 := by rw [hW]; simp [s1]
  have HB := Lib.hid hbW
  have HT := Lib.hid (triedN_any 79 #[.pointer (some ⟨w.heap.size, 0, none⟩), .pointer (some ⟨w.heap.size + 1, 0, none⟩)] (rdN s) W (enters_of Tryd.func79 (by kernel_rfl) rfl)
    (fun w' hb => bodyN_any _ _ s hs w' (ht.on (below_on hbW hb)) ((hb.cell (p := ⟨w.heap.size, 0, none⟩) (show w.heap.size < _ by omega)).trans ((hb2.cell (p := ⟨w.heap.size, 0, none⟩) (show w.heap.size < _ by omega)).trans a1))
      ((hb.cell (p := ⟨w.heap.size + 1, 0, none⟩) (show w.heap.size + 1 < _ by omega)).trans ((hb2.cell (p := ⟨w.heap.size + 1, 0, none⟩) (show w.heap.size + 1 < _ by omega)).trans a2))))
  have HC : Hid (∀ w', Below W.heap.size W w' → (w'.cell? ⟨w.heap.size + 2, 0, none⟩ = some (.int .u32 0) ∧ w'.cell? ⟨w.heap.size + 2, 1, none⟩ = some (.int .u32 0) ∧ w'.cell? ⟨w.heap.size + 2, 2, none⟩ = some (.int .u64 0) ∧ w'.cell? ⟨w.heap.size + 2, 3, none⟩ = some (.int .u32 0)) ∧ ∀ i, w'.frozen? ⟨w.heap.size + 2, i, none⟩ = false) := fun w' hb => by
    have hh : ∀ i, w'.cell? ⟨w.heap.size + 2, i, none⟩ = W.cell? ⟨w.heap.size + 2, i, none⟩ := fun i => hb.cell (p := ⟨w.heap.size + 2, i, none⟩) (show w.heap.size + 2 < _ by omega)
    have hf : ∀ i, w'.frozen? ⟨w.heap.size + 2, i, none⟩ = W.frozen? ⟨w.heap.size + 2, i, none⟩ := fun i => hb.frozen (p := ⟨w.heap.size + 2, i, none⟩) (show w.heap.size + 2 < _ by omega)
    exact ⟨⟨(hh 0).trans (by rw [hW, ← s1, World.cell?_alloc_mark]; rfl), (hh 1).trans (by rw [hW, ← s1, World.cell?_alloc_mark]; rfl), (hh 2).trans (by rw [hW, ← s1, World.cell?_alloc_mark]; rfl), (hh 3).trans (by rw [hW, ← s1, World.cell?_alloc_mark]; rfl)⟩, fun i => (hf i).trans (by rw [hW, ← s1]; exact World.frozen?_alloc_new _ _ _ _)⟩
  have HW : Hid (W = ((w.alloc (.cells #[.string ⟨s.toArray⟩] 9)).alloc (.cells #[.func (.func 50) #[] #[]] 88)).alloc (.cells #[.int .u32 0, .int .u32 0, .int .u64 0, .int .u32 0] 47)) := by rw [← hW1]; exact hW
  clear hW1 hW hb1 hb2 hbW a1 a2 s1 ht
  go_enter Tryd.func49, Tryd.ntmps49
  go_wp2_with fail
  rw [← HW.out]
  refine HT.out.mono ?_
  intro e w1 htr
  have HBB := Lib.hid (below_on HB.out htr.1)
  obtain ⟨⟨d0, d1, d2, d3⟩, df⟩ := HC.out w1 htr.1
  have f0 := df 0
  have f1 := df 1
  have f2 := df 2
  have f3 := df 3
  obtain ⟨n, m, t, q, c, rfl, hr⟩ := trN_agg htr
  have HR := Lib.hid hr
  clear htr hr df
  go_wp2_with fail
  obtain ⟨e0, e1, e2, e3⟩ := put4 (.int .u32 (n : Int)) (.int .u32 (m : Int)) (.int .u64 (t : Int)) (.int .u32 (q : Int)) d0 d1 d2 d3
  refine bodyPost_ret (v := .tuple #[.agg #[.int .u32 n, .int .u32 m, .int .u64 t, .int .u32 q], .int .i64 c]) (by simp [results, Tryd.results49, go_sem, e0, e1, e2, e3]) rfl (trN_of HR.out ?_)
  exact ((((HBB.out.setCell (p := ⟨w.heap.size + 2, 0, none⟩) (by show w.heap.size ≤ w.heap.size + 2; omega) _).setCell (p := ⟨w.heap.size + 2, 1, none⟩) (by show w.heap.size ≤ w.heap.size + 2; omega) _).setCell (p := ⟨w.heap.size + 2, 2, none⟩) (by show w.heap.size ≤ w.heap.size + 2; omega) _).setCell (p := ⟨w.heap.size + 2, 3, none⟩) (by show w.heap.size ≤ w.heap.size + 2; omega) _)

set_option maxRecDepth 100000 in
set_option maxHeartbeats 4000000 in
theorem parseN_any (s : List UInt8) (hs : s.length ≤ 140737488355328) (w : World) (ht : TabN w) :
    Calls Tryd.prog 24 #[.string ⟨s.toArray⟩] w (TrN w (rdN s)) := by
  obtain ⟨W, hW⟩ : ∃ W, W = w.alloc (.cells #[.int .u32 0, .int .u32 0, .int .u64 0, .int .u32 0] 47) := ⟨_, rfl⟩
  have hbW : Below w.heap.size w W := by rw [hW]; exact below_al (Below.refl _ _) _
  have hsW : W.heap.size = w.heap.size + 1 := by rw [hW]; simp
  have HB := Lib.hid hbW
  have HT := Lib.hid (parsedN_any s hs W (ht.on hbW))
  have HC : Hid (∀ w', Below W.heap.size W w' → (w'.cell? ⟨w.heap.size, 0, none⟩ = some (.int .u32 0) ∧ w'.cell? ⟨w.heap.size, 1, none⟩ = some (.int .u32 0) ∧ w'.cell? ⟨w.heap.size, 2, none⟩ = some (.int .u64 0) ∧ w'.cell? ⟨w.heap.size, 3, none⟩ = some (.int .u32 0)) ∧ ∀ i, w'.frozen? ⟨w.heap.size, i, none⟩ = false) := fun w' hb => by
    have hh : ∀ i, w'.cell? ⟨w.heap.size, i, none⟩ = W.cell? ⟨w.heap.size, i, none⟩ := fun i => hb.cell (p := ⟨w.heap.size, i, none⟩) (show w.heap.size < _ by omega)
    have hf : ∀ i, w'.frozen? ⟨w.heap.size, i, none⟩ = W.frozen? ⟨w.heap.size, i, none⟩ := fun i => hb.frozen (p := ⟨w.heap.size, i, none⟩) (show w.heap.size < _ by omega)
    exact ⟨⟨(hh 0).trans (by rw [hW]; simp), (hh 1).trans (by rw [hW]; simp), (hh 2).trans (by rw [hW]; simp), (hh 3).trans (by rw [hW]; simp)⟩, fun i => (hf i).trans (by rw [hW]; simp)⟩
  have HW := Lib.hid hW
  clear hW hbW ht
  go_enter Tryd.func24, Tryd.ntmps24
  go_wp2_with fail
  rw [← HW.out]
  refine HT.out.mono ?_
  intro e w1 htr
  have HBB := Lib.hid (below_on HB.out htr.1)
  obtain ⟨⟨d0, d1, d2, d3⟩, df⟩ := HC.out w1 htr.1
  have f0 := df 0
  have f1 := df 1
  have f2 := df 2
  have f3 := df 3
  obtain ⟨n, m, t, q, c, rfl, hr⟩ := trN_agg htr
  have HR := Lib.hid hr
  clear htr hr df
  go_wp2_with fail
  obtain ⟨e0, e1, e2, e3⟩ := put4 (.int .u32 (n : Int)) (.int .u32 (m : Int)) (.int .u64 (t : Int)) (.int .u32 (q : Int)) d0 d1 d2 d3
  refine bodyPost_ret (v := .tuple #[.agg #[.int .u32 n, .int .u32 m, .int .u64 t, .int .u32 q], .int .i64 c]) (by simp [results, Tryd.results24, go_sem, e0, e1, e2, e3]) rfl (trN_of HR.out ?_)
  exact ((((HBB.out.setCell (p := ⟨w.heap.size, 0, none⟩) (Nat.le_refl _) _).setCell (p := ⟨w.heap.size, 1, none⟩) (Nat.le_refl _) _).setCell (p := ⟨w.heap.size, 2, none⟩) (Nat.le_refl _) _).setCell (p := ⟨w.heap.size, 3, none⟩) (Nat.le_refl _) _)

end Go.Proofs.YtjbdpkjkeelgfaaDoor
