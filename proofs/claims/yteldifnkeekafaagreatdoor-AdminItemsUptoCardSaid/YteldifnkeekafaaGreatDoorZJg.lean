/- Joined texts. -/
import Derived.Lib.ItoaNum
import Derived.Lib.ParseIntBCases
import Derived.Test.YteldifnkeekafaaGreatDoorZJa
import Derived.Shelf.Strconv.Itoa1
import Derived.Shelf.Strconv.Itoa2
import Derived.Lib.ItoaMem
import Derived.Shelf.Pu.ErrVarParseUint
import Derived.Lib.Hide
import Derived.Recover
import Derived.Laws.RangeAny
import Derived.Lib.OthersKept
import Derived.Deep.RegionHeld3
import Derived.Deep.QuietTactic
import Derived.BigQuiet
set_option maxHeartbeats 4000000
set_option linter.unusedSimpArgs false
set_option linter.unusedVariables false
namespace Go.Proofs.YteldifnkeekafaaGreatDoor
open Go

theorem dd_small {n : Nat} (h : n < 10) : Lib.decDigits n = [UInt8.ofNat (48 + n)] := Lib.decDigits_one h

/-! ### Digits, byte by byte. -/

def forever : Nat := 4611686018427387903

end Go.Proofs.YteldifnkeekafaaGreatDoor

namespace Go.Proofs.YteldifnkeekafaaGreatDoor
open Go Go.RowKit Go.Shelf Go.Sort

def nmGives (c : Int) : Ending := .panicked [{ v := .iface 33 (.int .i64 c), recovered := false }]
theorem nmGives_def (c : Int) : nmGives c = .panicked [{ v := .iface 33 (.int .i64 c), recovered := false }] := rfl

theorem need_yes (w : World) : Calls Tryz.prog 152 #[.bool true] w fun e w' => e = .returned (.tuple #[]) ∧ w' = w := by
 go_enter Tryz.func152, Tryz.ntmps152
 go_wp2_with fail
 first | go_end0 | skip
 exact ⟨rfl, rfl⟩

theorem need_no (w : World) : Calls Tryz.prog 152 #[.bool false] w fun e w' => e = nmGives 130 ∧ w' = w := by
 go_enter Tryz.func152, Tryz.ntmps152
 go_wp2_with fail
 exact ⟨rfl, rfl, rfl⟩

end Go.Proofs.YteldifnkeekafaaGreatDoor

namespace Go.Proofs.YteldifnkeekafaaGreatDoor
open Go Go.RowKit Go.Shelf

theorem short_yes (n : Nat) (h : n ≤ 4294967295) (w : World) : Calls Tryz.prog 154 #[.int .u64 n] w fun e w' => e = .returned (.int .u32 n) ∧ w' = w := by
 have h1 : (n : Int) ≤ 4294967295 := by omega
 have hw : IntKind.u32.wrap (n : Int) = (n : Int) := by rw [IntKind.wrap_u32]; omega
 go_enter Tryz.func154, Tryz.ntmps154
 go_wp2_with fail
 refine (need_yes _).mono ?_
 rintro e w3 ⟨rfl, rfl⟩
 go_wp2
 go_ret
 exact ⟨rfl, rfl⟩

theorem short_no (n : Nat) (h : ¬ n ≤ 4294967295) (w : World) : Calls Tryz.prog 154 #[.int .u64 n] w fun e w' => e = nmGives 130 ∧ w' = w := by
 have h1 : decide ((n : Int) ≤ 4294967295) = false := by simp; omega
 have h2 : ¬ (n : Int) ≤ 4294967295 := by omega
 have h3 : (4294967295 : Int) < (n : Int) := by omega
 go_enter Tryz.func154, Tryz.ntmps154
 go_wp2_with fail
 refine (need_no _).mono ?_
 rintro e w3 ⟨rfl, rfl⟩
 rw [nmGives_def]
 go_wp2_with fail
 exact ⟨rfl, rfl, rfl⟩

def sv (n m : Nat) : Bool := decide (0 < n) && (decide (n ≤ 4294967295) && decide (m ≤ 4294967295))

theorem served_yes (n m : Nat) (h : sv n m = true) (w : World) : Calls Tryz.prog 155 #[.int .u64 n, .int .u64 m] w fun e w' => e = .returned (.agg #[.int .u32 n, .int .u32 m]) ∧ Below w.heap.size w w' := by
 simp [sv] at h
 obtain ⟨h0, h1, h2⟩ := h
 have hz : (0 : Int) < (n : Int) := by omega
 have HS1 := h_ (fun w => short_yes n h1 w)
 have HS2 := h_ (fun w => short_yes m h2 w)
 clear h1 h2
 go_enter Tryz.func155, Tryz.ntmps155
 go_wp2_with fail
 refine (need_yes _).mono ?_
 rintro e w3 ⟨rfl, rfl⟩
 go_wp2_with fail
 refine (HS1.out _).mono ?_
 rintro e w3 ⟨rfl, rfl⟩
 go_wp2_with fail
 refine (HS2.out _).mono ?_
 rintro e w3 ⟨rfl, rfl⟩
 go_wp2
 refine bodyPost_ret (v := .agg #[.int .u32 n, .int .u32 m]) (by simp [results, Tryz.results155, go_sem]) rfl ⟨rfl, ?_⟩
 exact bR.alloc (Nat.le_refl _) _

theorem served_no (n m : Nat) (h : sv n m = false) (w : World) : Calls Tryz.prog 155 #[.int .u64 n, .int .u64 m] w fun e w' => e = nmGives 130 ∧ Below w.heap.size w w' := by
 by_cases h0 : 0 < n
 ·have hz : (0 : Int) < (n : Int) := by omega
  by_cases h1 : n ≤ 4294967295
  ·have h2 : ¬ m ≤ 4294967295 := by intro h2; simp [sv, h0, h1, h2] at h
   have HS1 := h_ (fun w => short_yes n h1 w)
   have HS2 := h_ (fun w => short_no m h2 w)
   clear h h1 h2
   go_enter Tryz.func155, Tryz.ntmps155
   go_wp2_with fail
   refine (need_yes _).mono ?_
   rintro e w3 ⟨rfl, rfl⟩
   go_wp2_with fail
   refine (HS1.out _).mono ?_
   rintro e w3 ⟨rfl, rfl⟩
   go_wp2_with fail
   refine (HS2.out _).mono ?_
   rintro e w3 ⟨rfl, rfl⟩
   rw [nmGives_def]
   go_wp2_with fail
   exact ⟨rfl, rfl, bR.alloc (Nat.le_refl _) _⟩
  ·have HS1 := h_ (fun w => short_no n h1 w)
   clear h h1
   go_enter Tryz.func155, Tryz.ntmps155
   go_wp2_with fail
   refine (need_yes _).mono ?_
   rintro e w3 ⟨rfl, rfl⟩
   go_wp2_with fail
   refine (HS1.out _).mono ?_
   rintro e w3 ⟨rfl, rfl⟩
   rw [nmGives_def]
   go_wp2_with fail
   exact ⟨rfl, rfl, bR.alloc (Nat.le_refl _) _⟩
 ·obtain rfl : n = 0 := by omega
  clear h h0
  go_enter Tryz.func155, Tryz.ntmps155
  go_wp2_with fail
  refine (need_no _).mono ?_
  rintro e w3 ⟨rfl, rfl⟩
  rw [nmGives_def]
  go_wp2_with fail
  exact ⟨rfl, rfl, bR.alloc (Nat.le_refl _) _⟩

def nmV (n m t q : Int) : Value := .agg #[.int .u32 n, .int .u32 m, .int .u64 t, .int .u32 q]

theorem cname_ok (n m t q : Int) (h1 : 0 < n) (h2 : t ≤ 4611686018427387903) (w : World) :
  Calls Tryz.prog 114 #[.agg #[.int .u32 n, .int .u32 m, .int .u64 t, .int .u32 q]] w fun e w' => e = .returned (.int .i64 0) ∧ Below w.heap.size w w' := by
 have h3 : (n == 0) = false := by simp; omega
 have h4 : ¬ n = 0 := by omega
 have h5 : ¬ (4611686018427387903 : Int) < t := by omega
 have h6 : decide ((4611686018427387903 : Int) < t) = false := by simp; omega
 go_enter Tryz.func114, Tryz.ntmps114
 go_wp2
 all_goals first | (go_ret; exact ⟨rfl, below_al bR _⟩) | (exfalso; omega)

theorem cname_no (n m t q : Int) (h : n = 0 ∨ 4611686018427387903 < t) (w : World) :
  Calls Tryz.prog 114 #[.agg #[.int .u32 n, .int .u32 m, .int .u64 t, .int .u32 q]] w fun e w' => e = .returned (.int .i64 2) ∧ Below w.heap.size w w' := by
 by_cases h0 : n = 0
 ·subst h0
  clear h
  go_enter Tryz.func114, Tryz.ntmps114
  go_wp2
  go_ret
  exact ⟨rfl, below_al bR _⟩
 ·have h5 : (4611686018427387903 : Int) < t := by omega
  have h3 : (n == 0) = false := by simp; omega
  clear h
  go_enter Tryz.func114, Tryz.ntmps114
  go_wp2
  all_goals first | (go_ret; exact ⟨rfl, below_al bR _⟩) | (exfalso; omega)

def nmB (n t q : Nat) : Bool := decide (0 < n) && (decide (t ≤ forever) && decide (q ≤ 4294967295))

set_option maxRecDepth 100000 in
theorem named_short (n m t q : Nat) (h : ¬ q ≤ 4294967295) (w : World) :
  Calls Tryz.prog 148 #[.agg #[.int .u32 n, .int .u32 m], .int .u64 t, .int .u64 q] w fun e w' => e = nmGives 130 ∧ Below w.heap.size w w' := by
 have HS : Hid (∀ w, Calls Tryz.prog 154 #[.int .u64 q] w fun e w' => e = .panicked [{ v := .iface 33 (.int .i64 130), recovered := false }] ∧ w' = w) := fun w => short_no q h w
 clear h
 go_enter Tryz.func148, Tryz.ntmps148
 go_wp2_with fail
 refine wp_region_any (by kernel_rfl) ?_
 change wpAny _ _ _ _ 7 _ _ (World.drew _)
 refine wpAny_take (i := 1) (v := ?_) rfl (by kernel_rfl) (by kernel_rfl) (by kernel_rfl) (fun _ _ _ h => h) (Or.inl ⟨by rfl, ?_⟩) ?_
 rotate_left
 ·intro w
  go_simp
  all_goals with_reducible rfl
 simp only [Act.put, zA, zB, zC]
 refine wpAny_take (i := 2) (v := ?_) rfl (by kernel_rfl) (by kernel_rfl) (by kernel_rfl) (fun _ _ _ h => h) (Or.inl ⟨by rfl, ?_⟩) ?_
 rotate_left
 ·intro w
  go_simp
  all_goals with_reducible rfl
 simp only [Act.put, zA, zB, zC]
 refine wpAny_ready (rs := [0, 3, 5]) (by kernel_rfl) (by simp) (AllReady.cons rfl (fun K hK => ?_) (AllReady.cons rfl (fun K hK => ?_) (AllReady.cons rfl (fun K hK => ?_) AllReady.nil)))
 ·go_simp
  refine hK _ _ ?_
  clear hK K
  try simp only [Act.put, zA, zB, zC]
  refine wpAny_ready (rs := [3, 5]) (by kernel_rfl) (by simp) (AllReady.cons rfl (fun K hK => ?_) (AllReady.cons rfl (fun K hK => ?_) AllReady.nil))
  ·go_simp
   refine (HS.out _).mono ?_
   rintro e w' ⟨rfl, rfl⟩
   exact ⟨rfl, rfl, by repeat (first | exact Below.refl _ _ | refine Below.drew ?_ | refine below_al ?_ _)⟩
  ·go_simp
   refine hK _ _ ?_
   clear hK K
   try simp only [Act.put, zA, zB, zC]
   refine wpAny_ready (rs := [3]) (by kernel_rfl) (by simp) (AllReady.cons rfl (fun K hK => ?_) AllReady.nil)
   ·go_simp
    refine (HS.out _).mono ?_
    rintro e w' ⟨rfl, rfl⟩
    exact ⟨rfl, rfl, by repeat (first | exact Below.refl _ _ | refine Below.drew ?_ | refine below_al ?_ _)⟩
 ·go_simp
  refine (HS.out _).mono ?_
  rintro e w' ⟨rfl, rfl⟩
  exact ⟨rfl, rfl, by repeat (first | exact Below.refl _ _ | refine Below.drew ?_ | refine below_al ?_ _)⟩
 ·go_simp
  refine hK _ _ ?_
  clear hK K
  try simp only [Act.put, zA, zB, zC]
  refine wpAny_ready (rs := [0, 3]) (by kernel_rfl) (by simp) (AllReady.cons rfl (fun K hK => ?_) (AllReady.cons rfl (fun K hK => ?_) AllReady.nil))
  ·go_simp
   refine hK _ _ ?_
   clear hK K
   try simp only [Act.put, zA, zB, zC]
   refine wpAny_ready (rs := [3]) (by kernel_rfl) (by simp) (AllReady.cons rfl (fun K hK => ?_) AllReady.nil)
   ·go_simp
    refine (HS.out _).mono ?_
    rintro e w' ⟨rfl, rfl⟩
    exact ⟨rfl, rfl, by repeat (first | exact Below.refl _ _ | refine Below.drew ?_ | refine below_al ?_ _)⟩
  ·go_simp
   refine (HS.out _).mono ?_
   rintro e w' ⟨rfl, rfl⟩
   exact ⟨rfl, rfl, by repeat (first | exact Below.refl _ _ | refine Below.drew ?_ | refine below_al ?_ _)⟩
--END named_short
def NamedP (w : World) (n m t q : Nat) (e : Ending) (w' : World) : Prop := (e = if nmB n t q = true then .returned (nmV n m t q) else nmGives 130) ∧ Below w.heap.size w w'
theorem namedP_no {w w' : World} {n m t q : Nat} (h : nmB n t q = false) (hb : Below w.heap.size w w') : NamedP w n m t q (nmGives 130) w' := ⟨by rw [h]; rfl, hb⟩
theorem namedP_yes {w w' : World} {n m t q : Nat} (h : nmB n t q = true) (hb : Below w.heap.size w w') : NamedP w n m t q (.returned (nmV n m t q)) w' := ⟨by rw [h]; rfl, hb⟩

theorem put4 {w : World} {b : Nat} {a0 a1 a2 a3 : Value} (v0 v1 v2 v3 : Value) (h0 : w.cell? ⟨b, 0, none⟩ = some a0) (h1 : w.cell? ⟨b, 1, none⟩ = some a1) (h2 : w.cell? ⟨b, 2, none⟩ = some a2) (h3 : w.cell? ⟨b, 3, none⟩ = some a3) :
  let w' := (((w.setCell ⟨b, 0, none⟩ v0).setCell ⟨b, 1, none⟩ v1).setCell ⟨b, 2, none⟩ v2).setCell ⟨b, 3, none⟩ v3
  w'.cell? ⟨b, 0, none⟩ = some v0 ∧ w'.cell? ⟨b, 1, none⟩ = some v1 ∧ w'.cell? ⟨b, 2, none⟩ = some v2 ∧ w'.cell? ⟨b, 3, none⟩ = some v3 := by
 have ot : ∀ (w : World) (i j : Nat) (v : Value), i ≠ j → (w.setCell ⟨b, i, none⟩ v).cell? ⟨b, j, none⟩ = w.cell? ⟨b, j, none⟩ := fun w i j v h => World.cell?_setCell_other _ _ _ _ (by simp [h])
 refine ⟨?_, ?_, ?_, World.cell?_setCell_same _ _ _ (by rw [ot _ _ _ _ (by decide), ot _ _ _ _ (by decide), ot _ _ _ _ (by decide)]; exact h3)⟩
 ·rw [ot _ _ _ _ (by decide), ot _ _ _ _ (by decide), ot _ _ _ _ (by decide)]
  exact World.cell?_setCell_same _ _ _ h0
 ·rw [ot _ _ _ _ (by decide), ot _ _ _ _ (by decide)]
  exact World.cell?_setCell_same _ _ _ (by rw [ot _ _ _ _ (by decide)]; exact h1)
 ·rw [ot _ _ _ _ (by decide)]
  exact World.cell?_setCell_same _ _ _ (by rw [ot _ _ _ _ (by decide), ot _ _ _ _ (by decide)]; exact h2)

set_option maxRecDepth 100000 in
theorem ncNamed_any (n m t q : Nat) (h : q ≤ 4294967295) (w : World) :
  Calls Tryz.prog 148 #[.agg #[.int .u32 n, .int .u32 m], .int .u64 t, .int .u64 q] w (NamedP w n m t q) := by
 have HS := h_ (fun w => short_yes q h w)
 have HK0 : Hid (nmB n t q = false → ((n : Int) = 0 ∨ 4611686018427387903 < (t : Int))) := fun hk => by
  by_cases g1 : 0 < n
  ·by_cases g2 : t ≤ forever
   ·simp [nmB, h, g1, g2] at hk
   ·have e : forever = 4611686018427387903 := rfl
    omega
  ·omega
 have HK1 : Hid (nmB n t q = true → ((0 : Int) < n ∧ (t : Int) ≤ 4611686018427387903)) := fun hk => by
  simp only [nmB, Bool.and_eq_true, decide_eq_true_eq] at hk
  have e : forever = 4611686018427387903 := rfl
  omega
 obtain ⟨W, hW⟩ : ∃ W, W = (w.alloc (.cells #[.int .u32 n, .int .u32 m] 27)).alloc (.cells #[.int .u32 0, .int .u32 0, .int .u64 0, .int .u32 0] 30) := ⟨_, rfl⟩
 have HW := h_ hW
 have hB : Below w.heap.size w W := by rw [hW]; exact below_al (below_al bR _) _
 have hs : W.heap.size ≤ w.heap.size + 2 ∧ w.heap.size + 2 ≤ W.heap.size := by rw [hW]; simp
 have c0 : W.cell? ⟨w.heap.size, 0, none⟩ = some (.int .u32 n) := by rw [hW]; simp
 have c1 : W.cell? ⟨w.heap.size, 1, none⟩ = some (.int .u32 m) := by rw [hW]; simp
 have HELD : Hid (∀ w', Below W.heap.size W w' → (w'.cell? ⟨w.heap.size, 0, none⟩ = some (.int .u32 n) ∧ w'.cell? ⟨w.heap.size, 1, none⟩ = some (.int .u32 m)) ∧ Below W.heap.size W w') := fun w' hb =>
  ⟨⟨(hb.cell (p := ⟨w.heap.size, 0, none⟩) (show w.heap.size < _ by omega)).trans c0, (hb.cell (p := ⟨w.heap.size, 1, none⟩) (show w.heap.size < _ by omega)).trans c1⟩, hb⟩
 have F0 : Below W.heap.size W W.drew := bR.drew
 obtain ⟨X, hX⟩ : ∃ X, X = (W.alloc (.cells #[.int .u32 n, .int .u32 m, .int .u64 t, .int .u32 q] 30)).drew := ⟨_, rfl⟩
 have HX := h_ hX
 have hBX : Below W.heap.size W X := by rw [hX]; exact (below_al bR _).drew
 have hsX : X.heap.size ≤ W.heap.size + 1 ∧ W.heap.size + 1 ≤ X.heap.size := by rw [hX]; simp [World.drew]
 have x0 : X.cell? ⟨W.heap.size, 0, none⟩ = some (.int .u32 n) := by rw [hX]; simp
 have x1 : X.cell? ⟨W.heap.size, 1, none⟩ = some (.int .u32 m) := by rw [hX]; simp
 have x2 : X.cell? ⟨W.heap.size, 2, none⟩ = some (.int .u64 t) := by rw [hX]; simp
 have x3 : X.cell? ⟨W.heap.size, 3, none⟩ = some (.int .u32 q) := by rw [hX]; simp
 have d0 : W.cell? ⟨w.heap.size + 1, 0, none⟩ = some (.int .u32 0) := by rw [hW]; simp
 have d1 : W.cell? ⟨w.heap.size + 1, 1, none⟩ = some (.int .u32 0) := by rw [hW]; simp
 have d2 : W.cell? ⟨w.heap.size + 1, 2, none⟩ = some (.int .u64 0) := by rw [hW]; simp
 have d3 : W.cell? ⟨w.heap.size + 1, 3, none⟩ = some (.int .u32 0) := by rw [hW]; simp
 have df : ∀ i, W.frozen? ⟨w.heap.size + 1, i, none⟩ = false := fun i => by rw [hW]; simp
 have HY : Hid (∀ w', Below X.heap.size X w' → (w'.cell? ⟨W.heap.size, 0, none⟩ = some (.int .u32 n) ∧ w'.cell? ⟨W.heap.size, 1, none⟩ = some (.int .u32 m) ∧ w'.cell? ⟨W.heap.size, 2, none⟩ = some (.int .u64 t) ∧ w'.cell? ⟨W.heap.size, 3, none⟩ = some (.int .u32 q)) ∧
   (w'.cell? ⟨w.heap.size + 1, 0, none⟩ = some (.int .u32 0) ∧ w'.cell? ⟨w.heap.size + 1, 1, none⟩ = some (.int .u32 0) ∧ w'.cell? ⟨w.heap.size + 1, 2, none⟩ = some (.int .u64 0) ∧ w'.cell? ⟨w.heap.size + 1, 3, none⟩ = some (.int .u32 0)) ∧ ∀ i, w'.frozen? ⟨w.heap.size + 1, i, none⟩ = false) := fun w' hb => by
  have hh : ∀ i, w'.cell? ⟨W.heap.size, i, none⟩ = X.cell? ⟨W.heap.size, i, none⟩ := fun i => hb.cell (p := ⟨W.heap.size, i, none⟩) (show W.heap.size < _ by omega)
  have hg : ∀ i, w'.cell? ⟨w.heap.size + 1, i, none⟩ = W.cell? ⟨w.heap.size + 1, i, none⟩ := fun i => (hb.cell (p := ⟨w.heap.size + 1, i, none⟩) (show w.heap.size + 1 < _ by omega)).trans (hBX.cell (p := ⟨w.heap.size + 1, i, none⟩) (show w.heap.size + 1 < _ by omega))
  have hf : ∀ i, w'.frozen? ⟨w.heap.size + 1, i, none⟩ = W.frozen? ⟨w.heap.size + 1, i, none⟩ := fun i => (hb.frozen (p := ⟨w.heap.size + 1, i, none⟩) (show w.heap.size + 1 < _ by omega)).trans (hBX.frozen (p := ⟨w.heap.size + 1, i, none⟩) (show w.heap.size + 1 < _ by omega))
  exact ⟨⟨(hh 0).trans x0, (hh 1).trans x1, (hh 2).trans x2, (hh 3).trans x3⟩, ⟨(hg 0).trans d0, (hg 1).trans d1, (hg 2).trans d2, (hg 3).trans d3⟩, fun i => (hf i).trans (df i)⟩
 have HBX : Hid (Below w.heap.size w X) := hB.trans (hBX.mono (by omega))
 clear hW h hX hBX d0 d1 d2 d3 df hB
 go_enter Tryz.func148, Tryz.ntmps148
 go_wp2_with fail
 rw [← HW.out]
 go_region_held3 (fun w' => (w'.cell? ⟨w.heap.size, 0, none⟩ = some (.int .u32 n) ∧ w'.cell? ⟨w.heap.size, 1, none⟩ = some (.int .u32 m)) ∧ Below W.heap.size W w')
  (first | (refine HELD.out _ ?_; with_reducible exact F0) | (refine HELD.out _ ?_; with_reducible exact F1) | (refine HELD.out _ ?_; exact below_al F0 _) | (refine HELD.out _ ?_; exact below_al F1 _))
  (first | (go_at_call 154; (with_reducible refine (HS.out _).mono ?_); rintro e w3 ⟨rfl, hw3⟩; have F1 : Below W.heap.size W w3 := by rw [hw3]; first | exact F0 | exact below_al F0 _))
 all_goals
  rename_i hHeld
  clear hHeld F0
  try clear F1 hw3
  rw [← HX.out]
  go_wp2_with fail
 all_goals
  cases hk : nmB n t q
  ·have HN : Hid (∀ w, Calls Tryz.prog 114 #[.agg #[.int .u32 n, .int .u32 m, .int .u64 t, .int .u32 q]] w fun e w' => e = .returned (.int .i64 2) ∧ Below w.heap.size w w') := fun w => cname_no _ _ _ _ (HK0.out hk) w
   have HKK := h_ hk
   clear hk
   refine (HN.out _).mono ?_
   rintro e w4 ⟨rfl, hb4⟩
   have HB4 := h_ hb4
   clear hb4 x0 x1 x2 x3 c0 c1
   go_wp2_with fail
   refine (need_no _).mono ?_
   rintro e w5 ⟨rfl, rfl⟩
   rw [nmGives_def]
   go_wp2_with fail
   exact ⟨rfl, namedP_no HKK.out (below_on HBX.out HB4.out)⟩
  ·have HN : Hid (∀ w, Calls Tryz.prog 114 #[.agg #[.int .u32 n, .int .u32 m, .int .u64 t, .int .u32 q]] w fun e w' => e = .returned (.int .i64 0) ∧ Below w.heap.size w w') := fun w => cname_ok _ _ _ _ (HK1.out hk).1 (HK1.out hk).2 w
   have HKK := h_ hk
   clear hk
   refine (HN.out _).mono ?_
   rintro e w4 ⟨rfl, hb4⟩
   have HB4 := h_ hb4
   obtain ⟨⟨y0, y1, y2, y3⟩, ⟨z0, z1, z2, z3⟩, zf⟩ := HY.out w4 hb4
   have g0 := zf 0
   have g1 := zf 1
   have g2 := zf 2
   have g3 := zf 3
   have hz4 := hb4.size
   clear hb4 x0 x1 x2 x3 c0 c1 zf
   go_wp2_with fail
   refine (need_yes _).mono ?_
   rintro e w5 ⟨rfl, rfl⟩
   go_wp2_with fail
   obtain ⟨e0, e1, e2, e3⟩ := put4 (.int .u32 (n : Int)) (.int .u32 (m : Int)) (.int .u64 (t : Int)) (.int .u32 (q : Int)) z0 z1 z2 z3
   refine bodyPost_ret (v := nmV n m t q) (by simp [nmV, results, Tryz.results148, go_sem, e0, e1, e2, e3]) rfl (namedP_yes HKK.out ?_)
   exact ((((below_on HBX.out HB4.out).setCell (p := ⟨w.heap.size + 1, 0, none⟩) (Nat.le_succ _) _).setCell (p := ⟨w.heap.size + 1, 1, none⟩) (Nat.le_succ _) _).setCell (p := ⟨w.heap.size + 1, 2, none⟩) (Nat.le_succ _) _).setCell (p := ⟨w.heap.size + 1, 3, none⟩) (Nat.le_succ _) _

theorem check_ok (n m : Int) (h : 0 < n ∨ (n = 0 ∧ m = 0)) (w : World) :
  Calls Tryz.prog 135 #[.agg #[.int .u32 n, .int .u32 m]] w fun e w' => e = .returned (.int .i64 0) ∧ Below w.heap.size w w' := by
 rcases h with h | ⟨rfl, rfl⟩
 ·have h3 : (n == 0) = false := by simp; omega
  have h4 : ¬ n = 0 := by omega
  go_enter Tryz.func135, Tryz.ntmps135
  go_wp2
  all_goals first | (go_ret; exact ⟨rfl, below_al bR _⟩) | (exfalso; omega)
 ·go_enter Tryz.func135, Tryz.ntmps135
  go_wp2
  all_goals first | (go_ret; exact ⟨rfl, below_al bR _⟩) | (exfalso; omega)

theorem box2_all {w W' : World} {t : TypeId} {x y : Value} (hb : Below (w.alloc (.cells #[x, y] t)).heap.size (w.alloc (.cells #[x, y] t)) W') : W'.cell? ⟨w.heap.size, 0, none⟩ = some x ∧ W'.cell? ⟨w.heap.size, 1, none⟩ = some y :=
 ⟨(hb.cell (p := ⟨w.heap.size, 0, none⟩) (by simp)).trans (by simp), (hb.cell (p := ⟨w.heap.size, 1, none⟩) (by simp)).trans (by simp)⟩

end Go.Proofs.YteldifnkeekafaaGreatDoor
