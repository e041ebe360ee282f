/- Joined texts. -/
import Derived.Lib.ItoaNum
import Derived.Lib.ParseIntBCases
import Derived.Test.YtiahakbkagipkaaGreatDoorZJa
import Derived.Shelf.Strconv.Itoa1
import Derived.Shelf.Strconv.Itoa2
import Derived.Lib.ItoaMem
import Derived.Shelf.Pu.ErrVarParseUint
import Derived.Lib.Hide
import Derived.Recover
import Derived.Laws.RangeAny
import Derived.Lib.OthersKept
import Derived.Deep.RegionHeld3
import Derived.Deep.QuietTactic
import Derived.BigQuiet
set_option linter.unusedSimpArgs false
set_option linter.unusedVariables false
namespace Go.Proofs.YtiahakbkagipkaaGreatDoor
open Go

theorem dd_small {n : Nat} (h : n < 10) : Lib.decDigits n = [UInt8.ofNat (48 + n)] := Lib.decDigits_one h

/-! ### Digits, byte by byte. -/

def forever : Nat := 4611686018427387903

end Go.Proofs.YtiahakbkagipkaaGreatDoor

namespace Go.Proofs.YtiahakbkagipkaaGreatDoor
open Go Go.RowKit Go.Shelf Go.Sort

def TabN (w : World) : Prop :=
 Lib.TabIs Tryz.prog w "internal/strconv.uint64pow10" .u64 Lib.pow10Tab ∧ (∃ tp p, w.var? Tryz.prog "strconv.ErrSyntax" = some #[.iface tp p]) ∧ (∃ tp p, w.var? Tryz.prog "strconv.ErrRange" = some #[.iface tp p])

theorem var_below {P : Program} {w w' : World} {name : String} {cs : Array Value} (h : w.var? P name = some cs) (hb : Below w.heap.size w w') : w'.var? P name = some cs := by
 unfold World.var? at h ⊢
 cases hg : P.globalNamed name with
 | none => simp [hg] at h
 | some g =>
  simp only [hg, Option.bind_some] at h ⊢
  cases hc : w.heap[g]? with
  | none => simp [hc] at h
  | some o =>
   have hlt : g < w.heap.size := (Array.getElem?_eq_some_iff.1 hc).1
   rw [hb.block g hlt]
   exact h

theorem TabN.on {w w' : World} (h : TabN w) (hb : Below w.heap.size w w') : TabN w' := by
 obtain ⟨h1, ⟨t2, p2, h2⟩, ⟨t3, p3, h3⟩⟩ := h
 exact ⟨var_below h1 hb, ⟨t2, p2, var_below h2 hb⟩, ⟨t3, p3, var_below h3 hb⟩⟩

def nmGives (c : Int) : Ending := .panicked [{ v := .iface 28 (.int .i64 c), recovered := false }]
theorem nmGives_def (c : Int) : nmGives c = .panicked [{ v := .iface 28 (.int .i64 c), recovered := false }] := rfl

theorem need_yes (w : World) : Calls Tryz.prog 188 #[.bool true] w fun e w' => e = .returned (.tuple #[]) ∧ w' = w := by
 go_enter Tryz.func188, Tryz.ntmps188
 go_wp2_with fail
 first | go_end0 | skip
 exact ⟨rfl, rfl⟩

theorem need_no (w : World) : Calls Tryz.prog 188 #[.bool false] w fun e w' => e = nmGives 130 ∧ w' = w := by
 go_enter Tryz.func188, Tryz.ntmps188
 go_wp2_with fail
 exact ⟨rfl, rfl, rfl⟩

end Go.Proofs.YtiahakbkagipkaaGreatDoor

namespace Go.Proofs.YtiahakbkagipkaaGreatDoor
open Go Go.RowKit Go.Shelf

structure Bt (R : Nat) (w w' : World) : Prop where
 os : w'.os = w.os
 tape : w'.tape = w.tape
 output : w'.output = w.output
 size : w.heap.size ≤ w'.heap.size
 block : ∀ k, k < w.heap.size → k ≠ R → w'.heap[k]? = w.heap[k]?

theorem Bt.refl (R : Nat) (w : World) : Bt R w w := ⟨rfl, rfl, rfl, Nat.le_refl _, fun _ _ _ => rfl⟩
theorem Bt.trans {R : Nat} {a b c : World} (h : Bt R a b) (k : Bt R b c) : Bt R a c :=
 ⟨k.os.trans h.os, k.tape.trans h.tape, k.output.trans h.output, Nat.le_trans h.size k.size, fun i hi hne => (k.block i (Nat.lt_of_lt_of_le hi h.size) hne).trans (h.block i hi hne)⟩
theorem Bt.of_below {R : Nat} {w w' : World} (h : Below w.heap.size w w') : Bt R w w' := ⟨h.os, h.tape, h.output, h.size, fun k hk _ => h.block k hk⟩
theorem Bt.set {R o : Nat} (w : World) (v : Value) : Bt R w (w.setCell ⟨R, o, none⟩ v) :=
 ⟨rfl, rfl, rfl, by rw [World.size_setCell]; exact Nat.le_refl _, fun k _ hne => Below.heap_setCell w _ _ k hne⟩
theorem Bt.below {R B : Nat} {w w' : World} (h : Bt R w w') (hR : B ≤ R) (hB : B ≤ w.heap.size) : Below B w w' :=
 ⟨h.os, h.tape, h.output, h.size, fun k hk => h.block k (Nat.lt_of_lt_of_le hk hB) (by omega)⟩
theorem Bt.cell {R b o : Nat} {w w' : World} (h : Bt R w w') (hb : b < w.heap.size) (hne : b ≠ R) : w'.cell? ⟨b, o, none⟩ = w.cell? ⟨b, o, none⟩ :=
 World.cell?_of_block (w := w) (h.block b hb hne)
theorem Bt.frozen {R b o : Nat} {w w' : World} (h : Bt R w w') (hb : b < w.heap.size) (hne : b ≠ R) : w'.frozen? ⟨b, o, none⟩ = w.frozen? ⟨b, o, none⟩ :=
 World.frozen?_of_block (w := w) (h.block b hb hne)

def TS (w : World) (R : Nat) (s : List UInt8) : Prop := w.cell? ⟨R, 0, none⟩ = some (.string ⟨s.toArray⟩) ∧ w.frozen? ⟨R, 0, none⟩ = false ∧ R < w.heap.size

theorem TS.on {w w' : World} {R : Nat} {s : List UInt8} (h : TS w R s) (hb : Below w.heap.size w w') : TS w' R s :=
 ⟨(hb.cell (p := ⟨R, 0, none⟩) h.2.2).trans h.1, (hb.frozen (p := ⟨R, 0, none⟩) h.2.2).trans h.2.1, Nat.lt_of_lt_of_le h.2.2 hb.size⟩

theorem TS.set {w : World} {R : Nat} {s t : List UInt8} (h : TS w R s) : TS (w.setCell ⟨R, 0, none⟩ (.string ⟨t.toArray⟩)) R t :=
 ⟨World.cell?_setCell_same _ _ _ h.1, by rw [World.frozen?_setCell]; exact h.2.1, by rw [World.size_setCell]; exact h.2.2⟩

theorem short_yes (n : Nat) (h : n ≤ 4294967295) (w : World) : Calls Tryz.prog 199 #[.int .u64 n] w fun e w' => e = .returned (.int .u32 n) ∧ w' = w := by
 have h1 : (n : Int) ≤ 4294967295 := by omega
 have hw : IntKind.u32.wrap (n : Int) = (n : Int) := by rw [IntKind.wrap_u32]; omega
 go_enter Tryz.func199, Tryz.ntmps199
 go_wp2_with fail
 refine (need_yes _).mono ?_
 rintro e w3 ⟨rfl, rfl⟩
 go_wp2
 go_ret
 exact ⟨rfl, rfl⟩

theorem short_no (n : Nat) (h : ¬ n ≤ 4294967295) (w : World) : Calls Tryz.prog 199 #[.int .u64 n] w fun e w' => e = nmGives 130 ∧ w' = w := by
 have h1 : decide ((n : Int) ≤ 4294967295) = false := by simp; omega
 have h2 : ¬ (n : Int) ≤ 4294967295 := by omega
 have h3 : (4294967295 : Int) < (n : Int) := by omega
 go_enter Tryz.func199, Tryz.ntmps199
 go_wp2_with fail
 refine (need_no _).mono ?_
 rintro e w3 ⟨rfl, rfl⟩
 rw [nmGives_def]
 go_wp2_with fail
 exact ⟨rfl, rfl, rfl⟩

def sv (n m : Nat) : Bool := decide (0 < n) && (decide (n ≤ 4294967295) && decide (m ≤ 4294967295))

theorem served_yes (n m : Nat) (h : sv n m = true) (w : World) : Calls Tryz.prog 189 #[.int .u64 n, .int .u64 m] w fun e w' => e = .returned (.agg #[.int .u32 n, .int .u32 m]) ∧ Below w.heap.size w w' := by
 simp [sv] at h
 obtain ⟨h0, h1, h2⟩ := h
 have hz : (0 : Int) < (n : Int) := by omega
 have HS1 := h_ (fun w => short_yes n h1 w)
 have HS2 := h_ (fun w => short_yes m h2 w)
 clear h1 h2
 go_enter Tryz.func189, Tryz.ntmps189
 go_wp2_with fail
 refine (need_yes _).mono ?_
 rintro e w3 ⟨rfl, rfl⟩
 go_wp2_with fail
 refine (HS1.out _).mono ?_
 rintro e w3 ⟨rfl, rfl⟩
 go_wp2_with fail
 refine (HS2.out _).mono ?_
 rintro e w3 ⟨rfl, rfl⟩
 go_wp2
 refine bodyPost_ret (v := .agg #[.int .u32 n, .int .u32 m]) (by simp [results, Tryz.results189, go_sem]) rfl ⟨rfl, ?_⟩
 exact bR.alloc (Nat.le_refl _) _

theorem served_no (n m : Nat) (h : sv n m = false) (w : World) : Calls Tryz.prog 189 #[.int .u64 n, .int .u64 m] w fun e w' => e = nmGives 130 ∧ Below w.heap.size w w' := by
 by_cases h0 : 0 < n
 ·have hz : (0 : Int) < (n : Int) := by omega
  by_cases h1 : n ≤ 4294967295
  ·have h2 : ¬ m ≤ 4294967295 := by intro h2; simp [sv, h0, h1, h2] at h
   have HS1 := h_ (fun w => short_yes n h1 w)
   have HS2 := h_ (fun w => short_no m h2 w)
   clear h h1 h2
   go_enter Tryz.func189, Tryz.ntmps189
   go_wp2_with fail
   refine (need_yes _).mono ?_
   rintro e w3 ⟨rfl, rfl⟩
   go_wp2_with fail
   refine (HS1.out _).mono ?_
   rintro e w3 ⟨rfl, rfl⟩
   go_wp2_with fail
   refine (HS2.out _).mono ?_
   rintro e w3 ⟨rfl, rfl⟩
   rw [nmGives_def]
   go_wp2_with fail
   exact ⟨rfl, rfl, bR.alloc (Nat.le_refl _) _⟩
  ·have HS1 := h_ (fun w => short_no n h1 w)
   clear h h1
   go_enter Tryz.func189, Tryz.ntmps189
   go_wp2_with fail
   refine (need_yes _).mono ?_
   rintro e w3 ⟨rfl, rfl⟩
   go_wp2_with fail
   refine (HS1.out _).mono ?_
   rintro e w3 ⟨rfl, rfl⟩
   rw [nmGives_def]
   go_wp2_with fail
   exact ⟨rfl, rfl, bR.alloc (Nat.le_refl _) _⟩
 ·obtain rfl : n = 0 := by omega
  clear h h0
  go_enter Tryz.func189, Tryz.ntmps189
  go_wp2_with fail
  refine (need_no _).mono ?_
  rintro e w3 ⟨rfl, rfl⟩
  rw [nmGives_def]
  go_wp2_with fail
  exact ⟨rfl, rfl, bR.alloc (Nat.le_refl _) _⟩

theorem check_ok (n m : Int) (h : 0 < n ∨ (n = 0 ∧ m = 0)) (w : World) :
  Calls Tryz.prog 105 #[.agg #[.int .u32 n, .int .u32 m]] w fun e w' => e = .returned (.int .i64 0) ∧ Below w.heap.size w w' := by
 rcases h with h | ⟨rfl, rfl⟩
 ·have h3 : (n == 0) = false := by simp; omega
  have h4 : ¬ n = 0 := by omega
  go_enter Tryz.func105, Tryz.ntmps105
  go_wp2
  all_goals first | (go_ret; exact ⟨rfl, below_al bR _⟩) | (exfalso; omega)
 ·go_enter Tryz.func105, Tryz.ntmps105
  go_wp2
  all_goals first | (go_ret; exact ⟨rfl, below_al bR _⟩) | (exfalso; omega)

theorem check_no (m : Int) (h : 0 < m) (w : World) :
  Calls Tryz.prog 105 #[.agg #[.int .u32 0, .int .u32 m]] w fun e w' => e = .returned (.int .i64 2) ∧ Below w.heap.size w w' := by
 go_enter Tryz.func105, Tryz.ntmps105
 go_wp2
 all_goals first | (go_ret; exact ⟨rfl, below_al bR _⟩) | (exfalso; omega)

theorem box2_all {w W' : World} {t : TypeId} {x y : Value} (hb : Below (w.alloc (.cells #[x, y] t)).heap.size (w.alloc (.cells #[x, y] t)) W') : W'.cell? ⟨w.heap.size, 0, none⟩ = some x ∧ W'.cell? ⟨w.heap.size, 1, none⟩ = some y :=
 ⟨(hb.cell (p := ⟨w.heap.size, 0, none⟩) (by simp)).trans (by simp), (hb.cell (p := ⟨w.heap.size, 1, none⟩) (by simp)).trans (by simp)⟩

end Go.Proofs.YtiahakbkagipkaaGreatDoor
