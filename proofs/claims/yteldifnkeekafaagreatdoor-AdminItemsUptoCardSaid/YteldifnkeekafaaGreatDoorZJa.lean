/- Joined texts. -/
import Derived.Test.YteldifnkeekafaaGreatDoorRows
import Derived.WalkKit
import Derived.WalkSpells
import Derived.WalkLawsBesides
import Derived.Lib.Hide
import Derived.Shelf.Abstract
import Derived.Deep.OwnRows
import Derived.Laws.BytesArg
import Derived.WalkMore
import Derived.ScopeJumps
import Derived.Deep.RegionHeld
import Derived.RangeFuncNested
import Derived.RangeFuncBound
import Derived.RangeFuncCalls
import Derived.RangeFuncLeaves
import Derived.OwnWalkIn
import Derived.TacticsInMore
import Derived.LoopNIn
import Derived.LoopIn
set_option maxHeartbeats 1000000
namespace Go.Proofs.YteldifnkeekafaaGreatDoor
open Go.RowKit Go.Shelf

/-- A number of 64 bits. -/
def U64 (n : Int) : Prop := 0 ≤ n ∧ n < 18446744073709551616

theorem U64.div (n : Int) (h : U64 n) : (n / 18446744073709551616 == 0) = true := by
 unfold U64 at h
 have : n / 18446744073709551616 = 0 := by omega
 simp [this]

/-- One step more, of a call. -/
theorem below_on {a b c : World} (h : Below a.heap.size a b) (k : Below b.heap.size b c) : Below a.heap.size a c := h.trans (k.mono h.size)
/-- One step more, of a new block. -/
theorem below_al {a b : World} (h : Below a.heap.size a b) (o : Obj) : Below a.heap.size a (b.alloc o) := h.alloc h.size o
/-- One step more, of draws. -/
theorem below_dr {a b : World} (h : Below a.heap.size a b) (n : Nat) : Below a.heap.size a (b.drewN n) := ⟨h.os, h.tape, h.output, h.size, h.block⟩

/-- The number of byte k (0 behind the last one). -/
def byteAt (bs : List UInt8) (k : Nat) : Int := ((bs[k]?.getD 0).toNat : Int)

theorem byteAt_lo (bs : List UInt8) (k : Nat) : 0 ≤ byteAt bs k := by unfold byteAt; omega
theorem byteAt_hi (bs : List UInt8) (k : Nat) : byteAt bs k < 256 := by
 unfold byteAt
 have := UInt8.toNat_lt (bs[k]?.getD 0)
 omega

/-- A slice at address a reads as the bytes bs, in a block below B. -/
def RdB (w : World) (B : Nat) (a : Option Addr) (bs : List UInt8) : Prop :=
 bs = [] ∨ ∃ b o, a = some ⟨b, o, none⟩ ∧ b < B ∧ ∀ j, j < bs.length → w.cell? ⟨b, o + j, none⟩ = some (.int .u8 (byteAt bs j))

theorem RdB.nil (w : World) (B : Nat) (a : Option Addr) : RdB w B a [] := .inl rfl

theorem RdB.below {w w' : World} {B : Nat} {a : Option Addr} {bs : List UInt8} (h : RdB w B a bs) (hb : Below B w w') : RdB w' B a bs := by
 rcases h with h | ⟨b, o, e, hlt, hc⟩
 ·exact .inl h
 ·exact .inr ⟨b, o, e, hlt, fun j hj => (hb.cell (p := ⟨b, o + j, none⟩) hlt).trans (hc j hj)⟩

theorem RdB.mono {w : World} {B B' : Nat} {a : Option Addr} {bs : List UInt8} (h : RdB w B a bs) (hB : B ≤ B') : RdB w B' a bs := by
 rcases h with h | ⟨b, o, e, hlt, hc⟩
 ·exact .inl h
 ·exact .inr ⟨b, o, e, by omega, hc⟩

theorem mk_addr_add (b o j : Nat) : (⟨b, o, none⟩ : Addr).add j = ⟨b, o + j, none⟩ := by
 unfold Addr.add
 split <;> simp_all

/-- The text of bytes. -/
theorem RdB.text {P : Program} {w : World} {B : Nat} {a : Option Addr} {bs : List UInt8} (h : RdB w B a bs) (src dst e : TypeId) (n c : Nat) (hn : n = bs.length)
  (hs : P.underlying src = some (.slice e)) (he : P.underlying e = some (.int .u8)) (hd : P.underlying dst = some .string) :
  (convert src dst (.slice a n c)).run P w = .ok (.string ⟨bs.toArray⟩) w := by
 subst hn
 rcases a with _ | ad
 ·rcases h with rfl | ⟨b, o, e, _⟩
  ·exact run_convert_bytes_nil w src e hs he _ _ dst hd
  ·cases e
 ·refine run_convert_bytes_back w src dst e ad c bs hs he hd fun j hj => ?_
  rcases h with rfl | ⟨b, o, e, hlt, hc⟩
  ·simp at hj
  ·injection e with e
   subst e
   rw [mk_addr_add, hc j hj]
   simp [byteAt, List.getElem?_eq_getElem hj]

theorem RdB.lt {w : World} {B : Nat} {a : Option Addr} {bs : List UInt8} (h : RdB w B a bs) (p : Addr) (hne : bs ≠ []) (hp : a = some p) : p.block < B := by
 rcases h with h | ⟨b, o, e, hlt, _⟩
 ·exact absurd h hne
 ·rw [hp] at e
  cases e
  exact hlt

theorem byteAt_take (bs : List UInt8) (n j : Nat) (h : j < n) : byteAt (bs.take n) j = byteAt bs j := by
 simp [byteAt, h]

theorem byteAt_drop (bs : List UInt8) (n j : Nat) : byteAt (bs.drop n) j = byteAt bs (n + j) := by
 simp [byteAt]

theorem RdB.take {w : World} {B : Nat} {a : Option Addr} {bs : List UInt8} (h : RdB w B a bs) (n : Nat) : RdB w B a (bs.take n) := by
 rcases h with rfl | ⟨b, o, e, hlt, hc⟩
 ·exact .inl (by simp)
 ·refine .inr ⟨b, o, e, hlt, fun j hj => ?_⟩
  simp at hj
  rw [byteAt_take bs n j (by omega)]
  exact hc j (by omega)

/-- A whole own row reads as bytes. -/
theorem RdB.of_row {w : World} {g : Nat} {t : TypeId} {bs : List UInt8} (h : w.rowIs g t bs.length (fun j => .int .u8 (byteAt bs j))) : RdB w w.heap.size (some ⟨g, 0, none⟩) bs :=
 .inr ⟨g, 0, rfl, h.lt, fun j hj => by rw [Nat.zero_add]; exact h.cell hj⟩

theorem ext_bytes {l m : List UInt8} (hl : l.length = m.length) (h : ∀ j, j < l.length → byteAt l j = byteAt m j) : l = m := by
 apply List.ext_getElem hl
 intro j h1 h2
 have := h j h1
 simp only [byteAt, List.getElem?_eq_getElem h1, List.getElem?_eq_getElem h2, Option.getD_some] at this
 exact UInt8.toNat_inj.1 (by omega)

/-- A scope whose jumps go forward, to one label, behind which nothing jumps any more. -/
theorem wp_scope_on {P : Program} {a : Act} {w : World} {Q : Exit → Act → World → Prop} {c rest : Code} (l : Nat) (hf : findLabel c l = some rest)
  (first : c.wp P (Exit.jump l (fun a' w' => rest.wp P (Exit.noGoto Q) a' w') Q) a w) : (Code.scope c).wp P Q a w :=
 wp_scope_jumps l _ (fun _ _ => 0) hf first fun a' w' h => wp_mono h fun e a1 w1 hq => by
  cases e with
  | goto t => exact hq.elim
  | normal => exact hq
  | exit id => exact hq
  | ret => exact hq
  | panic ch => exact hq
  | outgrown => exact hq

section
variable {l : Nat} {J : Act → World → Prop} {Q : Exit → Act → World → Prop} {a : Act} {w : World}
end

end Go.Proofs.YteldifnkeekafaaGreatDoor

namespace Go.Proofs.YteldifnkeekafaaGreatDoor
open Go Go.RowKit Go.Shelf

theorem zA {α : Type} {i : Nat} {a : α} {l : List α} : l.toArray.setIfInBounds i a = (l.set i a).toArray := by simp
theorem zB {α : Type} {x a : α} {l : List α} : (x :: l).set 0 a = a :: l := rfl
theorem zC {α : Type} {x a : α} {l : List α} {i : Nat} : (x :: l).set (i + 1) a = x :: l.set i a := rfl

theorem bR {n : Nat} {w : World} : Below n w w := Below.refl _ _
theorem h_ {p : Prop} (h : p) : Hid p := Lib.hid h

theorem takeL {P : Program} {l : List Oper} {Q : Exit → Act → World → Prop} {md : Region.Mode} {S : World → Prop} (i : Nat) {oi : Oper} {v : Value} {fuel : Nat} {listed : Array Bool} {a : Act} {w : World}
  (hy : ∀ w, S w → (execOp a.eval oi).run P w = .ok (.value v) w) (hS : S w)
  (h : wpAnyH P md l.toArray Q S fuel (listed.setIfInBounds i true) (a.put oi.dst v) w) (hi : l[i]? = some oi := by rfl)
  (hs : Region.noSelect l.toArray = true := by kernel_rfl) (hf : Region.free md l.toArray listed i = true := by kernel_rfl) (hr : (Region.ready md l.toArray listed).contains i = true := by kernel_rfl)
  (hQ : ∀ c a w, Q (.panic c) (a.put oi.dst v) w → Q (.panic c) a w := by exact fun _ _ _ h => h) (hw : Region.wanted oi (yielded l.toArray a.tmps) = true := by rfl) : wpAnyH P md l.toArray Q S (fuel + 1) listed a w :=
 wpAnyH_take (by simpa using hi) hs hf hr hQ (.inl ⟨hw, hy⟩) hS h

end Go.Proofs.YteldifnkeekafaaGreatDoor

namespace Go.Proofs.YteldifnkeekafaaGreatDoor
open Go.RowKit

def isW (n : Int) : Bool := n == 1 || (n == 2 || (n == 4 || n == 8))

def fits (x n : Int) : Bool := if x = 1 then n / 256 == 0 else if x = 2 then n / 65536 == 0 else if x = 4 then n / 4294967296 == 0 else true

theorem isW_cases {n : Int} (h : isW n = true) : n = 1 ∨ n = 2 ∨ n = 4 ∨ n = 8 := by
 simpa [isW] using h

theorem widths_any (w : World) :
  Calls Tryz.prog 125 #[] w fun e w' => e = .returned (.agg #[.int .i64 1, .int .i64 2, .int .i64 4, .int .i64 8]) ∧ w' = w.alloc (.cells #[.int .i64 1, .int .i64 2, .int .i64 4, .int .i64 8] 168) := by
 go_enter Tryz.func125, Tryz.ntmps125
 go_wp2
 refine bodyPost_ret (v := .agg #[.int .i64 1, .int .i64 2, .int .i64 4, .int .i64 8]) (by simp [results, Tryz.results125, go_sem]) rfl ⟨rfl, rfl⟩

theorem rightC_any (x y : Int) (p : Addr) (w : World) (h : w.cell? p = some (.int .i64 y)) :
  Calls Tryz.prog 142 #[.int .i64 x, .pointer (some p)] w fun e w' => e = .returned (.bool (x == y)) ∧ w = w' := by
 go_enter Tryz.func142, Tryz.ntmps142
 go_wp2
 go_ret
 exact ⟨rfl, rfl⟩

theorem says_any (x n : Int) (w : World) (hx : isW x = true) (hn : U64 n) :
  Calls Tryz.prog 127 #[.int .i64 x, .int .u64 n] w fun e w' => e = .returned (.bool (fits x n)) ∧ w = w' := by
 rcases isW_cases hx with rfl | rfl | rfl | rfl <;> clear hx
 ·clear hn
  go_enter Tryz.func127, Tryz.ntmps127
  go_wp2
  go_ret
  exact ⟨rfl, rfl⟩
 ·clear hn
  go_enter Tryz.func127, Tryz.ntmps127
  go_wp2
  go_ret
  exact ⟨rfl, rfl⟩
 ·clear hn
  go_enter Tryz.func127, Tryz.ntmps127
  go_wp2
  go_ret
  exact ⟨rfl, rfl⟩
 ·have H := h_ (hn.div)
  clear hn
  go_enter Tryz.func127, Tryz.ntmps127
  go_wp2
  go_ret
  exact ⟨congrArg (fun b => Ending.returned (.bool b)) H.out, rfl⟩

theorem leastC_any (x n : Int) (p : Addr) (w : World) (hx : isW x = true) (hn : U64 n) (h : w.cell? p = some (.int .u64 n)) :
  Calls Tryz.prog 126 #[.int .i64 x, .pointer (some p)] w fun e w' => e = .returned (.bool (fits x n)) ∧ w = w' := by
 have Hx := h_ hx
 have Hn := h_ hn
 clear hx hn
 go_enter Tryz.func126, Tryz.ntmps126
 go_wp2_with (go_at_call 127; refine (says_any _ _ _ Hx.out Hn.out).mono ?_; rintro e w' ⟨rfl, rfl⟩)
 go_ret
 exact ⟨rfl, rfl⟩

def firstW (b1 b2 b4 b8 : Bool) : Int := if b1 then 1 else if b2 then 2 else if b4 then 4 else if b8 then 8 else 0

set_option maxRecDepth 100000 in
theorem first_any (g : Nat) (q : Addr) (b1 b2 b4 b8 : Bool) (w : World) (eg : ∀ args w, (callFunc g args).run Tryz.prog w = .ok (.enter g args) w)
  (hg : ∀ w', Below w.heap.size w w' →
   Calls Tryz.prog g #[.int .i64 1, .pointer (some q)] w' (fun e w'' => e = .returned (.bool b1) ∧ w' = w'') ∧
   Calls Tryz.prog g #[.int .i64 2, .pointer (some q)] w' (fun e w'' => e = .returned (.bool b2) ∧ w' = w'') ∧
   Calls Tryz.prog g #[.int .i64 4, .pointer (some q)] w' (fun e w'' => e = .returned (.bool b4) ∧ w' = w'') ∧
   Calls Tryz.prog g #[.int .i64 8, .pointer (some q)] w' (fun e w'' => e = .returned (.bool b8) ∧ w' = w'')) :
  Calls Tryz.prog 124 #[.agg #[.int .i64 1, .int .i64 2, .int .i64 4, .int .i64 8], .func (.func g) #[] #[.pointer (some q)]] w fun e w' =>
   e = .returned (.tuple #[.int .i64 (firstW b1 b2 b4 b8), .bool (b1 || (b2 || (b4 || b8)))]) ∧ Below w.heap.size w w' := by
 have i0 : ∀ w : World, (Instr.index 168 (.agg #[.int .i64 1, .int .i64 2, .int .i64 4, .int .i64 8]) (.int .i64 0)).run Tryz.prog w = .ok (.int .i64 1) w := fun _ => by kernel_rfl
 have i1 : ∀ w : World, (Instr.index 168 (.agg #[.int .i64 1, .int .i64 2, .int .i64 4, .int .i64 8]) (.int .i64 1)).run Tryz.prog w = .ok (.int .i64 2) w := fun _ => by kernel_rfl
 have i2 : ∀ w : World, (Instr.index 168 (.agg #[.int .i64 1, .int .i64 2, .int .i64 4, .int .i64 8]) (.int .i64 2)).run Tryz.prog w = .ok (.int .i64 4) w := fun _ => by kernel_rfl
 have i3 : ∀ w : World, (Instr.index 168 (.agg #[.int .i64 1, .int .i64 2, .int .i64 4, .int .i64 8]) (.int .i64 3)).run Tryz.prog w = .ok (.int .i64 8) w := fun _ => by kernel_rfl
 have hb : Below w.heap.size w (w.alloc (.cells #[.int .i64 1, .int .i64 2, .int .i64 4, .int .i64 8] 168)) := bR.alloc (Nat.le_refl _) _
 have H := h_ (hg _ hb)
 clear hg
 go_enter Tryz.func124, Tryz.ntmps124
 go_wp2
 go_loop [10] (fun i => ∃ k : Nat, k ≤ 4 ∧ i = .int .i64 k ∧ (1 ≤ k → b1 = false) ∧ (2 ≤ k → b2 = false) ∧ (3 ≤ k → b4 = false) ∧ (4 ≤ k → b8 = false)) (fun i => 4 - (intOf i).toNat)
 case atStart => exact ⟨0, Nat.zero_le _, rfl, by omega, by omega, by omega, by omega⟩
 case round =>
  obtain ⟨k, hk, rfl, hp1, hp2, hp3, hp4⟩ := hrel
  have hk5 : k = 0 ∨ k = 1 ∨ k = 2 ∨ k = 3 ∨ k = 4 := by omega
  rcases hk5 with rfl | rfl | rfl | rfl | rfl
  ·clear hp1 hp2 hp3 hp4
   cases b1
   ·go_wp2_with fail
    refine (H.out.1).mono ?_
    rintro e w' ⟨rfl, rfl⟩
    go_wp2
    go_round
    case rel => exact ⟨1, by omega, by go_num, by simp, by omega, by omega, by omega⟩
    case measure => simp [intOf]
   ·go_wp2_with fail
    refine (H.out.1).mono ?_
    rintro e w' ⟨rfl, rfl⟩
    go_wp2
    go_ret2
    exact ⟨rfl, hb⟩
  ·obtain rfl := hp1 (by omega)
   clear hp1 hp2 hp3 hp4
   cases b2
   ·go_wp2_with fail
    refine (H.out.2.1).mono ?_
    rintro e w' ⟨rfl, rfl⟩
    go_wp2
    go_round
    case rel => exact ⟨2, by omega, by go_num, by simp, by simp, by omega, by omega⟩
    case measure => simp [intOf]
   ·go_wp2_with fail
    refine (H.out.2.1).mono ?_
    rintro e w' ⟨rfl, rfl⟩
    go_wp2
    go_ret2
    exact ⟨rfl, hb⟩
  ·obtain rfl := hp1 (by omega)
   obtain rfl := hp2 (by omega)
   clear hp1 hp2 hp3 hp4
   cases b4
   ·go_wp2_with fail
    refine (H.out.2.2.1).mono ?_
    rintro e w' ⟨rfl, rfl⟩
    go_wp2
    go_round
    case rel => exact ⟨3, by omega, by go_num, by simp, by simp, by simp, by omega⟩
    case measure => simp [intOf]
   ·go_wp2_with fail
    refine (H.out.2.2.1).mono ?_
    rintro e w' ⟨rfl, rfl⟩
    go_wp2
    go_ret2
    exact ⟨rfl, hb⟩
  ·obtain rfl := hp1 (by omega)
   obtain rfl := hp2 (by omega)
   obtain rfl := hp3 (by omega)
   clear hp1 hp2 hp3 hp4
   cases b8
   ·go_wp2_with fail
    refine (H.out.2.2.2).mono ?_
    rintro e w' ⟨rfl, rfl⟩
    go_wp2
    go_round
    case rel => exact ⟨4, by omega, by go_num, by simp, by simp, by simp, by simp⟩
    case measure => simp [intOf]
   ·go_wp2_with fail
    refine (H.out.2.2.2).mono ?_
    rintro e w' ⟨rfl, rfl⟩
    go_wp2
    go_ret2
    exact ⟨rfl, hb⟩
  ·obtain rfl := hp1 (by omega)
   obtain rfl := hp2 (by omega)
   obtain rfl := hp3 (by omega)
   obtain rfl := hp4 (by omega)
   clear hp1 hp2 hp3 hp4
   go_wp2
   go_ret2
   exact ⟨rfl, hb⟩

theorem cell_box {w w' : World} {v : Value} {t : TypeId} (hb : Below (w.alloc (.cells #[v] t)).heap.size (w.alloc (.cells #[v] t)) w') : w'.cell? ⟨w.heap.size, 0, none⟩ = some v := by
 rw [hb.cell (by simp)]
 simp

end Go.Proofs.YteldifnkeekafaaGreatDoor

namespace Go.Proofs.YteldifnkeekafaaGreatDoor
open Go.RowKit Go.Shelf

theorem isW_turned (x : Int) : ((1 : Int) == x || (2 == x || (4 == x || 8 == x))) = isW x := by
 unfold isW
 rw [BEq.comm (a := (1 : Int)), BEq.comm (a := (2 : Int)), BEq.comm (a := (4 : Int)), BEq.comm (a := (8 : Int))]

theorem right_any (x : Int) (w : World) :
  Calls Tryz.prog 128 #[.int .i64 x] w fun e w' => e = .returned (.bool (isW x)) ∧ Below w.heap.size w w' := by
 have hmf : ∀ (fn : Fn) (first cap : Array Value) (w : World), (Instr.makeFunc fn first cap).run Tryz.prog w = .ok (.func fn first cap) w := fun _ _ _ _ => rfl
 go_enter Tryz.func128, Tryz.ntmps128
 go_wp2_with (go_at_call 125; refine (widths_any _).mono ?_; rintro e w' ⟨rfl, rfl⟩)
 refine (first_any 142 _ (1 == x) (2 == x) (4 == x) (8 == x) _ (enters_of Tryz.func142 (by kernel_rfl) rfl) ?_).mono ?_
 ·intro w' hb
  have hc : w'.cell? ⟨w.heap.size, 0, none⟩ = some (.int .i64 x) := cell_box (Below.trans (bR.alloc (Nat.le_refl _) _) (hb.mono (by simp)))
  exact ⟨rightC_any 1 x _ w' hc, rightC_any 2 x _ w' hc, rightC_any 4 x _ w' hc, rightC_any 8 x _ w' hc⟩
 ·rintro e w1 ⟨rfl, hb⟩
  go_wp2
  go_ret
  exact ⟨congrArg (fun b => Ending.returned (.bool b)) (isW_turned x), ((bR.alloc (Nat.le_refl _) _).alloc (by simp) _).trans (hb.mono (by simp; omega))⟩

def leastOf (n : Int) : Int := firstW (fits 1 n) (fits 2 n) (fits 4 n) (fits 8 n)

theorem least_any (n : Int) (w : World) (hn : U64 n) :
  Calls Tryz.prog 105 #[.int .u64 n] w fun e w' => e = .returned (.int .i64 (leastOf n)) ∧ Below w.heap.size w w' := by
 have hmf : ∀ (fn : Fn) (first cap : Array Value) (w : World), (Instr.makeFunc fn first cap).run Tryz.prog w = .ok (.func fn first cap) w := fun _ _ _ _ => rfl
 have Hn := h_ hn
 clear hn
 go_enter Tryz.func105, Tryz.ntmps105
 go_wp2_with (go_at_call 125; refine (widths_any _).mono ?_; rintro e w' ⟨rfl, rfl⟩)
 refine (first_any 126 _ (fits 1 n) (fits 2 n) (fits 4 n) (fits 8 n) _ (enters_of Tryz.func126 (by kernel_rfl) rfl) ?_).mono ?_
 ·intro w' hb
  have hc : w'.cell? ⟨w.heap.size, 0, none⟩ = some (.int .u64 n) := cell_box (Below.trans (bR.alloc (Nat.le_refl _) _) (hb.mono (by simp)))
  exact ⟨leastC_any 1 n _ w' rfl Hn.out hc, leastC_any 2 n _ w' rfl Hn.out hc, leastC_any 4 n _ w' rfl Hn.out hc, leastC_any 8 n _ w' rfl Hn.out hc⟩
 ·rintro e w1 ⟨rfl, hb⟩
  go_wp2
  go_ret
  exact ⟨rfl, ((bR.alloc (Nat.le_refl _) _).alloc (by simp) _).trans (hb.mono (by simp; omega))⟩

def sb (n : Int) (i : Nat) : Int := n / 2 ^ (8 * i) % 256

set_option maxRecDepth 100000 in
theorem bytes_row (W : Nat) (n : Int) (w : World) (h1 : 1 ≤ W) (h8 : W ≤ 8) :
  Calls Tryz.prog 129 #[.agg #[.int .i64 W, .int .u64 n]] w fun e w' => e = .returned (.slice (some ⟨w.heap.size + 1, 0, none⟩) W W) ∧
   Below w.heap.size w w' ∧ w'.rowIs (w.heap.size + 1) 5 W (fun j => .int .u8 (sb n (W - 1 - j))) := by
 have hmk := fun w : World => run_make_row' (P := Tryz.prog) 22 5 (.int .u8 0) 1 Tryz.underlying22 (by kernel_rfl) rfl .i64 .i64 W (by omega) (by omega) w
 go_enter Tryz.func129, Tryz.ntmps129
 go_wp2
 go_loopw [10] (fun i wr => ∃ k : Nat, k ≤ W ∧ i = .int .i64 k ∧ wr.cell? ⟨w.heap.size, 1, none⟩ = some (.int .u64 n) ∧ Below w.heap.size w wr ∧
   wr.rowIs (w.heap.size + 1) 5 W (fun j => if W - k ≤ j then .int .u8 (sb n (W - 1 - j)) else .int .u8 0)) (fun i _ => W - (intOf i).toNat)
 case atStart =>
  refine ⟨0, Nat.zero_le _, rfl, by simp, (bR.alloc (Nat.le_refl _) _).alloc (by simp) _, ?_⟩
  have hm := World.rowIs_made (w.alloc (.cells #[.int .i64 W, .int .u64 n] 173)) (.int .u8 0) W 5
  rw [World.size_alloc] at hm
  exact hm.congr fun i hi => by rw [if_neg (by omega)]
 case round =>
  obtain ⟨k, hk, rfl, hc, hb, hr⟩ := hrel
  by_cases hlt : k < W
  ·have hcl := hr.cell (i := W - 1 - k) (by omega)
   have hfz := hr.frozen (W - 1 - k)
   have HR := h_ hr
   clear hr
   obtain ⟨v, hv⟩ : ∃ v, wr.cell? ⟨w.heap.size + 1, W - 1 - k, none⟩ = some v := ⟨_, hcl⟩
   clear hcl
   go_wp2
   go_roundw
   case rel =>
    refine ⟨k + 1, by omega, by go_num, ?_, hb.setCell (by simp) _, ?_⟩
    ·rw [World.cell?_setCell_other _ _ _ _ (by simp)]
     exact hc
    ·refine (HR.out.set (W - 1 - k) (.int .u8 (n / 2 ^ (8 * k) % 256))).congr fun j hj => ?_
     by_cases e : j = W - 1 - k
     ·subst e
      rw [if_pos rfl, if_pos (by omega)]
      simp only [sb]
      rw [show W - 1 - (W - 1 - k) = k by omega]
     ·rw [if_neg e]
      by_cases e2 : W - k ≤ j
      ·rw [if_pos e2, if_pos (by omega)]
      ·rw [if_neg e2, if_neg (by omega)]
   case measure => simp [intOf]; omega
  ·obtain rfl : k = W := by omega
   go_wp2
   go_ret
   exact ⟨rfl, hb, hr.congr fun j hj => by rw [if_pos (by omega)]⟩

def beB (W : Nat) (n : Int) : List UInt8 := (List.range W).map fun j => UInt8.ofNat (sb n (W - 1 - j)).toNat

theorem beB_length (W : Nat) (n : Int) : (beB W n).length = W := by simp [beB]

theorem byteAt_beB (W : Nat) (n : Int) (j : Nat) (hj : j < W) : byteAt (beB W n) j = sb n (W - 1 - j) := by
 have h0 : 0 ≤ sb n (W - 1 - j) := Int.emod_nonneg _ (by omega)
 have h1 : sb n (W - 1 - j) < 256 := Int.emod_lt_of_pos _ (by omega)
 simp only [byteAt, beB, List.getElem?_map, List.getElem?_range hj, Option.map_some, Option.getD_some, UInt8.toNat_ofNat']
 omega

theorem cells_box2 {w w' : World} {u v : Value} {t : TypeId} (hb : Below (w.alloc (.cells #[u, v] t)).heap.size (w.alloc (.cells #[u, v] t)) w') :
  w'.cell? ⟨w.heap.size, 0, none⟩ = some u ∧ w'.cell? ⟨w.heap.size, 1, none⟩ = some v := by
 constructor
 ·rw [hb.cell (by simp)]
  simp
 ·rw [hb.cell (by simp)]
  simp

def NewB (w w' : World) (v : Value) (bs : List UInt8) : Prop :=
 ∃ a c, v = .slice a bs.length c ∧ bs.length ≤ c ∧ RdB w' w'.heap.size a bs ∧ (∀ p, a = some p → w.heap.size ≤ p.block)

def PutPost (w : World) (W : Nat) (n : Int) (e : Ending) (w' : World) : Prop :=
 ∃ v, e = .returned (.tuple #[v, .int .i64 0]) ∧ NewB w w' v (beB W n) ∧ Below w.heap.size w w'

set_option maxRecDepth 100000 in
theorem put_ok (W : Nat) (n : Int) (w : World) (hx : isW W = true) (hn : U64 n) (hf : fits W n = true) :
  Calls Tryz.prog 106 #[.int .u64 n, .int .i64 W] w (PutPost w W n) := by
 have hW : 1 ≤ W ∧ W ≤ 8 := by
  have := isW_cases hx
  omega
 have Hn := h_ hn
 have Hx := h_ hx
 clear hn
 go_enter Tryz.func106, Tryz.ntmps106
 go_wp2
 refine wp_scope_on 0 rfl ?_
 go_wp2_with (go_at_call 128; refine (right_any _ _).mono ?_; rintro e w' ⟨rfl, hb⟩; obtain ⟨hc0, hc1⟩ := cells_box2 hb)
 refine (says_any _ _ _ Hx.out Hn.out).mono ?_
 rintro e w2 ⟨rfl, rfl⟩
 go_wp2_with fail
 refine (bytes_row W n _ hW.1 hW.2).mono ?_
 rintro e w3 ⟨rfl, hb3, hr⟩
 go_wp2
 simp only [Exit.jump]
 go_ret2
 have hL := beB_length W n
 refine ⟨_, rfl, ⟨some ⟨w'.heap.size + 1, 0, none⟩, W, by rw [hL]; rfl, by rw [hL]; exact Nat.le_refl _, RdB.of_row ((hL.symm ▸ hr).congr fun j hj => by rw [byteAt_beB W n j (by omega), hL]), ?_⟩, ?_⟩
 ·rintro p ⟨⟩
  have := hb.size
  simp at this ⊢
  omega
 ·exact ((bR.alloc (Nat.le_refl _) _).trans (hb.mono (by simp))).trans (hb3.mono (by have := hb.size; simp at this; omega))

variable {P : Program}

def KeepB (S : Nat → Prop) (W W' : World) : Prop := ∀ b, S b → W'.heap[b]? = W.heap[b]?

theorem KeepB.refl (S : Nat → Prop) (W : World) : KeepB S W W := fun _ _ => rfl
theorem KeepB.trans {S : Nat → Prop} {A B C : World} (h : KeepB S A B) (k : KeepB S B C) : KeepB S A C := fun b hb => (k b hb).trans (h b hb)
theorem keepB_below {n0 : Nat} {A B : World} (h : Below n0 A B) : KeepB (· < n0) A B := h.block
theorem KeepB.setCell {S : Nat → Prop} {A B : World} (h : KeepB S A B) {p : Addr} (hp : ¬ S p.block) (u : Value) : KeepB S A (B.setCell p u) :=
 fun b hb => (Below.heap_setCell B p u b (fun e => hp (e ▸ hb))).trans (h b hb)
theorem KeepB.grown {S : Nat → Prop} {A B C : World} {row : Option Nat} (h : KeepB S A B) (hS : ∀ b, S b → b < B.heap.size) (hg : B.grownBy C row) (hr : ∀ r, row = some r → ¬ S r) : KeepB S A C :=
 fun b hb => (hg.block b (hS b hb) (fun e => hr b e.symm hb)).trans (h b hb)

def Goes (P : Program) (g : FuncId) (lb : Array Value) (enc : Nat → Array Value) (S : Nat → Prop) (N : Nat) (w : World) : Prop :=
 ∀ (l : Nat) (J Jx : Nat → World → Prop) (W : World), Below w.heap.size w W → AbidesFrom W.heap.size J → AbidesFrom W.heap.size Jx →
  (∀ k W1, k < N → J k W1 → YieldAt Fence.wide 9 P l (enc k) W1 fun e W' => (e = .returned (.bool true) ∧ J (k + 1) W' ∧ KeepB S W1 W') ∨ (e = .returned (.bool false) ∧ Jx k W')) →
  J 0 W → CallsIn Fence.wide 10 P g (#[.func (.yield l) #[] #[]] ++ lb) W fun e W' => (∃ v, e = .returned v) ∧ (J N W' ∨ ∃ k, k < N ∧ Jx k W')

def roundEnds (B : Nat) (S : Nat → Prop) (I : Nat → World → Prop) (Ix : Code → Nat → World → Prop) (k : Nat) (W : World) : Exit → Act → World → Prop
 | .normal, _, W' => KeepsFrom B W W' ∧ KeepB S W W' ∧ I (k + 1) W'
 | .ret, _, W' => KeepsFrom B W W' ∧ Ix .ret k W'
 | .exit id, _, W' => KeepsFrom B W W' ∧ Ix (.exit id) k W'
 | .goto t, _, W' => KeepsFrom B W W' ∧ Ix (.goto t) k W'
 | .panic _, _, _ => False
 | .outgrown, _, _ => False

theorem not_walk_cells {A : World} {B C : Nat} {row : Option Nat} (hBC : B ≤ C) (h : ∀ r, row = some r → C ≤ r ∧ ∃ o : Obj, A.heap[r]? = some o ∧ o.isWalk = true) :
  ∀ r, row = some r → B ≤ r ∧ ∃ o : Obj, A.heap[r]? = some o ∧ o.isCells = false := fun r e => by
 obtain ⟨h1, o, ho, hw⟩ := h r e
 exact ⟨Nat.le_trans hBC h1, o, ho, Obj.not_cells_of_walk hw⟩

theorem kept_noncells {A A' : World} {row : Option Nat} {i : Nat} {o : Obj} (hg : A.grownBy A' row) (hr : ∀ r, row = some r → ∃ o : Obj, A.heap[r]? = some o ∧ o.isWalk = true) (h : A.heap[i]? = some o) (ho : o.isWalk = false) : A'.heap[i]? = some o := by
 refine (hg.block i (Array.getElem?_eq_some_iff.1 h).1 ?_).trans h
 intro e
 obtain ⟨o', ho', hw⟩ := hr i e.symm
 rw [h] at ho'
 cases ho'
 rw [ho] at hw
 cases hw

theorem wp_rangeGoes {g : Operand} {ps : Array Tmp} {assign body : Code} {Q : Exit → Act → World → Prop} {a : Act} {w : World} {gf : Nat} {lb : Array Value}
  (hg : a.eval g = .func (.func gf) #[] lb) (eg : ∀ args w, (callFunc gf args).run P w = .ok (.enter gf args) w)
  {enc : Nat → Array Value} {S : Nat → Prop} {N : Nat} (hseq : Goes P gf lb enc S N w) (hS : ∀ b, S b → b < w.heap.size) (hps : ∀ k, (enc k).size = ps.size)
  (I : Nat → World → Prop) (Ix : Code → Nat → World → Prop) (hI : OwnFrom w.heap.size I) (hIx : ∀ c, OwnFrom w.heap.size (Ix c)) (h0 : I 0 w)
  (Ax : Nat → Act → World → Prop) (hAx : ∀ k a', OwnFrom w.heap.size (fun (_ : Unit) W => Ax k a' W))
  (hassign : ∀ (l k : Nat) (W : World) (K : Act → World → Prop), k < N → I k W → (∀ a' W', KeepsFrom w.heap.size W W' → KeepB S W W' → I k W' → Ax k a' W' → K a' W') →
   assign.wpIn (Fence.wide.inRound l) 9 P (Exit.then K (fun _ _ _ => False)) { tmps := (ps.zip (enc k)).foldl (fun t (p, v) => t.setIfInBounds p v) a.tmps, defers := [] } W)
  (hbody : ∀ (l k : Nat) (a' : Act) (W : World), k < N → w.heap.size ≤ l → (∃ r, W.heap[l]? = some (.loop r)) → I k W → Ax k a' W → body.wpIn (Fence.wide.inRound l) 9 P (roundEnds w.heap.size S I Ix k W) a' W)
  (hdone : ∀ (D : Nat) (W : World), w.heap.size ≤ D → I N W → W.heap[D]? = some (.deferred (some [])) → Q .normal { a with defers := { target := .collected D, args := #[] } :: a.defers } W)
  (hstop : ∀ (D : Nat) (c : Code) (k : Nat) (W : World), w.heap.size ≤ D → k < N → Ix c k W → W.heap[D]? = some (.deferred (some [])) → c.wp P Q { a with defers := { target := .collected D, args := #[] } :: a.defers } W) :
  (Code.rangeFunc g ps assign body).wp P Q a w := by
 refine (wpIn_wide (n := 11)).1 (wpIn_rangeFunc fun fn hfn => ?_)
 let rec0 : LoopState → Option Code → Loop := fun st pe => { state := st, pending := pe, fn, tmps := a.tmps, params := ps, assign, body, defers := w.heap.size }
 obtain ⟨W1, hW1⟩ : ∃ W1, (w.alloc (.deferred (some []))).alloc (.loop (rec0 .ready none)) = W1 := ⟨_, rfl⟩
 have hb1 : Below w.heap.size w W1 := by rw [← hW1]; exact ((Below.refl _ w).alloc (Nat.le_refl _) _).alloc (by simp) _
 have hsz : W1.heap.size = w.heap.size + 2 := by rw [← hW1]; simp
 have hL1 : W1.heap[w.heap.size + 1]? = some (.loop (rec0 .ready none)) := by
  rw [← hW1]
  have := World.alloc_heap_new (w.alloc (.deferred (some []))) (.loop (rec0 .ready none))
  rwa [World.size_alloc] at this
 have hD1 : W1.heap[w.heap.size]? = some (.deferred (some [])) := by
  rw [← hW1]
  exact (Below.heap_alloc _ _ _ (by simp)).trans (World.alloc_heap_new w _)
 have hI1 : I 0 W1 := by rw [← hW1]; exact hI.alloc _ (hI.alloc _ h0)
 refine ⟨w.heap.size + 1, [{ target := .collected w.heap.size, args := #[] }], W1, { target := .fn (.func gf) lb, args := #[.func (.yield (w.heap.size + 1)) #[] #[]] }, W1, gf,
  #[.func (.yield (w.heap.size + 1)) #[] #[]] ++ lb, W1, ?_, ?_, fun _ _ => trivial, ?_, fun h => by simp [Fence.wide] at h, ?_⟩
 ·rw [← hW1]
  exact run_enterLoop_outer _ _ _ _ _
 ·simp only [resolve, hg]
  simp [go_sem]
 ·simp [invoke, go_sem, eg]
 have keepL : ∀ {A A' : World} {row : Option Nat} {st : LoopState} {pe : Option Code}, A.grownBy A' row → (∀ r, row = some r → W1.heap.size ≤ r ∧ ∃ o : Obj, A.heap[r]? = some o ∧ o.isWalk = true) →
   A.heap[w.heap.size + 1]? = some (.loop (rec0 st pe)) → A.heap[w.heap.size]? = some (.deferred (some [])) →
   A'.heap[w.heap.size + 1]? = some (.loop (rec0 st pe)) ∧ A'.heap[w.heap.size]? = some (.deferred (some [])) := fun hg' hr h1 h2 =>
  ⟨kept_noncells hg' (fun r e => (hr r e).2) h1 rfl, kept_noncells hg' (fun r e => (hr r e).2) h2 rfl⟩
 refine (hseq (w.heap.size + 1)
  (fun k W => I k W ∧ W.heap[w.heap.size + 1]? = some (.loop (rec0 .ready none)) ∧ W.heap[w.heap.size]? = some (.deferred (some [])))
  (fun k W => ∃ c, Ix c k W ∧ W.heap[w.heap.size + 1]? = some (.loop (rec0 .done (some c))) ∧ W.heap[w.heap.size]? = some (.deferred (some [])))
  W1 hb1 (fun s A A' row hs hg' hr => ⟨hI s A A' row hs.1 hg' (not_walk_cells (by omega) hr), keepL hg' hr hs.2.1 hs.2.2⟩)
  (fun s A A' row hs hg' hr => by
   obtain ⟨c, hc, h1, h2⟩ := hs
   exact ⟨c, hIx c s A A' row hc hg' (not_walk_cells (by omega) hr), keepL hg' hr h1 h2⟩) ?_ ⟨hI1, hL1, hD1⟩).mono ?_
 ·rintro k W hk ⟨hi, hl, hd⟩
  refine ⟨fn, _, assign, body, run_yield (P := P) (args := enc k) hl (hps k), roundIn_of_wpIn (n := 9) hfn (hassign _ k W _ hk hi ?_)⟩
  intro a' Wa hka hba hia hax
  have hla := hka.same _ _ (by omega) hl rfl
  have hda := hka.same _ _ (Nat.le_refl _) hd rfl
  have hlt : w.heap.size + 1 < Wa.heap.size := (Array.getElem?_eq_some_iff.1 hla).1
  refine ⟨_, run_beginRound hla rfl, ?_⟩
  have hl2 : (Wa.putObj (w.heap.size + 1) (.loop { rec0 .ready none with state := .busy })).heap[w.heap.size + 1]? = some (.loop { rec0 .ready none with state := .busy }) := World.putObj_heap_same hlt
  have hd2 : (Wa.putObj (w.heap.size + 1) (.loop { rec0 .ready none with state := .busy })).heap[w.heap.size]? = some (.deferred (some [])) := (World.putObj_heap_other (by omega)).trans hda
  refine wpIn_mono (hbody _ k a' _ hk (by omega) ⟨_, hl2⟩ (hI.putObj _ hia (by omega) hla rfl) ((hAx k a').putObj (s := ()) _ hax (by omega) hla rfl)) ?_
  have put : ∀ (A : World) (o : Obj), KeepB S A (A.putObj (w.heap.size + 1) o) := fun A o b hb => World.putObj_heap_other (by have := hS b hb; omega)
  have fin : ∀ (jump : Option Code) (W3 : World), KeepsFrom w.heap.size (Wa.putObj (w.heap.size + 1) (.loop { rec0 .ready none with state := .busy })) W3 →
    (Instr.endRound (w.heap.size + 1) jump).run P W3 = .ok (.bool jump.isNone) (W3.putObj (w.heap.size + 1) (.loop (rec0 (if jump.isNone then .ready else .done) jump))) ∧
    W3.heap[w.heap.size + 1]? = some (.loop { rec0 .ready none with state := .busy }) ∧
    (W3.putObj (w.heap.size + 1) (.loop (rec0 (if jump.isNone then .ready else .done) jump))).heap[w.heap.size + 1]? = some (.loop (rec0 (if jump.isNone then .ready else .done) jump)) ∧
    (W3.putObj (w.heap.size + 1) (.loop (rec0 (if jump.isNone then .ready else .done) jump))).heap[w.heap.size]? = some (.deferred (some [])) := fun jump W3 hk3 => by
   have hl3 := hk3.same _ _ (by omega) hl2 rfl
   exact ⟨run_endRound (P := P) jump hl3, hl3, World.putObj_heap_same (Array.getElem?_eq_some_iff.1 hl3).1, (World.putObj_heap_other (by omega)).trans (hk3.same _ _ (Nat.le_refl _) hd2 rfl)⟩
  rintro e a3 W3 hp
  cases e with
  | normal =>
   obtain ⟨hk3, hb3, hi3⟩ := hp
   obtain ⟨hr, hl3, hl4, hd4⟩ := fin none W3 hk3
   exact ⟨_, _, hr, .inl ⟨rfl, ⟨hI.putObj _ hi3 (by omega) hl3 rfl, hl4, hd4⟩, ((hba.trans (put _ _)).trans hb3).trans (put _ _)⟩⟩
  | ret =>
   obtain ⟨hr, hl3, hl4, hd4⟩ := fin (some .ret) W3 hp.1
   exact ⟨_, _, hr, .inr ⟨rfl, .ret, (hIx _).putObj _ hp.2 (by omega) hl3 rfl, hl4, hd4⟩⟩
  | exit id =>
   obtain ⟨hr, hl3, hl4, hd4⟩ := fin (some (.exit id)) W3 hp.1
   exact ⟨_, _, hr, .inr ⟨rfl, .exit id, (hIx _).putObj _ hp.2 (by omega) hl3 rfl, hl4, hd4⟩⟩
  | goto t =>
   obtain ⟨hr, hl3, hl4, hd4⟩ := fin (some (.goto t)) W3 hp.1
   exact ⟨_, _, hr, .inr ⟨rfl, .goto t, (hIx _).putObj _ hp.2 (by omega) hl3 rfl, hl4, hd4⟩⟩
  | panic ch => exact hp.elim
  | outgrown => exact hp.elim
 ·rintro e W2 ⟨⟨v, rfl⟩, ⟨hi, hl, hd⟩ | ⟨k, hk, c, hi, hl, hd⟩⟩
  ·exact ⟨none, _, run_endLoop (P := P) hl (by simp [rec0]), hdone _ _ (Nat.le_refl _) (hI.putObj _ hi (by omega) hl rfl) ((World.putObj_heap_other (by omega)).trans hd)⟩
  ·exact ⟨some c, _, run_endLoop (P := P) hl (by simp [rec0]), wpIn_wide.2 (hstop _ c k _ (Nat.le_refl _) hk ((hIx c).putObj _ hi (by omega) hl rfl) ((World.putObj_heap_other (by omega)).trans hd))⟩

theorem wp_rangeGoes_plain {g : Operand} {ps : Array Tmp} {assign body : Code} {Q : Exit → Act → World → Prop} {a : Act} {w : World} {gf : Nat} {lb : Array Value}
  (hg : a.eval g = .func (.func gf) #[] lb) (eg : ∀ args w, (callFunc gf args).run P w = .ok (.enter gf args) w)
  {enc : Nat → Array Value} {S : Nat → Prop} {N : Nat} (hseq : Goes P gf lb enc S N w) (hS : ∀ b, S b → b < w.heap.size) (hps : ∀ k, (enc k).size = ps.size)
  (I : Nat → World → Prop) (Ix : Code → Nat → World → Prop) (hI : OwnFrom w.heap.size I) (hIx : ∀ c, OwnFrom w.heap.size (Ix c)) (h0 : I 0 w) (F : Nat → Act)
  (hassign : ∀ (l k : Nat) (W : World) (K : Act → World → Prop), K (F k) W →
   assign.wpIn (Fence.wide.inRound l) 9 P (Exit.then K (fun _ _ _ => False)) { tmps := (ps.zip (enc k)).foldl (fun t (p, v) => t.setIfInBounds p v) a.tmps, defers := [] } W)
  (hbody : ∀ (l k : Nat) (W : World), k < N → w.heap.size ≤ l → (∃ r, W.heap[l]? = some (.loop r)) → I k W → body.wpIn (Fence.wide.inRound l) 9 P (roundEnds w.heap.size S I Ix k W) (F k) W)
  (hdone : ∀ (D : Nat) (W : World), w.heap.size ≤ D → I N W → W.heap[D]? = some (.deferred (some [])) → Q .normal { a with defers := { target := .collected D, args := #[] } :: a.defers } W)
  (hstop : ∀ (D : Nat) (c : Code) (k : Nat) (W : World), w.heap.size ≤ D → k < N → Ix c k W → W.heap[D]? = some (.deferred (some [])) → c.wp P Q { a with defers := { target := .collected D, args := #[] } :: a.defers } W) :
  (Code.rangeFunc g ps assign body).wp P Q a w :=
 wp_rangeGoes hg eg hseq hS hps I Ix hI hIx h0 (fun k a' _ => a' = F k) (fun _ _ _ _ _ _ h _ _ => h)
  (fun l k W K _ hi hK => hassign l k W K (hK _ _ (KeepsFrom.refl _ _) (KeepB.refl _ _) hi rfl))
  (fun l k a' W hk hl hr hi e => by subst e; exact hbody l k W hk hl hr hi) hdone hstop

theorem calls_of_marks {f : FuncId} {fn : Func} {c : Code} {args : Array Value} {w : World} {R : Ending → World → Prop} (hf : P.funcs[f]? = some fn) (hb : fn.body = some c)
  (h : c.wp P (bodyPostM Fence.wide 9 P fn R) { tmps := args ++ Array.replicate (fn.ntmps - args.size) undef, defers := [] } w) : Calls P f args w R :=
 callsIn_wide.1 (callsIn_of_wp_marks (n := 9) hf hb trivial (wpIn_wide.2 h))

theorem marks_none {fn : Func} {R : Ending → World → Prop} {tmps : Array Value} {w : World} {v : Value} (hr : (results fn tmps).run P w = .ok v w) (hR : R (.returned v) w) :
  bodyPostM Fence.wide 9 P fn R .ret { tmps := tmps, defers := [] } w := ⟨v, hr, hR⟩

theorem marks_one {fn : Func} {R : Ending → World → Prop} {tmps : Array Value} {w : World} {v : Value} {D : Nat} (hD : w.heap[D]? = some (.deferred (some [])))
  (hr : (results fn tmps).run P (w.putObj D (.deferred none)) = .ok v (w.putObj D (.deferred none))) (hR : R (.returned v) (w.putObj D (.deferred none))) :
  bodyPostM Fence.wide 9 P fn R .ret { tmps := tmps, defers := [{ target := .collected D, args := #[] }] } w :=
 ⟨by simp, .inl ⟨_, _, rfl, run_takeDeferred hD, v, hr, hR⟩⟩

end Go.Proofs.YteldifnkeekafaaGreatDoor
