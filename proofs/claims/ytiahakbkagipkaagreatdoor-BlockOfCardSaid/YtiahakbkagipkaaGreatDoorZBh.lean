/- Joined texts. -/
import Derived.Test.YtiahakbkagipkaaGreatDoorZKs
import Derived.Test.YtiahakbkagipkaaGreatDoorZBg
import Derived.ChangeMaps5
set_option maxHeartbeats 2000000
set_option linter.unusedSimpArgs false
set_option linter.unusedVariables false
set_option maxRecDepth 100000
namespace Go.Proofs.YtiahakbkagipkaaGreatDoor
open Go Go.RowKit Go.Shelf

attribute [local go_sem] Oper.semAt_some

def uAtB (zs : List Int) (k : Nat) : Int := zs[k]?.getD 0

theorem allU_goes (Bs : Nat) (S : Nat → Prop) (A : Option Addr) (C : Nat) (l : List Int) (w : World) (hlen : l.length ≤ 140737488355328) (hBs : Bs < w.heap.size) (hS : ∀ p, A = some p → S p.block) (hSw : ∀ b, S b → b < w.heap.size)
  (hc : w.cell? ⟨Bs, 0, none⟩ = some (.slice A l.length C)) (hr : RdU w w.heap.size A l) :
  GoesO Tryz.prog 94 #[.pointer (some ⟨Bs, 0, none⟩)] (fun k => #[.int .i64 (k : Nat), .int .u64 (uAtB l k)]) S l.length w := by
 intro L J Jx W hW hJ hJx hY h0
 have hcW := (hW.cell (p := ⟨Bs, 0, none⟩) hBs).trans hc
 have hWS := hW.size
 have HR : Hid (RdU W W.heap.size A l) := by
  have h := hr.below hW
  rcases h with h | ⟨b, o, e, hlt, hc⟩
  ·exact .inl h
  ·exact .inr ⟨b, o, e, Nat.lt_of_lt_of_le hlt hW.size, hc⟩
 clear hc hr hW
 refine (callsIn_wide (n := 10)).1 (callsIn_of_wp Tryz.func94 rfl trivial ?_ rfl)
 simp only [Tryz.ntmps94, List.size_toArray, List.length_cons, List.length_nil, Nat.reduceAdd, Nat.reduceSub, Array.replicate_succ, Array.replicate_zero, List.push_toArray, List.append_toArray, List.nil_append, List.cons_append]
 gi_wp2
 gi_loopw [7] (fun i wr => ∃ k : Nat, k ≤ l.length ∧ i = .int .i64 k ∧ J k wr ∧ KeepB S W wr ∧ W.heap.size ≤ wr.heap.size) (fun i _ => l.length - (intOf i).toNat)
 case atStart => exact ⟨0, Nat.zero_le _, rfl, h0, KeepB.refl _ _, Nat.le_refl _⟩
 case round =>
  obtain ⟨k, hk, rfl, hJs, hnx, hsz⟩ := hrel
  by_cases hlt : k < l.length
  ·obtain ⟨g, o, rfl, hg, c0⟩ : ∃ g o, A = some ⟨g, o, none⟩ ∧ g < W.heap.size ∧ W.cell? ⟨g, o + k, none⟩ = some (.int .u64 (uAtB l k)) := by
     rcases HR.out with h | ⟨b, o, e, hb, hc⟩
     ·rw [h] at hlt
      simp at hlt
     ·exact ⟨b, o, e, hb, hc k hlt⟩
   have hblk := hnx g (hS _ rfl)
   have x0 := (World.cell?_of_block (a := ⟨g, o + k, none⟩) hblk).trans c0
   obtain ⟨fn, tmps, assign, body, hy, hR⟩ := hY k wr hlt hJs hsz
   have HBK := h_ hnx
   have HSZ := h_ hsz
   clear c0 hblk hnx
   gi_wp2
   refine hR.mono ?_
   rintro e W3 (⟨rfl, hJ3, hz3, hk3⟩ | ⟨rfl, hJx3, _, _⟩)
   ·have HBK3 : Hid (KeepB S W W3) := fun b hb => (hk3 b (.inl hb)).trans (HBK.out b hb)
    have HSZ3 : Hid (W.heap.size ≤ W3.heap.size) := Nat.le_trans HSZ.out hz3
    clear hk3 hz3
    gi_wp2
    go_roundw
    case rel => exact ⟨k + 1, by omega, by simp, hJ3, HBK3.out, HSZ3.out⟩
    case measure => simp [intOf]; omega
   ·gi_wp2
    refine bodyPost_ret (results_none rfl _ _ _) rfl ?_
    exact ⟨⟨_, rfl⟩, .inr ⟨k, hlt, hJx3⟩⟩
  ·obtain rfl : k = l.length := by omega
   gi_wp2
   go_end0
   exact ⟨⟨_, rfl⟩, .inl hJs⟩

end Go.Proofs.YtiahakbkagipkaaGreatDoor

namespace Go.Proofs.YtiahakbkagipkaaGreatDoor
open Go Go.RowKit Go.Shelf
open Go.ChangeMaps (setBlock heap_setBlock_same heap_setBlock_other)

def kdF (ks : List Nat) (b : Bl) : List Nat := if b.t ∈ ks then ks else ks ++ [b.t]
def kdsT (l : List Bl) : List Nat := l.foldl kdF []
def cntT (l : List Bl) (t : Nat) : Nat := (l.filter fun b => b.t == t).length

theorem kdsT_step {l : List Bl} {k : Nat} (h : k < l.length) : kdsT (l.take (k + 1)) = kdF (kdsT (l.take k)) l[k] := by
 rw [List.take_succ_eq_append_getElem h, kdsT, List.foldl_append]
 rfl
theorem cntT_step {l : List Bl} {k : Nat} (h : k < l.length) (t : Nat) : cntT (l.take (k + 1)) t = cntT (l.take k) t + (if l[k].t = t then 1 else 0) := by
 rw [List.take_succ_eq_append_getElem h, cntT, List.filter_append, List.length_append]
 congr 1
 by_cases e : l[k].t = t
 ·simp [e]
 ·simp [e]
theorem kdF_len : ∀ (l : List Bl) (ks : List Nat), (l.foldl kdF ks).length ≤ ks.length + l.length
 | [], ks => by simp
 | b :: r, ks => by
  have h := kdF_len r (kdF ks b)
  have h2 : (kdF ks b).length ≤ ks.length + 1 := by unfold kdF; split <;> simp
  simp only [List.foldl_cons, List.length_cons]
  omega
theorem kdsT_len (l : List Bl) : (kdsT l).length ≤ l.length := by
 have := kdF_len l []
 simpa [kdsT] using this
theorem kdF_nodup : ∀ (l : List Bl) (ks : List Nat), ks.Nodup → (l.foldl kdF ks).Nodup
 | [], ks, h => h
 | b :: r, ks, h => by
  refine kdF_nodup r (kdF ks b) ?_
  unfold kdF
  split
  ·exact h
  ·rename_i hn
   refine List.nodup_append.2 ⟨h, by simp, fun a ha c hc e => ?_⟩
   simp only [List.mem_singleton] at hc
   subst hc
   subst e
   exact hn ha
theorem kdsT_nodup (l : List Bl) : (kdsT l).Nodup := kdF_nodup l [] (by simp)
theorem cntT_zero {l : List Bl} {t : Nat} (h : ∀ b ∈ l, b.t ≠ t) : cntT l t = 0 := by
 unfold cntT
 rw [List.length_eq_zero_iff, List.filter_eq_nil_iff]
 intro b hb
 simpa using h b hb
theorem kdF_mem : ∀ (l : List Bl) (ks : List Nat) (t : Nat), t ∈ l.foldl kdF ks ↔ t ∈ ks ∨ ∃ b ∈ l, b.t = t
 | [], ks, t => by simp
 | b :: r, ks, t => by
  rw [List.foldl_cons, kdF_mem r (kdF ks b) t]
  have h : t ∈ kdF ks b ↔ t ∈ ks ∨ b.t = t := by
   unfold kdF
   split
   ·rename_i hm
    constructor
    ·exact .inl
    ·rintro (h | h)
     ·exact h
     ·rw [← h]
      exact hm
   ·simp [eq_comm]
  rw [h]
  simp [or_assoc]
theorem kdsT_mem (l : List Bl) (t : Nat) : t ∈ kdsT l ↔ ∃ b ∈ l, b.t = t := by
 have := kdF_mem l [] t
 simpa [kdsT] using this
theorem cntT_le (l : List Bl) (t : Nat) : cntT l t ≤ l.length := List.length_filter_le _ _

def tE : List Nat → Nat → List MapEntry
 | [], _ => []
 | t :: r, i => { key := .int .u64 t, val := .int .i64 (i : Nat), born := i } :: tE r (i + 1)

theorem tE_app : ∀ (ks : List Nat) (t i : Nat), tE (ks ++ [t]) i = tE ks i ++ [{ key := .int .u64 t, val := .int .i64 ((i + ks.length : Nat) : Int), born := i + ks.length }]
 | [], t, i => rfl
 | u :: r, t, i => by
  have e : i + 1 + r.length = i + (u :: r).length := by simp; omega
  simp only [List.cons_append, tE]
  rw [tE_app r t (i + 1), e]

def plT (ks : List Nat) (t i j : Nat) : Option (Nat × Value) := if t ∈ ks then some (j + ks.idxOf t, .int .i64 ((i + ks.idxOf t : Nat) : Int)) else none

theorem findT : ∀ (ks : List Nat) (t i j : Nat), Instr.findNow (.int .u64) (.int .u64 (t : Int)) (tE ks i) j = some (plT ks t i j)
 | [], t, i, j => rfl
 | u :: r, t, i, j => by
  have ih := findT r t (i + 1) (j + 1)
  by_cases e : t = u
  ·subst e
   simp [tE, Instr.findNow, Instr.sameNow, plT]
  ·have e1 : ((t : Int) == (u : Int)) = false := by simp; omega
   have e2 : (u == t) = false := by simp; omega
   have e3 : plT (u :: r) t i j = plT r t (i + 1) (j + 1) := by
    unfold plT
    simp only [List.mem_cons, e, false_or, List.idxOf_cons, e2, cond_false]
    split
    ·simp only [Option.some.injEq, Prod.mk.injEq, Value.int.injEq, true_and]
     omega
    ·rfl
   rw [e3]
   simp only [tE, Instr.findNow, Instr.sameNow, e1]
   exact ih

def MapT (w : World) (M : Nat) (ks : List Nat) : Prop := w.heap[M]? = some (.map (tE ks 0).toArray ks.length)

theorem MapT.on {w w' : World} {M : Nat} {ks : List Nat} (h : MapT w M ks) (hb : w'.heap[M]? = w.heap[M]?) : MapT w' M ks := hb.trans h

def atT (ks : List Nat) (t : Nat) : Int := if t ∈ ks then (ks.idxOf t : Nat) else 0

theorem run_tlookup (w : World) (M t : Nat) (ks : List Nat) (hb : MapT w M ks) :
  (Instr.lookup 100 (.map (some M)) (.int .u64 (t : Int)) true).run Tryz.prog w = .ok (.tuple #[.int .i64 (atT ks t), .bool (decide (t ∈ ks))]) w := by
 have hc : ∀ e, (Instr.checkKey e 10000 22 (.int .u64 t)).run Tryz.prog w = .ok () w := fun e => MapKept.run_checkKey (k := .int .u64 t) Tryz.underlying22 (by simp [MapKept.IsKey]) e 9999
 have hz : (zeroValue 3).run Tryz.prog w = .ok (.int .i64 0) w := by first | rfl | kernel_rfl | simp [zeroValue]
 have hf := findT ks t 0 0
 have hf2 := MapKept.run_findKey (P := Tryz.prog) (w := w) (kt := 22) Tryz.underlying22 hf
 unfold MapT at hb
 by_cases hm : t ∈ ks
 ·rw [plT, if_pos hm] at hf2
  simp [Instr.lookup, run_underlying Tryz.underlying100, MapKept.run_getObj_map hb, hc, hf2, Result.andThen, atT, hm]
 ·rw [plT, if_neg hm] at hf2
  simp [Instr.lookup, run_underlying Tryz.underlying100, MapKept.run_getObj_map hb, hc, hf2, Result.andThen, atT, hm, hz]

def tAdd (w : World) (M t : Nat) (ks : List Nat) : World := setBlock w M (.map (tE (ks ++ [t]) 0).toArray (ks.length + 1))

theorem run_tupdate (w : World) (M t : Nat) (ks : List Nat) (hb : MapT w M ks) (hn : t ∉ ks) :
  (Instr.mapUpdate 100 (.map (some M)) (.int .u64 (t : Int)) (.int .i64 (ks.length : Nat))).run Tryz.prog w = .ok () (tAdd w M t ks) := by
 have hc : ∀ e, (Instr.checkKey e 10000 22 (.int .u64 t)).run Tryz.prog w = .ok () w := fun e => MapKept.run_checkKey (k := .int .u64 t) Tryz.underlying22 (by simp [MapKept.IsKey]) e 9999
 have hf := findT ks t 0 0
 rw [plT, if_neg hn] at hf
 have hf2 := MapKept.run_findKey (P := Tryz.prog) (w := w) (kt := 22) Tryz.underlying22 hf
 have e : tE ks 0 ++ [{ key := .int .u64 t, val := .int .i64 (ks.length : Nat), born := ks.length }] = tE (ks ++ [t]) 0 := by
  rw [tE_app]
  simp
 unfold MapT at hb
 simp [Instr.mapUpdate, run_underlying Tryz.underlying100, MapKept.run_getObj_map hb, hc, hf2, MapKept.run_setObj_map _ hb, Result.andThen, tAdd, setBlock]
 rw [e]

theorem tAdd_map {w : World} {M t : Nat} {ks : List Nat} (hb : MapT w M ks) : MapT (tAdd w M t ks) M (ks ++ [t]) := by
 unfold MapT tAdd
 rw [heap_setBlock_same hb]
 simp
theorem tAdd_other {w : World} {M t : Nat} {ks : List Nat} (hb : MapT w M ks) {i : Nat} (h : i ≠ M) : (tAdd w M t ks).heap[i]? = w.heap[i]? := heap_setBlock_other hb _ h
theorem tAdd_size {w : World} {M t : Nat} {ks : List Nat} : (tAdd w M t ks).heap.size = w.heap.size := by simp [tAdd, setBlock]

end Go.Proofs.YtiahakbkagipkaaGreatDoor

namespace Go.Proofs.YtiahakbkagipkaaGreatDoor
open Go Go.RowKit Go.Shelf

def kdAt (l : List Bl) (k : Nat) : Nat := (kdsT l)[k]?.getD 0
def cnAt (l : List Bl) (k : Nat) : Nat := cntT l (kdAt l k)

theorem step_old {l : List Bl} {m : Nat} (h : m < l.length) (hm : l[m].t ∈ kdsT (l.take m)) : kdsT (l.take (m + 1)) = kdsT (l.take m) := by
 rw [kdsT_step h, kdF, if_pos hm]

end Go.Proofs.YtiahakbkagipkaaGreatDoor
