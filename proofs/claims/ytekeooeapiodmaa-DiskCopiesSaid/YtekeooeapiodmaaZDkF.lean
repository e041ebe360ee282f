/- Package disk: slices.All of writes. -/
import Derived.Test.YtekeooeapiodmaaZDkE
import Derived.Test.YtekeooeapiodmaaZIter
import Derived.Test.YtekeooeapiodmaaZRgTwo
namespace Go.Proofs.Ytekeooeapiodmaa
open Go Go.RowKit Go.Shelf
set_option linter.unusedSimpArgs false
set_option linter.unusedVariables false
set_option maxRecDepth 100000

attribute [local go_sem] Oper.semAt_some

/-- Writes that are read. -/
def RdW (w : World) (B : Nat) (A : Option Addr) (l : List (Int × List UInt8)) : Prop := l = [] ∨ ∃ g, A = some ⟨g, 0, none⟩ ∧ g < B ∧ ∀ k x, l[k]? = some x → w.rangeAt g (k * 65) (wrL x)
theorem RdW.kept {w w' : World} {B B' : Nat} {A : Option Addr} {l : List (Int × List UInt8)} (h : RdW w B A l) (hb : ∀ p, A = some p → w'.heap[p.block]? = w.heap[p.block]?) (hB : B ≤ B') : RdW w' B' A l := by
  rcases h with h | ⟨g, rfl, hg, hr⟩
  · exact .inl h
  · exact .inr ⟨g, rfl, Nat.lt_of_lt_of_le hg hB, fun k x hx j v hv => (World.cell?_of_block (a := ⟨g, k * 65 + j, none⟩) (hb ⟨g, 0, none⟩ rfl)).trans (hr k x hx j v hv)⟩
/-- Writes that a disk owns are read. -/
theorem rdW_own {w : World} {A : Option Addr} {n C : Nat} {l : List (Int × List UInt8)} (hl : ∀ x ∈ l, x.2.length = 64) (h : w.ownsRow 0 88 65 (.slice A n C) n (flatW l)) (hn : n = l.length) : RdW w w.heap.size A l := by
  rcases h.2 with ⟨e, h0⟩ | ⟨g, cap, cur, e, _, hg, hnc, _, hs, ht⟩
  · left
    exact List.eq_nil_of_length_eq_zero (by omega)
  · injection e with e1 e2 e3
    subst e1
    refine .inr ⟨g, rfl, (Array.getElem?_eq_some_iff.1 hg).1, fun k x hx j v hv => ?_⟩
    have hk : k < l.length := (List.getElem?_eq_some_iff.1 hx).1
    have hj : j < 65 := by
      have := (List.getElem?_eq_some_iff.1 hv).1
      rw [wrL_len (hl x (List.mem_of_getElem? hx))] at this
      exact this
    have h1 := flatW_at hl hx j hj
    rw [hv, ← ht] at h1
    have h2 : w.cell? ⟨g, k * 65 + j, none⟩ = cur[k * 65 + j]? := by simp [World.cell?, hg]
    rw [h2, ← Array.getElem?_toList]
    rw [List.getElem?_take] at h1
    split at h1
    · exact h1
    · cases h1

/-- A write's value. -/
def wrV (x : Int × List UInt8) : Value := .agg (wrL x).toArray
theorem wr_load {w : World} {g o : Nat} {x : Int × List UInt8} (hx : x.2.length = 64) (h : w.rangeAt g o (wrL x)) : (Instr.loadAt 88 (.pointer (some ⟨g, o, none⟩))).run Try.prog w = .ok (wrV x) w :=
  run_loadAt_mid w g o _ (wrL x) _ h Try.underlying88 rfl (by rw [wrL_len hx]; kernel_rfl)
theorem wr_put (x : Int × List UInt8) (hx : x.2.length = 64) (w : World) : (Instr.storeAt 88 (.pointer (some ⟨w.heap.size, 0, none⟩)) (wrV x)).run Try.prog (w.alloc (.cells Try.zeroCells88 88)) = .ok () (w.alloc (.cells (wrL x).toArray 88)) := by
  have hz : Try.zeroCells88.size = 65 := by kernel_rfl
  have hi : (Try.prog.info? 88).map (·.size) = some 65 := by kernel_rfl
  generalize Try.zeroCells88 = z at *
  have hl := wrL_len hx
  have h := run_storeCells_at Try.prog w.heap.size 0 88 (wrL x) 0 z (w.alloc (.cells z 88)) (MapKept.heap_alloc w _).1 (by rw [hz, hl]; decide) (wrL_one _)
  rw [World.setRow_alloc_new] at h
  have e : (z.toList.take (0 + 0) ++ wrL x ++ z.toList.drop (0 + 0 + (wrL x).length)) = wrL x := by
    rw [hl, List.drop_eq_nil_of_le (by rw [Array.length_toList, hz]; decide), Nat.add_zero, List.take_zero, List.nil_append, List.append_nil]
  rw [e] at h
  cases hq : Try.prog.info? 88 with
  | none => simp [hq] at hi
  | some i =>
    have hs : i.size = 65 := by simpa [hq] using hi
    simp [wrV, Instr.storeAt, Instr.sureAddr, storeVar, sizeOf, typeInfo, hq, Value.cells, hs, hl, h, Result.andThen]

theorem allW_any (A : Option Addr) (n C : Nat) (w : World) : Calls Try.prog 69 #[.slice A n C] w fun e w' => e = .returned (.func (.func 72) #[] #[.pointer (some ⟨w.heap.size, 0, none⟩)]) ∧ w' = w.alloc (.cells #[.slice A n C] 71) := by
  have hmf : ∀ (fn : Fn) (first cap : Array Value) (w : World), (Instr.makeFunc fn first cap).run Try.prog w = .ok (.func fn first cap) w := fun _ _ _ _ => rfl
  go_enter Try.func69, Try.ntmps69
  go_wp2_with fail
  go_ret
  exact ⟨rfl, rfl⟩

def wAt (l : List (Int × List UInt8)) (k : Nat) : Int × List UInt8 := l[k]?.getD (0, zeroS)

set_option maxHeartbeats 2000000 in
theorem allW_goes (Bs : Nat) (S : Nat → Prop) (A : Option Addr) (C : Nat) (l : List (Int × List UInt8)) (w : World) (hl : ∀ x ∈ l, x.2.length = 64) (hlen : l.length ≤ 1000000) (hBs : Bs < w.heap.size) (hS : ∀ p, A = some p → S p.block) (hSw : ∀ b, S b → b < w.heap.size)
    (hc : w.cell? ⟨Bs, 0, none⟩ = some (.slice A l.length C)) (hr : RdW w w.heap.size A l) :
    GoesO Try.prog 72 #[.pointer (some ⟨Bs, 0, none⟩)] (fun k => #[.int .i64 (k : Nat), wrV (wAt l k)]) S l.length w := by
  intro L J Jx W hW hJ hJx hY h0
  have hcW := (hW.cell (p := ⟨Bs, 0, none⟩) hBs).trans hc
  have hWS := hW.size
  have HR : Hid (RdW W W.heap.size A l) := hr.kept (fun p hp => hW.block _ (hSw _ (hS p hp))) hW.size
  have HL := Lib.hid hl
  have HJ := Lib.hid hJ
  clear hc hr hW hl
  refine (callsIn_wide (n := 10)).1 (callsIn_of_wp Try.func72 rfl trivial ?_ rfl)
  simp only [Try.ntmps72, List.size_toArray, List.length_cons, List.length_nil, Nat.reduceAdd, Nat.reduceSub, Array.replicate_succ, Array.replicate_zero, List.push_toArray, List.append_toArray, List.nil_append, List.cons_append]
  gi_wp2
  gi_loopw [7] (fun i wr => ∃ k : Nat, k ≤ l.length ∧ i = .int .i64 k ∧ J k wr ∧ KeepB S W wr ∧ W.heap.size ≤ wr.heap.size) (fun i _ => l.length - (intOf i).toNat)
  case atStart => exact ⟨0, Nat.zero_le _, rfl, h0, KeepB.refl _ _, Nat.le_refl _⟩
  case round =>
    obtain ⟨k, hk, rfl, hJs, hnx, hsz⟩ := hrel
    by_cases hlt : k < l.length
    · have hat : l[k]? = some (wAt l k) := by rw [wAt, List.getElem?_eq_getElem hlt]; rfl
      have h64 : (wAt l k).2.length = 64 := HL.out _ (List.mem_of_getElem? hat)
      obtain ⟨g, rfl, hg, c0⟩ : ∃ g, A = some ⟨g, 0, none⟩ ∧ g < W.heap.size ∧ W.rangeAt g (k * 65) (wrL (wAt l k)) := by
        rcases HR.out with h | ⟨b, e, hb, hc⟩
        · rw [h] at hlt
          simp at hlt
        · exact ⟨b, e, hb, hc k _ hat⟩
      have hblk := hnx g (hS _ rfl)
      have x0 : wr.rangeAt g (k * 65) (wrL (wAt l k)) := fun j v hv => (World.cell?_of_block (a := ⟨g, k * 65 + j, none⟩) hblk).trans (c0 j v hv)
      have hld := wr_load h64 x0
      have hpt := wr_put (wAt l k) h64 wr
      obtain ⟨W1, hW1⟩ : ∃ W1, W1 = wr.alloc (.cells (wrL (wAt l k)).toArray 88) := ⟨_, rfl⟩
      have hld2 : (Instr.loadAt 88 (.pointer (some ⟨wr.heap.size, 0, none⟩))).run Try.prog W1 = .ok (wrV (wAt l k)) W1 := wr_load h64 (by rw [hW1]; exact (RowB.new wr _ _).range)
      rw [← hW1] at hpt
      have hb1 : Below wr.heap.size wr W1 := by rw [hW1]; exact below_al (Below.refl _ _) _
      have hJ1 : J k W1 := by rw [hW1]; exact HJ.out.alloc _ hJs
      obtain ⟨fn, tmps, assign, body, hy, hR⟩ := hY k W1 hlt hJ1 (Nat.le_trans hsz hb1.size)
      have HBK := Lib.hid hnx
      have HSZ := Lib.hid hsz
      have HB1 := Lib.hid hb1
      clear c0 hblk hnx x0 h64 hat hb1 hW1 hJ1
      gi_wp2_with (first
        | refine wpListIn_load rfl 88 (.tmp 10) rfl _ _ rfl hld ?_
        | refine wpListIn_store rfl 88 (.tmp 4) (.tmp 11) rfl _ _ _ rfl rfl hpt ?_
        | refine wpListIn_load rfl 88 (.tmp 4) rfl _ _ rfl hld2 ?_)
      refine hR.mono ?_
      rintro e W3 (⟨rfl, hJ3, hz3, hk3⟩ | ⟨rfl, hJx3, _, _⟩)
      · have HBK3 : Hid (KeepB S W W3) := fun b hb => (hk3 b (.inl hb)).trans ((HB1.out.block b (Nat.lt_of_lt_of_le (Nat.lt_of_lt_of_le (hSw b hb) hWS) HSZ.out)).trans (HBK.out b hb))
        have HSZ3 : Hid (W.heap.size ≤ W3.heap.size) := Nat.le_trans (Nat.le_trans HSZ.out HB1.out.size) hz3
        clear hk3 hz3
        gi_wp2
        go_roundw
        case rel => exact ⟨k + 1, by omega, by simp, hJ3, HBK3.out, HSZ3.out⟩
        case measure => simp [intOf]; omega
      · gi_wp2
        refine bodyPost_ret (results_none rfl _ _ _) rfl ?_
        exact ⟨⟨_, rfl⟩, .inr ⟨k, hlt, hJx3⟩⟩
    · obtain rfl : k = l.length := by omega
      gi_wp2
      go_end0
      exact ⟨⟨_, rfl⟩, .inl hJs⟩

end Go.Proofs.Ytekeooeapiodmaa

