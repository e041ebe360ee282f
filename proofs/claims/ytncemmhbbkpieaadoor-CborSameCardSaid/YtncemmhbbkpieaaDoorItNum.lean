/- Package cbor's way over a list's numbers: slices.Clone and slices.Values of items, numbers, Uints. -/
import Derived.Test.YtncemmhbbkpieaaDoorIter
import Derived.Test.YtncemmhbbkpieaaDoorCbB
import Derived.Test.YtncemmhbbkpieaaDoorCbS2
import Derived.Test.YtncemmhbbkpieaaDoorCbN
namespace Go.Proofs.YtncemmhbbkpieaaDoor
open Go.RowKit Go.Shelf
set_option linter.unusedSimpArgs false
set_option linter.unusedVariables false
set_option linter.unnecessarySimpa false

attribute [local go_sem] Oper.semAt_some

/-- Items' cells, five a place: what each place reads as. -/
def Rows5 (w : World) (A : Option Addr) (l : List It) (V : Nat → Value) : Prop :=
  ∀ k (h : k < l.length), ∃ g o a2 n2 c2 s3 a4 n4 c4, A = some ⟨g, o, none⟩ ∧ V k = .agg #[.int .i64 l[k].k, .int .u64 l[k].n, .slice a2 n2 c2, .string s3, .slice a4 n4 c4] ∧ g < w.heap.size ∧
    w.cell? ⟨g, o + k * 5, none⟩ = some (.int .i64 l[k].k) ∧ w.cell? ⟨g, o + k * 5 + 1, none⟩ = some (.int .u64 l[k].n) ∧ w.cell? ⟨g, o + k * 5 + 2, none⟩ = some (.slice a2 n2 c2) ∧ w.cell? ⟨g, o + k * 5 + 3, none⟩ = some (.string s3) ∧ w.cell? ⟨g, o + k * 5 + 4, none⟩ = some (.slice a4 n4 c4)

set_option maxRecDepth 100000 in
set_option maxHeartbeats 2000000 in
theorem ivalues_goes (Bs : Nat) (S : Nat → Prop) (A : Option Addr) (C : Nat) (l : List It) (V : Nat → Value) (w : World) (hlen : l.length ≤ 140737488355328) (hBs : Bs < w.heap.size) (hS : ∀ p, A = some p → S p.block) (hSw : ∀ b, S b → b < w.heap.size)
    (hc : w.cell? ⟨Bs, 0, none⟩ = some (.slice A l.length C)) (hr : Rows5 w A l V) :
    GoesO Tryd.prog 64 #[.pointer (some ⟨Bs, 0, none⟩)] (fun k => #[V k]) S l.length w := by
  intro L J Jx W hW hJ hJx hY h0
  have hcW := (hW.cell (p := ⟨Bs, 0, none⟩) hBs).trans hc
  have hWS := hW.size
  have HR : Hid (Rows5 W A l V) := fun k h => by
    obtain ⟨g, o, a2, n2, c2', s3, a4, n4, c4', e1, e2, e3, c0, c1, c2, c3, c4⟩ := hr k h
    exact ⟨g, o, a2, n2, c2', s3, a4, n4, c4', e1, e2, Nat.lt_of_lt_of_le e3 hW.size, (hW.cell (p := ⟨g, _, none⟩) e3).trans c0, (hW.cell (p := ⟨g, _, none⟩) e3).trans c1, (hW.cell (p := ⟨g, _, none⟩) e3).trans c2, (hW.cell (p := ⟨g, _, none⟩) e3).trans c3, (hW.cell (p := ⟨g, _, none⟩) e3).trans c4⟩
  clear hc hr hW
  refine (callsIn_wide (n := 10)).1 (callsIn_of_wp Tryd.func64 rfl trivial ?_ rfl)
  simp only [Tryd.ntmps64, List.size_toArray, List.length_cons, List.length_nil, Nat.reduceAdd, Nat.reduceSub, Array.replicate_succ, Array.replicate_zero, List.push_toArray, List.append_toArray, List.nil_append, List.cons_append]
  gi_wp2
  gi_loopw [7] (fun i wr => ∃ k : Nat, k ≤ l.length ∧ i = .int .i64 k ∧ J k wr ∧ KeepB S W wr ∧ W.heap.size ≤ wr.heap.size) (fun i _ => l.length - (intOf i).toNat)
  case atStart => exact ⟨0, Nat.zero_le _, rfl, h0, KeepB.refl _ _, Nat.le_refl _⟩
  case round =>
    obtain ⟨k, hk, rfl, hJs, hnx, hsz⟩ := hrel
    by_cases hlt : k < l.length
    · obtain ⟨g, o, a2, n2, c2', s3, a4, n4, c4', rfl, hV, hg, c0, c1, c2, c3, c4⟩ := HR.out k hlt
      have hblk := hnx g (hS _ rfl)
      have x0 := (World.cell?_of_block (a := ⟨g, o + k * 5, none⟩) hblk).trans c0
      have x1 := (World.cell?_of_block (a := ⟨g, o + k * 5 + 1, none⟩) hblk).trans c1
      have x2 := (World.cell?_of_block (a := ⟨g, o + k * 5 + 2, none⟩) hblk).trans c2
      have x3 := (World.cell?_of_block (a := ⟨g, o + k * 5 + 3, none⟩) hblk).trans c3
      have x4 := (World.cell?_of_block (a := ⟨g, o + k * 5 + 4, none⟩) hblk).trans c4
      obtain ⟨fn, tmps, assign, body, hy, hR⟩ := hY k (wr.alloc (.cells #[.int .i64 l[k].k, .int .u64 l[k].n, .slice a2 n2 c2', .string s3, .slice a4 n4 c4'] 28)) hlt (hJ.alloc _ hJs) (by rw [World.size_alloc]; omega)
      have hszA : (wr.alloc (.cells #[.int .i64 l[k].k, .int .u64 l[k].n, .slice a2 n2 c2', .string s3, .slice a4 n4 c4'] 28)).heap.size = wr.heap.size + 1 := World.size_alloc _ _
      simp only [hV] at hy
      have HSZ := Lib.hid hszA
      have HBK := Lib.hid hnx
      clear c0 c1 c2 c3 c4 hblk hV hszA hnx
      gi_wp2
      refine hR.mono ?_
      rintro e W3 (⟨rfl, hJ3, hz3, hk3⟩ | ⟨rfl, hJx3, _, _⟩)
      · have HK3 := Lib.hid hk3
        have HBK3 : Hid (KeepB S W W3) := fun b hb => by
          have h1 := HBK.out b hb
          have hbl : b < wr.heap.size := Nat.lt_of_lt_of_le (Nat.lt_of_lt_of_le (hSw b hb) hWS) hsz
          exact (HK3.out b (.inl hb)).trans ((Below.heap_alloc wr _ b hbl).trans h1)
        have HSZ3 : Hid (W.heap.size ≤ W3.heap.size) := by simp only [Hid]; have := HSZ.out; omega
        clear hk3 hz3
        gi_wp2
        go_roundw
        case rel => exact ⟨k + 1, by omega, by simp, hJ3, HBK3.out, HSZ3.out⟩
        case measure => simp [intOf]; omega
      · gi_wp2
        refine bodyPost_ret (results_none rfl _ _ _) rfl ?_
        exact ⟨⟨_, rfl⟩, .inr ⟨k, hlt, hJx3⟩⟩
    · obtain rfl : k = l.length := by omega
      gi_wp2
      go_end0
      exact ⟨⟨_, rfl⟩, .inl hJs⟩

theorem ownFrom_up {β : Type} {B B' : Nat} {I : β → World → Prop} (h : OwnFrom B I) (hB : B ≤ B') : OwnFrom B' I := fun s W W' row hs hg hr => h s W W' row hs hg (fun r e => ⟨Nat.le_trans hB (hr r e).1, (hr r e).2⟩)

/-- The numbers of items. -/
def numsL (l : List It) : List Int := (l.filter fun x => x.k == 1).map It.n

def cntL (l : List It) (k : Nat) : Nat := (numsL (l.take k)).length

theorem numsL_step {l : List It} {k : Nat} (h : k < l.length) : numsL (l.take (k + 1)) = numsL (l.take k) ++ (if l[k].k == 1 then [l[k].n] else []) := by
  rw [List.take_succ_eq_append_getElem h]
  unfold numsL
  rw [List.filter_append, List.map_append]
  congr 1
  by_cases e : (l[k].k == 1) = true
  · simp [List.filter_cons, e]
  · simp only [Bool.not_eq_true] at e
    simp [List.filter_cons, e]

theorem cntL_yes {l : List It} {k : Nat} (h : k < l.length) (e : l[k].k = 1) : cntL l (k + 1) = cntL l k + 1 := by
  unfold cntL
  rw [numsL_step h]
  simp [e]

theorem cntL_no {l : List It} {k : Nat} (h : k < l.length) (e : l[k].k ≠ 1) : cntL l (k + 1) = cntL l k := by
  unfold cntL
  rw [numsL_step h]
  simp [e]

theorem numsL_split (l : List It) (k : Nat) : numsL l = numsL (l.take k) ++ numsL (l.drop k) := by
  unfold numsL
  rw [← List.map_append, ← List.filter_append, List.take_append_drop]

theorem cntL_at {l : List It} {k : Nat} (h : k < l.length) (e : l[k].k = 1) : cntL l k < (numsL l).length ∧ (numsL l)[cntL l k]? = some l[k].n := by
  have h1 := numsL_split l (k + 1)
  rw [numsL_step h] at h1
  have e1 : (l[k].k == 1) = true := by simp [e]
  rw [e1] at h1
  unfold cntL
  rw [h1]
  constructor
  · simp
  · simp

theorem cntL_all (l : List It) : cntL l l.length = (numsL l).length := by
  unfold cntL
  rw [List.take_length]

/-- The kind, the number of the item at a place. -/
def kAt (l : List It) (k : Nat) : Int := (l[k]?.map It.k).getD 0
def nAt (l : List It) (k : Nat) : Int := (l[k]?.map It.n).getD 0

theorem kAt_eq {l : List It} {k : Nat} (h : k < l.length) : kAt l k = l[k].k := by simp [kAt, h]
theorem nAt_eq {l : List It} {k : Nat} (h : k < l.length) : nAt l k = l[k].n := by simp [nAt, h]

set_option maxHeartbeats 400000 in
theorem ivalues_any (a : Option Addr) (n c : Nat) (w : World) :
    Calls Tryd.prog 53 #[.slice a n c] w fun e w' => e = .returned (.func (.func 64) #[] #[.pointer (some ⟨w.heap.size, 0, none⟩)]) ∧ w' = w.alloc (.cells #[.slice a n c] 26) := by
  have hmf : ∀ (fn : Fn) (first cap : Array Value) (w : World), (Instr.makeFunc fn first cap).run Tryd.prog w = .ok (.func fn first cap) w := fun _ _ _ _ => rfl
  go_enter Tryd.func53, Tryd.ntmps53
  go_wp2
  go_ret
  exact ⟨rfl, rfl⟩

set_option maxHeartbeats 400000 in
theorem numbers_any (a : Option Addr) (n c : Nat) (w : World) :
    Calls Tryd.prog 29 #[.slice a n c] w fun e w' => e = .returned (.func (.func 52) #[] #[.pointer (some ⟨w.heap.size, 0, none⟩)]) ∧ w' = w.alloc (.cells #[.slice a n c] 26) := by
  have hmf : ∀ (fn : Fn) (first cap : Array Value) (w : World), (Instr.makeFunc fn first cap).run Tryd.prog w = .ok (.func fn first cap) w := fun _ _ _ _ => rfl
  go_enter Tryd.func29, Tryd.ntmps29
  go_wp2
  go_ret
  exact ⟨rfl, rfl⟩

set_option maxRecDepth 100000 in
set_option maxHeartbeats 4000000 in
theorem numbers_goes (Ns : Nat) (S : Nat → Prop) (A : Option Addr) (C : Nat) (l : List It) (V : Nat → Value) (w : World) (hlen : l.length ≤ 140737488355328) (hNs : Ns < w.heap.size) (hS : ∀ p, A = some p → S p.block) (hSw : ∀ b, S b → b < w.heap.size)
    (hc : w.cell? ⟨Ns, 0, none⟩ = some (.slice A l.length C)) (hr : Rows5 w A l V) :
    GoesO Tryd.prog 52 #[.pointer (some ⟨Ns, 0, none⟩)] (fun m => #[.int .u64 ((numsL l)[m]?.getD 0)]) S (numsL l).length w := by
  intro L J Jx W hW hJ hJx hY h0
  have hcW := (hW.cell (p := ⟨Ns, 0, none⟩) hNs).trans hc
  have hWS := hW.size
  have HR : Hid (∀ W', Below W.heap.size W W' → Rows5 W' A l V) := fun W' hb k h => by
    obtain ⟨g, o, a2, n2, c2', s3, a4, n4, c4', e1, e2, e3, c0, c1, c2, c3, c4⟩ := hr k h
    have hb' := hW.trans (hb.mono hWS)
    exact ⟨g, o, a2, n2, c2', s3, a4, n4, c4', e1, e2, Nat.lt_of_lt_of_le e3 hb'.size, (hb'.cell (p := ⟨g, _, none⟩) e3).trans c0, (hb'.cell (p := ⟨g, _, none⟩) e3).trans c1, (hb'.cell (p := ⟨g, _, none⟩) e3).trans c2, (hb'.cell (p := ⟨g, _, none⟩) e3).trans c3, (hb'.cell (p := ⟨g, _, none⟩) e3).trans c4⟩
  have hNsW : Ns < W.heap.size := Nat.lt_of_lt_of_le hNs hWS
  clear hc hr hW
  refine calls_of_marks Tryd.func52 rfl ?_
  simp only [Tryd.ntmps52, List.size_toArray, List.length_cons, List.length_nil, Nat.reduceAdd, Nat.reduceSub, Array.replicate_succ, Array.replicate_zero, List.push_toArray, List.append_toArray, List.nil_append, List.cons_append]
  go_wp2
  go_step3
  go_wp2
  go_step3
  go_wp2_with (go_at_call 53; refine (ivalues_any _ _ _ _).mono ?_; rintro e w2 ⟨rfl, rfl⟩)
  have hB : Below W.heap.size W ((W.alloc (.cells #[.func (.yield L) #[] #[]] 85)).alloc (.cells #[.slice A l.length C] 26)) := ((Below.refl _ _).alloc (Nat.le_refl _) _).alloc (by simp) _
  have b1 : Boxed ((W.alloc (.cells #[.func (.yield L) #[] #[]] 85)).alloc (.cells #[.slice A l.length C] 26)) W.heap.size 85 (.func (.yield L) #[] #[]) := (Boxed.new W _ _).alloc _
  have b2 := (Boxed.new (W.alloc (.cells #[.func (.yield L) #[] #[]] 85)) 26 (.slice A l.length C)).cell
  rw [World.size_alloc] at b2
  obtain ⟨W2, hW2⟩ : ∃ W2, W2 = (W.alloc (.cells #[.func (.yield L) #[] #[]] 85)).alloc (.cells #[.slice A l.length C] 26) := ⟨_, rfl⟩
  have hs2 : W2.heap.size = W.heap.size + 2 := by rw [hW2]; simp
  rw [← hW2] at hB b1 b2 ⊢
  have HW2 := Lib.hid hW2
  have J0 : J 0 W2 := by rw [hW2]; exact hJ.alloc _ (hJ.alloc _ h0)
  clear hW2
  have hIO : OwnFrom W2.heap.size (fun (k : Nat) X => J (cntL l k) X ∧ Boxed X W.heap.size 85 (.func (.yield L) #[] #[]) ∧ W2.heap.size ≤ X.heap.size) :=
    OwnFrom.and (fun k X Y row hs hg hr => (ownFrom_up (B := W.heap.size) (B' := W2.heap.size) hJ (by omega)) (cntL l k) X Y row hs hg hr) (OwnFrom.and ((boxed_own _ _ _).from _) (fun k X Y row hs hg hr => Nat.le_trans hs hg.size))
  have hJO : OwnFrom W2.heap.size J := ownFrom_up (B := W.heap.size) hJ (by omega)
  have hJxO : OwnFrom W2.heap.size Jx := ownFrom_up (B := W.heap.size) hJx (by omega)
  refine wp_rangeGoesO (gf := 64) (lb := #[.pointer (some ⟨W.heap.size + 1, 0, none⟩)]) rfl (enters_of Tryd.func64 (by kernel_rfl) rfl)
    (ivalues_goes (W.heap.size + 1) S A C l V W2 hlen (by omega) hS (fun b hb => by have := hSw b hb; omega) b2 (HR.out W2 hB)) (fun b hb => by have := hSw b hb; omega) (fun _ => rfl)
    (fun k X => J (cntL l k) X ∧ Boxed X W.heap.size 85 (.func (.yield L) #[] #[]) ∧ W2.heap.size ≤ X.heap.size)
    (fun c k X => c = .exit 0 ∧ cntL l k < (numsL l).length ∧ Jx (cntL l k) X)
    hIO (fun c => OwnFrom.and (ownFrom_pure _ (fun _ => c = .exit 0)) (OwnFrom.and (ownFrom_pure _ _) (fun k X Y row hs hg hr => hJxO (cntL l k) X Y row hs hg hr))) ⟨J0, b1, Nat.le_refl _⟩
    (fun k a' X => ∃ bx, a' = { tmps := #[.func (.yield L) #[] #[], .pointer (some ⟨Ns, 0, none⟩), .pointer (some ⟨W.heap.size, 0, none⟩), .pointer (some ⟨bx, 0, none⟩), .slice A l.length C, .func (.func 64) #[] #[.pointer (some ⟨W.heap.size + 1, 0, none⟩)], V k, undef, undef, undef, undef, undef, undef, undef, undef, undef, undef], defers := [] } ∧ X.cell? ⟨bx, 0, none⟩ = some (.int .i64 (kAt l k)) ∧ X.cell? ⟨bx, 1, none⟩ = some (.int .u64 (nAt l k)))
    (fun k a' s X Y row hs hg hr => by
      obtain ⟨bx, e, c0, c1⟩ := hs
      exact ⟨bx, e, cell_kept c0 hg (fun r e => (hr r e).2), cell_kept c1 hg (fun r e => (hr r e).2)⟩) ?assign ?body ?done ?stop
  case assign =>
    intro ll k X K hk hI hK
    obtain ⟨g, o, a2, n2, c2', s3, a4, n4, c4', e1, e2, e3, x0, x1, x2, x3, x4⟩ := HR.out W2 hB k hk
    have HI := Lib.hid hI
    have HKk := Lib.hid hK
    have HE2 := Lib.hid e2
    rw [e2]
    clear hI hK x0 x1 x2 x3 x4 e2 e1
    gi_wp2
    refine HKk.out _ _ ((KeepsOthers.alloc _ _).from _) (fun b hb => ?_) (hIO.alloc _ HI.out) ⟨X.heap.size, by rw [HE2.out], by rw [kAt_eq hk]; simp, by rw [nAt_eq hk]; simp⟩
    refine Below.heap_alloc X _ b ?_
    rcases hb with hb | hb
    · have := hSw b hb; have := HI.out.2.2; omega
    · exact hb.2
  case body =>
    rintro ll k a' X hk hl _ ⟨hJk, hbx, hsz⟩ ⟨bx, rfl, c0, c1⟩
    have HJk := Lib.hid hJk
    have HBx := Lib.hid hbx
    have hyc := hbx.cell
    rw [kAt_eq hk] at c0
    rw [nAt_eq hk] at c1
    clear hJk hbx
    by_cases e : l[k].k = 1
    · rw [e] at c0
      obtain ⟨hlt, hat⟩ := cntL_at hk e
      have HC := Lib.hid (cntL_yes hk e)
      have HLT := Lib.hid hlt
      obtain ⟨fn, tmps, assign, body, hy, hR⟩ := hY (cntL l k) X hlt HJk.out (by omega)
      rw [hat] at hy
      simp only [Option.getD_some] at hy
      clear hat e hlt
      gi_wp2
      refine (roundIn_any hR).mono ?_
      rintro e X3 (⟨rfl, hJ3, hz3, hk3⟩ | ⟨rfl, hJx3, hz3, hk3⟩)
      · have HK3 := Lib.hid hk3
        have hbx3 : Boxed X3 W.heap.size 85 (.func (.yield L) #[] #[]) := (hk3 W.heap.size (.inr ⟨Nat.le_refl _, by omega⟩)).trans HBx.out
        have HB3 := Lib.hid hbx3
        clear hk3 hbx3 hyc
        gi_wp2
        refine ⟨⟨hz3, fun i o' hi ho _ => ?_⟩, fun b hb => ?_, by rw [HC.out]; exact hJ3, HB3.out, by omega⟩
        · exact (HK3.out i (.inr ⟨by omega, (Array.getElem?_eq_some_iff.1 ho).1⟩)).trans ho
        · rcases hb with hb | hb
          · exact HK3.out b (.inl hb)
          · exact HK3.out b (.inr ⟨by omega, hb.2⟩)
      · have HK3 := Lib.hid hk3
        clear hk3 hyc
        gi_wp2
        refine ⟨⟨⟨hz3, fun i o' hi ho _ => (HK3.out i (.inr ⟨by omega, (Array.getElem?_eq_some_iff.1 ho).1⟩)).trans ho⟩, fun b hb => ?_⟩, rfl, HLT.out, hJx3⟩
        rcases hb with hb | hb
        · exact HK3.out b (.inl hb)
        · exact HK3.out b (.inr ⟨by omega, hb.2⟩)
    · have hne : (l[k].k != 1) = true := by simpa using e
      have HC := Lib.hid (cntL_no hk e)
      clear e
      gi_wp2
      exact ⟨KeepsFrom.refl _ _, fun _ _ => rfl, by rw [HC.out]; exact HJk.out, HBx.out, hsz⟩
  case done =>
    rintro D X hD ⟨hJk, hbx, hsz⟩ hK
    rw [cntL_all] at hJk
    have HJk := Lib.hid hJk
    clear hJk hbx
    go_wp2
    refine marks_one hK (results_none rfl _ _ _) ?_
    exact ⟨⟨_, rfl⟩, .inl (hJO.putObj _ HJk.out (by omega) hK rfl)⟩
  case stop =>
    rintro D c k X hD hk ⟨rfl, hlt, hJx3⟩ hK
    have HJx := Lib.hid hJx3
    clear hJx3
    go_wp2
    refine marks_one hK (results_none rfl _ _ _) ?_
    exact ⟨⟨_, rfl⟩, .inr ⟨_, hlt, hJxO.putObj _ HJx.out (by omega) hK rfl⟩⟩

/-- Items' cells one behind another. -/
def flatC (w : World) (g o n : Nat) : List Value := (List.range (n * 5)).map fun i => (w.cell? ⟨g, o + i, none⟩).getD undef

theorem flatC_length (w : World) (g o n : Nat) : (flatC w g o n).length = n * 5 := by simp [flatC]

theorem flatC_at {w : World} {g o n i : Nat} (h : i < n * 5) : (flatC w g o n)[i]? = some ((w.cell? ⟨g, o + i, none⟩).getD undef) := by
  simp [flatC, h]

/-- The cells of the item at a place. -/
theorem ItL.cells {w : World} {g o : Nat} {l : List It} (h : ItL w w.heap.size g o l) (hg : g < w.heap.size) (k : Nat) (hk : k < l.length) :
    ∃ a c A C, w.cell? ⟨g, o + k * 5, none⟩ = some (.int .i64 l[k].k) ∧ w.cell? ⟨g, o + k * 5 + 1, none⟩ = some (.int .u64 l[k].n) ∧ w.cell? ⟨g, o + k * 5 + 2, none⟩ = some (.slice a l[k].b.length c) ∧
      w.cell? ⟨g, o + k * 5 + 3, none⟩ = some (.string ⟨l[k].s.toArray⟩) ∧ w.cell? ⟨g, o + k * 5 + 4, none⟩ = some (.slice A l[k].l.length C) := by
  obtain ⟨a, c, A, C, _, h0, h1, h2, h3, h4⟩ := h.get (i := k) (x := l[k]) (by simp [hk]) (Below.refl _ _) hg
  exact ⟨a, c, A, C, h0, h1, h2, h3, h4⟩

theorem flat_cell {w : World} {g o : Nat} {l : List It} (h : ItL w w.heap.size g o l) (hg : g < w.heap.size) (i : Nat) (hi : i < l.length * 5) :
    ∃ u, w.cell? ⟨g, o + i, none⟩ = some u ∧ u.oneCell' = true := by
  have hk : i / 5 < l.length := by omega
  obtain ⟨a, c, A, C, h0, h1, h2, h3, h4⟩ := h.cells hg (i / 5) hk
  have hm : i % 5 = 0 ∨ i % 5 = 1 ∨ i % 5 = 2 ∨ i % 5 = 3 ∨ i % 5 = 4 := by omega
  rcases hm with hm | hm | hm | hm | hm
  · rw [show o + i = o + i / 5 * 5 by omega]
    exact ⟨_, h0, rfl⟩
  · rw [show o + i = o + i / 5 * 5 + 1 by omega]
    exact ⟨_, h1, rfl⟩
  · rw [show o + i = o + i / 5 * 5 + 2 by omega]
    exact ⟨_, h2, rfl⟩
  · rw [show o + i = o + i / 5 * 5 + 3 by omega]
    exact ⟨_, h3, rfl⟩
  · rw [show o + i = o + i / 5 * 5 + 4 by omega]
    exact ⟨_, h4, rfl⟩

def CloneIP (w : World) (l : List It) (e : Ending) (w' : World) : Prop :=
  ∃ A' C' V, e = .returned (.slice A' l.length C') ∧ Rows5 w' A' l V ∧ (∀ p, A' = some p → w.heap.size ≤ p.block ∧ p.block < w'.heap.size) ∧ Below w.heap.size w w'

theorem rows5_nil (w : World) (A : Option Addr) (V : Nat → Value) : Rows5 w A [] V := fun k h => absurd h (by simp)

set_option maxRecDepth 100000 in
set_option maxHeartbeats 4000000 in
theorem iclone_any (A : Option Addr) (C : Nat) (l : List It) (w : World) (hlen : l.length ≤ 1000000) (hr : l = [] ∨ ∃ g o, A = some ⟨g, o, none⟩ ∧ g < w.heap.size ∧ ItL w w.heap.size g o l) :
    Calls Tryd.prog 30 #[.slice A l.length C] w (CloneIP w l) := by
  rcases A with _ | ad
  · obtain rfl : l = [] := by
      rcases hr with h | ⟨g, o, h, _⟩
      · exact h
      · cases h
    have heq := fun w : World => Lib.run_eql_slice_nil (P := Tryd.prog) w 26 28 none 0 C 0 0 Tryd.underlying26
    go_enter Tryd.func30, Tryd.ntmps30
    go_wp2
    go_ret
    exact ⟨none, 0, fun _ => undef, rfl, rows5_nil _ _ _, fun p h => (by cases h), Below.refl _ _⟩
  · have heq := fun w : World => Lib.run_eql_slice_nil (P := Tryd.prog) w 26 28 (some ad) l.length C 0 0 Tryd.underlying26
    obtain ⟨ys, hyl, hys, hy1, hyr⟩ : ∃ ys : List Value, ys.length = l.length * 5 ∧ (∀ j u, ys[j]? = some u → w.cell? (ad.add j) = some u) ∧ (∀ u ∈ ys, u.oneCell' = true) ∧
        (∀ k (hk : k < l.length), ∃ a c A' C', ys[k * 5]? = some (.int .i64 l[k].k) ∧ ys[k * 5 + 1]? = some (.int .u64 l[k].n) ∧ ys[k * 5 + 2]? = some (.slice a l[k].b.length c) ∧ ys[k * 5 + 3]? = some (.string ⟨l[k].s.toArray⟩) ∧ ys[k * 5 + 4]? = some (.slice A' l[k].l.length C')) := by
      rcases hr with rfl | ⟨g, o, h, hg, hl⟩
      · exact ⟨[], rfl, fun j u h => (by simp at h), fun u h => (by cases h), fun k hk => (by simp at hk)⟩
      · injection h with h
        subst h
        refine ⟨flatC w g o l.length, flatC_length _ _ _ _, fun j u hu => ?_, fun u hu => ?_, fun k hk => ?_⟩
        · have hj : j < l.length * 5 := by
            have := (List.getElem?_eq_some_iff.1 hu).1
            rwa [flatC_length] at this
          obtain ⟨u', hc, _⟩ := flat_cell hl hg j hj
          rw [flatC_at hj, hc] at hu
          rw [mk_addr_add, hc]
          simpa using hu
        · obtain ⟨i, hi, rfl⟩ := List.getElem_of_mem hu
          have hi' : i < l.length * 5 := by rwa [flatC_length] at hi
          obtain ⟨u', hc, h1⟩ := flat_cell hl hg i hi'
          have := flatC_at (w := w) (g := g) (o := o) hi'
          rw [hc, List.getElem?_eq_getElem hi] at this
          injection this with this
          rw [this]
          exact h1
        · obtain ⟨a, c, A', C', h0, h1, h2, h3, h4⟩ := hl.cells hg k hk
          refine ⟨a, c, A', C', ?_, ?_, ?_, ?_, ?_⟩
          · rw [flatC_at (by omega), h0]; rfl
          · rw [flatC_at (by omega), show o + (k * 5 + 1) = o + k * 5 + 1 by omega, h1]; rfl
          · rw [flatC_at (by omega), show o + (k * 5 + 2) = o + k * 5 + 2 by omega, h2]; rfl
          · rw [flatC_at (by omega), show o + (k * 5 + 3) = o + k * 5 + 3 by omega, h3]; rfl
          · rw [flatC_at (by omega), show o + (k * 5 + 4) = o + k * 5 + 4 by omega, h4]; rfl
    have HYL := Lib.hid hyl
    have HY1 := Lib.hid hy1
    have HYR := Lib.hid hyr
    have HYS : Hid (∀ j u, ys[j]? = some u → (w.alloc (.cells #[] 28)).cell? (ad.add j) = some u) := by
      intro j u hu
      exact Lib.cell?_alloc_some _ (hys j u hu)
    have hown : (w.alloc (.cells #[] 28)).ownsRow w.heap.size 28 5 (.slice (some ⟨w.heap.size, 0, none⟩) 0 0) 0 [] := by
      refine ⟨rfl, .inr ⟨w.heap.size, 0, #[], rfl, Nat.le_refl _, World.alloc_heap_new w _, ?_⟩⟩
      refine ⟨Nat.le_refl _, by decide, rfl, rfl⟩
    have HO := Lib.hid hown
    clear hyl hys hy1 hyr hr hown
    go_enter Tryd.func30, Tryd.ntmps30
    go_wp2_with (at_builtin; refine wpList_app5 _ rfl _ _ 26 rfl w.heap.size 28 _ 5 80 Tryd.underlying26 info_item rfl (by decide) _ 0 [] rfl HO.out ad l.length C ys rfl HYL.out HYS.out HY1.out (by unfold maxLen; omega) (by omega) (by simp) ?_; intro v' w2 h2 h3 h5)
    go_ret
    have hb : Below w.heap.size w w2 := ((Below.refl _ _).alloc (Nat.le_refl _) _).grown h3 (by simp) (fun r e => by cases e; exact Nat.le_refl _)
    simp only [Nat.zero_add, List.nil_append] at h2
    rcases h2.2 with ⟨rfl, h0⟩ | ⟨gg, cp, cur, rfl, hb0, hg, hn9, hm9, hs9, htk⟩
    · have h0' : l.length = 0 := h0
      obtain rfl : l = [] := List.eq_nil_of_length_eq_zero h0'
      exact ⟨none, 0, fun _ => undef, rfl, rows5_nil _ _ _, fun p h => (by cases h), hb⟩
    · have hlt := (Array.getElem?_eq_some_iff.1 hg).1
      have hcell : ∀ i, i < l.length * 5 → w2.cell? ⟨gg, i, none⟩ = ys[i]? := fun i hi => by
        have h1 : w2.cell? ⟨gg, i, none⟩ = cur[i]? := by simp [World.cell?, hg]
        rw [h1, ← htk]
        simp [List.getElem?_take, hi]
      refine ⟨some ⟨gg, 0, none⟩, cp, fun k => if hk : k < l.length then .agg #[.int .i64 l[k].k, .int .u64 l[k].n, (ys[k * 5 + 2]?.getD undef), (ys[k * 5 + 3]?.getD undef), (ys[k * 5 + 4]?.getD undef)] else undef, rfl, fun k hk => ?_, fun p h => (by cases h; exact ⟨hb0, hlt⟩), hb⟩
      obtain ⟨a, c, A', C', y0, y1, y2, y3, y4⟩ := HYR.out k hk
      refine ⟨gg, 0, a, l[k].b.length, c, ⟨l[k].s.toArray⟩, A', l[k].l.length, C', rfl, ?_, hlt, ?_, ?_, ?_, ?_, ?_⟩
      · simp only [dif_pos hk, y2, y3, y4, Option.getD_some]
      · rw [Nat.zero_add, hcell _ (by omega), y0]
      · rw [Nat.zero_add, hcell _ (by omega), y1]
      · rw [Nat.zero_add, hcell _ (by omega), y2]
      · rw [Nat.zero_add, hcell _ (by omega), y3]
      · rw [Nat.zero_add, hcell _ (by omega), y4]

/-- The items whose numbers Uints goes over. -/
def uL (x : It) : List It := if x.k = 4 then x.l else []

def UintsP (w : World) (l : List It) (e : Ending) (w' : World) : Prop :=
  ∃ Ns A' C' V, e = .returned (.func (.func 52) #[] #[.pointer (some ⟨Ns, 0, none⟩)]) ∧ w'.cell? ⟨Ns, 0, none⟩ = some (.slice A' l.length C') ∧ (w.heap.size ≤ Ns ∧ Ns < w'.heap.size) ∧ Rows5 w' A' l V ∧
    (∀ p, A' = some p → w.heap.size ≤ p.block ∧ p.block < w'.heap.size) ∧ Below w.heap.size w w'

theorem Rows5.alloc {w : World} {A : Option Addr} {l : List It} {V : Nat → Value} (h : Rows5 w A l V) (o : Obj) : Rows5 (w.alloc o) A l V := fun k hk => by
  obtain ⟨g, o', a2, n2, c2', s3, a4, n4, c4', e1, e2, e3, c0, c1, c2, c3, c4⟩ := h k hk
  exact ⟨g, o', a2, n2, c2', s3, a4, n4, c4', e1, e2, by rw [World.size_alloc]; omega, Lib.cell?_alloc_some _ c0, Lib.cell?_alloc_some _ c1, Lib.cell?_alloc_some _ c2, Lib.cell?_alloc_some _ c3, Lib.cell?_alloc_some _ c4⟩

set_option maxRecDepth 100000 in
set_option maxHeartbeats 4000000 in
theorem uints_any (x : It) (v : Value) (w : World) (hv : ItV w w.heap.size v x) (hlen : x.l.length ≤ 1000000) :
    Calls Tryd.prog 15 #[v] w (UintsP w (uL x)) := by
  obtain ⟨k, n, b, s, l⟩ := x
  have hv0 := hv
  simp only [ItV] at hv
  obtain ⟨A, ⟨a, c, C, rfl, h2, h3, hn, hk, h4, h5, h6⟩, hl⟩ := hv
  have hB0 := below_al (Below.refl w.heap.size w) (.cells #[.int .i64 k, .int .u64 n, .slice a b.length c, .string ⟨s.toArray⟩, .slice A l.length C] 28)
  have hl2 : l.length ≤ 1000000 := hlen
  have HRl : Hid (l = [] ∨ ∃ g o, A = some ⟨g, o, none⟩ ∧ g < (w.alloc (.cells #[.int .i64 k, .int .u64 n, .slice a b.length c, .string ⟨s.toArray⟩, .slice A l.length C] 28)).heap.size ∧ ItL (w.alloc (.cells #[.int .i64 k, .int .u64 n, .slice a b.length c, .string ⟨s.toArray⟩, .slice A l.length C] 28)) (w.alloc (.cells #[.int .i64 k, .int .u64 n, .slice a b.length c, .string ⟨s.toArray⟩, .slice A l.length C] 28)).heap.size g o l) := by
    rcases hl with rfl | ⟨g, o, hA, hg, hl⟩
    · exact .inl rfl
    · exact .inr ⟨g, o, hA, Nat.lt_of_lt_of_le hg hB0.size, ItL.mono hB0.size l (ItL.below hB0 hg l hl)⟩
  clear hv0 h2 h3 hn hk h4 h5 h6 hl hlen
  by_cases e4 : k = 4
  · subst e4
    have hu : uL (.mk 4 n b s l) = l := rfl
    rw [hu]
    go_enter Tryd.func15, Tryd.ntmps15
    go_wp2_with fail
    refine (iclone_any A C l _ hl2 HRl.out).mono ?_
    rintro e w1 ⟨A', C', V, rfl, hrw, hA', hb1⟩
    have HRW := Lib.hid hrw
    have HA' := Lib.hid hA'
    have HB1 := Lib.hid (hB0.trans (hb1.mono hB0.size))
    have hz := hB0.size
    clear hrw hA' hb1 hB0
    go_wp2_with fail
    refine (numbers_any A' l.length C' w1).mono ?_
    rintro e w2 ⟨rfl, rfl⟩
    go_wp2_with fail
    go_ret
    refine ⟨w1.heap.size, A', C', V, rfl, by simp, ⟨HB1.out.size, by simp⟩, HRW.out.alloc _, fun p hp => ?_, below_al HB1.out _⟩
    have h := HA'.out p hp
    simp at h
    exact ⟨by omega, by rw [World.size_alloc]; omega⟩
  · have hne : (k != 4) = true := by simpa using e4
    have hu : uL (.mk k n b s l) = [] := if_neg e4
    rw [hu]
    clear e4 hu
    go_enter Tryd.func15, Tryd.ntmps15
    go_wp2_with fail
    refine (numbers_any none 0 0 _).mono ?_
    rintro e w2 ⟨rfl, rfl⟩
    go_wp2_with fail
    go_ret
    exact ⟨w.heap.size + 1, none, 0, fun _ => undef, by simp, by have := (Boxed.new (w.alloc (.cells #[.int .i64 k, .int .u64 n, .slice a b.length c, .string ⟨s.toArray⟩, .slice A l.length C] 28)) 26 (.slice none 0 0)).cell; rw [World.size_alloc] at this; exact this, ⟨by omega, by simp⟩, rows5_nil _ _ _, fun p h => (by cases h), below_al hB0 _⟩

end Go.Proofs.YtncemmhbbkpieaaDoor
