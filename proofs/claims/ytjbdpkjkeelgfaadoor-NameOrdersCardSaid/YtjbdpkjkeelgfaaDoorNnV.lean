/- slices.Values of names; name.Sorted's own way over them. -/
import Derived.Test.YtjbdpkjkeelgfaaDoorNnA
namespace Go.Proofs.YtjbdpkjkeelgfaaDoor
open Go Go.RowKit Go.Shelf
set_option linter.unusedSimpArgs false
set_option linter.unusedVariables false

attribute [local go_sem] Oper.semAt_some

theorem ownFrom_upN {β : Type} {B B' : Nat} {I : β → World → Prop} (h : OwnFrom B I) (hB : B ≤ B') : OwnFrom B' I := fun s W W' row hs hg hr => h s W W' row hs hg (fun r e => ⟨Nat.le_trans hB (hr r e).1, (hr r e).2⟩)

set_option maxRecDepth 100000 in
set_option maxHeartbeats 2000000 in
theorem nvalues_goes (Bs : Nat) (S : Nat → Prop) (A : Option Addr) (C : Nat) (ss : List NmS) (w : World) (hlen : ss.length ≤ 140737488355328) (hBs : Bs < w.heap.size) (hS : ∀ p, A = some p → S p.block) (hSw : ∀ b, S b → b < w.heap.size)
    (hc : w.cell? ⟨Bs, 0, none⟩ = some (.slice A ss.length C)) (hr : RdNs w w.heap.size A ss) :
    GoesO Tryd.prog 85 #[.pointer (some ⟨Bs, 0, none⟩)] (fun k => #[nmAt ss k]) S ss.length w := by
  intro L J Jx W hW hJ hJx hY h0
  have hcW := (hW.cell (p := ⟨Bs, 0, none⟩) hBs).trans hc
  have hWS := hW.size
  have HR : Hid (RdNs W w.heap.size A ss) := hr.below hW
  clear hc hr hW
  refine (callsIn_wide (n := 10)).1 (callsIn_of_wp Tryd.func85 rfl trivial ?_ rfl)
  simp only [Tryd.ntmps85, List.size_toArray, List.length_cons, List.length_nil, Nat.reduceAdd, Nat.reduceSub, Array.replicate_succ, Array.replicate_zero, List.push_toArray, List.append_toArray, List.nil_append, List.cons_append]
  gi_wp2
  gi_loopw [7] (fun i wr => ∃ k : Nat, k ≤ ss.length ∧ i = .int .i64 k ∧ J k wr ∧ KeepB S W wr ∧ W.heap.size ≤ wr.heap.size) (fun i _ => ss.length - (intOf i).toNat)
  case atStart => exact ⟨0, Nat.zero_le _, rfl, h0, KeepB.refl _ _, Nat.le_refl _⟩
  case round =>
    obtain ⟨k, hk, rfl, hJs, hnx, hsz⟩ := hrel
    by_cases hlt : k < ss.length
    · obtain ⟨g, o, rfl, hg, c0, c1, c2, c3⟩ := HR.out.cells k hlt
      have hblk := hnx g (hS _ rfl)
      have x0 := (World.cell?_of_block (a := ⟨g, o + k * 4, none⟩) hblk).trans c0
      have x1 := (World.cell?_of_block (a := ⟨g, o + k * 4 + 1, none⟩) hblk).trans c1
      have x2 := (World.cell?_of_block (a := ⟨g, o + k * 4 + 2, none⟩) hblk).trans c2
      have x3 := (World.cell?_of_block (a := ⟨g, o + k * 4 + 3, none⟩) hblk).trans c3
      obtain ⟨fn, tmps, assign, body, hy, hR⟩ := hY k (wr.alloc (.cells #[.int .u32 (atN ss k).1.n, .int .u32 (atN ss k).1.m, .int .u64 (atN ss k).1.t, .int .u32 (atN ss k).1.q] 47)) hlt (hJ.alloc _ hJs) (by rw [World.size_alloc]; omega)
      have hszA : (wr.alloc (.cells #[.int .u32 (atN ss k).1.n, .int .u32 (atN ss k).1.m, .int .u64 (atN ss k).1.t, .int .u32 (atN ss k).1.q] 47)).heap.size = wr.heap.size + 1 := World.size_alloc _ _
      simp only [nmAt] at hy
      have HSZ := Lib.hid hszA
      have HBK := Lib.hid hnx
      clear c0 c1 c2 c3 hblk hszA hnx
      gi_wp2
      refine hR.mono ?_
      rintro e W3 (⟨rfl, hJ3, hz3, hk3⟩ | ⟨rfl, hJx3, _, _⟩)
      · have HK3 := Lib.hid hk3
        have HBK3 : Hid (KeepB S W W3) := fun b hb => by
          have h1 := HBK.out b hb
          have hbl : b < wr.heap.size := Nat.lt_of_lt_of_le (Nat.lt_of_lt_of_le (hSw b hb) hWS) hsz
          exact (HK3.out b (.inl hb)).trans ((Below.heap_alloc wr _ b hbl).trans h1)
        have HSZ3 : Hid (W.heap.size ≤ W3.heap.size) := by simp only [Hid]; have := HSZ.out; omega
        clear hk3 hz3
        gi_wp2
        go_roundw
        case rel => exact ⟨k + 1, by omega, by simp, hJ3, HBK3.out, HSZ3.out⟩
        case measure => simp [intOf]; omega
      · gi_wp2
        refine bodyPost_ret (results_none rfl _ _ _) rfl ?_
        exact ⟨⟨_, rfl⟩, .inr ⟨k, hlt, hJx3⟩⟩
    · obtain rfl : k = ss.length := by omega
      gi_wp2
      go_end0
      exact ⟨⟨_, rfl⟩, .inl hJs⟩

set_option maxHeartbeats 400000 in
theorem nvalues_any (a : Option Addr) (n c : Nat) (w : World) :
    Calls Tryd.prog 68 #[.slice a n c] w fun e w' => e = .returned (.func (.func 85) #[] #[.pointer (some ⟨w.heap.size, 0, none⟩)]) ∧ w' = w.alloc (.cells #[.slice a n c] 68) := by
  have hmf : ∀ (fn : Fn) (first cap : Array Value) (w : World), (Instr.makeFunc fn first cap).run Tryd.prog w = .ok (.func fn first cap) w := fun _ _ _ _ => rfl
  go_enter Tryd.func68, Tryd.ntmps68
  go_wp2
  go_ret
  exact ⟨rfl, rfl⟩

set_option maxRecDepth 100000 in
set_option maxHeartbeats 4000000 in
theorem nsorted_goes (Ns : Nat) (S : Nat → Prop) (A : Option Addr) (C : Nat) (ss : List NmS) (w : World) (hlen : ss.length ≤ 140737488355328) (hNs : Ns < w.heap.size) (hS : ∀ p, A = some p → S p.block) (hSw : ∀ b, S b → b < w.heap.size)
    (hc : w.cell? ⟨Ns, 0, none⟩ = some (.slice A ss.length C)) (hr : RdNs w w.heap.size A ss) :
    GoesO Tryd.prog 67 #[.pointer (some ⟨Ns, 0, none⟩)] (fun k => #[nmAt ss k]) S ss.length w := by
  intro L J Jx W hW hJ hJx hY h0
  have hcW := (hW.cell (p := ⟨Ns, 0, none⟩) hNs).trans hc
  have hWS := hW.size
  have HR : Hid (∀ W', Below W.heap.size W W' → RdNs W' W'.heap.size A ss) := fun W' hb => (hr.below (hW.trans (hb.mono hWS))).mono (Nat.le_trans hWS hb.size)
  have hNsW : Ns < W.heap.size := Nat.lt_of_lt_of_le hNs hWS
  clear hc hr hW
  refine calls_of_marks Tryd.func67 rfl ?_
  simp only [Tryd.ntmps67, List.size_toArray, List.length_cons, List.length_nil, Nat.reduceAdd, Nat.reduceSub, Array.replicate_succ, Array.replicate_zero, List.push_toArray, List.append_toArray, List.nil_append, List.cons_append]
  go_wp2
  go_step3
  go_wp2
  go_step3
  go_wp2_with (go_at_call 68; refine (nvalues_any _ _ _ _).mono ?_; rintro e w2 ⟨rfl, rfl⟩)
  have hB : Below W.heap.size W ((W.alloc (.cells #[.func (.yield L) #[] #[]] 51)).alloc (.cells #[.slice A ss.length C] 68)) := ((Below.refl _ _).alloc (Nat.le_refl _) _).alloc (by simp) _
  have b1 : Boxed ((W.alloc (.cells #[.func (.yield L) #[] #[]] 51)).alloc (.cells #[.slice A ss.length C] 68)) W.heap.size 51 (.func (.yield L) #[] #[]) := (Boxed.new W _ _).alloc _
  have b2 := (Boxed.new (W.alloc (.cells #[.func (.yield L) #[] #[]] 51)) 68 (.slice A ss.length C)).cell
  rw [World.size_alloc] at b2
  obtain ⟨W2, hW2⟩ : ∃ W2, W2 = (W.alloc (.cells #[.func (.yield L) #[] #[]] 51)).alloc (.cells #[.slice A ss.length C] 68) := ⟨_, rfl⟩
  have hs2 : W2.heap.size = W.heap.size + 2 := by rw [hW2]; simp
  rw [← hW2] at hB b1 b2 ⊢
  have HW2 := Lib.hid hW2
  have J0 : J 0 W2 := by rw [hW2]; exact hJ.alloc _ (hJ.alloc _ h0)
  clear hW2
  have hIO : OwnFrom W2.heap.size (fun (k : Nat) X => J k X ∧ Boxed X W.heap.size 51 (.func (.yield L) #[] #[]) ∧ W2.heap.size ≤ X.heap.size) :=
    OwnFrom.and (fun k X Y row hs hg hr => (ownFrom_upN (B := W.heap.size) (B' := W2.heap.size) hJ (by omega)) k X Y row hs hg hr) (OwnFrom.and ((boxed_own _ _ _).from _) (fun k X Y row hs hg hr => Nat.le_trans hs hg.size))
  have hJO : OwnFrom W2.heap.size J := ownFrom_upN (B := W.heap.size) hJ (by omega)
  have hJxO : OwnFrom W2.heap.size Jx := ownFrom_upN (B := W.heap.size) hJx (by omega)
  refine wp_rangeGoesO (gf := 85) (lb := #[.pointer (some ⟨W.heap.size + 1, 0, none⟩)]) rfl (enters_of Tryd.func85 (by kernel_rfl) rfl)
    (nvalues_goes (W.heap.size + 1) S A C ss W2 hlen (by omega) hS (fun b hb => by have := hSw b hb; omega) b2 (HR.out W2 hB)) (fun b hb => by have := hSw b hb; omega) (fun _ => rfl)
    (fun k X => J k X ∧ Boxed X W.heap.size 51 (.func (.yield L) #[] #[]) ∧ W2.heap.size ≤ X.heap.size)
    (fun c k X => c = .exit 0 ∧ k < ss.length ∧ Jx k X)
    hIO (fun c => OwnFrom.and (ownFrom_pure _ (fun _ => c = .exit 0)) (OwnFrom.and (ownFrom_pure _ _) (fun k X Y row hs hg hr => hJxO k X Y row hs hg hr))) ⟨J0, b1, Nat.le_refl _⟩
    (fun k a' X => ∃ bx, a' = { tmps := #[.func (.yield L) #[] #[], .pointer (some ⟨Ns, 0, none⟩), .pointer (some ⟨W.heap.size, 0, none⟩), .pointer (some ⟨bx, 0, none⟩), .slice A ss.length C, .func (.func 85) #[] #[.pointer (some ⟨W.heap.size + 1, 0, none⟩)], nmAt ss k, undef, undef, undef, undef], defers := [] } ∧ CellN X bx 0 (atN ss k))
    (fun k a' s X Y row hs hg hr => by
      obtain ⟨bx, e, c0, c1, c2, c3⟩ := hs
      exact ⟨bx, e, cell_kept c0 hg (fun r e => (hr r e).2), cell_kept c1 hg (fun r e => (hr r e).2), cell_kept c2 hg (fun r e => (hr r e).2), cell_kept c3 hg (fun r e => (hr r e).2)⟩) ?assign ?body ?done ?stop
  case assign =>
    intro ll k X K hk hI hK
    have HI := Lib.hid hI
    have HKk := Lib.hid hK
    unfold nmAt
    clear hI hK
    gi_wp2
    refine HKk.out _ _ ((KeepsOthers.alloc _ _).from _) (fun b hb => ?_) (hIO.alloc _ HI.out) ⟨X.heap.size, rfl, by simp, by simp, by simp, by simp⟩
    refine Below.heap_alloc X _ b ?_
    rcases hb with hb | hb
    · have := hSw b hb; have := HI.out.2.2; omega
    · exact hb.2
  case body =>
    rintro ll k a' X hk hl _ ⟨hJk, hbx, hsz⟩ ⟨bx, rfl, c0, c1, c2, c3⟩
    have HBx := Lib.hid hbx
    have hyc := hbx.cell
    obtain ⟨fn, tmps, assign, body, hy, hR⟩ := hY k X hk hJk (by omega)
    simp only [nmAt] at hy
    clear hJk hbx
    unfold nmAt
    gi_wp2
    refine (roundIn_any hR).mono ?_
    rintro e X3 (⟨rfl, hJ3, hz3, hk3⟩ | ⟨rfl, hJx3, hz3, hk3⟩)
    · have HK3 := Lib.hid hk3
      have hbx3 : Boxed X3 W.heap.size 51 (.func (.yield L) #[] #[]) := (hk3 W.heap.size (.inr ⟨Nat.le_refl _, by omega⟩)).trans HBx.out
      have HB3 := Lib.hid hbx3
      clear hk3 hbx3 hyc
      gi_wp2
      refine ⟨⟨hz3, fun i o' hi ho _ => ?_⟩, fun b hb => ?_, hJ3, HB3.out, by omega⟩
      · exact (HK3.out i (.inr ⟨by omega, (Array.getElem?_eq_some_iff.1 ho).1⟩)).trans ho
      · rcases hb with hb | hb
        · exact HK3.out b (.inl hb)
        · exact HK3.out b (.inr ⟨by omega, hb.2⟩)
    · have HK3 := Lib.hid hk3
      clear hk3 hyc
      gi_wp2
      refine ⟨⟨⟨hz3, fun i o' hi ho _ => (HK3.out i (.inr ⟨by omega, (Array.getElem?_eq_some_iff.1 ho).1⟩)).trans ho⟩, fun b hb => ?_⟩, rfl, hk, hJx3⟩
      rcases hb with hb | hb
      · exact HK3.out b (.inl hb)
      · exact HK3.out b (.inr ⟨by omega, hb.2⟩)
  case done =>
    rintro D X hD ⟨hJk, hbx, hsz⟩ hK
    have HJk := Lib.hid hJk
    clear hJk hbx
    go_wp2
    refine marks_one hK (results_none rfl _ _ _) ?_
    exact ⟨⟨_, rfl⟩, .inl (hJO.putObj _ HJk.out (by omega) hK rfl)⟩
  case stop =>
    rintro D c k X hD hk ⟨rfl, hlt, hJx3⟩ hK
    have HJx := Lib.hid hJx3
    clear hJx3
    go_wp2
    refine marks_one hK (results_none rfl _ _ _) ?_
    exact ⟨⟨_, rfl⟩, .inr ⟨_, hlt, hJxO.putObj _ HJx.out (by omega) hK rfl⟩⟩

end Go.Proofs.YtjbdpkjkeelgfaaDoor
