/- Package octet's way over bytes ('each', and the function that it hands out), and Get. -/
import Derived.Test.YtncemmhbbkpieaaDoorOctD
import Derived.Test.YtncemmhbbkpieaaDoorRange
namespace Go.Proofs.YtncemmhbbkpieaaDoor
open Go.RowKit Go.Shelf

attribute [local go_sem] Oper.semAt_some

set_option maxHeartbeats 400000 in
theorem each_any (a : Option Addr) (n c : Nat) (w : World) :
    Calls Tryd.prog 66 #[.slice a n c] w fun e w' => e = .returned (.func (.func 81) #[] #[.pointer (some ⟨w.heap.size, 0, none⟩)]) ∧ w' = w.alloc (.cells #[.slice a n c] 22) := by
  have hmf : ∀ (fn : Fn) (first cap : Array Value) (w : World), (Instr.makeFunc fn first cap).run Tryd.prog w = .ok (.func fn first cap) w := fun _ _ _ _ => rfl
  go_enter Tryd.func66, Tryd.ntmps66
  go_wp2
  go_ret
  exact ⟨rfl, rfl⟩

/-- What the way over bytes hands over, round by round: the place, the byte. -/
def encE (bs : List UInt8) (k : Nat) : Array Value := #[.int .i64 (k : Int), .int .u8 (byteAt bs k)]

set_option maxRecDepth 100000 in
set_option maxHeartbeats 2000000 in
theorem each_goes (Bs B : Nat) (S : Nat → Prop) (a : Option Addr) (c : Nat) (bs : List UInt8) (w : World) (hlen : bs.length ≤ 140737488355328) (hBs : Bs < w.heap.size) (hB : B ≤ w.heap.size) (hS : ∀ p, bs ≠ [] → a = some p → S p.block)
    (hc : w.cell? ⟨Bs, 0, none⟩ = some (.slice a bs.length c)) (hr : RdB w B a bs) :
    Goes Tryd.prog 81 #[.pointer (some ⟨Bs, 0, none⟩)] (encE bs) S bs.length w := by
  intro l J Jx W hW hJ hJx hY h0
  have hcW := (hW.cell (p := ⟨Bs, 0, none⟩) hBs).trans hc
  have hrW := hr.below (hW.mono hB)
  clear hc hr hW
  refine callsIn_of_wp Tryd.func81 rfl trivial ?_ rfl
  simp only [Tryd.ntmps81, List.size_toArray, List.length_cons, List.length_nil, Nat.reduceAdd, Nat.reduceSub, Array.replicate_succ, Array.replicate_zero, List.push_toArray, List.append_toArray, List.nil_append, List.cons_append]
  gi_wp2
  gi_loopw [7] (fun i wr => ∃ k : Nat, k ≤ bs.length ∧ i = .int .i64 k ∧ J k wr ∧ KeepB S W wr) (fun i _ => bs.length - (intOf i).toNat)
  case atStart => exact ⟨0, Nat.zero_le _, rfl, h0, KeepB.refl _ _⟩
  case round =>
    obtain ⟨k, hk, rfl, hJs, hnx⟩ := hrel
    by_cases hlt : k < bs.length
    · rcases hrW with rfl | ⟨b, o, rfl, hb, hcs⟩
      · simp at hlt
      have hcx := (World.cell?_of_block (a := ⟨b, o + k, none⟩) (hnx b (hS ⟨b, o, none⟩ (by rintro rfl; simp at hlt) rfl))).trans (hcs k hlt)
      obtain ⟨fn, tmps, assign, body, hy, hR⟩ := hY k wr hlt hJs
      simp only [encE] at hy
      clear hcs
      gi_wp2
      refine hR.mono ?_
      rintro e W3 (⟨rfl, hJ3, hk3⟩ | ⟨rfl, hJx3⟩)
      · gi_wp2
        go_roundw
        case rel => exact ⟨k + 1, by omega, by simp, hJ3, hnx.trans hk3⟩
        case measure => simp [intOf]; omega
      · gi_wp2
        refine bodyPost_ret (results_none rfl _ _ _) rfl ?_
        exact ⟨⟨_, rfl⟩, .inr ⟨k, hlt, hJx3⟩⟩
    · obtain rfl : k = bs.length := by omega
      gi_wp2
      go_end0
      exact ⟨⟨_, rfl⟩, .inl hJs⟩

/-- The number of the first k bytes. -/
def valB (bs : List UInt8) : Nat → Int
  | 0 => 0
  | k + 1 => valB bs k * 256 + byteAt bs k

theorem valB_bd (bs : List UInt8) (k : Nat) : 0 ≤ valB bs k ∧ valB bs k < 256 ^ k := by
  induction k with
  | zero => exact ⟨Int.le_refl _, by simp [valB]⟩
  | succ k ih =>
    have h0 := byteAt_lo bs k
    have h1 := byteAt_hi bs k
    have e : (256 : Int) ^ (k + 1) = 256 ^ k * 256 := Int.pow_succ _ _
    simp only [valB]
    rw [e]
    omega

theorem pow256_le {k m : Nat} (h : k ≤ m) : (256 : Int) ^ k ≤ 256 ^ m := by
  have h1 : (256 : Nat) ^ k ≤ 256 ^ m := Nat.pow_le_pow_right (by omega) h
  have h2 := Int.ofNat_le.2 h1
  rwa [Int.natCast_pow, Int.natCast_pow] at h2

/-- One byte more, as the program reckons it. -/
theorem valB_step (bs : List UInt8) (k : Nat) (hk : k < 8) : bits BinOp.or IntKind.u64 (IntKind.u64.wrap (valB bs k * 256)) (byteAt bs k) = valB bs (k + 1) := by
  have hb := valB_bd bs k
  have h0 := byteAt_lo bs k
  have h1 := byteAt_hi bs k
  have h7 : (256 : Int) ^ k ≤ 72057594037927936 := by
    have := pow256_le (k := k) (m := 7) (by omega)
    have e : (256 : Int) ^ 7 = 72057594037927936 := by decide
    omega
  have hw : IntKind.u64.wrap (valB bs k * 256) = valB bs k * 256 := by
    rw [IntKind.wrap_u64]
    omega
  rw [hw]
  have p64 : (2 : Int) ^ 64 = 18446744073709551616 := by decide
  have p8 : (2 : Int) ^ 8 = 256 := by decide
  have hj := bits_join .u64 64 (by decide) (fun n h0 h1 => by rw [IntKind.wrap_u64]; rw [p64] at h1; omega) 8 (valB bs k * 256) (byteAt bs k)
  rw [p64, p8] at hj
  exact hj (by omega) (by omega) (by omega) h0 (by omega) (by omega)

set_option maxRecDepth 100000 in
set_option maxHeartbeats 1000000 in
theorem get_arg (a : Option Addr) (n c : Nat) (w : World) (hx : isW n = false) :
    Calls Tryd.prog 54 #[.slice a n c] w fun e w' => e = .returned (.tuple #[.int .u64 0, .int .i64 2]) ∧ Below w.heap.size w w' := by
  refine calls_of_marks Tryd.func54 rfl ?_
  simp only [Tryd.ntmps54, List.size_toArray, List.length_cons, List.length_nil, Nat.reduceAdd, Nat.reduceSub, Array.replicate_succ, Array.replicate_zero, List.push_toArray, List.append_toArray, List.nil_append, List.cons_append]
  go_wp2
  refine wp_scope_on 0 rfl ?_
  go_wp2_with (go_at_call 65; refine (right_any _ _).mono ?_; rintro e w' ⟨rfl, hb⟩)
  go_step3
  refine ⟨rfl, ?_⟩
  show Code.wp _ _ _ _ _
  go_wp2
  rw [Exit.noGoto_ret]
  refine marks_none (results_tmp2 rfl _ _ _) ?_
  exact ⟨rfl, ((Below.refl _ _).alloc (Nat.le_refl _) _).trans (hb.mono (by simp))⟩

set_option maxRecDepth 100000 in
set_option maxHeartbeats 1000000 in
theorem get_ok (a : Option Addr) (c : Nat) (bs : List UInt8) (w : World) (hx : isW bs.length = true) (hr : RdB w w.heap.size a bs) :
    Calls Tryd.prog 54 #[.slice a bs.length c] w fun e w' => e = .returned (.tuple #[.int .u64 (valB bs bs.length), .int .i64 0]) ∧ Below w.heap.size w w' := by
  have hlen : bs.length ≤ 8 := by
    have := isW_cases hx
    omega
  refine calls_of_marks Tryd.func54 rfl ?_
  simp only [Tryd.ntmps54, List.size_toArray, List.length_cons, List.length_nil, Nat.reduceAdd, Nat.reduceSub, Array.replicate_succ, Array.replicate_zero, List.push_toArray, List.append_toArray, List.nil_append, List.cons_append]
  go_wp2
  refine wp_scope_on 0 rfl ?_
  go_wp2_with (go_at_call 65; refine (right_any _ _).mono ?_; rintro e w1 ⟨rfl, hb⟩)
  refine (each_any _ _ _ _).mono ?_
  rintro e w2 ⟨rfl, rfl⟩
  go_wp2
  have hB1 : Below w.heap.size w w1 := ((Below.refl _ _).alloc (Nat.le_refl _) _).trans (hb.mono (by simp))
  have hs1 : w.heap.size < w1.heap.size := by
    have := hb.size
    simp at this
    omega
  have hB2 : Below w.heap.size w (w1.alloc (.cells #[.slice a bs.length c] 22)) := hB1.alloc hB1.size _
  have hbox : Boxed w1 w.heap.size 25 (.int .u64 0) := (hb.block _ (by simp)).trans (Boxed.new w _ _)
  refine wp_rangeGoes_plain (gf := 81) (lb := #[.pointer (some ⟨w1.heap.size, 0, none⟩)]) rfl (enters_of Tryd.func81 (by kernel_rfl) rfl)
    (each_goes w1.heap.size w.heap.size (· < w.heap.size) a c bs _ (by omega) (by simp) (by simp; omega) hr.lt (by simp) (hr.below hB2)) (fun b hb => by simp; omega) (fun _ => rfl)
    (fun k W => Boxed W w.heap.size 25 (.int .u64 (valB bs k)) ∧ Below w.heap.size w W) (fun _ _ _ => False)
    (OwnFrom.and (Own.from (boxed_own _ _ _) _) (ownFrom_below (Nat.le_refl _) (by simp; omega))) (fun _ _ _ _ _ hs _ _ => hs)
    ⟨hbox.alloc _, hB2⟩
    (fun k => { tmps := #[.slice a bs.length c, undef, .int .u64 0, .int .i64 0, .pointer (some ⟨w.heap.size, 0, none⟩), undef, .int .u8 (byteAt bs k), .slice a bs.length c, .int .i64 bs.length, .bool true, .bool false, .slice a bs.length c,
      .func (.func 81) #[] #[.pointer (some ⟨w1.heap.size, 0, none⟩)], .int .i64 (k : Int), .int .u8 (byteAt bs k), undef, undef, undef, undef, undef, undef], defers := [] }) ?assign ?body ?done ?stop
  case assign =>
    intro l k W K hK
    simp only [encE]
    gi_wp2
    exact hK
  case body =>
    rintro l k W hk hl _ ⟨hbx, hBW⟩
    have hcx := hbx.cell
    have hfx := hbx.frozen
    have hv0 : 0 ≤ byteAt bs k := byteAt_lo bs k
    have hv1 : byteAt bs k ≤ 255 := by have := byteAt_hi bs k; omega
    gi_wp2
    refine ⟨(KeepsOthers.setCell _ _ _).from _, keepB_below ((Below.refl _ _).setCell (p := ⟨w.heap.size, 0, none⟩) (Nat.le_refl _) _), ?_, hBW.setCell (p := ⟨w.heap.size, 0, none⟩) (Nat.le_refl _) _⟩
    rw [valB_step bs k (by omega)]
    exact hbx.set _
  case done =>
    rintro D W hD ⟨hbx, hBW⟩ hK
    have hcx := hbx.cell
    go_wp2
    simp only [Exit.jump]
    refine marks_one hK (results_tmp2 rfl _ _ _) ⟨rfl, hBW.grown (grownBy_putObj' _ _ _) hBW.size (fun r e => by cases e; simp at hD; omega)⟩
  case stop =>
    rintro D c k W _ _ h _
    exact h.elim

end Go.Proofs.YtncemmhbbkpieaaDoor
