/- The document's answers for Get and Begins; package octet's Begins. -/
import Derived.Test.YtncemmhbbkpieaaDoorOctE
import Derived.Deep.QuietTactic
import Derived.BigQuiet
namespace Go.Proofs.YtncemmhbbkpieaaDoor
open Go.RowKit Go.Shelf

attribute [local go_sem] Oper.semAt_some

set_option maxHeartbeats 400000 in
theorem refGet_arg (a : Option Addr) (n c : Nat) (w : World) (hx : isW n = false) :
    Calls Tryd.prog 57 #[.slice a n c] w fun e w' => e = .returned (.tuple #[.int .u64 0, .int .i64 2]) ∧ w = w' := by
  go_enter Tryd.func57, Tryd.ntmps57
  go_wp2_with (go_at_call 68; refine (width_any _ _).mono ?_; rintro e w' ⟨rfl, rfl⟩)
  go_ret2
  exact ⟨rfl, rfl⟩

set_option maxRecDepth 100000 in
set_option maxHeartbeats 1000000 in
theorem refGet_ok (a : Option Addr) (c : Nat) (bs : List UInt8) (B : Nat) (w : World) (hx : isW bs.length = true) (hr : RdB w B a bs) :
    Calls Tryd.prog 57 #[.slice a bs.length c] w fun e w' => e = .returned (.tuple #[.int .u64 (valB bs bs.length), .int .i64 0]) ∧ w = w' := by
  have hlen : bs.length ≤ 8 ∧ 1 ≤ bs.length := by
    have := isW_cases hx
    omega
  rcases hr with rfl | ⟨b, o, rfl, _, hcs⟩
  · simp at hlen
  go_enter Tryd.func57, Tryd.ntmps57
  go_wp2_with (go_at_call 68; refine (width_any _ _).mono ?_; rintro e w' ⟨rfl, rfl⟩)
  go_loop [4, 5] (fun v i => ∃ k : Nat, k ≤ bs.length ∧ i = .int .i64 k ∧ v = .int .u64 (valB bs k)) (fun _ i => bs.length - (intOf i).toNat)
  case atStart => exact ⟨0, Nat.zero_le _, rfl, rfl⟩
  case round =>
    obtain ⟨k, hk, rfl, rfl⟩ := hrel
    by_cases hlt : k < bs.length
    · have hcx := hcs k hlt
      have hv0 : 0 ≤ byteAt bs k := byteAt_lo bs k
      have hv1 : byteAt bs k ≤ 255 := by have := byteAt_hi bs k; omega
      go_wp2
      go_round
      case rel => exact ⟨k + 1, by omega, by go_num, by rw [valB_step bs k (by omega)]⟩
      case measure => simp [intOf]; omega
    · obtain rfl : k = bs.length := by omega
      go_wp2
      go_ret2
      exact ⟨rfl, rfl⟩

/-- Do the bytes begin so? -/
def begins (b a : List UInt8) : Bool := decide (a.length ≤ b.length) && (b.take a.length == a)

theorem begins_iff (b a : List UInt8) : begins b a = true ↔ ∀ j, j < a.length → j < b.length ∧ byteAt b j = byteAt a j := by
  simp only [begins, Bool.and_eq_true, decide_eq_true_eq, beq_iff_eq]
  constructor
  · rintro ⟨hl, he⟩ j hj
    exact ⟨by omega, by rw [← byteAt_take b a.length j hj, he]⟩
  · intro h
    have hl : a.length ≤ b.length := by
      rcases Nat.eq_zero_or_pos a.length with h0 | h0
      · omega
      · have := (h (a.length - 1) (by omega)).1
        omega
    refine ⟨hl, ext_bytes (by simp; omega) fun j hj => ?_⟩
    have hj' : j < a.length := by simp at hj; omega
    rw [byteAt_take b a.length j hj']
    exact (h j hj').2

/-- What the third of three new boxes holds. -/
theorem cell_box2 (w : World) (u v x : Value) (s t r : TypeId) : (((w.alloc (.cells #[u] s)).alloc (.cells #[v] t)).alloc (.cells #[x] r)).cell? ⟨w.heap.size + 1 + 1, 0, none⟩ = some x := by
  have h := (Boxed.new ((w.alloc (.cells #[u] s)).alloc (.cells #[v] t)) r x).cell
  simpa using h

set_option maxRecDepth 100000 in
set_option maxHeartbeats 1000000 in
theorem begins_any (a1 a2 : Option Addr) (c1 c2 : Nat) (b ah : List UInt8) (w : World) (h1 : RdB w w.heap.size a1 b) (h2 : RdB w w.heap.size a2 ah) (hl1 : b.length ≤ 140737488355328) (hl2 : ah.length ≤ 140737488355328) :
    Calls Tryd.prog 55 #[.slice a1 b.length c1, .slice a2 ah.length c2] w fun e w' => e = .returned (.bool (begins b ah)) ∧ Below w.heap.size w w' := by
  refine calls_of_marks Tryd.func55 rfl ?_
  simp only [Tryd.ntmps55, List.size_toArray, List.length_cons, List.length_nil, Nat.reduceAdd, Nat.reduceSub, Array.replicate_succ, Array.replicate_zero, List.push_toArray, List.append_toArray, List.nil_append, List.cons_append]
  go_wp2
  go_step3
  go_wp2
  go_step3
  go_wp2_with (go_at_call 66; refine (each_any _ _ _ _).mono ?_; rintro e w2 ⟨rfl, rfl⟩)
  have hB : Below w.heap.size w (((w.alloc (.cells #[.slice a1 b.length c1] 22)).alloc (.cells #[.int .i64 0] 3)).alloc (.cells #[.slice a2 ah.length c2] 22)) :=
    (((Below.refl _ _).alloc (Nat.le_refl _) _).alloc (by simp) _).alloc (by simp; omega) _
  have b1 : Boxed (w.alloc (.cells #[.slice a1 b.length c1] 22)) w.heap.size 22 (.slice a1 b.length c1) := Boxed.new w _ _
  have b2 := Boxed.new (w.alloc (.cells #[.slice a1 b.length c1] 22)) 3 (.int .i64 0)
  rw [World.size_alloc] at b2
  refine wp_rangeGoes_plain (gf := 81) (lb := #[.pointer (some ⟨w.heap.size + 1 + 1, 0, none⟩)]) rfl (enters_of Tryd.func81 (by kernel_rfl) rfl)
    (each_goes (w.heap.size + 1 + 1) w.heap.size (· < w.heap.size) a2 c2 ah _ hl2 (by simp) (by simp; omega) h2.lt (cell_box2 w _ _ _ _ _ _) (h2.below hB)) (fun b hb => by simp; omega) (fun _ => rfl)
    (fun k W => (Boxed W w.heap.size 22 (.slice a1 b.length c1) ∧ Boxed W (w.heap.size + 1) 3 (.int .i64 (k : Int)) ∧ ∀ j, j < k → j < b.length ∧ byteAt b j = byteAt ah j) ∧ Below w.heap.size w W)
    (fun c k W => (c = .exit 0 ∧ Boxed W (w.heap.size + 1) 3 (.int .i64 (k : Int)) ∧ ¬ (k < b.length ∧ byteAt b k = byteAt ah k)) ∧ Below w.heap.size w W)
    (OwnFrom.and (OwnFrom.and ((boxed_own _ _ _).from _) (OwnFrom.and ((boxed_own _ _ _).from _) (ownFrom_pure _ _))) (ownFrom_below (Nat.le_refl _) (by simp; omega)))
    (fun c => OwnFrom.and (OwnFrom.and (ownFrom_pure _ (fun _ => c = .exit 0)) (OwnFrom.and ((boxed_own _ _ _).from _) (ownFrom_pure _ _))) (ownFrom_below (Nat.le_refl _) (by simp; omega)))
    ⟨⟨(b1.alloc _).alloc _, b2.alloc _, fun j hj => absurd hj (Nat.not_lt_zero j)⟩, hB⟩
    (fun k => { tmps := #[.slice a1 b.length c1, .slice a2 ah.length c2, .pointer (some ⟨w.heap.size, 0, none⟩), undef, .bool false, .pointer (some ⟨w.heap.size + 1, 0, none⟩), .int .i64 (k : Int), .int .u8 (byteAt ah k),
      .slice a2 ah.length c2, .func (.func 81) #[] #[.pointer (some ⟨w.heap.size + 1 + 1, 0, none⟩)], .int .i64 (k : Int), .int .u8 (byteAt ah k), undef, undef, undef, undef, undef, undef, undef, undef, undef, undef, undef, undef, undef, undef, undef, undef, undef, undef], defers := [] }) ?assign ?body ?done ?stop
  case assign =>
    intro l k W K hK
    simp only [encE]
    gi_wp2
    exact hK
  case body =>
    rintro l k W hk hl _ ⟨⟨hb1, hb2, hpre⟩, hBW⟩
    have hc1 := hb1.cell
    have hc2 := hb2.cell
    have hf2 := hb2.frozen
    have hkb : k ≤ b.length := by
      cases k with
      | zero => omega
      | succ m => have := (hpre m (by omega)).1; omega
    have HP := Lib.hid hpre
    clear hpre
    by_cases hkl : k = b.length
    · have hne : ((k : Int) == (b.length : Int)) = true := by simp [hkl]
      gi_wp2
      exact ⟨KeepsFrom.refl _ _, ⟨rfl, hb2, fun h => by omega⟩, hBW⟩
    · have hlt : k < b.length := by omega
      rcases h1.below hBW with rfl | ⟨g, o, rfl, hg, hcs⟩
      · simp at hlt
      have hcx := hcs k hlt
      clear hcs
      have hne : ((k : Int) == (b.length : Int)) = false := by simp; omega
      cases heq : (byteAt b k == byteAt ah k)
      · have hn2 : (byteAt b k != byteAt ah k) = true := by simp [bne, heq]
        have Hq := Lib.hid heq
        clear heq
        gi_wp2
        exact ⟨KeepsFrom.refl _ _, ⟨rfl, hb2, fun h => by have := Hq.out; simp [h.2] at this⟩, hBW⟩
      · have hn2 : (byteAt b k != byteAt ah k) = false := by simp [bne, heq]
        have Hq := Lib.hid heq
        clear heq
        gi_wp2
        refine ⟨(KeepsOthers.setCell _ _ _).from _, keepB_below ((Below.refl _ _).setCell (p := ⟨w.heap.size + 1, 0, none⟩) (by simp) _), ⟨hb1.other (by omega) _, hb2.set _, ?_⟩, hBW.setCell (p := ⟨w.heap.size + 1, 0, none⟩) (by simp) _⟩
        intro j hj
        by_cases hjk : j = k
        · subst hjk
          exact ⟨hlt, by simpa using Hq.out⟩
        · exact HP.out j (by omega)
  case done =>
    rintro D W hD ⟨⟨hb1, hb2, hpre⟩, hBW⟩ hK
    have hc2 := hb2.cell
    have HP := Lib.hid hpre
    clear hpre
    go_wp2
    rw [Exit.noGoto_ret]
    refine marks_one hK (results_tmp rfl _ _ _) ⟨?_, hBW.grown (grownBy_putObj' _ _ _) hBW.size (fun r e => by cases e; simp at hD; omega)⟩
    rw [(begins_iff b ah).2 HP.out]
    rfl
  case stop =>
    rintro D c k W hD hk ⟨⟨rfl, hb2, hno⟩, hBW⟩ hK
    have hc2 := hb2.cell
    have HN := Lib.hid hno
    clear hno
    have hkn : ((k : Int) == (ah.length : Int)) = false := by simp; omega
    go_wp2
    rw [Exit.noGoto_ret]
    refine marks_one hK (results_tmp rfl _ _ _) ⟨?_, hBW.grown (grownBy_putObj' _ _ _) hBW.size (fun r e => by cases e; simp at hD; omega)⟩
    have hf : begins b ah = false := by
      cases h : begins b ah
      · rfl
      · exact absurd ((begins_iff b ah).1 h k hk) HN.out
    rw [hf]
    rfl

end Go.Proofs.YtncemmhbbkpieaaDoor
