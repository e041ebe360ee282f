/- Joined texts. -/
import Derived.Test.YteldifnkeekafaaGreatDoorZJa
import Derived.Deep.QuietTactic
import Derived.BigQuiet
import Derived.Maps.AppendAt
import Derived.Deep.AppendLies
import Derived.Lib.SliceRun
import Derived.Lib.AppendZeros
set_option maxHeartbeats 2000000
namespace Go.Proofs.YteldifnkeekafaaGreatDoor
open Go.RowKit Go.Shelf

theorem width_any (x : Int) (w : World) :
  Calls Tryz.prog 86 #[.int .i64 x] w fun e w' => e = .returned (.bool (isW x)) ∧ w = w' := by
 unfold isW
 cases h1 : (x == 1)
 ·cases h2 : (x == 2)
  ·cases h4 : (x == 4)
   ·go_enter Tryz.func86, Tryz.ntmps86
    go_wp2
    go_ret
    exact ⟨rfl, rfl⟩
   ·go_enter Tryz.func86, Tryz.ntmps86
    go_wp2
    go_ret
    exact ⟨rfl, rfl⟩
  ·go_enter Tryz.func86, Tryz.ntmps86
   go_wp2
   go_ret
   exact ⟨rfl, rfl⟩
 ·go_enter Tryz.func86, Tryz.ntmps86
  go_wp2
  go_ret
  exact ⟨rfl, rfl⟩

theorem sb_eq (n : Int) (i : Nat) : sb n i = n / 256 ^ i % 256 := by
 unfold sb
 rw [Int.pow_mul]
 rfl

theorem div_step (n : Int) (k : Nat) : n / 256 ^ k / 256 = n / 256 ^ (k + 1) := by
 rw [Int.ediv_ediv_of_nonneg (Int.le_of_lt (Int.pow_pos (by omega))), Int.pow_succ]

theorem pow256_pos (k : Nat) : (0 : Int) < 256 ^ k := Int.pow_pos (by omega)

theorem div_pow_le (n : Int) (hn : 0 ≤ n) (k : Nat) : 0 ≤ n / 256 ^ k ∧ n / 256 ^ k ≤ n :=
 ⟨Int.ediv_nonneg hn (Int.le_of_lt (pow256_pos k)), Int.ediv_le_self _ hn⟩

theorem quo_u64 (q : Int) (h : U64 q) : IntKind.u64.wrap (q.tdiv 256) = q / 256 := by
 unfold U64 at h
 rw [IntKind.wrap_u64, Int.tdiv_eq_ediv_of_nonneg h.1]
 omega

theorem u64_div (n : Int) (h : U64 n) (k : Nat) : U64 (n / 256 ^ k) := by
 have := div_pow_le n h.1 k
 unfold U64 at *
 omega

set_option maxRecDepth 100000 in
theorem refPut_row (W : Nat) (n : Int) (w : World) (hx : isW W = true) (hn : U64 n) :
  Calls Tryz.prog 47 #[.int .u64 n, .int .i64 W] w fun e w' =>
   ((n / 256 ^ W = 0 ∧ e = .returned (.tuple #[.slice (some ⟨w.heap.size, 0, none⟩) W W, .int .i64 0])) ∨ (0 < n / 256 ^ W ∧ e = .returned (.tuple #[.slice none 0 0, .int .i64 4]))) ∧
   Below w.heap.size w w' ∧ w'.rowIs w.heap.size 5 W (fun j => .int .u8 (sb n (W - 1 - j))) := by
 have hW : 1 ≤ W ∧ W ≤ 8 := by
  have := isW_cases hx
  omega
 have hn0 : 0 ≤ n := hn.1
 have Hn := h_ hn
 clear hn
 have hmk := fun w : World => run_make_row' (P := Tryz.prog) 22 5 (.int .u8 0) 1 Tryz.underlying22 (by kernel_rfl) rfl .i64 .i64 W (by omega) (by omega) w
 go_enter Tryz.func47, Tryz.ntmps47
 go_wp2_with (go_at_call 86; refine (width_any _ _).mono ?_; rintro e w' ⟨rfl, rfl⟩)
 go_loopw [0, 7] (fun m i wr => ∃ (k : Nat) (q : Int), k ≤ W ∧ i = .int .i64 ((W : Int) - 1 - k) ∧ m = .int .u64 q ∧ 0 ≤ q ∧ Hid (q = n / 256 ^ k) ∧ Below w.heap.size w wr ∧
   wr.rowIs w.heap.size 5 W (fun j => if W - k ≤ j then .int .u8 (sb n (W - 1 - j)) else .int .u8 0)) (fun _ i _ => (intOf i + 1).toNat)
 case atStart =>
  refine ⟨0, n, Nat.zero_le _, by simp, rfl, hn0, by simp [Hid], bR.alloc (Nat.le_refl _) _, ?_⟩
  exact (World.rowIs_made _ _ _ _).congr fun i hi => by rw [if_neg (by omega)]
 case round =>
  obtain ⟨k, q, hk, rfl, rfl, hq0, Hq, hb, hr⟩ := hrel
  by_cases hlt : k < W
  ·have hcl := hr.cell (i := W - 1 - k) (by omega)
   have hfz := hr.frozen (W - 1 - k)
   have HR := h_ hr
   clear hr
   obtain ⟨v, hv⟩ : ∃ v, wr.cell? ⟨w.heap.size, W - 1 - k, none⟩ = some v := ⟨_, hcl⟩
   clear hcl
   go_wp2
   go_roundw
   case rel =>
    have hq : q / 256 = n / 256 ^ (k + 1) := by rw [Hq.out, div_step]
    have hU : U64 q := by rw [Hq.out]; exact u64_div n Hn.out k
    refine ⟨k + 1, q / 256, by omega, by go_num, by rw [quo_u64 q hU], by omega, hq, hb.setCell (by simp) _, ?_⟩
    refine (HR.out.set (W - 1 - k) (.int .u8 (q % 256))).congr fun j hj => ?_
    by_cases e : j = W - 1 - k
    ·subst e
     rw [if_pos rfl, if_pos (by omega), sb_eq, Hq.out, show W - 1 - (W - 1 - k) = k by omega]
    ·rw [if_neg e]
     by_cases e2 : W - k ≤ j
     ·rw [if_pos e2, if_pos (by omega)]
     ·rw [if_neg e2, if_neg (by omega)]
   case measure => simp [intOf]; omega
  ·obtain rfl : k = W := by omega
   have HR := h_ hr
   clear hr
   by_cases hz : 0 < q
   ·go_wp2
    go_ret2
    exact ⟨.inr ⟨by rw [← Hq.out]; exact hz, rfl⟩, hb, HR.out.congr fun j hj => by rw [if_pos (by omega)]⟩
   ·obtain rfl : q = 0 := by omega
    go_wp2
    go_ret2
    exact ⟨.inl ⟨Hq.out.symm, rfl⟩, hb, HR.out.congr fun j hj => by rw [if_pos (by omega)]⟩

theorem fits_iff (W : Nat) (n : Int) (hx : isW W = true) (hn : U64 n) : fits W n = true ↔ n / 256 ^ W = 0 := by
 have hn' := hn
 unfold U64 at hn'
 have hc : W = 1 ∨ W = 2 ∨ W = 4 ∨ W = 8 := by
  have := isW_cases hx
  omega
 rcases hc with rfl | rfl | rfl | rfl
 ·simp [fits]
 ·simp [fits]
 ·simp [fits]
 ·simp [fits]
  omega

theorem refPut_no (W : Nat) (n : Int) (w : World) (hx : isW W = true) (hn : U64 n) (hf : fits W n = false) :
  Calls Tryz.prog 47 #[.int .u64 n, .int .i64 W] w fun e w' => e = .returned (.tuple #[.slice none 0 0, .int .i64 4]) ∧ Below w.heap.size w w' := by
 refine (refPut_row W n w hx hn).mono ?_
 rintro e w' ⟨h | h, hb, _⟩
 ·rw [(fits_iff W n hx hn).2 h.1] at hf
  cases hf
 ·exact ⟨h.2, hb⟩

theorem refPut_yes (W : Nat) (n : Int) (w : World) (hx : isW W = true) (hn : U64 n) (hf : fits W n = true) :
  Calls Tryz.prog 47 #[.int .u64 n, .int .i64 W] w (PutPost w W n) := by
 refine (refPut_row W n w hx hn).mono ?_
 rintro e w' ⟨h | h, hb, hr⟩
 ·have hL := beB_length W n
  refine ⟨_, h.2, ⟨some ⟨w.heap.size, 0, none⟩, W, by rw [hL], by rw [hL]; exact Nat.le_refl _, RdB.of_row ((hL.symm ▸ hr).congr fun j hj => by rw [byteAt_beB W n j (by omega), hL]), ?_⟩, hb⟩
  rintro p ⟨⟩
  exact Nat.le_refl _
 ·have := (fits_iff W n hx hn).1 hf
  omega

theorem blk_keep {w w' : World} {g : Nat} {o : Obj} (h : w.heap[g]? = some o) (hb : Below w.heap.size w w') : w'.heap[g]? = some o :=
 (hb.block g (Array.getElem?_eq_some_iff.1 h).1).trans h

set_option maxRecDepth 100000 in
theorem refLeast_any (n : Int) (w : World) (hn : U64 n) :
  Calls Tryz.prog 46 #[.int .u64 n] w fun e w' => e = .returned (.int .i64 (leastOf n)) ∧ Below w.heap.size w w' := by
 have Hn := h_ hn
 clear hn
 go_enter Tryz.func46, Tryz.ntmps46
 go_wp2
 go_loopw [4] (fun i wr => ∃ k : Nat, k ≤ 3 ∧ i = .int .i64 k ∧ (1 ≤ k → fits 1 n = false) ∧ (2 ≤ k → fits 2 n = false) ∧ (3 ≤ k → fits 4 n = false) ∧ Below w.heap.size w wr ∧
   wr.heap[w.heap.size]? = some (.cells #[.int .i64 1, .int .i64 2, .int .i64 4] 3 (0, 0))) (fun i _ => 3 - (intOf i).toNat)
 case atStart => exact ⟨0, Nat.zero_le _, rfl, by omega, by omega, by omega, bR.alloc (Nat.le_refl _) _, heap_alloc_new w _⟩
 case round =>
  obtain ⟨k, hk, rfl, hp1, hp2, hp4, hb, hh⟩ := hrel
  have hc0 : wr.cell? ⟨w.heap.size, 0, none⟩ = some (.int .i64 1) := by simp [World.cell?, hh]
  have hc1 : wr.cell? ⟨w.heap.size, 1, none⟩ = some (.int .i64 2) := by simp [World.cell?, hh]
  have hc2 : wr.cell? ⟨w.heap.size, 2, none⟩ = some (.int .i64 4) := by simp [World.cell?, hh]
  have HH := h_ hh
  clear hh
  have hk5 : k = 0 ∨ k = 1 ∨ k = 2 ∨ k = 3 := by omega
  rcases hk5 with rfl | rfl | rfl | rfl
  ·clear hp1 hp2 hp4
   cases hf : fits 1 n
   ·have Hf := h_ hf
    clear hf
    go_wp2_with fail
    refine (refPut_no 1 n _ rfl Hn.out Hf.out).mono ?_
    rintro e w1 ⟨rfl, hb1⟩
    go_wp2
    go_roundw
    case rel => exact ⟨1, by omega, by go_num, by simp, by omega, by omega, hb.trans (hb1.mono hb.size), blk_keep HH.out hb1⟩
    case measure => simp [intOf]
   ·have Hf := h_ hf
    clear hf
    go_wp2_with fail
    refine (refPut_yes 1 n _ rfl Hn.out Hf.out).mono ?_
    rintro e w1 ⟨v, rfl, _, hb1⟩
    have hd0 : w1.cell? ⟨w.heap.size, 0, none⟩ = some (.int .i64 1) := by simp [World.cell?, blk_keep HH.out hb1]
    go_wp2
    go_ret
    exact ⟨by simp [leastOf, firstW, Hf.out], hb.trans (hb1.mono hb.size)⟩
  ·have h1 := h_ (hp1 (by omega))
   clear hp1 hp2 hp4
   cases hf : fits 2 n
   ·have Hf := h_ hf
    clear hf
    go_wp2_with fail
    refine (refPut_no 2 n _ rfl Hn.out Hf.out).mono ?_
    rintro e w1 ⟨rfl, hb1⟩
    go_wp2
    go_roundw
    case rel => exact ⟨2, by omega, by go_num, fun _ => h1.out, by simp, by omega, hb.trans (hb1.mono hb.size), blk_keep HH.out hb1⟩
    case measure => simp [intOf]
   ·have Hf := h_ hf
    clear hf
    go_wp2_with fail
    refine (refPut_yes 2 n _ rfl Hn.out Hf.out).mono ?_
    rintro e w1 ⟨v, rfl, _, hb1⟩
    have hd1 : w1.cell? ⟨w.heap.size, 1, none⟩ = some (.int .i64 2) := by simp [World.cell?, blk_keep HH.out hb1]
    go_wp2
    go_ret
    exact ⟨by simp [leastOf, firstW, Hf.out, h1.out], hb.trans (hb1.mono hb.size)⟩
  ·have h1 := h_ (hp1 (by omega))
   have h2 := h_ (hp2 (by omega))
   clear hp1 hp2 hp4
   cases hf : fits 4 n
   ·have Hf := h_ hf
    clear hf
    go_wp2_with fail
    refine (refPut_no 4 n _ rfl Hn.out Hf.out).mono ?_
    rintro e w1 ⟨rfl, hb1⟩
    go_wp2
    go_roundw
    case rel => exact ⟨3, by omega, by go_num, fun _ => h1.out, fun _ => h2.out, by simp, hb.trans (hb1.mono hb.size), blk_keep HH.out hb1⟩
    case measure => simp [intOf]
   ·have Hf := h_ hf
    clear hf
    go_wp2_with fail
    refine (refPut_yes 4 n _ rfl Hn.out Hf.out).mono ?_
    rintro e w1 ⟨v, rfl, _, hb1⟩
    have hd2 : w1.cell? ⟨w.heap.size, 2, none⟩ = some (.int .i64 4) := by simp [World.cell?, blk_keep HH.out hb1]
    go_wp2
    go_ret
    exact ⟨by simp [leastOf, firstW, Hf.out, h1.out, h2.out], hb.trans (hb1.mono hb.size)⟩
  ·have h1 := h_ (hp1 (by omega))
   have h2 := h_ (hp2 (by omega))
   have h4 := h_ (hp4 (by omega))
   clear hp1 hp2 hp4
   go_wp2
   go_ret
   have h8 : fits 8 n = true := by simp [fits]
   exact ⟨by simp [leastOf, firstW, h1.out, h2.out, h4.out, h8], hb⟩

attribute [local go_sem] Oper.semAt_some

theorem each_any (a : Option Addr) (n c : Nat) (w : World) :
  Calls Tryz.prog 134 #[.slice a n c] w fun e w' => e = .returned (.func (.func 145) #[] #[.pointer (some ⟨w.heap.size, 0, none⟩)]) ∧ w' = w.alloc (.cells #[.slice a n c] 22) := by
 have hmf : ∀ (fn : Fn) (first cap : Array Value) (w : World), (Instr.makeFunc fn first cap).run Tryz.prog w = .ok (.func fn first cap) w := fun _ _ _ _ => rfl
 go_enter Tryz.func134, Tryz.ntmps134
 go_wp2
 go_ret
 exact ⟨rfl, rfl⟩

def encE (bs : List UInt8) (k : Nat) : Array Value := #[.int .i64 (k : Int), .int .u8 (byteAt bs k)]

set_option maxRecDepth 100000 in
theorem each_goes (Bs B : Nat) (S : Nat → Prop) (a : Option Addr) (c : Nat) (bs : List UInt8) (w : World) (hlen : bs.length ≤ 140737488355328) (hBs : Bs < w.heap.size) (hB : B ≤ w.heap.size) (hS : ∀ p, bs ≠ [] → a = some p → S p.block)
  (hc : w.cell? ⟨Bs, 0, none⟩ = some (.slice a bs.length c)) (hr : RdB w B a bs) :
  Goes Tryz.prog 145 #[.pointer (some ⟨Bs, 0, none⟩)] (encE bs) S bs.length w := by
 intro l J Jx W hW hJ hJx hY h0
 have hcW := (hW.cell (p := ⟨Bs, 0, none⟩) hBs).trans hc
 have hrW := hr.below (hW.mono hB)
 clear hc hr hW
 refine callsIn_of_wp Tryz.func145 rfl trivial ?_ rfl
 simp only [Tryz.ntmps145, List.size_toArray, List.length_cons, List.length_nil, Nat.reduceAdd, Nat.reduceSub, Array.replicate_succ, Array.replicate_zero, List.push_toArray, List.append_toArray, List.nil_append, List.cons_append]
 gi_wp2
 gi_loopw [7] (fun i wr => ∃ k : Nat, k ≤ bs.length ∧ i = .int .i64 k ∧ J k wr ∧ KeepB S W wr) (fun i _ => bs.length - (intOf i).toNat)
 case atStart => exact ⟨0, Nat.zero_le _, rfl, h0, KeepB.refl _ _⟩
 case round =>
  obtain ⟨k, hk, rfl, hJs, hnx⟩ := hrel
  by_cases hlt : k < bs.length
  ·rcases hrW with rfl | ⟨b, o, rfl, hb, hcs⟩
   ·simp at hlt
   have hcx := (World.cell?_of_block (a := ⟨b, o + k, none⟩) (hnx b (hS ⟨b, o, none⟩ (by rintro rfl; simp at hlt) rfl))).trans (hcs k hlt)
   obtain ⟨fn, tmps, assign, body, hy, hR⟩ := hY k wr hlt hJs
   simp only [encE] at hy
   clear hcs
   gi_wp2
   refine hR.mono ?_
   rintro e W3 (⟨rfl, hJ3, hk3⟩ | ⟨rfl, hJx3⟩)
   ·gi_wp2
    go_roundw
    case rel => exact ⟨k + 1, by omega, by simp, hJ3, hnx.trans hk3⟩
    case measure => simp [intOf]; omega
   ·gi_wp2
    refine bodyPost_ret (results_none rfl _ _ _) rfl ?_
    exact ⟨⟨_, rfl⟩, .inr ⟨k, hlt, hJx3⟩⟩
  ·obtain rfl : k = bs.length := by omega
   gi_wp2
   go_end0
   exact ⟨⟨_, rfl⟩, .inl hJs⟩

def valB (bs : List UInt8) : Nat → Int
 | 0 => 0
 | k + 1 => valB bs k * 256 + byteAt bs k

theorem valB_bd (bs : List UInt8) (k : Nat) : 0 ≤ valB bs k ∧ valB bs k < 256 ^ k := by
 induction k with
 | zero => exact ⟨Int.le_refl _, by simp [valB]⟩
 | succ k ih =>
  have h0 := byteAt_lo bs k
  have h1 := byteAt_hi bs k
  have e : (256 : Int) ^ (k + 1) = 256 ^ k * 256 := Int.pow_succ _ _
  simp only [valB]
  rw [e]
  omega

theorem pow256_le {k m : Nat} (h : k ≤ m) : (256 : Int) ^ k ≤ 256 ^ m := by
 have h1 : (256 : Nat) ^ k ≤ 256 ^ m := Nat.pow_le_pow_right (by omega) h
 have h2 := Int.ofNat_le.2 h1
 rwa [Int.natCast_pow, Int.natCast_pow] at h2

theorem valB_step (bs : List UInt8) (k : Nat) (hk : k < 8) : bits BinOp.or IntKind.u64 (IntKind.u64.wrap (valB bs k * 256)) (byteAt bs k) = valB bs (k + 1) := by
 have hb := valB_bd bs k
 have h0 := byteAt_lo bs k
 have h1 := byteAt_hi bs k
 have h7 : (256 : Int) ^ k ≤ 72057594037927936 := by
  have := pow256_le (k := k) (m := 7) (by omega)
  have e : (256 : Int) ^ 7 = 72057594037927936 := by decide
  omega
 have hw : IntKind.u64.wrap (valB bs k * 256) = valB bs k * 256 := by
  rw [IntKind.wrap_u64]
  omega
 rw [hw]
 have p64 : (2 : Int) ^ 64 = 18446744073709551616 := by decide
 have p8 : (2 : Int) ^ 8 = 256 := by decide
 have hj := bits_join .u64 64 (by decide) (fun n h0 h1 => by rw [IntKind.wrap_u64]; rw [p64] at h1; omega) 8 (valB bs k * 256) (byteAt bs k)
 rw [p64, p8] at hj
 exact hj (by omega) (by omega) (by omega) h0 (by omega) (by omega)

set_option maxRecDepth 100000 in
theorem get_arg (a : Option Addr) (n c : Nat) (w : World) (hx : isW n = false) :
  Calls Tryz.prog 112 #[.slice a n c] w fun e w' => e = .returned (.tuple #[.int .u64 0, .int .i64 2]) ∧ Below w.heap.size w w' := by
 refine calls_of_marks Tryz.func112 rfl ?_
 simp only [Tryz.ntmps112, List.size_toArray, List.length_cons, List.length_nil, Nat.reduceAdd, Nat.reduceSub, Array.replicate_succ, Array.replicate_zero, List.push_toArray, List.append_toArray, List.nil_append, List.cons_append]
 go_wp2
 refine wp_scope_on 0 rfl ?_
 go_wp2_with (go_at_call 128; refine (right_any _ _).mono ?_; rintro e w' ⟨rfl, hb⟩)
 go_step3
 refine ⟨rfl, ?_⟩
 show Code.wp _ _ _ _ _
 go_wp2
 rw [Exit.noGoto_ret]
 refine marks_none (results_tmp2 rfl _ _ _) ?_
 exact ⟨rfl, (bR.alloc (Nat.le_refl _) _).trans (hb.mono (by simp))⟩

set_option maxRecDepth 100000 in
theorem get_ok (a : Option Addr) (c : Nat) (bs : List UInt8) (w : World) (hx : isW bs.length = true) (hr : RdB w w.heap.size a bs) :
  Calls Tryz.prog 112 #[.slice a bs.length c] w fun e w' => e = .returned (.tuple #[.int .u64 (valB bs bs.length), .int .i64 0]) ∧ Below w.heap.size w w' := by
 have hlen : bs.length ≤ 8 := by
  have := isW_cases hx
  omega
 refine calls_of_marks Tryz.func112 rfl ?_
 simp only [Tryz.ntmps112, List.size_toArray, List.length_cons, List.length_nil, Nat.reduceAdd, Nat.reduceSub, Array.replicate_succ, Array.replicate_zero, List.push_toArray, List.append_toArray, List.nil_append, List.cons_append]
 go_wp2
 refine wp_scope_on 0 rfl ?_
 go_wp2_with (go_at_call 128; refine (right_any _ _).mono ?_; rintro e w1 ⟨rfl, hb⟩)
 refine (each_any _ _ _ _).mono ?_
 rintro e w2 ⟨rfl, rfl⟩
 go_wp2
 have hB1 : Below w.heap.size w w1 := (bR.alloc (Nat.le_refl _) _).trans (hb.mono (by simp))
 have hs1 : w.heap.size < w1.heap.size := by
  have := hb.size
  simp at this
  omega
 have hB2 : Below w.heap.size w (w1.alloc (.cells #[.slice a bs.length c] 22)) := hB1.alloc hB1.size _
 have hbox : Boxed w1 w.heap.size 28 (.int .u64 0) := (hb.block _ (by simp)).trans (Boxed.new w _ _)
 refine wp_rangeGoes_plain (gf := 145) (lb := #[.pointer (some ⟨w1.heap.size, 0, none⟩)]) rfl (enters_of Tryz.func145 (by kernel_rfl) rfl)
  (each_goes w1.heap.size w.heap.size (· < w.heap.size) a c bs _ (by omega) (by simp) (by simp; omega) hr.lt (by simp) (hr.below hB2)) (fun b hb => by simp; omega) (fun _ => rfl)
  (fun k W => Boxed W w.heap.size 28 (.int .u64 (valB bs k)) ∧ Below w.heap.size w W) (fun _ _ _ => False)
  (OwnFrom.and (Own.from (boxed_own _ _ _) _) (ownFrom_below (Nat.le_refl _) (by simp; omega))) (fun _ _ _ _ _ hs _ _ => hs)
  ⟨hbox.alloc _, hB2⟩
  (fun k => { tmps := #[.slice a bs.length c, undef, .int .u64 0, .int .i64 0, .pointer (some ⟨w.heap.size, 0, none⟩), undef, .int .u8 (byteAt bs k), .slice a bs.length c, .int .i64 bs.length, .bool true, .bool false, .slice a bs.length c,
   .func (.func 145) #[] #[.pointer (some ⟨w1.heap.size, 0, none⟩)], .int .i64 (k : Int), .int .u8 (byteAt bs k), undef, undef, undef, undef, undef, undef], defers := [] }) ?assign ?body ?done ?stop
 case assign =>
  intro l k W K hK
  simp only [encE]
  gi_wp2
  exact hK
 case body =>
  rintro l k W hk hl _ ⟨hbx, hBW⟩
  have hcx := hbx.cell
  have hfx := hbx.frozen
  have hv0 : 0 ≤ byteAt bs k := byteAt_lo bs k
  have hv1 : byteAt bs k ≤ 255 := by have := byteAt_hi bs k; omega
  gi_wp2
  refine ⟨(KeepsOthers.setCell _ _ _).from _, keepB_below (bR.setCell (p := ⟨w.heap.size, 0, none⟩) (Nat.le_refl _) _), ?_, hBW.setCell (p := ⟨w.heap.size, 0, none⟩) (Nat.le_refl _) _⟩
  rw [valB_step bs k (by omega)]
  exact hbx.set _
 case done =>
  rintro D W hD ⟨hbx, hBW⟩ hK
  have hcx := hbx.cell
  go_wp2
  simp only [Exit.jump]
  refine marks_one hK (results_tmp2 rfl _ _ _) ⟨rfl, hBW.grown (grownBy_putObj' _ _ _) hBW.size (fun r e => by cases e; simp at hD; omega)⟩
 case stop =>
  rintro D c k W _ _ h _
  exact h.elim

attribute [local go_sem] Oper.semAt_some

def begins (b a : List UInt8) : Bool := decide (a.length ≤ b.length) && (b.take a.length == a)

theorem begins_iff (b a : List UInt8) : begins b a = true ↔ ∀ j, j < a.length → j < b.length ∧ byteAt b j = byteAt a j := by
 simp only [begins, Bool.and_eq_true, decide_eq_true_eq, beq_iff_eq]
 constructor
 ·rintro ⟨hl, he⟩ j hj
  exact ⟨by omega, by rw [← byteAt_take b a.length j hj, he]⟩
 ·intro h
  have hl : a.length ≤ b.length := by
   rcases Nat.eq_zero_or_pos a.length with h0 | h0
   ·omega
   ·have := (h (a.length - 1) (by omega)).1
    omega
  refine ⟨hl, ext_bytes (by simp; omega) fun j hj => ?_⟩
  have hj' : j < a.length := by simp at hj; omega
  rw [byteAt_take b a.length j hj']
  exact (h j hj').2

theorem cell_box2 (w : World) (u v x : Value) (s t r : TypeId) : (((w.alloc (.cells #[u] s)).alloc (.cells #[v] t)).alloc (.cells #[x] r)).cell? ⟨w.heap.size + 1 + 1, 0, none⟩ = some x := by
 have h := (Boxed.new ((w.alloc (.cells #[u] s)).alloc (.cells #[v] t)) r x).cell
 simpa using h

set_option maxRecDepth 100000 in
theorem begins_any (a1 a2 : Option Addr) (c1 c2 : Nat) (b ah : List UInt8) (w : World) (h1 : RdB w w.heap.size a1 b) (h2 : RdB w w.heap.size a2 ah) (hl1 : b.length ≤ 140737488355328) (hl2 : ah.length ≤ 140737488355328) :
  Calls Tryz.prog 113 #[.slice a1 b.length c1, .slice a2 ah.length c2] w fun e w' => e = .returned (.bool (begins b ah)) ∧ Below w.heap.size w w' := by
 refine calls_of_marks Tryz.func113 rfl ?_
 simp only [Tryz.ntmps113, List.size_toArray, List.length_cons, List.length_nil, Nat.reduceAdd, Nat.reduceSub, Array.replicate_succ, Array.replicate_zero, List.push_toArray, List.append_toArray, List.nil_append, List.cons_append]
 go_wp2
 go_step3
 go_wp2
 go_step3
 go_wp2_with (go_at_call 134; refine (each_any _ _ _ _).mono ?_; rintro e w2 ⟨rfl, rfl⟩)
 have hB : Below w.heap.size w (((w.alloc (.cells #[.slice a1 b.length c1] 22)).alloc (.cells #[.int .i64 0] 3)).alloc (.cells #[.slice a2 ah.length c2] 22)) :=
  ((bR.alloc (Nat.le_refl _) _).alloc (by simp) _).alloc (by simp; omega) _
 have b1 : Boxed (w.alloc (.cells #[.slice a1 b.length c1] 22)) w.heap.size 22 (.slice a1 b.length c1) := Boxed.new w _ _
 have b2 := Boxed.new (w.alloc (.cells #[.slice a1 b.length c1] 22)) 3 (.int .i64 0)
 rw [World.size_alloc] at b2
 refine wp_rangeGoes_plain (gf := 145) (lb := #[.pointer (some ⟨w.heap.size + 1 + 1, 0, none⟩)]) rfl (enters_of Tryz.func145 (by kernel_rfl) rfl)
  (each_goes (w.heap.size + 1 + 1) w.heap.size (· < w.heap.size) a2 c2 ah _ hl2 (by simp) (by simp; omega) h2.lt (cell_box2 w _ _ _ _ _ _) (h2.below hB)) (fun b hb => by simp; omega) (fun _ => rfl)
  (fun k W => (Boxed W w.heap.size 22 (.slice a1 b.length c1) ∧ Boxed W (w.heap.size + 1) 3 (.int .i64 (k : Int)) ∧ ∀ j, j < k → j < b.length ∧ byteAt b j = byteAt ah j) ∧ Below w.heap.size w W)
  (fun c k W => (c = .exit 0 ∧ Boxed W (w.heap.size + 1) 3 (.int .i64 (k : Int)) ∧ ¬ (k < b.length ∧ byteAt b k = byteAt ah k)) ∧ Below w.heap.size w W)
  (OwnFrom.and (OwnFrom.and ((boxed_own _ _ _).from _) (OwnFrom.and ((boxed_own _ _ _).from _) (ownFrom_pure _ _))) (ownFrom_below (Nat.le_refl _) (by simp; omega)))
  (fun c => OwnFrom.and (OwnFrom.and (ownFrom_pure _ (fun _ => c = .exit 0)) (OwnFrom.and ((boxed_own _ _ _).from _) (ownFrom_pure _ _))) (ownFrom_below (Nat.le_refl _) (by simp; omega)))
  ⟨⟨(b1.alloc _).alloc _, b2.alloc _, fun j hj => absurd hj (Nat.not_lt_zero j)⟩, hB⟩
  (fun k => { tmps := #[.slice a1 b.length c1, .slice a2 ah.length c2, .pointer (some ⟨w.heap.size, 0, none⟩), undef, .bool false, .pointer (some ⟨w.heap.size + 1, 0, none⟩), .int .i64 (k : Int), .int .u8 (byteAt ah k),
   .slice a2 ah.length c2, .func (.func 145) #[] #[.pointer (some ⟨w.heap.size + 1 + 1, 0, none⟩)], .int .i64 (k : Int), .int .u8 (byteAt ah k), undef, undef, undef, undef, undef, undef, undef, undef, undef, undef, undef, undef, undef, undef, undef, undef, undef, undef], defers := [] }) ?assign ?body ?done ?stop
 case assign =>
  intro l k W K hK
  simp only [encE]
  gi_wp2
  exact hK
 case body =>
  rintro l k W hk hl _ ⟨⟨hb1, hb2, hpre⟩, hBW⟩
  have hc1 := hb1.cell
  have hc2 := hb2.cell
  have hf2 := hb2.frozen
  have hkb : k ≤ b.length := by
   cases k with
   | zero => omega
   | succ m => have := (hpre m (by omega)).1; omega
  have HP := h_ hpre
  clear hpre
  by_cases hkl : k = b.length
  ·have hne : ((k : Int) == (b.length : Int)) = true := by simp [hkl]
   gi_wp2
   exact ⟨KeepsFrom.refl _ _, ⟨rfl, hb2, fun h => by omega⟩, hBW⟩
  ·have hlt : k < b.length := by omega
   rcases h1.below hBW with rfl | ⟨g, o, rfl, hg, hcs⟩
   ·simp at hlt
   have hcx := hcs k hlt
   clear hcs
   have hne : ((k : Int) == (b.length : Int)) = false := by simp; omega
   cases heq : (byteAt b k == byteAt ah k)
   ·have hn2 : (byteAt b k != byteAt ah k) = true := by simp [bne, heq]
    have Hq := h_ heq
    clear heq
    gi_wp2
    exact ⟨KeepsFrom.refl _ _, ⟨rfl, hb2, fun h => by have := Hq.out; simp [h.2] at this⟩, hBW⟩
   ·have hn2 : (byteAt b k != byteAt ah k) = false := by simp [bne, heq]
    have Hq := h_ heq
    clear heq
    gi_wp2
    refine ⟨(KeepsOthers.setCell _ _ _).from _, keepB_below (bR.setCell (p := ⟨w.heap.size + 1, 0, none⟩) (by simp) _), ⟨hb1.other (by omega) _, hb2.set _, ?_⟩, hBW.setCell (p := ⟨w.heap.size + 1, 0, none⟩) (by simp) _⟩
    intro j hj
    by_cases hjk : j = k
    ·subst hjk
     exact ⟨hlt, by simpa using Hq.out⟩
    ·exact HP.out j (by omega)
 case done =>
  rintro D W hD ⟨⟨hb1, hb2, hpre⟩, hBW⟩ hK
  have hc2 := hb2.cell
  have HP := h_ hpre
  clear hpre
  go_wp2
  rw [Exit.noGoto_ret]
  refine marks_one hK (results_tmp rfl _ _ _) ⟨?_, hBW.grown (grownBy_putObj' _ _ _) hBW.size (fun r e => by cases e; simp at hD; omega)⟩
  rw [(begins_iff b ah).2 HP.out]
  rfl
 case stop =>
  rintro D c k W hD hk ⟨⟨rfl, hb2, hno⟩, hBW⟩ hK
  have hc2 := hb2.cell
  have HN := h_ hno
  clear hno
  have hkn : ((k : Int) == (ah.length : Int)) = false := by simp; omega
  go_wp2
  rw [Exit.noGoto_ret]
  refine marks_one hK (results_tmp rfl _ _ _) ⟨?_, hBW.grown (grownBy_putObj' _ _ _) hBW.size (fun r e => by cases e; simp at hD; omega)⟩
  have hf : begins b ah = false := by
   cases h : begins b ah
   ·rfl
   ·exact absurd ((begins_iff b ah).1 h k hk) HN.out
  rw [hf]
  rfl

end Go.Proofs.YteldifnkeekafaaGreatDoor

namespace Go.Proofs.YteldifnkeekafaaGreatDoor
open Go.RowKit Go.Shelf

def OwnV (w : World) (base : Nat) (e : TypeId) (v : Value) (xs : List Value) : Prop := w.ownsRow base e 1 v xs.length xs

def Src (w : World) (A : Option Addr) (ys : List Value) : Prop := ys = [] ∨ ∃ ad, A = some ad ∧ ∀ j u, ys[j]? = some u → w.cell? (ad.add j) = some u

theorem Src.alloc {w : World} {A : Option Addr} {ys : List Value} (h : Src w A ys) (o : Obj) : Src (w.alloc o) A ys := by
 rcases h with h | ⟨ad, e, hc⟩
 ·exact .inl h
 ·exact .inr ⟨ad, e, fun j u hu => by
    have h1 := hc j u hu
    rw [World.cell?_alloc_lt _ _ _ (World.block_lt_of_cell? w _ h1)]
    exact h1⟩

theorem OwnV.nil (w : World) (base : Nat) (e : TypeId) : OwnV w base e (.slice none 0 0) [] := World.ownsRow_nil w base e 1

theorem OwnV.lit (w : World) (base : Nat) (e : TypeId) (cs : Array Value) (hb : base ≤ w.heap.size) (hm : cs.size ≤ maxLen) : OwnV (w.alloc (.cells cs e)) base e (.slice (some ⟨w.heap.size, 0, none⟩) cs.size cs.size) cs.toList := by
 unfold OwnV
 rw [Array.length_toList]
 exact World.ownsRow_lit w cs cs.size hb hm (by simp)

theorem OwnV.form {w : World} {base : Nat} {e : TypeId} {v : Value} {xs : List Value} (h : OwnV w base e v xs) :
  (v = .slice none 0 0 ∧ xs = []) ∨ ∃ g cap, v = .slice (some ⟨g, 0, none⟩) xs.length cap ∧ base ≤ g ∧ g < w.heap.size ∧ xs.length ≤ cap ∧ cap ≤ maxLen ∧ (∀ j, j < xs.length → w.cell? ⟨g, j, none⟩ = xs[j]?) ∧ (∀ j, w.frozen? ⟨g, j, none⟩ = false) := by
 rcases h.2 with ⟨rfl, h0⟩ | ⟨g, cap, cur, rfl, hb, hg, hn, hm, hs, ht⟩
 ·exact .inl ⟨rfl, List.eq_nil_of_length_eq_zero h0⟩
 ·refine .inr ⟨g, cap, rfl, hb, (Array.getElem?_eq_some_iff.1 hg).1, hn, hm, fun j hj => ?_, fun j => by simp [World.frozen?, hg]⟩
  have h1 : w.cell? ⟨g, j, none⟩ = cur[j]? := by simp [World.cell?, hg]
  rw [h1, ← ht, List.getElem?_take, if_pos (by omega)]
  simp

theorem OwnV.base {w : World} {base base' : Nat} {e : TypeId} {v : Value} {xs : List Value} (h : OwnV w base e v xs) (hb : base' ≤ base) : OwnV w base' e v xs := by
 obtain ⟨h1, h2⟩ := h
 refine ⟨h1, ?_⟩
 rcases h2 with h2 | ⟨g, cap, cur, hv, hg, r⟩
 ·exact .inl h2
 ·exact .inr ⟨g, cap, cur, hv, Nat.le_trans hb hg, r⟩

theorem OwnV.row {w : World} {base : Nat} {e : TypeId} {v : Value} {xs : List Value} (h : OwnV w base e v xs) : ∀ r, v.ownBlock = some r → base ≤ r ∧ r < w.heap.size := World.ownsRow.lt h

section
variable {P : Program} (w : World)

theorem run_append_nothing (base : Nat) (t ty e : TypeId) (i : TypeInfo) (ht : P.underlying t = some (.slice e)) (hi : P.info? e = some i)
  (v : Value) (xs : List Value) (hown : OwnV w base e v xs) (c : Nat) : (Builtin.append_ #[t, t] ty #[v, .slice none 0 c]).run P w = .ok v w := by
 rcases hown.form with ⟨rfl, rfl⟩ | ⟨g, cap, rfl, _, _, hn, _⟩
 ·simp [Builtin.append_, run_underlying ht, sizeOf, typeInfo, hi, Builtin.lenOf, Builtin.firstCells]
 ·simp [Builtin.append_, run_underlying ht, sizeOf, typeInfo, hi, Builtin.lenOf, Builtin.firstCells, hn, storeCells]

def AppPost (w : World) (base : Nat) (e : TypeId) (v : Value) (xs ys : List Value) (v' : Value) (w' : World) : Prop :=
 OwnV w' base e v' (xs ++ ys) ∧ w.grownBy w' v.ownBlock ∧ (v'.ownBlock = v.ownBlock ∨ v'.ownBlock = some w.heap.size)

theorem run_app (base : Nat) (t ty e : TypeId) (z : Value) (bytes : Nat) (ht : P.underlying t = some (.slice e)) (hinfo : (P.info? e).map (fun i => (i.zero, i.size, i.bytes)) = some (some z, 1, bytes)) (hz1 : z.cells.size = 1)
  (v : Value) (xs : List Value) (hown : OwnV w base e v xs) (A : Option Addr) (m c : Nat) (ys : List Value) (hm : ys.length = m) (hs : Src w A ys) (h1 : ∀ u ∈ ys, u.oneCell' = true)
  (h63 : xs.length + ys.length ≤ maxLen) (hbytes : (xs.length + ys.length) * bytes ≤ 140737488355328) (hbase : base ≤ w.heap.size) :
  ∃ v' w', (Builtin.append_ #[t, t] ty #[v, .slice A m c]).run P w = .ok v' w' ∧ AppPost w base e v xs ys v' w' := by
 obtain ⟨i, hi, hz0, hsz, hb⟩ := info_parts hinfo
 subst hm
 rcases A with _ | ad
 ·obtain rfl : ys = [] := by
    rcases hs with h | ⟨ad, h, _⟩
    ·exact h
    ·cases h
  exact ⟨v, w, run_append_nothing w base t ty e i ht hi v xs hown c, by simpa using hown, World.grownBy.refl w _, .inl rfl⟩
 ·have hcells : ∀ j u, ys[j]? = some u → w.cell? (ad.add j) = some u := by
    intro j u hu
    rcases hs with rfl | ⟨ad', h, hc⟩
    ·simp at hu
    ·injection h with h
     subst h
     exact hc j u hu
  obtain ⟨v', w', hrun, h2, h3, _, h5⟩ := run_append_own_at (P := P) w base t ty e i z 1 bytes ht hi hz0 hsz hb hz1 (by decide) v xs.length xs hown ad ys.length c ys (by simp) hcells h1 h63 hbytes hbase
  refine ⟨v', w', hrun, ?_, h3, h5⟩
  unfold OwnV
  rw [List.length_append]
  exact h2

theorem AppPost.below {w : World} {base : Nat} {e : TypeId} {v : Value} {xs ys : List Value} {v' : Value} {w' : World} (h : AppPost w base e v xs ys v' w') (hown : OwnV w base e v xs) (hb : base ≤ w.heap.size) : Below base w w' :=
 bR.grown h.2.1 hb (fun r e => (hown.row r e).1)

theorem wpList_app {ops : Array Oper} {rest : List Oper} {o : Oper} {a : Act} {Q : Exit → Act → World → Prop} (hgd : o.guard = none) (s x : Operand) (t : TypeId)
  (ho : o.op = .call { callee := .builtin .append, args := #[s, x], argTypes := #[t, t] })
  (base : Nat) (e : TypeId) (z : Value) (bytes : Nat) (ht : P.underlying t = some (.slice e)) (hinfo : (P.info? e).map (fun i => (i.zero, i.size, i.bytes)) = some (some z, 1, bytes)) (hz1 : z.cells.size = 1)
  (v : Value) (xs : List Value) (hv : a.eval s = v) (hown : OwnV w base e v xs) (A : Option Addr) (m c : Nat) (ys : List Value) (hx : a.eval x = .slice A m c) (hm : ys.length = m) (hs : Src w A ys) (h1 : ∀ u ∈ ys, u.oneCell' = true)
  (h63 : xs.length + ys.length ≤ maxLen) (hbytes : (xs.length + ys.length) * bytes ≤ 140737488355328) (hbase : base ≤ w.heap.size)
  (h : ∀ v' w', AppPost w base e v xs ys v' w' → wpList P ops Q rest (a.put o.dst v') w') : wpList P ops Q (o :: rest) a w :=
 wpList_plain hgd fun _ hK => by
  obtain ⟨v', w', hrun, hp⟩ := run_app (P := P) w base t o.type e z bytes ht hinfo hz1 v xs hown A m c ys hm hs h1 h63 hbytes hbase
  unfold Oper.wp execOp
  simp only [ho, resolve, invoke, builtin, Sem.run_bind, Sem.run_pure, Result.andThen_ok, List.map_toArray, List.map_cons, List.map_nil, hv, hx, hrun]
  exact hK _ _ (h v' w' hp)

end

def encB (c : UInt8) : Value := .int .u8 (c.toNat : Int)

theorem encB_at (bs : List UInt8) (j : Nat) (hj : j < bs.length) : (bs.map encB)[j]? = some (.int .u8 (byteAt bs j)) := by
 simp [encB, byteAt, List.getElem?_eq_getElem hj]

theorem encB_one (bs : List UInt8) : ∀ u ∈ bs.map encB, u.oneCell' = true := by
 intro u hu
 obtain ⟨c, _, rfl⟩ := List.mem_map.1 hu
 rfl

theorem RdB.src {w : World} {B : Nat} {a : Option Addr} {bs : List UInt8} (h : RdB w B a bs) : Src w a (bs.map encB) := by
 rcases h with rfl | ⟨b, o, e, _, hc⟩
 ·exact .inl rfl
 ·refine .inr ⟨_, e, fun j u hu => ?_⟩
  have hj : j < bs.length := by
   have := (List.getElem?_eq_some_iff.1 hu).1
   simpa using this
  rw [encB_at bs j hj] at hu
  injection hu with hu
  subst hu
  rw [mk_addr_add]
  exact hc j hj

theorem OwnV.bytes {w : World} {base : Nat} {e : TypeId} {v : Value} {bs : List UInt8} (h : OwnV w base e v (bs.map encB)) :
  ∃ a c, v = .slice a bs.length c ∧ bs.length ≤ c ∧ RdB w w.heap.size a bs ∧ (∀ p, a = some p → base ≤ p.block ∧ p.block < w.heap.size) := by
 rcases h.form with ⟨rfl, hx⟩ | ⟨g, cap, rfl, hb, hlt, hn, _, hc, _⟩
 ·obtain rfl : bs = [] := by simpa using hx
  exact ⟨none, 0, rfl, Nat.le_refl _, .inl rfl, fun p hp => by cases hp⟩
 ·rw [List.length_map] at hn
  refine ⟨some ⟨g, 0, none⟩, cap, by rw [List.length_map], hn, .inr ⟨g, 0, rfl, hlt, fun j hj => ?_⟩, fun p hp => by cases hp; exact ⟨hb, hlt⟩⟩
  rw [Nat.zero_add, hc j (by simpa using hj), encB_at bs j hj]

/-! ### Cuts of a slice -/

def subA (a : Option Addr) (l m : Nat) : Option Addr := if m = l then a else a.map (·.add (l * 1))

theorem RdB.cut {w : World} {B : Nat} {a : Option Addr} {bs : List UInt8} (h : RdB w B a bs) (l m k : Nat) (hm : l + k ≤ m) : RdB w B (subA a l m) ((bs.drop l).take k) := by
 rcases h with rfl | ⟨b, o, rfl, hlt, hc⟩
 ·exact .inl (by simp)
 ·by_cases hk : k = 0
  ·subst hk
   exact .inl (by simp)
  ·refine .inr ⟨b, o + l, ?_, hlt, fun j hj => ?_⟩
   ·unfold subA
    rw [if_neg (by omega)]
    simp [mk_addr_add]
   ·simp at hj
    rw [byteAt_take _ _ _ (by omega), byteAt_drop, Nat.add_assoc]
    exact hc (l + j) (by omega)

section
variable {P : Program}

end

/-! ### Lists of pieces -/

end Go.Proofs.YteldifnkeekafaaGreatDoor

namespace Go.Proofs.YteldifnkeekafaaGreatDoor
open Go.RowKit Go.Shelf

theorem info_u8 : (Tryz.prog.info? 5).map (fun i => (i.zero, i.size, i.bytes)) = some (some (.int .u8 0), 1, 1) := by kernel_rfl

theorem size_u8 (w : World) : (Go.sizeOf 5).run Tryz.prog w = .ok 1 w := by kernel_rfl

def RdP (w : World) (B : Nat) (a : Option Addr) (ps : List (List UInt8)) : Prop :=
 ps = [] ∨ ∃ b o, a = some ⟨b, o, none⟩ ∧ b < B ∧ ∀ j, j < ps.length → ∃ A c, w.cell? ⟨b, o + j, none⟩ = some (.slice A (ps[j]?.getD []).length c) ∧ (ps[j]?.getD []).length ≤ c ∧ RdB w B A (ps[j]?.getD [])

theorem RdP.below {w w' : World} {B : Nat} {a : Option Addr} {ps : List (List UInt8)} (h : RdP w B a ps) (hb : Below B w w') : RdP w' B a ps := by
 rcases h with h | ⟨b, o, e, hlt, hc⟩
 ·exact .inl h
 ·refine .inr ⟨b, o, e, hlt, fun j hj => ?_⟩
  obtain ⟨A, c, h1, h2, h3⟩ := hc j hj
  exact ⟨A, c, (hb.cell (p := ⟨b, o + j, none⟩) hlt).trans h1, h2, h3.below hb⟩

def GrowP (w : World) (e : Ending) (w' : World) : Prop := ∃ v, e = .returned v ∧ OwnV w' w.heap.size 5 v [] ∧ Below w.heap.size w w'

set_option maxRecDepth 100000 in
theorem grow_any (n : Nat) (w : World) (hn : n ≤ 140737488355328) : Calls Tryz.prog 143 #[.slice none 0 0, .int .i64 n] w (GrowP w) := by
 by_cases h0 : n = 0
 ·subst h0
  go_enter Tryz.func143, Tryz.ntmps143
  go_wp2
  go_ret
  exact ⟨_, rfl, OwnV.nil _ _ _, Below.refl _ _⟩
 ·obtain ⟨i0, hi, hz0, hz1, hz2⟩ := info_parts info_u8
  have hcap : Hid (grownCap w n 0 5 ≤ maxLen ∧ n ≤ grownCap w n 0 5) := ⟨grownCap_le_maxLen w n 0 _ (by simp [maxLen]; omega), grownCap_ge w n 0 _⟩
  have hr := fun ty => Lib.run_append_nil_zeros (P := Tryz.prog) w 22 3 ty 5 i0 (.int .u8 0) .i64 .i64 Tryz.underlying22 Tryz.underlying3 hi hz0 n (by omega) (by omega) (by omega) (by rw [hz2]; omega)
  have HR := h_ hr
  clear hr hz0 hz1 hz2 hi
  go_enter Tryz.func143, Tryz.ntmps143
  go_wp2_with (at_builtin; refine Lib.wpList_append_run _ rfl _ _ 22 3 rfl _ _ rfl rfl _ _ (HR.out _) ?_)
  go_ret
  refine ⟨_, rfl, ?_, below_dr (below_al bR _) 1⟩
  exact World.ownsRow_made w _ (grownCap w n 0 5) (Nat.le_refl _) hcap.out.1 (by
   have := hcap.out.2
   rw [Array.size_append, size_zeroCells, size_zeroCells]
   show n * 1 + (_ - n) * 1 = _ * 1
   omega)

def tot (ps : List (List UInt8)) (k : Nat) : Nat := ((ps.take k).flatten).length

theorem tot_step (ps : List (List UInt8)) (k : Nat) (hk : k < ps.length) : tot ps (k + 1) = tot ps k + (ps[k]?.getD []).length := by
 unfold tot
 rw [List.take_succ_eq_append_getElem hk, List.flatten_append, List.length_append, List.getElem?_eq_getElem hk]
 simp

theorem tot_le (ps : List (List UInt8)) (k : Nat) : tot ps k ≤ ps.flatten.length := by
 have h : ps.flatten = (ps.take k).flatten ++ (ps.drop k).flatten := by rw [← List.flatten_append, List.take_append_drop]
 unfold tot
 rw [h, List.length_append]
 omega

def JoinP (w : World) (bs : List UInt8) (e : Ending) (w' : World) : Prop := ∃ v, e = .returned v ∧ OwnV w' w.heap.size 5 v (bs.map encB) ∧ Below w.heap.size w w'

set_option maxRecDepth 100000 in
theorem concat_any (a : Option Addr) (c : Nat) (ps : List (List UInt8)) (w : World) (hl : ps.length ≤ 100000000) (ht : ps.flatten.length ≤ 140737488355328) (hr : RdP w w.heap.size a ps) :
  Calls Tryz.prog 130 #[.slice a ps.length c] w (JoinP w ps.flatten) := by
 have HR := h_ hr
 clear hr
 go_enter Tryz.func130, Tryz.ntmps130
 go_wp2
 go_loop [3, 11] (fun s i => ∃ k : Nat, k ≤ ps.length ∧ i = .int .i64 k ∧ s = .int .i64 (tot ps k)) (fun _ i => ps.length - (intOf i).toNat)
 case atStart => exact ⟨0, Nat.zero_le _, rfl, by simp [tot]⟩
 case round =>
  obtain ⟨k, hk, rfl, rfl⟩ := hrel
  have htl := tot_le ps k
  by_cases hlt : k < ps.length
  ·rcases HR.out with rfl | ⟨b, o, rfl, hb, hcs⟩
   ·simp at hlt
   obtain ⟨A, c', hx, _, _⟩ := hcs k hlt
   clear hcs
   have hts := tot_step ps k hlt
   have htl2 := tot_le ps (k + 1)
   obtain ⟨q, hq⟩ : ∃ q, q = (ps[k]?.getD []).length := ⟨_, rfl⟩
   obtain ⟨m, hm⟩ : ∃ m, m = tot ps k := ⟨_, rfl⟩
   rw [← hq] at hx hts
   rw [← hm] at hts htl ⊢
   have hmq : m + q ≤ 140737488355328 := by omega
   have HS := h_ hts
   clear hts hq hm htl htl2
   go_wp2
   go_round
   case rel => exact ⟨k + 1, by omega, by go_num, by rw [HS.out]; go_num⟩
   case measure => simp [intOf]; omega
  ·obtain rfl : k = ps.length := by omega
   go_wp2_with fail
   refine (grow_any (tot ps ps.length) _ (by omega)).mono ?_
   rintro e w1 ⟨v1, rfl, ho1, hb1⟩
   go_wp2
   go_loopw [6, 27] (fun v i wr => ∃ k : Nat, k ≤ ps.length ∧ i = .int .i64 k ∧ OwnV wr w.heap.size 5 v ((ps.take k).flatten.map encB) ∧ Below w.heap.size w wr) (fun _ i _ => ps.length - (intOf i).toNat)
   case atStart => exact ⟨0, Nat.zero_le _, rfl, by simpa using ho1, hb1⟩
   case round =>
    obtain ⟨k, hk2, rfl, hov, hbw⟩ := hrel
    by_cases hlt2 : k < ps.length
    ·rcases HR.out.below hbw with rfl | ⟨b, o, rfl, hb, hcs⟩
     ·simp at hlt2
     obtain ⟨A, c', hx, _, hp⟩ := hcs k hlt2
     clear hcs
     have hts := tot_step ps k hlt2
     have htl2 := tot_le ps (k + 1)
     have hfl : (ps.take (k + 1)).flatten = (ps.take k).flatten ++ ps[k]?.getD [] := by
      rw [List.take_succ_eq_append_getElem hlt2, List.flatten_append]
      simp [List.getElem?_eq_getElem hlt2]
     obtain ⟨p, hpe⟩ : ∃ p, p = ps[k]?.getD [] := ⟨_, rfl⟩
     rw [← hpe] at hx hp hts hfl
     have hM : ((ps.take k).flatten.map encB).length + (p.map encB).length ≤ 140737488355328 := by
      simp only [List.length_map]
      unfold tot at hts htl2
      omega
     have HF := h_ hfl
     have hL1 : Hid (((ps.take k).flatten.map encB).length + (p.map encB).length ≤ maxLen) := Nat.le_trans hM (by simp [maxLen])
     have hL2 : Hid ((((ps.take k).flatten.map encB).length + (p.map encB).length) * 1 ≤ 140737488355328) := by simp only [Hid]; omega
     have h1 := h_ (encB_one p)
     have hsz := hbw.size
     clear hts htl2 hfl hpe hM
     go_wp2_with (at_builtin; refine wpList_app _ rfl _ _ 22 rfl w.heap.size 5 (.int .u8 0) 1 Tryz.underlying22 info_u8 rfl _ _ rfl hov _ _ _ _ rfl (List.length_map _) hp.src h1.out hL1.out hL2.out hsz ?_; intro v' w2 hpp)
     go_roundw
     case rel => exact ⟨k + 1, by omega, by go_num, by rw [HF.out, List.map_append]; exact hpp.1, hbw.trans (hpp.below hov hsz)⟩
     case measure => simp [intOf]; omega
    ·obtain rfl : k = ps.length := by omega
     go_wp2
     go_ret
     rw [List.take_length] at hov
     exact ⟨_, rfl, hov, hbw⟩

theorem join_any (a : Option Addr) (c : Nat) (ps : List (List UInt8)) (w : World) (hl : ps.length ≤ 100000000) (ht : ps.flatten.length ≤ 140737488355328) (hr : RdP w w.heap.size a ps) :
  Calls Tryz.prog 107 #[.slice a ps.length c] w (JoinP w ps.flatten) := by
 have H := h_ (concat_any a c ps w hl ht hr)
 clear hr
 go_enter Tryz.func107, Tryz.ntmps107
 go_wp2_with fail
 refine H.out.mono ?_
 rintro e w1 ⟨v, rfl, ho, hb⟩
 go_wp2
 go_ret
 exact ⟨v, rfl, ho, hb⟩

end Go.Proofs.YteldifnkeekafaaGreatDoor
