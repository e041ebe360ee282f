/- Joined texts. -/
import Derived.Test.YthjgjkohogjjpaaGreatDoorZBv
import Derived.Test.YthjgjkohogjjpaaGreatDoorZBx
import Derived.Test.YthjgjkohogjjpaaGreatDoorZKv
import Derived.Lib.AppendStr
import Derived.Deep.RegionHeld3
import Derived.Test.YthjgjkohogjjpaaGreatDoorZJf
set_option maxHeartbeats 4000000
set_option linter.unusedSimpArgs false
namespace Go.Proofs.YthjgjkohogjjpaaGreatDoor
open Go.RowKit Go.Shelf




def bareB (k n : Int) (b s : List UInt8) (m : Nat) : Bool :=
 decide (k = 1 ∨ k = 5 ∨ n = 0) && (decide (k = 2 ∨ b = []) && (decide (k = 3 ∨ s = []) && decide (k = 4 ∨ m = 0)))

theorem rightN_parts (k n : Int) (b s : List UInt8) (m : Nat) (hn : 0 ≤ n) :
  rightN k n b s m = (decide (1 ≤ k ∧ k ≤ 6) && (bareB k n b s m && (!(decide (k = 5 ∧ 1 < n)) && (runesL s).2))) := by
 have h0 : (runesL []).2 = true := by simp [runesL, runesF_nil]
 by_cases hs : s = []
 ·subst hs
  unfold rightN bareB
  rw [h0]
  by_cases h1 : k = 1
  ·subst h1; simp
  by_cases h2 : k = 2
  ·subst h2; simp
  by_cases h3 : k = 3
  ·subst h3; simp
  by_cases h4 : k = 4
  ·subst h4; simp
  by_cases h5 : k = 5
  ·subst h5
   by_cases hn1 : n ≤ 1
   ·have : ¬ 1 < n := by omega
    simp [hn1, this]
   ·have : 1 < n := by omega
    simp [hn1, this]
  by_cases h6 : k = 6
  ·subst h6; simp
  ·have : ¬ (1 ≤ k ∧ k ≤ 6) := by omega
   simp [h1, h2, h3, h4, h5, h6, this]
 ·by_cases h3 : k = 3
  ·subst h3
   unfold rightN bareB
   simp [hs]
   cases (runesL s).2 <;> simp
  ·have e1 : rightN k n b s m = false := by
     unfold rightN
     simp [hs, h3]
   have e2 : bareB k n b s m = false := by
    unfold bareB
    simp [hs, h3]
   rw [e1, e2]
   simp


set_option maxRecDepth 100000 in
theorem refHead_small (m : Nat) (n : Int) (w : World) (hm : m ≤ 7) (hn : 0 ≤ n) (h : n < 24) :
  Calls Tryz.prog 40 #[.int .i64 m, .int .u64 n] w (JoinP w (headB m n)) := by
 obtain ⟨k, rfl⟩ := Int.eq_ofNat_of_zero_le hn
 have e := byte_enc (32 * m + k) (by omega)
 have E : Hid (Value.int .u8 (32 * (m : Int) + (k : Int)) = encB (UInt8.ofNat (32 * m + k))) := by rw [← e]; simp [Hid]
 have HB := h_ (headB_small m k h)
 have hm' : (m : Int) ≤ 7 := by omega
 clear e
 go_enter Tryz.func40, Tryz.ntmps40
 go_wp2_with fail
 go_ret
 rw [E.out, HB.out]
 exact ⟨_, rfl, OwnV.lit w w.heap.size 5 #[encB (UInt8.ofNat (32 * m + k))] (Nat.le_refl _) (by simp [maxLen]), bR.alloc (Nat.le_refl _) _⟩

set_option maxRecDepth 100000 in
theorem refHead_wide (m : Nat) (n : Int) (w : World) (hm : m ≤ 7) (hn : U64 n) (h : ¬ n < 24) :
  Calls Tryz.prog 40 #[.int .i64 m, .int .u64 n] w (JoinP w (headB m n)) := by
 obtain ⟨W, hW, hx, hf⟩ := least_good n
 have HB := h_ (headB_wide m n h W hW)
 have HW := h_ hW
 have HF := h_ hf
 have HN := h_ hn
 have HX := h_ hx
 have HL := h_ (beB_length W n)
 have hm' : (m : Int) ≤ 7 := by omega
 have hc := isW_cases hx
 have hW8 : W = 1 ∨ W = 2 ∨ W = 4 ∨ W = 8 := by omega
 clear hW hx hf hn hc
 rcases hW8 with rfl | rfl | rfl | rfl
 ·have e := byte_enc (32 * m + 24 + 0) (by omega)
  have E : Hid (Value.int .u8 (32 * (m : Int) + 24) = encB (UInt8.ofNat (32 * m + 24 + lg 1))) := by
   rw [show lg 1 = 0 from rfl, ← e]
   simp only [Hid, Value.int.injEq, true_and]
   omega
  clear e
  go_enter Tryz.func40, Tryz.ntmps40
  go_wp2_with fail
  refine (refLeast_any _ _ HN.out).mono ?_
  rintro e w1 ⟨rfl, hb1⟩
  rw [HW.out]
  go_wp2_with fail
  refine (refPut_yes 1 n _ HX.out HN.out HF.out).mono ?_
  rintro e w2 ⟨v, rfl, ⟨a2, c2, rfl, hc2, hr2, _⟩, hb2⟩
  have B2 := h_ (below_on hb1 hb2)
  have HS := h_ (hr2.src.alloc (.cells #[.int .u8 (32 * (m : Int) + 24)] 5))
  have hob := OwnV.lit w2 w2.heap.size 5 #[.int .u8 (32 * (m : Int) + 24)] (Nat.le_refl _) (by simp [maxLen])
  have o1 := h_ (encB_one (beB 1 n))
  have hL1 : Hid (([.int .u8 (32 * (m : Int) + 24)] : List Value).length + ((beB 1 n).map encB).length ≤ maxLen) := by simp [Hid, maxLen, beB_length]
  have hL2 : Hid ((([.int .u8 (32 * (m : Int) + 24)] : List Value).length + ((beB 1 n).map encB).length) * 1 ≤ 140737488355328) := by simp [Hid, beB_length]
  clear hr2 hb1 hb2
  go_wp2_with fail
  go_loop [9, 10] (fun k i => (k = .int .u8 24 ∧ i = .int .i64 1)) (fun _ i => (intOf i).toNat)
  case atStart => exact ⟨rfl, rfl⟩
  case round =>
   obtain ⟨rfl, rfl⟩ := hrel
   ·go_wp2_with (at_builtin; refine wpList_app _ rfl _ _ 31 rfl w2.heap.size 5 (.int .u8 0) 1 Tryz.underlying31 info_u8 rfl _ _ rfl hob _ _ _ _ rfl (List.length_map _) HS.out o1.out hL1.out hL2.out (by simp) ?_; intro v' w3 hp)
    go_ret
    refine ⟨v', rfl, ?_, B2.out.trans (((bR.alloc (Nat.le_refl _) _).trans (hp.below hob (by simp))).mono B2.out.size)⟩
    have h1 := hp.1.base B2.out.size
    rw [HB.out, List.map_append, List.map_cons, List.map_nil, ← E.out]
    exact h1
 ·have e := byte_enc (32 * m + 24 + 1) (by omega)
  have E : Hid (Value.int .u8 (32 * (m : Int) + 25) = encB (UInt8.ofNat (32 * m + 24 + lg 2))) := by
   rw [show lg 2 = 1 from rfl, ← e]
   simp only [Hid, Value.int.injEq, true_and]
   omega
  clear e
  go_enter Tryz.func40, Tryz.ntmps40
  go_wp2_with fail
  refine (refLeast_any _ _ HN.out).mono ?_
  rintro e w1 ⟨rfl, hb1⟩
  rw [HW.out]
  go_wp2_with fail
  refine (refPut_yes 2 n _ HX.out HN.out HF.out).mono ?_
  rintro e w2 ⟨v, rfl, ⟨a2, c2, rfl, hc2, hr2, _⟩, hb2⟩
  have B2 := h_ (below_on hb1 hb2)
  have HS := h_ (hr2.src.alloc (.cells #[.int .u8 (32 * (m : Int) + 25)] 5))
  have hob := OwnV.lit w2 w2.heap.size 5 #[.int .u8 (32 * (m : Int) + 25)] (Nat.le_refl _) (by simp [maxLen])
  have o1 := h_ (encB_one (beB 2 n))
  have hL1 : Hid (([.int .u8 (32 * (m : Int) + 25)] : List Value).length + ((beB 2 n).map encB).length ≤ maxLen) := by simp [Hid, maxLen, beB_length]
  have hL2 : Hid ((([.int .u8 (32 * (m : Int) + 25)] : List Value).length + ((beB 2 n).map encB).length) * 1 ≤ 140737488355328) := by simp [Hid, beB_length]
  clear hr2 hb1 hb2
  go_wp2_with fail
  go_loop [9, 10] (fun k i => (k = .int .u8 24 ∧ i = .int .i64 2) ∨ (k = .int .u8 25 ∧ i = .int .i64 1)) (fun _ i => (intOf i).toNat)
  case atStart => exact .inl ⟨rfl, rfl⟩
  case round =>
   rcases hrel with ⟨rfl, rfl⟩ | ⟨rfl, rfl⟩
   ·go_wp2
    go_round
    case rel => exact .inr (⟨rfl, rfl⟩)
    case measure => simp [intOf]
   ·go_wp2_with (at_builtin; refine wpList_app _ rfl _ _ 31 rfl w2.heap.size 5 (.int .u8 0) 1 Tryz.underlying31 info_u8 rfl _ _ rfl hob _ _ _ _ rfl (List.length_map _) HS.out o1.out hL1.out hL2.out (by simp) ?_; intro v' w3 hp)
    go_ret
    refine ⟨v', rfl, ?_, B2.out.trans (((bR.alloc (Nat.le_refl _) _).trans (hp.below hob (by simp))).mono B2.out.size)⟩
    have h1 := hp.1.base B2.out.size
    rw [HB.out, List.map_append, List.map_cons, List.map_nil, ← E.out]
    exact h1
 ·have e := byte_enc (32 * m + 24 + 2) (by omega)
  have E : Hid (Value.int .u8 (32 * (m : Int) + 26) = encB (UInt8.ofNat (32 * m + 24 + lg 4))) := by
   rw [show lg 4 = 2 from rfl, ← e]
   simp only [Hid, Value.int.injEq, true_and]
   omega
  clear e
  go_enter Tryz.func40, Tryz.ntmps40
  go_wp2_with fail
  refine (refLeast_any _ _ HN.out).mono ?_
  rintro e w1 ⟨rfl, hb1⟩
  rw [HW.out]
  go_wp2_with fail
  refine (refPut_yes 4 n _ HX.out HN.out HF.out).mono ?_
  rintro e w2 ⟨v, rfl, ⟨a2, c2, rfl, hc2, hr2, _⟩, hb2⟩
  have B2 := h_ (below_on hb1 hb2)
  have HS := h_ (hr2.src.alloc (.cells #[.int .u8 (32 * (m : Int) + 26)] 5))
  have hob := OwnV.lit w2 w2.heap.size 5 #[.int .u8 (32 * (m : Int) + 26)] (Nat.le_refl _) (by simp [maxLen])
  have o1 := h_ (encB_one (beB 4 n))
  have hL1 : Hid (([.int .u8 (32 * (m : Int) + 26)] : List Value).length + ((beB 4 n).map encB).length ≤ maxLen) := by simp [Hid, maxLen, beB_length]
  have hL2 : Hid ((([.int .u8 (32 * (m : Int) + 26)] : List Value).length + ((beB 4 n).map encB).length) * 1 ≤ 140737488355328) := by simp [Hid, beB_length]
  clear hr2 hb1 hb2
  go_wp2_with fail
  go_loop [9, 10] (fun k i => (k = .int .u8 24 ∧ i = .int .i64 4) ∨ (k = .int .u8 25 ∧ i = .int .i64 2) ∨ (k = .int .u8 26 ∧ i = .int .i64 1)) (fun _ i => (intOf i).toNat)
  case atStart => exact .inl ⟨rfl, rfl⟩
  case round =>
   rcases hrel with ⟨rfl, rfl⟩ | ⟨rfl, rfl⟩ | ⟨rfl, rfl⟩
   ·go_wp2
    go_round
    case rel => exact .inr (.inl ⟨rfl, rfl⟩)
    case measure => simp [intOf]
   ·go_wp2
    go_round
    case rel => exact .inr (.inr (⟨rfl, rfl⟩))
    case measure => simp [intOf]
   ·go_wp2_with (at_builtin; refine wpList_app _ rfl _ _ 31 rfl w2.heap.size 5 (.int .u8 0) 1 Tryz.underlying31 info_u8 rfl _ _ rfl hob _ _ _ _ rfl (List.length_map _) HS.out o1.out hL1.out hL2.out (by simp) ?_; intro v' w3 hp)
    go_ret
    refine ⟨v', rfl, ?_, B2.out.trans (((bR.alloc (Nat.le_refl _) _).trans (hp.below hob (by simp))).mono B2.out.size)⟩
    have h1 := hp.1.base B2.out.size
    rw [HB.out, List.map_append, List.map_cons, List.map_nil, ← E.out]
    exact h1
 ·have e := byte_enc (32 * m + 24 + 3) (by omega)
  have E : Hid (Value.int .u8 (32 * (m : Int) + 27) = encB (UInt8.ofNat (32 * m + 24 + lg 8))) := by
   rw [show lg 8 = 3 from rfl, ← e]
   simp only [Hid, Value.int.injEq, true_and]
   omega
  clear e
  go_enter Tryz.func40, Tryz.ntmps40
  go_wp2_with fail
  refine (refLeast_any _ _ HN.out).mono ?_
  rintro e w1 ⟨rfl, hb1⟩
  rw [HW.out]
  go_wp2_with fail
  refine (refPut_yes 8 n _ HX.out HN.out HF.out).mono ?_
  rintro e w2 ⟨v, rfl, ⟨a2, c2, rfl, hc2, hr2, _⟩, hb2⟩
  have B2 := h_ (below_on hb1 hb2)
  have HS := h_ (hr2.src.alloc (.cells #[.int .u8 (32 * (m : Int) + 27)] 5))
  have hob := OwnV.lit w2 w2.heap.size 5 #[.int .u8 (32 * (m : Int) + 27)] (Nat.le_refl _) (by simp [maxLen])
  have o1 := h_ (encB_one (beB 8 n))
  have hL1 : Hid (([.int .u8 (32 * (m : Int) + 27)] : List Value).length + ((beB 8 n).map encB).length ≤ maxLen) := by simp [Hid, maxLen, beB_length]
  have hL2 : Hid ((([.int .u8 (32 * (m : Int) + 27)] : List Value).length + ((beB 8 n).map encB).length) * 1 ≤ 140737488355328) := by simp [Hid, beB_length]
  clear hr2 hb1 hb2
  go_wp2_with fail
  go_loop [9, 10] (fun k i => (k = .int .u8 24 ∧ i = .int .i64 8) ∨ (k = .int .u8 25 ∧ i = .int .i64 4) ∨ (k = .int .u8 26 ∧ i = .int .i64 2) ∨ (k = .int .u8 27 ∧ i = .int .i64 1)) (fun _ i => (intOf i).toNat)
  case atStart => exact .inl ⟨rfl, rfl⟩
  case round =>
   rcases hrel with ⟨rfl, rfl⟩ | ⟨rfl, rfl⟩ | ⟨rfl, rfl⟩ | ⟨rfl, rfl⟩
   ·go_wp2
    go_round
    case rel => exact .inr (.inl ⟨rfl, rfl⟩)
    case measure => simp [intOf]
   ·go_wp2
    go_round
    case rel => exact .inr (.inr (.inl ⟨rfl, rfl⟩))
    case measure => simp [intOf]
   ·go_wp2
    go_round
    case rel => exact .inr (.inr (.inr (⟨rfl, rfl⟩)))
    case measure => simp [intOf]
   ·go_wp2_with (at_builtin; refine wpList_app _ rfl _ _ 31 rfl w2.heap.size 5 (.int .u8 0) 1 Tryz.underlying31 info_u8 rfl _ _ rfl hob _ _ _ _ rfl (List.length_map _) HS.out o1.out hL1.out hL2.out (by simp) ?_; intro v' w3 hp)
    go_ret
    refine ⟨v', rfl, ?_, B2.out.trans (((bR.alloc (Nat.le_refl _) _).trans (hp.below hob (by simp))).mono B2.out.size)⟩
    have h1 := hp.1.base B2.out.size
    rw [HB.out, List.map_append, List.map_cons, List.map_nil, ← E.out]
    exact h1

theorem refHead_any (m : Nat) (n : Int) (w : World) (hm : m ≤ 7) (hn : U64 n) :
  Calls Tryz.prog 40 #[.int .i64 m, .int .u64 n] w (JoinP w (headB m n)) := by
 by_cases h : n < 24
 ·exact refHead_small m n w hm hn.1 h
 ·exact refHead_wide m n w hm hn h


theorem step_run {P : Program} {ops : Array Oper} {o : Oper} {a : Act} {w : World} {K : Act → World → Prop} {Q : Exit → Act → World → Prop} {E : Prop} (hgd : o.guard = none) (s x : Operand) (t u : TypeId)
  (ho : o.op = .call { callee := .builtin .append, args := #[s, x], argTypes := #[t, u] }) (v y v' : Value) (w' : World) (hv : a.eval s = v) (hy : a.eval x = y)
  (hrun : (Builtin.append_ #[t, u] o.type #[v, y]).run P w = .ok v' w') (h : K (a.put o.dst v') w') : if Region.wanted o (yielded ops a.tmps) = true then Oper.wp P o a w K Q else E := by
 have hw : Region.wanted o (yielded ops a.tmps) = true := by simp [Region.wanted, hgd]
 rw [if_pos hw]
 unfold Oper.wp execOp
 simp only [ho, resolve, invoke, builtin, Sem.run_bind, Sem.run_pure, Result.andThen_ok, List.map_toArray, List.map_cons, List.map_nil, hv, hy, hrun]
 exact h

set_option maxRecDepth 100000 in
theorem refBytes_2 (n : Int) (a : Option Addr) (b : List UInt8) (c : Nat) (v3 v4 : Value) (w : World) (hrb : RdB w w.heap.size a b) (hl : b.length ≤ 1000000000) :
  Calls Tryz.prog 21 #[.agg #[.int .i64 2, .int .u64 n, .slice a b.length c, v3, v4]] w (JoinP w (headB 2 b.length ++ b)) := by
 obtain ⟨W0, hW0⟩ : ∃ W0, W0 = w.alloc (.cells #[.int .i64 2, .int .u64 n, .slice a b.length c, v3, v4] 51) := ⟨_, rfl⟩
 have HB0 : Hid (Below w.heap.size w W0) := by rw [hW0]; exact below_al bR _
 have HELD : Hid (∀ w', Below W0.heap.size W0 w' → w'.cell? ⟨w.heap.size, 2, none⟩ = some (.slice a b.length c) ∧ Below W0.heap.size W0 w') := by
  intro w' h
  refine ⟨?_, h⟩
  rw [hW0] at h
  rw [h.cell (by simp)]
  simp
 have F0 : Below W0.heap.size W0 W0.drew := bR.drew
 have HC : Hid (∀ w, Calls Tryz.prog 40 #[.int .i64 2, .int .u64 b.length] w (JoinP w (headB 2 b.length))) := fun w => refHead_any 2 b.length w (by omega) ⟨by omega, by omega⟩
 have hw : IntKind.u64.wrap (b.length : Int) = (b.length : Int) := by rw [IntKind.wrap_u64]; omega
 have hh := (head_length 2 b.length).2
 have HL1 : Hid (((headB 2 b.length).map encB).length + (b.map encB).length ≤ maxLen) := by simp [Hid, maxLen]; omega
 have HL2 : Hid ((((headB 2 b.length).map encB).length + (b.map encB).length) * 1 ≤ 140737488355328) := by simp [Hid]; omega
 have HR := h_ hrb
 have HW0 := h_ hW0
 clear hW0 hrb hh
 go_enter Tryz.func21, Tryz.ntmps21
 go_wp2
 rw [← HW0.out]
 go_region_held3 (fun w' => w'.cell? ⟨w.heap.size, 2, none⟩ = some (.slice a b.length c) ∧ Below W0.heap.size W0 w')
  (first | (refine HELD.out _ ?_; with_reducible exact F0) | (refine HELD.out _ ?_; with_reducible exact F1) | (refine HELD.out _ ?_; with_reducible exact F2))
  (first
   | (go_at_call 40; (with_reducible refine (HC.out _).mono ?_); rintro e W1 ⟨v1, rfl, ho1, h1⟩; have F1 := F0.trans (h1.mono F0.size)
      have B1 := HB0.out.trans (F1.mono HB0.out.size)
      have hob : OwnV W1 W0.heap.size 5 v1 ((headB 2 b.length).map encB) := ho1
      obtain ⟨v2, W2, hrun, hp⟩ := run_app (P := Tryz.prog) W1 W0.heap.size 31 31 5 (.int .u8 0) 1 Tryz.underlying31 info_u8 rfl v1 _ hob a b.length c (b.map encB) (List.length_map _) (HR.out.below B1).src (encB_one b) HL1.out HL2.out F1.size
      have HO := h_ hp.1
      have HRun := h_ hrun
      have F2 := F1.trans (hp.below hob F1.size)
      clear hrun hp hob ho1 h1 B1)
   | (refine step_run (by rfl) _ _ _ _ (by rfl) _ _ _ _ (by rfl) (by rfl) HRun.out ?_))
 go_wp2
 go_ret
 refine ⟨v2, rfl, ?_, HB0.out.trans (F2.mono HB0.out.size)⟩
 rw [List.map_append]
 exact HO.out.base HB0.out.size

theorem strCells_list (s : List UInt8) : Lib.strCells ⟨s.toArray⟩ = s.map encB := rfl

set_option maxRecDepth 100000 in
theorem refBytes_3 (n : Int) (s : List UInt8) (v2 v4 : Value) (w : World) (hl : s.length ≤ 1000000000) :
  Calls Tryz.prog 21 #[.agg #[.int .i64 3, .int .u64 n, v2, .string ⟨s.toArray⟩, v4]] w (JoinP w (headB 3 s.length ++ s)) := by
 obtain ⟨W0, hW0⟩ : ∃ W0, W0 = w.alloc (.cells #[.int .i64 3, .int .u64 n, v2, .string ⟨s.toArray⟩, v4] 51) := ⟨_, rfl⟩
 have HB0 : Hid (Below w.heap.size w W0) := by rw [hW0]; exact below_al bR _
 have HELD : Hid (∀ w', Below W0.heap.size W0 w' → w'.cell? ⟨w.heap.size, 3, none⟩ = some (.string ⟨s.toArray⟩) ∧ Below W0.heap.size W0 w') := by
  intro w' h
  refine ⟨?_, h⟩
  rw [hW0] at h
  rw [h.cell (by simp)]
  simp
 have F0 : Below W0.heap.size W0 W0.drew := bR.drew
 have HC : Hid (∀ w, Calls Tryz.prog 40 #[.int .i64 3, .int .u64 s.length] w (JoinP w (headB 3 s.length))) := fun w => refHead_any 3 s.length w (by omega) ⟨by omega, by omega⟩
 have hw : IntKind.u64.wrap (s.length : Int) = (s.length : Int) := by rw [IntKind.wrap_u64]; omega
 have hh := (head_length 3 s.length).2
 have hs1 : (⟨s.toArray⟩ : ByteArray).size = s.length := by simp [ByteArray.size]
 have HL1 : Hid (((headB 3 s.length).map encB).length + (⟨s.toArray⟩ : ByteArray).size ≤ maxLen) := by rw [hs1]; simp [Hid, maxLen]; omega
 have HL2 : Hid (((headB 3 s.length).map encB).length + (⟨s.toArray⟩ : ByteArray).size ≤ 140737488355328) := by rw [hs1]; simp [Hid]; omega
 have HS1 := h_ hs1
 obtain ⟨i0, hi0, hz0, hz1, hz2⟩ := info_parts info_u8
 have HI0 := h_ hi0
 have HZ0 := h_ hz0
 have HZ1 := h_ hz1
 have HZ2 := h_ hz2
 have HW0 := h_ hW0
 clear hW0 hh hs1 hi0 hz0 hz1 hz2
 go_enter Tryz.func21, Tryz.ntmps21
 go_wp2
 rw [← HW0.out]
 go_region_held3 (fun w' => w'.cell? ⟨w.heap.size, 3, none⟩ = some (.string ⟨s.toArray⟩) ∧ Below W0.heap.size W0 w')
  (first | (refine HELD.out _ ?_; with_reducible exact F0) | (refine HELD.out _ ?_; with_reducible exact F1) | (refine HELD.out _ ?_; with_reducible exact F2))
  (first
   | (go_at_call 40; (with_reducible refine (HC.out _).mono ?_); rintro e W1 ⟨v1, rfl, ho1, h1⟩; have F1 := F0.trans (h1.mono F0.size)
      have B1 := HB0.out.trans (F1.mono HB0.out.size)
      have hob : OwnV W1 W0.heap.size 5 v1 ((headB 3 s.length).map encB) := ho1
      obtain ⟨v9, W2, hrun, hp, hg, _⟩ := Lib.run_append_own_string (P := Tryz.prog) (w := W1) W0.heap.size 31 9 31 5 i0 Tryz.underlying31 Tryz.underlying9 HI0.out HZ0.out HZ1.out HZ2.out v1 _ _ hob ⟨s.toArray⟩ HL1.out HL2.out F1.size
      have HO := h_ hp
      have HRun := h_ hrun
      have F2 := F1.trans (bR.grown hg F1.size (fun r e => (OwnV.row hob r e).1))
      clear hrun hp hg hob ho1 h1 B1)
   | (refine step_run (by rfl) _ _ _ _ (by rfl) _ _ _ _ (by rfl) (by rfl) HRun.out ?_))
 go_wp2
 go_ret
 refine ⟨v9, rfl, ?_, HB0.out.trans (F2.mono HB0.out.size)⟩
 have h1 := HO.out
 rw [strCells_list, HS1.out] at h1
 have h2 : OwnV W2 W0.heap.size 5 v9 ((headB 3 s.length ++ s).map encB) := by
  unfold OwnV
  rw [List.map_append, List.length_append, List.length_map, List.length_map]
  rw [List.length_map] at h1
  exact h1
 exact h2.base HB0.out.size


theorem bareB_iff {k n : Int} {b s : List UInt8} {m : Nat} (h : bareB k n b s m = true) : (k = 1 ∨ k = 5 ∨ n = 0) ∧ (k = 2 ∨ b = []) ∧ (k = 3 ∨ s = []) ∧ (k = 4 ∨ m = 0) := by
 unfold bareB at h
 simpa using h

theorem bytesL_take_le : ∀ (l : List It) (j : Nat), (bytesL (l.take j)).length ≤ (bytesL l).length
 | [], _ => by simp
 | _ :: _, 0 => by simp [bytesL]
 | x :: xs, j + 1 => by
  have := bytesL_take_le xs j
  simp only [List.take_succ_cons, bytesL, List.length_append]
  omega

set_option maxRecDepth 100000 in
theorem refBytes_any : ∀ (x : It) (v : Value) (w : World), x.right = true → x.bytes.length ≤ 1000000000 → ItV w w.heap.size v x →
  Calls Tryz.prog 21 #[v] w (JoinP w x.bytes) := by
 refine It.ind fun k n b s l ih v w hr hlen hv => ?_
 simp only [ItV] at hv
 obtain ⟨A, ⟨a, c, C, rfl, ⟨hc, hC⟩, hrb, hn, hk, hsb, hss, hsl⟩, hl⟩ := hv
 simp only [Sz] at hsb hss hsl
 have e9 : (It.mk k n b s l).right = (rightN k n b s l.length && rightL l) := by simp [It.right]
 rw [e9, rightN_parts k n b s l.length hn.1] at hr
 simp only [Bool.and_eq_true, decide_eq_true_eq, Bool.not_eq_true', decide_eq_false_iff_not] at hr
 obtain ⟨⟨⟨hk1, hk6⟩, hba, h5, hR⟩, hrl⟩ := hr
 obtain ⟨b1, b2, b3, b4⟩ := bareB_iff hba
 have eb : (It.mk k n b s l).bytes = ownB k n b s l.length ++ bytesL l := by simp [It.bytes]
 rw [eb] at hlen ⊢
 rw [List.length_append] at hlen
 have hn0 := hn.1
 clear e9 eb hba hR
 have hk9 : k = 1 ∨ k = 2 ∨ k = 3 ∨ k = 4 ∨ k = 5 ∨ k = 6 := by omega
 rcases hk9 with rfl | rfl | rfl | rfl | rfl | rfl
 ·obtain rfl : l = [] := List.eq_nil_of_length_eq_zero (by omega)
  have e : ownB 1 n b s ([] : List It).length ++ bytesL [] = headB 0 n := by simp [ownB, bytesL]
  rw [e]
  have HC : Hid (∀ w, Calls Tryz.prog 40 #[.int .i64 0, .int .u64 n] w (JoinP w (headB 0 n))) := fun w => refHead_any 0 n w (by omega) hn
  clear e hn hrb ih hl b1 b2 b3 b4 h5 hrl hlen hk
  go_enter Tryz.func21, Tryz.ntmps21
  go_wp2_with fail
  refine (HC.out _).mono ?_
  rintro e w1 ⟨v1, rfl, ho, hb1⟩
  go_wp2
  go_ret
  exact ⟨v1, rfl, ho.base (by simp), below_on (below_al bR _) hb1⟩
 ·obtain rfl : l = [] := List.eq_nil_of_length_eq_zero (by omega)
  have e : ownB 2 n b s ([] : List It).length ++ bytesL [] = headB 2 b.length ++ b := by simp [ownB, bytesL]
  rw [e]
  refine refBytes_2 n a b c _ _ w hrb ?_
  have h1 : (ownB 2 n b s ([] : List It).length).length = (headB 2 b.length).length + b.length := by simp [ownB]
  omega
 ·obtain rfl : l = [] := List.eq_nil_of_length_eq_zero (by omega)
  have e : ownB 3 n b s ([] : List It).length ++ bytesL [] = headB 3 s.length ++ s := by simp [ownB, bytesL]
  rw [e]
  refine refBytes_3 n s _ _ w ?_
  have h1 : (ownB 3 n b s ([] : List It).length).length = (headB 3 s.length).length + s.length := by simp [ownB]
  omega
 ·have e : ownB 4 n b s l.length = headB 4 l.length := by simp [ownB]
  rw [e] at hlen ⊢
  obtain ⟨W0, hW0⟩ : ∃ W0, W0 = w.alloc (.cells #[.int .i64 4, .int .u64 n, .slice a b.length c, .string ⟨s.toArray⟩, .slice A l.length C] 51) := ⟨_, rfl⟩
  have HB0 : Hid (Below w.heap.size w W0) := by rw [hW0]; exact below_al bR _
  have HCELL : Hid (∀ w', Below W0.heap.size W0 w' → w'.cell? ⟨w.heap.size, 4, none⟩ = some (.slice A l.length C)) := by
   intro w' h
   rw [hW0] at h
   rw [h.cell (by simp)]
   simp
  have HC : Hid (∀ w, Calls Tryz.prog 40 #[.int .i64 4, .int .u64 l.length] w (JoinP w (headB 4 l.length))) := fun w => refHead_any 4 l.length w (by omega) ⟨by omega, by omega⟩
  have hw : IntKind.u64.wrap (l.length : Int) = (l.length : Int) := by rw [IntKind.wrap_u64]; omega
  have HW0 := h_ hW0
  have HL := h_ hl
  have IH := h_ ih
  have HRL := h_ hrl
  have HLEN := h_ hlen
  clear hW0 hl ih hrl hlen e hrb hn b1 b2 b3 b4 h5 hk
  go_enter Tryz.func21, Tryz.ntmps21
  go_wp2_with fail
  rw [← HW0.out]
  refine (HC.out _).mono ?_
  rintro e w1 ⟨v1, rfl, ho1, hb1⟩
  have c1 := HCELL.out w1 hb1
  go_wp2_with fail
  go_loopw [3, 4] (fun u i wr => ∃ j : Nat, j ≤ l.length ∧ i = .int .i64 j ∧ Hid (OwnV wr W0.heap.size 5 u ((headB 4 l.length ++ bytesL (l.take j)).map encB)) ∧ Hid (Below W0.heap.size W0 wr)) (fun _ i _ => l.length - (intOf i).toNat)
  case atStart => exact ⟨0, Nat.zero_le _, rfl, by simpa [Hid, bytesL] using ho1, hb1⟩
  case round =>
   obtain ⟨j, hj, rfl, HO, HB⟩ := hrel
   have hcell := HCELL.out wr HB.out
   clear c1 ho1 hb1
   by_cases hlt : j < l.length
   ·obtain ⟨g, o, rfl, hg, hlL⟩ : ∃ g o, A = some ⟨g, o, none⟩ ∧ g < w.heap.size ∧ ItL w w.heap.size g o l := by
      rcases HL.out with rfl | h
      ·simp at hlt
      ·exact h
    obtain ⟨v5, h5, hv5⟩ := ItL.at hlL (List.getElem?_eq_getElem hlt)
    have hB0 : Below w.heap.size w wr := HB0.out.trans (HB.out.mono HB0.out.size)
    have h5' := h5.below hB0 hg
    obtain ⟨v0, v1, v2, v3, v4, rfl, e0, e1, e2, e3, e4⟩ := h5'
    clear hlL h5
    have HV5 := h_ (ItV.mono hB0.size _ (ItV.below hB0 _ hv5))
    clear hv5
    have hst := bytesL_step l j hlt
    have hle := bytesL_take_le l (j + 1)
    rw [hst, List.length_append] at hle
    have h9 := HLEN.out
    have HST := h_ hst
    have hL1 : Hid (((headB 4 l.length ++ bytesL (l.take j)).map encB).length + (l[j].bytes.map encB).length ≤ maxLen) := by simp [Hid, maxLen]; omega
    have hL2 : Hid ((((headB 4 l.length ++ bytesL (l.take j)).map encB).length + (l[j].bytes.map encB).length) * 1 ≤ 140737488355328) := by simp [Hid]; omega
    have HCj := h_ (IH.out l[j] (List.getElem_mem hlt) (.agg #[v0, v1, v2, v3, v4]) wr (rightL_mem HRL.out (List.getElem_mem hlt)) (by omega) HV5.out)
    have o1 := h_ (encB_one l[j].bytes)
    clear hst hle h9
    go_wp2_with fail
    refine HCj.out.mono ?_
    rintro e w2 ⟨v9, rfl, ho9, hb9⟩
    obtain ⟨A9, C9, rfl, hC9, hr9, _⟩ := ho9.bytes
    have hown := HO.out.later hb9
    have HS := h_ hr9.src
    have HB2 := h_ (below_on HB.out hb9)
    have HB3 := h_ (hB0.trans (hb9.mono hB0.size))
    clear ho9 hr9 hb9 e0 e1 e2 e3 e4 hcell
    go_wp2_with (at_builtin; refine wpList_app _ rfl _ _ 31 rfl W0.heap.size 5 (.int .u8 0) 1 Tryz.underlying31 info_u8 rfl _ _ rfl hown _ _ _ _ rfl (List.length_map _) HS.out o1.out hL1.out hL2.out HB2.out.size ?_; intro v' w3 hp)
    go_roundw
    case rel =>
     refine ⟨j + 1, by omega, by go_num, ?_, ?_⟩
     ·have h1 := hp.1
      rw [← List.map_append, List.append_assoc, ← HST.out] at h1
      exact h1
     ·exact HB2.out.trans (hp.below hown HB2.out.size)
    case measure => simp [intOf]; omega
   ·obtain rfl : j = l.length := by omega
    rw [List.take_length] at HO
    go_wp2
    go_ret
    exact ⟨_, rfl, HO.out.base HB0.out.size, HB0.out.trans (HB.out.mono HB0.out.size)⟩
 ·obtain rfl : l = [] := List.eq_nil_of_length_eq_zero (by omega)
  obtain ⟨q, rfl⟩ := Int.eq_ofNat_of_zero_le hn0
  have hq : q ≤ 1 := by omega
  have E := byte_enc (244 + q) (by omega)
  have E2 : Hid (Value.int .u8 (244 + (q : Int)) = encB (UInt8.ofNat (244 + q))) := by rw [← E]; simp [Hid]
  have e : ownB 5 (q : Int) b s ([] : List It).length ++ bytesL [] = [UInt8.ofNat (244 + q)] := by
   have h1 : ownB 5 (q : Int) b s ([] : List It).length = headB 7 (20 + (q : Int)) := by simp [ownB]
   rw [h1, headB_small 7 _ (by omega)]
   have h2 : 32 * 7 + (20 + (q : Int)).toNat = 244 + q := by omega
   rw [h2]
   simp [bytesL]
  rw [e]
  have hqi : (q : Int) ≤ 1 := by omega
  clear e E hn hrb ih hl b1 b2 b3 b4 h5 hrl hlen hk
  go_enter Tryz.func21, Tryz.ntmps21
  go_wp2_with fail
  go_ret
  rw [E2.out]
  obtain ⟨W0, hW0⟩ : ∃ W0, W0 = w.alloc (.cells #[.int .i64 5, .int .u64 (q : Int), .slice a b.length c, .string ⟨s.toArray⟩, .slice A ([] : List It).length C] 51) := ⟨_, rfl⟩
  have hz : W0.heap.size = w.heap.size + 1 := by rw [hW0]; simp
  have h := OwnV.lit W0 W0.heap.size 5 #[encB (UInt8.ofNat (244 + q))] (Nat.le_refl _) (by simp [maxLen])
  have hB : Below w.heap.size w (W0.alloc (.cells #[encB (UInt8.ofNat (244 + q))] 5)) := by rw [hW0]; exact below_al (below_al bR _) _
  rw [hz] at h
  rw [hW0] at h hB
  exact ⟨_, rfl, h.base (Nat.le_succ _), hB⟩
 ·obtain rfl : l = [] := List.eq_nil_of_length_eq_zero (by omega)
  obtain rfl : n = 0 := by omega
  have e : ownB 6 0 b s ([] : List It).length ++ bytesL [] = [246] := by
   have h1 : ownB 6 0 b s ([] : List It).length = headB 7 22 := by simp [ownB]
   rw [h1, headB_small 7 _ (by omega)]
   simp [bytesL]
  rw [e]
  clear e hn hrb ih hl b1 b2 b3 b4 h5 hrl hlen hk
  go_enter Tryz.func21, Tryz.ntmps21
  go_wp2_with fail
  go_ret
  obtain ⟨W0, hW0⟩ : ∃ W0, W0 = w.alloc (.cells #[.int .i64 6, .int .u64 0, .slice a b.length c, .string ⟨s.toArray⟩, .slice A ([] : List It).length C] 51) := ⟨_, rfl⟩
  have hz : W0.heap.size = w.heap.size + 1 := by rw [hW0]; simp
  have h := OwnV.lit W0 W0.heap.size 5 #[encB 246] (Nat.le_refl _) (by simp [maxLen])
  have hB : Below w.heap.size w (W0.alloc (.cells #[encB 246] 5)) := by rw [hW0]; exact below_al (below_al bR _) _
  rw [hz] at h
  rw [hW0] at h hB
  exact ⟨_, rfl, h.base (Nat.le_succ _), hB⟩

end Go.Proofs.YthjgjkohogjjpaaGreatDoor
