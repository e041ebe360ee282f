/- Joined texts. -/
import Derived.Test.YtiahakbkagipkaaGreatDoorZJa
import Derived.Deep.RegionHeld
import Derived.Test.YtiahakbkagipkaaGreatDoorZBu
import Derived.Test.YtiahakbkagipkaaGreatDoorZJd
import Derived.Test.YtiahakbkagipkaaGreatDoorZJe
import Derived.Test.YtiahakbkagipkaaGreatDoorZBx
import Derived.Test.YtiahakbkagipkaaGreatDoorZBy
import Derived.Deep.CutRange
import Derived.Deep.RegionHeld3
set_option maxHeartbeats 1000000
set_option linter.unusedSimpArgs false
set_option linter.unusedVariables false
set_option maxRecDepth 100000
namespace Go.Proofs.YtiahakbkagipkaaGreatDoor
open Go Go.RowKit Go.Shelf

section
variable {P : Program} {ops : Array Oper} {Q : Exit → Act → World → Prop} {md : Region.Mode} {S : World → Prop} {T : Nat}

def wpAnyT (P : Program) (md : Region.Mode) (ops : Array Oper) (Q : Exit → Act → World → Prop) (S : World → Prop) (T : Nat) : Nat → Array Bool → Act → World → Prop
 | 0, listed, a, w => Region.ready md ops listed = [] ∧ Q .normal a w
 | fuel + 1, listed, a, w =>
  (Region.ready md ops listed = [] → Q .normal a w) ∧
  ∀ i ∈ Region.ready md ops listed, wpOp P ops Q i (fun a' w' => (i < T → S w') ∧ wpAnyT P md ops Q S T fuel (listed.setIfInBounds i true) a' w') a w

theorem wpAny_of_T : ∀ (fuel : Nat) (listed : Array Bool) (a : Act) (w : World), wpAnyT P md ops Q S T fuel listed a w → wpAny P md ops Q fuel listed a w
 | 0, _, _, _, h => h
 | fuel + 1, _, _, _, h => ⟨h.1, fun i hi => wpOp_mono (fun a' w' h' => wpAny_of_T fuel _ a' w' h'.2) (h.2 i hi)⟩

def lateB (md : Region.Mode) (ops : Array Oper) (T i : Nat) : Bool :=
 (List.range ops.size).all fun j => decide (j < T) || (match ops[j]? with | some oj => oj.after.any (fun e => Region.binds md e && e.on == i) | none => true)

theorem lateB_spec {i j : Nat} {oj : Oper} (h : lateB md ops T i = true) (hT : T ≤ j) (hj : ops[j]? = some oj) : ∃ e ∈ oj.after, Region.binds md e = true ∧ e.on = i := by
 have hlt : j < ops.size := (Array.getElem?_eq_some_iff.1 hj).1
 have h1 := List.all_eq_true.1 h j (List.mem_range.2 hlt)
 rw [hj] at h1
 simp only [Bool.or_eq_true, decide_eq_true_eq] at h1
 rcases h1 with h1 | h1
 ·omega
 ·rw [← Array.any_toList] at h1
  obtain ⟨e, he, hb⟩ := List.any_eq_true.1 h1
  simp only [Bool.and_eq_true, beq_iff_eq] at hb
  exact ⟨e, Array.mem_toList_iff.1 he, hb.1, hb.2⟩

theorem wpAnyT_first {i : Nat} {oi : Oper} {v : Value} (hi : ops[i]? = some oi) (hsel : ∀ (j : Nat) (o : Oper) cs b, ops[j]? = some o → o.op ≠ .select cs b)
  (hQ : ∀ c a w, Q (.panic c) (a.put oi.dst v) w → Q (.panic c) a w) (hlate : ∀ j oj, T ≤ j → ops[j]? = some oj → ∃ e ∈ oj.after, Region.binds md e = true ∧ e.on = i) :
  ∀ (fuel : Nat) (listed : Array Bool) (a : Act) (w : World),
   (∀ j oj, ops[j]? = some oj → j ≠ i → listed.getD j true = false → (∀ e ∈ oj.after, Region.binds md e = true → e.on ≠ i) → oi.apart ops oj = true) →
   i ∈ Region.ready md ops listed → YieldsIf P ops S oi v a → S w →
   wpAnyT P md ops Q S T fuel (listed.setIfInBounds i true) (a.put oi.dst v) w → wpAnyT P md ops Q S T (fuel + 1) listed a w := by
 intro fuel
 induction fuel with
 | zero =>
  intro listed a w _ hr hy hS H
  refine ⟨fun h => (by rw [h] at hr; cases hr), fun j hj => ?_⟩
  by_cases hji : j = i
  ·subst hji
   exact hy.wpOp hi hS ⟨fun _ => hS, H⟩
  ·have := ready_mono hj hji
   rw [H.1] at this
   cases this
 | succ fuel ih =>
  intro listed a w hfree hr hy hS H
  refine ⟨fun h => (by rw [h] at hr; cases hr), fun j hj => ?_⟩
  by_cases hji : j = i
  ·subst hji
   exact hy.wpOp hi hS ⟨fun _ => hS, H⟩
  ·have h1 := H.2 j (ready_mono hj hji)
   obtain ⟨hjun, oj, hoj, hall⟩ := mem_ready.1 hj
   have hnot : ∀ e ∈ oj.after, Region.binds md e = true → e.on ≠ i := fun e he hb heq => by
    have h1 := hall e he hb
    have h0 := (mem_ready.1 hr).1
    rw [heq] at h1
    rcases Nat.lt_or_ge i listed.size with h' | h'
    ·simp [h'] at h0 h1
     rw [h0] at h1
     cases h1
    ·simp [Array.getElem?_eq_none h'] at h1
   have hjT : j < T := by
    rcases Nat.lt_or_ge j T with h | h
    ·exact h
    ·obtain ⟨e, he, hb, heq⟩ := hlate j oj h hoj
     exact absurd heq (hnot e he hb)
   have h2 := wpOp_putIf hoj (hfree j oj hoj hji hjun hnot) (fun cs b => hsel i oi cs b hi) (fun cs b => hsel j oj cs b hoj) hQ hy h1
   have hfree' : ∀ k ok, ops[k]? = some ok → k ≠ i → (listed.setIfInBounds j true).getD k true = false →
     (∀ e ∈ ok.after, Region.binds md e = true → e.on ≠ i) → oi.apart ops ok = true := fun k ok hk hki hun hno => by
    refine hfree k ok hk hki ?_ hno
    by_cases hjk : j = k
    ·subst hjk
     exact hjun
    ·rw [getD_set_ne true hjk] at hun
     exact hun
   refine wpOp_mono (fun a' w' h3 => ⟨h3.2.1, ih (listed.setIfInBounds j true) a' w' hfree' (ready_mono hr (Ne.symm hji)) h3.1 (h3.2.1 hjT) ?_⟩) h2
   rw [Array.setIfInBounds_comm _ _ hji]
   exact h3.2.2

theorem wpAnyT_take {l : List Oper} {i : Nat} {oi : Oper} {v : Value} {fuel : Nat} {listed : Array Bool} {a : Act} {w : World} (hi : l[i]? = some oi)
  (hs : Region.noSelect l.toArray = true) (hf : Region.free md l.toArray listed i = true) (hr : (Region.ready md l.toArray listed).contains i = true) (hl : lateB md l.toArray T i = true)
  (hQ : ∀ c a w, Q (.panic c) (a.put oi.dst v) w → Q (.panic c) a w) (hy : YieldsIf P l.toArray S oi v a) (hS : S w)
  (h : wpAnyT P md l.toArray Q S T fuel (listed.setIfInBounds i true) (a.put oi.dst v) w) : wpAnyT P md l.toArray Q S T (fuel + 1) listed a w :=
 wpAnyT_first (by simpa using hi) (Region.noSelect_spec hs) hQ (fun _ _ hT hj => lateB_spec hl hT hj) fuel listed a w (Region.free_spec (by simpa using hi) hf) (by simpa using hr) hy hS h

theorem wpAnyT_one {l : List Oper} {i : Nat} {o : Oper} {fuel : Nat} {listed : Array Bool} {a : Act} {w : World} (hr : Region.ready md l.toArray listed = [i]) (ho : l[i]? = some o)
  (h : ∀ K' : Act → World → Prop, Shut (∀ a w, (i < T → S w) → wpAnyT P md l.toArray Q S T fuel (listed.setIfInBounds i true) a w → K' a w) →
   if Region.wanted o (yielded l.toArray a.tmps) = true then Oper.wp P o a w K' Q else K' (a.put o.dst undef) w) : wpAnyT P md l.toArray Q S T (fuel + 1) listed a w := by
 refine ⟨fun h0 => (by rw [hr] at h0; cases h0), fun j hj => ?_⟩
 rw [hr] at hj
 obtain rfl : j = i := by simpa using hj
 exact wpOp_step (by simpa using ho) (fun K' hK => h K' (fun a w hS hW => hK a w ⟨hS, hW⟩))

theorem wpAnyT_done {listed : Array Bool} {a : Act} {w : World} (hr : Region.ready md ops listed = []) (h : Q .normal a w) : ∀ fuel, wpAnyT P md ops Q S T fuel listed a w
 | 0 => ⟨hr, h⟩
 | _ + 1 => ⟨fun _ => h, by rw [hr]; simp⟩

theorem wp_region_T {id : Nat} {a : Act} {w : World} (S : World → Prop) (T : Nat) (hm : P.follows .mixedOrders = true)
  (h : wpAnyT P .any ops Q S T ops.size (Array.replicate ops.size false) a w.drew) : (Code.region id ops true).wp P Q a w :=
 wp_region_any hm (wpAny_of_T _ _ _ _ h)

end

end Go.Proofs.YtiahakbkagipkaaGreatDoor

namespace Go.Proofs.YtiahakbkagipkaaGreatDoor
open Go Go.RowKit Go.Shelf

structure Pm where
 f : Nat
 s : Int
 tn : Nat
 tm : Nat
 sn : Nat
 sm : Nat
 rn : Nat
 rm : Nat
 t : Nat
 q : Nat
 l : Nat

structure Pm.ok (p : Pm) : Prop where
 f : p.f ≤ 4294967295
 tn : p.tn ≤ 4294967295
 tm : p.tm ≤ 4294967295
 sn : p.sn ≤ 4294967295
 sm : p.sm ≤ 4294967295
 rn : p.rn ≤ 4294967295
 rm : p.rm ≤ 4294967295
 t : p.t < 18446744073709551616
 q : p.q ≤ 4294967295
 l : p.l < 18446744073709551616

def Pm.v (p : Pm) : Value := .agg #[.int .u32 p.f, .int .i64 p.s, .int .u32 p.tn, .int .u32 p.tm, .int .u32 p.sn, .int .u32 p.sm, .int .u32 p.rn, .int .u32 p.rm, .int .u64 p.t, .int .u32 p.q, .int .u64 p.l]

def flB (f : Nat) : Bool := decide ((f &&& 4294967261) % 128 = 0) && decide ((f &&& 4294967261) / 128 ≤ 2)

def nmOk (p : Pm) : Bool := decide (0 < p.sn) && decide (p.t ≤ 4611686018427387903)

def rpOk (p : Pm) : Bool := decide (0 < p.rn ∨ p.rm = 0)

theorem rdU_one (w : World) (x : Int) : RdU (w.alloc (.cells #[.int .u64 x] 22)) (w.heap.size + 1) (some ⟨w.heap.size, 0, none⟩) [x] := by
 refine .inr ⟨w.heap.size, 0, rfl, Nat.lt_succ_self _, fun j hj => ?_⟩
 obtain rfl : j = 0 := by simp at hj; omega
 simp

theorem check_one (a : Int) (w : World) :
  Calls Tryz.prog 108 #[.slice (some ⟨w.heap.size, 0, none⟩) 1 1] (w.alloc (.cells #[.int .u64 a] 22)) fun e w' => e = .returned (.int .i64 (chkT (isT a))) ∧ w.alloc (.cells #[.int .u64 a] 22) = w' := by
 have H := h_ (withinT_any (some ⟨w.heap.size, 0, none⟩) 1 (w.heap.size + 1) [a] (w.alloc (.cells #[.int .u64 a] 22)) (by simp) (rdU_one w a))
 have hv : allT [a] 1 ↔ isT a = true := by
  constructor
  ·intro h
   exact h 0 (by omega)
  ·intro h0 j hj
   obtain rfl : j = 0 := by omega
   exact h0
 cases hq : isT a
 ·rw [hq] at hv
  have HV := h_ hv
  clear hv hq
  generalize w.alloc (.cells #[.int .u64 a] 22) = W at H ⊢
  go_enter Tryz.func108, Tryz.ntmps108
  go_wp2
  refine wp_scope_on 0 rfl ?_
  go_wp2_with fail
  refine H.out.mono ?_
  rintro e w' ⟨⟨rfl, h⟩ | ⟨rfl, h⟩, rfl⟩
  ·exact absurd (HV.out.1 h) (by simp)
  ·clear h
   go_wp2
   go_step3
   refine ⟨rfl, ?_⟩
   show Code.wp _ _ _ _ _
   go_wp2
   rw [Exit.noGoto_ret]
   go_ret
   exact ⟨rfl, rfl⟩
 ·rw [hq] at hv
  have HV := h_ hv
  clear hv hq
  generalize w.alloc (.cells #[.int .u64 a] 22) = W at H ⊢
  go_enter Tryz.func108, Tryz.ntmps108
  go_wp2
  refine wp_scope_on 0 rfl ?_
  go_wp2_with fail
  refine H.out.mono ?_
  rintro e w' ⟨⟨rfl, h⟩ | ⟨rfl, h⟩, rfl⟩
  ·clear h
   go_wp2
   simp only [Exit.jump]
   go_ret
   exact ⟨rfl, rfl⟩
  ·exact absurd (HV.out.2 trivial) h

def lfOk (p : Pm) : Bool := isT p.l

def Pm.right (p : Pm) : Bool := ((flB p.f) && ((isK p.s) && ((decide (0 < p.tn)) && ((nmOk p) && ((rpOk p) && (lfOk p))))))

theorem nitem_any (n m : Nat) (h : 0 < n ∨ m = 0) (hn : n ≤ 4294967295) (hm : m ≤ 4294967295) (w : World) :
  Calls Tryz.prog 73 #[.agg #[.int .u32 n, .int .u32 m]] w fun e w' => (∃ v, e = .returned (.tuple #[v, .int .i64 0]) ∧ ItS w' (newB w w') v (itE n m)) ∧ Below w.heap.size w w' := by
 by_cases h0 : 0 < n
 ·exact item_yes n m h0 hn hm w
 ·obtain rfl : n = 0 := by omega
  obtain rfl : m = 0 := by omega
  exact item_nobody w

attribute [local go_sem] run_store_func

theorem ListO.low {w W wr : World} {v : Value} {l : List It} (h : ListO W wr v l) (hb : Below w.heap.size w W) : ListO w wr v l := by
 obtain ⟨h1, xs, hown, hls⟩ := h
 exact ⟨hb.trans (h1.mono hb.size), xs, ⟨hown.1, hown.2.imp id fun ⟨g, cap, cur, e, h0, r⟩ => ⟨g, cap, cur, e, Nat.le_trans hb.size h0, r⟩⟩, LI.more (fun b q => ⟨⟨Nat.le_trans hb.size q.1.1, q.1.2⟩, q.2⟩) hls⟩

end Go.Proofs.YtiahakbkagipkaaGreatDoor

namespace Go.Proofs.YtiahakbkagipkaaGreatDoor
open Go Go.RowKit Go.Shelf

def bare (w : World) : World := { w with heap := #[] }
theorem bare_below (w : World) : Below (bare w).heap.size (bare w) w := ⟨rfl, rfl, rfl, Nat.zero_le _, fun k hk => by simp [bare] at hk⟩

theorem itS_bytes {w : World} {a : Option Addr} {c : Nat} {bs : List UInt8} (hc : bs.length ≤ c) (hs : bs.length ≤ 140737488355328) (hr : RdB w w.heap.size a bs) : ItS w (newB (bare w) w) (.agg #[.int .i64 2, .int .u64 0, .slice a bs.length c, .string ⟨#[]⟩, .slice none 0 0]) (.mk 2 0 bs [] []) := by
 simp only [ItS]
 refine ⟨none, ⟨a, c, 0, rfl, ⟨hc, Nat.le_refl _⟩, ?_, ⟨by decide, by decide⟩, ⟨by decide, by decide⟩, hs, Nat.zero_le _, Nat.zero_le _⟩, .inl trivial⟩
 rcases hr with h | ⟨b, o, e, hlt, hc⟩
 ·exact .inl h
 ·exact .inr ⟨b, o, e, ⟨Nat.zero_le _, hlt⟩, hc⟩

theorem mk_zero (wd : Nat) (h : wd ≤ 4) (w : World) : (Instr.makeSlice 24 (.int .i64 (wd : Nat)) (.int .i64 (wd : Nat))).run Tryz.prog w = .ok (.slice (some ⟨w.heap.size, 0, none⟩) wd wd) (w.alloc (.cells (madeCells #[.int .u8 0] wd) 5)) :=
 run_make_row' (P := Tryz.prog) 24 5 (.int .u8 0) 1 Tryz.underlying24 (by kernel_rfl) rfl .i64 .i64 wd (by omega) (by omega) w

theorem rd_zero (w : World) (wd : Nat) : RdB (w.alloc (.cells (madeCells #[.int .u8 0] wd) 5)) (w.alloc (.cells (madeCells #[.int .u8 0] wd) 5)).heap.size (some ⟨w.heap.size, 0, none⟩) (List.replicate wd 0) := by
 refine .inr ⟨w.heap.size, 0, rfl, by simp, fun j hj => ?_⟩
 rw [Nat.zero_add, World.cell?_alloc_mark]
 simp only [List.length_replicate] at hj
 have h : (madeCells #[Value.int .u8 0] wd)[j]? = some (.int .u8 0) := by
  rw [← Array.getElem?_toList, toList_madeCells_one]
  simp [hj]
 rw [h]
 simp [byteAt, List.getElem?_replicate, hj]

theorem err_len {x : It} (h : x.err = 0) : x.bytes.length ≤ 65536 := by
 unfold It.err at h
 split at h
 ·split at h
  ·cases h
  ·split at h
   ·cases h
   ·omega
 ·cases h

end Go.Proofs.YtiahakbkagipkaaGreatDoor
