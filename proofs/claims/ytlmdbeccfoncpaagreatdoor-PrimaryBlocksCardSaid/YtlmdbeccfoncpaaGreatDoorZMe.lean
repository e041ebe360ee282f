/- Joined texts. -/
import Derived.Test.YtlmdbeccfoncpaaGreatDoorZJa
import Derived.Deep.RegionHeld
import Derived.Test.YtlmdbeccfoncpaaGreatDoorZMd
namespace Go.Proofs.YtlmdbeccfoncpaaGreatDoor
open Go Go.RowKit Go.Shelf

section
variable {P : Program} {ops : Array Oper} {Q : Exit → Act → World → Prop} {md : Region.Mode} {S : World → Prop} {T : Nat}

/-- Whatever order is picked, and S holds behind each operation ahead of T. -/
def wpAnyT (P : Program) (md : Region.Mode) (ops : Array Oper) (Q : Exit → Act → World → Prop) (S : World → Prop) (T : Nat) : Nat → Array Bool → Act → World → Prop
  | 0, listed, a, w => Region.ready md ops listed = [] ∧ Q .normal a w
  | fuel + 1, listed, a, w =>
    (Region.ready md ops listed = [] → Q .normal a w) ∧
    ∀ i ∈ Region.ready md ops listed, wpOp P ops Q i (fun a' w' => (i < T → S w') ∧ wpAnyT P md ops Q S T fuel (listed.setIfInBounds i true) a' w') a w

theorem wpAny_of_T : ∀ (fuel : Nat) (listed : Array Bool) (a : Act) (w : World), wpAnyT P md ops Q S T fuel listed a w → wpAny P md ops Q fuel listed a w
  | 0, _, _, _, h => h
  | fuel + 1, _, _, _, h => ⟨h.1, fun i hi => wpOp_mono (fun a' w' h' => wpAny_of_T fuel _ a' w' h'.2) (h.2 i hi)⟩

/-- Each operation from T on waits for number i. -/
def lateB (md : Region.Mode) (ops : Array Oper) (T i : Nat) : Bool :=
  (List.range ops.size).all fun j => decide (j < T) || (match ops[j]? with | some oj => oj.after.any (fun e => Region.binds md e && e.on == i) | none => true)

theorem lateB_spec {i j : Nat} {oj : Oper} (h : lateB md ops T i = true) (hT : T ≤ j) (hj : ops[j]? = some oj) : ∃ e ∈ oj.after, Region.binds md e = true ∧ e.on = i := by
  have hlt : j < ops.size := (Array.getElem?_eq_some_iff.1 hj).1
  have h1 := List.all_eq_true.1 h j (List.mem_range.2 hlt)
  rw [hj] at h1
  simp only [Bool.or_eq_true, decide_eq_true_eq] at h1
  rcases h1 with h1 | h1
  · omega
  · rw [← Array.any_toList] at h1
    obtain ⟨e, he, hb⟩ := List.any_eq_true.1 h1
    simp only [Bool.and_eq_true, beq_iff_eq] at hb
    exact ⟨e, Array.mem_toList_iff.1 he, hb.1, hb.2⟩

theorem wpAnyT_first {i : Nat} {oi : Oper} {v : Value} (hi : ops[i]? = some oi) (hsel : ∀ (j : Nat) (o : Oper) cs b, ops[j]? = some o → o.op ≠ .select cs b)
    (hQ : ∀ c a w, Q (.panic c) (a.put oi.dst v) w → Q (.panic c) a w) (hlate : ∀ j oj, T ≤ j → ops[j]? = some oj → ∃ e ∈ oj.after, Region.binds md e = true ∧ e.on = i) :
    ∀ (fuel : Nat) (listed : Array Bool) (a : Act) (w : World),
      (∀ j oj, ops[j]? = some oj → j ≠ i → listed.getD j true = false → (∀ e ∈ oj.after, Region.binds md e = true → e.on ≠ i) → oi.apart ops oj = true) →
      i ∈ Region.ready md ops listed → YieldsIf P ops S oi v a → S w →
      wpAnyT P md ops Q S T fuel (listed.setIfInBounds i true) (a.put oi.dst v) w → wpAnyT P md ops Q S T (fuel + 1) listed a w := by
  intro fuel
  induction fuel with
  | zero =>
    intro listed a w _ hr hy hS H
    refine ⟨fun h => (by rw [h] at hr; cases hr), fun j hj => ?_⟩
    by_cases hji : j = i
    · subst hji
      exact hy.wpOp hi hS ⟨fun _ => hS, H⟩
    · have := ready_mono hj hji
      rw [H.1] at this
      cases this
  | succ fuel ih =>
    intro listed a w hfree hr hy hS H
    refine ⟨fun h => (by rw [h] at hr; cases hr), fun j hj => ?_⟩
    by_cases hji : j = i
    · subst hji
      exact hy.wpOp hi hS ⟨fun _ => hS, H⟩
    · have h1 := H.2 j (ready_mono hj hji)
      obtain ⟨hjun, oj, hoj, hall⟩ := mem_ready.1 hj
      have hnot : ∀ e ∈ oj.after, Region.binds md e = true → e.on ≠ i := fun e he hb heq => by
        have h1 := hall e he hb
        have h0 := (mem_ready.1 hr).1
        rw [heq] at h1
        rcases Nat.lt_or_ge i listed.size with h' | h'
        · simp [h'] at h0 h1
          rw [h0] at h1
          cases h1
        · simp [Array.getElem?_eq_none h'] at h1
      have hjT : j < T := by
        rcases Nat.lt_or_ge j T with h | h
        · exact h
        · obtain ⟨e, he, hb, heq⟩ := hlate j oj h hoj
          exact absurd heq (hnot e he hb)
      have h2 := wpOp_putIf hoj (hfree j oj hoj hji hjun hnot) (fun cs b => hsel i oi cs b hi) (fun cs b => hsel j oj cs b hoj) hQ hy h1
      have hfree' : ∀ k ok, ops[k]? = some ok → k ≠ i → (listed.setIfInBounds j true).getD k true = false →
          (∀ e ∈ ok.after, Region.binds md e = true → e.on ≠ i) → oi.apart ops ok = true := fun k ok hk hki hun hno => by
        refine hfree k ok hk hki ?_ hno
        by_cases hjk : j = k
        · subst hjk
          exact hjun
        · rw [getD_set_ne true hjk] at hun
          exact hun
      refine wpOp_mono (fun a' w' h3 => ⟨h3.2.1, ih (listed.setIfInBounds j true) a' w' hfree' (ready_mono hr (Ne.symm hji)) h3.1 (h3.2.1 hjT) ?_⟩) h2
      rw [Array.setIfInBounds_comm _ _ hji]
      exact h3.2.2

/-- An operation taken first. -/
theorem wpAnyT_take {l : List Oper} {i : Nat} {oi : Oper} {v : Value} {fuel : Nat} {listed : Array Bool} {a : Act} {w : World} (hi : l[i]? = some oi)
    (hs : Region.noSelect l.toArray = true) (hf : Region.free md l.toArray listed i = true) (hr : (Region.ready md l.toArray listed).contains i = true) (hl : lateB md l.toArray T i = true)
    (hQ : ∀ c a w, Q (.panic c) (a.put oi.dst v) w → Q (.panic c) a w) (hy : YieldsIf P l.toArray S oi v a) (hS : S w)
    (h : wpAnyT P md l.toArray Q S T fuel (listed.setIfInBounds i true) (a.put oi.dst v) w) : wpAnyT P md l.toArray Q S T (fuel + 1) listed a w :=
  wpAnyT_first (by simpa using hi) (Region.noSelect_spec hs) hQ (fun _ _ hT hj => lateB_spec hl hT hj) fuel listed a w (Region.free_spec (by simpa using hi) hf) (by simpa using hr) hy hS h

/-- One alone may come up. -/
theorem wpAnyT_one {l : List Oper} {i : Nat} {o : Oper} {fuel : Nat} {listed : Array Bool} {a : Act} {w : World} (hr : Region.ready md l.toArray listed = [i]) (ho : l[i]? = some o)
    (h : ∀ K' : Act → World → Prop, Shut (∀ a w, (i < T → S w) → wpAnyT P md l.toArray Q S T fuel (listed.setIfInBounds i true) a w → K' a w) →
      if Region.wanted o (yielded l.toArray a.tmps) = true then Oper.wp P o a w K' Q else K' (a.put o.dst undef) w) : wpAnyT P md l.toArray Q S T (fuel + 1) listed a w := by
  refine ⟨fun h0 => (by rw [hr] at h0; cases h0), fun j hj => ?_⟩
  rw [hr] at hj
  obtain rfl : j = i := by simpa using hj
  exact wpOp_step (by simpa using ho) (fun K' hK => h K' (fun a w hS hW => hK a w ⟨hS, hW⟩))

/-- One of two may come up. -/
theorem wpAnyT_two {l : List Oper} {i k : Nat} {o u : Oper} {fuel : Nat} {listed : Array Bool} {a : Act} {w : World} (hr : Region.ready md l.toArray listed = [i, k]) (ho : l[i]? = some o) (hu : l[k]? = some u)
    (h : ∀ K' : Act → World → Prop, Shut (∀ a w, (i < T → S w) → wpAnyT P md l.toArray Q S T fuel (listed.setIfInBounds i true) a w → K' a w) →
      if Region.wanted o (yielded l.toArray a.tmps) = true then Oper.wp P o a w K' Q else K' (a.put o.dst undef) w)
    (h2 : ∀ K' : Act → World → Prop, Shut (∀ a w, (k < T → S w) → wpAnyT P md l.toArray Q S T fuel (listed.setIfInBounds k true) a w → K' a w) →
      if Region.wanted u (yielded l.toArray a.tmps) = true then Oper.wp P u a w K' Q else K' (a.put u.dst undef) w) : wpAnyT P md l.toArray Q S T (fuel + 1) listed a w := by
  refine ⟨fun h0 => (by rw [hr] at h0; cases h0), fun j hj => ?_⟩
  rw [hr] at hj
  rcases (show j = i ∨ j = k by simpa using hj) with rfl | rfl
  · exact wpOp_step (by simpa using ho) (fun K' hK => h K' (fun a w hS hW => hK a w ⟨hS, hW⟩))
  · exact wpOp_step (by simpa using hu) (fun K' hK => h2 K' (fun a w hS hW => hK a w ⟨hS, hW⟩))

/-- All have come up. -/
theorem wpAnyT_done {listed : Array Bool} {a : Act} {w : World} (hr : Region.ready md ops listed = []) (h : Q .normal a w) : ∀ fuel, wpAnyT P md ops Q S T fuel listed a w
  | 0 => ⟨hr, h⟩
  | _ + 1 => ⟨fun _ => h, by rw [hr]; simp⟩

/-- The beginning. -/
theorem wp_region_T {id : Nat} {a : Act} {w : World} (S : World → Prop) (T : Nat) (hm : P.follows .mixedOrders = true)
    (h : wpAnyT P .any ops Q S T ops.size (Array.replicate ops.size false) a w.drew) : (Code.region id ops true).wp P Q a w :=
  wp_region_any hm (wpAny_of_T _ _ _ _ h)

end

end Go.Proofs.YtlmdbeccfoncpaaGreatDoor

namespace Go.Proofs.YtlmdbeccfoncpaaGreatDoor
open Go Go.RowKit Go.Shelf
set_option linter.unusedSimpArgs false
set_option linter.unusedVariables false
set_option maxRecDepth 100000

/-- An item that is laid in a row of its own, and appended. -/
theorem listO_one {w wr w1 : World} {v : Value} {l : List It} {x : It} {v0 v1 v2 v3 v4 : Value} (h : ListO w wr v l) (hb1 : Below wr.heap.size wr w1) (hx : ItS w1 (newB wr w1) (.agg #[v0, v1, v2, v3, v4]) x) (hlen : l.length ≤ 900000) :
    ∃ v' w2, (Builtin.append_ #[70, 70] 70 #[v, .slice (some ⟨w1.heap.size, 0, none⟩) 1 1]).run Tryz.prog (w1.alloc (.cells #[v0, v1, v2, v3, v4] 84)) = .ok v' w2 ∧ ListO w w2 v' (l ++ [x]) := by
  have hb2 : Below wr.heap.size wr (w1.alloc (.cells #[v0, v1, v2, v3, v4] 84)) := below_al hb1 _
  exact listO_run h hb2 (some ⟨w1.heap.size, 0, none⟩) [x] 1 (by simp; omega)
    ⟨[v0, v1, v2, v3, v4], LI.one (ItS.more h.newer _ (hx.new_on (below_al (Below.refl _ _) _))), .inr ⟨_, rfl, fun j u hu => by
      rw [mk_addr_add, Nat.zero_add, box_at (Below.refl _ _) j]
      simpa using hu⟩⟩ (fun e => by cases e)

/-- What a builder of an item answers: an item in new memory. -/
def NewP (w : World) (x : It) (e : Ending) (w' : World) : Prop := Below w.heap.size w w' ∧ ∃ v, e = .returned v ∧ ItS w' (newB w w') v x

theorem pmUint_any (n : Int) (w : World) : Calls Tryz.prog 79 #[.int .u64 n] w fun e w' => e = .returned (.agg #[.int .i64 1, .int .u64 n, .slice none 0 0, .string ⟨#[]⟩, .slice none 0 0]) ∧ Below w.heap.size w w' := by
  go_enter Tryz.func79, Tryz.ntmps79
  go_wp2
  exact bodyPost_ret (v := .agg #[.int .i64 1, .int .u64 n, .slice none 0 0, .string ⟨#[]⟩, .slice none 0 0]) (by simp [results, Tryz.results79, go_sem]) rfl ⟨rfl, below_al (Below.refl _ _) _⟩

theorem pmList_any (a : Option Addr) (n c : Nat) (w : World) : Calls Tryz.prog 54 #[.slice a n c] w fun e w' => e = .returned (.agg #[.int .i64 4, .int .u64 0, .slice none 0 0, .string ⟨#[]⟩, .slice a n c]) ∧ Below w.heap.size w w' := by
  go_enter Tryz.func54, Tryz.ntmps54
  go_wp2
  exact bodyPost_ret (v := .agg #[.int .i64 4, .int .u64 0, .slice none 0 0, .string ⟨#[]⟩, .slice a n c]) (by simp [results, Tryz.results54, go_sem]) rfl ⟨rfl, below_al (Below.refl _ _) _⟩

theorem pmBytes_any (a : Option Addr) (n c : Nat) (w : World) : Calls Tryz.prog 52 #[.slice a n c] w fun e w' => e = .returned (.agg #[.int .i64 2, .int .u64 0, .slice a n c, .string ⟨#[]⟩, .slice none 0 0]) ∧ Below w.heap.size w w' := by
  go_enter Tryz.func52, Tryz.ntmps52
  go_wp2
  exact bodyPost_ret (v := .agg #[.int .i64 2, .int .u64 0, .slice a n c, .string ⟨#[]⟩, .slice none 0 0]) (by simp [results, Tryz.results52, go_sem]) rfl ⟨rfl, below_al (Below.refl _ _) _⟩

/-- An endpoint's item. -/
theorem nitem_any (n m : Nat) (h : 0 < n ∨ m = 0) (hn : n ≤ 4294967295) (hm : m ≤ 4294967295) (w : World) :
    Calls Tryz.prog 106 #[.agg #[.int .u32 n, .int .u32 m]] w fun e w' => (∃ v, e = .returned (.tuple #[v, .int .i64 0]) ∧ ItS w' (newB w w') v (itE n m)) ∧ Below w.heap.size w w' := by
  by_cases h0 : 0 < n
  · exact item_yes n m h0 hn hm w
  · obtain rfl : n = 0 := by omega
    obtain rfl : m = 0 := by omega
    exact item_nobody w

set_option maxHeartbeats 4000000 in
theorem endItem_any (n m : Nat) (h : 0 < n ∨ m = 0) (hn : n ≤ 4294967295) (hm : m ≤ 4294967295) (w : World) : Calls Tryz.prog 83 #[.agg #[.int .u32 n, .int .u32 m]] w (NewP w (itE n m)) := by
  obtain ⟨W, hW⟩ : ∃ W, W = (w.alloc (.cells #[.int .u32 n, .int .u32 m] 25)).alloc (.cells #[.int .i64 0, .int .u64 0, .slice none 0 0, .string ⟨#[]⟩, .slice none 0 0] 84) := ⟨_, rfl⟩
  have HB0 : Hid (Below w.heap.size w W) := by rw [hW]; exact below_al (below_al (Below.refl _ _) _) _
  have HX : Hid (∀ w', Below W.heap.size W w' → (w'.cell? ⟨w.heap.size, 0, none⟩ = some (.int .u32 n) ∧ w'.cell? ⟨w.heap.size, 1, none⟩ = some (.int .u32 m)) ∧ ∀ i, w'.cell? ⟨w.heap.size + 1, i, none⟩ = (#[Value.int .i64 0, .int .u64 0, .slice none 0 0, .string ⟨#[]⟩, .slice none 0 0])[i]? ∧ w'.frozen? ⟨w.heap.size + 1, i, none⟩ = false) := fun w' h => by
    rw [hW] at h
    have h1 := below_on (below_al (Below.refl _ (w.alloc (.cells #[.int .u32 n, .int .u32 m] 25))) (.cells #[.int .i64 0, .int .u64 0, .slice none 0 0, .string ⟨#[]⟩, .slice none 0 0] 84)) h
    refine ⟨⟨box_at h1 0, box_at h1 1⟩, fun i => ?_⟩
    have q2 := box_at h i
    have f2 := frozen_at h i
    rw [World.size_alloc] at q2 f2
    exact ⟨q2, f2⟩
  have hWs : w.heap.size + 1 + 1 = W.heap.size := by rw [hW]; simp
  have HW := Lib.hid hW
  have HWs := Lib.hid hWs
  clear hW hWs
  have HI := Lib.hid (fun w => nitem_any n m h hn hm w)
  clear h hn hm
  generalize itE n m = x at *
  obtain ⟨⟨x0, x1⟩, _⟩ := HX.out W (Below.refl _ _)
  go_enter Tryz.func83, Tryz.ntmps83
  go_wp2_with fail
  rw [← HW.out]
  refine (HI.out W).mono ?_
  rintro e w1 ⟨⟨v, rfl, hx⟩, hb⟩
  obtain ⟨a1, c1, A1, C1, rfl⟩ := hx.form
  obtain ⟨W1, hW1⟩ : ∃ V, V = w1.alloc (.cells #[.int .i64 (x).k, .int .u64 (x).n, .slice a1 (x).b.length c1, .string ⟨(x).s.toArray⟩, .slice A1 (x).l.length C1] 84) := ⟨_, rfl⟩
  have HB1 : Hid (Below W.heap.size W W1) := by rw [hW1]; exact below_al hb _
  have HI1 : Hid (ItS W1 (newB W W1) (.agg #[.int .i64 (x).k, .int .u64 (x).n, .slice a1 (x).b.length c1, .string ⟨(x).s.toArray⟩, .slice A1 (x).l.length C1]) x) := by rw [hW1]; exact hx.new_on (below_al (Below.refl _ _) _)
  have HBox : Hid ((W1.cell? ⟨w1.heap.size, 0, none⟩ = some (.int .i64 (x).k) ∧ W1.cell? ⟨w1.heap.size, 1, none⟩ = some (.int .u64 (x).n) ∧ W1.cell? ⟨w1.heap.size, 2, none⟩ = some (.slice a1 (x).b.length c1) ∧ W1.cell? ⟨w1.heap.size, 3, none⟩ = some (.string ⟨(x).s.toArray⟩) ∧ W1.cell? ⟨w1.heap.size, 4, none⟩ = some (.slice A1 (x).l.length C1))) := by rw [hW1]; exact box5_all (Below.refl _ _)
  have HW1 := Lib.hid hW1
  clear hW1 hb hx x0 x1
  obtain ⟨x0, x1⟩ := (HX.out W1 HB1.out).1
  go_upto_region 2 with fail
  rw [← HW1.out]
  obtain ⟨y0, y1, y2, y3, y4⟩ := HBox.out
  have HBf : Hid (Below W.heap.size W W1) := HB1.out
  have HItf : Hid (ItS W1 (newB W W1) (.agg #[.int .i64 (x).k, .int .u64 (x).n, .slice a1 (x).b.length c1, .string ⟨(x).s.toArray⟩, .slice A1 (x).l.length C1]) (x)) := HI1.out
  obtain ⟨_, hbx⟩ := HX.out W1 HBf.out
  obtain ⟨d0, f0⟩ := hbx 0
  obtain ⟨d1, f1⟩ := hbx 1
  obtain ⟨d2, f2⟩ := hbx 2
  obtain ⟨d3, f3⟩ := hbx 3
  obtain ⟨d4, f4⟩ := hbx 4
  have hq := set5_cells d0 d1 d2 d3 d4 (.int .i64 (x).k) (.int .u64 (x).n) (.slice a1 (x).b.length c1) (.string ⟨(x).s.toArray⟩) (.slice A1 (x).l.length C1)
  have hbel := set5_on (g := w.heap.size + 1) (HB0.out.trans (HBf.out.mono HB0.out.size)) (by omega) (.int .i64 (x).k) (.int .u64 (x).n) (.slice a1 (x).b.length c1) (.string ⟨(x).s.toArray⟩) (.slice A1 (x).l.length C1)
  have hit : ItS (set5 W1 (w.heap.size + 1) (.int .i64 (x).k) (.int .u64 (x).n) (.slice a1 (x).b.length c1) (.string ⟨(x).s.toArray⟩) (.slice A1 (x).l.length C1)) (newB w (set5 W1 (w.heap.size + 1) (.int .i64 (x).k) (.int .u64 (x).n) (.slice a1 (x).b.length c1) (.string ⟨(x).s.toArray⟩) (.slice A1 (x).l.length C1))) (.agg #[.int .i64 (x).k, .int .u64 (x).n, .slice a1 (x).b.length c1, .string ⟨(x).s.toArray⟩, .slice A1 (x).l.length C1]) (x) :=
    ItS.more (fun b hb => ⟨by have := hb.1; have := HWs.out; omega, by rw [set5_size]; exact hb.2⟩) _ (ItS.keep (fun b hb => set5_block (by have := hb.1; have := HWs.out; omega) _ _ _ _ _) _ HItf.out)
  have HF := Lib.hid (⟨hq, hbel, hit⟩ : _ ∧ _ ∧ _)
  clear hq hbel hit hbx
  unfold set5 at HF
  go_wp2_with fail
  clear d0 d1 d2 d3 d4 f0 f1 f2 f3 f4
  obtain ⟨⟨q0, q1, q2, q3, q4⟩, hbel, hit⟩ := HF.out
  exact bodyPost_ret (v := .agg #[.int .i64 (x).k, .int .u64 (x).n, .slice a1 (x).b.length c1, .string ⟨(x).s.toArray⟩, .slice A1 (x).l.length C1]) (by simp [results, Tryz.results83, go_sem, q0, q1, q2, q3, q4]) rfl ⟨hbel, _, rfl, hit⟩

set_option maxHeartbeats 4000000 in
theorem part1_any (p : Pm) (hp : p.ok) (w : World) : Calls Tryz.prog 78 #[.agg #[.int .u32 p.f, .int .i64 p.s, .int .u32 p.tn, .int .u32 p.tm, .int .u32 p.sn, .int .u32 p.sm, .int .u32 p.rn, .int .u32 p.rm, .int .u64 p.t, .int .u32 p.q, .int .u64 p.l]] w (NewP w (itU 7)) := by
  obtain ⟨W, hW⟩ : ∃ W, W = (w.alloc (.cells #[.int .u32 p.f, .int .i64 p.s, .int .u32 p.tn, .int .u32 p.tm, .int .u32 p.sn, .int .u32 p.sm, .int .u32 p.rn, .int .u32 p.rm, .int .u64 p.t, .int .u32 p.q, .int .u64 p.l] 59)).alloc (.cells #[.int .i64 0, .int .u64 0, .slice none 0 0, .string ⟨#[]⟩, .slice none 0 0] 84) := ⟨_, rfl⟩
  have HB0 : Hid (Below w.heap.size w W) := by rw [hW]; exact below_al (below_al (Below.refl _ _) _) _
  have HX : Hid (∀ w', Below W.heap.size W w' → (w'.cell? ⟨w.heap.size, 0, none⟩ = some (.int .u32 p.f) ∧ w'.cell? ⟨w.heap.size, 1, none⟩ = some (.int .i64 p.s) ∧ w'.cell? ⟨w.heap.size, 2, none⟩ = some (.int .u32 p.tn) ∧ w'.cell? ⟨w.heap.size, 3, none⟩ = some (.int .u32 p.tm) ∧ w'.cell? ⟨w.heap.size, 4, none⟩ = some (.int .u32 p.sn) ∧ w'.cell? ⟨w.heap.size, 5, none⟩ = some (.int .u32 p.sm) ∧ w'.cell? ⟨w.heap.size, 6, none⟩ = some (.int .u32 p.rn) ∧ w'.cell? ⟨w.heap.size, 7, none⟩ = some (.int .u32 p.rm) ∧ w'.cell? ⟨w.heap.size, 8, none⟩ = some (.int .u64 p.t) ∧ w'.cell? ⟨w.heap.size, 9, none⟩ = some (.int .u32 p.q) ∧ w'.cell? ⟨w.heap.size, 10, none⟩ = some (.int .u64 p.l)) ∧ ∀ i, w'.cell? ⟨w.heap.size + 1, i, none⟩ = (#[Value.int .i64 0, .int .u64 0, .slice none 0 0, .string ⟨#[]⟩, .slice none 0 0])[i]? ∧ w'.frozen? ⟨w.heap.size + 1, i, none⟩ = false) := fun w' h => by
    rw [hW] at h
    have h1 := below_on (below_al (Below.refl _ (w.alloc (.cells #[.int .u32 p.f, .int .i64 p.s, .int .u32 p.tn, .int .u32 p.tm, .int .u32 p.sn, .int .u32 p.sm, .int .u32 p.rn, .int .u32 p.rm, .int .u64 p.t, .int .u32 p.q, .int .u64 p.l] 59))) (.cells #[.int .i64 0, .int .u64 0, .slice none 0 0, .string ⟨#[]⟩, .slice none 0 0] 84)) h
    refine ⟨pbox h1, fun i => ?_⟩
    have q2 := box_at h i
    have f2 := frozen_at h i
    rw [World.size_alloc] at q2 f2
    exact ⟨q2, f2⟩
  have hWs : w.heap.size + 1 + 1 = W.heap.size := by rw [hW]; simp
  have HW := Lib.hid hW
  have HWs := Lib.hid hWs
  clear hW hWs
  have hU : U64 7 := ⟨by decide, by decide⟩
  have HU := Lib.hid hU
  obtain ⟨⟨x0, x1, x2, x3, x4, x5, x6, x7, x8, x9, x10⟩, _⟩ := HX.out W (Below.refl _ _)
  go_enter Tryz.func78, Tryz.ntmps78
  go_wp2_with fail
  rw [← HW.out]
  refine (pmUint_any 7 W).mono ?_
  rintro e w1 ⟨rfl, hb⟩
  have HBf : Hid (Below W.heap.size W w1) := hb
  have HItf : Hid (ItS w1 (newB W w1) (.agg #[.int .i64 1, .int .u64 7, .slice none 0 0, .string ⟨#[]⟩, .slice none 0 0]) (itU 7)) := itS_uint _ _ _ HU.out
  obtain ⟨_, hbx⟩ := HX.out w1 HBf.out
  obtain ⟨d0, f0⟩ := hbx 0
  obtain ⟨d1, f1⟩ := hbx 1
  obtain ⟨d2, f2⟩ := hbx 2
  obtain ⟨d3, f3⟩ := hbx 3
  obtain ⟨d4, f4⟩ := hbx 4
  have hq := set5_cells d0 d1 d2 d3 d4 (.int .i64 1) (.int .u64 7) (.slice none 0 0) (.string ⟨#[]⟩) (.slice none 0 0)
  have hbel := set5_on (g := w.heap.size + 1) (HB0.out.trans (HBf.out.mono HB0.out.size)) (by omega) (.int .i64 1) (.int .u64 7) (.slice none 0 0) (.string ⟨#[]⟩) (.slice none 0 0)
  have hit : ItS (set5 w1 (w.heap.size + 1) (.int .i64 1) (.int .u64 7) (.slice none 0 0) (.string ⟨#[]⟩) (.slice none 0 0)) (newB w (set5 w1 (w.heap.size + 1) (.int .i64 1) (.int .u64 7) (.slice none 0 0) (.string ⟨#[]⟩) (.slice none 0 0))) (.agg #[.int .i64 1, .int .u64 7, .slice none 0 0, .string ⟨#[]⟩, .slice none 0 0]) (itU 7) :=
    ItS.more (fun b hb => ⟨by have := hb.1; have := HWs.out; omega, by rw [set5_size]; exact hb.2⟩) _ (ItS.keep (fun b hb => set5_block (by have := hb.1; have := HWs.out; omega) _ _ _ _ _) _ HItf.out)
  have HF := Lib.hid (⟨hq, hbel, hit⟩ : _ ∧ _ ∧ _)
  clear hq hbel hit hbx
  unfold set5 at HF
  go_wp2_with fail
  clear d0 d1 d2 d3 d4 f0 f1 f2 f3 f4
  obtain ⟨⟨q0, q1, q2, q3, q4⟩, hbel, hit⟩ := HF.out
  exact bodyPost_ret (v := .agg #[.int .i64 1, .int .u64 7, .slice none 0 0, .string ⟨#[]⟩, .slice none 0 0]) (by simp [results, Tryz.results78, go_sem, q0, q1, q2, q3, q4]) rfl ⟨hbel, _, rfl, hit⟩

set_option maxHeartbeats 4000000 in
theorem part2_any (p : Pm) (hp : p.ok) (w : World) : Calls Tryz.prog 80 #[.agg #[.int .u32 p.f, .int .i64 p.s, .int .u32 p.tn, .int .u32 p.tm, .int .u32 p.sn, .int .u32 p.sm, .int .u32 p.rn, .int .u32 p.rm, .int .u64 p.t, .int .u32 p.q, .int .u64 p.l]] w (NewP w (itU (p.f : Int))) := by
  obtain ⟨W, hW⟩ : ∃ W, W = (w.alloc (.cells #[.int .u32 p.f, .int .i64 p.s, .int .u32 p.tn, .int .u32 p.tm, .int .u32 p.sn, .int .u32 p.sm, .int .u32 p.rn, .int .u32 p.rm, .int .u64 p.t, .int .u32 p.q, .int .u64 p.l] 59)).alloc (.cells #[.int .i64 0, .int .u64 0, .slice none 0 0, .string ⟨#[]⟩, .slice none 0 0] 84) := ⟨_, rfl⟩
  have HB0 : Hid (Below w.heap.size w W) := by rw [hW]; exact below_al (below_al (Below.refl _ _) _) _
  have HX : Hid (∀ w', Below W.heap.size W w' → (w'.cell? ⟨w.heap.size, 0, none⟩ = some (.int .u32 p.f) ∧ w'.cell? ⟨w.heap.size, 1, none⟩ = some (.int .i64 p.s) ∧ w'.cell? ⟨w.heap.size, 2, none⟩ = some (.int .u32 p.tn) ∧ w'.cell? ⟨w.heap.size, 3, none⟩ = some (.int .u32 p.tm) ∧ w'.cell? ⟨w.heap.size, 4, none⟩ = some (.int .u32 p.sn) ∧ w'.cell? ⟨w.heap.size, 5, none⟩ = some (.int .u32 p.sm) ∧ w'.cell? ⟨w.heap.size, 6, none⟩ = some (.int .u32 p.rn) ∧ w'.cell? ⟨w.heap.size, 7, none⟩ = some (.int .u32 p.rm) ∧ w'.cell? ⟨w.heap.size, 8, none⟩ = some (.int .u64 p.t) ∧ w'.cell? ⟨w.heap.size, 9, none⟩ = some (.int .u32 p.q) ∧ w'.cell? ⟨w.heap.size, 10, none⟩ = some (.int .u64 p.l)) ∧ ∀ i, w'.cell? ⟨w.heap.size + 1, i, none⟩ = (#[Value.int .i64 0, .int .u64 0, .slice none 0 0, .string ⟨#[]⟩, .slice none 0 0])[i]? ∧ w'.frozen? ⟨w.heap.size + 1, i, none⟩ = false) := fun w' h => by
    rw [hW] at h
    have h1 := below_on (below_al (Below.refl _ (w.alloc (.cells #[.int .u32 p.f, .int .i64 p.s, .int .u32 p.tn, .int .u32 p.tm, .int .u32 p.sn, .int .u32 p.sm, .int .u32 p.rn, .int .u32 p.rm, .int .u64 p.t, .int .u32 p.q, .int .u64 p.l] 59))) (.cells #[.int .i64 0, .int .u64 0, .slice none 0 0, .string ⟨#[]⟩, .slice none 0 0] 84)) h
    refine ⟨pbox h1, fun i => ?_⟩
    have q2 := box_at h i
    have f2 := frozen_at h i
    rw [World.size_alloc] at q2 f2
    exact ⟨q2, f2⟩
  have hWs : w.heap.size + 1 + 1 = W.heap.size := by rw [hW]; simp
  have HW := Lib.hid hW
  have HWs := Lib.hid hWs
  clear hW hWs
  have hU : U64 (p.f : Int) := ⟨by have := hp.f; omega, by have := hp.f; omega⟩
  have HU := Lib.hid hU
  have hcv : IntKind.u64.wrap (p.f : Int) = (p.f : Int) := by
    have := hp.f
    simp [IntKind.wrap, IntKind.signed, IntKind.bits]
    omega
  obtain ⟨⟨x0, x1, x2, x3, x4, x5, x6, x7, x8, x9, x10⟩, _⟩ := HX.out W (Below.refl _ _)
  go_enter Tryz.func80, Tryz.ntmps80
  go_wp2_with fail
  rw [← HW.out]
  refine (pmUint_any (p.f : Int) W).mono ?_
  rintro e w1 ⟨rfl, hb⟩
  have HBf : Hid (Below W.heap.size W w1) := hb
  have HItf : Hid (ItS w1 (newB W w1) (.agg #[.int .i64 1, .int .u64 (p.f : Int), .slice none 0 0, .string ⟨#[]⟩, .slice none 0 0]) (itU (p.f : Int))) := itS_uint _ _ _ HU.out
  obtain ⟨_, hbx⟩ := HX.out w1 HBf.out
  obtain ⟨d0, f0⟩ := hbx 0
  obtain ⟨d1, f1⟩ := hbx 1
  obtain ⟨d2, f2⟩ := hbx 2
  obtain ⟨d3, f3⟩ := hbx 3
  obtain ⟨d4, f4⟩ := hbx 4
  have hq := set5_cells d0 d1 d2 d3 d4 (.int .i64 1) (.int .u64 (p.f : Int)) (.slice none 0 0) (.string ⟨#[]⟩) (.slice none 0 0)
  have hbel := set5_on (g := w.heap.size + 1) (HB0.out.trans (HBf.out.mono HB0.out.size)) (by omega) (.int .i64 1) (.int .u64 (p.f : Int)) (.slice none 0 0) (.string ⟨#[]⟩) (.slice none 0 0)
  have hit : ItS (set5 w1 (w.heap.size + 1) (.int .i64 1) (.int .u64 (p.f : Int)) (.slice none 0 0) (.string ⟨#[]⟩) (.slice none 0 0)) (newB w (set5 w1 (w.heap.size + 1) (.int .i64 1) (.int .u64 (p.f : Int)) (.slice none 0 0) (.string ⟨#[]⟩) (.slice none 0 0))) (.agg #[.int .i64 1, .int .u64 (p.f : Int), .slice none 0 0, .string ⟨#[]⟩, .slice none 0 0]) (itU (p.f : Int)) :=
    ItS.more (fun b hb => ⟨by have := hb.1; have := HWs.out; omega, by rw [set5_size]; exact hb.2⟩) _ (ItS.keep (fun b hb => set5_block (by have := hb.1; have := HWs.out; omega) _ _ _ _ _) _ HItf.out)
  have HF := Lib.hid (⟨hq, hbel, hit⟩ : _ ∧ _ ∧ _)
  clear hq hbel hit hbx
  unfold set5 at HF
  go_wp2_with fail
  clear d0 d1 d2 d3 d4 f0 f1 f2 f3 f4
  obtain ⟨⟨q0, q1, q2, q3, q4⟩, hbel, hit⟩ := HF.out
  exact bodyPost_ret (v := .agg #[.int .i64 1, .int .u64 (p.f : Int), .slice none 0 0, .string ⟨#[]⟩, .slice none 0 0]) (by simp [results, Tryz.results80, go_sem, q0, q1, q2, q3, q4]) rfl ⟨hbel, _, rfl, hit⟩

set_option maxHeartbeats 4000000 in
theorem part3_any (p : Pm) (hp : p.ok) (hs : 0 ≤ p.s ∧ p.s ≤ 2) (w : World) : Calls Tryz.prog 81 #[.agg #[.int .u32 p.f, .int .i64 p.s, .int .u32 p.tn, .int .u32 p.tm, .int .u32 p.sn, .int .u32 p.sm, .int .u32 p.rn, .int .u32 p.rm, .int .u64 p.t, .int .u32 p.q, .int .u64 p.l]] w (NewP w (itU p.s)) := by
  obtain ⟨W, hW⟩ : ∃ W, W = (w.alloc (.cells #[.int .u32 p.f, .int .i64 p.s, .int .u32 p.tn, .int .u32 p.tm, .int .u32 p.sn, .int .u32 p.sm, .int .u32 p.rn, .int .u32 p.rm, .int .u64 p.t, .int .u32 p.q, .int .u64 p.l] 59)).alloc (.cells #[.int .i64 0, .int .u64 0, .slice none 0 0, .string ⟨#[]⟩, .slice none 0 0] 84) := ⟨_, rfl⟩
  have HB0 : Hid (Below w.heap.size w W) := by rw [hW]; exact below_al (below_al (Below.refl _ _) _) _
  have HX : Hid (∀ w', Below W.heap.size W w' → (w'.cell? ⟨w.heap.size, 0, none⟩ = some (.int .u32 p.f) ∧ w'.cell? ⟨w.heap.size, 1, none⟩ = some (.int .i64 p.s) ∧ w'.cell? ⟨w.heap.size, 2, none⟩ = some (.int .u32 p.tn) ∧ w'.cell? ⟨w.heap.size, 3, none⟩ = some (.int .u32 p.tm) ∧ w'.cell? ⟨w.heap.size, 4, none⟩ = some (.int .u32 p.sn) ∧ w'.cell? ⟨w.heap.size, 5, none⟩ = some (.int .u32 p.sm) ∧ w'.cell? ⟨w.heap.size, 6, none⟩ = some (.int .u32 p.rn) ∧ w'.cell? ⟨w.heap.size, 7, none⟩ = some (.int .u32 p.rm) ∧ w'.cell? ⟨w.heap.size, 8, none⟩ = some (.int .u64 p.t) ∧ w'.cell? ⟨w.heap.size, 9, none⟩ = some (.int .u32 p.q) ∧ w'.cell? ⟨w.heap.size, 10, none⟩ = some (.int .u64 p.l)) ∧ ∀ i, w'.cell? ⟨w.heap.size + 1, i, none⟩ = (#[Value.int .i64 0, .int .u64 0, .slice none 0 0, .string ⟨#[]⟩, .slice none 0 0])[i]? ∧ w'.frozen? ⟨w.heap.size + 1, i, none⟩ = false) := fun w' h => by
    rw [hW] at h
    have h1 := below_on (below_al (Below.refl _ (w.alloc (.cells #[.int .u32 p.f, .int .i64 p.s, .int .u32 p.tn, .int .u32 p.tm, .int .u32 p.sn, .int .u32 p.sm, .int .u32 p.rn, .int .u32 p.rm, .int .u64 p.t, .int .u32 p.q, .int .u64 p.l] 59))) (.cells #[.int .i64 0, .int .u64 0, .slice none 0 0, .string ⟨#[]⟩, .slice none 0 0] 84)) h
    refine ⟨pbox h1, fun i => ?_⟩
    have q2 := box_at h i
    have f2 := frozen_at h i
    rw [World.size_alloc] at q2 f2
    exact ⟨q2, f2⟩
  have hWs : w.heap.size + 1 + 1 = W.heap.size := by rw [hW]; simp
  have HW := Lib.hid hW
  have HWs := Lib.hid hWs
  clear hW hWs
  have hU : U64 p.s := ⟨by omega, by omega⟩
  have HU := Lib.hid hU
  have hcv : IntKind.u64.wrap p.s = p.s := by
    simp [IntKind.wrap, IntKind.signed, IntKind.bits]
    omega
  obtain ⟨⟨x0, x1, x2, x3, x4, x5, x6, x7, x8, x9, x10⟩, _⟩ := HX.out W (Below.refl _ _)
  go_enter Tryz.func81, Tryz.ntmps81
  go_wp2_with fail
  rw [← HW.out]
  refine (pmUint_any p.s W).mono ?_
  rintro e w1 ⟨rfl, hb⟩
  have HBf : Hid (Below W.heap.size W w1) := hb
  have HItf : Hid (ItS w1 (newB W w1) (.agg #[.int .i64 1, .int .u64 p.s, .slice none 0 0, .string ⟨#[]⟩, .slice none 0 0]) (itU p.s)) := itS_uint _ _ _ HU.out
  obtain ⟨_, hbx⟩ := HX.out w1 HBf.out
  obtain ⟨d0, f0⟩ := hbx 0
  obtain ⟨d1, f1⟩ := hbx 1
  obtain ⟨d2, f2⟩ := hbx 2
  obtain ⟨d3, f3⟩ := hbx 3
  obtain ⟨d4, f4⟩ := hbx 4
  have hq := set5_cells d0 d1 d2 d3 d4 (.int .i64 1) (.int .u64 p.s) (.slice none 0 0) (.string ⟨#[]⟩) (.slice none 0 0)
  have hbel := set5_on (g := w.heap.size + 1) (HB0.out.trans (HBf.out.mono HB0.out.size)) (by omega) (.int .i64 1) (.int .u64 p.s) (.slice none 0 0) (.string ⟨#[]⟩) (.slice none 0 0)
  have hit : ItS (set5 w1 (w.heap.size + 1) (.int .i64 1) (.int .u64 p.s) (.slice none 0 0) (.string ⟨#[]⟩) (.slice none 0 0)) (newB w (set5 w1 (w.heap.size + 1) (.int .i64 1) (.int .u64 p.s) (.slice none 0 0) (.string ⟨#[]⟩) (.slice none 0 0))) (.agg #[.int .i64 1, .int .u64 p.s, .slice none 0 0, .string ⟨#[]⟩, .slice none 0 0]) (itU p.s) :=
    ItS.more (fun b hb => ⟨by have := hb.1; have := HWs.out; omega, by rw [set5_size]; exact hb.2⟩) _ (ItS.keep (fun b hb => set5_block (by have := hb.1; have := HWs.out; omega) _ _ _ _ _) _ HItf.out)
  have HF := Lib.hid (⟨hq, hbel, hit⟩ : _ ∧ _ ∧ _)
  clear hq hbel hit hbx
  unfold set5 at HF
  go_wp2_with fail
  clear d0 d1 d2 d3 d4 f0 f1 f2 f3 f4
  obtain ⟨⟨q0, q1, q2, q3, q4⟩, hbel, hit⟩ := HF.out
  exact bodyPost_ret (v := .agg #[.int .i64 1, .int .u64 p.s, .slice none 0 0, .string ⟨#[]⟩, .slice none 0 0]) (by simp [results, Tryz.results81, go_sem, q0, q1, q2, q3, q4]) rfl ⟨hbel, _, rfl, hit⟩

set_option maxHeartbeats 4000000 in
theorem part8_any (p : Pm) (hp : p.ok) (w : World) : Calls Tryz.prog 87 #[.agg #[.int .u32 p.f, .int .i64 p.s, .int .u32 p.tn, .int .u32 p.tm, .int .u32 p.sn, .int .u32 p.sm, .int .u32 p.rn, .int .u32 p.rm, .int .u64 p.t, .int .u32 p.q, .int .u64 p.l]] w (NewP w (itU (p.l : Int))) := by
  obtain ⟨W, hW⟩ : ∃ W, W = (w.alloc (.cells #[.int .u32 p.f, .int .i64 p.s, .int .u32 p.tn, .int .u32 p.tm, .int .u32 p.sn, .int .u32 p.sm, .int .u32 p.rn, .int .u32 p.rm, .int .u64 p.t, .int .u32 p.q, .int .u64 p.l] 59)).alloc (.cells #[.int .i64 0, .int .u64 0, .slice none 0 0, .string ⟨#[]⟩, .slice none 0 0] 84) := ⟨_, rfl⟩
  have HB0 : Hid (Below w.heap.size w W) := by rw [hW]; exact below_al (below_al (Below.refl _ _) _) _
  have HX : Hid (∀ w', Below W.heap.size W w' → (w'.cell? ⟨w.heap.size, 0, none⟩ = some (.int .u32 p.f) ∧ w'.cell? ⟨w.heap.size, 1, none⟩ = some (.int .i64 p.s) ∧ w'.cell? ⟨w.heap.size, 2, none⟩ = some (.int .u32 p.tn) ∧ w'.cell? ⟨w.heap.size, 3, none⟩ = some (.int .u32 p.tm) ∧ w'.cell? ⟨w.heap.size, 4, none⟩ = some (.int .u32 p.sn) ∧ w'.cell? ⟨w.heap.size, 5, none⟩ = some (.int .u32 p.sm) ∧ w'.cell? ⟨w.heap.size, 6, none⟩ = some (.int .u32 p.rn) ∧ w'.cell? ⟨w.heap.size, 7, none⟩ = some (.int .u32 p.rm) ∧ w'.cell? ⟨w.heap.size, 8, none⟩ = some (.int .u64 p.t) ∧ w'.cell? ⟨w.heap.size, 9, none⟩ = some (.int .u32 p.q) ∧ w'.cell? ⟨w.heap.size, 10, none⟩ = some (.int .u64 p.l)) ∧ ∀ i, w'.cell? ⟨w.heap.size + 1, i, none⟩ = (#[Value.int .i64 0, .int .u64 0, .slice none 0 0, .string ⟨#[]⟩, .slice none 0 0])[i]? ∧ w'.frozen? ⟨w.heap.size + 1, i, none⟩ = false) := fun w' h => by
    rw [hW] at h
    have h1 := below_on (below_al (Below.refl _ (w.alloc (.cells #[.int .u32 p.f, .int .i64 p.s, .int .u32 p.tn, .int .u32 p.tm, .int .u32 p.sn, .int .u32 p.sm, .int .u32 p.rn, .int .u32 p.rm, .int .u64 p.t, .int .u32 p.q, .int .u64 p.l] 59))) (.cells #[.int .i64 0, .int .u64 0, .slice none 0 0, .string ⟨#[]⟩, .slice none 0 0] 84)) h
    refine ⟨pbox h1, fun i => ?_⟩
    have q2 := box_at h i
    have f2 := frozen_at h i
    rw [World.size_alloc] at q2 f2
    exact ⟨q2, f2⟩
  have hWs : w.heap.size + 1 + 1 = W.heap.size := by rw [hW]; simp
  have HW := Lib.hid hW
  have HWs := Lib.hid hWs
  clear hW hWs
  have hU : U64 (p.l : Int) := ⟨by have := hp.l; omega, by have := hp.l; omega⟩
  have HU := Lib.hid hU
  obtain ⟨⟨x0, x1, x2, x3, x4, x5, x6, x7, x8, x9, x10⟩, _⟩ := HX.out W (Below.refl _ _)
  go_enter Tryz.func87, Tryz.ntmps87
  go_wp2_with fail
  rw [← HW.out]
  refine (pmUint_any (p.l : Int) W).mono ?_
  rintro e w1 ⟨rfl, hb⟩
  have HBf : Hid (Below W.heap.size W w1) := hb
  have HItf : Hid (ItS w1 (newB W w1) (.agg #[.int .i64 1, .int .u64 (p.l : Int), .slice none 0 0, .string ⟨#[]⟩, .slice none 0 0]) (itU (p.l : Int))) := itS_uint _ _ _ HU.out
  obtain ⟨_, hbx⟩ := HX.out w1 HBf.out
  obtain ⟨d0, f0⟩ := hbx 0
  obtain ⟨d1, f1⟩ := hbx 1
  obtain ⟨d2, f2⟩ := hbx 2
  obtain ⟨d3, f3⟩ := hbx 3
  obtain ⟨d4, f4⟩ := hbx 4
  have hq := set5_cells d0 d1 d2 d3 d4 (.int .i64 1) (.int .u64 (p.l : Int)) (.slice none 0 0) (.string ⟨#[]⟩) (.slice none 0 0)
  have hbel := set5_on (g := w.heap.size + 1) (HB0.out.trans (HBf.out.mono HB0.out.size)) (by omega) (.int .i64 1) (.int .u64 (p.l : Int)) (.slice none 0 0) (.string ⟨#[]⟩) (.slice none 0 0)
  have hit : ItS (set5 w1 (w.heap.size + 1) (.int .i64 1) (.int .u64 (p.l : Int)) (.slice none 0 0) (.string ⟨#[]⟩) (.slice none 0 0)) (newB w (set5 w1 (w.heap.size + 1) (.int .i64 1) (.int .u64 (p.l : Int)) (.slice none 0 0) (.string ⟨#[]⟩) (.slice none 0 0))) (.agg #[.int .i64 1, .int .u64 (p.l : Int), .slice none 0 0, .string ⟨#[]⟩, .slice none 0 0]) (itU (p.l : Int)) :=
    ItS.more (fun b hb => ⟨by have := hb.1; have := HWs.out; omega, by rw [set5_size]; exact hb.2⟩) _ (ItS.keep (fun b hb => set5_block (by have := hb.1; have := HWs.out; omega) _ _ _ _ _) _ HItf.out)
  have HF := Lib.hid (⟨hq, hbel, hit⟩ : _ ∧ _ ∧ _)
  clear hq hbel hit hbx
  unfold set5 at HF
  go_wp2_with fail
  clear d0 d1 d2 d3 d4 f0 f1 f2 f3 f4
  obtain ⟨⟨q0, q1, q2, q3, q4⟩, hbel, hit⟩ := HF.out
  exact bodyPost_ret (v := .agg #[.int .i64 1, .int .u64 (p.l : Int), .slice none 0 0, .string ⟨#[]⟩, .slice none 0 0]) (by simp [results, Tryz.results87, go_sem, q0, q1, q2, q3, q4]) rfl ⟨hbel, _, rfl, hit⟩

set_option maxHeartbeats 4000000 in
theorem part4_any (p : Pm) (hp : p.ok) (hh : (0 < p.tn ∨ p.tm = 0)) (w : World) : Calls Tryz.prog 82 #[.agg #[.int .u32 p.f, .int .i64 p.s, .int .u32 p.tn, .int .u32 p.tm, .int .u32 p.sn, .int .u32 p.sm, .int .u32 p.rn, .int .u32 p.rm, .int .u64 p.t, .int .u32 p.q, .int .u64 p.l]] w (NewP w (itE p.tn p.tm)) := by
  obtain ⟨W, hW⟩ : ∃ W, W = (w.alloc (.cells #[.int .u32 p.f, .int .i64 p.s, .int .u32 p.tn, .int .u32 p.tm, .int .u32 p.sn, .int .u32 p.sm, .int .u32 p.rn, .int .u32 p.rm, .int .u64 p.t, .int .u32 p.q, .int .u64 p.l] 59)).alloc (.cells #[.int .i64 0, .int .u64 0, .slice none 0 0, .string ⟨#[]⟩, .slice none 0 0] 84) := ⟨_, rfl⟩
  have HB0 : Hid (Below w.heap.size w W) := by rw [hW]; exact below_al (below_al (Below.refl _ _) _) _
  have HX : Hid (∀ w', Below W.heap.size W w' → (w'.cell? ⟨w.heap.size, 0, none⟩ = some (.int .u32 p.f) ∧ w'.cell? ⟨w.heap.size, 1, none⟩ = some (.int .i64 p.s) ∧ w'.cell? ⟨w.heap.size, 2, none⟩ = some (.int .u32 p.tn) ∧ w'.cell? ⟨w.heap.size, 3, none⟩ = some (.int .u32 p.tm) ∧ w'.cell? ⟨w.heap.size, 4, none⟩ = some (.int .u32 p.sn) ∧ w'.cell? ⟨w.heap.size, 5, none⟩ = some (.int .u32 p.sm) ∧ w'.cell? ⟨w.heap.size, 6, none⟩ = some (.int .u32 p.rn) ∧ w'.cell? ⟨w.heap.size, 7, none⟩ = some (.int .u32 p.rm) ∧ w'.cell? ⟨w.heap.size, 8, none⟩ = some (.int .u64 p.t) ∧ w'.cell? ⟨w.heap.size, 9, none⟩ = some (.int .u32 p.q) ∧ w'.cell? ⟨w.heap.size, 10, none⟩ = some (.int .u64 p.l)) ∧ ∀ i, w'.cell? ⟨w.heap.size + 1, i, none⟩ = (#[Value.int .i64 0, .int .u64 0, .slice none 0 0, .string ⟨#[]⟩, .slice none 0 0])[i]? ∧ w'.frozen? ⟨w.heap.size + 1, i, none⟩ = false) := fun w' h => by
    rw [hW] at h
    have h1 := below_on (below_al (Below.refl _ (w.alloc (.cells #[.int .u32 p.f, .int .i64 p.s, .int .u32 p.tn, .int .u32 p.tm, .int .u32 p.sn, .int .u32 p.sm, .int .u32 p.rn, .int .u32 p.rm, .int .u64 p.t, .int .u32 p.q, .int .u64 p.l] 59))) (.cells #[.int .i64 0, .int .u64 0, .slice none 0 0, .string ⟨#[]⟩, .slice none 0 0] 84)) h
    refine ⟨pbox h1, fun i => ?_⟩
    have q2 := box_at h i
    have f2 := frozen_at h i
    rw [World.size_alloc] at q2 f2
    exact ⟨q2, f2⟩
  have hWs : w.heap.size + 1 + 1 = W.heap.size := by rw [hW]; simp
  have HW := Lib.hid hW
  have HWs := Lib.hid hWs
  clear hW hWs
  have HI := Lib.hid (fun w => endItem_any p.tn p.tm hh hp.tn hp.tm w)
  generalize itE p.tn p.tm = x at *
  obtain ⟨⟨x0, x1, x2, x3, x4, x5, x6, x7, x8, x9, x10⟩, _⟩ := HX.out W (Below.refl _ _)
  clear hh hp
  go_enter Tryz.func82, Tryz.ntmps82
  go_wp2_with fail
  rw [← HW.out]
  refine (HI.out W).mono ?_
  rintro e w1 ⟨hb, v, rfl, hx⟩
  obtain ⟨a1, c1, A1, C1, rfl⟩ := hx.form
  have HBf : Hid (Below W.heap.size W w1) := hb
  have HItf : Hid (ItS w1 (newB W w1) (.agg #[.int .i64 (x).k, .int .u64 (x).n, .slice a1 (x).b.length c1, .string ⟨(x).s.toArray⟩, .slice A1 (x).l.length C1]) (x)) := hx
  obtain ⟨_, hbx⟩ := HX.out w1 HBf.out
  obtain ⟨d0, f0⟩ := hbx 0
  obtain ⟨d1, f1⟩ := hbx 1
  obtain ⟨d2, f2⟩ := hbx 2
  obtain ⟨d3, f3⟩ := hbx 3
  obtain ⟨d4, f4⟩ := hbx 4
  have hq := set5_cells d0 d1 d2 d3 d4 (.int .i64 (x).k) (.int .u64 (x).n) (.slice a1 (x).b.length c1) (.string ⟨(x).s.toArray⟩) (.slice A1 (x).l.length C1)
  have hbel := set5_on (g := w.heap.size + 1) (HB0.out.trans (HBf.out.mono HB0.out.size)) (by omega) (.int .i64 (x).k) (.int .u64 (x).n) (.slice a1 (x).b.length c1) (.string ⟨(x).s.toArray⟩) (.slice A1 (x).l.length C1)
  have hit : ItS (set5 w1 (w.heap.size + 1) (.int .i64 (x).k) (.int .u64 (x).n) (.slice a1 (x).b.length c1) (.string ⟨(x).s.toArray⟩) (.slice A1 (x).l.length C1)) (newB w (set5 w1 (w.heap.size + 1) (.int .i64 (x).k) (.int .u64 (x).n) (.slice a1 (x).b.length c1) (.string ⟨(x).s.toArray⟩) (.slice A1 (x).l.length C1))) (.agg #[.int .i64 (x).k, .int .u64 (x).n, .slice a1 (x).b.length c1, .string ⟨(x).s.toArray⟩, .slice A1 (x).l.length C1]) (x) :=
    ItS.more (fun b hb => ⟨by have := hb.1; have := HWs.out; omega, by rw [set5_size]; exact hb.2⟩) _ (ItS.keep (fun b hb => set5_block (by have := hb.1; have := HWs.out; omega) _ _ _ _ _) _ HItf.out)
  have HF := Lib.hid (⟨hq, hbel, hit⟩ : _ ∧ _ ∧ _)
  clear hq hbel hit hbx
  unfold set5 at HF
  go_wp2_with fail
  clear d0 d1 d2 d3 d4 f0 f1 f2 f3 f4
  obtain ⟨⟨q0, q1, q2, q3, q4⟩, hbel, hit⟩ := HF.out
  exact bodyPost_ret (v := .agg #[.int .i64 (x).k, .int .u64 (x).n, .slice a1 (x).b.length c1, .string ⟨(x).s.toArray⟩, .slice A1 (x).l.length C1]) (by simp [results, Tryz.results82, go_sem, q0, q1, q2, q3, q4]) rfl ⟨hbel, _, rfl, hit⟩

set_option maxHeartbeats 4000000 in
theorem part5_any (p : Pm) (hp : p.ok) (hh : (0 < p.sn ∨ p.sm = 0)) (w : World) : Calls Tryz.prog 84 #[.agg #[.int .u32 p.f, .int .i64 p.s, .int .u32 p.tn, .int .u32 p.tm, .int .u32 p.sn, .int .u32 p.sm, .int .u32 p.rn, .int .u32 p.rm, .int .u64 p.t, .int .u32 p.q, .int .u64 p.l]] w (NewP w (itE p.sn p.sm)) := by
  obtain ⟨W, hW⟩ : ∃ W, W = (w.alloc (.cells #[.int .u32 p.f, .int .i64 p.s, .int .u32 p.tn, .int .u32 p.tm, .int .u32 p.sn, .int .u32 p.sm, .int .u32 p.rn, .int .u32 p.rm, .int .u64 p.t, .int .u32 p.q, .int .u64 p.l] 59)).alloc (.cells #[.int .i64 0, .int .u64 0, .slice none 0 0, .string ⟨#[]⟩, .slice none 0 0] 84) := ⟨_, rfl⟩
  have HB0 : Hid (Below w.heap.size w W) := by rw [hW]; exact below_al (below_al (Below.refl _ _) _) _
  have HX : Hid (∀ w', Below W.heap.size W w' → (w'.cell? ⟨w.heap.size, 0, none⟩ = some (.int .u32 p.f) ∧ w'.cell? ⟨w.heap.size, 1, none⟩ = some (.int .i64 p.s) ∧ w'.cell? ⟨w.heap.size, 2, none⟩ = some (.int .u32 p.tn) ∧ w'.cell? ⟨w.heap.size, 3, none⟩ = some (.int .u32 p.tm) ∧ w'.cell? ⟨w.heap.size, 4, none⟩ = some (.int .u32 p.sn) ∧ w'.cell? ⟨w.heap.size, 5, none⟩ = some (.int .u32 p.sm) ∧ w'.cell? ⟨w.heap.size, 6, none⟩ = some (.int .u32 p.rn) ∧ w'.cell? ⟨w.heap.size, 7, none⟩ = some (.int .u32 p.rm) ∧ w'.cell? ⟨w.heap.size, 8, none⟩ = some (.int .u64 p.t) ∧ w'.cell? ⟨w.heap.size, 9, none⟩ = some (.int .u32 p.q) ∧ w'.cell? ⟨w.heap.size, 10, none⟩ = some (.int .u64 p.l)) ∧ ∀ i, w'.cell? ⟨w.heap.size + 1, i, none⟩ = (#[Value.int .i64 0, .int .u64 0, .slice none 0 0, .string ⟨#[]⟩, .slice none 0 0])[i]? ∧ w'.frozen? ⟨w.heap.size + 1, i, none⟩ = false) := fun w' h => by
    rw [hW] at h
    have h1 := below_on (below_al (Below.refl _ (w.alloc (.cells #[.int .u32 p.f, .int .i64 p.s, .int .u32 p.tn, .int .u32 p.tm, .int .u32 p.sn, .int .u32 p.sm, .int .u32 p.rn, .int .u32 p.rm, .int .u64 p.t, .int .u32 p.q, .int .u64 p.l] 59))) (.cells #[.int .i64 0, .int .u64 0, .slice none 0 0, .string ⟨#[]⟩, .slice none 0 0] 84)) h
    refine ⟨pbox h1, fun i => ?_⟩
    have q2 := box_at h i
    have f2 := frozen_at h i
    rw [World.size_alloc] at q2 f2
    exact ⟨q2, f2⟩
  have hWs : w.heap.size + 1 + 1 = W.heap.size := by rw [hW]; simp
  have HW := Lib.hid hW
  have HWs := Lib.hid hWs
  clear hW hWs
  have HI := Lib.hid (fun w => endItem_any p.sn p.sm hh hp.sn hp.sm w)
  generalize itE p.sn p.sm = x at *
  obtain ⟨⟨x0, x1, x2, x3, x4, x5, x6, x7, x8, x9, x10⟩, _⟩ := HX.out W (Below.refl _ _)
  clear hh hp
  go_enter Tryz.func84, Tryz.ntmps84
  go_wp2_with fail
  rw [← HW.out]
  refine (HI.out W).mono ?_
  rintro e w1 ⟨hb, v, rfl, hx⟩
  obtain ⟨a1, c1, A1, C1, rfl⟩ := hx.form
  have HBf : Hid (Below W.heap.size W w1) := hb
  have HItf : Hid (ItS w1 (newB W w1) (.agg #[.int .i64 (x).k, .int .u64 (x).n, .slice a1 (x).b.length c1, .string ⟨(x).s.toArray⟩, .slice A1 (x).l.length C1]) (x)) := hx
  obtain ⟨_, hbx⟩ := HX.out w1 HBf.out
  obtain ⟨d0, f0⟩ := hbx 0
  obtain ⟨d1, f1⟩ := hbx 1
  obtain ⟨d2, f2⟩ := hbx 2
  obtain ⟨d3, f3⟩ := hbx 3
  obtain ⟨d4, f4⟩ := hbx 4
  have hq := set5_cells d0 d1 d2 d3 d4 (.int .i64 (x).k) (.int .u64 (x).n) (.slice a1 (x).b.length c1) (.string ⟨(x).s.toArray⟩) (.slice A1 (x).l.length C1)
  have hbel := set5_on (g := w.heap.size + 1) (HB0.out.trans (HBf.out.mono HB0.out.size)) (by omega) (.int .i64 (x).k) (.int .u64 (x).n) (.slice a1 (x).b.length c1) (.string ⟨(x).s.toArray⟩) (.slice A1 (x).l.length C1)
  have hit : ItS (set5 w1 (w.heap.size + 1) (.int .i64 (x).k) (.int .u64 (x).n) (.slice a1 (x).b.length c1) (.string ⟨(x).s.toArray⟩) (.slice A1 (x).l.length C1)) (newB w (set5 w1 (w.heap.size + 1) (.int .i64 (x).k) (.int .u64 (x).n) (.slice a1 (x).b.length c1) (.string ⟨(x).s.toArray⟩) (.slice A1 (x).l.length C1))) (.agg #[.int .i64 (x).k, .int .u64 (x).n, .slice a1 (x).b.length c1, .string ⟨(x).s.toArray⟩, .slice A1 (x).l.length C1]) (x) :=
    ItS.more (fun b hb => ⟨by have := hb.1; have := HWs.out; omega, by rw [set5_size]; exact hb.2⟩) _ (ItS.keep (fun b hb => set5_block (by have := hb.1; have := HWs.out; omega) _ _ _ _ _) _ HItf.out)
  have HF := Lib.hid (⟨hq, hbel, hit⟩ : _ ∧ _ ∧ _)
  clear hq hbel hit hbx
  unfold set5 at HF
  go_wp2_with fail
  clear d0 d1 d2 d3 d4 f0 f1 f2 f3 f4
  obtain ⟨⟨q0, q1, q2, q3, q4⟩, hbel, hit⟩ := HF.out
  exact bodyPost_ret (v := .agg #[.int .i64 (x).k, .int .u64 (x).n, .slice a1 (x).b.length c1, .string ⟨(x).s.toArray⟩, .slice A1 (x).l.length C1]) (by simp [results, Tryz.results84, go_sem, q0, q1, q2, q3, q4]) rfl ⟨hbel, _, rfl, hit⟩

set_option maxHeartbeats 4000000 in
theorem part6_any (p : Pm) (hp : p.ok) (hh : (0 < p.rn ∨ p.rm = 0)) (w : World) : Calls Tryz.prog 85 #[.agg #[.int .u32 p.f, .int .i64 p.s, .int .u32 p.tn, .int .u32 p.tm, .int .u32 p.sn, .int .u32 p.sm, .int .u32 p.rn, .int .u32 p.rm, .int .u64 p.t, .int .u32 p.q, .int .u64 p.l]] w (NewP w (itE p.rn p.rm)) := by
  obtain ⟨W, hW⟩ : ∃ W, W = (w.alloc (.cells #[.int .u32 p.f, .int .i64 p.s, .int .u32 p.tn, .int .u32 p.tm, .int .u32 p.sn, .int .u32 p.sm, .int .u32 p.rn, .int .u32 p.rm, .int .u64 p.t, .int .u32 p.q, .int .u64 p.l] 59)).alloc (.cells #[.int .i64 0, .int .u64 0, .slice none 0 0, .string ⟨#[]⟩, .slice none 0 0] 84) := ⟨_, rfl⟩
  have HB0 : Hid (Below w.heap.size w W) := by rw [hW]; exact below_al (below_al (Below.refl _ _) _) _
  have HX : Hid (∀ w', Below W.heap.size W w' → (w'.cell? ⟨w.heap.size, 0, none⟩ = some (.int .u32 p.f) ∧ w'.cell? ⟨w.heap.size, 1, none⟩ = some (.int .i64 p.s) ∧ w'.cell? ⟨w.heap.size, 2, none⟩ = some (.int .u32 p.tn) ∧ w'.cell? ⟨w.heap.size, 3, none⟩ = some (.int .u32 p.tm) ∧ w'.cell? ⟨w.heap.size, 4, none⟩ = some (.int .u32 p.sn) ∧ w'.cell? ⟨w.heap.size, 5, none⟩ = some (.int .u32 p.sm) ∧ w'.cell? ⟨w.heap.size, 6, none⟩ = some (.int .u32 p.rn) ∧ w'.cell? ⟨w.heap.size, 7, none⟩ = some (.int .u32 p.rm) ∧ w'.cell? ⟨w.heap.size, 8, none⟩ = some (.int .u64 p.t) ∧ w'.cell? ⟨w.heap.size, 9, none⟩ = some (.int .u32 p.q) ∧ w'.cell? ⟨w.heap.size, 10, none⟩ = some (.int .u64 p.l)) ∧ ∀ i, w'.cell? ⟨w.heap.size + 1, i, none⟩ = (#[Value.int .i64 0, .int .u64 0, .slice none 0 0, .string ⟨#[]⟩, .slice none 0 0])[i]? ∧ w'.frozen? ⟨w.heap.size + 1, i, none⟩ = false) := fun w' h => by
    rw [hW] at h
    have h1 := below_on (below_al (Below.refl _ (w.alloc (.cells #[.int .u32 p.f, .int .i64 p.s, .int .u32 p.tn, .int .u32 p.tm, .int .u32 p.sn, .int .u32 p.sm, .int .u32 p.rn, .int .u32 p.rm, .int .u64 p.t, .int .u32 p.q, .int .u64 p.l] 59))) (.cells #[.int .i64 0, .int .u64 0, .slice none 0 0, .string ⟨#[]⟩, .slice none 0 0] 84)) h
    refine ⟨pbox h1, fun i => ?_⟩
    have q2 := box_at h i
    have f2 := frozen_at h i
    rw [World.size_alloc] at q2 f2
    exact ⟨q2, f2⟩
  have hWs : w.heap.size + 1 + 1 = W.heap.size := by rw [hW]; simp
  have HW := Lib.hid hW
  have HWs := Lib.hid hWs
  clear hW hWs
  have HI := Lib.hid (fun w => endItem_any p.rn p.rm hh hp.rn hp.rm w)
  generalize itE p.rn p.rm = x at *
  obtain ⟨⟨x0, x1, x2, x3, x4, x5, x6, x7, x8, x9, x10⟩, _⟩ := HX.out W (Below.refl _ _)
  clear hh hp
  go_enter Tryz.func85, Tryz.ntmps85
  go_wp2_with fail
  rw [← HW.out]
  refine (HI.out W).mono ?_
  rintro e w1 ⟨hb, v, rfl, hx⟩
  obtain ⟨a1, c1, A1, C1, rfl⟩ := hx.form
  have HBf : Hid (Below W.heap.size W w1) := hb
  have HItf : Hid (ItS w1 (newB W w1) (.agg #[.int .i64 (x).k, .int .u64 (x).n, .slice a1 (x).b.length c1, .string ⟨(x).s.toArray⟩, .slice A1 (x).l.length C1]) (x)) := hx
  obtain ⟨_, hbx⟩ := HX.out w1 HBf.out
  obtain ⟨d0, f0⟩ := hbx 0
  obtain ⟨d1, f1⟩ := hbx 1
  obtain ⟨d2, f2⟩ := hbx 2
  obtain ⟨d3, f3⟩ := hbx 3
  obtain ⟨d4, f4⟩ := hbx 4
  have hq := set5_cells d0 d1 d2 d3 d4 (.int .i64 (x).k) (.int .u64 (x).n) (.slice a1 (x).b.length c1) (.string ⟨(x).s.toArray⟩) (.slice A1 (x).l.length C1)
  have hbel := set5_on (g := w.heap.size + 1) (HB0.out.trans (HBf.out.mono HB0.out.size)) (by omega) (.int .i64 (x).k) (.int .u64 (x).n) (.slice a1 (x).b.length c1) (.string ⟨(x).s.toArray⟩) (.slice A1 (x).l.length C1)
  have hit : ItS (set5 w1 (w.heap.size + 1) (.int .i64 (x).k) (.int .u64 (x).n) (.slice a1 (x).b.length c1) (.string ⟨(x).s.toArray⟩) (.slice A1 (x).l.length C1)) (newB w (set5 w1 (w.heap.size + 1) (.int .i64 (x).k) (.int .u64 (x).n) (.slice a1 (x).b.length c1) (.string ⟨(x).s.toArray⟩) (.slice A1 (x).l.length C1))) (.agg #[.int .i64 (x).k, .int .u64 (x).n, .slice a1 (x).b.length c1, .string ⟨(x).s.toArray⟩, .slice A1 (x).l.length C1]) (x) :=
    ItS.more (fun b hb => ⟨by have := hb.1; have := HWs.out; omega, by rw [set5_size]; exact hb.2⟩) _ (ItS.keep (fun b hb => set5_block (by have := hb.1; have := HWs.out; omega) _ _ _ _ _) _ HItf.out)
  have HF := Lib.hid (⟨hq, hbel, hit⟩ : _ ∧ _ ∧ _)
  clear hq hbel hit hbx
  unfold set5 at HF
  go_wp2_with fail
  clear d0 d1 d2 d3 d4 f0 f1 f2 f3 f4
  obtain ⟨⟨q0, q1, q2, q3, q4⟩, hbel, hit⟩ := HF.out
  exact bodyPost_ret (v := .agg #[.int .i64 (x).k, .int .u64 (x).n, .slice a1 (x).b.length c1, .string ⟨(x).s.toArray⟩, .slice A1 (x).l.length C1]) (by simp [results, Tryz.results85, go_sem, q0, q1, q2, q3, q4]) rfl ⟨hbel, _, rfl, hit⟩

set_option maxHeartbeats 4000000 in
theorem part7_any (p : Pm) (hp : p.ok) (w : World) : Calls Tryz.prog 86 #[.agg #[.int .u32 p.f, .int .i64 p.s, .int .u32 p.tn, .int .u32 p.tm, .int .u32 p.sn, .int .u32 p.sm, .int .u32 p.rn, .int .u32 p.rm, .int .u64 p.t, .int .u32 p.q, .int .u64 p.l]] w (NewP w (itLs [itU p.t, itU p.q])) := by
  obtain ⟨W, hW⟩ : ∃ W, W = (w.alloc (.cells #[.int .u32 p.f, .int .i64 p.s, .int .u32 p.tn, .int .u32 p.tm, .int .u32 p.sn, .int .u32 p.sm, .int .u32 p.rn, .int .u32 p.rm, .int .u64 p.t, .int .u32 p.q, .int .u64 p.l] 59)).alloc (.cells #[.int .i64 0, .int .u64 0, .slice none 0 0, .string ⟨#[]⟩, .slice none 0 0] 84) := ⟨_, rfl⟩
  have HB0 : Hid (Below w.heap.size w W) := by rw [hW]; exact below_al (below_al (Below.refl _ _) _) _
  have HX : Hid (∀ w', Below W.heap.size W w' → (w'.cell? ⟨w.heap.size, 0, none⟩ = some (.int .u32 p.f) ∧ w'.cell? ⟨w.heap.size, 1, none⟩ = some (.int .i64 p.s) ∧ w'.cell? ⟨w.heap.size, 2, none⟩ = some (.int .u32 p.tn) ∧ w'.cell? ⟨w.heap.size, 3, none⟩ = some (.int .u32 p.tm) ∧ w'.cell? ⟨w.heap.size, 4, none⟩ = some (.int .u32 p.sn) ∧ w'.cell? ⟨w.heap.size, 5, none⟩ = some (.int .u32 p.sm) ∧ w'.cell? ⟨w.heap.size, 6, none⟩ = some (.int .u32 p.rn) ∧ w'.cell? ⟨w.heap.size, 7, none⟩ = some (.int .u32 p.rm) ∧ w'.cell? ⟨w.heap.size, 8, none⟩ = some (.int .u64 p.t) ∧ w'.cell? ⟨w.heap.size, 9, none⟩ = some (.int .u32 p.q) ∧ w'.cell? ⟨w.heap.size, 10, none⟩ = some (.int .u64 p.l)) ∧ ∀ i, w'.cell? ⟨w.heap.size + 1, i, none⟩ = (#[Value.int .i64 0, .int .u64 0, .slice none 0 0, .string ⟨#[]⟩, .slice none 0 0])[i]? ∧ w'.frozen? ⟨w.heap.size + 1, i, none⟩ = false) := fun w' h => by
    rw [hW] at h
    have h1 := below_on (below_al (Below.refl _ (w.alloc (.cells #[.int .u32 p.f, .int .i64 p.s, .int .u32 p.tn, .int .u32 p.tm, .int .u32 p.sn, .int .u32 p.sm, .int .u32 p.rn, .int .u32 p.rm, .int .u64 p.t, .int .u32 p.q, .int .u64 p.l] 59))) (.cells #[.int .i64 0, .int .u64 0, .slice none 0 0, .string ⟨#[]⟩, .slice none 0 0] 84)) h
    refine ⟨pbox h1, fun i => ?_⟩
    have q2 := box_at h i
    have f2 := frozen_at h i
    rw [World.size_alloc] at q2 f2
    exact ⟨q2, f2⟩
  have hWs : w.heap.size + 1 + 1 = W.heap.size := by rw [hW]; simp
  have HW := Lib.hid hW
  have HWs := Lib.hid hWs
  clear hW hWs
  have ht := hp.t
  have hq := hp.q
  have hcv : IntKind.u64.wrap (p.q : Int) = (p.q : Int) := by
    simp [IntKind.wrap, IntKind.signed, IntKind.bits]
    omega
  go_enter Tryz.func86, Tryz.ntmps86
  go_wp2_with fail
  rw [← HW.out]
  have F : Below W.heap.size W W.drew := (Below.refl _ _).drew
  refine wp_region_T (fun w' => (w'.cell? ⟨w.heap.size, 0, none⟩ = some (.int .u32 p.f) ∧ w'.cell? ⟨w.heap.size, 1, none⟩ = some (.int .i64 p.s) ∧ w'.cell? ⟨w.heap.size, 2, none⟩ = some (.int .u32 p.tn) ∧ w'.cell? ⟨w.heap.size, 3, none⟩ = some (.int .u32 p.tm) ∧ w'.cell? ⟨w.heap.size, 4, none⟩ = some (.int .u32 p.sn) ∧ w'.cell? ⟨w.heap.size, 5, none⟩ = some (.int .u32 p.sm) ∧ w'.cell? ⟨w.heap.size, 6, none⟩ = some (.int .u32 p.rn) ∧ w'.cell? ⟨w.heap.size, 7, none⟩ = some (.int .u32 p.rm) ∧ w'.cell? ⟨w.heap.size, 8, none⟩ = some (.int .u64 p.t) ∧ w'.cell? ⟨w.heap.size, 9, none⟩ = some (.int .u32 p.q) ∧ w'.cell? ⟨w.heap.size, 10, none⟩ = some (.int .u64 p.l))) 11 (by kernel_rfl) ?_
  refine wpAnyT_take (i := 0) (v := ?_) rfl (by kernel_rfl) (by kernel_rfl) (by kernel_rfl) (by kernel_rfl) (fun _ _ _ h => h) (Or.inl ⟨by rfl, ?_⟩) (HX.out _ F).1 ?_
  rotate_left
  · intro w hSw
    (try dsimp only at hSw)
    go_simp
    all_goals with_reducible rfl
  simp only [Act.put, List.setIfInBounds_toArray, List.set_cons_zero, List.set_cons_succ]
  refine wpAnyT_take (i := 1) (v := ?_) rfl (by kernel_rfl) (by kernel_rfl) (by kernel_rfl) (by kernel_rfl) (fun _ _ _ h => h) (Or.inl ⟨by rfl, ?_⟩) (HX.out _ F).1 ?_
  rotate_left
  · intro w hSw
    (try dsimp only at hSw)
    go_simp
    all_goals with_reducible rfl
  simp only [Act.put, List.setIfInBounds_toArray, List.set_cons_zero, List.set_cons_succ]
  refine wpAnyT_take (i := 2) (v := ?_) rfl (by kernel_rfl) (by kernel_rfl) (by kernel_rfl) (by kernel_rfl) (fun _ _ _ h => h) (Or.inl ⟨by rfl, ?_⟩) (HX.out _ F).1 ?_
  rotate_left
  · intro w hSw
    (try dsimp only at hSw)
    go_simp
    all_goals with_reducible rfl
  simp only [Act.put, List.setIfInBounds_toArray, List.set_cons_zero, List.set_cons_succ]
  refine wpAnyT_take (i := 4) (v := ?_) rfl (by kernel_rfl) (by kernel_rfl) (by kernel_rfl) (by kernel_rfl) (fun _ _ _ h => h) (Or.inl ⟨by rfl, ?_⟩) (HX.out _ F).1 ?_
  rotate_left
  · intro w hSw
    (try dsimp only at hSw)
    go_simp
    all_goals with_reducible rfl
  simp only [Act.put, List.setIfInBounds_toArray, List.set_cons_zero, List.set_cons_succ]
  refine wpAnyT_take (i := 5) (v := ?_) rfl (by kernel_rfl) (by kernel_rfl) (by kernel_rfl) (by kernel_rfl) (fun _ _ _ h => h) (Or.inl ⟨by rfl, ?_⟩) (HX.out _ F).1 ?_
  rotate_left
  · intro w hSw
    (try dsimp only at hSw)
    go_simp
    all_goals with_reducible rfl
  simp only [Act.put, List.setIfInBounds_toArray, List.set_cons_zero, List.set_cons_succ]
  refine wpAnyT_take (i := 6) (v := ?_) rfl (by kernel_rfl) (by kernel_rfl) (by kernel_rfl) (by kernel_rfl) (fun _ _ _ h => h) (Or.inl ⟨by rfl, ?_⟩) (HX.out _ F).1 ?_
  rotate_left
  · intro w hSw
    (try dsimp only at hSw)
    go_simp
    all_goals with_reducible rfl
  simp only [Act.put, List.setIfInBounds_toArray, List.set_cons_zero, List.set_cons_succ]
  refine wpAnyT_take (i := 7) (v := ?_) rfl (by kernel_rfl) (by kernel_rfl) (by kernel_rfl) (by kernel_rfl) (fun _ _ _ h => h) (Or.inl ⟨by rfl, ?_⟩) (HX.out _ F).1 ?_
  rotate_left
  · intro w hSw
    (try dsimp only at hSw)
    go_simp
    all_goals with_reducible rfl
  simp only [Act.put, List.setIfInBounds_toArray, List.set_cons_zero, List.set_cons_succ]
  refine wpAnyT_one (i := 3) (by kernel_rfl) rfl (fun K hK => ?_)
  go_simp
  refine (pmUint_any _ _).mono ?_
  rintro e w1 ⟨rfl, hb⟩
  replace F := below_on F hb
  clear hb
  refine hK.out _ _ (fun _ => (HX.out _ F).1) ?_
  clear hK K
  try simp only [Act.put, List.setIfInBounds_toArray, List.set_cons_zero, List.set_cons_succ]
  refine wpAnyT_one (i := 8) (by kernel_rfl) rfl (fun K hK => ?_)
  go_simp
  refine (pmUint_any _ _).mono ?_
  rintro e w2 ⟨rfl, hb⟩
  replace F := below_on F hb
  clear hb
  refine hK.out _ _ (fun _ => (HX.out _ F).1) ?_
  clear hK K
  try simp only [Act.put, List.setIfInBounds_toArray, List.set_cons_zero, List.set_cons_succ]
  refine wpAnyT_one (i := 9) (by kernel_rfl) rfl (fun K hK => ?_)
  go_simp
  have hs2 := F.size
  replace F := below_al F (.cells #[.int .i64 1, .int .u64 p.t, .slice none 0 0, .string ⟨#[]⟩, .slice none 0 0, .int .i64 1, .int .u64 p.q, .slice none 0 0, .string ⟨#[]⟩, .slice none 0 0] 84)
  refine hK.out _ _ (fun _ => (HX.out _ F).1) ?_
  clear hK K
  try simp only [Act.put, List.setIfInBounds_toArray, List.set_cons_zero, List.set_cons_succ]
  refine wpAnyT_one (i := 10) (by kernel_rfl) rfl (fun K hK => ?_)
  go_simp
  refine (pmList_any _ _ _ _).mono ?_
  rintro e w4 ⟨rfl, hb⟩
  have hx : ItS w4 (newB W w4) (listV (some ⟨w2.heap.size, 0, none⟩) 2 2) (itLs [itU p.t, itU p.q]) := itS_two ⟨hs2, Nat.lt_of_lt_of_le (by simp) hb.size⟩ ⟨_, _, _, _, _, rfl, box_at hb 0, box_at hb 1, box_at hb 2, box_at hb 3, box_at hb 4⟩ ⟨_, _, _, _, _, rfl, box_at hb 5, box_at hb 6, box_at hb 7, box_at hb 8, box_at hb 9⟩ (itS_uint _ _ _ ⟨by omega, by omega⟩) (itS_uint _ _ _ ⟨by omega, by omega⟩)
  have HItl := Lib.hid hx
  replace F := below_on F hb
  clear hb hx hs2
  obtain ⟨_, hbx⟩ := HX.out w4 F
  obtain ⟨d0, f0⟩ := hbx 0
  obtain ⟨d1, f1⟩ := hbx 1
  obtain ⟨d2, f2⟩ := hbx 2
  obtain ⟨d3, f3⟩ := hbx 3
  obtain ⟨d4, f4⟩ := hbx 4
  clear hbx
  refine hK.out _ _ (fun _ => (HX.out _ F).1) ?_
  clear hK K
  try simp only [Act.put, List.setIfInBounds_toArray, List.set_cons_zero, List.set_cons_succ]
  refine wpAnyT_one (i := 11) (by kernel_rfl) rfl (fun K hK => ?_)
  go_simp
  refine hK.out _ _ (fun h => absurd h (by decide)) ?_
  clear hK K
  try simp only [Act.put, List.setIfInBounds_toArray, List.set_cons_zero, List.set_cons_succ]
  refine wpAnyT_done (by kernel_rfl) ?_ _
  have HF0 := Lib.hid F
  have hq := set5_cells d0 d1 d2 d3 d4 (.int .i64 4) (.int .u64 0) (.slice none 0 0) (.string ⟨#[]⟩) (.slice (some ⟨w2.heap.size, 0, none⟩) 2 2)
  have hbel := set5_on (g := w.heap.size + 1) (HB0.out.trans (F.mono HB0.out.size)) (by omega) (.int .i64 4) (.int .u64 0) (.slice none 0 0) (.string ⟨#[]⟩) (.slice (some ⟨w2.heap.size, 0, none⟩) 2 2)
  have hit : ItS (set5 w4 (w.heap.size + 1) (.int .i64 4) (.int .u64 0) (.slice none 0 0) (.string ⟨#[]⟩) (.slice (some ⟨w2.heap.size, 0, none⟩) 2 2)) (newB w (set5 w4 (w.heap.size + 1) (.int .i64 4) (.int .u64 0) (.slice none 0 0) (.string ⟨#[]⟩) (.slice (some ⟨w2.heap.size, 0, none⟩) 2 2))) (.agg #[.int .i64 4, .int .u64 0, .slice none 0 0, .string ⟨#[]⟩, .slice (some ⟨w2.heap.size, 0, none⟩) 2 2]) (itLs [itU p.t, itU p.q]) :=
    ItS.more (fun b hb => ⟨by have := hb.1; have := HWs.out; omega, by rw [set5_size]; exact hb.2⟩) _ (ItS.keep (fun b hb => set5_block (by have := hb.1; have := HWs.out; omega) _ _ _ _ _) _ HItl.out)
  have HF := Lib.hid (⟨hq, hbel, hit⟩ : _ ∧ _ ∧ _)
  clear hq hbel hit d0 d1 d2 d3 d4 f0 f1 f2 f3 f4
  unfold set5 at HF
  go_wp2_with fail
  obtain ⟨⟨q0, q1, q2, q3, q4⟩, hbel, hit⟩ := HF.out
  exact bodyPost_ret (v := .agg #[.int .i64 4, .int .u64 0, .slice none 0 0, .string ⟨#[]⟩, .slice (some ⟨w2.heap.size, 0, none⟩) 2 2]) (by simp [results, Tryz.results86, go_sem, q0, q1, q2, q3, q4]) rfl ⟨hbel, _, rfl, hit⟩

end Go.Proofs.YtlmdbeccfoncpaaGreatDoor
