/- Package seen: Next; what the law makes. -/
import Derived.Test.YtdnjoohicbdmiaaSeF
namespace Go.Proofs.Ytdnjoohicbdmiaa
open Go Go.RowKit Go.Shelf
open Go.ChangeMaps (setBlock)
set_option linter.unusedSimpArgs false
set_option linter.unusedVariables false
set_option linter.unusedSectionVars false
set_option maxRecDepth 100000

attribute [local go_sem] Oper.semAt_some

theorem earliest_any (w : World) : Calls Try.prog 38 #[] w fun e w' => e = .returned (.func (.func 51) #[] #[.pointer (some ⟨w.heap.size, 0, none⟩)]) ∧ w' = w.alloc (.cells #[.int .u64 4611686018427387903] 38) := by
  have hmf := mkF
  go_enter Try.func38, Try.ntmps38
  go_wp2_with fail
  go_ret
  exact ⟨rfl, rfl⟩
theorem ent_earliest1 : ∀ args w, (callFunc 51 args).run Try.prog w = .ok (.enter 51 args) w := enters_of Try.func51 (by kernel_rfl) rfl
theorem earliest1_any (b : Nat) (m n : Int) (w : World) (h : w.cell? ⟨b, 0, none⟩ = some (.int .u64 m)) (hf : w.frozen? ⟨b, 0, none⟩ = false) : Calls Try.prog 51 #[.int .u64 n, .pointer (some ⟨b, 0, none⟩)] w fun e w' => e = .returned (.int .u64 (min m n)) ∧ w' = w.setCell ⟨b, 0, none⟩ (.int .u64 (min m n)) := by
  go_enter Try.func51, Try.ntmps51
  go_wp2_with fail
  · have e : min m n = n := by omega
    go_ret
    rw [e]
    exact ⟨rfl, rfl⟩
  · have e : min m n = m := by omega
    go_ret
    rw [e]
    exact ⟨rfl, rfl⟩
theorem sight_any (n : Int) (w : World) : Calls Try.prog 19 #[.int .u32 n] w fun e w' => e = .returned (.agg #[.int .u32 1, .int .u32 0, .int .u64 0, .int .u32 n, .bool false, .int .u8 0]) ∧ Below w.heap.size w w' := by
  go_enter Try.func19, Try.ntmps19
  go_wp2_with fail
  refine bodyPost_ret (results_cell rfl (by rfl) (v := .agg #[.int .u32 1, .int .u32 0, .int .u64 0, .int .u32 n, .bool false, .int .u8 0]) ?_) rfl ⟨rfl, below_al (Below.refl _ _) _⟩
  go_simp

/-- What Next answers. -/
def NextOk (l : List (Sg × Value)) (m : Int) (is : Bool) : Prop := (l = [] → m = 0 ∧ is = false) ∧ (l ≠ [] → is = true ∧ (∀ q ∈ l, m ≤ tI q.2) ∧ ∃ q ∈ l, tI q.2 = m)
/-- As far as it was gone over. -/
def NextT (l todo : List (Sg × Value)) (c m : Int) (is : Bool) : Prop :=
  (∀ q ∈ l, lk todo q.1 = none → c ≤ tI q.2) ∧ ((is = false ∧ m = 0 ∧ c = 4611686018427387903 ∧ ∀ q ∈ l, lk todo q.1 ≠ none) ∨ (is = true ∧ m = c ∧ ∃ q ∈ l, tI q.2 = c))
theorem nextT_start (l : List (Sg × Value)) (hn : (l.map (·.1)).Nodup) : NextT l l 4611686018427387903 0 false := by
  have h : ∀ q ∈ l, lk l q.1 ≠ none := fun q hq => by rw [lk_of_mem hn (k := q.1) (v := q.2) hq]; simp
  exact ⟨fun q hq hk => absurd hk (h q hq), .inl ⟨rfl, rfl, rfl, h⟩⟩
theorem nextT_end {l : List (Sg × Value)} {c m : Int} {is : Bool} (h : NextT l [] c m is) : NextOk l m is := by
  obtain ⟨h1, h2 | h2⟩ := h
  · refine ⟨fun _ => ⟨h2.2.1, h2.1⟩, fun hne => ?_⟩
    cases l with
    | nil => exact absurd rfl hne
    | cons q r => exact absurd rfl (h2.2.2.2 q (by simp))
  · obtain ⟨e1, e2, q, hq, e3⟩ := h2
    subst e2
    exact ⟨fun e => by rw [e] at hq; simp at hq, fun _ => ⟨e1, fun q hq => h1 q hq rfl, q, hq, e3⟩⟩
theorem nextT_step {l todo rest : List (Sg × Value)} {c m : Int} {is : Bool} {q : Sg} {v : Value} (h : NextT l todo c m is) (hn : (l.map (·.1)).Nodup) (hl : lk l q = some v) (hr : ∀ k, lk rest k = if k = q then none else lk todo k) (hF : tI v ≤ 4611686018427387903) : NextT l rest (min c (tI v)) (min c (tI v)) true := by
  obtain ⟨h1, h2⟩ := h
  refine ⟨fun x hx hk => ?_, .inr ⟨rfl, rfl, ?_⟩⟩
  · rw [hr] at hk
    by_cases e : x.1 = q
    · have hxv : x.2 = v := by
        have := lk_of_mem hn (k := x.1) (v := x.2) hx
        rw [e, hl] at this
        injection this with this
        exact this.symm
      rw [hxv]
      omega
    · rw [if_neg e] at hk
      have := h1 x hx hk
      omega
  · have hv : (q, v) ∈ l := lk_mem hl
    rcases h2 with h2 | h2
    · exact ⟨_, hv, by rw [h2.2.2.1]; show tI v = _; omega⟩
    · obtain ⟨_, _, x, hx, e3⟩ := h2
      by_cases hc : c ≤ tI v
      · exact ⟨x, hx, by omega⟩
      · exact ⟨_, hv, by show tI v = _; omega⟩

set_option maxHeartbeats 8000000 in
theorem next_any (S : Nat → Prop) (p : Nat) (most : Int) (l : List (Sg × Value)) (w : World) (h : TabAt w S p most l) (hT : AllT l) (hF : ∀ q ∈ l, tI q.2 ≤ 4611686018427387903) :
    Calls Try.prog 20 #[.pointer (some ⟨p, 0, none⟩)] w fun e w' => (∃ m is, e = .returned (.tuple #[.int .u64 m, .bool is]) ∧ NextOk l m is) ∧ Below w.heap.size w w' := by
  obtain ⟨bu, h1, h2, h3, h4⟩ := h
  have HP := Lib.hid h1
  have HM := Lib.hid h2
  have HT := Lib.hid hT
  have HF := Lib.hid hF
  clear h1 h2 h3 h4 hT hF
  go_enter Try.func20, Try.ntmps20
  go_wp2_with fail
  refine (earliest_any w).mono ?_
  rintro e w1 ⟨rfl, hw1⟩
  obtain ⟨b9, hb9⟩ : ∃ b, b = w.heap.size := ⟨_, rfl⟩
  have HB1 : Hid (Below w.heap.size w w1) := by rw [hw1]; exact below_al (Below.refl _ _) _
  have HX1 : Hid (RowB w1 b9 [.int .u64 4611686018427387903] ∧ b9 = w.heap.size) := by
    rw [Hid, hw1, hb9]
    exact ⟨RowB.new w [.int .u64 4611686018427387903] _, rfl⟩
  rw [← hb9]
  clear hw1 hb9
  have r1 := HP.out.on HB1.out HP.out.lt
  have m1 : KMap encSg w1 bu l := HM.out.kept (HB1.out.block _ HM.out.lt)
  have c1 := r1.1 1 _ rfl
  clear r1
  go_wp2_with fail
  refine (sehere_any p bu w1 c1).mono ?_
  rintro e wq ⟨rfl, hwq⟩
  rw [hwq]
  clear hwq wq
  go_wp2_with (first
    | (at_range; refine wpList_range_K _ rfl _ 67 rfl _ _ Try.underlying67 bu l rfl m1 ?_; intro o7 hrg)
    | fail)
  go_frame
  obtain ⟨r, hr⟩ : ∃ r, r = w1.heap.size := ⟨_, rfl⟩
  obtain ⟨W7, hW7⟩ : ∃ W, W = w1.alloc o7 := ⟨_, rfl⟩
  rw [← hW7, ← hr] at hrg ⊢
  have HR7 : Hid (RngK encSg W7 bu r l l) := hrg
  have HB17 : Hid (Below w1.heap.size w1 W7) := by rw [Hid, hW7]; exact below_al (Below.refl _ _) _
  have HB7 : Hid (Below w.heap.size w W7) := below_on HB1.out HB17.out
  have HX7 : Hid (RowB W7 b9 [.int .u64 4611686018427387903]) := HX1.out.1.on HB17.out HX1.out.1.lt
  have HZ : Hid (w.heap.size ≤ r ∧ b9 < r) := by rw [Hid, hr]; exact ⟨HB1.out.size, HX1.out.1.lt⟩
  clear hrg hr hW7 m1 c1
  go_loopw [4, 5, 16] (fun vm vi _ wr => ∃ (todo : List (Sg × Value)) (m : Int) (is : Bool), vm = .int .u64 m ∧ vi = .bool is ∧ RngK encSg wr bu r l todo ∧ Hid (∃ c : Int, NextT l todo c m is ∧ RowB wr b9 [.int .u64 c] ∧ Below w.heap.size w wr)) (fun _ _ _ wr => wr.rangeLeft bu r)
  case atStart => exact ⟨l, 0, false, rfl, rfl, HR7.out, _, nextT_start l HM.out.nodup, HX7.out, HB7.out⟩
  case round =>
    obtain ⟨todo, m, is, rfl, rfl, c1, HI⟩ := hrel
    have HC1 := Lib.hid c1
    go_wp2_with (first
      | (at_next; refine wpList_next_K _ rfl _ rfl _ keySg bu r l todo rfl c1 ?_ ?_)
      | fail)
    · intro ht
      have HT2 := Lib.hid ht
      clear ht c1
      go_wp2_with fail
      go_ret2
      obtain ⟨c, i1, i2, i3⟩ := HI.out
      rw [HT2.out] at i1
      exact ⟨⟨m, is, rfl, nextT_end i1⟩, i3⟩
    · intro q v w2 o1 pre post hsp hw1 hrg1 hen
      have hql : (q, v) ∈ l := c1.sub.subset (by rw [hsp]; simp)
      have hlq : lk l q = some v := lk_of_mem HM.out.nodup hql
      have hls : ∀ q', lk (pre ++ post) q' = if q' = q then none else lk todo q' := fun q' => by
        have := (c1.sub.map (·.1)).nodup HM.out.nodup
        rw [hsp] at this ⊢
        exact lk_split this q'
      clear c1
      obtain ⟨c, i1, i2, i3⟩ := HI.out
      obtain ⟨We, hWe⟩ : ∃ W, W = setBlock w2 r o1 := ⟨_, rfl⟩
      rw [← hWe] at hrg1 ⊢
      have hrl := HC1.out.rlt
      have hbl : bu < w.heap.size := HM.out.lt
      have hw1h : w2.heap = wr.heap ∧ Below w.heap.size w w2 := by
        rcases hw1 with rfl | rfl
        · exact ⟨rfl, i3⟩
        · exact ⟨rfl, i3.drew⟩
      have HWe : Hid (We.heap.size = wr.heap.size ∧ (∀ j, j ≠ r → We.heap[j]? = wr.heap[j]?) ∧ We.heap[r]? = some o1 ∧ Below w.heap.size w We) := by
        rw [Hid, hWe]
        refine ⟨by rw [setBlock_size, hw1h.1], fun j hj => by rw [setBlock_block _ _ _ _ hj, hw1h.1], heap_setBlock (by rw [hw1h.1]; exact hrl) o1, ?_⟩
        exact (ButS.setBlock (S := fun _ => False) (ButS.of_below hw1h.2) (.inr HZ.out.1) o1).below (Nat.le_refl _) (fun k h => h.elim)
      have he := hen We (by rw [HWe.out.2.1 bu (by have := HZ.out; omega)]) HWe.out.2.2.1
      unfold encSg at he
      obtain ⟨tv, rfl⟩ := HT.out (q, v) hql
      have HX8 : Hid (RowB We b9 [.int .u64 c]) := i2.kept (HWe.out.2.1 b9 (by have := HZ.out; omega))
      have HNx : Hid (NextT l (pre ++ post) (min c tv) (min c tv) true) := nextT_step i1 HM.out.nodup hlq hls (HF.out _ hql)
      have HRG := Lib.hid hrg1
      have HSP := Lib.hid hsp
      clear hen hrg1 hsp hlq hw1 hw1h hWe w2 hls hql i1 i2 i3
      go_wp2_with fail
      refine (earliest1_any b9 c tv We (HX8.out.1 0 _ rfl) (HX8.out.2 0)).mono ?_
      rintro e wq ⟨rfl, hwq⟩
      have HX9 : Hid (RowB wq b9 [.int .u64 (min c tv)] ∧ RngK encSg wq bu r l (pre ++ post) ∧ Below w.heap.size w wq) := by
        rw [Hid, hwq]
        have hk : ∀ j, j ≠ b9 → (We.setCell ⟨b9, 0, none⟩ (.int .u64 (min c tv))).heap[j]? = We.heap[j]? := fun j hj => Below.heap_setCell _ _ _ _ hj
        have hz := HZ.out
        have hx := HX1.out.2
        refine ⟨HX8.out.set 0 _, HRG.out.kept (hk bu (by have := HM.out.lt; omega)) (hk r (by omega)), ?_⟩
        exact ((ButS.of_below HWe.out.2.2.2).set (S := fun _ => False) (.inr (by omega)) 0 _).below (Nat.le_refl _) fun k h => h.elim
      clear hwq
      go_wp2_with fail
      go_roundw
      case rel => exact ⟨pre ++ post, _, _, rfl, rfl, HX9.out.2.1, _, HNx.out, HX9.out.1, HX9.out.2.2⟩
      case measure =>
        rw [HX9.out.2.1.left, HC1.out.left, HSP.out]
        simp

end Go.Proofs.Ytdnjoohicbdmiaa
