/- maps.Keys of a map of numbers: an iterator in no known order. -/
import Derived.Test.YthfndphngeaihaaDoorMapWI
import Derived.Test.YthfndphngeaihaaDoorRkT
namespace Go.Proofs.YthfndphngeaihaaDoor
open Go Go.RowKit Go.Shelf
open Go.ChangeMaps (setBlock)
set_option linter.unusedSimpArgs false
set_option linter.unusedVariables false
set_option linter.unusedSectionVars false
set_option maxRecDepth 100000

attribute [local go_sem] Oper.semAt_some

def encU (x : Int) : Value := .int .u32 x
theorem keyU : KeyK Tryd.prog 23 encU := KeyK.int .u32 Tryd.underlying23

theorem keys_any (b : Nat) (w : World) :
    Calls Tryd.prog 39 #[.map (some b)] w fun e w' => e = .returned (.func (.func 64) #[] #[.pointer (some ⟨w.heap.size, 0, none⟩)]) ∧ w' = w.alloc (.cells #[.map (some b)] 75) := by
  have hmf : ∀ (fn : Fn) (first cap : Array Value) (w : World), (Instr.makeFunc fn first cap).run Tryd.prog w = .ok (.func fn first cap) w := fun _ _ _ _ => rfl
  go_enter Tryd.func39, Tryd.ntmps39
  go_wp2
  go_ret
  exact ⟨rfl, rfl⟩
theorem ent_keys1 : ∀ args w, (callFunc 64 args).run Tryd.prog w = .ok (.enter 64 args) w := enters_of Tryd.func64 (by kernel_rfl) rfl

/-- One of those that are left comes, the others stay. -/
def stepK (t : List (Int × Value)) (v : Array Value) (t' : List (Int × Value)) : Prop := ∃ (pre post : List (Int × Value)) (k : Int) (u : Value), t = pre ++ (k, u) :: post ∧ v = #[.int .u32 k] ∧ t' = pre ++ post

set_option maxHeartbeats 4000000 in
theorem keys_goesR (bl b : Nat) (l : List (Int × Value)) (S : Nat → Prop) (w : World) (h : KMap encU w b l) (hb : S b) (hSw : ∀ b, S b → b < w.heap.size) (hbl : bl < w.heap.size) (hc : w.cell? ⟨bl, 0, none⟩ = some (.map (some b))) :
    GoesR Tryd.prog 64 #[.pointer (some ⟨bl, 0, none⟩)] stepK (fun t => t = []) S l w := by
  intro L J Jx M W hW hJ hJx hM hJM hY h0
  have hcW := (hW.cell (p := ⟨bl, 0, none⟩) hbl).trans hc
  have hm : KMap encU W b l := h.kept (hW.block b h.lt)
  have hWS := hW.size
  have HSw : Hid (∀ b, S b → b < W.heap.size) := fun b hb => Nat.lt_of_lt_of_le (hSw b hb) hWS
  have HSb : Hid (S b) := hb
  have HY := Lib.hid hY
  clear hc h hW hSw hb hY hbl
  refine (callsIn_wide (n := 10)).1 (callsIn_of_wp Tryd.func64 rfl trivial ?_ rfl)
  simp only [Tryd.ntmps64, List.size_toArray, List.length_cons, List.length_nil, Nat.reduceAdd, Nat.reduceSub, Array.replicate_succ, Array.replicate_zero, List.push_toArray, List.append_toArray, List.nil_append, List.cons_append]
  gi_wp2_with (first
    | (gi_at_range; refine wpListIn_range_K _ rfl _ 75 rfl _ _ Tryd.underlying75 b l rfl hm ?_; intro o7 hrg hcl)
    | fail)
  go_frame
  obtain ⟨r, hr⟩ : ∃ r, r = W.heap.size := ⟨_, rfl⟩
  obtain ⟨W7, hW7⟩ : ∃ X, X = W.alloc o7 := ⟨_, rfl⟩
  rw [← hW7, ← hr] at hrg ⊢
  have hg7 : W.grownBy W7 none := by rw [hW7]; exact World.grownBy_alloc _ _ _
  have hJ7 : J l W7 := hJ _ W W7 none h0 hg7 (fun r e => by cases e)
  have hM7 : ¬ M W7 r := fun hm => by
    have := hJM _ _ h0 _ (hM W W7 none (Nat.le_refl _) hg7 (fun r e => by cases e) _ hm)
    omega
  have hz7 : W7.heap.size = r + 1 := by rw [hW7, hr]; simp
  have HB7 : Hid (KeepB S W W7) := fun b hb => hg7.block b (HSw.out b hb) (fun e => by cases e)
  have HS7 : Hid ((J l W7 ∧ KeepB S W W7 ∧ W.heap.size ≤ W7.heap.size ∧ ¬ M W7 r) ∧ r = W.heap.size) := ⟨⟨hJ7, HB7.out, by omega, hM7⟩, hr⟩
  have HR7 := Lib.hid hrg
  have HJ := Lib.hid hJ
  have HM := Lib.hid hM
  clear hrg hr hW7 hg7 hJ7 hM7 hz7 hcl h0 hm hcW hJ hM hJx hJM
  gi_loopw [6] (fun _ wr => ∃ todo : List (Int × Value), RngK encU wr b r l todo ∧ Hid (J todo wr ∧ KeepB S W wr ∧ W.heap.size ≤ wr.heap.size ∧ ¬ M wr r)) (fun _ wr => wr.rangeLeft b r)
  case atStart => exact ⟨l, HR7.out, HS7.out.1⟩
  case round =>
    obtain ⟨todo, c1, HI⟩ := hrel
    have HC1 := Lib.hid c1
    gi_wp2_with (first
      | (gi_at_next; refine wpListIn_next_K _ rfl _ rfl _ keyU b r l todo rfl c1 ?_ ?_)
      | fail)
    · intro ht
      have HT := Lib.hid ht
      clear ht c1
      gi_wp2
      go_end0
      exact ⟨⟨_, rfl⟩, .inl ⟨todo, HT.out, HI.out.1⟩⟩
    · intro k u w1 o1 pre post hsp hw1 hrg1 hen
      obtain ⟨We, hWe⟩ : ∃ X, X = setBlock w1 r o1 := ⟨_, rfl⟩
      rw [← hWe] at hrg1 ⊢
      obtain ⟨i1, i2, i3, i4⟩ := HI.out
      have hrl := HC1.out.rlt
      have hw1h : w1.heap = wr.heap ∧ J todo w1 ∧ ∀ b, M w1 b → M wr b := by
        rcases hw1 with rfl | rfl
        · exact ⟨rfl, i1, fun _ h => h⟩
        · have hg : wr.grownBy wr.drew none := ⟨rfl, rfl, rfl, Nat.le_refl _, fun _ _ _ => rfl⟩
          exact ⟨rfl, HJ.out _ wr _ none i1 hg (fun r e => by cases e), fun b hm => HM.out wr _ none i3 hg (fun r e => by cases e) b hm⟩
      have hg : w1.grownBy We (some r) := by rw [hWe]; exact grownBy_setBlock _ _ _
      have hro : ∀ q, some r = some q → W.heap.size ≤ q ∧ ∃ o : Obj, w1.heap[q]? = some o ∧ o.isCells = false := fun q e => by
        cases e
        obtain ⟨o, ho⟩ : ∃ o, wr.heap[r]? = some o := ⟨wr.heap[r]'hrl, Array.getElem?_eq_getElem hrl⟩
        exact ⟨by have := HS7.out.2; omega, o, by rw [hw1h.1]; exact ho, HC1.out.notCells o ho⟩
      have hJe : J todo We := HJ.out _ w1 We (some r) hw1h.2.1 hg hro
      have hze : We.heap.size = wr.heap.size := by rw [hWe, setBlock_size, hw1h.1]
      have hMe : ¬ M We r := fun hm => i4 (hw1h.2.2 r (HM.out w1 We (some r) (by rw [hw1h.1]; exact i3) hg hro r hm))
      have hke : ∀ j, j ≠ r → We.heap[j]? = wr.heap[j]? := fun j hj => by rw [hWe, setBlock_block _ _ _ _ hj, hw1h.1]
      have hbr : b ≠ r := fun e => by have := HSw.out b HSb.out; have := HS7.out.2; omega
      have hro1 : We.heap[r]? = some o1 := by rw [hWe]; exact heap_setBlock (by rw [hw1h.1]; exact hrl) o1
      have he := hen We (hke b hbr) hro1
      unfold encU at he
      obtain ⟨fn, tmps, assign, body, hy, hR⟩ := HY.out todo _ (pre ++ post) We ⟨pre, post, k, u, hsp, rfl, rfl⟩ hJe (by omega)
      have HRG := Lib.hid hrg1
      have HSP := Lib.hid hsp
      have HE : Hid (We.heap.size = wr.heap.size ∧ ¬ M We r ∧ (∀ j, j ≠ r → We.heap[j]? = wr.heap[j]?) ∧ KeepB S W wr ∧ W.heap.size ≤ wr.heap.size ∧ r < wr.heap.size) := ⟨hze, hMe, hke, i2, i3, hrl⟩
      clear hen hrg1 hsp hw1 hw1h hWe hg hro hJe hze hMe hke hbr hro1 i1 i2 i3 i4 hrl c1 w1
      gi_wp2
      refine hR.mono ?_
      rintro e W3 (⟨rfl, hJ3, hz3, hk3⟩ | ⟨rfl, hJx3, _, _⟩)
      · have HJ3 := Lib.hid hJ3
        have HK3 := Lib.hid hk3
        have HZ3 := Lib.hid hz3
        clear hJ3 hk3 hz3 hR hy
        gi_wp2
        obtain ⟨e1, e2, e3, e4, e5, e6⟩ := HE.out
        have hz3 := HZ3.out
        have hrW := HS7.out.2
        have hr3 : RngK encU W3 b r l (pre ++ post) := HRG.out.kept (HK3.out.1 b (.inl HSb.out)) (HK3.out.1 r (.inr ⟨by omega, by omega, e2⟩))
        go_roundw
        case rel =>
          refine ⟨pre ++ post, hr3, HJ3.out, fun j hj => ?_, by omega, fun hm => e2 (HK3.out.2 r (by omega) hm)⟩
          have := HSw.out j hj
          exact ((HK3.out.1 j (.inl hj)).trans (e3 j (by omega))).trans (e4 j hj)
        case measure =>
          rw [hr3.left, HC1.out.left, HSP.out]
          simp
      · have HJx3 := Lib.hid hJx3
        clear hJx3 hR hy
        gi_wp2
        refine bodyPost_ret (results_none rfl _ _ _) rfl ?_
        exact ⟨⟨_, rfl⟩, .inr ⟨_, HJx3.out⟩⟩

end Go.Proofs.YthfndphngeaihaaDoor
