/- Joined texts. -/
import Derived.Test.YtekeooeapiodmaaZDkV
import Derived.Test.YtekeooeapiodmaaZOwn
import Derived.Test.YtekeooeapiodmaaZRgTwo
namespace Go.Proofs.Ytekeooeapiodmaa
open Go Go.RowKit Go.Shelf
set_option linter.unusedSimpArgs false
set_option linter.unusedVariables false
set_option maxRecDepth 100000

attribute [local go_sem] Oper.semAt_some

theorem info_dkint : (Try.prog.info? 3).map (fun i => (i.zero, i.size, i.bytes)) = some (some (.int .i64 0), 1, 8) := by kernel_rfl

/-- A box of a write, laid and written. -/
theorem wr_box (x : Int × List UInt8) (hx : x.2.length = 64) (w : World) :
    (Instr.storeAt 88 (.pointer (some ⟨w.heap.size, 0, none⟩)) (.agg (wrL x).toArray)).run Try.prog (w.alloc (.cells Try.zeroCells88 88)) = .ok () ((w.alloc (.cells Try.zeroCells88 88)).setCells w.heap.size 0 (wrL x)) ∧
    RowB ((w.alloc (.cells Try.zeroCells88 88)).setCells w.heap.size 0 (wrL x)) w.heap.size (wrL x) ∧
    Below w.heap.size w ((w.alloc (.cells Try.zeroCells88 88)).setCells w.heap.size 0 (wrL x)) := by
  have hz : Try.zeroCells88.size = 65 := by kernel_rfl
  generalize Try.zeroCells88 = z at *
  have hl : (wrL x).length = 65 := wrL_len hx
  have h0 : RowB (w.alloc (.cells z 88)) w.heap.size z.toList := by
    have h := RowB.new w z.toList 88
    rw [Array.toArray_toList] at h
    exact h
  have hzl : z.toList.length = 65 := by rw [Array.length_toList, hz]
  have ht : (w.alloc (.cells z 88)).there w.heap.size 0 (wrL x).toArray.size := by
    have h := h0.there
    rw [hzl] at h
    have e : (wrL x).toArray.size = 65 := (List.size_toArray).trans hl
    rw [e]
    exact h
  have h1 : (wrL x).toArray.all (·.oneCell') = true := all_oneCell_toArray (wrL_one x)
  refine ⟨run_storeAt_mid _ w.heap.size 0 88 (wrL x).toArray ht (by rw [List.size_toArray, hl]; kernel_rfl) h1, h0.setAll _ (by rw [hl, hzl]), ?_⟩
  have h2 := (ButS.of_below (S := fun _ => False) (below_al (Below.refl w.heap.size w) (.cells z 88))).setCells (b := w.heap.size) (.inr (Nat.le_refl _)) 0 (wrL x)
  exact h2.below (Nat.le_refl _) fun _ h => h.elim

def atL (l : List (Int × List UInt8)) : List Value := l.map fun x => .int .i64 x.1

set_option maxHeartbeats 8000000 in
theorem waits1_any (S : Nat → Prop) (p b : Nat) (D : DkM) (hok : D.ok) (w : World) (hc : w.cell? ⟨b, 0, none⟩ = some (.pointer (some ⟨p, 0, none⟩))) (h : DkAt w S p D) :
    Calls Try.prog 39 #[.pointer (some ⟨b, 0, none⟩)] w fun e w' => ∃ v, e = .returned v ∧ OwnV w' w.heap.size 3 v (atL D.wt) ∧ Below w.heap.size w w' := by
  obtain ⟨m1, m2, v, f, g, q1, q2, q3, q4, q5, q6, _⟩ := h
  obtain ⟨A, C, rfl⟩ := own_form q6
  have c2 := q1.1 2 _ rfl
  have HRA : Hid (∀ w', Below w.heap.size w w' → RdW w' w'.heap.size A D.wt) := fun w' hb => (rdW_own hok.wt q6 rfl).kept (fun a ha => hb.block a.block (q6.lt a.block (by rw [ha]; rfl)).2) hb.size
  have HW64 := Lib.hid hok.wt
  have hfew := hok.few
  obtain ⟨l, hl⟩ : ∃ l, l = D.wt := ⟨_, rfl⟩
  rw [← hl] at HRA HW64 hfew c2 ⊢
  obtain ⟨n, hn⟩ : ∃ n, n = l.length := ⟨_, rfl⟩
  have HN : Hid (n = l.length ∧ n ≤ 1000000) := ⟨hn, by omega⟩
  rw [← hn] at c2
  clear hl q1 q2 q3 q4 q5 q6 hok hn hfew
  have HO0 : Hid (OwnV w w.heap.size 3 (.slice none 0 0) (atL (l.take 0))) := World.ownsRow_nil _ _ _ _
  go_enter Try.func39, Try.ntmps39
  go_wp2_with fail
  go_loopw [2, 10] (fun vv vi wr => ∃ k : Nat, k ≤ n ∧ vi = .int .i64 k ∧ Hid (OwnV wr w.heap.size 3 vv (atL (l.take k)) ∧ Below w.heap.size w wr)) (fun _ vi _ => n - (intOf vi).toNat)
  case atStart => exact ⟨0, Nat.zero_le _, rfl, HO0.out, Below.refl _ _⟩
  case round =>
    obtain ⟨k, hk, rfl, HI⟩ := hrel
    by_cases hlt : k < n
    · have hltI : (k : Int) < (n : Int) := by omega
      obtain ⟨x, hx⟩ : ∃ x, l[k]? = some x := ⟨_, List.getElem?_eq_getElem (by have := HN.out.1; omega)⟩
      have hx64 := HW64.out x (List.mem_of_getElem? hx)
      obtain ⟨gA, rfl, hgA, hrg⟩ : ∃ g, A = some ⟨g, 0, none⟩ ∧ g < wr.heap.size ∧ wr.rangeAt g (k * 65) (wrL x) := by
        rcases HRA.out wr HI.out.2 with h | ⟨g, e, hg, hc⟩
        · rw [h] at hx; simp at hx
        · exact ⟨g, e, hg, hc k x hx⟩
      have hld : (Instr.loadAt 88 (.pointer (some ⟨gA, k * 65, none⟩))).run Try.prog wr = .ok (.agg (wrL x).toArray) wr := run_loadAt_mid wr gA (k * 65) _ (wrL x) _ hrg Try.underlying88 rfl (by rw [wrL_len hx64]; kernel_rfl)
      obtain ⟨hst, hrw, hbw⟩ := wr_box x hx64 wr
      have HXx := Lib.hid hx
      have hNn := HN.out.2
      clear hrg
      go_upto_region 5 with (first | refine wpList_load rfl 88 (.tmp 12) rfl _ _ rfl hld ?_ | refine wpList_store rfl 88 (.tmp 4) (.tmp 13) rfl _ _ _ rfl rfl hst ?_)
      obtain ⟨W2, hW2⟩ : ∃ W, W = (wr.alloc (.cells Try.zeroCells88 88)).setCells wr.heap.size 0 (wrL x) := ⟨_, rfl⟩
      rw [← hW2] at hrw hbw ⊢
      have c0 : W2.cell? ⟨wr.heap.size, 0, none⟩ = some (.int .i64 x.1) := hrw.1 0 _ rfl
      clear hW2 hst hld hrw
      have hb3 : Below wr.heap.size wr (W2.alloc (.cells #[.int .i64 x.1] 3)) := below_al hbw _
      have hown3 := ownsRow_kept HI.out.1 (fun j hj => hb3.block j (World.ownsRow.lt HI.out.1 j hj).2)
      have hLk : (atL (l.take k)).length ≤ 1000000 := by simp [atL]; omega
      have hm1 : (atL (l.take k)).length + [Value.int .i64 x.1].length ≤ maxLen := by simp only [List.length_singleton]; unfold maxLen; omega
      have hm2 : ((atL (l.take k)).length + [Value.int .i64 x.1].length) * 8 ≤ 140737488355328 := by simp only [List.length_singleton]; omega
      have hsz3 : w.heap.size ≤ (W2.alloc (.cells #[.int .i64 x.1] 3)).heap.size := Nat.le_trans HI.out.2.size hb3.size
      go_wp2_with (at_builtin; refine wpList_app _ rfl _ _ 82 rfl w.heap.size 3 (.int .i64 0) 8 Try.underlying82 info_dkint rfl _ _ rfl hown3 _ 1 1 [.int .i64 x.1] rfl rfl (src_one _ _ _) (by simp [Value.oneCell']) hm1 hm2 hsz3 ?_; intro v' w4 hp)
      have hk1 : k + 1 ≤ n := hlt
      have hms : n - (intOf (.int .i64 ((k : Int) + 1))).toNat < n - (intOf (.int .i64 (k : Int))).toNat := by simp only [intOf]; omega
      have hb4 := (HI.out.2.trans (hb3.mono HI.out.2.size)).trans (hp.below hown3 hsz3)
      have ho4 : OwnV w4 w.heap.size 3 v' (atL (l.take (k + 1))) := by
        have e : atL (l.take (k + 1)) = atL (l.take k) ++ [.int .i64 x.1] := by
          rw [List.take_add_one, HXx.out, atL, List.map_append]
          rfl
        rw [e]
        exact hp.1
      go_roundw
      case rel => exact ⟨k + 1, hk1, rfl, ho4, hb4⟩
      case measure => exact hms
    · obtain rfl : k = n := by omega
      have hd : l.take k = l := by rw [HN.out.1, List.take_length]
      rw [hd] at HI
      clear hd
      go_wp2_with fail
      go_ret
      exact ⟨_, rfl, HI.out.1, HI.out.2⟩
end Go.Proofs.Ytekeooeapiodmaa

namespace Go.Proofs.Ytekeooeapiodmaa
open Go Go.RowKit Go.Shelf
set_option linter.unusedSimpArgs false
set_option linter.unusedVariables false
set_option maxRecDepth 100000

attribute [local go_sem] Oper.semAt_some

theorem ent_waits1 : ∀ args w, (callFunc 39 args).run Try.prog w = .ok (.enter 39 args) w := enters_of Try.func39 (by kernel_rfl) rfl

/-- What Waits answers: a function with a box that has the places. -/
def WaitsP (D : DkM) (w : World) (e : Ending) (w' : World) : Prop :=
  ∃ b v, e = .returned (.func (.func 40) #[] #[.pointer (some ⟨b, 0, none⟩)]) ∧ w'.cell? ⟨b, 0, none⟩ = some v ∧ OwnV w' w.heap.size 3 v (atL D.wt) ∧ w.heap.size ≤ b ∧ b < w'.heap.size ∧ Below w.heap.size w w'

set_option maxHeartbeats 4000000 in
theorem waits_any (S : Nat → Prop) (p : Nat) (D : DkM) (hok : D.ok) (w : World) (h : DkAt w S p D) :
    Calls Try.prog 15 #[.pointer (some ⟨p, 0, none⟩)] w (WaitsP D w) := by
  have hmf : ∀ (fn : Fn) (first cap : Array Value) (w : World), (Instr.makeFunc fn first cap).run Try.prog w = .ok (.func fn first cap) w := fun _ _ _ _ => rfl
  obtain ⟨W, hW⟩ : ∃ W, W = w.alloc (.cells #[.pointer (some ⟨p, 0, none⟩)] 23) := ⟨_, rfl⟩
  have HB0 : Hid (Below w.heap.size w W) := by rw [hW]; exact below_al (Below.refl _ _) _
  have HZ : Hid (w.heap.size + 1 = W.heap.size) := by rw [Hid, hW]; simp
  have HX : Hid (∀ w', Below W.heap.size W w' → w'.cell? ⟨w.heap.size, 0, none⟩ = some (.pointer (some ⟨p, 0, none⟩))) := fun w' h => by rw [hW] at h; exact box_at h 0
  have HO := Lib.hid hok
  have HD0 : Hid (DkAt W S p D) := h.on HB0.out
  have x0 := HX.out W (Below.refl _ _)
  have HW := Lib.hid hW
  rw [hW] at x0
  clear h hok hW
  go_enter Try.func15, Try.ntmps15
  go_wp2_with fail
  rw [← HW.out, HZ.out]
  clear x0
  refine (there_at _ _ W HD0.out.n).mono ?_
  rintro e w1 ⟨rfl, hb1⟩
  rw [unE_there HO.out.n1]
  have HB1 := Lib.hid hb1
  have HD1 := Lib.hid (HD0.out.on hb1)
  have hx1 := HX.out w1 hb1
  clear hb1
  go_wp2_with fail
  refine told_yes3 _ _ _ w1 _ ent_waits1 ((waits1_any S p w.heap.size D HO.out w1 hx1 HD1.out).mono ?_)
  rintro e w2 ⟨v, rfl, hv, hb2⟩
  have HB2 := Lib.hid (below_on HB1.out hb2)
  have HV := Lib.hid hv
  obtain ⟨A, n, C, rfl⟩ : ∃ A n C, v = .slice A n C := by
    rcases hv.2 with ⟨e, _⟩ | ⟨g, cap, cur, e, _⟩
    · exact ⟨_, _, _, e⟩
    · exact ⟨_, _, _, e⟩
  refine ⟨_, rfl, ?_⟩
  clear hv hb2 hx1
  obtain ⟨W3, hW3⟩ : ∃ W, W = w2.alloc (.cells #[.slice A n C] 82) := ⟨_, rfl⟩
  have hb3 : Below w2.heap.size w2 W3 := by rw [hW3]; exact below_al (Below.refl _ _) _
  have hc3 : W3.cell? ⟨w2.heap.size, 0, none⟩ = some (.slice A n C) := by rw [hW3]; exact box_at (Below.refl _ _) 0
  have hs3 : w2.heap.size < W3.heap.size := by rw [hW3]; simp
  have HB3 := Lib.hid (below_on HB2.out hb3)
  have HV3 : Hid (OwnV W3 w1.heap.size 3 (.slice A n C) (atL D.wt)) := ownsRow_kept HV.out (fun j hj => hb3.block j (World.ownsRow.lt HV.out j hj).2)
  have HC3 := Lib.hid hc3
  have HS3 := Lib.hid hs3
  have HW3 := Lib.hid hW3
  clear hb3 hc3 hs3 hW3
  go_wp2_with fail
  rw [← HW3.out]
  go_ret
  have z1 := HB0.out.size
  have z2 := HB1.out.size
  have z3 := HB2.out.size
  exact ⟨_, _, rfl, HC3.out, HV3.out.base (by omega), by omega, HS3.out, HB0.out.trans (HB3.out.mono HB0.out.size)⟩

end Go.Proofs.Ytekeooeapiodmaa

namespace Go.Proofs.Ytekeooeapiodmaa
open Go Go.RowKit Go.Shelf
set_option linter.unusedSimpArgs false
set_option linter.unusedVariables false
set_option maxRecDepth 100000

attribute [local go_sem] Oper.semAt_some

theorem allI_any (a : Option Addr) (n c : Nat) (w : World) :
    Calls Try.prog 41 #[.slice a n c] w fun e w' => e = .returned (.func (.func 63) #[] #[.pointer (some ⟨w.heap.size, 0, none⟩)]) ∧ w' = w.alloc (.cells #[.slice a n c] 82) := by
  have hmf : ∀ (fn : Fn) (first cap : Array Value) (w : World), (Instr.makeFunc fn first cap).run Try.prog w = .ok (.func fn first cap) w := fun _ _ _ _ => rfl
  go_enter Try.func41, Try.ntmps41
  go_wp2
  go_ret
  exact ⟨rfl, rfl⟩

/-- Places in a row. -/
def PlAt (w : World) (S : Nat → Prop) (A : Option Addr) (N : Nat) (zs : Nat → Int) : Prop := ∀ k, k < N → ∃ g, A = some ⟨g, 0, none⟩ ∧ S g ∧ g < w.heap.size ∧ w.cell? ⟨g, k, none⟩ = some (.int .i64 (zs k))
theorem PlAt.below {w w' : World} {S : Nat → Prop} {A : Option Addr} {N : Nat} {zs : Nat → Int} (h : PlAt w S A N zs) (hb : Below w.heap.size w w') : PlAt w' S A N zs := fun k hk => by
  obtain ⟨g, e, hs, hg, hc⟩ := h k hk
  exact ⟨g, e, hs, Nat.lt_of_lt_of_le hg hb.size, (hb.cell (p := ⟨g, k, none⟩) hg).trans hc⟩

set_option maxHeartbeats 2000000 in
theorem allI_goes (Bs : Nat) (S : Nat → Prop) (A : Option Addr) (C N : Nat) (zs : Nat → Int) (w : World) (hlen : N ≤ 140737488355328) (hBs : Bs < w.heap.size) (hSw : ∀ b, S b → b < w.heap.size)
    (hc : w.cell? ⟨Bs, 0, none⟩ = some (.slice A N C)) (hr : PlAt w S A N zs) :
    GoesO Try.prog 63 #[.pointer (some ⟨Bs, 0, none⟩)] (fun k => #[.int .i64 (k : Nat), .int .i64 (zs k)]) S N w := by
  intro L J Jx W hW hJ hJx hY h0
  have hcW := (hW.cell (p := ⟨Bs, 0, none⟩) hBs).trans hc
  have hWS := hW.size
  have HR : Hid (PlAt W S A N zs) := hr.below hW
  clear hc hr hW
  refine (callsIn_wide (n := 10)).1 (callsIn_of_wp Try.func63 rfl trivial ?_ rfl)
  simp only [Try.ntmps63, List.size_toArray, List.length_cons, List.length_nil, Nat.reduceAdd, Nat.reduceSub, Array.replicate_succ, Array.replicate_zero, List.push_toArray, List.append_toArray, List.nil_append, List.cons_append]
  gi_wp2
  gi_loopw [7] (fun i wr => ∃ k : Nat, k ≤ N ∧ i = .int .i64 k ∧ J k wr ∧ KeepB S W wr ∧ W.heap.size ≤ wr.heap.size) (fun i _ => N - (intOf i).toNat)
  case atStart => exact ⟨0, Nat.zero_le _, rfl, h0, KeepB.refl _ _, Nat.le_refl _⟩
  case round =>
    obtain ⟨k, hk, rfl, hJs, hnx, hsz⟩ := hrel
    by_cases hlt : k < N
    · obtain ⟨g, rfl, hSg, hg, c0⟩ := HR.out k hlt
      have hblk := hnx g hSg
      have x0 := (World.cell?_of_block (a := ⟨g, k, none⟩) hblk).trans c0
      obtain ⟨fn, tmps, assign, body, hy, hR⟩ := hY k wr hlt hJs hsz
      have HBK := Lib.hid hnx
      have HSZ := Lib.hid hsz
      clear c0 hblk hnx
      gi_wp2
      refine hR.mono ?_
      rintro e W3 (⟨rfl, hJ3, hz3, hk3⟩ | ⟨rfl, hJx3, _, _⟩)
      · have HBK3 : Hid (KeepB S W W3) := fun b hb => (hk3 b (.inl hb)).trans (HBK.out b hb)
        have HSZ3 : Hid (W.heap.size ≤ W3.heap.size) := Nat.le_trans HSZ.out hz3
        clear hk3 hz3
        gi_wp2
        go_roundw
        case rel => exact ⟨k + 1, by omega, by simp, hJ3, HBK3.out, HSZ3.out⟩
        case measure => simp [intOf]; omega
      · gi_wp2
        refine bodyPost_ret (results_none rfl _ _ _) rfl ?_
        exact ⟨⟨_, rfl⟩, .inr ⟨k, hlt, hJx3⟩⟩
    · obtain rfl : k = N := by omega
      gi_wp2
      go_end0
      exact ⟨⟨_, rfl⟩, .inl hJs⟩

theorem ownFrom_upD {β : Type} {B B' : Nat} {I : β → World → Prop} (h : OwnFrom B I) (hB : B ≤ B') : OwnFrom B' I := fun s W W' row hs hg hr => h s W W' row hs hg (fun r e => ⟨Nat.le_trans hB (hr r e).1, (hr r e).2⟩)

set_option maxHeartbeats 8000000 in
theorem waits2_goes (b : Nat) (S : Nat → Prop) (A : Option Addr) (C N : Nat) (zs : Nat → Int) (w : World) (hlen : N ≤ 140737488355328) (hb : b < w.heap.size) (hSw : ∀ b, S b → b < w.heap.size)
    (hc : w.cell? ⟨b, 0, none⟩ = some (.slice A N C)) (hr : PlAt w S A N zs) :
    GoesO Try.prog 40 #[.pointer (some ⟨b, 0, none⟩)] (fun k => #[.int .i64 (k : Nat), .int .i64 (zs k)]) S N w := by
  intro L J Jx W hW hJ hJx hY h0
  have hcW := (hW.cell (p := ⟨b, 0, none⟩) hb).trans hc
  have hWS := hW.size
  have HR : Hid (PlAt W S A N zs) := hr.below hW
  have hbW : b < W.heap.size := Nat.lt_of_lt_of_le hb hWS
  clear hc hr hW
  refine calls_of_marks Try.func40 rfl ?_
  simp only [Try.ntmps40, List.size_toArray, List.length_cons, List.length_nil, Nat.reduceAdd, Nat.reduceSub, Array.replicate_succ, Array.replicate_zero, List.push_toArray, List.append_toArray, List.nil_append, List.cons_append]
  go_wp2
  go_step3
  go_wp2
  go_step3
  go_wp2_with (go_at_call 41; refine (allI_any _ _ _ _).mono ?_; rintro e w2 ⟨rfl, rfl⟩)
  have hB : Below W.heap.size W ((W.alloc (.cells #[.func (.yield L) #[] #[]] 90)).alloc (.cells #[.slice A N C] 82)) := ((Below.refl _ _).alloc (Nat.le_refl _) _).alloc (by simp) _
  have b1 : Boxed ((W.alloc (.cells #[.func (.yield L) #[] #[]] 90)).alloc (.cells #[.slice A N C] 82)) W.heap.size 90 (.func (.yield L) #[] #[]) := (Boxed.new W _ _).alloc _
  have b2 := (Boxed.new (W.alloc (.cells #[.func (.yield L) #[] #[]] 90)) 82 (.slice A N C)).cell
  rw [World.size_alloc] at b2
  obtain ⟨W2, hW2⟩ : ∃ W2, W2 = (W.alloc (.cells #[.func (.yield L) #[] #[]] 90)).alloc (.cells #[.slice A N C] 82) := ⟨_, rfl⟩
  have hs2 : W2.heap.size = W.heap.size + 2 := by rw [hW2]; simp
  rw [← hW2] at hB b1 b2 ⊢
  have J0 : J 0 W2 := by rw [hW2]; exact hJ.alloc _ (hJ.alloc _ h0)
  clear hW2
  have hIO : OwnFrom W2.heap.size (fun (k : Nat) X => J k X ∧ Boxed X W.heap.size 90 (.func (.yield L) #[] #[]) ∧ W2.heap.size ≤ X.heap.size) :=
    OwnFrom.and (ownFrom_upD (B := W.heap.size) (B' := W2.heap.size) hJ (by omega)) (OwnFrom.and ((boxed_own _ _ _).from _) (fun k X Y row hs hg hr => Nat.le_trans hs hg.size))
  have hJO : OwnFrom W2.heap.size J := ownFrom_upD (B := W.heap.size) hJ (by omega)
  have hJxO : OwnFrom W2.heap.size Jx := ownFrom_upD (B := W.heap.size) hJx (by omega)
  refine wp_rangeGoesO_at2 3 4 (fun k => .int .i64 (k : Nat)) (fun k => .int .i64 (zs k)) (gf := 63) (lb := #[.pointer (some ⟨W.heap.size + 1, 0, none⟩)]) rfl (enters_of Try.func63 (by kernel_rfl) rfl)
    (allI_goes (W.heap.size + 1) S A C N zs W2 hlen (by omega) (fun b hb => by have := hSw b hb; omega) b2 (HR.out.below hB)) (fun b hb => by have := hSw b hb; omega)
    (fun k X => J k X ∧ Boxed X W.heap.size 90 (.func (.yield L) #[] #[]) ∧ W2.heap.size ≤ X.heap.size)
    (fun c k X => c = .exit 0 ∧ Jx k X)
    hIO (fun c => OwnFrom.and (ownFrom_pure _ (fun _ => c = .exit 0)) hJxO) ⟨J0, b1, Nat.le_refl _⟩ ?assign ?body ?done ?stop
  case assign =>
    intro ll k X K hK
    gi_wp2
    exact hK
  case body =>
    rintro ll k X hk hl _ ⟨hJk, hbx, hsz⟩
    have HJk := Lib.hid hJk
    have HBx := Lib.hid hbx
    have hyc := hbx.cell
    obtain ⟨fn, tmps, assign, body, hy, hR⟩ := hY k X hk HJk.out (by omega)
    clear hJk hbx
    refine wpIn_block ?_
    gi_wp2
    refine (roundIn_any hR).mono ?_
    rintro e X3 (⟨rfl, hJ3, hz3, hk3⟩ | ⟨rfl, hJx3, hz3, hk3⟩)
    · have HK3 := Lib.hid hk3
      have hbx3 : Boxed X3 W.heap.size 90 (.func (.yield L) #[] #[]) := (hk3 W.heap.size (.inr ⟨Nat.le_refl _, by omega⟩)).trans HBx.out
      have HB3 := Lib.hid hbx3
      clear hk3 hbx3 hyc
      gi_wp2
      refine ⟨⟨hz3, fun i o' hi ho _ => ?_⟩, fun b hb => ?_, hJ3, HB3.out, by omega⟩
      · exact (HK3.out i (.inr ⟨by omega, (Array.getElem?_eq_some_iff.1 ho).1⟩)).trans ho
      · rcases hb with hb | hb
        · exact HK3.out b (.inl hb)
        · exact HK3.out b (.inr ⟨by omega, hb.2⟩)
    · have HK3 := Lib.hid hk3
      clear hk3 hyc
      gi_wp2
      refine ⟨⟨⟨hz3, fun i o' hi ho _ => (HK3.out i (.inr ⟨by omega, (Array.getElem?_eq_some_iff.1 ho).1⟩)).trans ho⟩, fun b hb => ?_⟩, rfl, hJx3⟩
      rcases hb with hb | hb
      · exact HK3.out b (.inl hb)
      · exact HK3.out b (.inr ⟨by omega, hb.2⟩)
  case done =>
    rintro D X hD ⟨hJk, hbx, _⟩ hK
    have HJk := Lib.hid hJk
    clear hJk hbx
    go_wp2
    refine marks_one hK (results_none rfl _ _ _) ?_
    exact ⟨⟨_, rfl⟩, .inl (hJO.putObj _ HJk.out (by omega) hK rfl)⟩
  case stop =>
    rintro D c k X hD hk ⟨rfl, hJx3⟩ hK
    have HJx := Lib.hid hJx3
    clear hJx3
    go_wp2
    refine marks_one hK (results_none rfl _ _ _) ?_
    exact ⟨⟨_, rfl⟩, .inr ⟨_, hk, hJxO.putObj _ HJx.out (by omega) hK rfl⟩⟩

end Go.Proofs.Ytekeooeapiodmaa
