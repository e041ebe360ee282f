/- Package rank: Nodes' own way. -/
import Derived.Test.YthfndphngeaihaaDoorRkZa
namespace Go.Proofs.YthfndphngeaihaaDoor
open Go Go.RowKit Go.Shelf
open Go.ChangeMaps (setBlock)
set_option linter.unusedSimpArgs false
set_option linter.unusedVariables false
set_option linter.unusedSectionVars false
set_option maxRecDepth 100000

attribute [local go_sem] Oper.semAt_some

theorem ownFrom_upR {β : Type} {B B' : Nat} {I : β → World → Prop} (h : OwnFrom B I) (hB : B ≤ B') : OwnFrom B' I := fun s W W' row hs hg hr => h s W W' row hs hg (fun r e => ⟨Nat.le_trans hB (hr r e).1, (hr r e).2⟩)
/-- A neighbour and what waits for it, together. -/
def nodeV (ys : List Int) (lc : List (Int × Value)) (k : Nat) : Array Value := #[.int .u32 (atU ys k), (lk lc (atU ys k)).getD (.int .i64 0)]

set_option maxHeartbeats 4000000 in
theorem nodes1_goes (B4 B3 m : Nat) (S : Nat → Prop) (A : Option Addr) (C : Nat) (ys : List Int) (lc : List (Int × Value)) (w : World) (hlen : ys.length ≤ 140737488355328) (hB4 : B4 < w.heap.size) (hS : ∀ p, A = some p → S p.block) (hS3 : S B3) (hSm : S m) (hSw : ∀ b, S b → b < w.heap.size)
    (hc4 : w.cell? ⟨B4, 0, none⟩ = some (.slice A ys.length C)) (hc3 : w.cell? ⟨B3, 0, none⟩ = some (.map (some m))) (hm : KMap encU w m lc) (hr : RdK w A (flatU ys)) :
    GoesO Tryd.prog 40 #[.pointer (some ⟨B4, 0, none⟩), .pointer (some ⟨B3, 0, none⟩)] (fun k => nodeV ys lc k) S ys.length w := by
  intro L J Jx W hW hJ hJx hY h0
  have hcW := (hW.cell (p := ⟨B4, 0, none⟩) hB4).trans hc4
  have hWS := hW.size
  have hB4W : B4 < W.heap.size := Nat.lt_of_lt_of_le hB4 hWS
  have HR : Hid (∀ W', Below W.heap.size W W' → RdK W' A (flatU ys)) := fun W' hb => (hr.on hW).on hb
  have HM : Hid (∀ X, KeepB S W X → X.cell? ⟨B3, 0, none⟩ = some (.map (some m)) ∧ KMap encU X m lc) := fun X hk =>
    ⟨(World.cell?_of_block (a := ⟨B3, 0, none⟩) ((hk B3 hS3).trans (hW.block B3 (hSw B3 hS3)))).trans hc3, hm.kept ((hk m hSm).trans (hW.block m (hSw m hSm)))⟩
  clear hc4 hc3 hr hW hm
  refine calls_of_marks Tryd.func40 rfl ?_
  simp only [Tryd.ntmps40, List.size_toArray, List.length_cons, List.length_nil, Nat.reduceAdd, Nat.reduceSub, Array.replicate_succ, Array.replicate_zero, List.push_toArray, List.append_toArray, List.nil_append, List.cons_append]
  go_wp2
  go_step3
  go_wp2
  go_step3
  go_wp2_with fail
  refine (uvalues_any _ _ _ _).mono ?_
  rintro e w2 ⟨rfl, rfl⟩
  go_wp2_with fail
  have hB : Below W.heap.size W ((W.alloc (.cells #[.func (.yield L) #[] #[]] 82)).alloc (.cells #[.slice A ys.length C] 77)) := ((Below.refl _ _).alloc (Nat.le_refl _) _).alloc (by simp) _
  have b1 : Boxed ((W.alloc (.cells #[.func (.yield L) #[] #[]] 82)).alloc (.cells #[.slice A ys.length C] 77)) W.heap.size 82 (.func (.yield L) #[] #[]) := (Boxed.new W _ _).alloc _
  have b2 := (Boxed.new (W.alloc (.cells #[.func (.yield L) #[] #[]] 82)) 77 (.slice A ys.length C)).cell
  rw [World.size_alloc] at b2
  obtain ⟨W2, hW2⟩ : ∃ W2, W2 = (W.alloc (.cells #[.func (.yield L) #[] #[]] 82)).alloc (.cells #[.slice A ys.length C] 77) := ⟨_, rfl⟩
  have hs2 : W2.heap.size = W.heap.size + 2 := by rw [hW2]; simp
  rw [← hW2] at hB b1 b2 ⊢
  have HW2 := Lib.hid hW2
  have J0 : J 0 W2 := by rw [hW2]; exact hJ.alloc _ (hJ.alloc _ h0)
  have hK2 : KeepB S W W2 := fun b hb => hB.block b (Nat.lt_of_lt_of_le (hSw b hb) hWS)
  clear hW2
  have hIO : OwnFrom W2.heap.size (fun (k : Nat) X => J k X ∧ Boxed X W.heap.size 82 (.func (.yield L) #[] #[]) ∧ W2.heap.size ≤ X.heap.size ∧ KeepB S W X) :=
    OwnFrom.and (fun k X Y row hs hg hr => (ownFrom_upR (B := W.heap.size) (B' := W2.heap.size) hJ (by omega)) k X Y row hs hg hr) (OwnFrom.and ((boxed_own _ _ _).from _) (fun k X Y row hs hg hr => ⟨Nat.le_trans hs.1 hg.size, fun b hb => (hg.block b (by have := hSw b hb; omega) (fun e => by have := (hr b e.symm).1; have := hSw b hb; omega)).trans (hs.2 b hb)⟩))
  have hJO : OwnFrom W2.heap.size J := ownFrom_upR (B := W.heap.size) hJ (by omega)
  have hJxO : OwnFrom W2.heap.size Jx := ownFrom_upR (B := W.heap.size) hJx (by omega)
  refine wp_rangeGoesO (gf := 65) (lb := #[.pointer (some ⟨W.heap.size + 1, 0, none⟩)]) rfl ent_uvalues1
    (uvalues_goes (W.heap.size + 1) S A C ys W2 hlen (by omega) hS (fun b hb => by have := hSw b hb; omega) b2 (HR.out W2 hB)) (fun b hb => by have := hSw b hb; omega) (fun _ => rfl)
    (fun k X => J k X ∧ Boxed X W.heap.size 82 (.func (.yield L) #[] #[]) ∧ W2.heap.size ≤ X.heap.size ∧ KeepB S W X)
    (fun c k X => c = .exit 0 ∧ k < ys.length ∧ Jx k X)
    hIO (fun c => OwnFrom.and (ownFrom_pure _ (fun _ => c = .exit 0)) (OwnFrom.and (ownFrom_pure _ _) (fun k X Y row hs hg hr => hJxO k X Y row hs hg hr))) ⟨J0, b1, Nat.le_refl _, hK2⟩
    (fun k a' X => a' = { tmps := #[.func (.yield L) #[] #[], .pointer (some ⟨B4, 0, none⟩), .pointer (some ⟨B3, 0, none⟩), .pointer (some ⟨W.heap.size, 0, none⟩), .int .u32 (atU ys k), .slice A ys.length C, .func (.func 65) #[] #[.pointer (some ⟨W.heap.size + 1, 0, none⟩)], .int .u32 (atU ys k), undef, undef, undef, undef, undef, undef, undef], defers := [] })
    (fun k a' s X Y row hs hg hr => hs) ?assign ?body ?done ?stop
  case assign =>
    intro ll k X K hk hI hK
    have HI := Lib.hid hI
    have HKk := Lib.hid hK
    clear hI hK
    gi_wp2
    exact HKk.out _ _ ((KeepsOthers.refl _).from _) (fun b hb => rfl) HI.out rfl
  case body =>
    rintro ll k a' X hk hl _ ⟨hJk, hbx, hsz, hkp⟩ rfl
    have HBx := Lib.hid hbx
    have HKp := Lib.hid hkp
    have hyc := hbx.cell
    obtain ⟨fn, tmps, assign, body, hy, hR⟩ := hY k X hk hJk (by omega)
    unfold nodeV at hy
    obtain ⟨x, hx⟩ : ∃ x, x = atU ys k := ⟨_, rfl⟩
    rw [← hx] at hy ⊢
    obtain ⟨u, hu⟩ : ∃ u, u = (lk lc x).getD (.int .i64 0) := ⟨_, rfl⟩
    rw [← hu] at hy
    obtain ⟨c3, hmx⟩ := HM.out X hkp
    have hlk : (Instr.lookup 75 (.map (some m)) (.int .u32 x) false).run Tryd.prog X = .ok u X := by
      have := hmx.look keyU Tryd.underlying75 zeroI x false
      rw [if_neg (by simp), ← hu] at this
      exact this
    clear hJk hbx hkp hmx hx hu
    gi_wp2
    refine (roundIn_any hR).mono ?_
    rintro e X3 (⟨rfl, hJ3, hz3, hk3⟩ | ⟨rfl, hJx3, hz3, hk3⟩)
    · have HK3 := Lib.hid hk3
      have hbx3 : Boxed X3 W.heap.size 82 (.func (.yield L) #[] #[]) := (hk3 W.heap.size (.inr ⟨Nat.le_refl _, by omega⟩)).trans HBx.out
      have HB3 := Lib.hid hbx3
      clear hk3 hbx3 hyc hlk c3
      gi_wp2
      refine ⟨⟨hz3, fun i o' hi ho _ => ?_⟩, fun b hb => ?_, hJ3, HB3.out, by omega, fun b hb => (HK3.out b (.inl hb)).trans (HKp.out b hb)⟩
      · exact (HK3.out i (.inr ⟨by omega, (Array.getElem?_eq_some_iff.1 ho).1⟩)).trans ho
      · rcases hb with hb | hb
        · exact HK3.out b (.inl hb)
        · exact HK3.out b (.inr ⟨by omega, hb.2⟩)
    · have HK3 := Lib.hid hk3
      clear hk3 hyc hlk c3
      gi_wp2
      refine ⟨⟨⟨hz3, fun i o' hi ho _ => (HK3.out i (.inr ⟨by omega, (Array.getElem?_eq_some_iff.1 ho).1⟩)).trans ho⟩, fun b hb => ?_⟩, rfl, hk, hJx3⟩
      rcases hb with hb | hb
      · exact HK3.out b (.inl hb)
      · exact HK3.out b (.inr ⟨by omega, hb.2⟩)
  case done =>
    rintro D X hD ⟨hJk, hbx, hsz, _⟩ hK
    have HJk := Lib.hid hJk
    clear hJk hbx
    go_wp2
    refine marks_one hK (results_none rfl _ _ _) ?_
    exact ⟨⟨_, rfl⟩, .inl (hJO.putObj _ HJk.out (by omega) hK rfl)⟩
  case stop =>
    rintro D c k X hD hk ⟨rfl, hlt, hJx3⟩ hK
    have HJx := Lib.hid hJx3
    clear hJx3
    go_wp2
    refine marks_one hK (results_none rfl _ _ _) ?_
    exact ⟨⟨_, rfl⟩, .inr ⟨_, hlt, hJxO.putObj _ HJx.out (by omega) hK rfl⟩⟩

end Go.Proofs.YthfndphngeaihaaDoor
