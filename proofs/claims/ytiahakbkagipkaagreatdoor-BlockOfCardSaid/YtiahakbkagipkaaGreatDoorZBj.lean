/- Joined texts. -/
import Derived.Test.YtiahakbkagipkaaGreatDoorZMe
import Derived.OrdersIn
import Derived.AtR
import Derived.Test.YtiahakbkagipkaaGreatDoorZBi
set_option maxHeartbeats 8000000
set_option linter.unusedSimpArgs false
set_option linter.unusedVariables false
set_option maxRecDepth 100000
namespace Go.Proofs.YtiahakbkagipkaaGreatDoor
open Go Go.RowKit Go.Shelf

section
variable {F : Fence} {n : Nat} {P : Program} {ops : Array Oper} {Q : Exit → Act → World → Prop} {md : Region.Mode} {S : World → Prop} {T : Nat}

def YieldsFi (P : Program) (ops : Array Oper) (S : World → Prop) (o : Oper) (v : Value) (a : Act) : Prop := YieldsIf P ops S o v a ∧ ∀ w, o.about P w a.eval = none

def wpAnyTI (F : Fence) (n : Nat) (P : Program) (md : Region.Mode) (ops : Array Oper) (Q : Exit → Act → World → Prop) (S : World → Prop) (T : Nat) : Nat → Array Bool → Act → World → Prop
 | 0, listed, a, w => Region.ready md ops listed = [] ∧ Q .normal a w
 | fuel + 1, listed, a, w =>
  (Region.ready md ops listed = [] → Q .normal a w) ∧
  ∀ i ∈ Region.ready md ops listed, wpOpIn F n P ops Q i (fun a' w' => (i < T → S w') ∧ wpAnyTI F n P md ops Q S T fuel (listed.setIfInBounds i true) a' w') a w

theorem wpAnyIn_of_TI : ∀ (fuel : Nat) (listed : Array Bool) (a : Act) (w : World), wpAnyTI F n P md ops Q S T fuel listed a w → wpAnyIn F n P md ops Q fuel listed a w
 | 0, _, _, _, h => h
 | fuel + 1, _, _, _, h => ⟨h.1, fun i hi => wpOpIn_mono (fun a' w' h' => wpAnyIn_of_TI fuel _ a' w' h'.2) (h.2 i hi)⟩

theorem YieldsFi.wpOpIn {i : Nat} {o : Oper} {v : Value} {a : Act} (hnd : ∀ c, o.op ≠ .defer c) (hi : ops[i]? = some o) (hy : YieldsFi P ops S o v a)
  {K : Act → World → Prop} {w : World} (hS : S w) (h : K (a.put o.dst v) w) : wpOpIn F n P ops Q i K a w := by
 unfold Go.wpOpIn
 simp only [hi]
 have hab : ∀ f, o.about P w a.eval = some f → F.fn f := fun f hf => by rw [hy.2 w] at hf; cases hf
 rcases hy.1 with ⟨hw, hv⟩ | ⟨hw, rfl⟩
 ·simp only [hw, if_true, Oper.wpIn, Oper.semAt_eq _ _ _ hnd, hv w hS, Oper.uponIn]
  exact ⟨hab, h⟩
 ·simp only [hw, Bool.false_eq_true, if_false]
  exact ⟨hab, h⟩

theorem YieldsFi.same {o : Oper} {v : Value} {a a' : Act} (hy : YieldsFi P ops S o v a) (he : execOp a'.eval o = execOp a.eval o)
  (hw : Region.wanted o (yielded ops a'.tmps) = Region.wanted o (yielded ops a.tmps)) (hb : ∀ w, o.about P w a'.eval = o.about P w a.eval) : YieldsFi P ops S o v a' :=
 ⟨hy.1.of_same he hw, fun w => by rw [hb w]; exact hy.2 w⟩

theorem wpOpIn_putFi {j : Nat} {oi oj : Oper} {v : Value} (hndj : ∀ c, oj.op ≠ .defer c) (hj : ops[j]? = some oj) (hap : oi.apart ops oj = true)
  (hsi : ∀ cs b, oi.op ≠ .select cs b) (hsj : ∀ cs b, oj.op ≠ .select cs b)
  (hQ : ∀ c a w, Q (.panic c) (a.put oi.dst v) w → Q (.panic c) a w) {K : Act → World → Prop} {a : Act} {w : World}
  (hy : YieldsFi P ops S oi v a) (h : wpOpIn F n P ops Q j K (a.put oi.dst v) w) :
  wpOpIn F n P ops Q j (fun a' w' => YieldsFi P ops S oi v a' ∧ K (a'.put oi.dst v) w') a w := by
 obtain ⟨h1, h2, h3⟩ := Oper.apart_spec hap
 have keep : ∀ (a : Act), YieldsFi P ops S oi v a → ∀ u, YieldsFi P ops S oi v (a.put oj.dst u) := fun a hy u =>
  hy.same (execOp_put oi hsi a oj.dst u h3) (wanted_put oi a oj.dst u h3) (fun w => about_put oi w a oj.dst u h3)
 unfold Go.wpOpIn at *
 simp only [hj] at *
 rw [wanted_put oj a oi.dst v h1, about_put oj w a oi.dst v h1] at h
 split
 ·rename_i hw
  simp only [hw, if_true] at h
  unfold Oper.wpIn at *
  rw [about_put oj w a oi.dst v h1] at h
  refine ⟨h.1, ?_⟩
  have h := h.2
  rw [Oper.semAt_eq _ _ _ hndj, execOp_put oj hsj a oi.dst v h1] at h
  rw [Oper.semAt_eq _ _ _ hndj]
  generalize (execOp a.eval oj).run P w = r at *
  cases r with
  | ok x w' =>
   cases x <;> simp only [Oper.uponIn] at h ⊢
   case value u => exact ⟨keep a hy u, by rw [← Act.put_comm a v u h2]; exact h⟩
   case skip => exact ⟨keep a hy _, by rw [← Act.put_comm a v undef h2]; exact h⟩
   case defer d =>
    have keepD : YieldsFi P ops S oi v { a with defers := d :: a.defers } := hy.same rfl rfl (fun _ => rfl)
    refine ⟨keep _ keepD _, ?_⟩
    rw [← Act.put_comm _ v undef h2, ← Act.put_defers]
    exact h
   case enter f args =>
    refine ⟨h.1, CallsIn.mono h.2 fun e w'' he => ?_⟩
    cases e with
    | returned u => exact ⟨keep a hy u, by rw [← Act.put_comm a v u h2]; exact he⟩
    | panicked c => exact hQ _ _ _ he
    | outgrown => exact he
   case row row args => exact ⟨h.1, RowsIn.mono h.2 fun u w'' he => ⟨keep a hy u, by rw [← Act.put_comm a v u h2]; exact he⟩⟩
   case round l f tmps assign body =>
    refine ⟨h.1, RoundIn.mono h.2 fun e w'' he => ?_⟩
    cases e with
    | returned u => exact ⟨keep a hy u, by rw [← Act.put_comm a v u h2]; exact he⟩
    | panicked c => exact hQ _ _ _ he
    | outgrown => exact he
  | halt x w' =>
   cases x <;> simp only [Oper.uponIn] at h ⊢
   case panic u => exact hQ _ _ _ h
 ·rename_i hw
  simp only [hw] at h
  exact ⟨h.1, keep a hy _, by rw [← Act.put_comm a v undef h2]; exact h.2⟩

def noDefB (l : List Oper) : Bool := l.all fun o => match o.op with | .defer _ => false | _ => true
theorem noDefB_spec {l : List Oper} (h : noDefB l = true) : ∀ (i : Nat) (o : Oper), l.toArray[i]? = some o → ∀ c, o.op ≠ .defer c := fun i o ho c hc => by
 have hm : o ∈ l := by
  simp at ho
  exact List.mem_of_getElem? ho
 have := List.all_eq_true.1 h o hm
 rw [hc] at this
 cases this

theorem wpAnyTI_first {i : Nat} {oi : Oper} {v : Value} (hnd : ∀ (j : Nat) (o : Oper), ops[j]? = some o → ∀ c, o.op ≠ .defer c) (hi : ops[i]? = some oi) (hsel : ∀ (j : Nat) (o : Oper) cs b, ops[j]? = some o → o.op ≠ .select cs b)
  (hQ : ∀ c a w, Q (.panic c) (a.put oi.dst v) w → Q (.panic c) a w) (hlate : ∀ j oj, T ≤ j → ops[j]? = some oj → ∃ e ∈ oj.after, Region.binds md e = true ∧ e.on = i) :
  ∀ (fuel : Nat) (listed : Array Bool) (a : Act) (w : World),
   (∀ j oj, ops[j]? = some oj → j ≠ i → listed.getD j true = false → (∀ e ∈ oj.after, Region.binds md e = true → e.on ≠ i) → oi.apart ops oj = true) →
   i ∈ Region.ready md ops listed → YieldsFi P ops S oi v a → S w →
   wpAnyTI F n P md ops Q S T fuel (listed.setIfInBounds i true) (a.put oi.dst v) w → wpAnyTI F n P md ops Q S T (fuel + 1) listed a w := by
 intro fuel
 induction fuel with
 | zero =>
  intro listed a w _ hr hy hS H
  refine ⟨fun h => (by rw [h] at hr; cases hr), fun j hj => ?_⟩
  by_cases hji : j = i
  ·subst hji
   exact hy.wpOpIn (hnd _ _ hi) hi hS ⟨fun _ => hS, H⟩
  ·have := ready_mono hj hji
   rw [H.1] at this
   cases this
 | succ fuel ih =>
  intro listed a w hfree hr hy hS H
  refine ⟨fun h => (by rw [h] at hr; cases hr), fun j hj => ?_⟩
  by_cases hji : j = i
  ·subst hji
   exact hy.wpOpIn (hnd _ _ hi) hi hS ⟨fun _ => hS, H⟩
  ·have h1 := H.2 j (ready_mono hj hji)
   obtain ⟨hjun, oj, hoj, hall⟩ := mem_ready.1 hj
   have hnot : ∀ e ∈ oj.after, Region.binds md e = true → e.on ≠ i := fun e he hb heq => by
    have h1 := hall e he hb
    have h0 := (mem_ready.1 hr).1
    rw [heq] at h1
    rcases Nat.lt_or_ge i listed.size with h' | h'
    ·simp [h'] at h0 h1
     rw [h0] at h1
     cases h1
    ·simp [Array.getElem?_eq_none h'] at h1
   have hjT : j < T := by
    rcases Nat.lt_or_ge j T with h | h
    ·exact h
    ·obtain ⟨e, he, hb, heq⟩ := hlate j oj h hoj
     exact absurd heq (hnot e he hb)
   have h2 := wpOpIn_putFi (hnd j oj hoj) hoj (hfree j oj hoj hji hjun hnot) (fun cs b => hsel i oi cs b hi) (fun cs b => hsel j oj cs b hoj) hQ hy h1
   have hfree' : ∀ k ok, ops[k]? = some ok → k ≠ i → (listed.setIfInBounds j true).getD k true = false →
     (∀ e ∈ ok.after, Region.binds md e = true → e.on ≠ i) → oi.apart ops ok = true := fun k ok hk hki hun hno => by
    refine hfree k ok hk hki ?_ hno
    by_cases hjk : j = k
    ·subst hjk
     exact hjun
    ·rw [getD_set_ne true hjk] at hun
     exact hun
   refine wpOpIn_mono (fun a' w' h3 => ⟨h3.2.1, ih (listed.setIfInBounds j true) a' w' hfree' (ready_mono hr (Ne.symm hji)) h3.1 (h3.2.1 hjT) ?_⟩) h2
   rw [Array.setIfInBounds_comm _ _ hji]
   exact h3.2.2

theorem wpAnyTI_take {l : List Oper} {i : Nat} {oi : Oper} {v : Value} {fuel : Nat} {listed : Array Bool} {a : Act} {w : World} (hi : l[i]? = some oi) (hnd : noDefB l = true)
  (hs : Region.noSelect l.toArray = true) (hf : Region.free md l.toArray listed i = true) (hr : (Region.ready md l.toArray listed).contains i = true) (hl : lateB md l.toArray T i = true)
  (hQ : ∀ c a w, Q (.panic c) (a.put oi.dst v) w → Q (.panic c) a w) (hy : YieldsFi P l.toArray S oi v a) (hS : S w)
  (h : wpAnyTI F n P md l.toArray Q S T fuel (listed.setIfInBounds i true) (a.put oi.dst v) w) : wpAnyTI F n P md l.toArray Q S T (fuel + 1) listed a w :=
 wpAnyTI_first (noDefB_spec hnd) (by simpa using hi) (Region.noSelect_spec hs) hQ (fun _ _ hT hj => lateB_spec hl hT hj) fuel listed a w (Region.free_spec (by simpa using hi) hf) (by simpa using hr) hy hS h

theorem wpAnyTI_one {l : List Oper} {i : Nat} {o : Oper} {fuel : Nat} {listed : Array Bool} {a : Act} {w : World} (hr : Region.ready md l.toArray listed = [i]) (ho : l[i]? = some o)
  (h : ∀ K' : Act → World → Prop, Shut (∀ a w, (i < T → S w) → wpAnyTI F n P md l.toArray Q S T fuel (listed.setIfInBounds i true) a w → K' a w) →
   if Region.wanted o (yielded l.toArray a.tmps) = true then Oper.wpIn F n P o a w K' Q else (∀ f, o.about P w a.eval = some f → F.fn f) ∧ K' (a.put o.dst undef) w) : wpAnyTI F n P md l.toArray Q S T (fuel + 1) listed a w := by
 refine ⟨fun h0 => (by rw [hr] at h0; cases h0), fun j hj => ?_⟩
 rw [hr] at hj
 obtain rfl : j = i := by simpa using hj
 exact wpOpIn_step (by simpa using ho) (fun K' hK => h K' (fun a w hS hW => hK a w ⟨hS, hW⟩))

theorem wpAnyTI_done {listed : Array Bool} {a : Act} {w : World} (hr : Region.ready md ops listed = []) (h : Q .normal a w) : ∀ fuel, wpAnyTI F n P md ops Q S T fuel listed a w
 | 0 => ⟨hr, h⟩
 | _ + 1 => ⟨fun _ => h, by rw [hr]; simp⟩

theorem wpIn_region_TI {id : Nat} {a : Act} {w : World} (S : World → Prop) (T : Nat) (hm : P.follows .mixedOrders = true)
  (h : wpAnyTI F n P .any ops Q S T ops.size (Array.replicate ops.size false) a w.drew) : (Code.region id ops true).wpIn F n P Q a w :=
 wpIn_region_any hm (wpAnyIn_of_TI _ _ _ _ h)

end

end Go.Proofs.YtiahakbkagipkaaGreatDoor

namespace Go.Proofs.YtiahakbkagipkaaGreatDoor
open Go Go.RowKit Go.Shelf

attribute [local go_sem] Oper.semAt_some

theorem allU_any (a : Option Addr) (n c : Nat) (w : World) :
  Calls Tryz.prog 51 #[.slice a n c] w fun e w' => e = .returned (.func (.func 94) #[] #[.pointer (some ⟨w.heap.size, 0, none⟩)]) ∧ w' = w.alloc (.cells #[.slice a n c] 92) := by
 have hmf : ∀ (fn : Fn) (first cap : Array Value) (w : World), (Instr.makeFunc fn first cap).run Tryz.prog w = .ok (.func fn first cap) w := fun _ _ _ _ => rfl
 go_enter Tryz.func51, Tryz.ntmps51
 go_wp2
 go_ret
 exact ⟨rfl, rfl⟩

theorem ownFrom_up2 {β : Type} {B B' : Nat} {I : β → World → Prop} (h : OwnFrom B I) (hB : B ≤ B') : OwnFrom B' I := fun s W W' row hs hg hr => h s W W' row hs hg (fun r e => ⟨Nat.le_trans hB (hr r e).1, (hr r e).2⟩)

theorem tyW_own {n0 n1 K B : Nat} {l : List Bl} (hB : n1 ≤ B) : OwnFrom B (fun (_ : Nat) X => n1 ≤ X.heap.size ∧ TyW n0 n1 X K l) := fun s X Y row hs hg hr =>
 ⟨Nat.le_trans hs.1 hg.size, hs.2.kept fun j _ hj => hg.block j (by have := hs.1; omega) (fun e => by have := (hr j e.symm).1; omega)⟩

theorem types1_goes (n0 n1 K : Nat) (l : List Bl) (w : World) (hT : TyW n0 n1 w K l) (hn1 : n1 ≤ w.heap.size) (hlen : (kdsT l).length ≤ 50000) :
  GoesO Tryz.prog 50 #[.pointer (some ⟨K, 0, none⟩), .pointer (some ⟨K + 1, 0, none⟩)] (fun k => #[.int .u64 (kdAt l k : Nat), .int .i64 (cnAt l k : Nat)]) (fun b => n0 ≤ b ∧ b < n1) (kdsT l).length w := by
 intro L J Jx W hW hJ hJx hY h0
 have hTW : TyW n0 n1 W K l := hT.kept fun j _ hj => hW.block j (by omega)
 have hWS := hW.size
 have HTW := h_ hTW
 obtain ⟨h1, h2, A1, C1, A2, C2, h3, h4, h5, h6, h7⟩ := hTW
 obtain ⟨zs, hzs⟩ : ∃ zs : List Int, zs = (kdsT l).map (fun t : Nat => (t : Int)) := ⟨_, rfl⟩
 have hzl : zs.length = (kdsT l).length := by rw [hzs]; simp
 have hza : ∀ k, k < (kdsT l).length → uAtB zs k = (kdAt l k : Nat) := fun k hk => by
  rw [hzs, uAtB, kdAt, List.getElem?_map, List.getElem?_eq_getElem hk]
  rfl
 have HR : Hid (∀ W', Below W.heap.size W W' → RdU W' W'.heap.size A1 zs) := fun W' hb => by
  by_cases hz : (kdsT l).length = 0
  ·exact .inl (List.eq_nil_of_length_eq_zero (by omega))
  ·obtain ⟨g1, g2, e1, _, _, _⟩ := h7 0 (by omega)
   have h8 : g1 < n1 := (h5 _ e1).2
   refine .inr ⟨g1, 0, e1, by have := hb.size; omega, fun j hj => ?_⟩
   obtain ⟨g1', _, e1', _, c1, _⟩ := h7 j (by omega)
   rw [e1] at e1'
   injection e1' with e1'
   injection e1' with e1'
   subst e1'
   rw [Nat.zero_add, (hb.cell (p := ⟨g1, j, none⟩) (by show g1 < _; omega)), c1]
   have := hza j (by omega)
   rw [uAtB] at this
   rw [this]
 rw [← hzl] at h3
 have HZL := h_ hzl
 have HZA := h_ hza
 have HT2 := h_ (fun X (h : TyW n0 n1 X K l) => h)
 have h3a : (W.alloc (.cells #[.func (.yield L) #[] #[]] 102)).cell? ⟨K, 0, none⟩ = some (.slice A1 zs.length C1) := ((below_al (Below.refl W.heap.size W) _).cell (p := ⟨K, 0, none⟩) (by show K < W.heap.size; omega)).trans h3
 have HLn : Hid (zs.length ≤ 50000) := by rw [Hid, hzl]; exact hlen
 clear hT h7 hW hzs hza hzl
 refine calls_of_marks Tryz.func50 rfl ?_
 simp only [Tryz.ntmps50, List.size_toArray, List.length_cons, List.length_nil, Nat.reduceAdd, Nat.reduceSub, Array.replicate_succ, Array.replicate_zero, List.push_toArray, List.append_toArray, List.nil_append, List.cons_append]
 go_wp2
 go_step3
 go_wp2
 go_step3
 go_wp2_with (go_at_call 51; refine (allU_any _ _ _ _).mono ?_; rintro e w2 ⟨rfl, rfl⟩)
 have hB : Below W.heap.size W ((W.alloc (.cells #[.func (.yield L) #[] #[]] 102)).alloc (.cells #[.slice A1 zs.length C1] 92)) := (bR.alloc (Nat.le_refl _) _).alloc (by simp) _
 have b1 : Boxed ((W.alloc (.cells #[.func (.yield L) #[] #[]] 102)).alloc (.cells #[.slice A1 zs.length C1] 92)) W.heap.size 102 (.func (.yield L) #[] #[]) := (Boxed.new W _ _).alloc _
 have b2 := (Boxed.new (W.alloc (.cells #[.func (.yield L) #[] #[]] 102)) 92 (.slice A1 zs.length C1)).cell
 rw [World.size_alloc] at b2
 obtain ⟨W2, hW2⟩ : ∃ W2, W2 = (W.alloc (.cells #[.func (.yield L) #[] #[]] 102)).alloc (.cells #[.slice A1 zs.length C1] 92) := ⟨_, rfl⟩
 have hs2 : W2.heap.size = W.heap.size + 2 := by rw [hW2]; simp
 rw [← hW2] at hB b1 b2 ⊢
 have J0 : J 0 W2 := by rw [hW2]; exact hJ.alloc _ (hJ.alloc _ h0)
 have T0 : TyW n0 n1 W2 K l := HTW.out.kept fun j _ hj => hB.block j (by omega)
 clear hW2
 have hIO : OwnFrom W2.heap.size (fun (k : Nat) X => J k X ∧ Boxed X W.heap.size 102 (.func (.yield L) #[] #[]) ∧ W2.heap.size ≤ X.heap.size ∧ (n1 ≤ X.heap.size ∧ TyW n0 n1 X K l)) :=
  OwnFrom.and (ownFrom_up2 (B := W.heap.size) (B' := W2.heap.size) hJ (by omega)) (OwnFrom.and ((boxed_own _ _ _).from _) (OwnFrom.and (fun k X Y row hs hg hr => Nat.le_trans hs hg.size) (tyW_own (by omega))))
 have hJO : OwnFrom W2.heap.size J := ownFrom_up2 (B := W.heap.size) hJ (by omega)
 have hJxO : OwnFrom W2.heap.size Jx := ownFrom_up2 (B := W.heap.size) hJx (by omega)
 refine wp_rangeGoesO_plain (gf := 94) (lb := #[.pointer (some ⟨W.heap.size + 1, 0, none⟩)]) rfl (enters_of Tryz.func94 (by kernel_rfl) rfl)
  (allU_goes (W.heap.size + 1) (fun b => n0 ≤ b ∧ b < n1) A1 C1 zs W2 (by have := HLn.out; omega) (by omega) h5 (fun b hb => by have := hb.2; omega) b2 (HR.out W2 hB)) (fun b hb => by have := hb.2; omega) (fun _ => rfl)
  (fun k X => J k X ∧ Boxed X W.heap.size 102 (.func (.yield L) #[] #[]) ∧ W2.heap.size ≤ X.heap.size ∧ (n1 ≤ X.heap.size ∧ TyW n0 n1 X K l))
  (fun c k X => c = .exit 0 ∧ Jx k X)
  hIO (fun c => OwnFrom.and (ownFrom_pure _ (fun _ => c = .exit 0)) hJxO) ⟨J0, b1, Nat.le_refl _, by omega, T0⟩
  (fun k => { tmps := #[.func (.yield L) #[] #[], .pointer (some ⟨K, 0, none⟩), .pointer (some ⟨K + 1, 0, none⟩), .pointer (some ⟨W.heap.size, 0, none⟩), .int .i64 (k : Nat), .int .u64 (uAtB zs k), .slice A1 zs.length C1, .func (.func 94) #[] #[.pointer (some ⟨W.heap.size + 1, 0, none⟩)], .int .i64 (k : Nat), .int .u64 (uAtB zs k), undef, undef, undef, undef, undef, undef, undef, undef], defers := [] }) ?assign ?body ?done ?stop
 case assign =>
  intro ll k X K hK
  gi_wp2
  exact hK
 case body =>
  rintro ll k X hk hl _ ⟨hJk, hbx, hsz, hn, hTX⟩
  have HJk := h_ hJk
  have HBx := h_ hbx
  have HTX := h_ hTX
  have hyc := hbx.cell
  have hkl : k < (kdsT l).length := by rw [← HZL.out]; exact hk
  obtain ⟨_, _, A3, C3, A4, C4, h8, h9, _, h10, h11⟩ := hTX
  obtain ⟨g1, g2, rfl, rfl, c1, c2⟩ := h11 k hkl
  rw [HZA.out k hkl]
  clear hJk hbx h11 c1
  refine wpIn_block ?_
  refine wpIn_seq ?_
  refine wpIn_region_TI (fun w' => w'.cell? ⟨W.heap.size, 0, none⟩ = some (.func (.yield L) #[] #[]) ∧ w'.cell? ⟨K + 1, 0, none⟩ = some (.slice (some ⟨g2, 0, none⟩) (kdsT l).length C4) ∧ w'.cell? ⟨g2, k, none⟩ = some (.int .i64 (cnAt l k : Nat))) 8 (by kernel_rfl) ?_
  obtain ⟨X1, hX1⟩ : ∃ X1, X1 = X.drew := ⟨_, rfl⟩
  rw [← hX1]
  have hS0 : X1.cell? ⟨W.heap.size, 0, none⟩ = some (.func (.yield L) #[] #[]) ∧ X1.cell? ⟨K + 1, 0, none⟩ = some (.slice (some ⟨g2, 0, none⟩) (kdsT l).length C4) ∧ X1.cell? ⟨g2, k, none⟩ = some (.int .i64 (cnAt l k : Nat)) := by
   rw [hX1]
   exact ⟨hyc, h9, c2⟩
  clear hyc h9 c2 h8
  refine wpAnyTI_take (i := 0) (v := ?_) rfl (by kernel_rfl) (by kernel_rfl) (by kernel_rfl) (by kernel_rfl) (by kernel_rfl) (fun _ _ _ h => h) ⟨Or.inl ⟨by rfl, ?_⟩, fun _ => by rfl⟩ hS0 ?_
  rotate_left
  ·intro w hSw; (try dsimp only at hSw); go_simp; all_goals with_reducible rfl
  simp only [Act.put, zA, zB, zC]
  refine wpAnyTI_take (i := 1) (v := ?_) rfl (by kernel_rfl) (by kernel_rfl) (by kernel_rfl) (by kernel_rfl) (by kernel_rfl) (fun _ _ _ h => h) ⟨Or.inl ⟨by rfl, ?_⟩, fun _ => by rfl⟩ hS0 ?_
  rotate_left
  ·intro w hSw; (try dsimp only at hSw); go_simp; all_goals with_reducible rfl
  simp only [Act.put, zA, zB, zC]
  refine wpAnyTI_take (i := 2) (v := ?_) rfl (by kernel_rfl) (by kernel_rfl) (by kernel_rfl) (by kernel_rfl) (by kernel_rfl) (fun _ _ _ h => h) ⟨Or.inl ⟨by rfl, ?_⟩, fun _ => by rfl⟩ hS0 ?_
  rotate_left
  ·intro w hSw; (try dsimp only at hSw); go_simp; all_goals with_reducible rfl
  simp only [Act.put, zA, zB, zC]
  refine wpAnyTI_take (i := 3) (v := ?_) rfl (by kernel_rfl) (by kernel_rfl) (by kernel_rfl) (by kernel_rfl) (by kernel_rfl) (fun _ _ _ h => h) ⟨Or.inl ⟨by rfl, ?_⟩, fun _ => by rfl⟩ hS0 ?_
  rotate_left
  ·intro w hSw; (try dsimp only at hSw); go_simp; all_goals with_reducible rfl
  simp only [Act.put, zA, zB, zC]
  refine wpAnyTI_take (i := 4) (v := ?_) rfl (by kernel_rfl) (by kernel_rfl) (by kernel_rfl) (by kernel_rfl) (by kernel_rfl) (fun _ _ _ h => h) ⟨Or.inl ⟨by rfl, ?_⟩, fun _ => by rfl⟩ hS0 ?_
  rotate_left
  ·intro w hSw; (try dsimp only at hSw); go_simp; all_goals with_reducible rfl
  simp only [Act.put, zA, zB, zC]
  refine wpAnyTI_take (i := 5) (v := ?_) rfl (by kernel_rfl) (by kernel_rfl) (by kernel_rfl) (by kernel_rfl) (by kernel_rfl) (fun _ _ _ h => h) ⟨Or.inl ⟨by rfl, ?_⟩, fun _ => by rfl⟩ hS0 ?_
  rotate_left
  ·intro w hSw; (try dsimp only at hSw); go_simp; all_goals with_reducible rfl
  simp only [Act.put, zA, zB, zC]
  have hJ1 : J k X1 := hJO k X X1 none HJk.out (by rw [hX1]; exact ⟨rfl, rfl, rfl, Nat.le_refl _, fun _ _ _ => rfl⟩) (fun r e => by cases e)
  have HX1 := h_ hX1
  have hsz1 : X1.heap.size = X.heap.size := by rw [hX1]; rfl
  obtain ⟨fn, tmps, assign, body, hy, hR⟩ := hY k X1 hkl hJ1 (by omega)
  have HBx1 : Hid (Boxed X1 W.heap.size 102 (.func (.yield L) #[] #[])) := by rw [hX1]; exact HBx.out
  have HTX1 : Hid (TyW n0 n1 X1 K l) := by rw [hX1]; exact HTX.out
  have HHp : Hid (X1.heap = X.heap) := by rw [hX1]; rfl
  have HS0 := h_ hS0
  have hSK : ∀ W', KeepB (SinceB (fun b => n0 ≤ b ∧ b < n1) W.heap.size X1) X1 W' → (W'.cell? ⟨W.heap.size, 0, none⟩ = some (.func (.yield L) #[] #[]) ∧ W'.cell? ⟨K + 1, 0, none⟩ = some (.slice (some ⟨g2, 0, none⟩) (kdsT l).length C4) ∧ W'.cell? ⟨g2, k, none⟩ = some (.int .i64 (cnAt l k : Nat))) ∧ TyW n0 n1 W' K l ∧ Boxed W' W.heap.size 102 (.func (.yield L) #[] #[]) := fun W' hk => by
   have e0 := hk W.heap.size (.inr ⟨Nat.le_refl _, by omega⟩)
   have hg2 : n0 ≤ g2 ∧ g2 < n1 := h10 _ rfl
   exact ⟨⟨(World.cell?_of_block (a := ⟨W.heap.size, 0, none⟩) e0).trans HS0.out.1, (World.cell?_of_block (a := ⟨K + 1, 0, none⟩) (hk (K + 1) (.inl ⟨by omega, by omega⟩))).trans HS0.out.2.1, (World.cell?_of_block (a := ⟨g2, k, none⟩) (hk g2 (.inl hg2))).trans HS0.out.2.2⟩,
    HTX1.out.kept fun j h1 h2 => hk j (.inl ⟨h1, h2⟩), e0.trans HBx1.out⟩
  have HSK := h_ hSK
  clear hX1 hJ1 hS0 hSK h10
  refine wpAnyTI_one (i := 6) (by kernel_rfl) rfl (fun K' hK => ?_)
  go_simp
  refine (roundIn_any hR).mono ?_
  rintro e X3 (⟨rfl, hJ3, hz3, hk3⟩ | ⟨rfl, hJx3, hz3, hk3⟩)
  ·obtain ⟨hS3, hT3, hb3⟩ := HSK.out X3 hk3
   have HK3 := h_ hk3
   refine hK.out _ _ (fun _ => hS3) ?_
   clear hK K' hk3
   try simp only [Act.put, zA, zB, zC]
   refine wpAnyTI_one (i := 7) (by kernel_rfl) rfl (fun K' hK => ?_)
   go_simp
   refine hK.out _ _ (fun _ => hS3) ?_
   clear hK K' hS3
   try simp only [Act.put, zA, zB, zC]
   refine wpAnyTI_done (by kernel_rfl) ?_ _
   have HSZ1 := h_ hsz1
   simp only [Exit.then]
   gi_wp2
   exact ⟨⟨by omega, fun i o' hi ho _ => (HK3.out i (.inr ⟨by omega, by rw [HSZ1.out]; exact (Array.getElem?_eq_some_iff.1 ho).1⟩)).trans (by rw [HHp.out]; exact ho)⟩, (fun b hb => by
    rw [← HHp.out]
    rcases hb with hb | hb
    ·exact HK3.out b (.inl hb)
    ·exact HK3.out b (.inr ⟨by have := hb.1; omega, by rw [HSZ1.out]; exact hb.2⟩)), hJ3, hb3, by omega, by omega, hT3⟩
  ·obtain ⟨hS3, hT3, hb3⟩ := HSK.out X3 hk3
   have HK3 := h_ hk3
   refine hK.out _ _ (fun _ => hS3) ?_
   clear hK K' hk3
   try simp only [Act.put, zA, zB, zC]
   refine wpAnyTI_one (i := 7) (by kernel_rfl) rfl (fun K' hK => ?_)
   go_simp
   refine hK.out _ _ (fun _ => hS3) ?_
   clear hK K' hS3
   try simp only [Act.put, zA, zB, zC]
   refine wpAnyTI_done (by kernel_rfl) ?_ _
   have HSZ1 := h_ hsz1
   simp only [Exit.then]
   gi_wp2
   exact ⟨⟨⟨by omega, fun i o' hi ho _ => (HK3.out i (.inr ⟨by omega, by rw [HSZ1.out]; exact (Array.getElem?_eq_some_iff.1 ho).1⟩)).trans (by rw [HHp.out]; exact ho)⟩, (fun b hb => by
    rw [← HHp.out]
    rcases hb with hb | hb
    ·exact HK3.out b (.inl hb)
    ·exact HK3.out b (.inr ⟨by have := hb.1; omega, by rw [HSZ1.out]; exact hb.2⟩))⟩, rfl, hJx3⟩
 case done =>
  rintro D X hD ⟨hJk, hbx, _, _, _⟩ hK
  rw [HZL.out] at hJk
  have HJk := h_ hJk
  clear hJk hbx
  go_wp2
  refine marks_one hK (results_none rfl _ _ _) ?_
  exact ⟨⟨_, rfl⟩, .inl (hJO.putObj _ HJk.out (by omega) hK rfl)⟩
 case stop =>
  rintro D c k X hD hk ⟨rfl, hJx3⟩ hK
  have HJx := h_ hJx3
  have hlt : k < (kdsT l).length := by rw [← HZL.out]; exact hk
  clear hJx3
  go_wp2
  refine marks_one hK (results_none rfl _ _ _) ?_
  exact ⟨⟨_, rfl⟩, .inr ⟨_, hlt, hJxO.putObj _ HJx.out (by omega) hK rfl⟩⟩

theorem wp_rangeGoesO_at2 {P : Program} {g : Operand} {p1 p2 : Tmp} {assign body : Code} {Q : Exit → Act → World → Prop} {a : Act} {w : World} {gf : Nat} {lb : Array Value} (q1 q2 : Tmp) (v1 v2 : Nat → Value)
  (hg : a.eval g = .func (.func gf) #[] lb) (eg : ∀ args w, (callFunc gf args).run P w = .ok (.enter gf args) w)
  {S : Nat → Prop} {N : Nat} (hseq : GoesO P gf lb (fun k => #[v1 k, v2 k]) S N w) (hS : ∀ b, S b → b < w.heap.size)
  (I : Nat → World → Prop) (Ix : Code → Nat → World → Prop) (hI : OwnFrom w.heap.size I) (hIx : ∀ c, OwnFrom w.heap.size (Ix c)) (h0 : I 0 w)
  (hassign : ∀ (l k : Nat) (W : World) (K : Act → World → Prop), K { tmps := (((a.tmps.setIfInBounds p1 (v1 k)).setIfInBounds p2 (v2 k)).setIfInBounds q1 (v1 k)).setIfInBounds q2 (v2 k), defers := [] } W →
   assign.wpIn (Fence.wide.inRound l) 9 P (Exit.then K (fun _ _ _ => False)) { tmps := (a.tmps.setIfInBounds p1 (v1 k)).setIfInBounds p2 (v2 k), defers := [] } W)
  (hbody : ∀ (l k : Nat) (W : World), k < N → w.heap.size ≤ l → (∃ r, W.heap[l]? = some (.loop r)) → I k W → body.wpIn (Fence.wide.inRound l) 9 P (roundEndsO w.heap.size S I Ix k W) { tmps := (((a.tmps.setIfInBounds p1 (v1 k)).setIfInBounds p2 (v2 k)).setIfInBounds q1 (v1 k)).setIfInBounds q2 (v2 k), defers := [] } W)
  (hdone : ∀ (D : Nat) (W : World), w.heap.size ≤ D → I N W → W.heap[D]? = some (.deferred (some [])) → Q .normal { a with defers := { target := .collected D, args := #[] } :: a.defers } W)
  (hstop : ∀ (D : Nat) (c : Code) (k : Nat) (W : World), w.heap.size ≤ D → k < N → Ix c k W → W.heap[D]? = some (.deferred (some [])) → c.wp P Q { a with defers := { target := .collected D, args := #[] } :: a.defers } W) :
  (Code.rangeFunc g #[p1, p2] assign body).wp P Q a w :=
 wp_rangeGoesO_plain hg eg hseq hS (fun _ => rfl) I Ix hI hIx h0 (fun k => { tmps := (((a.tmps.setIfInBounds p1 (v1 k)).setIfInBounds p2 (v2 k)).setIfInBounds q1 (v1 k)).setIfInBounds q2 (v2 k), defers := [] }) (fun l k W K hK => by
  have h := hassign l k W K hK
  simpa using h) hbody hdone hstop

theorem butL_own {B n M : Nat} {w0 : World} (hB : n ≤ B) (h0 : n ≤ w0.heap.size) : OwnFrom B (fun (_ : Nat) X => ButL n M w0 X) := fun s X Y row hs hg hr =>
 ⟨hg.os.trans hs.os, hg.tape.trans hs.tape, hg.output.trans hs.output, Nat.le_trans hs.size hg.size, fun j hj hne => (hg.block j (by have := hs.size; omega) (fun e => by have := (hr j e.symm).1; omega)).trans (hs.block j hj hne)⟩

end Go.Proofs.YtiahakbkagipkaaGreatDoor
