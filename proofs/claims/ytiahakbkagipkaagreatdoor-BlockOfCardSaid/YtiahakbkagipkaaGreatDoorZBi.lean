/- Joined texts. -/
import Derived.Test.YtiahakbkagipkaaGreatDoorZMe
import Derived.Test.YtiahakbkagipkaaGreatDoorZBh
set_option maxHeartbeats 16000000
set_option linter.unusedSimpArgs false
set_option linter.unusedVariables false
set_option maxRecDepth 100000
namespace Go.Proofs.YtiahakbkagipkaaGreatDoor
open Go Go.RowKit Go.Shelf

section
variable {P : Program} {ops : Array Oper} {Q : Exit → Act → World → Prop} {md : Region.Mode} {S : World → Prop} {C : Nat → World → Prop} {T : Nat}

def wpAnyC (P : Program) (md : Region.Mode) (ops : Array Oper) (Q : Exit → Act → World → Prop) (C : Nat → World → Prop) : Nat → Array Bool → Act → World → Prop
 | 0, listed, a, w => Region.ready md ops listed = [] ∧ Q .normal a w
 | fuel + 1, listed, a, w =>
  (Region.ready md ops listed = [] → Q .normal a w) ∧
  ∀ i ∈ Region.ready md ops listed, wpOp P ops Q i (fun a' w' => C i w' ∧ wpAnyC P md ops Q C fuel (listed.setIfInBounds i true) a' w') a w

theorem wpAny_of_C : ∀ (fuel : Nat) (listed : Array Bool) (a : Act) (w : World), wpAnyC P md ops Q C fuel listed a w → wpAny P md ops Q fuel listed a w
 | 0, _, _, _, h => h
 | fuel + 1, _, _, _, h => ⟨h.1, fun i hi => wpOp_mono (fun a' w' h' => wpAny_of_C fuel _ a' w' h'.2) (h.2 i hi)⟩

theorem wpAnyC_first {i : Nat} {oi : Oper} {v : Value} (hi : ops[i]? = some oi) (hsel : ∀ (j : Nat) (o : Oper) cs b, ops[j]? = some o → o.op ≠ .select cs b)
  (hQ : ∀ c a w, Q (.panic c) (a.put oi.dst v) w → Q (.panic c) a w) (hlate : ∀ j oj, T ≤ j → ops[j]? = some oj → ∃ e ∈ oj.after, Region.binds md e = true ∧ e.on = i) :
  ∀ (fuel : Nat) (listed : Array Bool) (a : Act) (w : World), (∀ j w, j < T → listed.getD j true = false → C j w → S w ∧ C i w) →
   (∀ j oj, ops[j]? = some oj → j ≠ i → listed.getD j true = false → (∀ e ∈ oj.after, Region.binds md e = true → e.on ≠ i) → oi.apart ops oj = true) →
   i ∈ Region.ready md ops listed → YieldsIf P ops S oi v a → S w → C i w →
   wpAnyC P md ops Q C fuel (listed.setIfInBounds i true) (a.put oi.dst v) w → wpAnyC P md ops Q C (fuel + 1) listed a w := by
 intro fuel
 induction fuel with
 | zero =>
  intro listed a w hCS _ hr hy hS hCi H
  refine ⟨fun h => (by rw [h] at hr; cases hr), fun j hj => ?_⟩
  by_cases hji : j = i
  ·subst hji
   exact hy.wpOp hi hS ⟨hCi, H⟩
  ·have := ready_mono hj hji
   rw [H.1] at this
   cases this
 | succ fuel ih =>
  intro listed a w hCS hfree hr hy hS hCi H
  refine ⟨fun h => (by rw [h] at hr; cases hr), fun j hj => ?_⟩
  by_cases hji : j = i
  ·subst hji
   exact hy.wpOp hi hS ⟨hCi, H⟩
  ·have h1 := H.2 j (ready_mono hj hji)
   obtain ⟨hjun, oj, hoj, hall⟩ := mem_ready.1 hj
   have hnot : ∀ e ∈ oj.after, Region.binds md e = true → e.on ≠ i := fun e he hb heq => by
    have h1 := hall e he hb
    have h0 := (mem_ready.1 hr).1
    rw [heq] at h1
    rcases Nat.lt_or_ge i listed.size with h' | h'
    ·simp [h'] at h0 h1
     rw [h0] at h1
     cases h1
    ·simp [Array.getElem?_eq_none h'] at h1
   have hjT : j < T := by
    rcases Nat.lt_or_ge j T with h | h
    ·exact h
    ·obtain ⟨e, he, hb, heq⟩ := hlate j oj h hoj
     exact absurd heq (hnot e he hb)
   have h2 := wpOp_putIf hoj (hfree j oj hoj hji hjun hnot) (fun cs b => hsel i oi cs b hi) (fun cs b => hsel j oj cs b hoj) hQ hy h1
   have hfree' : ∀ k ok, ops[k]? = some ok → k ≠ i → (listed.setIfInBounds j true).getD k true = false →
     (∀ e ∈ ok.after, Region.binds md e = true → e.on ≠ i) → oi.apart ops ok = true := fun k ok hk hki hun hno => by
    refine hfree k ok hk hki ?_ hno
    by_cases hjk : j = k
    ·subst hjk
     exact hjun
    ·rw [getD_set_ne true hjk] at hun
     exact hun
   have hCS' : ∀ k w, k < T → (listed.setIfInBounds j true).getD k true = false → C k w → S w ∧ C i w := fun k w hk hun => by
    refine hCS k w hk ?_
    by_cases hjk : j = k
    ·subst hjk
     exact hjun
    ·rw [getD_set_ne true hjk] at hun
     exact hun
   refine wpOp_mono (fun a' w' h3 => ⟨h3.2.1, ih (listed.setIfInBounds j true) a' w' hCS' hfree' (ready_mono hr (Ne.symm hji)) h3.1 (hCS j _ hjT hjun h3.2.1).1 (hCS j _ hjT hjun h3.2.1).2 ?_⟩) h2
   rw [Array.setIfInBounds_comm _ _ hji]
   exact h3.2.2

theorem wpAnyC_take {l : List Oper} {i : Nat} {oi : Oper} {v : Value} {fuel : Nat} {listed : Array Bool} {a : Act} {w : World} (hi : l[i]? = some oi)
  (hs : Region.noSelect l.toArray = true) (hf : Region.free md l.toArray listed i = true) (hr : (Region.ready md l.toArray listed).contains i = true) (hl : lateB md l.toArray T i = true)
  (hQ : ∀ c a w, Q (.panic c) (a.put oi.dst v) w → Q (.panic c) a w) (hy : YieldsIf P l.toArray S oi v a) (hS : S w) (hCi : C i w) (hCS : ∀ j w, j < T → listed.getD j true = false → C j w → S w ∧ C i w)
  (h : wpAnyC P md l.toArray Q C fuel (listed.setIfInBounds i true) (a.put oi.dst v) w) : wpAnyC P md l.toArray Q C (fuel + 1) listed a w :=
 wpAnyC_first (by simpa using hi) (Region.noSelect_spec hs) hQ (fun _ _ hT hj => lateB_spec hl hT hj) fuel listed a w hCS (Region.free_spec (by simpa using hi) hf) (by simpa using hr) hy hS hCi h

theorem wpAnyC_one {l : List Oper} {i : Nat} {o : Oper} {fuel : Nat} {listed : Array Bool} {a : Act} {w : World} (hr : Region.ready md l.toArray listed = [i]) (ho : l[i]? = some o)
  (h : ∀ K' : Act → World → Prop, Shut (∀ a w, C i w → wpAnyC P md l.toArray Q C fuel (listed.setIfInBounds i true) a w → K' a w) →
   if Region.wanted o (yielded l.toArray a.tmps) = true then Oper.wp P o a w K' Q else K' (a.put o.dst undef) w) : wpAnyC P md l.toArray Q C (fuel + 1) listed a w := by
 refine ⟨fun h0 => (by rw [hr] at h0; cases h0), fun j hj => ?_⟩
 rw [hr] at hj
 obtain rfl : j = i := by simpa using hj
 exact wpOp_step (by simpa using ho) (fun K' hK => h K' (fun a w hS hW => hK a w ⟨hS, hW⟩))

theorem wpAnyC_two {l : List Oper} {i k : Nat} {o u : Oper} {fuel : Nat} {listed : Array Bool} {a : Act} {w : World} (hr : Region.ready md l.toArray listed = [i, k]) (ho : l[i]? = some o) (hu : l[k]? = some u)
  (h : ∀ K' : Act → World → Prop, Shut (∀ a w, C i w → wpAnyC P md l.toArray Q C fuel (listed.setIfInBounds i true) a w → K' a w) →
   if Region.wanted o (yielded l.toArray a.tmps) = true then Oper.wp P o a w K' Q else K' (a.put o.dst undef) w)
  (h2 : ∀ K' : Act → World → Prop, Shut (∀ a w, C k w → wpAnyC P md l.toArray Q C fuel (listed.setIfInBounds k true) a w → K' a w) →
   if Region.wanted u (yielded l.toArray a.tmps) = true then Oper.wp P u a w K' Q else K' (a.put u.dst undef) w) : wpAnyC P md l.toArray Q C (fuel + 1) listed a w := by
 refine ⟨fun h0 => (by rw [hr] at h0; cases h0), fun j hj => ?_⟩
 rw [hr] at hj
 rcases (show j = i ∨ j = k by simpa using hj) with rfl | rfl
 ·exact wpOp_step (by simpa using ho) (fun K' hK => h K' (fun a w hS hW => hK a w ⟨hS, hW⟩))
 ·exact wpOp_step (by simpa using hu) (fun K' hK => h2 K' (fun a w hS hW => hK a w ⟨hS, hW⟩))

theorem wpAnyC_done {listed : Array Bool} {a : Act} {w : World} (hr : Region.ready md ops listed = []) (h : Q .normal a w) : ∀ fuel, wpAnyC P md ops Q C fuel listed a w
 | 0 => ⟨hr, h⟩
 | _ + 1 => ⟨fun _ => h, by rw [hr]; simp⟩

theorem wp_region_C {id : Nat} {a : Act} {w : World} (C : Nat → World → Prop) (hm : P.follows .mixedOrders = true)
  (h : wpAnyC P .any ops Q C ops.size (Array.replicate ops.size false) a w.drew) : (Code.region id ops true).wp P Q a w :=
 wp_region_any hm (wpAny_of_C _ _ _ _ h)

end

end Go.Proofs.YtiahakbkagipkaaGreatDoor

namespace Go.Proofs.YtiahakbkagipkaaGreatDoor
open Go Go.RowKit Go.Shelf
open Go.ChangeMaps (setBlock heap_setBlock_same heap_setBlock_other)

attribute [local go_sem] Oper.semAt_some

def encU (t : Nat) : Value := .int .u64 (t : Int)
def encI (n : Nat) : Value := .int .i64 (n : Int)

theorem infoU64 : (Tryz.prog.info? 22).map (fun i => (i.zero, i.size, i.bytes)) = some (some (.int .u64 0), 1, 8) := by kernel_rfl
theorem infoI64 : (Tryz.prog.info? 3).map (fun i => (i.zero, i.size, i.bytes)) = some (some (.int .i64 0), 1, 8) := by kernel_rfl

def RwT (n3 : Nat) (X : World) (v1 : Value) (xs1 : List Value) (v2 : Value) (xs2 : List Value) : Prop :=
 OwnV X n3 22 v1 xs1 ∧ OwnV X n3 3 v2 xs2 ∧ ∀ r, v1.ownBlock = some r → v2.ownBlock ≠ some r

theorem RwT.later {n3 : Nat} {X Y : World} {v1 v2 : Value} {xs1 xs2 : List Value} (h : RwT n3 X v1 xs1 v2 xs2) (hb : Below X.heap.size X Y) : RwT n3 Y v1 xs1 v2 xs2 :=
 ⟨h.1.later hb, h.2.1.later hb, h.2.2⟩

theorem appU1 {n3 : Nat} {X : World} {v1 v2 : Value} {xs1 xs2 : List Value} (h : RwT n3 X v1 xs1 v2 xs2) (q t : Nat) (hq : Src X (some ⟨q, 0, none⟩) [encU t]) (hqb : q < X.heap.size) (hq1 : v1.ownBlock ≠ some q) (hlen : xs1.length ≤ 100000) (hb : n3 ≤ X.heap.size) :
  ∃ v' Y, (Builtin.append_ #[92, 92] 92 #[v1, .slice (some ⟨q, 0, none⟩) 1 1]).run Tryz.prog X = .ok v' Y ∧ RwT n3 Y v' (xs1 ++ [encU t]) v2 xs2 ∧ Below n3 X Y ∧ X.heap.size ≤ Y.heap.size ∧ X.grownBy Y v1.ownBlock ∧ (v'.ownBlock = v1.ownBlock ∨ v'.ownBlock = some X.heap.size) := by
 obtain ⟨v', Y, hrun, hp⟩ := run_app (P := Tryz.prog) X n3 92 92 22 _ 8 Tryz.underlying92 infoU64 rfl v1 xs1 h.1 (some ⟨q, 0, none⟩) 1 1 [encU t] rfl hq (by intro u hu; simp at hu; subst hu; rfl) (by unfold maxLen; simp; omega) (by simp; omega) hb
 refine ⟨v', Y, hrun, ⟨hp.1, h.2.1.kept hp.2.1 ?_, ?_⟩, hp.below h.1 hb, hp.2.1.size, hp.2.1, hp.2.2⟩
 ·cases e : v2.ownBlock with
  | none => exact .inl rfl
  | some r => exact .inr fun e2 => h.2.2 r e2.symm e
 ·intro r hr
  rcases hp.2.2 with e | e
  ·exact h.2.2 r (e ▸ hr)
  ·rw [e] at hr
   injection hr with hr
   intro e2
   have := (h.2.1.row r e2).2
   omega

theorem appI1 {n3 : Nat} {X : World} {v1 v2 : Value} {xs1 xs2 : List Value} (h : RwT n3 X v1 xs1 v2 xs2) (q t : Nat) (hq : Src X (some ⟨q, 0, none⟩) [encI t]) (hlen : xs2.length ≤ 100000) (hb : n3 ≤ X.heap.size) :
  ∃ v' Y, (Builtin.append_ #[99, 99] 99 #[v2, .slice (some ⟨q, 0, none⟩) 1 1]).run Tryz.prog X = .ok v' Y ∧ RwT n3 Y v1 xs1 v' (xs2 ++ [encI t]) ∧ Below n3 X Y ∧ X.heap.size ≤ Y.heap.size ∧ X.grownBy Y v2.ownBlock ∧ (v'.ownBlock = v2.ownBlock ∨ v'.ownBlock = some X.heap.size) := by
 obtain ⟨v', Y, hrun, hp⟩ := run_app (P := Tryz.prog) X n3 99 99 3 _ 8 Tryz.underlying99 infoI64 rfl v2 xs2 h.2.1 (some ⟨q, 0, none⟩) 1 1 [encI t] rfl hq (by intro u hu; simp at hu; subst hu; rfl) (by unfold maxLen; simp; omega) (by simp; omega) hb
 refine ⟨v', Y, hrun, ⟨h.1.kept hp.2.1 ?_, hp.1, ?_⟩, hp.below h.2.1 hb, hp.2.1.size, hp.2.1, hp.2.2⟩
 ·cases e : v1.ownBlock with
  | none => exact .inl rfl
  | some r => exact .inr fun e2 => h.2.2 r e e2.symm
 ·intro r hr
  have hrl := (h.1.row r hr).2
  rcases hp.2.2 with e | e
  ·rw [e]
   exact h.2.2 r hr
  ·rw [e]
   intro e2
   injection e2 with e2
   omega

theorem src_new (X : World) (u : Value) (t : TypeId) : Src (X.alloc (.cells #[u] t)) (some ⟨X.heap.size, 0, none⟩) [u] := src_one X u t

theorem Src.later {X Y : World} {q : Nat} {u : Value} (h : Src X (some ⟨q, 0, none⟩) [u]) (hb : Y.heap[q]? = X.heap[q]?) : Src Y (some ⟨q, 0, none⟩) [u] := by
 rcases h with h | ⟨ad, e, hc⟩
 ·cases h
 ·injection e with e
  subst e
  refine .inr ⟨_, rfl, fun j v hv => ?_⟩
  have hj : j = 0 := by
   have := (List.getElem?_eq_some_iff.1 hv).1
   simp at this
   exact this
  subst hj
  have h0 := hc 0 v hv
  rw [mk_addr_add, Nat.zero_add] at h0 ⊢
  exact (World.cell?_of_block (a := ⟨q, 0, none⟩) hb).trans h0

def TyI (w : World) (n3 : Nat) (l : List Bl) (X : World) : Prop := ∃ v1 v2, (X.cell? ⟨w.heap.size, 0, none⟩ = some v1 ∧ X.frozen? ⟨w.heap.size, 0, none⟩ = false) ∧ (X.cell? ⟨w.heap.size + 1, 0, none⟩ = some v2 ∧ X.frozen? ⟨w.heap.size + 1, 0, none⟩ = false) ∧
 MapT X (w.heap.size + 2) (kdsT l) ∧ RwT n3 X v1 ((kdsT l).map encU) v2 ((kdsT l).map fun t => encI (cntT l t)) ∧ Below w.heap.size w X ∧ n3 ≤ X.heap.size

def TyJ (w : World) (n3 : Nat) (ks ms : List Nat) (X : World) : Prop := ∃ v1 v2, (X.cell? ⟨w.heap.size, 0, none⟩ = some v1 ∧ X.frozen? ⟨w.heap.size, 0, none⟩ = false) ∧ (X.cell? ⟨w.heap.size + 1, 0, none⟩ = some v2 ∧ X.frozen? ⟨w.heap.size + 1, 0, none⟩ = false) ∧
 MapT X (w.heap.size + 2) ks ∧ RwT n3 X v1 (ks.map encU) v2 (ms.map encI) ∧ Below w.heap.size w X ∧ n3 ≤ X.heap.size

theorem TyI.open {w X : World} {n3 : Nat} {l : List Bl} (h : TyI w n3 l X) : TyJ w n3 (kdsT l) ((kdsT l).map (cntT l)) X := by
 obtain ⟨v1, v2, h1, h2, h3, h4, h5⟩ := h
 refine ⟨v1, v2, h1, h2, h3, ?_, h5⟩
 rw [List.map_map]
 exact h4
theorem TyI.shut {w X : World} {n3 : Nat} {l : List Bl} (h : TyJ w n3 (kdsT l) ((kdsT l).map (cntT l)) X) : TyI w n3 l X := by
 obtain ⟨v1, v2, h1, h2, h3, h4, h5⟩ := h
 refine ⟨v1, v2, h1, h2, h3, ?_, h5⟩
 rw [List.map_map] at h4
 exact h4

theorem TyJ.alloc {w X : World} {n3 : Nat} {ks ms : List Nat} (h : TyJ w n3 ks ms X) (hn : w.heap.size + 3 ≤ n3) (o : Obj) : TyJ w n3 ks ms (X.alloc o) := by
 obtain ⟨v1, v2, ⟨h1, f1⟩, ⟨h2, f2⟩, h3, h4, h5, h6⟩ := h
 have hb := below_al (Below.refl X.heap.size X) o
 exact ⟨v1, v2, ⟨(hb.cell (p := ⟨w.heap.size, 0, none⟩) (by show w.heap.size < _; omega)).trans h1, (hb.frozen (p := ⟨w.heap.size, 0, none⟩) (by show w.heap.size < _; omega)).trans f1⟩,
  ⟨(hb.cell (p := ⟨w.heap.size + 1, 0, none⟩) (by show w.heap.size + 1 < _; omega)).trans h2, (hb.frozen (p := ⟨w.heap.size + 1, 0, none⟩) (by show w.heap.size + 1 < _; omega)).trans f2⟩, h3.on (hb.block _ (by omega)), h4.later hb, below_al h5 o, Nat.le_trans h6 hb.size⟩

theorem TyJ.inc {w X : World} {n3 g C i c : Nat} {ks ms : List Nat} {v1 : Value} (hn : w.heap.size + 3 ≤ n3) (h1 : X.cell? ⟨w.heap.size, 0, none⟩ = some v1 ∧ X.frozen? ⟨w.heap.size, 0, none⟩ = false) (h2 : X.cell? ⟨w.heap.size + 1, 0, none⟩ = some (.slice (some ⟨g, 0, none⟩) ms.length C) ∧ X.frozen? ⟨w.heap.size + 1, 0, none⟩ = false)
  (h3 : MapT X (w.heap.size + 2) ks) (h4 : RwT n3 X v1 (ks.map encU) (.slice (some ⟨g, 0, none⟩) ms.length C) (ms.map encI)) (h5 : Below w.heap.size w X) (h6 : n3 ≤ X.heap.size) : TyJ w n3 ks (ms.set i c) (X.setCell ⟨g, i, none⟩ (.int .i64 c)) := by
 have hg := (h4.2.1.row g rfl)
 have hk : ∀ j, j ≠ g → (X.setCell ⟨g, i, none⟩ (.int .i64 c)).heap[j]? = X.heap[j]? := fun j hj => Below.heap_setCell X _ _ j hj
 refine ⟨v1, .slice (some ⟨g, 0, none⟩) ms.length C, ⟨(World.cell?_of_block (a := ⟨w.heap.size, 0, none⟩) (hk _ (by show w.heap.size ≠ g; omega))).trans h1.1, by rw [World.frozen?_setCell]; exact h1.2⟩,
  ⟨(World.cell?_of_block (a := ⟨w.heap.size + 1, 0, none⟩) (hk _ (by show w.heap.size + 1 ≠ g; omega))).trans h2.1, by rw [World.frozen?_setCell]; exact h2.2⟩, h3.on (hk _ (by omega)), ⟨?_, ?_, h4.2.2⟩, h5.setCell (p := ⟨g, i, none⟩) (by show w.heap.size ≤ g; omega) _, by rw [World.size_setCell]; exact h6⟩
 ·rcases h4.1 with ⟨ha, hb⟩
  refine ⟨ha, ?_⟩
  rcases hb with hb | ⟨g1, cap, cur, hv, q1, q2, q3⟩
  ·exact .inl hb
  ·refine .inr ⟨g1, cap, cur, hv, q1, ?_, q3⟩
   have hne : g1 ≠ g := fun e => h4.2.2 g1 (by rw [hv]; rfl) (by rw [e]; rfl)
   exact (hk g1 hne).trans q2
 ·have h := h4.2.1.put (i := i) (.int .i64 c)
  rw [show (Value.int .i64 (c : Int)) = encI c from rfl, ← List.map_set] at h
  exact h

theorem ms_old {l : List Bl} {k : Nat} (h : k < l.length) (hm : l[k].t ∈ kdsT (l.take k)) :
  ((kdsT (l.take k)).map (cntT (l.take k))).set ((kdsT (l.take k)).idxOf l[k].t) (cntT (l.take k) l[k].t + 1) = (kdsT (l.take (k + 1))).map (cntT (l.take (k + 1))) := by
 rw [step_old h hm]
 have hnd := kdsT_nodup (l.take k)
 generalize kdsT (l.take k) = ks at *
 refine List.ext_getElem (by simp) fun j h1 h2 => ?_
 simp only [List.length_set, List.length_map] at h1
 rw [List.getElem_set]
 simp only [List.getElem_map, cntT_step h]
 split
 ·rename_i e
  subst e
  rw [List.getElem_idxOf, if_pos rfl]
 ·rename_i e
  rw [if_neg]
  ·omega
  ·intro e2
   apply e
   have hi := List.idxOf_lt_length_iff.2 hm
   have h3 : ks[ks.idxOf l[k].t] = ks[j] := by rw [List.getElem_idxOf]; exact e2
   exact (List.getElem_inj hnd).1 h3

theorem ms_new {l : List Bl} {k : Nat} (h : k < l.length) (hm : l[k].t ∉ kdsT (l.take k)) :
  (((kdsT (l.take k)).map (cntT (l.take k))) ++ [0]).set (kdsT (l.take k)).length 1 = (kdsT (l.take (k + 1))).map (cntT (l.take (k + 1))) := by
 have h0 : cntT (l.take k) l[k].t = 0 := cntT_zero fun b hb e => hm ((kdsT_mem _ _).2 ⟨b, hb, e⟩)
 rw [kdsT_step h, kdF, if_neg hm, List.map_append]
 have h1 : (kdsT (l.take k)).map (cntT (l.take (k + 1))) = (kdsT (l.take k)).map (cntT (l.take k)) := by
  refine List.map_congr_left fun u hu => ?_
  rw [cntT_step h, if_neg]
  ·omega
  ·intro e
   rw [e] at hm
   exact hm hu
 rw [h1, List.set_append_right _ _ (by simp)]
 simp [cntT_step h, h0]

def TyW (n0 n1 : Nat) (X : World) (K : Nat) (l : List Bl) : Prop := n0 ≤ K ∧ K + 1 < n1 ∧ ∃ A1 C1 A2 C2, X.cell? ⟨K, 0, none⟩ = some (.slice A1 (kdsT l).length C1) ∧ X.cell? ⟨K + 1, 0, none⟩ = some (.slice A2 (kdsT l).length C2) ∧
 (∀ p, A1 = some p → n0 ≤ p.block ∧ p.block < n1) ∧ (∀ p, A2 = some p → n0 ≤ p.block ∧ p.block < n1) ∧ ∀ k, k < (kdsT l).length → ∃ g1 g2, A1 = some ⟨g1, 0, none⟩ ∧ A2 = some ⟨g2, 0, none⟩ ∧ X.cell? ⟨g1, k, none⟩ = some (.int .u64 (kdAt l k : Nat)) ∧ X.cell? ⟨g2, k, none⟩ = some (.int .i64 (cnAt l k : Nat))

theorem TyW.kept {n0 n1 : Nat} {X Y : World} {K : Nat} {l : List Bl} (h : TyW n0 n1 X K l) (hb : ∀ j, n0 ≤ j → j < n1 → Y.heap[j]? = X.heap[j]?) : TyW n0 n1 Y K l := by
 obtain ⟨h1, h2, A1, C1, A2, C2, h3, h4, h5, h6, h7⟩ := h
 refine ⟨h1, h2, A1, C1, A2, C2, (World.cell?_of_block (a := ⟨K, 0, none⟩) (hb K h1 (by omega))).trans h3, (World.cell?_of_block (a := ⟨K + 1, 0, none⟩) (hb (K + 1) (by omega) h2)).trans h4, h5, h6, fun k hk => ?_⟩
 obtain ⟨g1, g2, e1, e2, c1, c2⟩ := h7 k hk
 obtain ⟨a1, b1⟩ := h5 _ e1
 obtain ⟨a2, b2⟩ := h6 _ e2
 exact ⟨g1, g2, e1, e2, (World.cell?_of_block (a := ⟨g1, k, none⟩) (hb g1 a1 b1)).trans c1, (World.cell?_of_block (a := ⟨g2, k, none⟩) (hb g2 a2 b2)).trans c2⟩

theorem own_slice {X : World} {n3 : Nat} {e : TypeId} {v : Value} {ys : List Value} (h : OwnV X n3 e v ys) : ∃ A C, v = .slice A ys.length C ∧ ys.length ≤ C ∧ (∀ p, A = some p → n3 ≤ p.block ∧ p.block < X.heap.size) ∧ ∀ k y, ys[k]? = some y → ∃ g, A = some ⟨g, 0, none⟩ ∧ X.cell? ⟨g, k, none⟩ = some y ∧ X.frozen? ⟨g, k, none⟩ = false := by
 rcases h.form with ⟨rfl, rfl⟩ | ⟨g, cap, rfl, h1, h2, h3, _, h4, h5⟩
 ·exact ⟨none, 0, rfl, Nat.le_refl _, fun p hp => (by cases hp), fun k y hy => by simp at hy⟩
 ·refine ⟨_, cap, rfl, h3, fun p hp => ?_, fun k y hy => ⟨g, rfl, ?_, h5 k⟩⟩
  ·injection hp with hp
   subst hp
   exact ⟨h1, h2⟩
  ·rw [h4 k (List.getElem?_eq_some_iff.1 hy).1]
   exact hy

theorem TyI.done {w X : World} {n3 : Nat} {l : List Bl} (h : TyI w n3 l X) (hn : w.heap.size + 3 ≤ n3) : Below w.heap.size w X ∧ TyW w.heap.size X.heap.size X w.heap.size l := by
 obtain ⟨v1, v2, ⟨h1, f1⟩, ⟨h2, f2⟩, h3, h4, h5, h6⟩ := h
 obtain ⟨A1, C1, rfl, _, p1, q1⟩ := own_slice h4.1
 obtain ⟨A2, C2, rfl, _, p2, q2⟩ := own_slice h4.2.1
 rw [List.length_map] at h1 h2
 refine ⟨h5, Nat.le_refl _, by omega, A1, C1, A2, C2, h1, h2, fun p hp => ⟨by have := (p1 p hp).1; omega, (p1 p hp).2⟩, fun p hp => ⟨by have := (p2 p hp).1; omega, (p2 p hp).2⟩, fun k hk => ?_⟩
 have e : (kdsT l)[k]? = some (kdAt l k) := by rw [kdAt, List.getElem?_eq_getElem hk]; rfl
 obtain ⟨g1, e1, c1, _⟩ := q1 k (encU (kdAt l k)) (by rw [List.getElem?_map, e]; rfl)
 obtain ⟨g2, e2, c2, _⟩ := q2 k (encI (cnAt l k)) (by rw [List.getElem?_map, e]; rfl)
 exact ⟨g1, g2, e1, e2, c1, c2⟩

theorem TyJ.two {w X : World} {n3 : Nat} {ks ms : List Nat} {v1 v2 u1 u2 : Value} (hn : w.heap.size + 3 ≤ n3) (h1 : X.cell? ⟨w.heap.size, 0, none⟩ = some u1 ∧ X.frozen? ⟨w.heap.size, 0, none⟩ = false) (h2 : X.cell? ⟨w.heap.size + 1, 0, none⟩ = some u2 ∧ X.frozen? ⟨w.heap.size + 1, 0, none⟩ = false)
  (h3 : MapT X (w.heap.size + 2) ks) (h4 : RwT n3 X v1 (ks.map encU) v2 (ms.map encI)) (h5 : Below w.heap.size w X) (h6 : n3 ≤ X.heap.size) : TyJ w n3 ks ms ((X.setCell ⟨w.heap.size, 0, none⟩ v1).setCell ⟨w.heap.size + 1, 0, none⟩ v2) := by
 have hk : ∀ j, j ≠ w.heap.size → j ≠ w.heap.size + 1 → ((X.setCell ⟨w.heap.size, 0, none⟩ v1).setCell ⟨w.heap.size + 1, 0, none⟩ v2).heap[j]? = X.heap[j]? := fun j hj hj2 => (Below.heap_setCell _ _ _ j hj2).trans (Below.heap_setCell _ _ _ j hj)
 have hw : ∀ {e : TypeId} {v : Value} {ys : List Value}, OwnV X n3 e v ys → OwnV ((X.setCell ⟨w.heap.size, 0, none⟩ v1).setCell ⟨w.heap.size + 1, 0, none⟩ v2) n3 e v ys := fun h => by
  rcases h with ⟨ha, hb⟩
  refine ⟨ha, ?_⟩
  rcases hb with hb | ⟨g1, cap, cur, hv, q1, q2, q3⟩
  ·exact .inl hb
  ·exact .inr ⟨g1, cap, cur, hv, q1, (hk g1 (by omega) (by omega)).trans q2, q3⟩
 have h7 : (X.setCell ⟨w.heap.size, 0, none⟩ v1).cell? ⟨w.heap.size + 1, 0, none⟩ = some u2 := (World.cell?_of_block (a := ⟨w.heap.size + 1, 0, none⟩) (Below.heap_setCell _ _ _ _ (by show w.heap.size + 1 ≠ w.heap.size; omega))).trans h2.1
 refine ⟨v1, v2, ⟨(World.cell?_of_block (a := ⟨w.heap.size, 0, none⟩) (Below.heap_setCell _ _ _ _ (by show w.heap.size ≠ w.heap.size + 1; omega))).trans (World.cell?_setCell_same _ _ _ h1.1), by rw [World.frozen?_setCell, World.frozen?_setCell]; exact h1.2⟩,
  ⟨World.cell?_setCell_same _ _ _ h7, by rw [World.frozen?_setCell, World.frozen?_setCell]; exact h2.2⟩, h3.on (hk _ (by omega) (by omega)), ⟨hw h4.1, hw h4.2.1, h4.2.2⟩, (h5.setCell (p := ⟨w.heap.size, 0, none⟩) (Nat.le_refl _) _).setCell (p := ⟨w.heap.size + 1, 0, none⟩) (by show w.heap.size ≤ w.heap.size + 1; omega) _, by rw [World.size_setCell, World.size_setCell]; exact h6⟩

theorem RwT.same {n3 : Nat} {X Y : World} {v1 v2 : Value} {xs1 xs2 : List Value} (h : RwT n3 X v1 xs1 v2 xs2) (hk : ∀ j, n3 ≤ j → Y.heap[j]? = X.heap[j]?) : RwT n3 Y v1 xs1 v2 xs2 := by
 have hw : ∀ {e : TypeId} {v : Value} {ys : List Value}, OwnV X n3 e v ys → OwnV Y n3 e v ys := fun h => by
  rcases h with ⟨ha, hb⟩
  refine ⟨ha, ?_⟩
  rcases hb with hb | ⟨g1, cap, cur, hv, q1, q2, q3⟩
  ·exact .inl hb
  ·exact .inr ⟨g1, cap, cur, hv, q1, (hk g1 q1).trans q2, q3⟩
 exact ⟨hw h.1, hw h.2.1, h.2.2⟩

theorem tAdd_below {w X : World} {M t B : Nat} {ks : List Nat} (hM : B ≤ M) (h : Below B w X) : Below B w (tAdd X M t ks) :=
 ⟨h.os, h.tape, h.output, by rw [tAdd_size]; exact h.size, fun j hj => by
  rw [← h.block j hj, tAdd, setBlock]
  simp [Array.getElem?_setIfInBounds]
  omega⟩

theorem TyI.belowI {w X : World} {n3 : Nat} {l : List Bl} (h : TyI w n3 l X) : Below w.heap.size w X := by
 obtain ⟨_, _, _, _, _, _, h5, _⟩ := h
 exact h5
theorem below_on' {w X Y : World} (h : Below w.heap.size w X) (hb : Below X.heap.size X Y) : Below w.heap.size w Y := h.trans (hb.mono h.size)

theorem typs_any (xs : List LB) (A : Option Addr) (C : Nat) (w : World) (hl : RdLs w w.heap.size A xs) (hC : xs.length ≤ C) (hs : xs.length ≤ 50000) :
  Calls Tryz.prog 22 #[.slice A xs.length C] w fun e w' => e = .returned (.func (.func 50) #[] #[.pointer (some ⟨w.heap.size, 0, none⟩), .pointer (some ⟨w.heap.size + 1, 0, none⟩)]) ∧ Below w.heap.size w w' ∧ TyW w.heap.size w'.heap.size w' w.heap.size (xs.map LB.b) := by
 have hmm := @run_makeMap Tryz.prog
 have hmf : ∀ (fn : Fn) (first cap : Array Value) (w : World), (Instr.makeFunc fn first cap).run Tryz.prog w = .ok (.func fn first cap) w := fun _ _ _ _ => rfl
 obtain ⟨W, hW⟩ : ∃ W, W = ((w.alloc (.cells #[.slice none 0 0] 92)).alloc (.cells #[.slice none 0 0] 99)).alloc (.map #[] 0) := ⟨_, rfl⟩
 obtain ⟨n3, hn3⟩ : ∃ n3, n3 = w.heap.size + 3 := ⟨_, rfl⟩
 have hsW : W.heap.size = n3 := by rw [hW, hn3]; simp
 have HI0 : Hid (TyI w n3 [] W) := by
  have hb1 := below_al (Below.refl w.heap.size w) (.cells #[.slice none 0 0] 92)
  have hb2 := below_al (Below.refl (w.alloc (.cells #[.slice none 0 0] 92)).heap.size (w.alloc (.cells #[.slice none 0 0] 92))) (.cells #[.slice none 0 0] 99)
  have hb3 := below_al (Below.refl ((w.alloc (.cells #[.slice none 0 0] 92)).alloc (.cells #[.slice none 0 0] 99)).heap.size ((w.alloc (.cells #[.slice none 0 0] 92)).alloc (.cells #[.slice none 0 0] 99))) (.map #[] 0)
  rw [← hW] at hb3
  have r1 := (RowB.new w [.slice none 0 0] 92).on (below_on hb2 hb3) (by simp)
  have r2 := (RowB.new (w.alloc (.cells #[.slice none 0 0] 92)) [.slice none 0 0] 99).on hb3 (by simp)
  rw [World.size_alloc] at r2
  refine ⟨_, _, ⟨r1.1 0 _ rfl, r1.2 0⟩, ⟨r2.1 0 _ rfl, r2.2 0⟩, ?_, ⟨OwnV.nil _ _ _, OwnV.nil _ _ _, fun r e => by cases e⟩, below_on hb1 (below_on hb2 hb3), by rw [hsW]; exact Nat.le_refl _⟩
  rw [hW]
  have h := map_at ((w.alloc (.cells #[.slice none 0 0] 92)).alloc (.cells #[.slice none 0 0] 99)) #[] 0
  simpa [MapT, kdsT, tE] using h
 have HLs : Hid (∀ w', Below w.heap.size w w' → RdLs w' w'.heap.size A xs) := fun w' h => hl.on h
 have HN : Hid (w.heap.size + 3 ≤ n3) := by rw [Hid, hn3]; exact Nat.le_refl _
 have HW := h_ hW
 have HN' := h_ hn3
 have HSW := h_ hsW
 clear hW hn3 hsW hl
 go_enter Tryz.func22, Tryz.ntmps22
 go_wp2_with fail
 rw [← HW.out]
 go_loopw [13] (fun i wr => ∃ k : Nat, k ≤ xs.length ∧ i = .int .i64 k ∧ Hid (TyI w n3 ((xs.map LB.b).take k) wr)) (fun i _ => xs.length - (intOf i).toNat)
 case atStart => exact ⟨0, Nat.zero_le _, rfl, HI0.out⟩
 case round =>
  obtain ⟨k, hk, rfl, HI⟩ := hrel
  by_cases hlt : k < xs.length
  ·obtain ⟨z, hz⟩ : ∃ z, xs[k]? = some z := ⟨_, List.getElem?_eq_getElem hlt⟩
   obtain ⟨v1, v2, ⟨k1, f1⟩, ⟨k2, f2⟩, hmap, hrw, hbl, hsz⟩ := TyI.open HI.out
   have hl2 := HLs.out wr hbl
   obtain ⟨g0, o0, rfl, hgr, hc1⟩ : ∃ g o, A = some ⟨g, o, none⟩ ∧ g < wr.heap.size ∧ CellB wr g (o + k * 4) z := by
    rcases hl2.2 with rfl | ⟨g, o, e, hg, h⟩
    ·simp at hlt
    ·exact ⟨g, o, e, hg, h k z hz⟩
   obtain ⟨e0, e1, e2, e3⟩ := hc1
   obtain ⟨A1, C1, rfl, _, _, _⟩ := own_slice hrw.1
   obtain ⟨A2, C2, rfl, _, _, _⟩ := own_slice hrw.2.1
   have hkl : k < (xs.map LB.b).length := by simpa using hlt
   have hzb : (xs.map LB.b)[k] = z.b := by
    rw [List.getElem_map]
    rw [List.getElem?_eq_getElem hlt] at hz
    rw [Option.some.inj hz]
   have hpO := ms_old hkl
   have hpN := ms_new hkl
   have hqO := step_old hkl
   have hqN : (xs.map LB.b)[k].t ∉ kdsT ((xs.map LB.b).take k) → kdsT ((xs.map LB.b).take (k + 1)) = kdsT ((xs.map LB.b).take k) ++ [(xs.map LB.b)[k].t] := fun h => by rw [kdsT_step hkl, kdF, if_neg h]
   rw [hzb] at hpO hpN hqO hqN
   have HPO := h_ hpO
   have HPN := h_ hpN
   have HQO := h_ hqO
   have HQN := h_ hqN
   have HCn : Hid (∀ t, cntT ((xs.map LB.b).take k) t ≤ 50000) := fun t => Nat.le_trans (cntT_le _ _) (by rw [List.length_take, List.length_map]; omega)
   have hkln : (kdsT ((xs.map LB.b).take k)).length ≤ 50000 := Nat.le_trans (kdsT_len _) (by rw [List.length_take, List.length_map]; omega)
   have hnd := kdsT_nodup ((xs.map LB.b).take k)
   obtain ⟨f, hf⟩ : ∃ f, f = cntT ((xs.map LB.b).take k) := ⟨_, rfl⟩
   rw [← hf] at HPO HPN HCn hrw
   obtain ⟨t, ht⟩ : ∃ t, t = z.b.t := ⟨_, rfl⟩
   rw [← ht] at HPO HPN HQO HQN e0
   generalize kdsT ((xs.map LB.b).take k) = ks at *
   simp only [List.length_map] at k1 k2 hrw
   have hlk := run_tlookup (wr.alloc (.cells #[.int .u64 t, .int .u64 z.b.n, .int .i64 z.b.s, .slice z.a z.b.d.length z.c] 26)) (w.heap.size + 2) t ks (hmap.on (Below.heap_alloc _ _ _ (by have := HN.out; omega)))
   obtain ⟨Y, hY⟩ : ∃ Y, Y = wr.alloc (.cells #[.int .u64 t, .int .u64 z.b.n, .int .i64 z.b.s, .slice z.a z.b.d.length z.c] 26) := ⟨_, rfl⟩
   have HJ0 : Hid (TyJ w n3 ks (ks.map f) Y) := by
    rw [hY]
    exact TyJ.alloc ⟨_, _, ⟨k1, f1⟩, ⟨k2, f2⟩, hmap, hrw, hbl, hsz⟩ HN.out _
   have HYs : Hid (wr.heap.size < Y.heap.size ∧ Y.cell? ⟨wr.heap.size, 0, none⟩ = some (.int .u64 t)) := by
    rw [hY]
    exact ⟨by simp, box_at bR 0⟩
   have HYd := h_ hY
   have HLk : Hid ((Instr.lookup 100 (.map (some (w.heap.size + 2))) (.int .u64 (t : Int)) true).run Tryz.prog Y = .ok (.tuple #[.int .i64 (atT ks t), .bool (decide (t ∈ ks))]) Y) := by rw [hY]; exact hlk
   have HRW := h_ hrw
   have HSZ := h_ hsz
   clear hrw hbl hsz hl2 hzb hkl hpO hpN hqO hqN hz hf hY ht
   by_cases hm : t ∈ ks
   ·have hlk2 := HLk.out
    rw [decide_eq_true hm, show atT ks t = ((ks.idxOf t : Nat) : Int) from if_pos hm, HYd.out] at hlk2
    replace hlk2 : (Instr.lookup 100 (.map (some (w.heap.size + 1 + 1))) (.int .u64 (t : Int)) true).run Tryz.prog _ = .ok _ _ := hlk2
    have hix := List.idxOf_lt_length_iff.2 hm
    have HCi : Hid (∃ c, (ks.map f)[ks.idxOf t]? = some c ∧ c ≤ 50000) := ⟨f t, by rw [List.getElem?_map, List.getElem?_eq_getElem hix, List.getElem_idxOf]; rfl, HCn.out t⟩
    have HFinal : Hid (∀ c, (ks.map f)[ks.idxOf t]? = some c → ∀ X, TyJ w n3 ks ((ks.map f).set (ks.idxOf t) (c + 1)) X → TyI w n3 ((xs.map LB.b).take (k + 1)) X) := fun c hc X hX => by
     have e : c = f t := by
      rw [List.getElem?_map, List.getElem?_eq_getElem hix, List.getElem_idxOf] at hc
      exact (Option.some.inj hc).symm
     rw [e, HPO.out hm] at hX
     have h := HQO.out hm
     rw [← h] at hX
     exact TyI.shut hX
    generalize ks.idxOf t = i at *
    have HJ := HJ0
    clear hm hlk hnd HQN HQO HPN HPO HJ0
    go_upto_region 12 with fail
    rw [← HYd.out]
    clear e0 e1 e2 e3 k1 f1 k2 f2 hlk2 hmap
    obtain ⟨v1, v2, ⟨k1, f1⟩, ⟨k2, f2⟩, hmap, hrw, hbl, hsz⟩ := HJ.out
    obtain ⟨A3, C3, rfl, _, p2, q2⟩ := own_slice hrw.2.1
    obtain ⟨c, hc, hc5⟩ := HCi.out
    obtain ⟨g, rfl, c2, f3⟩ := q2 i (encI c) (by rw [List.getElem?_map, hc]; rfl)
    rw [List.length_map] at k2 hrw
    have hil : i < (ks.map f).length := (List.getElem?_eq_some_iff.1 hc).1
    have hg : g < Y.heap.size := (p2 _ rfl).2
    have HFin : Hid (TyJ w n3 ks ((ks.map f).set i (c + 1)) (Y.setCell ⟨g, i, none⟩ (.int .i64 ((c + 1 : Nat) : Int)))) := TyJ.inc HN.out ⟨k1, f1⟩ ⟨k2, f2⟩ hmap hrw hbl hsz
    replace c2 : Y.cell? ⟨g, i, none⟩ = some (.int .i64 (c : Int)) := c2
    have HFin2 := h_ (HFinal.out c hc _ HFin.out)
    have hcc : ((c + 1 : Nat) : Int) = (c : Int) + 1 := by omega
    rw [hcc] at HFin2
    obtain ⟨n2, hn2⟩ : ∃ n2, n2 = (ks.map f).length := ⟨_, rfl⟩
    rw [← hn2] at k2 hil
    clear hmap hrw hbl hsz p2 q2 hc hcc k1 f1 HFin hn2
    go_wp2_with fail
    go_roundw
    case rel => exact ⟨k + 1, by omega, by go_num, HFin2.out⟩
    case measure => simp [intOf]; omega
   ·have hlk2 := HLk.out
    rw [decide_eq_false hm, show atT ks t = 0 from if_neg hm, HYd.out] at hlk2
    replace hlk2 : (Instr.lookup 100 (.map (some (w.heap.size + 1 + 1))) (.int .u64 (t : Int)) true).run Tryz.prog _ = .ok _ _ := hlk2
    have hbA : Below wr.heap.size wr Y := by rw [HYd.out]; exact below_al bR _
    have hbig : w.heap.size + 2 < wr.heap.size := by have h1 := HN.out; have h2 := HSZ.out; omega
    have hmY : MapT Y (w.heap.size + 2) ks := hmap.on (hbA.block _ hbig)
    have hup := run_tupdate Y (w.heap.size + 2) t ks hmY hm
    obtain ⟨Z0, hZ0⟩ : ∃ Z0, Z0 = tAdd Y (w.heap.size + 2) t ks := ⟨_, rfl⟩
    rw [← hZ0, HYd.out] at hup
    replace hup : (Instr.mapUpdate 100 (.map (some (w.heap.size + 1 + 1))) (.int .u64 (t : Int)) (.int .i64 (ks.length : Nat))).run Tryz.prog _ = .ok () Z0 := hup
    have hZh : ∀ j, j ≠ w.heap.size + 2 → Z0.heap[j]? = Y.heap[j]? := fun j hj => by rw [hZ0]; exact tAdd_other hmY hj
    have hZs : Z0.heap.size = Y.heap.size := by rw [hZ0]; exact tAdd_size
    obtain ⟨Y1, hY1⟩ : ∃ Y1, Y1 = Z0.drew := ⟨_, rfl⟩
    have hY1h : ∀ j, j ≠ w.heap.size + 2 → Y1.heap[j]? = Y.heap[j]? := fun j hj => by rw [hY1]; exact hZh j hj
    have hY1s : Y1.heap.size = Y.heap.size := by rw [hY1]; exact hZs
    have hbZ : Below w.heap.size w Y1 := by
     rw [hY1, hZ0]
     exact (tAdd_below (by omega) (below_on' (HI.out.belowI) hbA)).drew
    obtain ⟨bb, hbb⟩ : ∃ bb, bb = wr.heap.size := ⟨_, rfl⟩
    have hYbb := HYs.out
    rw [← hbb] at hYbb hbig
    have HLen : Hid (ks.length ≤ 50000) := hkln
    have HN3 : Hid (n3 ≤ Y1.heap.size) := by rw [Hid, hY1s]; have h1 := HSZ.out; omega
    have HBbl : Hid (bb < Y1.heap.size) := by rw [Hid, hY1s]; exact hYbb.1
    have HNb : Hid ((Value.slice A1 ks.length C1).ownBlock ≠ some bb ∧ (Value.slice A2 ks.length C2).ownBlock ≠ some bb) := ⟨fun e => by have := (HRW.out.1.row _ e).2; omega, fun e => by have := (HRW.out.2.1.row _ e).2; omega⟩
    have HRw1 : Hid (RwT n3 Y1 (.slice A1 ks.length C1) (ks.map encU) (.slice A2 ks.length C2) ((ks.map f).map encI)) := (HRW.out.later hbA).same fun j hj => hY1h j (by have h1 := HN.out; omega)
    have HRwY1 := HRw1
    have HBlY1 : Hid (Below n3 Y1 Y1) := Below.refl _ _
    have HSzY1 : Hid (Y1.heap.size ≤ Y1.heap.size) := Nat.le_refl _
    have HBbY1 : Hid (Y1.heap[bb]? = Y1.heap[bb]?) := rfl
    have hcellY : ∀ p : Addr, p.block < bb → p.block ≠ w.heap.size + 2 → Y1.cell? p = wr.cell? p ∧ Y1.frozen? p = wr.frozen? p := fun p hp hp2 => by
     have e := (hY1h p.block hp2).trans (hbA.block p.block (by omega))
     exact ⟨World.cell?_of_block e, by simp only [World.frozen?, e]⟩
    have HKn : Hid (w.heap.size < n3 ∧ w.heap.size + 1 < n3) := by have h1 := HN.out; exact ⟨by omega, by omega⟩
    have HFz : Hid (Y1.frozen? ⟨w.heap.size, 0, none⟩ = false ∧ Y1.frozen? ⟨w.heap.size + 1, 0, none⟩ = false) := ⟨(hcellY ⟨w.heap.size, 0, none⟩ (by show w.heap.size < bb; omega) (by show w.heap.size ≠ w.heap.size + 2; omega)).2.trans f1, (hcellY ⟨w.heap.size + 1, 0, none⟩ (by show w.heap.size + 1 < bb; omega) (by show w.heap.size + 1 ≠ w.heap.size + 2; omega)).2.trans f2⟩
    have hs1 : Y1.cell? ⟨w.heap.size, 0, none⟩ = some (.slice A1 ks.length C1) := (hcellY ⟨w.heap.size, 0, none⟩ (by show w.heap.size < bb; omega) (by show w.heap.size ≠ w.heap.size + 2; omega)).1.trans k1
    have hs2 : Y1.cell? ⟨w.heap.size + 1, 0, none⟩ = some (.slice A2 ks.length C2) := (hcellY ⟨w.heap.size + 1, 0, none⟩ (by show w.heap.size + 1 < bb; omega) (by show w.heap.size + 1 ≠ w.heap.size + 2; omega)).1.trans k2
    have hs3 : Y1.cell? ⟨bb, 0, none⟩ = some (.int .u64 t) := (World.cell?_of_block (a := ⟨bb, 0, none⟩) (hY1h bb (by omega))).trans hYbb.2
    have HS : Hid (∀ X, Below n3 Y1 X → X.heap[bb]? = Y1.heap[bb]? → X.cell? ⟨w.heap.size, 0, none⟩ = some (.slice A1 ks.length C1) ∧ X.cell? ⟨w.heap.size + 1, 0, none⟩ = some (.slice A2 ks.length C2) ∧ X.cell? ⟨bb, 0, none⟩ = some (.int .u64 t)) := fun X hb hx =>
     ⟨(hb.cell (p := ⟨w.heap.size, 0, none⟩) HKn.out.1).trans hs1, (hb.cell (p := ⟨w.heap.size + 1, 0, none⟩) HKn.out.2).trans hs2, (World.cell?_of_block (a := ⟨bb, 0, none⟩) hx).trans hs3⟩
    have HMp : Hid (∀ X, Below n3 Y1 X → MapT X (w.heap.size + 2) (ks ++ [t])) := fun X hb => by
     have h : MapT Y1 (w.heap.size + 2) (ks ++ [t]) := by rw [hY1, hZ0]; exact (tAdd_map hmY).on rfl
     exact h.on (hb.block _ (by have h1 := HN.out; omega))
    have HBw : Hid (∀ X, Below n3 Y1 X → Below w.heap.size w X) := fun X hb => hbZ.trans (hb.mono (by have h1 := HN.out; omega))
    have HCi : Hid (∃ c, (ks.map f ++ [0])[ks.length]? = some c ∧ c ≤ 50000) := ⟨0, by rw [List.getElem?_append_right (by simp)]; simp, by omega⟩
    have HFinal : Hid (∀ c, (ks.map f ++ [0])[ks.length]? = some c → ∀ X, TyJ w n3 (ks ++ [t]) ((ks.map f ++ [0]).set ks.length (c + 1)) X → TyI w n3 ((xs.map LB.b).take (k + 1)) X) := fun c hc X hX => by
     have e : c = 0 := by
      rw [List.getElem?_append_right (by simp)] at hc
      simpa using hc.symm
     rw [e, HPN.out hm] at hX
     have h := HQN.out hm
     rw [← h] at hX
     exact TyI.shut hX
    have HY1 := h_ hY1
    have HZh := h_ hZh
    have e0' : Z0.cell? ⟨bb, 0, none⟩ = some (.int .u64 t) := (World.cell?_of_block (a := ⟨bb, 0, none⟩) (hZh bb (by omega))).trans hYbb.2
    rw [hbb] at e0'
    have k1a : Y.cell? ⟨w.heap.size, 0, none⟩ = some (.slice A1 ks.length C1) := (hbA.cell (p := ⟨w.heap.size, 0, none⟩) (by show w.heap.size < wr.heap.size; omega)).trans k1
    rw [HYd.out] at k1a
    clear hm hlk hnd HQN HQO HPN HPO HJ0 hbA hmY hZ0 hY1 hY1h hY1s hbZ hYbb hcellY hs3 hZh hZs hkln
    go_upto_region 11 with fail
    clear e0 e1 e2 e3 k1 f1 k2 f2 hlk2 hup k1a hmap e0'
    rw [← hbb]
    clear hbb
    refine wp_region_C (fun i w' => (i < 9 → w'.cell? ⟨w.heap.size + 1, 0, none⟩ = some (.slice A2 ks.length C2)) ∧ (i < 8 → i ≠ 5 → w'.cell? ⟨w.heap.size, 0, none⟩ = some (.slice A1 ks.length C1) ∧ w'.cell? ⟨bb, 0, none⟩ = some (.int .u64 t))) (by kernel_rfl) ?_
    rw [← HY1.out]
    have hS0 := HS.out Y1 bR rfl
    refine wpAnyC_take (i := 5) (T := 9) (S := (fun w' => w'.cell? ⟨w.heap.size + 1, 0, none⟩ = some (.slice A2 ks.length C2))) (v := ?_) rfl (by kernel_rfl) (by kernel_rfl) (by kernel_rfl) (by kernel_rfl) (fun _ _ _ h => h) (Or.inl ⟨by rfl, ?_⟩) hS0.2.1 ⟨fun _ => hS0.2.1, fun _ h => absurd rfl h⟩ (fun j w hj _ hc => ⟨hc.1 hj, ⟨fun _ => hc.1 hj, fun _ h => absurd rfl h⟩⟩) ?_
    rotate_left
    ·intro w hSw; (try dsimp only at hSw); go_simp; all_goals with_reducible rfl
    simp only [Act.put, zA, zB, zC]
    refine wpAnyC_take (i := 0) (T := 8) (S := (fun w' => w'.cell? ⟨w.heap.size, 0, none⟩ = some (.slice A1 ks.length C1) ∧ w'.cell? ⟨w.heap.size + 1, 0, none⟩ = some (.slice A2 ks.length C2) ∧ w'.cell? ⟨bb, 0, none⟩ = some (.int .u64 t))) (v := ?_) rfl (by kernel_rfl) (by kernel_rfl) (by kernel_rfl) (by kernel_rfl) (fun _ _ _ h => h) (Or.inl ⟨by rfl, ?_⟩) hS0 ⟨fun _ => hS0.2.1, fun _ _ => ⟨hS0.1, hS0.2.2⟩⟩ (fun j w hj hun hc => by
      have h5 : j ≠ 5 := by
       rintro rfl
       simp at hun
      have h := hc.2 hj h5
      have h2 := hc.1 (by omega)
      exact ⟨⟨h.1, h2, h.2⟩, fun _ => h2, fun _ _ => h⟩) ?_
    rotate_left
    ·intro w hSw; (try dsimp only at hSw); go_simp; all_goals with_reducible rfl
    simp only [Act.put, zA, zB, zC]
    refine wpAnyC_take (i := 1) (T := 8) (S := (fun w' => w'.cell? ⟨w.heap.size, 0, none⟩ = some (.slice A1 ks.length C1) ∧ w'.cell? ⟨w.heap.size + 1, 0, none⟩ = some (.slice A2 ks.length C2) ∧ w'.cell? ⟨bb, 0, none⟩ = some (.int .u64 t))) (v := ?_) rfl (by kernel_rfl) (by kernel_rfl) (by kernel_rfl) (by kernel_rfl) (fun _ _ _ h => h) (Or.inl ⟨by rfl, ?_⟩) hS0 ⟨fun _ => hS0.2.1, fun _ _ => ⟨hS0.1, hS0.2.2⟩⟩ (fun j w hj hun hc => by
      have h5 : j ≠ 5 := by
       rintro rfl
       simp at hun
      have h := hc.2 hj h5
      have h2 := hc.1 (by omega)
      exact ⟨⟨h.1, h2, h.2⟩, fun _ => h2, fun _ _ => h⟩) ?_
    rotate_left
    ·intro w hSw; (try dsimp only at hSw); go_simp; all_goals with_reducible rfl
    simp only [Act.put, zA, zB, zC]
    refine wpAnyC_take (i := 2) (T := 8) (S := (fun w' => w'.cell? ⟨w.heap.size, 0, none⟩ = some (.slice A1 ks.length C1) ∧ w'.cell? ⟨w.heap.size + 1, 0, none⟩ = some (.slice A2 ks.length C2) ∧ w'.cell? ⟨bb, 0, none⟩ = some (.int .u64 t))) (v := ?_) rfl (by kernel_rfl) (by kernel_rfl) (by kernel_rfl) (by kernel_rfl) (fun _ _ _ h => h) (Or.inl ⟨by rfl, ?_⟩) hS0 ⟨fun _ => hS0.2.1, fun _ _ => ⟨hS0.1, hS0.2.2⟩⟩ (fun j w hj hun hc => by
      have h5 : j ≠ 5 := by
       rintro rfl
       simp at hun
      have h := hc.2 hj h5
      have h2 := hc.1 (by omega)
      exact ⟨⟨h.1, h2, h.2⟩, fun _ => h2, fun _ _ => h⟩) ?_
    rotate_left
    ·intro w hSw; (try dsimp only at hSw); go_simp; all_goals with_reducible rfl
    simp only [Act.put, zA, zB, zC]
    clear hS0 hs1 hs2
    refine wpAnyC_two (i := 3) (k := 6) (by kernel_rfl) rfl rfl (fun K hK => ?_) (fun K hK => ?_)
    ·obtain ⟨P1, hP1⟩ : ∃ Y, Y = Y1.alloc (.cells #[.int .u64 t] 22) := ⟨_, rfl⟩
     have hbA : Below Y1.heap.size Y1 P1 := by rw [hP1]; exact below_al bR _
     have HBlP1 : Hid (Below n3 Y1 P1) := HBlY1.out.trans (hbA.mono (Nat.le_trans HN3.out HSzY1.out))
     have HSzP1 : Hid (Y1.heap.size ≤ P1.heap.size) := Nat.le_trans HSzY1.out hbA.size
     have HBbP1 : Hid (P1.heap[bb]? = Y1.heap[bb]?) := (hbA.block bb (Nat.lt_of_lt_of_le HBbl.out HSzY1.out)).trans HBbY1.out
     have HRwP1 : Hid (RwT n3 P1 (.slice A1 ks.length C1) (ks.map encU) (.slice A2 ks.length C2) ((ks.map f).map encI)) := HRwY1.out.later hbA
     have L1P1 : Hid (Src P1 (some ⟨Y1.heap.size, 0, none⟩) [(encU t)]) := by rw [hP1]; exact src_new Y1 (encU t) 22
     have HQL1 : Hid (Y1.heap.size ≤ Y1.heap.size ∧ Y1.heap.size < P1.heap.size) := ⟨HSzY1.out, by rw [hP1]; simp⟩
     have HSqL1P1 : Hid (P1.heap.size ≤ P1.heap.size) := Nat.le_refl _
     clear hbA
     go_simp
     rw [← hP1]
     refine hK.out _ _ ⟨fun _ => (HS.out P1 HBlP1.out HBbP1.out).2.1, fun _ _ => ⟨(HS.out P1 HBlP1.out HBbP1.out).1, (HS.out P1 HBlP1.out HBbP1.out).2.2⟩⟩ ?_
     clear hP1
     clear hK K
     try simp only [Act.put, zA, zB, zC]
     refine wpAnyC_two (i := 4) (k := 6) (by kernel_rfl) rfl rfl (fun K hK => ?_) (fun K hK => ?_)
     ·obtain ⟨u1, P2, hrun, hrw, hbA, hsA, hgr, hob⟩ := appU1 HRwP1.out Y1.heap.size t L1P1.out (Nat.lt_of_lt_of_le HQL1.out.2 HSqL1P1.out) (fun e => by have h1 := (HRw1.out.1.row _ e).2; have h2 := HQL1.out.1; omega) (by simp; have := HLen.out; omega) (Nat.le_trans HN3.out HSzP1.out)
      have HBlP2 : Hid (Below n3 Y1 P2) := HBlP1.out.trans hbA
      have HSzP2 : Hid (Y1.heap.size ≤ P2.heap.size) := Nat.le_trans HSzP1.out hsA
      have HBbP2 : Hid (P2.heap[bb]? = Y1.heap[bb]?) := (hgr.block bb (Nat.lt_of_lt_of_le HBbl.out HSzP1.out) (fun e => by have h1 := HNb.out.1; exact h1 e.symm)).trans HBbP1.out
      have HRwP2 := h_ hrw
      refine step_runX (by rfl) _ _ _ _ (by rfl) _ _ _ _ (by rfl) (by rfl) hrun ?_
      refine hK.out _ _ ⟨fun _ => (HS.out P2 HBlP2.out HBbP2.out).2.1, fun _ _ => ⟨(HS.out P2 HBlP2.out HBbP2.out).1, (HS.out P2 HBlP2.out HBbP2.out).2.2⟩⟩ ?_
      clear hrun hrw hbA hsA hgr hob
      clear hK K
      try simp only [Act.put, zA, zB, zC]
      refine wpAnyC_one (i := 6) (by kernel_rfl) rfl (fun K hK => ?_)
      obtain ⟨P3, hP3⟩ : ∃ Y, Y = P2.alloc (.cells #[.int .i64 0] 3) := ⟨_, rfl⟩
      have hbA : Below P2.heap.size P2 P3 := by rw [hP3]; exact below_al bR _
      have HBlP3 : Hid (Below n3 Y1 P3) := HBlP2.out.trans (hbA.mono (Nat.le_trans HN3.out HSzP2.out))
      have HSzP3 : Hid (Y1.heap.size ≤ P3.heap.size) := Nat.le_trans HSzP2.out hbA.size
      have HBbP3 : Hid (P3.heap[bb]? = Y1.heap[bb]?) := (hbA.block bb (Nat.lt_of_lt_of_le HBbl.out HSzP2.out)).trans HBbP2.out
      have HRwP3 : Hid (RwT n3 P3 u1 ((ks.map encU) ++ [encU t]) (.slice A2 ks.length C2) ((ks.map f).map encI)) := HRwP2.out.later hbA
      have L2P3 : Hid (Src P3 (some ⟨P2.heap.size, 0, none⟩) [(encI 0)]) := by rw [hP3]; exact src_new P2 (encI 0) 3
      have HQL2 : Hid (Y1.heap.size ≤ P2.heap.size ∧ P2.heap.size < P3.heap.size) := ⟨HSzP2.out, by rw [hP3]; simp⟩
      have HSqL2P3 : Hid (P3.heap.size ≤ P3.heap.size) := Nat.le_refl _
      clear hbA
      go_simp
      rw [← hP3]
      refine hK.out _ _ ⟨fun _ => (HS.out P3 HBlP3.out HBbP3.out).2.1, fun _ _ => ⟨(HS.out P3 HBlP3.out HBbP3.out).1, (HS.out P3 HBlP3.out HBbP3.out).2.2⟩⟩ ?_
      clear hP3
      clear hK K
      try simp only [Act.put, zA, zB, zC]
      refine wpAnyC_one (i := 7) (by kernel_rfl) rfl (fun K hK => ?_)
      obtain ⟨u2, P4, hrun, hrw, hbA, hsA, hgr, hob⟩ := appI1 HRwP3.out P2.heap.size 0 L2P3.out (by simp; have := HLen.out; omega) (Nat.le_trans HN3.out HSzP3.out)
      have HBlP4 : Hid (Below n3 Y1 P4) := HBlP3.out.trans hbA
      have HSzP4 : Hid (Y1.heap.size ≤ P4.heap.size) := Nat.le_trans HSzP3.out hsA
      have HBbP4 : Hid (P4.heap[bb]? = Y1.heap[bb]?) := (hgr.block bb (Nat.lt_of_lt_of_le HBbl.out HSzP3.out) (fun e => by have h1 := HNb.out.2; exact h1 e.symm)).trans HBbP3.out
      have HRwP4 := h_ hrw
      refine step_runX (by rfl) _ _ _ _ (by rfl) _ _ _ _ (by rfl) (by rfl) hrun ?_
      refine hK.out _ _ ⟨fun _ => (HS.out P4 HBlP4.out HBbP4.out).2.1, fun _ _ => ⟨(HS.out P4 HBlP4.out HBbP4.out).1, (HS.out P4 HBlP4.out HBbP4.out).2.2⟩⟩ ?_
      clear hrun hrw hbA hsA hgr hob
      clear hK K
      try simp only [Act.put, zA, zB, zC]
      obtain ⟨A5, n5, C5, rfl⟩ : ∃ A n C, u1 = .slice A n C := by
       obtain ⟨A, C, e, _⟩ := own_slice HRwP4.out.1
       exact ⟨A, _, C, e⟩
      obtain ⟨A6, n6, C6, rfl⟩ : ∃ A n C, u2 = .slice A n C := by
       obtain ⟨A, C, e, _⟩ := own_slice HRwP4.out.2.1
       exact ⟨A, _, C, e⟩
      obtain ⟨s1, s2, _⟩ := HS.out P4 HBlP4.out HBbP4.out
      have s2' : (P4.setCell ⟨w.heap.size, 0, none⟩ (.slice A5 n5 C5)).cell? ⟨w.heap.size + 1, 0, none⟩ = some (.slice A2 ks.length C2) := (World.cell?_of_block (a := ⟨w.heap.size + 1, 0, none⟩) (Below.heap_setCell _ _ _ _ (by show w.heap.size + 1 ≠ w.heap.size; omega))).trans s2
      have g1 := (HBlP4.out.frozen (p := ⟨w.heap.size, 0, none⟩) HKn.out.1).trans HFz.out.1
      have g2 := (HBlP4.out.frozen (p := ⟨w.heap.size + 1, 0, none⟩) HKn.out.2).trans HFz.out.2
      refine wpAnyC_one (i := 8) (by kernel_rfl) rfl (fun K hK => ?_)
      go_simp
      refine hK.out _ _ ⟨fun _ => s2', fun h => absurd h (by decide)⟩ ?_
      clear hK K
      try simp only [Act.put, zA, zB, zC]
      refine wpAnyC_one (i := 9) (by kernel_rfl) rfl (fun K hK => ?_)
      go_simp
      refine hK.out _ _ ⟨fun h => absurd h (by decide), fun h => absurd h (by decide)⟩ ?_
      clear hK K
      try simp only [Act.put, zA, zB, zC]
      refine wpAnyC_done (by kernel_rfl) ?_ _
      have HJ : Hid (TyJ w n3 (ks ++ [t]) (ks.map f ++ [0]) ((P4.setCell ⟨w.heap.size, 0, none⟩ (.slice A5 n5 C5)).setCell ⟨w.heap.size + 1, 0, none⟩ (.slice A6 n6 C6))) := TyJ.two HN.out ⟨s1, g1⟩ ⟨s2, g2⟩ (HMp.out P4 HBlP4.out) (by rw [List.map_append, List.map_append]; exact HRwP4.out) (HBw.out P4 HBlP4.out) (Nat.le_trans HN3.out HSzP4.out)
      obtain ⟨Z, hZ⟩ : ∃ Z, Z = ((P4.setCell ⟨w.heap.size, 0, none⟩ (.slice A5 n5 C5)).setCell ⟨w.heap.size + 1, 0, none⟩ (.slice A6 n6 C6)) := ⟨_, rfl⟩
      rw [← hZ] at HJ ⊢
      clear s1 s2 s2' g1 g2 hZ
      obtain ⟨v1, v2, ⟨k1, f1⟩, ⟨k2, f2⟩, hmap, hrw, hbl, hsz⟩ := HJ.out
      obtain ⟨A3, C3, rfl, _, p2, q2⟩ := own_slice hrw.2.1
      obtain ⟨c, hc, hc5⟩ := HCi.out
      obtain ⟨g, rfl, c2, f3⟩ := q2 ks.length (encI c) (by rw [List.getElem?_map, hc]; rfl)
      rw [List.length_map] at k2 hrw
      have hil : ks.length < (ks.map f ++ [0]).length := (List.getElem?_eq_some_iff.1 hc).1
      have hg : g < Z.heap.size := (p2 _ rfl).2
      have HFin : Hid (TyJ w n3 (ks ++ [t]) ((ks.map f ++ [0]).set ks.length (c + 1)) (Z.setCell ⟨g, ks.length, none⟩ (.int .i64 ((c + 1 : Nat) : Int)))) := TyJ.inc HN.out ⟨k1, f1⟩ ⟨k2, f2⟩ hmap hrw hbl hsz
      replace c2 : Z.cell? ⟨g, ks.length, none⟩ = some (.int .i64 (c : Int)) := c2
      have HFin2 := h_ (HFinal.out c hc _ HFin.out)
      have hcc : ((c + 1 : Nat) : Int) = (c : Int) + 1 := by omega
      rw [hcc] at HFin2
      obtain ⟨n2, hn2⟩ : ∃ n2, n2 = (ks.map f ++ [0]).length := ⟨_, rfl⟩
      rw [← hn2] at k2 hil
      clear hmap hrw hbl hsz p2 q2 hc hcc k1 f1 HFin hn2
      go_wp2_with fail
      go_roundw
      case rel => exact ⟨k + 1, by omega, by go_num, HFin2.out⟩
      case measure => simp [intOf]; omega
     ·obtain ⟨P2, hP2⟩ : ∃ Y, Y = P1.alloc (.cells #[.int .i64 0] 3) := ⟨_, rfl⟩
      have hbA : Below P1.heap.size P1 P2 := by rw [hP2]; exact below_al bR _
      have HBlP2 : Hid (Below n3 Y1 P2) := HBlP1.out.trans (hbA.mono (Nat.le_trans HN3.out HSzP1.out))
      have HSzP2 : Hid (Y1.heap.size ≤ P2.heap.size) := Nat.le_trans HSzP1.out hbA.size
      have HBbP2 : Hid (P2.heap[bb]? = Y1.heap[bb]?) := (hbA.block bb (Nat.lt_of_lt_of_le HBbl.out HSzP1.out)).trans HBbP1.out
      have HRwP2 : Hid (RwT n3 P2 (.slice A1 ks.length C1) (ks.map encU) (.slice A2 ks.length C2) ((ks.map f).map encI)) := HRwP1.out.later hbA
      have L2P2 : Hid (Src P2 (some ⟨P1.heap.size, 0, none⟩) [(encI 0)]) := by rw [hP2]; exact src_new P1 (encI 0) 3
      have HQL2 : Hid (Y1.heap.size ≤ P1.heap.size ∧ P1.heap.size < P2.heap.size) := ⟨HSzP1.out, by rw [hP2]; simp⟩
      have L1P2 : Hid (Src P2 (some ⟨Y1.heap.size, 0, none⟩) [encU t]) := Src.later L1P1.out (hbA.block _ (Nat.lt_of_lt_of_le HQL1.out.2 HSqL1P1.out))
      have HSqL1P2 : Hid (P1.heap.size ≤ P2.heap.size) := Nat.le_trans HSqL1P1.out hbA.size
      have HSqL2P2 : Hid (P2.heap.size ≤ P2.heap.size) := Nat.le_refl _
      clear hbA
      go_simp
      rw [← hP2]
      refine hK.out _ _ ⟨fun _ => (HS.out P2 HBlP2.out HBbP2.out).2.1, fun _ _ => ⟨(HS.out P2 HBlP2.out HBbP2.out).1, (HS.out P2 HBlP2.out HBbP2.out).2.2⟩⟩ ?_
      clear hP2
      clear hK K
      try simp only [Act.put, zA, zB, zC]
      refine wpAnyC_one (i := 4) (by kernel_rfl) rfl (fun K hK => ?_)
      obtain ⟨u1, P3, hrun, hrw, hbA, hsA, hgr, hob⟩ := appU1 HRwP2.out Y1.heap.size t L1P2.out (Nat.lt_of_lt_of_le HQL1.out.2 HSqL1P2.out) (fun e => by have h1 := (HRw1.out.1.row _ e).2; have h2 := HQL1.out.1; omega) (by simp; have := HLen.out; omega) (Nat.le_trans HN3.out HSzP2.out)
      have HBlP3 : Hid (Below n3 Y1 P3) := HBlP2.out.trans hbA
      have HSzP3 : Hid (Y1.heap.size ≤ P3.heap.size) := Nat.le_trans HSzP2.out hsA
      have HBbP3 : Hid (P3.heap[bb]? = Y1.heap[bb]?) := (hgr.block bb (Nat.lt_of_lt_of_le HBbl.out HSzP2.out) (fun e => by have h1 := HNb.out.1; exact h1 e.symm)).trans HBbP2.out
      have HRwP3 := h_ hrw
      have L2P3 : Hid (Src P3 (some ⟨P1.heap.size, 0, none⟩) [encI 0]) := Src.later L2P2.out (hgr.block _ (Nat.lt_of_lt_of_le HQL2.out.2 HSqL2P2.out) (fun e => by have h1 := (HRw1.out.1.row _ e.symm).2; have h2 := HQL2.out.1; omega))
      have HSqL2P3 : Hid (P2.heap.size ≤ P3.heap.size) := Nat.le_trans HSqL2P2.out hsA
      refine step_runX (by rfl) _ _ _ _ (by rfl) _ _ _ _ (by rfl) (by rfl) hrun ?_
      refine hK.out _ _ ⟨fun _ => (HS.out P3 HBlP3.out HBbP3.out).2.1, fun _ _ => ⟨(HS.out P3 HBlP3.out HBbP3.out).1, (HS.out P3 HBlP3.out HBbP3.out).2.2⟩⟩ ?_
      clear hrun hrw hbA hsA hgr hob
      clear hK K
      try simp only [Act.put, zA, zB, zC]
      refine wpAnyC_one (i := 7) (by kernel_rfl) rfl (fun K hK => ?_)
      obtain ⟨u2, P4, hrun, hrw, hbA, hsA, hgr, hob⟩ := appI1 HRwP3.out P1.heap.size 0 L2P3.out (by simp; have := HLen.out; omega) (Nat.le_trans HN3.out HSzP3.out)
      have HBlP4 : Hid (Below n3 Y1 P4) := HBlP3.out.trans hbA
      have HSzP4 : Hid (Y1.heap.size ≤ P4.heap.size) := Nat.le_trans HSzP3.out hsA
      have HBbP4 : Hid (P4.heap[bb]? = Y1.heap[bb]?) := (hgr.block bb (Nat.lt_of_lt_of_le HBbl.out HSzP3.out) (fun e => by have h1 := HNb.out.2; exact h1 e.symm)).trans HBbP3.out
      have HRwP4 := h_ hrw
      refine step_runX (by rfl) _ _ _ _ (by rfl) _ _ _ _ (by rfl) (by rfl) hrun ?_
      refine hK.out _ _ ⟨fun _ => (HS.out P4 HBlP4.out HBbP4.out).2.1, fun _ _ => ⟨(HS.out P4 HBlP4.out HBbP4.out).1, (HS.out P4 HBlP4.out HBbP4.out).2.2⟩⟩ ?_
      clear hrun hrw hbA hsA hgr hob
      clear hK K
      try simp only [Act.put, zA, zB, zC]
      obtain ⟨A5, n5, C5, rfl⟩ : ∃ A n C, u1 = .slice A n C := by
       obtain ⟨A, C, e, _⟩ := own_slice HRwP4.out.1
       exact ⟨A, _, C, e⟩
      obtain ⟨A6, n6, C6, rfl⟩ : ∃ A n C, u2 = .slice A n C := by
       obtain ⟨A, C, e, _⟩ := own_slice HRwP4.out.2.1
       exact ⟨A, _, C, e⟩
      obtain ⟨s1, s2, _⟩ := HS.out P4 HBlP4.out HBbP4.out
      have s2' : (P4.setCell ⟨w.heap.size, 0, none⟩ (.slice A5 n5 C5)).cell? ⟨w.heap.size + 1, 0, none⟩ = some (.slice A2 ks.length C2) := (World.cell?_of_block (a := ⟨w.heap.size + 1, 0, none⟩) (Below.heap_setCell _ _ _ _ (by show w.heap.size + 1 ≠ w.heap.size; omega))).trans s2
      have g1 := (HBlP4.out.frozen (p := ⟨w.heap.size, 0, none⟩) HKn.out.1).trans HFz.out.1
      have g2 := (HBlP4.out.frozen (p := ⟨w.heap.size + 1, 0, none⟩) HKn.out.2).trans HFz.out.2
      refine wpAnyC_one (i := 8) (by kernel_rfl) rfl (fun K hK => ?_)
      go_simp
      refine hK.out _ _ ⟨fun _ => s2', fun h => absurd h (by decide)⟩ ?_
      clear hK K
      try simp only [Act.put, zA, zB, zC]
      refine wpAnyC_one (i := 9) (by kernel_rfl) rfl (fun K hK => ?_)
      go_simp
      refine hK.out _ _ ⟨fun h => absurd h (by decide), fun h => absurd h (by decide)⟩ ?_
      clear hK K
      try simp only [Act.put, zA, zB, zC]
      refine wpAnyC_done (by kernel_rfl) ?_ _
      have HJ : Hid (TyJ w n3 (ks ++ [t]) (ks.map f ++ [0]) ((P4.setCell ⟨w.heap.size, 0, none⟩ (.slice A5 n5 C5)).setCell ⟨w.heap.size + 1, 0, none⟩ (.slice A6 n6 C6))) := TyJ.two HN.out ⟨s1, g1⟩ ⟨s2, g2⟩ (HMp.out P4 HBlP4.out) (by rw [List.map_append, List.map_append]; exact HRwP4.out) (HBw.out P4 HBlP4.out) (Nat.le_trans HN3.out HSzP4.out)
      obtain ⟨Z, hZ⟩ : ∃ Z, Z = ((P4.setCell ⟨w.heap.size, 0, none⟩ (.slice A5 n5 C5)).setCell ⟨w.heap.size + 1, 0, none⟩ (.slice A6 n6 C6)) := ⟨_, rfl⟩
      rw [← hZ] at HJ ⊢
      clear s1 s2 s2' g1 g2 hZ
      obtain ⟨v1, v2, ⟨k1, f1⟩, ⟨k2, f2⟩, hmap, hrw, hbl, hsz⟩ := HJ.out
      obtain ⟨A3, C3, rfl, _, p2, q2⟩ := own_slice hrw.2.1
      obtain ⟨c, hc, hc5⟩ := HCi.out
      obtain ⟨g, rfl, c2, f3⟩ := q2 ks.length (encI c) (by rw [List.getElem?_map, hc]; rfl)
      rw [List.length_map] at k2 hrw
      have hil : ks.length < (ks.map f ++ [0]).length := (List.getElem?_eq_some_iff.1 hc).1
      have hg : g < Z.heap.size := (p2 _ rfl).2
      have HFin : Hid (TyJ w n3 (ks ++ [t]) ((ks.map f ++ [0]).set ks.length (c + 1)) (Z.setCell ⟨g, ks.length, none⟩ (.int .i64 ((c + 1 : Nat) : Int)))) := TyJ.inc HN.out ⟨k1, f1⟩ ⟨k2, f2⟩ hmap hrw hbl hsz
      replace c2 : Z.cell? ⟨g, ks.length, none⟩ = some (.int .i64 (c : Int)) := c2
      have HFin2 := h_ (HFinal.out c hc _ HFin.out)
      have hcc : ((c + 1 : Nat) : Int) = (c : Int) + 1 := by omega
      rw [hcc] at HFin2
      obtain ⟨n2, hn2⟩ : ∃ n2, n2 = (ks.map f ++ [0]).length := ⟨_, rfl⟩
      rw [← hn2] at k2 hil
      clear hmap hrw hbl hsz p2 q2 hc hcc k1 f1 HFin hn2
      go_wp2_with fail
      go_roundw
      case rel => exact ⟨k + 1, by omega, by go_num, HFin2.out⟩
      case measure => simp [intOf]; omega
    ·obtain ⟨P1, hP1⟩ : ∃ Y, Y = Y1.alloc (.cells #[.int .i64 0] 3) := ⟨_, rfl⟩
     have hbA : Below Y1.heap.size Y1 P1 := by rw [hP1]; exact below_al bR _
     have HBlP1 : Hid (Below n3 Y1 P1) := HBlY1.out.trans (hbA.mono (Nat.le_trans HN3.out HSzY1.out))
     have HSzP1 : Hid (Y1.heap.size ≤ P1.heap.size) := Nat.le_trans HSzY1.out hbA.size
     have HBbP1 : Hid (P1.heap[bb]? = Y1.heap[bb]?) := (hbA.block bb (Nat.lt_of_lt_of_le HBbl.out HSzY1.out)).trans HBbY1.out
     have HRwP1 : Hid (RwT n3 P1 (.slice A1 ks.length C1) (ks.map encU) (.slice A2 ks.length C2) ((ks.map f).map encI)) := HRwY1.out.later hbA
     have L2P1 : Hid (Src P1 (some ⟨Y1.heap.size, 0, none⟩) [(encI 0)]) := by rw [hP1]; exact src_new Y1 (encI 0) 3
     have HQL2 : Hid (Y1.heap.size ≤ Y1.heap.size ∧ Y1.heap.size < P1.heap.size) := ⟨HSzY1.out, by rw [hP1]; simp⟩
     have HSqL2P1 : Hid (P1.heap.size ≤ P1.heap.size) := Nat.le_refl _
     clear hbA
     go_simp
     rw [← hP1]
     refine hK.out _ _ ⟨fun _ => (HS.out P1 HBlP1.out HBbP1.out).2.1, fun _ _ => ⟨(HS.out P1 HBlP1.out HBbP1.out).1, (HS.out P1 HBlP1.out HBbP1.out).2.2⟩⟩ ?_
     clear hP1
     clear hK K
     try simp only [Act.put, zA, zB, zC]
     refine wpAnyC_one (i := 3) (by kernel_rfl) rfl (fun K hK => ?_)
     obtain ⟨P2, hP2⟩ : ∃ Y, Y = P1.alloc (.cells #[.int .u64 t] 22) := ⟨_, rfl⟩
     have hbA : Below P1.heap.size P1 P2 := by rw [hP2]; exact below_al bR _
     have HBlP2 : Hid (Below n3 Y1 P2) := HBlP1.out.trans (hbA.mono (Nat.le_trans HN3.out HSzP1.out))
     have HSzP2 : Hid (Y1.heap.size ≤ P2.heap.size) := Nat.le_trans HSzP1.out hbA.size
     have HBbP2 : Hid (P2.heap[bb]? = Y1.heap[bb]?) := (hbA.block bb (Nat.lt_of_lt_of_le HBbl.out HSzP1.out)).trans HBbP1.out
     have HRwP2 : Hid (RwT n3 P2 (.slice A1 ks.length C1) (ks.map encU) (.slice A2 ks.length C2) ((ks.map f).map encI)) := HRwP1.out.later hbA
     have L1P2 : Hid (Src P2 (some ⟨P1.heap.size, 0, none⟩) [(encU t)]) := by rw [hP2]; exact src_new P1 (encU t) 22
     have HQL1 : Hid (Y1.heap.size ≤ P1.heap.size ∧ P1.heap.size < P2.heap.size) := ⟨HSzP1.out, by rw [hP2]; simp⟩
     have L2P2 : Hid (Src P2 (some ⟨Y1.heap.size, 0, none⟩) [encI 0]) := Src.later L2P1.out (hbA.block _ (Nat.lt_of_lt_of_le HQL2.out.2 HSqL2P1.out))
     have HSqL2P2 : Hid (P1.heap.size ≤ P2.heap.size) := Nat.le_trans HSqL2P1.out hbA.size
     have HSqL1P2 : Hid (P2.heap.size ≤ P2.heap.size) := Nat.le_refl _
     clear hbA
     go_simp
     rw [← hP2]
     refine hK.out _ _ ⟨fun _ => (HS.out P2 HBlP2.out HBbP2.out).2.1, fun _ _ => ⟨(HS.out P2 HBlP2.out HBbP2.out).1, (HS.out P2 HBlP2.out HBbP2.out).2.2⟩⟩ ?_
     clear hP2
     clear hK K
     try simp only [Act.put, zA, zB, zC]
     refine wpAnyC_one (i := 4) (by kernel_rfl) rfl (fun K hK => ?_)
     obtain ⟨u1, P3, hrun, hrw, hbA, hsA, hgr, hob⟩ := appU1 HRwP2.out P1.heap.size t L1P2.out (Nat.lt_of_lt_of_le HQL1.out.2 HSqL1P2.out) (fun e => by have h1 := (HRw1.out.1.row _ e).2; have h2 := HQL1.out.1; omega) (by simp; have := HLen.out; omega) (Nat.le_trans HN3.out HSzP2.out)
     have HBlP3 : Hid (Below n3 Y1 P3) := HBlP2.out.trans hbA
     have HSzP3 : Hid (Y1.heap.size ≤ P3.heap.size) := Nat.le_trans HSzP2.out hsA
     have HBbP3 : Hid (P3.heap[bb]? = Y1.heap[bb]?) := (hgr.block bb (Nat.lt_of_lt_of_le HBbl.out HSzP2.out) (fun e => by have h1 := HNb.out.1; exact h1 e.symm)).trans HBbP2.out
     have HRwP3 := h_ hrw
     have L2P3 : Hid (Src P3 (some ⟨Y1.heap.size, 0, none⟩) [encI 0]) := Src.later L2P2.out (hgr.block _ (Nat.lt_of_lt_of_le HQL2.out.2 HSqL2P2.out) (fun e => by have h1 := (HRw1.out.1.row _ e.symm).2; have h2 := HQL2.out.1; omega))
     have HSqL2P3 : Hid (P1.heap.size ≤ P3.heap.size) := Nat.le_trans HSqL2P2.out hsA
     refine step_runX (by rfl) _ _ _ _ (by rfl) _ _ _ _ (by rfl) (by rfl) hrun ?_
     refine hK.out _ _ ⟨fun _ => (HS.out P3 HBlP3.out HBbP3.out).2.1, fun _ _ => ⟨(HS.out P3 HBlP3.out HBbP3.out).1, (HS.out P3 HBlP3.out HBbP3.out).2.2⟩⟩ ?_
     clear hrun hrw hbA hsA hgr hob
     clear hK K
     try simp only [Act.put, zA, zB, zC]
     refine wpAnyC_one (i := 7) (by kernel_rfl) rfl (fun K hK => ?_)
     obtain ⟨u2, P4, hrun, hrw, hbA, hsA, hgr, hob⟩ := appI1 HRwP3.out Y1.heap.size 0 L2P3.out (by simp; have := HLen.out; omega) (Nat.le_trans HN3.out HSzP3.out)
     have HBlP4 : Hid (Below n3 Y1 P4) := HBlP3.out.trans hbA
     have HSzP4 : Hid (Y1.heap.size ≤ P4.heap.size) := Nat.le_trans HSzP3.out hsA
     have HBbP4 : Hid (P4.heap[bb]? = Y1.heap[bb]?) := (hgr.block bb (Nat.lt_of_lt_of_le HBbl.out HSzP3.out) (fun e => by have h1 := HNb.out.2; exact h1 e.symm)).trans HBbP3.out
     have HRwP4 := h_ hrw
     refine step_runX (by rfl) _ _ _ _ (by rfl) _ _ _ _ (by rfl) (by rfl) hrun ?_
     refine hK.out _ _ ⟨fun _ => (HS.out P4 HBlP4.out HBbP4.out).2.1, fun _ _ => ⟨(HS.out P4 HBlP4.out HBbP4.out).1, (HS.out P4 HBlP4.out HBbP4.out).2.2⟩⟩ ?_
     clear hrun hrw hbA hsA hgr hob
     clear hK K
     try simp only [Act.put, zA, zB, zC]
     obtain ⟨A5, n5, C5, rfl⟩ : ∃ A n C, u1 = .slice A n C := by
      obtain ⟨A, C, e, _⟩ := own_slice HRwP4.out.1
      exact ⟨A, _, C, e⟩
     obtain ⟨A6, n6, C6, rfl⟩ : ∃ A n C, u2 = .slice A n C := by
      obtain ⟨A, C, e, _⟩ := own_slice HRwP4.out.2.1
      exact ⟨A, _, C, e⟩
     obtain ⟨s1, s2, _⟩ := HS.out P4 HBlP4.out HBbP4.out
     have s2' : (P4.setCell ⟨w.heap.size, 0, none⟩ (.slice A5 n5 C5)).cell? ⟨w.heap.size + 1, 0, none⟩ = some (.slice A2 ks.length C2) := (World.cell?_of_block (a := ⟨w.heap.size + 1, 0, none⟩) (Below.heap_setCell _ _ _ _ (by show w.heap.size + 1 ≠ w.heap.size; omega))).trans s2
     have g1 := (HBlP4.out.frozen (p := ⟨w.heap.size, 0, none⟩) HKn.out.1).trans HFz.out.1
     have g2 := (HBlP4.out.frozen (p := ⟨w.heap.size + 1, 0, none⟩) HKn.out.2).trans HFz.out.2
     refine wpAnyC_one (i := 8) (by kernel_rfl) rfl (fun K hK => ?_)
     go_simp
     refine hK.out _ _ ⟨fun _ => s2', fun h => absurd h (by decide)⟩ ?_
     clear hK K
     try simp only [Act.put, zA, zB, zC]
     refine wpAnyC_one (i := 9) (by kernel_rfl) rfl (fun K hK => ?_)
     go_simp
     refine hK.out _ _ ⟨fun h => absurd h (by decide), fun h => absurd h (by decide)⟩ ?_
     clear hK K
     try simp only [Act.put, zA, zB, zC]
     refine wpAnyC_done (by kernel_rfl) ?_ _
     have HJ : Hid (TyJ w n3 (ks ++ [t]) (ks.map f ++ [0]) ((P4.setCell ⟨w.heap.size, 0, none⟩ (.slice A5 n5 C5)).setCell ⟨w.heap.size + 1, 0, none⟩ (.slice A6 n6 C6))) := TyJ.two HN.out ⟨s1, g1⟩ ⟨s2, g2⟩ (HMp.out P4 HBlP4.out) (by rw [List.map_append, List.map_append]; exact HRwP4.out) (HBw.out P4 HBlP4.out) (Nat.le_trans HN3.out HSzP4.out)
     obtain ⟨Z, hZ⟩ : ∃ Z, Z = ((P4.setCell ⟨w.heap.size, 0, none⟩ (.slice A5 n5 C5)).setCell ⟨w.heap.size + 1, 0, none⟩ (.slice A6 n6 C6)) := ⟨_, rfl⟩
     rw [← hZ] at HJ ⊢
     clear s1 s2 s2' g1 g2 hZ
     obtain ⟨v1, v2, ⟨k1, f1⟩, ⟨k2, f2⟩, hmap, hrw, hbl, hsz⟩ := HJ.out
     obtain ⟨A3, C3, rfl, _, p2, q2⟩ := own_slice hrw.2.1
     obtain ⟨c, hc, hc5⟩ := HCi.out
     obtain ⟨g, rfl, c2, f3⟩ := q2 ks.length (encI c) (by rw [List.getElem?_map, hc]; rfl)
     rw [List.length_map] at k2 hrw
     have hil : ks.length < (ks.map f ++ [0]).length := (List.getElem?_eq_some_iff.1 hc).1
     have hg : g < Z.heap.size := (p2 _ rfl).2
     have HFin : Hid (TyJ w n3 (ks ++ [t]) ((ks.map f ++ [0]).set ks.length (c + 1)) (Z.setCell ⟨g, ks.length, none⟩ (.int .i64 ((c + 1 : Nat) : Int)))) := TyJ.inc HN.out ⟨k1, f1⟩ ⟨k2, f2⟩ hmap hrw hbl hsz
     replace c2 : Z.cell? ⟨g, ks.length, none⟩ = some (.int .i64 (c : Int)) := c2
     have HFin2 := h_ (HFinal.out c hc _ HFin.out)
     have hcc : ((c + 1 : Nat) : Int) = (c : Int) + 1 := by omega
     rw [hcc] at HFin2
     obtain ⟨n2, hn2⟩ : ∃ n2, n2 = (ks.map f ++ [0]).length := ⟨_, rfl⟩
     rw [← hn2] at k2 hil
     clear hmap hrw hbl hsz p2 q2 hc hcc k1 f1 HFin hn2
     go_wp2_with fail
     go_roundw
     case rel => exact ⟨k + 1, by omega, by go_num, HFin2.out⟩
     case measure => simp [intOf]; omega
  ·obtain rfl : k = xs.length := by omega
   have hd : TyI w n3 (xs.map LB.b) wr := by
    have h := HI.out
    rwa [List.take_of_length_le (by simp)] at h
   have HD := h_ (hd.done HN.out)
   clear hd hlt HI
   go_wp2_with fail
   go_ret
   exact ⟨rfl, HD.out.1, HD.out.2⟩

end Go.Proofs.YtiahakbkagipkaaGreatDoor
