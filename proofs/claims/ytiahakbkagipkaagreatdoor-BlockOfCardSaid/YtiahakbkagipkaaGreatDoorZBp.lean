/- Joined texts. -/
import Derived.Test.YtiahakbkagipkaaGreatDoorZJa
import Derived.Maps.OwnOps
import Derived.Maps.OwnSet
import Derived.Maps.Views
import Derived.WideKeyEntry
import Derived.Test.YtiahakbkagipkaaGreatDoorZJf
import Derived.DeepKeys4
import Derived.RegionTactic
import Derived.BigRegion
import Derived.Deep.QuietTactic
import Derived.BigQuiet
set_option maxHeartbeats 4000000
set_option linter.unusedSimpArgs false
set_option linter.unusedVariables false
set_option maxRecDepth 100000
namespace Go.Proofs.YtiahakbkagipkaaGreatDoor
open Go Go.RowKit Go.Shelf
open Go.Maps (Keyed)
open Go.ChangeMaps (setBlock heap_setBlock_same modify_eq_set)
open Go.WideElems (Fit rd rg pl rd_val elemAt)

section
variable {H : Type} {P : Program} {k e t : TypeId} {w : World} {b n : Nat} {D : DataW H}

theorem find_last (K : Keyed P k) (w : World) {key : Value} {kl : Lit} (hkey : keyOf P k key = some kl) (l : List MapEntry) (z : Value) (st : Nat) (hl : ∀ x ∈ l, ∃ q, keyOf P k x.key = some q) (hn : ∀ x ∈ l, x.key ≠ key) :
  ∃ i, (Instr.findKey k key (l ++ [⟨key, z, st⟩])).run P w = .ok (some (i, z)) w := by
 rcases K.find w hkey (l ++ [⟨key, z, st⟩]) (by
  intro x hx
  rcases List.mem_append.1 hx with h | h
  ·exact hl x h
  ·simp only [List.mem_singleton] at h
   subst h
   exact ⟨kl, hkey⟩) with ⟨_, h2⟩ | ⟨j, e0, h1, h2, h3⟩
 ·exact absurd rfl (h2 ⟨key, z, st⟩ (by simp))
 ·have hm : e0 ∈ l ++ [⟨key, z, st⟩] := List.mem_of_getElem? h2
  rcases List.mem_append.1 hm with h | h
  ·exact absurd h3 (hn e0 h)
  ·simp only [List.mem_singleton] at h
   subst h
   exact ⟨j, h1⟩

theorem store_run {w1 : World} {es1 : Array MapEntry} {clock1 st i : Nat} (hb1 : w1.heap[b]? = some (.map es1 clock1)) (hidx : es1.findIdx? (fun e => ((e.born : Nat) : Int) == ((st : Nat) : Int)) = some i) (v : Value) :
  (Instr.entryStore t (.map (some b)) (.int .i64 st) v).run P w1 = .ok () (setBlock w1 b (.map (es1.modify i fun e => { e with val := v }) clock1)) := by
 simp [Instr.entryStore, MapKept.run_getObj_map hb1, asInt, asIntOf, hidx, MapKept.run_setObj_map _ hb1, Result.andThen, setBlock]

theorem setBlock_twice (w : World) (b : Nat) (o o' : Obj) : setBlock (setBlock w b o) b o' = setBlock w b o' := by
 simp [setBlock]

theorem incr_run (K : Keyed P k) (ht : P.underlying t = some (.map k e)) (he : P.underlying e = some (.int .i64)) (hz : ∀ u : World, (zeroValue e).run P u = .ok (.int .i64 0) u)
  (hown : w.ownsMap P k (plainElem P e) b n D) (hn : n < maxLen) {key : Value} {kl : Lit} (hkey : keyOf P k key = some kl) :
  ∃ (c : Int) (st : Nat) (w1 : World), D.atKey kl (.lit (.int .i64 0)) = .lit (.int .i64 c) ∧ (Instr.lookup t (.map (some b)) key false).run P w = .ok (.int .i64 c) w ∧
   (Instr.mapEntry t (.map (some b)) key).run P w = .ok (.tuple #[.int .i64 c, .int .i64 st]) w1 ∧ (Instr.lookup t (.map (some b)) key false).run P w1 = .ok (.int .i64 c) w1 ∧
   ∀ c' : Int, (Lit.int .i64 c').wf = true → ∃ w2, (Instr.entryStore t (.map (some b)) (.int .i64 st) (.int .i64 c')).run P w1 = .ok () w2 ∧ w2.ownsMap P k (plainElem P e) b (n + 1) (D.put kl (.lit (.int .i64 c'))) ∧ w.grownBy w2 (some b) := by
 obtain ⟨c, hrun, hat, _⟩ := hown.lookup_int K ht he (hz w) hkey
 have hup := fun (c' : Int) (hw' : (Lit.int .i64 c').wf = true) => hown.update K ht hn hkey (plainElem_int (H := H) he hw')
 obtain ⟨es, clock, hb, F, _, rfl⟩ := hown
 obtain ⟨s1, s2, _⟩ := F.stamped
 have heap1 : ∀ (es1 : Array MapEntry) (clock1 : Nat), (setBlock w b (.map es1 clock1)).heap[b]? = some (.map es1 clock1) := fun es1 clock1 => heap_setBlock_same hb _
 rcases K.find w hkey es.toList F.keys with ⟨h1, h2⟩ | ⟨j, e0, h1, h2, h3⟩
 ·have hc : c = 0 := by
    simp [Instr.lookup, run_underlying ht, MapKept.run_getObj_map hb, K.check w _ hkey, h1, hz, Result.andThen] at hrun
    omega
  subst hc
  refine ⟨0, clock, setBlock w b (.map (es.push ⟨key, .int .i64 0, clock⟩) (clock + 1)), hat, hrun, ?_, ?_, fun c' hw' => ?_⟩
  ·simp [Instr.mapEntry, run_underlying ht, MapKept.run_getObj_map hb, K.check w false hkey, h1, hz, MapKept.run_setObj_map _ hb, Result.andThen, setBlock, goInt]
  ·obtain ⟨i, hi⟩ := find_last K (setBlock w b (.map (es.push ⟨key, .int .i64 0, clock⟩) (clock + 1))) hkey es.toList (.int .i64 0) clock F.keys h2
   simp [Instr.lookup, run_underlying ht, MapKept.run_getObj_map (heap1 _ _), K.check _ _ hkey, hi, Result.andThen]
  ·obtain ⟨w2, hr2, ho2, hg2⟩ := hup c' hw'
   refine ⟨w2, ?_, ho2, hg2⟩
   rw [← hr2]
   have hidx : (es.push ⟨key, .int .i64 0, clock⟩).findIdx? (fun e => ((e.born : Nat) : Int) == ((clock : Nat) : Int)) = some es.size := by
    rw [WideElems.findIdx_arr]
    exact WideElems.findIdx_born (l := (es.push ⟨key, .int .i64 0, clock⟩).toList) (j := es.size) (e0 := ⟨key, .int .i64 0, clock⟩) (by
     simp only [Array.toList_push, List.map_append, List.map_cons, List.map_nil]
     refine List.nodup_append.2 ⟨s2, by simp, fun a ha c hc e1 => ?_⟩
     simp only [List.mem_singleton] at hc
     obtain ⟨x, hx, rfl⟩ := List.mem_map.1 ha
     have := s1 x hx
     omega) (by simp)
   have hmod : (es.push ⟨key, .int .i64 0, clock⟩).modify es.size (fun e => { e with val := .int .i64 c' }) = es.push ⟨key, .int .i64 c', clock⟩ := by
    apply Array.ext'
    rw [Array.toList_modify, Array.toList_push, Array.toList_push, ← Array.length_toList, WideElems.modify_last]
   rw [store_run (heap1 _ _) hidx, setBlock_twice, hmod]
   simp [Instr.mapUpdate, run_underlying ht, MapKept.run_getObj_map hb, K.check w false hkey, h1, MapKept.run_setObj_map _ hb, Result.andThen, setBlock]
 ·have hv0 : e0.val = .int .i64 c := by
    simp [Instr.lookup, run_underlying ht, MapKept.run_getObj_map hb, K.check w _ hkey, h1, Result.andThen] at hrun
    exact hrun
  have hj : es[j]? = some e0 := by simpa using h2
  have hsame : es.modify j (fun e => { e with key := key }) = es := by
   apply Array.ext'
   rw [Array.toList_modify, modify_eq_set _ _ _ _ h2]
   have : ({ e0 with key := key } : MapEntry) = e0 := by rw [← h3]
   rw [this]
   exact WideElems.set_self _ _ _ h2
  refine ⟨c, e0.born, setBlock w b (.map es clock), hat, hrun, ?_, ?_, fun c' hw' => ?_⟩
  ·simp [Instr.mapEntry, run_underlying ht, MapKept.run_getObj_map hb, K.check w false hkey, h1, hj, h3, hv0, K.stays w hkey, hsame, MapKept.run_setObj_map _ hb, Result.andThen, setBlock, goInt]
  ·have hf : (Instr.findKey k key es.toList).run P (setBlock w b (.map es clock)) = .ok (some (j, e0.val)) (setBlock w b (.map es clock)) := by
     have hw : setBlock w b (.map es clock) = w := by
      unfold setBlock
      have : w.heap.setIfInBounds b (.map es clock) = w.heap := by
       apply Array.ext'
       rw [Array.toList_setIfInBounds]
       exact WideElems.set_self _ _ _ (by simpa using hb)
      rw [this]
     rw [hw]
     exact h1
   simp [Instr.lookup, run_underlying ht, MapKept.run_getObj_map (heap1 _ _), K.check _ _ hkey, hf, hv0, Result.andThen]
  ·obtain ⟨w2, hr2, ho2, hg2⟩ := hup c' hw'
   refine ⟨w2, ?_, ho2, hg2⟩
   rw [← hr2]
   have hidx : es.findIdx? (fun e => ((e.born : Nat) : Int) == ((e0.born : Nat) : Int)) = some j := by
    rw [WideElems.findIdx_arr]
    exact WideElems.findIdx_born s2 h2
   have hmod : es.modify j (fun e => { e with val := .int .i64 c' }) = es.modify j (fun e' => { e' with key := key, val := .int .i64 c' }) := by
    apply Array.ext'
    rw [Array.toList_modify, Array.toList_modify, modify_eq_set _ _ _ _ h2, modify_eq_set _ _ _ _ h2, ← h3]
   rw [store_run (heap1 _ _) hidx, setBlock_twice, hmod]
   simp [Instr.mapUpdate, run_underlying ht, MapKept.run_getObj_map hb, K.check w false hkey, h1, hj, h3, K.stays w hkey, MapKept.run_setObj_map _ hb, Result.andThen, setBlock]
end

end Go.Proofs.YtiahakbkagipkaaGreatDoor

namespace Go.Proofs.YtiahakbkagipkaaGreatDoor
open Go Go.RowKit Go.Shelf
open Go.Maps (Keyed)

abbrev Cr := UInt32 × Bool
def atX (xs : List Cr) (k : Nat) : Cr := xs[k]?.getD (0, false)

theorem gate_lt (x : Cr) : (x.1.toNat : Int) < 4294967296 := by have := x.1.toNat_lt; omega

def CellX (w : World) (g o : Nat) (x : Cr) : Prop := w.cell? ⟨g, o, none⟩ = some (.int .u32 x.1.toNat) ∧ w.cell? ⟨g, o + 1, none⟩ = some (.bool x.2)

theorem CellX.kept {w w' : World} {g o : Nat} {x : Cr} (h : CellX w g o x) (hb : w'.heap[g]? = w.heap[g]?) : CellX w' g o x :=
 ⟨(World.cell?_of_block (a := ⟨g, o, none⟩) hb).trans h.1, (World.cell?_of_block (a := ⟨g, o + 1, none⟩) hb).trans h.2⟩

def RdX (w : World) (B : Nat) (a : Option Addr) (xs : List Cr) : Prop := xs = [] ∨ ∃ b o, a = some ⟨b, o, none⟩ ∧ b < B ∧ ∀ j, j < xs.length → CellX w b (o + j * 2) (atX xs j)

theorem RdX.below {w w' : World} {B : Nat} {a : Option Addr} {xs : List Cr} (h : RdX w B a xs) (hb : Below B w w') : RdX w' B a xs := by
 rcases h with h | ⟨b, o, e, hlt, hc⟩
 ·exact .inl h
 ·exact .inr ⟨b, o, e, hlt, fun j hj => (hc j hj).kept (hb.block b hlt)⟩

theorem RdX.mono {w : World} {B B' : Nat} {a : Option Addr} {xs : List Cr} (h : RdX w B a xs) (hB : B ≤ B') : RdX w B' a xs := by
 rcases h with h | ⟨b, o, e, hlt, hc⟩
 ·exact .inl h
 ·exact .inr ⟨b, o, e, by omega, hc⟩

theorem RdX.on {w w' : World} {a : Option Addr} {xs : List Cr} (h : RdX w w.heap.size a xs) (hb : Below w.heap.size w w') : RdX w' w'.heap.size a xs := (h.below hb).mono hb.size

theorem RdX.cells {w : World} {B : Nat} {a : Option Addr} {xs : List Cr} (h : RdX w B a xs) (k : Nat) (hk : k < xs.length) : ∃ g o, a = some ⟨g, o, none⟩ ∧ g < B ∧ CellX w g (o + k * 2) (atX xs k) := by
 rcases h with rfl | ⟨b, o, rfl, hlt, hc⟩
 ·simp at hk
 ·exact ⟨b, o, rfl, hlt, hc k hk⟩

theorem RdX.take {w : World} {B : Nat} {a : Option Addr} {xs : List Cr} (h : RdX w B a xs) (n : Nat) : RdX w B a (xs.take n) := by
 rcases h with rfl | ⟨b, o, e, hlt, hc⟩
 ·exact .inl (by simp)
 ·refine .inr ⟨b, o, e, hlt, fun j hj => ?_⟩
  simp only [List.length_take] at hj
  have e1 : atX (xs.take n) j = atX xs j := by
   unfold atX
   rw [List.getElem?_take_of_lt (by omega)]
  rw [e1]
  exact hc j (by omega)

theorem take_atX (xs : List Cr) (k : Nat) (hk : k < xs.length) : xs.take (k + 1) = xs.take k ++ [atX xs k] := by
 rw [List.take_succ_eq_append_getElem hk]
 simp [atX, List.getElem?_eq_getElem hk]

theorem atX_mem (xs : List Cr) (k : Nat) (hk : k < xs.length) : atX xs k ∈ xs := by
 unfold atX
 rw [List.getElem?_eq_getElem hk]
 exact List.getElem_mem hk

def keyX (x : Cr) : Lit := .string (keyBytes [.int .u32 x.1.toNat, .bool x.2])

theorem keyOf_cross (x : Cr) : keyOf Tryz.prog 138 (.agg #[.int .u32 x.1.toNat, .bool x.2]) = some (keyX x) := by
 have hw : (Lit.int .u32 (x.1.toNat : Int)).wf = true := by
  have := x.1.toNat_lt
  simp [Lit.wf, IntKind.min, IntKind.max, IntKind.signed, IntKind.bits]
  omega
 have h1 : Tryz.prog.keyType 138 = true := by kernel_rfl
 have c0 : Tryz.prog.cellsOf 39 = 1 := by kernel_rfl
 have c1 : Tryz.prog.cellsOf 4 = 1 := by kernel_rfl
 have c2 : Tryz.prog.cellsOf 138 = 2 := by kernel_rfl
 obtain ⟨m, hm⟩ : ∃ m, Tryz.prog.types.size = m + 1 := by
  have h0 : 0 < Tryz.prog.types.size := of_decide_eq_true (by kernel_rfl)
  exact ⟨Tryz.prog.types.size - 1, by omega⟩
 have lit : Tryz.prog.keyLits (m + 1 + 1) 138 (Value.agg #[.int .u32 x.1.toNat, .bool x.2]).cells.toList = some [.int .u32 x.1.toNat, .bool x.2] := by
  simp [Program.keyLits, Tryz.underlying138, Tryz.underlying39, Tryz.underlying4, c0, c1, c2, Value.cells, hw]
 unfold keyOf
 rw [Tryz.underlying138]
 simp only [h1, hm, lit]
 simp [Value.formed, Tryz.underlying138, keyX, c2]

theorem cross_keyed : Keyed Tryz.prog 138 := Keyed.of_law (deep_law_laid (by kernel_rfl) (m := 200) (by decide) (of_decide_eq_true (by kernel_rfl)) (by kernel_rfl) (by kernel_rfl))

theorem keyX_inj {x y : Cr} (h : keyX x = keyX y) : x = y := by
 have h1 := cross_keyed.inj (keyOf_cross x) (h ▸ keyOf_cross y)
 have h2 : [Value.int .u32 (x.1.toNat : Int), .bool x.2] = [.int .u32 (y.1.toNat : Int), .bool y.2] := congrArg (fun v => match v with | .agg l => l.toList | _ => []) h1
 simp only [List.cons.injEq, Value.int.injEq, Value.bool.injEq, true_and, and_true] at h2
 obtain ⟨g, u⟩ := x
 obtain ⟨g', u'⟩ := y
 simp only [Prod.mk.injEq]
 have h3 : (g.toNat : Int) = (g'.toNat : Int) := h2.1
 exact ⟨UInt32.toNat_inj.1 (by omega), h2.2⟩

theorem zero_int (w : World) : (zeroValue 3).run Tryz.prog w = .ok (.int .i64 0) w := by kernel_rfl

end Go.Proofs.YtiahakbkagipkaaGreatDoor

namespace Go.Proofs.YtiahakbkagipkaaGreatDoor
open Go Go.RowKit Go.Shelf
open Go.Maps (Keyed)

abbrev DU := DataW Unit
def i64d (c : Int) : DU := .lit (.int .i64 c)

def CntD (D : DU) (xs : List Cr) : Prop :=
 (∀ y, D.atKey (keyX y) (i64d 0) = i64d (xs.count y)) ∧ (∀ y, Maps.has D (keyX y) = decide (y ∈ xs)) ∧ Maps.size D ≤ xs.length ∧ (Maps.size D = xs.length ↔ xs.Nodup)

theorem CntD.nil : CntD (.map []) [] := ⟨fun _ => rfl, fun _ => rfl, Nat.le_refl _, by simp [Maps.size_eq]⟩

theorem keyX_key (x : Cr) : WideAt.IsKeyLit (keyX x) := cross_keyed.key (keyOf_cross x)

theorem CntD.step {D : DU} {xs : List Cr} (h : CntD D xs) (hD : Maps.Tidy D) (x : Cr) : CntD (D.put (keyX x) (i64d ((xs.count x : Int) + 1))) (xs ++ [x]) := by
 obtain ⟨h1, h2, h3, h4⟩ := h
 have hs := Maps.size_put hD (k := keyX x) (i64d ((xs.count x : Int) + 1))
 refine ⟨fun y => ?_, fun y => ?_, ?_, ?_⟩
 ·by_cases e : y = x
  ·subst e
   rw [Maps.atKey_put_same hD.isMap (keyX_key _)]
   simp [i64d]
  ·rw [Maps.atKey_put_other (fun hk => e (keyX_inj hk)), h1]
   have e' : ¬ x = y := fun q => e q.symm
   simp [List.count_append, List.count_singleton, e']
 ·by_cases e : y = x
  ·subst e
   rw [Maps.has_put_same hD.isMap (keyX_key _)]
   simp
  ·rw [Maps.has_put_other (fun hk => e (keyX_inj hk)), h2]
   simp [e]
 ·rw [hs]
  simp only [List.length_append, List.length_cons, List.length_nil]
  split <;> omega
 ·rw [hs, h2]
  have hnd : (xs ++ [x]).Nodup ↔ xs.Nodup ∧ ¬ x ∈ xs := by
   rw [List.nodup_append]
   constructor
   ·rintro ⟨a, _, b⟩
    exact ⟨a, fun hx => b x hx x (by simp) rfl⟩
   ·rintro ⟨a, b⟩
    refine ⟨a, by simp, fun y hy z hz e => ?_⟩
    simp only [List.mem_singleton] at hz
    subst hz
    subst e
    exact b hy
  rw [hnd]
  simp only [List.length_append, List.length_cons, List.length_nil]
  by_cases hx : x ∈ xs
  ·simp only [hx, decide_true, if_true, not_true_eq_false, and_false, iff_false]
   omega
  ·simp only [hx, decide_false, Bool.false_eq_true, if_false, not_false_eq_true, and_true]
   rw [← h4]
   omega

def MapP (w w' : World) (b : Nat) (xs : List Cr) : Prop :=
 (∃ D : DU, w'.ownsMap Tryz.prog 138 (plainElem Tryz.prog 3) b xs.length D ∧ CntD D xs) ∧ w.heap.size ≤ b ∧ Below w.heap.size w w'

theorem there_any (bk : Bool) (a : Option Addr) (c : Nat) (xs : List Cr) (w : World) (hlen : xs.length ≤ 1000000) (hr : RdX w w.heap.size a xs) :
  Calls Tryz.prog 169 #[.agg #[.bool bk, .slice a xs.length c]] w fun e w' => ∃ b, e = .returned (.map (some b)) ∧ MapP w w' b xs := by
 have HR := h_ hr
 have hmm := @run_makeMap Tryz.prog
 clear hr
 go_enter Tryz.func169, Tryz.ntmps169
 go_wp2_with fail
 go_loopw [11] (fun i wr => ∃ k : Nat, k ≤ xs.length ∧ i = .int .i64 k ∧ Hid ((∃ D : DU, wr.ownsMap Tryz.prog 138 (plainElem Tryz.prog 3) (w.heap.size + 1) k D ∧ CntD D (xs.take k)) ∧ Below w.heap.size w wr))
  (fun i _ => xs.length - (intOf i).toNat)
 case atStart =>
  refine ⟨0, Nat.zero_le _, rfl, ⟨.map [], ?_, by simpa using CntD.nil⟩, below_al (below_al bR _) _⟩
  have h := World.ownsMap_made (H := Unit) (w.alloc (.cells #[.bool bk, .slice a xs.length c] 174)) Tryz.prog 138 (plainElem Tryz.prog 3)
  rw [World.size_alloc] at h
  exact h
 case round =>
  obtain ⟨k, hk, rfl, HI⟩ := hrel
  by_cases hlt : k < xs.length
  ·obtain ⟨g, o, rfl, hg, hc0⟩ := HR.out.cells k hlt
   have hc1 := hc0.kept (HI.out.2.block g hg)
   obtain ⟨q0, q1⟩ := hc1
   clear hc0
   obtain ⟨D, hown, hcnt⟩ := HI.out.1
   obtain ⟨W5, hW5⟩ : ∃ W, W = wr.alloc (.cells #[.int .u32 (atX xs k).1.toNat, .bool (atX xs k).2] 138) := ⟨_, rfl⟩
   have ho5 : W5.drew.ownsMap Tryz.prog 138 (plainElem Tryz.prog 3) (w.heap.size + 1) k D := by rw [hW5]; exact (hown.alloc _).drew
   obtain ⟨cc, st, w1, e0, e1, e2, e3, e4⟩ := incr_run cross_keyed Tryz.underlying229 Tryz.underlying3 zero_int ho5 (by unfold maxLen; omega) (keyOf_cross (atX xs k))
   have hcc : cc = ((xs.take k).count (atX xs k) : Int) := by
    have h := hcnt.1 (atX xs k)
    rw [i64d, e0] at h
    simpa [i64d] using h
   have hcc0 : 0 ≤ cc := by omega
   have hcc1 : cc ≤ 1000000 := by
    have := List.count_le_length (a := atX xs k) (l := xs.take k)
    simp only [List.length_take] at this
    omega
   obtain ⟨w2, e5, ho2, hg2⟩ := e4 (cc + 1) (by simp [Lit.wf, IntKind.min, IntKind.max, IntKind.signed, IntKind.bits]; omega)
   have HN : Hid ((∃ D : DU, w2.ownsMap Tryz.prog 138 (plainElem Tryz.prog 3) (w.heap.size + 1) (k + 1) D ∧ CntD D (xs.take (k + 1))) ∧ Below w.heap.size w w2) := by
    refine ⟨⟨_, ho2, ?_⟩, ?_⟩
    ·rw [take_atX xs k hlt, hcc]
     exact hcnt.step (hown.tidy cross_keyed) _
    ·have hb5 : Below w.heap.size w W5.drew := by rw [hW5]; exact (below_al HI.out.2 _).drew
     exact hb5.grown hg2 hb5.size (fun r e => by cases e; omega)
   have p0 : W5.drew.cell? ⟨wr.heap.size, 0, none⟩ = some (.int .u32 (atX xs k).1.toNat) := by rw [hW5]; simp
   have p1 : W5.drew.cell? ⟨wr.heap.size, 1, none⟩ = some (.bool (atX xs k).2) := by rw [hW5]; simp
   have HW5 := h_ hW5
   clear hW5 e0 e4 hcc hg2 ho2 ho5 hown hcnt
   generalize atX xs k = x at *
   go_wp2_with fail
   rw [← HW5.out]
   go_region
   all_goals
    go_wp2_with fail
    go_roundw
    case rel => exact ⟨k + 1, by omega, by go_num, HN⟩
    case measure => simp [intOf]; omega
  ·obtain rfl : k = xs.length := by omega
   have h := HI.out
   rw [List.take_length] at h
   have HI2 := h_ h
   clear h HI
   go_wp2_with fail
   go_ret
   exact ⟨_, rfl, HI2.out.1, by omega, HI2.out.2⟩

end Go.Proofs.YtiahakbkagipkaaGreatDoor
