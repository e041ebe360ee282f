/- Joined texts. -/
import Derived.Test.YteldifnkeekafaaGreatDoorZAdD1
import Derived.Test.YteldifnkeekafaaGreatDoorZAdD2
import Derived.Test.YteldifnkeekafaaGreatDoorZAdD3
set_option maxHeartbeats 8000000
set_option linter.unusedSimpArgs false
set_option linter.unusedVariables false
set_option maxRecDepth 100000
namespace Go.Proofs.YteldifnkeekafaaGreatDoor
open Go Go.RowKit Go.Shelf

attribute [local go_sem] Oper.semAt_some

theorem drun_update (w : World) (es : Array MapEntry) (c : Nat) (k : Int) (v : Value) (hf : Instr.findNow (.int .i64) (.int .i64 k) es.toList 0 = some none) :
  (Instr.mapUpdate 86 (.map (some w.heap.size)) (.int .i64 k) v).run Tryz.prog (w.alloc (.map es c)) = .ok () (w.alloc (.map (es.push { key := .int .i64 k, val := v, born := c }) (c + 1))) := by
 have hb := map_at w es c
 have hc : (Instr.checkKey false 10000 24 (.int .i64 k)).run Tryz.prog (w.alloc (.map es c)) = .ok () (w.alloc (.map es c)) := MapKept.run_checkKey (k := .int .i64 k) Tryz.underlying24 (by simp [MapKept.IsKey]) false 9999
 simp [Instr.mapUpdate, run_underlying Tryz.underlying86, MapKept.run_getObj_map hb, hc, MapKept.run_findKey Tryz.underlying24 hf, MapKept.run_setObj_map _ hb, Result.andThen]
 exact map_set w _ _ _ _

def kV (f g : Nat) : Value := .agg #[.func (.func f) #[] #[], .func (.func g) #[] #[]]
def dkE (k f g : Nat) (c : Nat) : MapEntry := { key := .int .i64 k, val := kV f g, born := c }
def dMap : Array MapEntry := #[dkE 1 57 63 0, dkE 2 64 66 1, dkE 3 67 69 2, dkE 4 70 72 3, dkE 5 73 74 4]

theorem dkinds_any (w : World) : Calls Tryz.prog 37 #[] w fun e w' => e = .returned (.map (some w.heap.size)) ∧ w' = w.alloc (.map dMap 5) := by
 have hmm := @run_makeMap Tryz.prog
 have hmf : ∀ (fn : Fn) (first cap : Array Value) (w : World), (Instr.makeFunc fn first cap).run Tryz.prog w = .ok (.func fn first cap) w := fun _ _ _ _ => rfl
 have h0 := drun_update w #[] 0 1 (.agg #[.func (.func 57) #[] #[], .func (.func 63) #[] #[]]) rfl
 have h1 := drun_update w #[dkE 1 57 63 0] 1 2 (.agg #[.func (.func 64) #[] #[], .func (.func 66) #[] #[]]) rfl
 have h2 := drun_update w #[dkE 1 57 63 0, dkE 2 64 66 1] 2 3 (.agg #[.func (.func 67) #[] #[], .func (.func 69) #[] #[]]) rfl
 have h3 := drun_update w #[dkE 1 57 63 0, dkE 2 64 66 1, dkE 3 67 69 2] 3 4 (.agg #[.func (.func 70) #[] #[], .func (.func 72) #[] #[]]) rfl
 have h4 := drun_update w #[dkE 1 57 63 0, dkE 2 64 66 1, dkE 3 67 69 2, dkE 4 70 72 3] 4 5 (.agg #[.func (.func 73) #[] #[], .func (.func 74) #[] #[]]) rfl
 change _ = Result.ok () (w.alloc (.map #[dkE 1 57 63 0] 1)) at h0
 change _ = Result.ok () (w.alloc (.map #[dkE 1 57 63 0, dkE 2 64 66 1] 2)) at h1
 change _ = Result.ok () (w.alloc (.map #[dkE 1 57 63 0, dkE 2 64 66 1, dkE 3 67 69 2] 3)) at h2
 change _ = Result.ok () (w.alloc (.map #[dkE 1 57 63 0, dkE 2 64 66 1, dkE 3 67 69 2, dkE 4 70 72 3] 4)) at h3
 change _ = Result.ok () (w.alloc (.map dMap 5)) at h4
 go_enter Tryz.func37, Tryz.ntmps37
 go_wp2_with fail
 go_ret
 exact ⟨rfl, rfl⟩

def dEnt (k : Int) : Option (Nat × Value) :=
 if k = 1 then some (0, kV 57 63) else if k = 2 then some (1, kV 64 66) else if k = 3 then some (2, kV 67 69) else if k = 4 then some (3, kV 70 72) else if k = 5 then some (4, kV 73 74) else none
theorem dfind_ent (k : Int) : Instr.findNow (.int .i64) (.int .i64 k) dMap.toList 0 = some (dEnt k) := by
 unfold dEnt
 by_cases h0 : k = 1
 ·subst h0; rfl
 by_cases h1 : k = 2
 ·subst h1; rfl
 by_cases h2 : k = 3
 ·subst h2; rfl
 by_cases h3 : k = 4
 ·subst h3; rfl
 by_cases h4 : k = 5
 ·subst h4; rfl
 have e0 : (k == 1) = false := by simp [h0]
 have e1 : (k == 2) = false := by simp [h1]
 have e2 : (k == 3) = false := by simp [h2]
 have e3 : (k == 4) = false := by simp [h3]
 have e4 : (k == 5) = false := by simp [h4]
 simp [dMap, dkE, Instr.findNow, Instr.sameNow, h0, e0, h1, e1, h2, e2, h3, e3, h4, e4]
theorem dEnt_some {k : Int} (h1 : 1 ≤ k) (h5 : k ≤ 5) : (dEnt k).isSome = true := by
 have : k = 1 ∨ k = 2 ∨ k = 3 ∨ k = 4 ∨ k = 5 := by omega
 rcases this with rfl | rfl | rfl | rfl | rfl <;> rfl
theorem dEnt_none {k : Int} (h : ¬ (1 ≤ k ∧ k ≤ 5)) : dEnt k = none := by
 unfold dEnt
 rw [if_neg (by omega), if_neg (by omega), if_neg (by omega), if_neg (by omega), if_neg (by omega)]

theorem dzero_kind (w : World) : (zeroValue 85).run Tryz.prog w = .ok (.agg #[.nilFunc, .nilFunc]) w := by
 first | rfl | kernel_rfl | simp [zeroValue]

def dEntV (r : Option (Nat × Value)) : Value := match r with
 | some (_, v) => v
 | none => .agg #[.nilFunc, .nilFunc]

theorem run_dlookup (w : World) (M : Nat) (k : Int) (r : Option (Nat × Value)) (hb : w.heap[M]? = some (.map dMap 5)) (hf : Instr.findNow (.int .i64) (.int .i64 k) dMap.toList 0 = some r) :
  (Instr.lookup 86 (.map (some M)) (.int .i64 k) true).run Tryz.prog w = .ok (.tuple #[dEntV r, .bool r.isSome]) w := by
 have hc : (Instr.checkKey false 10000 24 (.int .i64 k)).run Tryz.prog w = .ok () w := MapKept.run_checkKey (k := .int .i64 k) Tryz.underlying24 (by simp [MapKept.IsKey]) false 9999
 have he : dMap.isEmpty = false := rfl
 cases r with
 | none => simp [Instr.lookup, run_underlying Tryz.underlying86, MapKept.run_getObj_map hb, he, hc, MapKept.run_findKey Tryz.underlying24 hf, Result.andThen, dzero_kind, dEntV]
 | some p => simp [Instr.lookup, run_underlying Tryz.underlying86, MapKept.run_getObj_map hb, he, hc, MapKept.run_findKey Tryz.underlying24 hf, Result.andThen, dEntV]
theorem run_dlookup1 (w : World) (M : Nat) (k : Int) (r : Option (Nat × Value)) (hb : w.heap[M]? = some (.map dMap 5)) (hf : Instr.findNow (.int .i64) (.int .i64 k) dMap.toList 0 = some r) :
  (Instr.lookup 86 (.map (some M)) (.int .i64 k) false).run Tryz.prog w = .ok (dEntV r) w := by
 have hc : (Instr.checkKey false 10000 24 (.int .i64 k)).run Tryz.prog w = .ok () w := MapKept.run_checkKey (k := .int .i64 k) Tryz.underlying24 (by simp [MapKept.IsKey]) false 9999
 have he : dMap.isEmpty = false := rfl
 cases r with
 | none => simp [Instr.lookup, run_underlying Tryz.underlying86, MapKept.run_getObj_map hb, he, hc, MapKept.run_findKey Tryz.underlying24 hf, Result.andThen, dzero_kind, dEntV]
 | some p => simp [Instr.lookup, run_underlying Tryz.underlying86, MapKept.run_getObj_map hb, he, hc, MapKept.run_findKey Tryz.underlying24 hf, Result.andThen, dEntV]

attribute [local go_sem] Oper.semAt_some

def rdKind (k : Nat) (l : List It) : Option (Rc × List It) := if k = 1 then rdReport l else if k = 2 then rdAsk l else if k = 3 then rdTell l else if k = 4 then rdFore l else rdMember l
def Rc.withK (q : Rc) (k : Int) : Rc := { q with k := k }
def rdR (x : It) : Option Rc := (tkU 1 5 x.l).bind fun p => (rdKind p.1 p.2).bind fun q => if q.2 = [] then some (q.1.withK p.1) else none

def frK (k : Nat) : Nat := if k = 1 then 63 else if k = 2 then 66 else if k = 3 then 69 else if k = 4 then 72 else 74
def flK (k : Nat) : Nat := if k = 1 then 57 else if k = 2 then 64 else if k = 3 then 67 else if k = 4 then 70 else 73
theorem dEntV_k {k : Nat} (h1 : 1 ≤ k) (h5 : k ≤ 5) : dEntV (dEnt (k : Int)) = kV (flK k) (frK k) := by
 have : k = 1 ∨ k = 2 ∨ k = 3 ∨ k = 4 ∨ k = 5 := by omega
 rcases this with rfl | rfl | rfl | rfl | rfl <;> rfl
theorem frK_enters {k : Nat} (h1 : 1 ≤ k) (h5 : k ≤ 5) : ∀ args w, (callFunc (frK k) args).run Tryz.prog w = .ok (.enter (frK k) args) w := by
 have : k = 1 ∨ k = 2 ∨ k = 3 ∨ k = 4 ∨ k = 5 := by omega
 rcases this with rfl | rfl | rfl | rfl | rfl
 ·exact enters_of Tryz.func63 (by kernel_rfl) rfl
 ·exact enters_of Tryz.func66 (by kernel_rfl) rfl
 ·exact enters_of Tryz.func69 (by kernel_rfl) rfl
 ·exact enters_of Tryz.func72 (by kernel_rfl) rfl
 ·exact enters_of Tryz.func74 (by kernel_rfl) rfl
theorem frK_any {k : Nat} (h1 : 1 ≤ k) (h5 : k ≤ 5) (P B : Nat) (l : List It) (w : World) (hd : ∀ y ∈ l, y.depth ≤ 60000) (h : Tk w P B l) : Calls Tryz.prog (frK k) #[.pointer (some ⟨P, 0, none⟩)] w (RdK w P B (rdKind k l) Rc.val) := by
 have : k = 1 ∨ k = 2 ∨ k = 3 ∨ k = 4 ∨ k = 5 := by omega
 rcases this with rfl | rfl | rfl | rfl | rfl
 ·exact dreport_any P B l w hd h
 ·exact dask_any P B l w h
 ·exact dtell_any P B l w h
 ·exact dfore_any P B l w h
 ·exact dmember_any P B l w h

theorem dfield1 (v0 v1 : Value) (w : World) : (Instr.field 85 (.agg #[v0, v1]) 1).run Tryz.prog w = .ok v1 w := by
 first | rfl | kernel_rfl | simp [Instr.field]

theorem dend_any (P B : Nat) (l : List It) (w : World) (h : Tk w P B l) : Calls Tryz.prog 38 #[.pointer (some ⟨P, 0, none⟩)] w fun e w' => w = w' ∧ ((e = .returned (.tuple #[]) ∧ l = []) ∨ (e = gives 180 ∧ l ≠ [])) := by
 obtain ⟨a, c, h1, _⟩ := h
 by_cases hl : l = []
 ·subst hl
  have h1 : w.cell? ⟨P, 0, none⟩ = some (.slice a 0 c) := h1
  go_enter Tryz.func38, Tryz.ntmps38
  go_wp2_with fail
  refine (dneed_yes w).mono ?_
  rintro e w' ⟨rfl, h9⟩
  rw [← h9]
  clear h9 w'
  go_wp2_with fail
  first | go_end0 | skip
  exact ⟨rfl, .inl ⟨rfl, by trivial⟩⟩
 ·have d1 : ((l.length : Int) == 0) = false := by
    have : l.length ≠ 0 := fun h => hl (List.eq_nil_of_length_eq_zero h)
    simp only [beq_eq_false_iff_ne]
    omega
  have HL := h_ hl
  clear hl
  go_enter Tryz.func38, Tryz.ntmps38
  go_wp2_with fail
  refine (dneed_no w).mono ?_
  rintro e w' ⟨rfl, h9⟩
  rw [← h9]
  clear h9 w'
  rw [gives_def]
  go_wp2_with fail
  exact ⟨rfl, rfl, .inr ⟨rfl, HL.out⟩⟩

theorem ItV.dparts {w : World} {B : Nat} {v : Value} {x : It} (h : ItV w B v x) : U64 x.n ∧ x.l.length ≤ 140737488355328 := by
 obtain ⟨k, n, b, s, l⟩ := x
 simp only [ItV] at h
 obtain ⟨A, ⟨a, c, C, _, _, _, h4, _, _, _, h6⟩, _⟩ := h
 exact ⟨h4, h6⟩

theorem ItV.dlist {w : World} {B : Nat} {x : It} {a A : Option Addr} {c C : Nat} (h : ItV w B (.agg #[.int .i64 x.k, .int .u64 x.n, .slice a x.b.length c, .string ⟨x.s.toArray⟩, .slice A x.l.length C]) x) : x.l.length ≤ C ∧ (x.l = [] ∨ ∃ g o, A = some ⟨g, o, none⟩ ∧ g < B ∧ ItL w B g o x.l) := by
 obtain ⟨k, n, b, s, l⟩ := x
 simp only [ItV] at h
 obtain ⟨A1, ⟨a1, c1, C1, e, ⟨_, h2⟩, _⟩, hl⟩ := h
 have e' : [Value.int .i64 k, .int .u64 n, .slice a b.length c, .string ⟨s.toArray⟩, .slice A l.length C] = [.int .i64 k, .int .u64 n, .slice a1 b.length c1, .string ⟨s.toArray⟩, .slice A1 l.length C1] := congrArg (fun v => match v with | .agg l => l.toList | _ => []) e
 simp only [List.cons.injEq, Value.slice.injEq, and_true, true_and] at e'
 obtain ⟨⟨rfl, rfl⟩, rfl, rfl⟩ := e'
 exact ⟨h2, hl⟩

theorem putL_bel {B b : Nat} {w : World} (hb : B ≤ b) : ∀ (vs : List Value) (i : Nat) (w' : World), Below B w w' → Below B w (putL w' b i vs)
 | [], i, w', h => h
 | v :: vs, i, w', h => putL_bel hb vs (i + 1) _ (h.setCell (p := ⟨b, i, none⟩) hb v)

def RdRc (w : World) (r : Option Rc) (e : Ending) (w' : World) : Prop := Below w.heap.size w w' ∧ ((∃ q, r = some q ∧ e = .returned q.val) ∨ (r = none ∧ e = gives 180))

theorem But.belowN {P : Nat} {w0 w w' : World} (h : But P w w') (hP : w0.heap.size ≤ P) (hb : Below w0.heap.size w0 w) : Below w0.heap.size w0 w' := hb.trans (h.below hP hb.size)

theorem dread_any (x : It) (v : Value) (w : World) (hd : ∀ y ∈ x.l, y.depth ≤ 60000) (hv : ItV w w.heap.size v x) : Calls Tryz.prog 20 #[v] w (RdRc w (rdR x)) := by
 obtain ⟨a, c, A, C, rfl⟩ := hv.form
 obtain ⟨W, hW⟩ : ∃ W, W = (w.alloc (.cells #[.int .i64 x.k, .int .u64 x.n, .slice a x.b.length c, .string ⟨x.s.toArray⟩, .slice A x.l.length C] 45)).alloc (.cells #[.int .i64 0, .int .u32 0, .int .u32 0, .int .u64 0, .int .u32 0, .int .i64 0, .int .i64 0, .int .u64 0, .int .u64 0, .int .u32 0, .int .u32 0, .bool false, .int .u64 0, .int .u64 0, .int .u8 0] 32) := ⟨_, rfl⟩
 have hbW : Below w.heap.size w W := by rw [hW]; exact below_al (below_al bR _) _
 have hsW : W.heap.size = w.heap.size + 2 := by rw [hW]; simp
 have HR : Hid (RowB W (w.heap.size + 1) [.int .i64 0, .int .u32 0, .int .u32 0, .int .u64 0, .int .u32 0, .int .i64 0, .int .i64 0, .int .u64 0, .int .u64 0, .int .u32 0, .int .u32 0, .bool false, .int .u64 0, .int .u64 0, .int .u8 0]) := by
  rw [hW]
  have h := RowB.new (w.alloc (.cells #[.int .i64 x.k, .int .u64 x.n, .slice a x.b.length c, .string ⟨x.s.toArray⟩, .slice A x.l.length C] 45)) [.int .i64 0, .int .u32 0, .int .u32 0, .int .u64 0, .int .u32 0, .int .i64 0, .int .i64 0, .int .u64 0, .int .u64 0, .int .u32 0, .int .u32 0, .bool false, .int .u64 0, .int .u64 0, .int .u8 0] 32
  rw [World.size_alloc] at h
  exact h
 have x4 : W.cell? ⟨w.heap.size, 4, none⟩ = some (.slice A x.l.length C) := by
  rw [hW]
  exact ((RowB.new w [.int .i64 x.k, .int .u64 x.n, .slice a x.b.length c, .string ⟨x.s.toArray⟩, .slice A x.l.length C] 45).on (below_al bR _) (by simp)).1 4 _ rfl
 obtain ⟨V, hV⟩ : ∃ V, V = W.alloc (.cells #[.slice A x.l.length C] 80) := ⟨_, rfl⟩
 have hbV : Below W.heap.size W V := by rw [hV]; exact below_al bR _
 have HTk : Hid (Tk V W.heap.size w.heap.size x.l) := by
  have hR := RowB.new W [.slice A x.l.length C] 80
  rw [← hV] at hR
  obtain ⟨hCl, hl⟩ := hv.dlist
  refine ⟨A, C, hR.1 0 _ rfl, hR.2 0, by rw [hV]; simp, hbW.size, hCl, hv.dparts.2, hl.imp id fun ⟨g, o, e, hg, h⟩ => ⟨g, o, e, hg, ItL.below (hbW.trans (hbV.mono hbW.size)) hg _ h⟩⟩
 have HB : Hid (Below w.heap.size w V) := below_on hbW hbV
 have HS : Hid (W.heap.size = w.heap.size + 2 ∧ W.heap.size < V.heap.size) := ⟨hsW, by rw [hV]; simp⟩
 have HRV : Hid (RowB V (w.heap.size + 1) [.int .i64 0, .int .u32 0, .int .u32 0, .int .u64 0, .int .u32 0, .int .i64 0, .int .i64 0, .int .u64 0, .int .u64 0, .int .u32 0, .int .u32 0, .bool false, .int .u64 0, .int .u64 0, .int .u8 0]) := HR.out.on hbV (by omega)
 have HD := h_ hd
 have HW := h_ hW
 have HV := h_ hV
 rw [hW] at x4
 clear hW hV hbW hbV hv hd hsW
 go_enter Tryz.func20, Tryz.ntmps20
 go_upto_region 2 with fail
 rw [← HW.out]
 rw [← HV.out]
 clear x4
 obtain ⟨P, hP⟩ : ∃ P, P = W.heap.size := ⟨_, rfl⟩
 rw [← hP] at HTk HS
 rw [show w.heap.size + 1 + 1 = P by have := HS.out.1; omega]
 have HC := h_ (dnum_k P w.heap.size x.l 1 5 (by decide) (by decide) V HTk.out)
 clear hP HW HV HTk HR
 go_wp2_with fail
 refine HC.out.mono ?_
 rintro e w1 ⟨hb1, ⟨n, l1, hn, rfl, ht1⟩ | ⟨hn, rfl⟩⟩
 rotate_left
 ·have HE : Hid (rdR x = none) := by simp [Hid, rdR, hn]
  have HB1 : Hid (Below w.heap.size w w1) := hb1.belowN (by have := HS.out; omega) HB.out
  clear hb1 hn
  rw [gives_def]
  go_wp2_with fail
  exact ⟨rfl, HB1.out, .inr ⟨HE.out, rfl⟩⟩
 have hn5 : 1 ≤ n ∧ n ≤ 5 := by
  obtain ⟨y, _, _, h2, h3, h4⟩ := tkU_some hn
  omega
 have hd1 : ∀ y ∈ l1, y.depth ≤ 60000 := by
  obtain ⟨y, h1, _⟩ := tkU_some hn
  intro z hz
  exact HD.out z (by rw [h1]; exact List.mem_cons_of_mem _ hz)
 have HB1 : Hid (But P V w1) := hb1
 have HT1 := h_ ht1
 have HE1 := h_ hn
 have HK := h_ (dEntV_k hn5.1 hn5.2)
 have hent := frK_enters hn5.1 hn5.2
 have HRd : Hid (∀ w, Tk w P w.heap.size l1 → True) := fun _ _ => trivial
 have HFr : Hid (∀ w' B, Tk w' P B l1 → Calls Tryz.prog (frK n) #[.pointer (some ⟨P, 0, none⟩)] w' (RdK w' P B (rdKind n l1) Rc.val)) := fun w' B h => frK_any hn5.1 hn5.2 P B l1 w' hd1 h
 obtain ⟨fc, hfc⟩ : ∃ fc, fc = frK n := ⟨_, rfl⟩
 obtain ⟨fl, hfl⟩ : ∃ fl, fl = flK n := ⟨_, rfl⟩
 rw [← hfc] at hent HFr HK
 rw [← hfl] at HK
 clear hb1 ht1 hn hd1 hfc hfl HRd hn5 HC
 go_wp2_with fail
 refine (dkinds_any w1).mono ?_
 rintro e w2 ⟨rfl, hw2⟩
 have hb2 : Below w1.heap.size w1 w2 := by rw [hw2]; exact below_al bR _
 have hmap : w2.heap[w1.heap.size]? = some (.map dMap 5) := by rw [hw2]; exact map_at w1 _ _
 have hlook := run_dlookup1 w2 w1.heap.size (n : Int) _ hmap (dfind_ent n)
 rw [HK.out] at hlook
 unfold kV at hlook
 have hfd := dfield1 (.func (.func fl) #[] #[]) (.func (.func fc) #[] #[])
 have HB2 : Hid (But P V w2) := HB1.out.trans (But.of_below hb2)
 have HT2 := h_ (HT1.out.on hb2)
 clear hb2 hmap hw2
 go_wp2_with fail
 clear hlook hfd
 refine (HFr.out w2 _ HT2.out).mono ?_
 rintro e w3 ⟨hb3, ⟨q, l2, hq, rfl, ht3⟩ | ⟨hq, rfl⟩⟩
 rotate_left
 ·have HE : Hid (rdR x = none) := by simp [Hid, rdR, HE1.out, hq]
  have HB3 : Hid (Below w.heap.size w w3) := (HB2.out.trans hb3).belowN (by have := HS.out; omega) HB.out
  clear hb3 hq hent
  rw [gives_def]
  go_wp2_with fail
  exact ⟨rfl, HB3.out, .inr ⟨HE.out, rfl⟩⟩
 have hB3 : But P V w3 := HB2.out.trans hb3
 have HR3 : Hid (RowB w3 (w.heap.size + 1) [.int .i64 0, .int .u32 0, .int .u32 0, .int .u64 0, .int .u32 0, .int .i64 0, .int .i64 0, .int .u64 0, .int .u64 0, .int .u32 0, .int .u32 0, .bool false, .int .u64 0, .int .u64 0, .int .u8 0]) := HRV.out.but hB3 (by have := HS.out; omega) (by have := HS.out; omega)
 have HS3 : Hid (V.heap.size ≤ w3.heap.size) := hB3.size
 obtain ⟨w4, hw4⟩ : ∃ w4, w4 = w3.alloc (.cells #[.int .i64 q.k, .int .u32 q.n, .int .u32 q.m, .int .u64 q.t, .int .u32 q.q, .int .i64 q.wh, .int .i64 q.wy, .int .u64 q.at0, .int .u64 q.no, .int .u32 q.nd, .int .u32 q.rg, .bool q.ys, .int .u64 q.fr, .int .u64 q.un, .int .u8 q.lv] 32) := ⟨_, rfl⟩
 have hb4 : Below w3.heap.size w3 w4 := by rw [hw4]; exact below_al bR _
 have HQ4 : Hid (RowB w4 w3.heap.size [.int .i64 q.k, .int .u32 q.n, .int .u32 q.m, .int .u64 q.t, .int .u32 q.q, .int .i64 q.wh, .int .i64 q.wy, .int .u64 q.at0, .int .u64 q.no, .int .u32 q.nd, .int .u32 q.rg, .bool q.ys, .int .u64 q.fr, .int .u64 q.un, .int .u8 q.lv]) := by rw [hw4]; exact RowB.new w3 _ _
 obtain ⟨w5, hw5⟩ : ∃ w5, w5 = w4.setCell ⟨w3.heap.size, 0, none⟩ (.int .i64 n) := ⟨_, rfl⟩
 have HQ5 : Hid (RowB w5 w3.heap.size [.int .i64 n, .int .u32 q.n, .int .u32 q.m, .int .u64 q.t, .int .u32 q.q, .int .i64 q.wh, .int .i64 q.wy, .int .u64 q.at0, .int .u64 q.no, .int .u32 q.nd, .int .u32 q.rg, .bool q.ys, .int .u64 q.fr, .int .u64 q.un, .int .u8 q.lv]) := by rw [hw5]; exact HQ4.out.set 0 _
 have HB5 : Hid (But P V w5) := by rw [hw5]; exact (hB3.trans (But.of_below hb4)).newSet HS3.out _
 have HT5 : Hid (Tk w5 P w.heap.size l2) := by rw [hw5]; exact (ht3.on hb4).newSet (by have := HS.out; have := HS3.out; omega) (by have := HS.out; have := HS3.out; omega) _
 have HR5 : Hid (RowB w5 (w.heap.size + 1) [.int .i64 0, .int .u32 0, .int .u32 0, .int .u64 0, .int .u32 0, .int .i64 0, .int .i64 0, .int .u64 0, .int .u64 0, .int .u32 0, .int .u32 0, .bool false, .int .u64 0, .int .u64 0, .int .u8 0]) := by rw [hw5]; exact (HR3.out.on hb4 (by have := HS.out; have := HS3.out; omega)).other (by have := HS.out; have := HS3.out; omega) _
 have HW4 := h_ hw4
 have HW5 := h_ hw5
 have HEq : Hid (rdR x = if l2 = [] then some (q.withK n) else none) := by simp [Hid, rdR, HE1.out, hq]
 clear hb3 hq ht3 hB3 hw4 hb4 hw5 hent
 unfold Rc.val
 go_upto_region 4 with fail
 rw [← HW4.out]
 have y0 := HQ4.out.1 0 _ rfl
 have f0 := HQ4.out.2 0
 go_upto_region 5 with fail
 rw [← HW5.out]
 clear y0 f0
 go_wp2_with fail
 refine (dend_any P w.heap.size l2 w5 HT5.out).mono ?_
 rintro e w6 ⟨h9, ⟨rfl, hl2⟩ | ⟨rfl, hl2⟩⟩
 rotate_left
 ·rw [← h9]
  have HE : Hid (rdR x = none) := by rw [Hid, HEq.out, if_neg hl2]
  have HB6 : Hid (Below w.heap.size w w5) := HB5.out.belowN (by have := HS.out; omega) HB.out
  clear h9 w6 hl2
  rw [gives_def]
  go_wp2_with fail
  exact ⟨rfl, HB6.out, .inr ⟨HE.out, rfl⟩⟩
 rw [← h9]
 have HE : Hid (rdR x = some (q.withK n)) := by rw [Hid, HEq.out, if_pos hl2]
 clear h9 w6 hl2
 obtain ⟨y0, y1, y2, y3, y4, y5, y6, y7, y8, y9, y10, y11, y12, y13, y14⟩ := r15 HQ5.out
 obtain ⟨r0, r1, r2, r3, r4, r5, r6, r7, r8, r9, r10, r11, r12, r13, r14⟩ := r15 HR5.out
 obtain ⟨f0, f1, f2, f3, f4, f5, f6, f7, f8, f9, f10, f11, f12, f13, f14⟩ := f15 HR5.out
 go_wp2_with fail
 change bodyPost _ _ _ _ _ (putL w5 (w.heap.size + 1) 0 [.int .i64 n, .int .u32 q.n, .int .u32 q.m, .int .u64 q.t, .int .u32 q.q, .int .i64 q.wh, .int .i64 q.wy, .int .u64 q.at0, .int .u64 q.no, .int .u32 q.nd, .int .u32 q.rg, .bool q.ys, .int .u64 q.fr, .int .u64 q.un, .int .u8 q.lv])
 have hrow : RowB (putL w5 (w.heap.size + 1) 0 [.int .i64 n, .int .u32 q.n, .int .u32 q.m, .int .u64 q.t, .int .u32 q.q, .int .i64 q.wh, .int .i64 q.wy, .int .u64 q.at0, .int .u64 q.no, .int .u32 q.nd, .int .u32 q.rg, .bool q.ys, .int .u64 q.fr, .int .u64 q.un, .int .u8 q.lv]) (w.heap.size + 1) [.int .i64 n, .int .u32 q.n, .int .u32 q.m, .int .u64 q.t, .int .u32 q.q, .int .i64 q.wh, .int .i64 q.wy, .int .u64 q.at0, .int .u64 q.no, .int .u32 q.nd, .int .u32 q.rg, .bool q.ys, .int .u64 q.fr, .int .u64 q.un, .int .u8 q.lv] := putL_row _ _ 0 _ HR5.out
 have hfin : RdRc w (rdR x) (.returned (.agg #[.int .i64 n, .int .u32 q.n, .int .u32 q.m, .int .u64 q.t, .int .u32 q.q, .int .i64 q.wh, .int .i64 q.wy, .int .u64 q.at0, .int .u64 q.no, .int .u32 q.nd, .int .u32 q.rg, .bool q.ys, .int .u64 q.fr, .int .u64 q.un, .int .u8 q.lv])) (putL w5 (w.heap.size + 1) 0 [.int .i64 n, .int .u32 q.n, .int .u32 q.m, .int .u64 q.t, .int .u32 q.q, .int .i64 q.wh, .int .i64 q.wy, .int .u64 q.at0, .int .u64 q.no, .int .u32 q.nd, .int .u32 q.rg, .bool q.ys, .int .u64 q.fr, .int .u64 q.un, .int .u8 q.lv]) := by
  have hb5 : Below w.heap.size w w5 := HB5.out.belowN (by have := HS.out; omega) HB.out
  exact ⟨putL_bel (Nat.le_succ _) _ 0 _ hb5, .inl ⟨_, HE.out, rfl⟩⟩
 generalize putL w5 (w.heap.size + 1) 0 [.int .i64 n, .int .u32 q.n, .int .u32 q.m, .int .u64 q.t, .int .u32 q.q, .int .i64 q.wh, .int .i64 q.wy, .int .u64 q.at0, .int .u64 q.no, .int .u32 q.nd, .int .u32 q.rg, .bool q.ys, .int .u64 q.fr, .int .u64 q.un, .int .u8 q.lv] = w30 at *
 obtain ⟨k0, k1, k2, k3, k4, k5, k6, k7, k8, k9, k10, k11, k12, k13, k14⟩ := r15 hrow
 exact bodyPost_ret (v := .agg #[.int .i64 n, .int .u32 q.n, .int .u32 q.m, .int .u64 q.t, .int .u32 q.q, .int .i64 q.wh, .int .i64 q.wy, .int .u64 q.at0, .int .u64 q.no, .int .u32 q.nd, .int .u32 q.rg, .bool q.ys, .int .u64 q.fr, .int .u64 q.un, .int .u8 q.lv]) (by simp [results, Tryz.results20, go_sem, k0, k1, k2, k3, k4, k5, k6, k7, k8, k9, k10, k11, k12, k13, k14]) rfl hfin

end Go.Proofs.YteldifnkeekafaaGreatDoor
