/- Joined texts. -/
import Derived.Test.YteldifnkeekafaaGreatDoorZBv
import Derived.Test.YteldifnkeekafaaGreatDoorZKv
import Derived.Maps.Own
import Derived.WideMake
set_option maxHeartbeats 4000000
set_option linter.unusedSimpArgs false
namespace Go.Proofs.YteldifnkeekafaaGreatDoor
open Go.RowKit Go.Shelf

theorem map_set (w : World) (es fs : Array MapEntry) (c d : Nat) :
  { w.alloc (.map es c) with heap := (w.alloc (.map es c)).heap.setIfInBounds w.heap.size (.map fs d) } = w.alloc (.map fs d) := by
 simp only [World.alloc]
 congr 1
 apply Array.ext'
 simp [Array.setIfInBounds, Array.toList_push]

theorem map_at (w : World) (es : Array MapEntry) (c : Nat) : (w.alloc (.map es c)).heap[w.heap.size]? = some (.map es c) := by
 show (w.heap.push (Obj.map es c))[w.heap.size]? = _
 simp

theorem run_update_new (w : World) (es : Array MapEntry) (c : Nat) (k : Int) (v : Value) (hf : Instr.findNow (.int .i64) (.int .i64 k) es.toList 0 = some none) :
  (Instr.mapUpdate 92 (.map (some w.heap.size)) (.int .i64 k) v).run Tryz.prog (w.alloc (.map es c)) = .ok () (w.alloc (.map (es.push { key := .int .i64 k, val := v, born := c }) (c + 1))) := by
 have hb := map_at w es c
 have hc : (Instr.checkKey false 10000 43 (.int .i64 k)).run Tryz.prog (w.alloc (.map es c)) = .ok () (w.alloc (.map es c)) := MapKept.run_checkKey (k := .int .i64 k) Tryz.underlying43 (by simp [MapKept.IsKey]) false 9999
 simp [Instr.mapUpdate, run_underlying Tryz.underlying92, MapKept.run_getObj_map hb, hc, MapKept.run_findKey Tryz.underlying43 hf, MapKept.run_setObj_map _ hb, Result.andThen]
 exact map_set w _ _ _ _

def kE (k f c : Nat) : MapEntry := { key := .int .i64 k, val := .func (.func f) #[] #[], born := c }

def kMap : Array MapEntry := #[kE 1 76 0, kE 2 79 1, kE 3 80 2, kE 4 81 3, kE 5 82 4, kE 6 83 5]

set_option maxRecDepth 100000 in
theorem kinds_any (w : World) :
  Calls Tryz.prog 42 #[] w fun e w' => e = .returned (.map (some w.heap.size)) ∧ w' = w.alloc (.map kMap 6) := by
 have hmm := @run_makeMap Tryz.prog
 have h0 := run_update_new w #[] 0 1 (.func (.func 76) #[] #[]) rfl
 have h1 := run_update_new w #[kE 1 76 0] 1 2 (.func (.func 79) #[] #[]) rfl
 have h2 := run_update_new w #[kE 1 76 0, kE 2 79 1] 2 3 (.func (.func 80) #[] #[]) rfl
 have h3 := run_update_new w #[kE 1 76 0, kE 2 79 1, kE 3 80 2] 3 4 (.func (.func 81) #[] #[]) rfl
 have h4 := run_update_new w #[kE 1 76 0, kE 2 79 1, kE 3 80 2, kE 4 81 3] 4 5 (.func (.func 82) #[] #[]) rfl
 have h5 := run_update_new w #[kE 1 76 0, kE 2 79 1, kE 3 80 2, kE 4 81 3, kE 5 82 4] 5 6 (.func (.func 83) #[] #[]) rfl
 change _ = Result.ok () (w.alloc (.map #[kE 1 76 0] 1)) at h0
 change _ = Result.ok () (w.alloc (.map #[kE 1 76 0, kE 2 79 1] 2)) at h1
 change _ = Result.ok () (w.alloc (.map #[kE 1 76 0, kE 2 79 1, kE 3 80 2] 3)) at h2
 change _ = Result.ok () (w.alloc (.map #[kE 1 76 0, kE 2 79 1, kE 3 80 2, kE 4 81 3] 4)) at h3
 change _ = Result.ok () (w.alloc (.map #[kE 1 76 0, kE 2 79 1, kE 3 80 2, kE 4 81 3, kE 5 82 4] 5)) at h4
 change _ = Result.ok () (w.alloc (.map kMap 6)) at h5
 go_enter Tryz.func42, Tryz.ntmps42
 go_wp2_with fail
 go_ret
 exact ⟨rfl, rfl⟩

theorem run_lookup_kind (w : World) (M k f : Nat) (hb : w.heap[M]? = some (.map kMap 6)) (hf : Instr.findNow (.int .i64) (.int .i64 k) kMap.toList 0 = some (some (k - 1, .func (.func f) #[] #[]))) :
  (Instr.lookup 92 (.map (some M)) (.int .i64 k) false).run Tryz.prog w = .ok (.func (.func f) #[] #[]) w := by
 have hc : (Instr.checkKey false 10000 43 (.int .i64 k)).run Tryz.prog w = .ok () w := MapKept.run_checkKey (k := .int .i64 k) Tryz.underlying43 (by simp [MapKept.IsKey]) false 9999
 have he : kMap.isEmpty = false := rfl
 simp [Instr.lookup, run_underlying Tryz.underlying92, MapKept.run_getObj_map hb, he, hc, MapKept.run_findKey Tryz.underlying43 hf, Result.andThen]

structure WS (w : World) (G M : Nat) (bs : List UInt8) (d : Nat) (v : Value) : Prop where
 lt : M < G ∧ G < w.heap.size
 map : w.heap[M]? = some (.map kMap 6)
 c0 : w.cell? ⟨G, 0, none⟩ = some (.map (some M))
 c1 : w.cell? ⟨G, 1, none⟩ = some v
 c2 : w.cell? ⟨G, 2, none⟩ = some (.int .i64 d)
 c3 : w.cell? ⟨G, 3, none⟩ = some (.bool (decide (65536 < bs.length)))
 fz : ∀ j, w.frozen? ⟨G, j, none⟩ = false
 own : bs.length ≤ 65536 → OwnV w (G + 1) 5 v (bs.map encB)

theorem WS.later {w w' : World} {G M d : Nat} {bs : List UInt8} {v : Value} (h : WS w G M bs d v) (hb : Below w.heap.size w w') : WS w' G M bs d v where
 lt := ⟨h.lt.1, Nat.lt_of_lt_of_le h.lt.2 hb.size⟩
 map := (hb.block M (Nat.lt_trans h.lt.1 h.lt.2)).trans h.map
 c0 := (hb.cell (p := ⟨G, 0, none⟩) h.lt.2).trans h.c0
 c1 := (hb.cell (p := ⟨G, 1, none⟩) h.lt.2).trans h.c1
 c2 := (hb.cell (p := ⟨G, 2, none⟩) h.lt.2).trans h.c2
 c3 := (hb.cell (p := ⟨G, 3, none⟩) h.lt.2).trans h.c3
 fz := fun j => (hb.frozen (p := ⟨G, j, none⟩) h.lt.2).trans (h.fz j)
 own := fun q => (h.own q).later hb

theorem WS.long {w : World} {G M d : Nat} {bs p : List UInt8} {u : Value} (h : WS w G M bs d u) (hl : 65536 < (bs ++ p).length) : WS (w.setCell ⟨G, 3, none⟩ (.bool true)) G M (bs ++ p) d u where
 lt := by rw [World.size_setCell]; exact h.lt
 map := (Below.heap_setCell w _ _ M (Nat.ne_of_lt h.lt.1)).trans h.map
 c0 := (World.cell?_setCell_other _ _ _ _ (by simp)).trans h.c0
 c1 := (World.cell?_setCell_other _ _ _ _ (by simp)).trans h.c1
 c2 := (World.cell?_setCell_other _ _ _ _ (by simp)).trans h.c2
 c3 := by rw [World.cell?_setCell_same _ _ _ h.c3, decide_eq_true hl]
 fz := fun j => by rw [World.frozen?_setCell]; exact h.fz j
 own := fun q => absurd q (by omega)

theorem OwnV.setG {w : World} {G : Nat} {e : TypeId} {v : Value} {xs : List Value} {o : Nat} (h : OwnV w (G + 1) e v xs) (u : Value) : OwnV (w.setCell ⟨G, o, none⟩ u) (G + 1) e v xs :=
 ownsRow_setCell_below h (a := ⟨G, o, none⟩) (Nat.lt_succ_self G) u

theorem OwnV.isSlice {w : World} {base : Nat} {e : TypeId} {v : Value} {xs : List Value} (h : OwnV w base e v xs) : ∃ A n c, v = .slice A n c := by
 rcases h.form with ⟨rfl, _⟩ | ⟨g, cap, rfl, _⟩
 ·exact ⟨_, _, _, rfl⟩
 ·exact ⟨_, _, _, rfl⟩

theorem WS.appCell {w w2 : World} {G M d : Nat} {bs p : List UInt8} {u u' : Value} (h : WS w G M bs d u) (hbs : bs.length ≤ 65536)
  (hp : AppPost (w.setCell ⟨G, 3, none⟩ (.bool false)) (G + 1) 5 u (bs.map encB) (p.map encB) u' w2) :
  Below (G + 1) (w.setCell ⟨G, 3, none⟩ (.bool false)) w2 ∧ w2.cell? ⟨G, 1, none⟩ = some u ∧ w2.frozen? ⟨G, 1, none⟩ = false := by
 have hb : Below (G + 1) (w.setCell ⟨G, 3, none⟩ (.bool false)) w2 := hp.below ((h.own hbs).setG _) (by rw [World.size_setCell]; exact h.lt.2)
 refine ⟨hb, (hb.cell (p := ⟨G, 1, none⟩) (Nat.lt_succ_self G)).trans ((World.cell?_setCell_other _ _ _ _ (by simp)).trans h.c1), ?_⟩
 rw [hb.frozen (p := ⟨G, 1, none⟩) (Nat.lt_succ_self G), World.frozen?_setCell]
 exact h.fz 1

theorem WS.app {w w2 : World} {G M d : Nat} {bs p : List UInt8} {u u' : Value} (h : WS w G M bs d u) (hl : (bs ++ p).length ≤ 65536)
  (hp : AppPost (w.setCell ⟨G, 3, none⟩ (.bool false)) (G + 1) 5 u (bs.map encB) (p.map encB) u' w2) : WS (w2.setCell ⟨G, 1, none⟩ u') G M (bs ++ p) d u' := by
 have hbs : bs.length ≤ 65536 := by simp at hl; omega
 have hb := (h.appCell hbs hp).1
 have q0 : w2.cell? ⟨G, 0, none⟩ = some (.map (some M)) := (hb.cell (p := ⟨G, 0, none⟩) (Nat.lt_succ_self G)).trans ((World.cell?_setCell_other _ _ _ _ (by simp)).trans h.c0)
 have q1 : w2.cell? ⟨G, 1, none⟩ = some u := (hb.cell (p := ⟨G, 1, none⟩) (Nat.lt_succ_self G)).trans ((World.cell?_setCell_other _ _ _ _ (by simp)).trans h.c1)
 have q2 : w2.cell? ⟨G, 2, none⟩ = some (.int .i64 d) := (hb.cell (p := ⟨G, 2, none⟩) (Nat.lt_succ_self G)).trans ((World.cell?_setCell_other _ _ _ _ (by simp)).trans h.c2)
 have q3 : w2.cell? ⟨G, 3, none⟩ = some (.bool false) := (hb.cell (p := ⟨G, 3, none⟩) (Nat.lt_succ_self G)).trans (World.cell?_setCell_same _ _ _ h.c3)
 have hsz := hb.size
 rw [World.size_setCell] at hsz
 exact {
  lt := by rw [World.size_setCell]; exact ⟨h.lt.1, Nat.lt_of_lt_of_le h.lt.2 hsz⟩
  map := (Below.heap_setCell w2 _ _ M (Nat.ne_of_lt h.lt.1)).trans ((hb.block M (Nat.lt_succ_of_lt h.lt.1)).trans ((Below.heap_setCell w _ _ M (Nat.ne_of_lt h.lt.1)).trans h.map))
  c0 := (World.cell?_setCell_other _ _ _ _ (by simp)).trans q0
  c1 := World.cell?_setCell_same _ _ _ q1
  c2 := (World.cell?_setCell_other _ _ _ _ (by simp)).trans q2
  c3 := by rw [World.cell?_setCell_other _ _ _ _ (by simp), q3, decide_eq_false (by omega)]
  fz := fun j => by
   rw [World.frozen?_setCell, hb.frozen (p := ⟨G, j, none⟩) (Nat.lt_succ_self G), World.frozen?_setCell]
   exact h.fz j
  own := fun _ => by
   have h1 := hp.1
   rw [← List.map_append] at h1
   exact h1.setG _ }

theorem flat_step (ps : List (List UInt8)) (j : Nat) (hj : j < ps.length) : (ps.take (j + 1)).flatten = (ps.take j).flatten ++ (ps[j]?.getD []) := by
 rw [List.take_succ_eq_append_getElem hj, List.getElem?_eq_getElem hj, List.flatten_append]
 simp

def RdPS (w : World) (S : Nat → Prop) (a : Option Addr) (ps : List (List UInt8)) : Prop :=
 ps = [] ∨ ∃ b o, a = some ⟨b, o, none⟩ ∧ S b ∧ ∀ j, j < ps.length → ∃ A C, w.cell? ⟨b, o + j, none⟩ = some (.slice A (ps[j]?.getD []).length C) ∧
  (ps[j]?.getD [] = [] ∨ ∃ b' o', A = some ⟨b', o', none⟩ ∧ S b' ∧ ∀ i, i < (ps[j]?.getD []).length → w.cell? ⟨b', o' + i, none⟩ = some (.int .u8 (byteAt (ps[j]?.getD []) i)))

set_option maxRecDepth 100000 in
theorem lay_core (G M d : Nat) (bs : List UInt8) (v : Value) (S : Nat → Prop) (a : Option Addr) (c : Nat) (ps : List (List UInt8)) (w : World) (hS : WS w G M bs d v) (hG : ¬ S G) (hv : bs.length ≤ 65536 → ∀ r, v.ownBlock = some r → ¬ S r)
  (hlt : ∀ b, S b → b < w.heap.size) (hr : RdPS w S a ps) (hl : ps.length ≤ 10) :
  Calls Tryz.prog 77 #[.pointer (some ⟨G, 0, none⟩), .slice a ps.length c] w fun e w' => e = .returned (.tuple #[]) ∧ KeepB S w w' ∧ Below G w w' ∧ ∃ v', WS w' G M (bs ++ ps.flatten) d v' ∧ ((bs ++ ps.flatten).length ≤ 65536 → ∀ r, v'.ownBlock = some r → ¬ S r) := by
 have HR := h_ hr
 have HS := h_ hS
 have HV := h_ hv
 have HLT := h_ hlt
 clear hr hS hv hlt
 go_enter Tryz.func77, Tryz.ntmps77
 go_wp2_with fail
 go_loopw [8] (fun i wr => ∃ j : Nat, j ≤ ps.length ∧ i = .int .i64 j ∧ Hid (KeepB S w wr ∧ Below G w wr ∧ ∃ u, WS wr G M (bs ++ (ps.take j).flatten) d u ∧ ((bs ++ (ps.take j).flatten).length ≤ 65536 → ∀ r, u.ownBlock = some r → ¬ S r))) (fun i _ => ps.length - (intOf i).toNat)
 case atStart => exact ⟨0, Nat.zero_le _, rfl, KeepB.refl _ _, Below.refl _ _, v, by simpa using HS.out, by simpa using HV.out⟩
 case round =>
  obtain ⟨j, hj, rfl, HI⟩ := hrel
  by_cases hlt : j < ps.length
  ·obtain ⟨hk, hbl, u, hws, hu⟩ := HI.out
   obtain ⟨b, o, rfl, hSb, hcs⟩ : ∃ b o, a = some ⟨b, o, none⟩ ∧ S b ∧ ∀ j, j < ps.length → ∃ A C, w.cell? ⟨b, o + j, none⟩ = some (.slice A (ps[j]?.getD []).length C) ∧
     (ps[j]?.getD [] = [] ∨ ∃ b' o', A = some ⟨b', o', none⟩ ∧ S b' ∧ ∀ i, i < (ps[j]?.getD []).length → w.cell? ⟨b', o' + i, none⟩ = some (.int .u8 (byteAt (ps[j]?.getD []) i))) := by
    rcases HR.out with h | h
    ·subst h
     simp at hlt
    ·exact h
   obtain ⟨A, C, hcj, hbytes⟩ := hcs j hlt
   rw [← keep_cell hk hSb] at hcj
   have HCS := h_ hcs
   have HBy := h_ hbytes
   have HWS := h_ hws
   have HK := h_ hk
   have HU := h_ hu
   have HBl := h_ hbl
   have h1 := hws.c1
   have h3 := hws.c3
   have hf1 := hws.fz 1
   have hf3 := hws.fz 3
   clear hcs hbytes hws hk hu hbl
   obtain ⟨n, hn⟩ : ∃ n, n = (ps[j]?.getD []).length := ⟨_, rfl⟩
   rw [← hn] at hcj
   have HN := h_ hn
   clear hn
   by_cases hlong : 65536 < (bs ++ (ps.take j).flatten).length
   ·rw [decide_eq_true hlong] at h3
    have HLo := h_ hlong
    clear hlong
    go_wp2_with fail
    go_roundw
    case rel =>
     refine ⟨j + 1, by omega, by go_num, KeepB.setCell HK.out hG _, HBl.out.setCell (Nat.le_refl _) _, u, ?_, fun q => absurd q (by have := HLo.out; rw [flat_step ps j hlt]; simp at this ⊢; omega)⟩
     rw [flat_step ps j hlt, ← List.append_assoc]
     exact HWS.out.long (by have := HLo.out; simp at this ⊢; omega)
    case measure => simp [intOf]; omega
   ·rw [decide_eq_false hlong] at h3
    have hown := HWS.out.own (by omega)
    obtain ⟨ua, uc, rfl, huc, hur, hub⟩ := hown.bytes
    obtain ⟨m, hm⟩ : ∃ m, m = (bs ++ (ps.take j).flatten).length := ⟨_, rfl⟩
    rw [← hm] at h1 hlong
    have HM := h_ hm
    have HO := h_ hown
    clear hm hown hur hub huc
    by_cases hbig : 65536 < m + n
    ·have hgt : decide ((65536 : Int) - (m : Int) < (n : Int)) = true := by simp; omega
     go_wp2_with fail
     go_roundw
     case rel =>
      refine ⟨j + 1, by omega, by go_num, KeepB.setCell HK.out hG _, HBl.out.setCell (Nat.le_refl _) _, .slice ua (bs ++ (ps.take j).flatten).length uc, ?_, fun q => absurd q (by have e1 := HM.out; have e2 := HN.out; rw [flat_step ps j hlt, ← List.append_assoc, List.length_append, ← e1, ← e2]; omega)⟩
      rw [flat_step ps j hlt, ← List.append_assoc]
      exact HWS.out.long (by have e1 := HM.out; have e2 := HN.out; rw [List.length_append, ← e1, ← e2]; exact hbig)
     case measure => simp [intOf]; omega
    ·have hgt : decide ((65536 : Int) - (m : Int) < (n : Int)) = false := by simp; omega
     have hGsz : G + 1 ≤ wr.heap.size := HWS.out.lt.2
     have hO1 : OwnV (wr.setCell ⟨G, 3, none⟩ (.bool false)) (G + 1) 5 (.slice ua m uc) ((bs ++ (ps.take j).flatten).map encB) := by
      have := HO.out.setG (o := 3) (.bool false)
      rw [← HM.out] at this
      exact this
     have hS1 : Src (wr.setCell ⟨G, 3, none⟩ (.bool false)) A ((ps[j]?.getD []).map encB) := by
      rcases HBy.out with h | ⟨b', o', rfl, hSb', hc'⟩
      ·exact .inl (by rw [h]; rfl)
      ·refine .inr ⟨_, rfl, fun i x hx => ?_⟩
       have hi : i < (ps[j]?.getD []).length := by
        have := (List.getElem?_eq_some_iff.1 hx).1
        simpa using this
       rw [encB_at _ i hi] at hx
       injection hx with hx
       subst hx
       have hne : G ≠ b' := fun q => hG (q ▸ hSb')
       rw [mk_addr_add, World.cell?_setCell_other _ _ _ _ (fun q => hne (congrArg Addr.block q)), keep_cell HK.out hSb']
       exact hc' i hi
     have HO1 := h_ hO1
     have HS1 := h_ hS1
     have HNL : Hid (((ps[j]?.getD []).map encB).length = n) := by rw [Hid, List.length_map]; exact HN.out.symm
     have HX : Hid (((bs ++ (ps.take j).flatten).map encB).length + ((ps[j]?.getD []).map encB).length ≤ 65536) := by
      rw [Hid, List.length_map, List.length_map, ← HM.out, ← HN.out]
      omega
     have HE1 := h_ (encB_one (ps[j]?.getD []))
     have HUb : Hid (∀ r, (Value.slice ua m uc).ownBlock = some r → ¬ S r) := by
      have h1 := HU.out (by rw [← HM.out]; omega)
      rw [← HM.out] at h1
      exact h1
     have hWS' : WS wr G M (bs ++ (ps.take j).flatten) d (.slice ua m uc) := by rw [HM.out]; exact HWS.out
     have HWS' := h_ hWS'
     have hml : (bs ++ (ps.take j).flatten).length ≤ 65536 := by rw [← HM.out]; omega
     have HML := h_ hml
     clear hO1 hS1 hWS' hml
     go_wp2_with (at_builtin; go_loud (refine wpList_app _ rfl _ _ 22 rfl (G + 1) 5 (.int .u8 0) 1 Tryz.underlying22 info_u8 rfl _ _ rfl HO1.out _ _ _ _ rfl HNL.out HS1.out HE1.out (by have := HX.out; unfold maxLen; omega) (by have := HX.out; omega) (by rw [World.size_setCell]; exact hGsz) ?_); intro v' w2 hp; have hq := HWS'.out.appCell HML.out hp; obtain ⟨hb2, hcG, hfG⟩ := hq; obtain ⟨A', n', c', rfl⟩ := hp.1.isSlice; have HPo := h_ hp; have HB2 := h_ hb2; clear hp hb2)
     go_roundw
     case rel =>
      have hsz : w.heap.size ≤ wr.heap.size := HBl.out.size
      refine ⟨j + 1, by omega, by go_num, KeepB.setCell (KeepB.grown (KeepB.setCell HK.out hG (.bool false)) (fun b hb => by rw [World.size_setCell]; exact Nat.lt_of_lt_of_le (HLT.out b hb) hsz) HPo.out.2.1 ?_) hG _,
       ((HBl.out.setCell (Nat.le_refl _) (.bool false)).trans (HB2.out.mono (Nat.le_succ _))).setCell (Nat.le_refl _) _, .slice A' n' c', ?_, ?_⟩
      ·intro r hr
       exact HUb.out r hr
      ·rw [flat_step ps j hlt, ← List.append_assoc]
       exact HWS'.out.app (by rw [List.length_append, ← HM.out, ← HN.out]; omega) HPo.out
      ·intro _ r hr
       rcases HPo.out.2.2 with h | h
       ·rw [h] at hr
        exact HUb.out r hr
       ·rw [h] at hr
        injection hr with hr
        rw [World.size_setCell] at hr
        intro hs
        have := HLT.out r hs
        omega
     case measure => simp [intOf]; omega
  ·obtain rfl : j = ps.length := by omega
   go_wp2_with fail
   obtain ⟨hk, hbl, u, hws, hfr⟩ := HI.out
   rw [List.take_length] at hws hfr
   go_end0
   exact ⟨rfl, hk, hbl, u, hws, hfr⟩

def apart (G H N b : Nat) : Prop := (b < G ∨ H ≤ b) ∧ b < N

def total (S : Nat → Prop) (G H N b : Nat) : Prop := (S b ∨ b < G ∨ H ≤ b) ∧ b < N

def Free (S : Nat → Prop) (bs : List UInt8) (u : Value) : Prop := bs.length ≤ 65536 → ∀ r, u.ownBlock = some r → ¬ S r

theorem RdPS.total {w : World} {S : Nat → Prop} {G H N : Nat} {a : Option Addr} {ps : List (List UInt8)} (h : RdPS w (apart G H N) a ps) : RdPS w (total S G H N) a ps := by
 have hh : ∀ b, apart G H N b → Go.Proofs.YteldifnkeekafaaGreatDoor.total S G H N b := fun b h => ⟨.inr h.1, h.2⟩
 rcases h with h | ⟨b, o, rfl, hb, hc⟩
 ·exact .inl h
 ·refine .inr ⟨b, o, rfl, hh b hb, fun j hj => ?_⟩
  obtain ⟨A, C, h1, h2⟩ := hc j hj
  refine ⟨A, C, h1, h2.imp id ?_⟩
  rintro ⟨b', o', e, h3, h4⟩
  exact ⟨b', o', e, hh b' h3, h4⟩

theorem lay_any (G M d : Nat) (bs : List UInt8) (v : Value) (S : Nat → Prop) (w0 w : World) (hS : WS w0 G M bs d v) (hF : Free S bs v) (hSG : ¬ S G) (hSl : ∀ b, S b → b < w0.heap.size) (hb : Below w0.heap.size w0 w) (a : Option Addr) (n c : Nat) (ps : List (List UInt8)) (cs : List UInt8) (hn : n = ps.length) (hcs : cs = ps.flatten)
  (hr : RdPS w (apart G w0.heap.size w.heap.size) a ps) (hl : ps.length ≤ 10) :
  Calls Tryz.prog 77 #[.pointer (some ⟨G, 0, none⟩), .slice a n c] w fun e w' => e = .returned (.tuple #[]) ∧ KeepB (total S G w0.heap.size w.heap.size) w w' ∧ Below G w w' ∧ ∃ v', WS w' G M (bs ++ cs) d v' ∧ Free S (bs ++ cs) v' := by
 subst hn hcs
 have hG := hS.lt.2
 have hbs := hb.size
 refine (lay_core G M d bs v (total S G w0.heap.size w.heap.size) a c ps w (hS.later hb) (fun h => by rcases h.1 with h | h | h; exact hSG h; omega; omega) (fun q r hr h => ?_) (fun b h => h.2) hr.total hl).mono ?_
 ·have h1 := (hS.own q).row r hr
  rcases h.1 with h | h | h
  ·exact hF q r hr h
  ·omega
  ·omega
 ·rintro e w' ⟨rfl, h1, h2, v', h3, h4⟩
  exact ⟨rfl, h1, h2, v', h3, fun q r hr hs => h4 q r hr ⟨.inl hs, Nat.lt_of_lt_of_le (hSl r hs) hbs⟩⟩

def PieceS (w : World) (G H : Nat) (A : Option Addr) (p : List UInt8) : Prop :=
 p = [] ∨ ∃ b o, A = some ⟨b, o, none⟩ ∧ (b < G ∨ H ≤ b) ∧ b < w.heap.size ∧ ∀ i, i < p.length → w.cell? ⟨b, o + i, none⟩ = some (.int .u8 (byteAt p i))

theorem PieceS.own {w : World} {G H : Nat} {A : Option Addr} {p : List UInt8} (h : RdB w w.heap.size A p) (hH : ∀ q, A = some q → H ≤ q.block ∧ q.block < w.heap.size) : PieceS w G H A p := by
 rcases h with h | ⟨b, o, rfl, hlt, hc⟩
 ·exact .inl h
 ·exact .inr ⟨b, o, rfl, .inr (hH _ rfl).1, hlt, hc⟩

theorem PieceS.low {w : World} {G H : Nat} {A : Option Addr} {p : List UInt8} (h : RdB w G A p) (hG : G ≤ w.heap.size) : PieceS w G H A p := by
 rcases h with h | ⟨b, o, rfl, hlt, hc⟩
 ·exact .inl h
 ·exact .inr ⟨b, o, rfl, .inl hlt, Nat.lt_of_lt_of_le hlt hG, hc⟩

theorem PieceS.alloc {w : World} {G H : Nat} {A : Option Addr} {p : List UInt8} (h : PieceS w G H A p) (o : Obj) : PieceS (w.alloc o) G H A p := by
 rcases h with h | ⟨b, o', rfl, h1, h2, h3⟩
 ·exact .inl h
 ·exact .inr ⟨b, o', rfl, h1, by simp; omega, fun i hi => by rw [World.cell?_alloc_lt _ _ _ h2]; exact h3 i hi⟩

theorem rdPS_one (w : World) (G H : Nat) (A : Option Addr) (C : Nat) (p : List UInt8) (t : TypeId) (hp : PieceS w G H A p) (hH : H ≤ w.heap.size) :
  RdPS (w.alloc (.cells #[.slice A p.length C] t)) (apart G H (w.alloc (.cells #[.slice A p.length C] t)).heap.size) (some ⟨w.heap.size, 0, none⟩) [p] := by
 refine .inr ⟨w.heap.size, 0, rfl, ⟨.inr hH, by simp⟩, fun j hj => ?_⟩
 rw [Nat.zero_add, World.cell?_alloc_mark]
 simp at hj
 subst hj
 refine ⟨A, C, rfl, ?_⟩
 rcases hp.alloc (.cells #[.slice A p.length C] t) with h | ⟨b, o, e, h1, h2, h3⟩
 ·exact .inl h
 ·exact .inr ⟨b, o, e, ⟨h1, h2⟩, h3⟩

theorem rdPS_two (w : World) (G H : Nat) (A1 A2 : Option Addr) (C1 C2 : Nat) (p1 p2 : List UInt8) (t : TypeId) (h1 : PieceS w G H A1 p1) (h2 : PieceS w G H A2 p2) (hH : H ≤ w.heap.size) :
  RdPS (w.alloc (.cells #[.slice A1 p1.length C1, .slice A2 p2.length C2] t)) (apart G H (w.alloc (.cells #[.slice A1 p1.length C1, .slice A2 p2.length C2] t)).heap.size) (some ⟨w.heap.size, 0, none⟩) [p1, p2] := by
 refine .inr ⟨w.heap.size, 0, rfl, ⟨.inr hH, by simp⟩, fun j hj => ?_⟩
 rw [Nat.zero_add, World.cell?_alloc_mark]
 simp at hj
 have hj2 : j = 0 ∨ j = 1 := by omega
 rcases hj2 with rfl | rfl
 ·refine ⟨A1, C1, rfl, ?_⟩
  rcases h1.alloc (.cells #[.slice A1 p1.length C1, .slice A2 p2.length C2] t) with h | ⟨b, o, e, h1, h2, h3⟩
  ·exact .inl h
  ·exact .inr ⟨b, o, e, ⟨h1, h2⟩, h3⟩
 ·refine ⟨A2, C2, rfl, ?_⟩
  rcases h2.alloc (.cells #[.slice A1 p1.length C1, .slice A2 p2.length C2] t) with h | ⟨b, o, e, h1, h2, h3⟩
  ·exact .inl h
  ·exact .inr ⟨b, o, e, ⟨h1, h2⟩, h3⟩

def KindP (S : Nat → Prop) (w : World) (G M : Nat) (bs : List UInt8) (d : Nat) (hdr : List UInt8) (e : Ending) (w' : World) : Prop :=
 e = .returned (.tuple #[]) ∧ KeepB S w w' ∧ Below G w w' ∧ ∃ u, WS w' G M (bs ++ hdr) d u ∧ Free S (bs ++ hdr) u

theorem keep_of {S : Nat → Prop} {G : Nat} {w0 w w' : World} (hSl : ∀ b, S b → b < w0.heap.size) (hb : Below w0.heap.size w0 w) (hk : KeepB (total S G w0.heap.size w.heap.size) w w') : KeepB S w0 w' :=
 fun b hs => (hk b ⟨.inl hs, Nat.lt_of_lt_of_le (hSl b hs) hb.size⟩).trans (hb.block b (hSl b hs))

set_option maxRecDepth 100000 in
theorem kind_uint (G M d : Nat) (bs : List UInt8) (u : Value) (S : Nat → Prop) (k n : Int) (v2 v3 v4 : Value) (w : World) (hS : WS w G M bs d u) (hF : Free S bs u) (hSG : ¬ S G) (hSl : ∀ b, S b → b < w.heap.size) (ht : TabW w) (hn : U64 n) :
  Calls Tryz.prog 76 #[.pointer (some ⟨G, 0, none⟩), .agg #[.int .i64 k, .int .u64 n, v2, v3, v4]] w (KindP S w G M bs d (headB 0 n)) := by
 have HS := h_ hS
 have HF := h_ hF
 have HSl := h_ hSl
 have HT := h_ ht
 have HN := h_ hn
 clear hS hF hSl ht hn
 have B0 := below_al (Below.refl w.heap.size w) (.cells #[.int .i64 k, .int .u64 n, v2, v3, v4] 45)
 go_enter Tryz.func76, Tryz.ntmps76
 go_wp2_with fail
 refine (head_any 0 n _ (by omega) HN.out (HT.out.on B0)).mono ?_
 rintro e w1 ⟨v, rfl, ho, hb1⟩
 obtain ⟨A, C, rfl, hC, hra, hA⟩ := ho.bytes
 have B1 := below_on B0 hb1
 have HP := h_ (rdPS_one w1 G w.heap.size A C (headB 0 n) 22 (PieceS.own hra fun q hq => ⟨Nat.le_trans B0.size (hA q hq).1, (hA q hq).2⟩) B1.size)
 clear ho hra hA hC
 go_wp2_with fail
 refine (lay_any G M d bs u S w _ HS.out HF.out hSG HSl.out (below_al B1 _) _ 1 1 [headB 0 n] (headB 0 n) rfl (by simp) HP.out (by simp)).mono ?_
 rintro e w2 ⟨rfl, hk2, hb2, u', hw2⟩
 have HK2 := h_ (keep_of HSl.out (below_al B1 _) hk2)
 clear hk2
 have HW2 := h_ hw2
 clear hw2
 go_wp2_with fail
 go_end0
 exact ⟨rfl, HK2.out, ((below_al B1 _).mono (Nat.le_of_lt HS.out.lt.2)).trans hb2, u', HW2.out⟩

set_option maxRecDepth 100000 in
theorem kind_list (G M d : Nat) (bs : List UInt8) (u : Value) (S : Nat → Prop) (k n : Int) (v2 v3 : Value) (A4 : Option Addr) (m C4 : Nat) (w : World) (hS : WS w G M bs d u) (hF : Free S bs u) (hSG : ¬ S G) (hSl : ∀ b, S b → b < w.heap.size) (ht : TabW w) (hl : m ≤ 140737488355328) :
  Calls Tryz.prog 81 #[.pointer (some ⟨G, 0, none⟩), .agg #[.int .i64 k, .int .u64 n, v2, v3, .slice A4 m C4]] w (KindP S w G M bs d (headB 4 m)) := by
 have HS := h_ hS
 have HF := h_ hF
 have HSl := h_ hSl
 have HT := h_ ht
 clear hS hF hSl ht
 have B0 := below_al (Below.refl w.heap.size w) (.cells #[.int .i64 k, .int .u64 n, v2, v3, .slice A4 m C4] 45)
 go_enter Tryz.func81, Tryz.ntmps81
 go_wp2_with fail
 refine (head_any 4 m _ (by omega) (by simp only [U64]; omega) (HT.out.on B0)).mono ?_
 rintro e w1 ⟨v, rfl, ho, hb1⟩
 obtain ⟨A, C, rfl, hC, hra, hA⟩ := ho.bytes
 have B1 := below_on B0 hb1
 have HP := h_ (rdPS_one w1 G w.heap.size A C (headB 4 m) 22 (PieceS.own hra fun q hq => ⟨Nat.le_trans B0.size (hA q hq).1, (hA q hq).2⟩) B1.size)
 clear ho hra hA hC
 go_wp2_with fail
 refine (lay_any G M d bs u S w _ HS.out HF.out hSG HSl.out (below_al B1 _) _ 1 1 [headB 4 m] (headB 4 m) rfl (by simp) HP.out (by simp)).mono ?_
 rintro e w2 ⟨rfl, hk2, hb2, u', hw2⟩
 have HK2 := h_ (keep_of HSl.out (below_al B1 _) hk2)
 clear hk2
 have HW2 := h_ hw2
 clear hw2
 go_wp2_with fail
 go_end0
 exact ⟨rfl, HK2.out, ((below_al B1 _).mono (Nat.le_of_lt HS.out.lt.2)).trans hb2, u', HW2.out⟩

set_option maxRecDepth 100000 in
theorem kind_bool (G M d : Nat) (bs : List UInt8) (u : Value) (S : Nat → Prop) (k n : Int) (v2 v3 v4 : Value) (w : World) (hS : WS w G M bs d u) (hF : Free S bs u) (hSG : ¬ S G) (hSl : ∀ b, S b → b < w.heap.size) (ht : TabW w) (h0 : 0 ≤ n) (h1 : n ≤ 1) :
  Calls Tryz.prog 82 #[.pointer (some ⟨G, 0, none⟩), .agg #[.int .i64 k, .int .u64 n, v2, v3, v4]] w (KindP S w G M bs d (headB 7 (20 + n))) := by
 have HS := h_ hS
 have HF := h_ hF
 have HSl := h_ hSl
 have HT := h_ ht
 clear hS hF hSl ht
 have B0 := below_al (Below.refl w.heap.size w) (.cells #[.int .i64 k, .int .u64 n, v2, v3, v4] 45)
 go_enter Tryz.func82, Tryz.ntmps82
 go_wp2_with fail
 refine (head_any 7 (20 + n) _ (by omega) (by simp only [U64]; omega) (HT.out.on B0)).mono ?_
 rintro e w1 ⟨v, rfl, ho, hb1⟩
 obtain ⟨A, C, rfl, hC, hra, hA⟩ := ho.bytes
 have B1 := below_on B0 hb1
 have HP := h_ (rdPS_one w1 G w.heap.size A C (headB 7 (20 + n)) 22 (PieceS.own hra fun q hq => ⟨Nat.le_trans B0.size (hA q hq).1, (hA q hq).2⟩) B1.size)
 clear ho hra hA hC
 go_wp2_with fail
 refine (lay_any G M d bs u S w _ HS.out HF.out hSG HSl.out (below_al B1 _) _ 1 1 [headB 7 (20 + n)] (headB 7 (20 + n)) rfl (by simp) HP.out (by simp)).mono ?_
 rintro e w2 ⟨rfl, hk2, hb2, u', hw2⟩
 have HK2 := h_ (keep_of HSl.out (below_al B1 _) hk2)
 clear hk2
 have HW2 := h_ hw2
 clear hw2
 go_wp2_with fail
 go_end0
 exact ⟨rfl, HK2.out, ((below_al B1 _).mono (Nat.le_of_lt HS.out.lt.2)).trans hb2, u', HW2.out⟩

set_option maxRecDepth 100000 in
theorem kind_null (G M d : Nat) (bs : List UInt8) (u : Value) (S : Nat → Prop) (k n : Int) (v2 v3 v4 : Value) (w : World) (hS : WS w G M bs d u) (hF : Free S bs u) (hSG : ¬ S G) (hSl : ∀ b, S b → b < w.heap.size) (ht : TabW w) :
  Calls Tryz.prog 83 #[.pointer (some ⟨G, 0, none⟩), .agg #[.int .i64 k, .int .u64 n, v2, v3, v4]] w (KindP S w G M bs d (headB 7 22)) := by
 have HS := h_ hS
 have HF := h_ hF
 have HSl := h_ hSl
 have HT := h_ ht
 clear hS hF hSl ht
 have B0 := below_al (Below.refl w.heap.size w) (.cells #[.int .i64 k, .int .u64 n, v2, v3, v4] 45)
 go_enter Tryz.func83, Tryz.ntmps83
 go_wp2_with fail
 refine (head_any 7 22 _ (by omega) (by simp only [U64]; omega) (HT.out.on B0)).mono ?_
 rintro e w1 ⟨v, rfl, ho, hb1⟩
 obtain ⟨A, C, rfl, hC, hra, hA⟩ := ho.bytes
 have B1 := below_on B0 hb1
 have HP := h_ (rdPS_one w1 G w.heap.size A C (headB 7 22) 22 (PieceS.own hra fun q hq => ⟨Nat.le_trans B0.size (hA q hq).1, (hA q hq).2⟩) B1.size)
 clear ho hra hA hC
 go_wp2_with fail
 refine (lay_any G M d bs u S w _ HS.out HF.out hSG HSl.out (below_al B1 _) _ 1 1 [headB 7 22] (headB 7 22) rfl (by simp) HP.out (by simp)).mono ?_
 rintro e w2 ⟨rfl, hk2, hb2, u', hw2⟩
 have HK2 := h_ (keep_of HSl.out (below_al B1 _) hk2)
 clear hk2
 have HW2 := h_ hw2
 clear hw2
 go_wp2_with fail
 go_end0
 exact ⟨rfl, HK2.out, ((below_al B1 _).mono (Nat.le_of_lt HS.out.lt.2)).trans hb2, u', HW2.out⟩

def BoxC (B i : Nat) (v : Value) (w : World) : Prop := w.cell? ⟨B, i, none⟩ = some v

theorem BoxC.held {B i : Nat} {v : Value} {w : World} (h : BoxC B i v w) : w.cell? ⟨B, i, none⟩ = some v ∧ BoxC B i v w := ⟨h, h⟩

theorem BoxC.on {B i : Nat} {v : Value} {w w' : World} (h : BoxC B i v w) (hb : Below w.heap.size w w') : BoxC B i v w' :=
 (hb.cell (p := ⟨B, i, none⟩) (World.block_lt_of_cell? w _ h)).trans h

theorem BoxC.keep {B i : Nat} {v : Value} {w w' : World} {S : Nat → Prop} (h : BoxC B i v w) (hk : KeepB S w w') (hB : S B) : BoxC B i v w' :=
 (keep_cell hk hB).trans h

theorem headP_at (M m : Int) (m' : Nat) (hM : M = m) (hm' : m = (m' : Int)) (l : Nat) (hl : l ≤ 140737488355328) (hm : m' ≤ 7) (w : World) (ht : TabW w) (n : Int) (hn : n = (l : Int)) :
  Calls Tryz.prog 78 #[.int .u8 M, .int .u64 n] w (JoinP w (headB m' l)) := by
 subst hM hm' hn
 exact head_any m' l w hm (by simp only [U64]; omega) ht

theorem wrapLen {l : Nat} (h : l ≤ 140737488355328) : IntKind.u64.wrap (l : Int) = (l : Int) := by
 rw [IntKind.wrap_u64]
 omega

set_option maxRecDepth 100000 in
theorem kind_bytes (G M d : Nat) (bs : List UInt8) (u : Value) (S : Nat → Prop) (k n : Int) (a : Option Addr) (b : List UInt8) (c : Nat) (v3 v4 : Value) (w : World) (hS : WS w G M bs d u) (hF : Free S bs u) (hSG : ¬ S G) (hSl : ∀ b, S b → b < w.heap.size) (ht : TabW w) (hb : RdB w G a b) (hl : b.length ≤ 140737488355328) :
  Calls Tryz.prog 79 #[.pointer (some ⟨G, 0, none⟩), .agg #[.int .i64 k, .int .u64 n, .slice a b.length c, v3, v4]] w (KindP S w G M bs d (headB 2 b.length ++ b)) := by
 have HS := h_ hS
 have HF := h_ hF
 have HSl := h_ hSl
 have HB := h_ hb
 have hG := hS.lt.2
 have B0 : Below w.heap.size w (w.alloc (.cells #[.int .i64 k, .int .u64 n, .slice a b.length c, v3, v4] 45)).drew := (below_al (Below.refl w.heap.size w) _).drew
 have F0 : BoxC w.heap.size 2 (.slice a b.length c) (w.alloc (.cells #[.int .i64 k, .int .u64 n, .slice a b.length c, v3, v4] 45)).drew := by
  show (w.alloc _).cell? _ = _
  simp
 have HC := h_ (headP_at 2 2 2 rfl rfl b.length hl (by omega) (w.alloc (.cells #[.int .i64 k, .int .u64 n, .slice a b.length c, v3, v4] 45)).drew (ht.on B0))
 have HWr := h_ (wrapLen hl)
 clear hS hF hSl ht hb
 go_enter Tryz.func79, Tryz.ntmps79
 go_wp2_with fail
 go_region_held (fun w' => w'.cell? ⟨w.heap.size, 2, none⟩ = some (.slice a b.length c) ∧ BoxC w.heap.size 2 (.slice a b.length c) w')
  (first | (refine BoxC.held ?_; with_reducible exact F0) | (refine BoxC.held ?_; with_reducible exact F1) | (refine BoxC.held ?_; with_reducible exact F2) | (refine BoxC.held ?_; with_reducible exact F3))
  (first
   | (go_at_call 78; ((with_reducible refine (HC.out _ HWr.out).mono ?_)); rintro e w1 ⟨v, rfl, ho, hb1⟩; obtain ⟨A, C, rfl, hC, hra, hA⟩ := ho.bytes; have F1 := F0.on hb1; have B1 := below_on B0 hb1
      have HP := h_ (rdPS_two w1 G w.heap.size A a C c (headB 2 b.length) b 22 (PieceS.own hra fun q hq => ⟨Nat.le_trans B0.size (hA q hq).1, (hA q hq).2⟩) (PieceS.low (HB.out.below (B1.mono (Nat.le_of_lt hG))) (Nat.le_trans (Nat.le_of_lt hG) B1.size)) B1.size)
      have F2 := F1.on (below_al bR (.cells #[.slice A (headB 2 b.length).length C, .slice a b.length c] 22)); clear ho hra hA hC)
   | (go_at_call 77; with_reducible refine (lay_any G M d bs u S w _ HS.out HF.out hSG HSl.out (below_al B1 _) _ 2 2 [headB 2 b.length, b] (headB 2 b.length ++ b) rfl (by simp) HP.out (by simp)).mono ?_; rintro e w2 ⟨rfl, hk2, hb2, u', hw2⟩; have HW2 := h_ hw2; clear hw2
      have F3 := F2.keep hk2 ⟨.inr (.inr (Nat.le_refl _)), World.block_lt_of_cell? _ _ F2⟩
      have HK2 := h_ (keep_of HSl.out (below_al B1 _) hk2); clear hk2))
 go_end0
 exact ⟨rfl, HK2.out, ((below_al B1 _).mono (Nat.le_of_lt hG)).trans hb2, u', HW2.out⟩

theorem TabW.alloc {w : World} (h : TabW w) (o : Obj) : TabW (w.alloc o) := h.on (below_al bR o)
theorem TabW.drew {w : World} (h : TabW w) : TabW w.drew := h

def convC (w : World) (s : List UInt8) : Nat := grownCap w s.length 0 5
def convO (w : World) (s : List UInt8) : Obj := .cells (bytesRow ⟨s.toArray⟩ (convC w s)) 5 ((bytesRow ⟨s.toArray⟩ (convC w s)).size, (bytesRow ⟨s.toArray⟩ (convC w s)).size + 1)

theorem conv_run (s : List UInt8) (w : World) : (convert 9 22 (.string ⟨s.toArray⟩)).run Tryz.prog w = .ok (.slice (some ⟨w.heap.size, 0, none⟩) s.length (convC w s)) (w.drew.alloc (convO w s)) :=
 run_bytes_of_string w 9 22 5 ⟨s.toArray⟩ Tryz.underlying9 Tryz.underlying22 Tryz.underlying5

theorem conv_rd (s : List UInt8) (w : World) : RdB (w.drew.alloc (convO w s)) (w.heap.size + 1) (some ⟨w.heap.size, 0, none⟩) s := by
 refine .inr ⟨w.heap.size, 0, rfl, by omega, fun j hj => ?_⟩
 have h := World.cell?_alloc_mark w.drew (bytesRow ⟨s.toArray⟩ (convC w s)) 5 ((bytesRow ⟨s.toArray⟩ (convC w s)).size, (bytesRow ⟨s.toArray⟩ (convC w s)).size + 1) (0 + j)
 refine h.trans ?_
 rw [Nat.zero_add, bytesRow, Array.getElem?_append_left (by simpa using hj)]
 simp [byteAt, List.getElem?_eq_getElem hj]

theorem PieceS.heap {w w' : World} {G H : Nat} {A : Option Addr} {p : List UInt8} (h : PieceS w G H A p) (e : w.heap = w'.heap) : PieceS w' G H A p := by
 rcases h with h | ⟨b, o, rfl, h1, h2, h3⟩
 ·exact .inl h
 ·refine .inr ⟨b, o, rfl, h1, by rw [← e]; exact h2, fun i hi => ?_⟩
  rw [← h3 i hi]
  unfold World.cell?
  rw [e]

theorem drew_size (w : World) : w.drew.heap.size = w.heap.size := rfl

theorem conv_piece (s : List UInt8) (w : World) (G H : Nat) (hH : H ≤ w.heap.size) : PieceS (w.alloc (convO w s)) G H (some ⟨w.heap.size, 0, none⟩) s := by
 refine PieceS.own (((conv_rd s w : RdB (w.alloc (convO w s)) (w.heap.size + 1) (some ⟨w.heap.size, 0, none⟩) s)).mono (by simp)) fun q hq => ?_
 cases hq
 exact ⟨hH, by simp⟩

theorem PieceS.on {w w' : World} {G H : Nat} {A : Option Addr} {p : List UInt8} (h : PieceS w G H A p) (hb : Below w.heap.size w w') : PieceS w' G H A p := by
 rcases h with h | ⟨b, o, rfl, h1, h2, h3⟩
 ·exact .inl h
 ·exact .inr ⟨b, o, rfl, h1, Nat.lt_of_lt_of_le h2 hb.size, fun i hi => (hb.cell (p := ⟨b, o + i, none⟩) h2).trans (h3 i hi)⟩

theorem PieceS.onE {w w0 w' : World} {G H : Nat} {A : Option Addr} {p : List UInt8} (h : PieceS w G H A p) (hb : Below w0.heap.size w0 w') (e : w.heap = w0.heap) : PieceS w' G H A p :=
 (h.heap e).on hb

set_option maxRecDepth 100000 in
theorem kind_text (G M d : Nat) (bs : List UInt8) (u : Value) (S : Nat → Prop) (k n : Int) (s : List UInt8) (v2 v4 : Value) (w : World) (hS : WS w G M bs d u) (hF : Free S bs u) (hSG : ¬ S G) (hSl : ∀ b, S b → b < w.heap.size) (ht : TabW w) (hl : s.length ≤ 140737488355328) :
  Calls Tryz.prog 80 #[.pointer (some ⟨G, 0, none⟩), .agg #[.int .i64 k, .int .u64 n, v2, .string ⟨s.toArray⟩, v4]] w (KindP S w G M bs d (headB 3 s.length ++ s)) := by
 have HS := h_ hS
 have HF := h_ hF
 have HSl := h_ hSl
 have hG := hS.lt.2
 have HT := h_ (ht.alloc (.cells #[.int .i64 k, .int .u64 n, v2, .string ⟨s.toArray⟩, v4] 45))
 have HWr := h_ (wrapLen hl)
 have hcv := conv_run s
 clear hS hF hSl ht
 go_enter Tryz.func80, Tryz.ntmps80
 go_wp2_with fail
 go_region_with (first
   | (go_at_call 78; refine (headP_at 3 3 3 rfl rfl s.length hl (by omega) _ (by repeat (first | exact HT.out | refine TabW.alloc ?_ _ | refine TabW.drew ?_)) _ HWr.out).mono ?_; rintro e w1 ⟨v, rfl, ho, hb1⟩; obtain ⟨A, C, rfl, hC, hra, hA⟩ := ho.bytes
      have F1 : w1.cell? ⟨w.heap.size, 3, none⟩ = some (.string ⟨s.toArray⟩) := (hb1.cell (p := ⟨w.heap.size, 3, none⟩) (by simp <;> omega)).trans (by simp)
      have hsz := hb1.size
      simp at hsz
      have hBw : Hid (Below w.heap.size w w1) := by
       first
        | exact (below_al bR _).drew.trans (hb1.mono (by simp))
        | exact (below_al (below_al bR _) _).drew.trans (hb1.mono (by simp; omega))
        | exact (below_al (below_al bR _) _).drew.drew.trans (hb1.mono (by simp; omega))
      have HPA := h_ (PieceS.own (H := w.heap.size) (G := G) hra fun q hq => ⟨by have := (hA q hq).1; simp at this; omega, (hA q hq).2⟩)
      clear ho hra hA hC)
   | (go_at_call 77
      refine (lay_any G M d bs u S w _ HS.out HF.out hSG HSl.out (by first | exact (below_al (below_al hBw.out _) _).drew | exact (below_al hBw.out _).drew | exact below_al hBw.out _) _ 2 2 [headB 3 s.length, s] (headB 3 s.length ++ s) rfl (by simp) (by
         first
          | (have h := rdPS_two (w1.alloc (convO w1 s)) G w.heap.size A _ C (convC w1 s) _ s 22 (HPA.out.alloc _) (conv_piece s w1 G w.heap.size hBw.out.size) (below_al hBw.out _).size
             simp only [World.size_alloc, drew_size] at h ⊢
             exact h)
          | (have h := rdPS_two w1 G w.heap.size A _ C (convC (w.alloc (.cells #[.int .i64 k, .int .u64 n, v2, .string ⟨s.toArray⟩, v4] 45)).drew s) _ s 22 HPA.out (PieceS.onE (conv_piece s (w.alloc (.cells #[.int .i64 k, .int .u64 n, v2, .string ⟨s.toArray⟩, v4] 45)).drew G w.heap.size (by rw [drew_size, World.size_alloc]; exact Nat.le_succ _)) hb1 rfl) hBw.out.size
             simp only [World.size_alloc, drew_size] at h ⊢
             exact h)) (by simp)).mono ?_; rintro e w2 ⟨rfl, hk2, hb2, u', hw2⟩; have HW2 := h_ hw2; clear hw2
      have HBG : Below G w w2 := by
       first
        | exact ((below_al (below_al hBw.out _) _).drew.mono (Nat.le_of_lt hG)).trans hb2
        | exact ((below_al hBw.out _).drew.mono (Nat.le_of_lt hG)).trans hb2
        | exact ((below_al hBw.out _).mono (Nat.le_of_lt hG)).trans hb2
      have HK2 : Hid (KeepB S w w2) := by
       first
        | exact keep_of HSl.out (below_al (below_al hBw.out _) _).drew hk2
        | exact keep_of HSl.out (below_al hBw.out _).drew hk2
        | exact keep_of HSl.out (below_al hBw.out _) hk2
      clear hk2))
 all_goals (go_end0; exact ⟨rfl, HK2.out, HBG, u', HW2.out⟩)

theorem drewH_size (w : World) : w.drew.heap.size = w.heap.size := rfl

def rightN (k n : Int) (b s : List UInt8) (m : Nat) : Bool :=
 (if k = 1 then true else if k = 2 then true else if k = 3 then (runesL s).2 else if k = 4 then true else if k = 5 then decide (n ≤ 1) else decide (k = 6)) &&
  (decide (k = 1 ∨ k = 5 ∨ n = 0) && (decide (k = 2 ∨ b = []) && (decide (k = 3 ∨ s = []) && decide (k = 4 ∨ m = 0))))

set_option maxRecDepth 100000 in
theorem itemRight_any (k n : Int) (a : Option Addr) (b s : List UInt8) (c : Nat) (A : Option Addr) (m C : Nat) (w : World) (hs : s.length ≤ 140737488355328) (hn : U64 n) :
  Calls Tryz.prog 84 #[.agg #[.int .i64 k, .int .u64 n, .slice a b.length c, .string ⟨s.toArray⟩, .slice A m C]] w fun e w' => e = .returned (.bool (rightN k n b s m)) ∧ Below w.heap.size w w' := by
 go_enter Tryz.func84, Tryz.ntmps84
 go_wp2_with fail
 go_region
 have hu : 0 ≤ n := hn.1
 by_cases hk1 : k = 1
 ·subst hk1
  go_wp2_with fail
  all_goals
   go_ret
   refine ⟨?_, (below_al (below_al bR _) _).drew⟩
   simp_all [rightN] <;> (first | omega | (rw [Bool.eq_iff_iff]; simp; done) | (rw [Bool.eq_iff_iff]; simp; omega) | (intros; omega))
 by_cases hk2 : k = 2
 ·subst hk2
  go_wp2_with fail
  all_goals
   go_ret
   refine ⟨?_, (below_al (below_al bR _) _).drew⟩
   simp_all [rightN] <;> (first | omega | (rw [Bool.eq_iff_iff]; simp; done) | (rw [Bool.eq_iff_iff]; simp; omega) | (intros; omega))
 by_cases hk3 : k = 3
 ·subst hk3
  go_wp2_with fail
  refine (runes_any ⟨s.toArray⟩ _ hs).mono ?_
  rintro e w1 ⟨rfl, hb1⟩
  change Below _ _ _ at hb1
  have hd : (⟨s.toArray⟩ : ByteArray).data.toList = s := rfl
  rw [hd]
  clear hd
  have hc1 : w1.cell? ⟨w.heap.size + 1, 1, none⟩ = some (.int .u64 n) := (hb1.cell (p := ⟨w.heap.size + 1, 1, none⟩) (by simp [drewH_size])).trans (by simp)
  have hc2 : w1.cell? ⟨w.heap.size + 1, 2, none⟩ = some (.slice a b.length c) := (hb1.cell (p := ⟨w.heap.size + 1, 2, none⟩) (by simp [drewH_size])).trans (by simp)
  have hc3 : w1.cell? ⟨w.heap.size + 1, 3, none⟩ = some (.string ⟨s.toArray⟩) := (hb1.cell (p := ⟨w.heap.size + 1, 3, none⟩) (by simp [drewH_size])).trans (by simp)
  have hc4 : w1.cell? ⟨w.heap.size + 1, 4, none⟩ = some (.slice A m C) := (hb1.cell (p := ⟨w.heap.size + 1, 4, none⟩) (by simp [drewH_size])).trans (by simp)
  have hf : w1.frozen? ⟨w.heap.size + 1, 3, none⟩ = false := (hb1.frozen (p := ⟨w.heap.size + 1, 3, none⟩) (by simp [drewH_size])).trans (by simp)
  obtain ⟨q, hq⟩ : ∃ q, q = (runesL s).2 := ⟨_, rfl⟩
  rw [← hq]
  have HQ := h_ hq
  clear hq
  cases q
  ·go_wp2_with fail
   all_goals
    go_ret
    refine ⟨?_, ((below_al (below_al bR _) _).drew.trans (hb1.mono (by simp [drewH_size]; omega))).setCell (by simp) _⟩
    simp [rightN, ← HQ.out]
  ·go_wp2_with fail
   all_goals
    go_ret
    refine ⟨?_, ((below_al (below_al bR _) _).drew.trans (hb1.mono (by simp [drewH_size]; omega))).setCell (by simp) _⟩
    have hq := HQ.out
    simp_all [rightN] <;> (first | omega | (rw [Bool.eq_iff_iff]; simp; done) | (rw [Bool.eq_iff_iff]; simp; omega) | (intros; omega))
 by_cases hk4 : k = 4
 ·subst hk4
  go_wp2_with fail
  all_goals
   go_ret
   refine ⟨?_, (below_al (below_al bR _) _).drew⟩
   simp_all [rightN] <;> (first | omega | (rw [Bool.eq_iff_iff]; simp; done) | (rw [Bool.eq_iff_iff]; simp; omega) | (intros; omega))
 by_cases hk5 : k = 5
 ·subst hk5
  go_wp2_with fail
  all_goals
   go_ret
   refine ⟨?_, (below_al (below_al bR _) _).drew⟩
   simp_all [rightN] <;> (first | omega | (rw [Bool.eq_iff_iff]; simp; done) | (rw [Bool.eq_iff_iff]; simp; omega) | (intros; omega))
 by_cases hk6 : k = 6
 ·subst hk6
  go_wp2_with fail
  all_goals
   go_ret
   refine ⟨?_, (below_al (below_al bR _) _).drew⟩
   simp_all [rightN] <;> (first | omega | (rw [Bool.eq_iff_iff]; simp; done) | (rw [Bool.eq_iff_iff]; simp; omega) | (intros; omega))
 have e1 : ((k : Int) == 1) = false := by simpa using hk1
 have e2 : ((k : Int) == 2) = false := by simpa using hk2
 have e3 : ((k : Int) == 3) = false := by simpa using hk3
 have e4 : ((k : Int) == 4) = false := by simpa using hk4
 have e5 : ((k : Int) == 5) = false := by simpa using hk5
 have e6 : ((k : Int) == 6) = false := by simpa using hk6
 go_wp2_with fail
 all_goals
  go_ret
  refine ⟨?_, (below_al (below_al bR _) _).drew⟩
  simp_all [rightN] <;> (first | omega | (rw [Bool.eq_iff_iff]; simp; done) | (rw [Bool.eq_iff_iff]; simp; omega) | (intros; omega))

end Go.Proofs.YteldifnkeekafaaGreatDoor
