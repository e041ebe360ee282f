/- Package cbor's writer: its kinds, what it lays. -/
import Derived.Test.YtlmdbeccfoncpaaGreatDoorZCbE
import Derived.Test.YtlmdbeccfoncpaaGreatDoorZKv
import Derived.Maps.Own
import Derived.WideMake
namespace Go.Proofs.YtlmdbeccfoncpaaGreatDoor
open Go.RowKit Go.Shelf

theorem map_set (w : World) (es fs : Array MapEntry) (c d : Nat) :
    { w.alloc (.map es c) with heap := (w.alloc (.map es c)).heap.setIfInBounds w.heap.size (.map fs d) } = w.alloc (.map fs d) := by
  simp only [World.alloc]
  congr 1
  apply Array.ext'
  simp [Array.setIfInBounds, Array.toList_push]

theorem map_at (w : World) (es : Array MapEntry) (c : Nat) : (w.alloc (.map es c)).heap[w.heap.size]? = some (.map es c) := by
  show (w.heap.push (Obj.map es c))[w.heap.size]? = _
  simp

theorem run_update_new (w : World) (es : Array MapEntry) (c : Nat) (k : Int) (v : Value) (hf : Instr.findNow (.int .i64) (.int .i64 k) es.toList 0 = some none) :
    (Instr.mapUpdate 117 (.map (some w.heap.size)) (.int .i64 k) v).run Tryz.prog (w.alloc (.map es c)) = .ok () (w.alloc (.map (es.push { key := .int .i64 k, val := v, born := c }) (c + 1))) := by
  have hb := map_at w es c
  have hc : (Instr.checkKey false 10000 82 (.int .i64 k)).run Tryz.prog (w.alloc (.map es c)) = .ok () (w.alloc (.map es c)) := MapKept.run_checkKey (k := .int .i64 k) Tryz.underlying82 (by simp [MapKept.IsKey]) false 9999
  simp [Instr.mapUpdate, run_underlying Tryz.underlying117, MapKept.run_getObj_map hb, hc, MapKept.run_findKey Tryz.underlying82 hf, MapKept.run_setObj_map _ hb, Result.andThen]
  exact map_set w _ _ _ _

def kE (k f c : Nat) : MapEntry := { key := .int .i64 k, val := .func (.func f) #[] #[], born := c }

/-- The map of kinds. -/
def kMap : Array MapEntry := #[kE 1 107 0, kE 2 110 1, kE 3 111 2, kE 4 112 3, kE 5 113 4, kE 6 114 5]

set_option maxRecDepth 100000 in
set_option maxHeartbeats 2000000 in
theorem kinds_any (w : World) :
    Calls Tryz.prog 88 #[] w fun e w' => e = .returned (.map (some w.heap.size)) ∧ w' = w.alloc (.map kMap 6) := by
  have hmm := @run_makeMap Tryz.prog
  have h0 := run_update_new w #[] 0 1 (.func (.func 107) #[] #[]) rfl
  have h1 := run_update_new w #[kE 1 107 0] 1 2 (.func (.func 110) #[] #[]) rfl
  have h2 := run_update_new w #[kE 1 107 0, kE 2 110 1] 2 3 (.func (.func 111) #[] #[]) rfl
  have h3 := run_update_new w #[kE 1 107 0, kE 2 110 1, kE 3 111 2] 3 4 (.func (.func 112) #[] #[]) rfl
  have h4 := run_update_new w #[kE 1 107 0, kE 2 110 1, kE 3 111 2, kE 4 112 3] 4 5 (.func (.func 113) #[] #[]) rfl
  have h5 := run_update_new w #[kE 1 107 0, kE 2 110 1, kE 3 111 2, kE 4 112 3, kE 5 113 4] 5 6 (.func (.func 114) #[] #[]) rfl
  change _ = Result.ok () (w.alloc (.map #[kE 1 107 0] 1)) at h0
  change _ = Result.ok () (w.alloc (.map #[kE 1 107 0, kE 2 110 1] 2)) at h1
  change _ = Result.ok () (w.alloc (.map #[kE 1 107 0, kE 2 110 1, kE 3 111 2] 3)) at h2
  change _ = Result.ok () (w.alloc (.map #[kE 1 107 0, kE 2 110 1, kE 3 111 2, kE 4 112 3] 4)) at h3
  change _ = Result.ok () (w.alloc (.map #[kE 1 107 0, kE 2 110 1, kE 3 111 2, kE 4 112 3, kE 5 113 4] 5)) at h4
  change _ = Result.ok () (w.alloc (.map kMap 6)) at h5
  go_enter Tryz.func88, Tryz.ntmps88
  go_wp2_with fail
  go_ret
  exact ⟨rfl, rfl⟩

theorem run_lookup_kind (w : World) (M k f : Nat) (hb : w.heap[M]? = some (.map kMap 6)) (hf : Instr.findNow (.int .i64) (.int .i64 k) kMap.toList 0 = some (some (k - 1, .func (.func f) #[] #[]))) :
    (Instr.lookup 117 (.map (some M)) (.int .i64 k) false).run Tryz.prog w = .ok (.func (.func f) #[] #[]) w := by
  have hc : (Instr.checkKey false 10000 82 (.int .i64 k)).run Tryz.prog w = .ok () w := MapKept.run_checkKey (k := .int .i64 k) Tryz.underlying82 (by simp [MapKept.IsKey]) false 9999
  have he : kMap.isEmpty = false := rfl
  simp [Instr.lookup, run_underlying Tryz.underlying117, MapKept.run_getObj_map hb, he, hc, MapKept.run_findKey Tryz.underlying82 hf, Result.andThen]

/-- A writer in block G: its map, the bytes that it has laid (or more than there may be), its depth. -/
structure WS (w : World) (G M : Nat) (bs : List UInt8) (d : Nat) (v : Value) : Prop where
  lt : M < G ∧ G < w.heap.size
  map : w.heap[M]? = some (.map kMap 6)
  c0 : w.cell? ⟨G, 0, none⟩ = some (.map (some M))
  c1 : w.cell? ⟨G, 1, none⟩ = some v
  c2 : w.cell? ⟨G, 2, none⟩ = some (.int .i64 d)
  c3 : w.cell? ⟨G, 3, none⟩ = some (.bool (decide (65536 < bs.length)))
  fz : ∀ j, w.frozen? ⟨G, j, none⟩ = false
  own : bs.length ≤ 65536 → OwnV w (G + 1) 5 v (bs.map encB)

theorem WS.later {w w' : World} {G M d : Nat} {bs : List UInt8} {v : Value} (h : WS w G M bs d v) (hb : Below w.heap.size w w') : WS w' G M bs d v where
  lt := ⟨h.lt.1, Nat.lt_of_lt_of_le h.lt.2 hb.size⟩
  map := (hb.block M (Nat.lt_trans h.lt.1 h.lt.2)).trans h.map
  c0 := (hb.cell (p := ⟨G, 0, none⟩) h.lt.2).trans h.c0
  c1 := (hb.cell (p := ⟨G, 1, none⟩) h.lt.2).trans h.c1
  c2 := (hb.cell (p := ⟨G, 2, none⟩) h.lt.2).trans h.c2
  c3 := (hb.cell (p := ⟨G, 3, none⟩) h.lt.2).trans h.c3
  fz := fun j => (hb.frozen (p := ⟨G, j, none⟩) h.lt.2).trans (h.fz j)
  own := fun q => (h.own q).later hb

theorem WS.long {w : World} {G M d : Nat} {bs p : List UInt8} {u : Value} (h : WS w G M bs d u) (hl : 65536 < (bs ++ p).length) : WS (w.setCell ⟨G, 3, none⟩ (.bool true)) G M (bs ++ p) d u where
  lt := by rw [World.size_setCell]; exact h.lt
  map := (Below.heap_setCell w _ _ M (Nat.ne_of_lt h.lt.1)).trans h.map
  c0 := (World.cell?_setCell_other _ _ _ _ (by simp)).trans h.c0
  c1 := (World.cell?_setCell_other _ _ _ _ (by simp)).trans h.c1
  c2 := (World.cell?_setCell_other _ _ _ _ (by simp)).trans h.c2
  c3 := by rw [World.cell?_setCell_same _ _ _ h.c3, decide_eq_true hl]
  fz := fun j => by rw [World.frozen?_setCell]; exact h.fz j
  own := fun q => absurd q (by omega)

theorem OwnV.setG {w : World} {G : Nat} {e : TypeId} {v : Value} {xs : List Value} {o : Nat} (h : OwnV w (G + 1) e v xs) (u : Value) : OwnV (w.setCell ⟨G, o, none⟩ u) (G + 1) e v xs :=
  ownsRow_setCell_below h (a := ⟨G, o, none⟩) (Nat.lt_succ_self G) u

theorem OwnV.isSlice {w : World} {base : Nat} {e : TypeId} {v : Value} {xs : List Value} (h : OwnV w base e v xs) : ∃ A n c, v = .slice A n c := by
  rcases h.form with ⟨rfl, _⟩ | ⟨g, cap, rfl, _⟩
  · exact ⟨_, _, _, rfl⟩
  · exact ⟨_, _, _, rfl⟩

theorem WS.appCell {w w2 : World} {G M d : Nat} {bs p : List UInt8} {u u' : Value} (h : WS w G M bs d u) (hbs : bs.length ≤ 65536)
    (hp : AppPost (w.setCell ⟨G, 3, none⟩ (.bool false)) (G + 1) 5 u (bs.map encB) (p.map encB) u' w2) :
    Below (G + 1) (w.setCell ⟨G, 3, none⟩ (.bool false)) w2 ∧ w2.cell? ⟨G, 1, none⟩ = some u ∧ w2.frozen? ⟨G, 1, none⟩ = false := by
  have hb : Below (G + 1) (w.setCell ⟨G, 3, none⟩ (.bool false)) w2 := hp.below ((h.own hbs).setG _) (by rw [World.size_setCell]; exact h.lt.2)
  refine ⟨hb, (hb.cell (p := ⟨G, 1, none⟩) (Nat.lt_succ_self G)).trans ((World.cell?_setCell_other _ _ _ _ (by simp)).trans h.c1), ?_⟩
  rw [hb.frozen (p := ⟨G, 1, none⟩) (Nat.lt_succ_self G), World.frozen?_setCell]
  exact h.fz 1

theorem WS.app {w w2 : World} {G M d : Nat} {bs p : List UInt8} {u u' : Value} (h : WS w G M bs d u) (hl : (bs ++ p).length ≤ 65536)
    (hp : AppPost (w.setCell ⟨G, 3, none⟩ (.bool false)) (G + 1) 5 u (bs.map encB) (p.map encB) u' w2) : WS (w2.setCell ⟨G, 1, none⟩ u') G M (bs ++ p) d u' := by
  have hbs : bs.length ≤ 65536 := by simp at hl; omega
  have hb := (h.appCell hbs hp).1
  have q0 : w2.cell? ⟨G, 0, none⟩ = some (.map (some M)) := (hb.cell (p := ⟨G, 0, none⟩) (Nat.lt_succ_self G)).trans ((World.cell?_setCell_other _ _ _ _ (by simp)).trans h.c0)
  have q1 : w2.cell? ⟨G, 1, none⟩ = some u := (hb.cell (p := ⟨G, 1, none⟩) (Nat.lt_succ_self G)).trans ((World.cell?_setCell_other _ _ _ _ (by simp)).trans h.c1)
  have q2 : w2.cell? ⟨G, 2, none⟩ = some (.int .i64 d) := (hb.cell (p := ⟨G, 2, none⟩) (Nat.lt_succ_self G)).trans ((World.cell?_setCell_other _ _ _ _ (by simp)).trans h.c2)
  have q3 : w2.cell? ⟨G, 3, none⟩ = some (.bool false) := (hb.cell (p := ⟨G, 3, none⟩) (Nat.lt_succ_self G)).trans (World.cell?_setCell_same _ _ _ h.c3)
  have hsz := hb.size
  rw [World.size_setCell] at hsz
  exact {
    lt := by rw [World.size_setCell]; exact ⟨h.lt.1, Nat.lt_of_lt_of_le h.lt.2 hsz⟩
    map := (Below.heap_setCell w2 _ _ M (Nat.ne_of_lt h.lt.1)).trans ((hb.block M (Nat.lt_succ_of_lt h.lt.1)).trans ((Below.heap_setCell w _ _ M (Nat.ne_of_lt h.lt.1)).trans h.map))
    c0 := (World.cell?_setCell_other _ _ _ _ (by simp)).trans q0
    c1 := World.cell?_setCell_same _ _ _ q1
    c2 := (World.cell?_setCell_other _ _ _ _ (by simp)).trans q2
    c3 := by rw [World.cell?_setCell_other _ _ _ _ (by simp), q3, decide_eq_false (by omega)]
    fz := fun j => by
      rw [World.frozen?_setCell, hb.frozen (p := ⟨G, j, none⟩) (Nat.lt_succ_self G), World.frozen?_setCell]
      exact h.fz j
    own := fun _ => by
      have h1 := hp.1
      rw [← List.map_append] at h1
      exact h1.setG _ }

theorem flat_step (ps : List (List UInt8)) (j : Nat) (hj : j < ps.length) : (ps.take (j + 1)).flatten = (ps.take j).flatten ++ (ps[j]?.getD []) := by
  rw [List.take_succ_eq_append_getElem hj, List.getElem?_eq_getElem hj, List.flatten_append]
  simp

/-- A slice of slices that reads as these pieces, all in blocks of S. -/
def RdPS (w : World) (S : Nat → Prop) (a : Option Addr) (ps : List (List UInt8)) : Prop :=
  ps = [] ∨ ∃ b o, a = some ⟨b, o, none⟩ ∧ S b ∧ ∀ j, j < ps.length → ∃ A C, w.cell? ⟨b, o + j, none⟩ = some (.slice A (ps[j]?.getD []).length C) ∧
    (ps[j]?.getD [] = [] ∨ ∃ b' o', A = some ⟨b', o', none⟩ ∧ S b' ∧ ∀ i, i < (ps[j]?.getD []).length → w.cell? ⟨b', o' + i, none⟩ = some (.int .u8 (byteAt (ps[j]?.getD []) i)))

set_option maxRecDepth 100000 in
set_option maxHeartbeats 4000000 in
theorem lay_core (G M d : Nat) (bs : List UInt8) (v : Value) (S : Nat → Prop) (a : Option Addr) (c : Nat) (ps : List (List UInt8)) (w : World) (hS : WS w G M bs d v) (hG : ¬ S G) (hv : bs.length ≤ 65536 → ∀ r, v.ownBlock = some r → ¬ S r)
    (hlt : ∀ b, S b → b < w.heap.size) (hr : RdPS w S a ps) (hl : ps.length ≤ 10) :
    Calls Tryz.prog 108 #[.pointer (some ⟨G, 0, none⟩), .slice a ps.length c] w fun e w' => e = .returned (.tuple #[]) ∧ KeepB S w w' ∧ Below G w w' ∧ ∃ v', WS w' G M (bs ++ ps.flatten) d v' ∧ ((bs ++ ps.flatten).length ≤ 65536 → ∀ r, v'.ownBlock = some r → ¬ S r) := by
  have HR := Lib.hid hr
  have HS := Lib.hid hS
  have HV := Lib.hid hv
  have HLT := Lib.hid hlt
  clear hr hS hv hlt
  go_enter Tryz.func108, Tryz.ntmps108
  go_wp2_with fail
  go_loopw [8] (fun i wr => ∃ j : Nat, j ≤ ps.length ∧ i = .int .i64 j ∧ Hid (KeepB S w wr ∧ Below G w wr ∧ ∃ u, WS wr G M (bs ++ (ps.take j).flatten) d u ∧ ((bs ++ (ps.take j).flatten).length ≤ 65536 → ∀ r, u.ownBlock = some r → ¬ S r))) (fun i _ => ps.length - (intOf i).toNat)
  case atStart => exact ⟨0, Nat.zero_le _, rfl, KeepB.refl _ _, Below.refl _ _, v, by simpa using HS.out, by simpa using HV.out⟩
  case round =>
    obtain ⟨j, hj, rfl, HI⟩ := hrel
    by_cases hlt : j < ps.length
    · obtain ⟨hk, hbl, u, hws, hu⟩ := HI.out
      obtain ⟨b, o, rfl, hSb, hcs⟩ : ∃ b o, a = some ⟨b, o, none⟩ ∧ S b ∧ ∀ j, j < ps.length → ∃ A C, w.cell? ⟨b, o + j, none⟩ = some (.slice A (ps[j]?.getD []).length C) ∧
          (ps[j]?.getD [] = [] ∨ ∃ b' o', A = some ⟨b', o', none⟩ ∧ S b' ∧ ∀ i, i < (ps[j]?.getD []).length → w.cell? ⟨b', o' + i, none⟩ = some (.int .u8 (byteAt (ps[j]?.getD []) i))) := by
        rcases HR.out with h | h
        · subst h
          simp at hlt
        · exact h
      obtain ⟨A, C, hcj, hbytes⟩ := hcs j hlt
      rw [← keep_cell hk hSb] at hcj
      have HCS := Lib.hid hcs
      have HBy := Lib.hid hbytes
      have HWS := Lib.hid hws
      have HK := Lib.hid hk
      have HU := Lib.hid hu
      have HBl := Lib.hid hbl
      have h1 := hws.c1
      have h3 := hws.c3
      have hf1 := hws.fz 1
      have hf3 := hws.fz 3
      clear hcs hbytes hws hk hu hbl
      obtain ⟨n, hn⟩ : ∃ n, n = (ps[j]?.getD []).length := ⟨_, rfl⟩
      rw [← hn] at hcj
      have HN := Lib.hid hn
      clear hn
      by_cases hlong : 65536 < (bs ++ (ps.take j).flatten).length
      · rw [decide_eq_true hlong] at h3
        have HLo := Lib.hid hlong
        clear hlong
        go_wp2_with fail
        go_roundw
        case rel =>
          refine ⟨j + 1, by omega, by go_num, KeepB.setCell HK.out hG _, HBl.out.setCell (Nat.le_refl _) _, u, ?_, fun q => absurd q (by have := HLo.out; rw [flat_step ps j hlt]; simp at this ⊢; omega)⟩
          rw [flat_step ps j hlt, ← List.append_assoc]
          exact HWS.out.long (by have := HLo.out; simp at this ⊢; omega)
        case measure => simp [intOf]; omega
      · rw [decide_eq_false hlong] at h3
        have hown := HWS.out.own (by omega)
        obtain ⟨ua, uc, rfl, huc, hur, hub⟩ := hown.bytes
        obtain ⟨m, hm⟩ : ∃ m, m = (bs ++ (ps.take j).flatten).length := ⟨_, rfl⟩
        rw [← hm] at h1 hlong
        have HM := Lib.hid hm
        have HO := Lib.hid hown
        clear hm hown hur hub huc
        by_cases hbig : 65536 < m + n
        · have hgt : decide ((65536 : Int) - (m : Int) < (n : Int)) = true := by simp; omega
          go_wp2_with fail
          go_roundw
          case rel =>
            refine ⟨j + 1, by omega, by go_num, KeepB.setCell HK.out hG _, HBl.out.setCell (Nat.le_refl _) _, .slice ua (bs ++ (ps.take j).flatten).length uc, ?_, fun q => absurd q (by have e1 := HM.out; have e2 := HN.out; rw [flat_step ps j hlt, ← List.append_assoc, List.length_append, ← e1, ← e2]; omega)⟩
            rw [flat_step ps j hlt, ← List.append_assoc]
            exact HWS.out.long (by have e1 := HM.out; have e2 := HN.out; rw [List.length_append, ← e1, ← e2]; exact hbig)
          case measure => simp [intOf]; omega
        · have hgt : decide ((65536 : Int) - (m : Int) < (n : Int)) = false := by simp; omega
          have hGsz : G + 1 ≤ wr.heap.size := HWS.out.lt.2
          have hO1 : OwnV (wr.setCell ⟨G, 3, none⟩ (.bool false)) (G + 1) 5 (.slice ua m uc) ((bs ++ (ps.take j).flatten).map encB) := by
            have := HO.out.setG (o := 3) (.bool false)
            rw [← HM.out] at this
            exact this
          have hS1 : Src (wr.setCell ⟨G, 3, none⟩ (.bool false)) A ((ps[j]?.getD []).map encB) := by
            rcases HBy.out with h | ⟨b', o', rfl, hSb', hc'⟩
            · exact .inl (by rw [h]; rfl)
            · refine .inr ⟨_, rfl, fun i x hx => ?_⟩
              have hi : i < (ps[j]?.getD []).length := by
                have := (List.getElem?_eq_some_iff.1 hx).1
                simpa using this
              rw [encB_at _ i hi] at hx
              injection hx with hx
              subst hx
              have hne : G ≠ b' := fun q => hG (q ▸ hSb')
              rw [mk_addr_add, World.cell?_setCell_other _ _ _ _ (fun q => hne (congrArg Addr.block q)), keep_cell HK.out hSb']
              exact hc' i hi
          have HO1 := Lib.hid hO1
          have HS1 := Lib.hid hS1
          have HNL : Hid (((ps[j]?.getD []).map encB).length = n) := by rw [Hid, List.length_map]; exact HN.out.symm
          have HX : Hid (((bs ++ (ps.take j).flatten).map encB).length + ((ps[j]?.getD []).map encB).length ≤ 65536) := by
            rw [Hid, List.length_map, List.length_map, ← HM.out, ← HN.out]
            omega
          have HE1 := Lib.hid (encB_one (ps[j]?.getD []))
          have HUb : Hid (∀ r, (Value.slice ua m uc).ownBlock = some r → ¬ S r) := by
            have h1 := HU.out (by rw [← HM.out]; omega)
            rw [← HM.out] at h1
            exact h1
          have hWS' : WS wr G M (bs ++ (ps.take j).flatten) d (.slice ua m uc) := by rw [HM.out]; exact HWS.out
          have HWS' := Lib.hid hWS'
          have hml : (bs ++ (ps.take j).flatten).length ≤ 65536 := by rw [← HM.out]; omega
          have HML := Lib.hid hml
          clear hO1 hS1 hWS' hml
          go_wp2_with (at_builtin; go_loud (refine wpList_app _ rfl _ _ 29 rfl (G + 1) 5 (.int .u8 0) 1 Tryz.underlying29 info_u8 rfl _ _ rfl HO1.out _ _ _ _ rfl HNL.out HS1.out HE1.out (by have := HX.out; unfold maxLen; omega) (by have := HX.out; omega) (by rw [World.size_setCell]; exact hGsz) ?_); intro v' w2 hp; have hq := HWS'.out.appCell HML.out hp; obtain ⟨hb2, hcG, hfG⟩ := hq; obtain ⟨A', n', c', rfl⟩ := hp.1.isSlice; have HPo := Lib.hid hp; have HB2 := Lib.hid hb2; clear hp hb2)
          go_roundw
          case rel =>
            have hsz : w.heap.size ≤ wr.heap.size := HBl.out.size
            refine ⟨j + 1, by omega, by go_num, KeepB.setCell (KeepB.grown (KeepB.setCell HK.out hG (.bool false)) (fun b hb => by rw [World.size_setCell]; exact Nat.lt_of_lt_of_le (HLT.out b hb) hsz) HPo.out.2.1 ?_) hG _,
              ((HBl.out.setCell (Nat.le_refl _) (.bool false)).trans (HB2.out.mono (Nat.le_succ _))).setCell (Nat.le_refl _) _, .slice A' n' c', ?_, ?_⟩
            · intro r hr
              exact HUb.out r hr
            · rw [flat_step ps j hlt, ← List.append_assoc]
              exact HWS'.out.app (by rw [List.length_append, ← HM.out, ← HN.out]; omega) HPo.out
            · intro _ r hr
              rcases HPo.out.2.2 with h | h
              · rw [h] at hr
                exact HUb.out r hr
              · rw [h] at hr
                injection hr with hr
                rw [World.size_setCell] at hr
                intro hs
                have := HLT.out r hs
                omega
          case measure => simp [intOf]; omega
    · obtain rfl : j = ps.length := by omega
      go_wp2_with fail
      obtain ⟨hk, hbl, u, hws, hfr⟩ := HI.out
      rw [List.take_length] at hws hfr
      go_end0
      exact ⟨rfl, hk, hbl, u, hws, hfr⟩

/-- The pieces' blocks: the writer's own apart. -/
def apart (G H N b : Nat) : Prop := (b < G ∨ H ≤ b) ∧ b < N

/-- These, and what is to stay. -/
def total (S : Nat → Prop) (G H N b : Nat) : Prop := (S b ∨ b < G ∨ H ≤ b) ∧ b < N

/-- The writer's own row lies in none of these. -/
def Free (S : Nat → Prop) (bs : List UInt8) (u : Value) : Prop := bs.length ≤ 65536 → ∀ r, u.ownBlock = some r → ¬ S r

theorem RdPS.total {w : World} {S : Nat → Prop} {G H N : Nat} {a : Option Addr} {ps : List (List UInt8)} (h : RdPS w (apart G H N) a ps) : RdPS w (total S G H N) a ps := by
  have hh : ∀ b, apart G H N b → Go.Proofs.YtlmdbeccfoncpaaGreatDoor.total S G H N b := fun b h => ⟨.inr h.1, h.2⟩
  rcases h with h | ⟨b, o, rfl, hb, hc⟩
  · exact .inl h
  · refine .inr ⟨b, o, rfl, hh b hb, fun j hj => ?_⟩
    obtain ⟨A, C, h1, h2⟩ := hc j hj
    refine ⟨A, C, h1, h2.imp id ?_⟩
    rintro ⟨b', o', e, h3, h4⟩
    exact ⟨b', o', e, hh b' h3, h4⟩

theorem lay_any (G M d : Nat) (bs : List UInt8) (v : Value) (S : Nat → Prop) (w0 w : World) (hS : WS w0 G M bs d v) (hF : Free S bs v) (hSG : ¬ S G) (hSl : ∀ b, S b → b < w0.heap.size) (hb : Below w0.heap.size w0 w) (a : Option Addr) (n c : Nat) (ps : List (List UInt8)) (cs : List UInt8) (hn : n = ps.length) (hcs : cs = ps.flatten)
    (hr : RdPS w (apart G w0.heap.size w.heap.size) a ps) (hl : ps.length ≤ 10) :
    Calls Tryz.prog 108 #[.pointer (some ⟨G, 0, none⟩), .slice a n c] w fun e w' => e = .returned (.tuple #[]) ∧ KeepB (total S G w0.heap.size w.heap.size) w w' ∧ Below G w w' ∧ ∃ v', WS w' G M (bs ++ cs) d v' ∧ Free S (bs ++ cs) v' := by
  subst hn hcs
  have hG := hS.lt.2
  have hbs := hb.size
  refine (lay_core G M d bs v (total S G w0.heap.size w.heap.size) a c ps w (hS.later hb) (fun h => by rcases h.1 with h | h | h; exact hSG h; omega; omega) (fun q r hr h => ?_) (fun b h => h.2) hr.total hl).mono ?_
  · have h1 := (hS.own q).row r hr
    rcases h.1 with h | h | h
    · exact hF q r hr h
    · omega
    · omega
  · rintro e w' ⟨rfl, h1, h2, v', h3, h4⟩
    exact ⟨rfl, h1, h2, v', h3, fun q r hr hs => h4 q r hr ⟨.inl hs, Nat.lt_of_lt_of_le (hSl r hs) hbs⟩⟩

end Go.Proofs.YtlmdbeccfoncpaaGreatDoor
