/- Joined texts. -/
import Derived.Test.YteldifnkeekafaaGreatDoorZKo
import Derived.Recover
set_option maxHeartbeats 4000000
set_option linter.unusedSimpArgs false
namespace Go.Proofs.YteldifnkeekafaaGreatDoor
open Go.RowKit Go.Shelf

theorem assert_errno (v : Value) (w : World) : (Instr.typeAssert (.iface 33 v) 20 33 false).run Tryz.prog w = .ok v w := by
 simp [Instr.typeAssert, run_underlying Tryz.underlying33]

set_option maxRecDepth 100000 in
theorem catch_gives (p : Addr) (x c : Int) (w : World) (hc : w.cell? p = some (.int .i64 x)) (hz : w.frozen? p = false) :
  CallsD Tryz.prog 54 #[.pointer (some p)] (.panicking [{ v := .iface 33 (.int .i64 c), recovered := false }]) w fun e u' w' =>
   e = .returned (.tuple #[]) ∧ u' = .panicking [{ v := .iface 33 (.int .i64 c), recovered := true }] ∧ w' = w.setCell p (.int .i64 c) := by
 refine callsD_of_wpS Tryz.func54 rfl fun c₀ cs hu => ?_
 apply wpS_seq
 apply wpS_region
 simp [wpOpsS, go_sem, recoverD, hu, Tryz.ntmps54, Exit.thenS]
 refine wpS_of_wp ?_
 change Code.wp _ _ _ { tmps := #[.pointer (some p), .iface 33 (.int .i64 c), .iface 33 (.int .i64 c), undef, undef, undef, undef], defers := [] } _
 have has := assert_errno (.int .i64 c)
 go_wp2_with fail
 cases c₀
 simp_all [bodyPostS, results, Tryz.results54]

theorem catch_idle (p : Addr) (w : World) :
  CallsD Tryz.prog 54 #[.pointer (some p)] .returning w fun e u' w' => e = .returned (.tuple #[]) ∧ u' = .returning ∧ w' = w := by
 refine callsD_of_wpS Tryz.func54 rfl fun c₀ cs hu => ?_
 apply wpS_seq
 apply wpS_region
 simp [wpOpsS, go_sem, recoverD, hu, Tryz.ntmps54, Exit.thenS]
 refine wpS_of_wp ?_
 change Code.wp _ _ _ { tmps := #[.pointer (some p), .nilIface, .nilIface, undef, undef, undef, undef], defers := [] } _
 go_wp2_with fail
 cases c₀
 simp_all [bodyPostS, results, Tryz.results54]

def firstN (bs : List UInt8) : Except Nat (It × Nat) :=
 if 65536 < bs.length then .error 3 else match itemN 8 bs with
  | .error c => .error c
  | .ok (x, r) => .ok (x, bs.length - r.length)

def FirstP (w : World) (bs : List UInt8) (e : Ending) (w' : World) : Prop :=
 Below w.heap.size w w' ∧ match firstN bs with
  | .error c => e = .returned (.tuple #[itemV 0 0 [], .int .i64 0, .int .i64 c])
  | .ok (x, n) => ∃ v, e = .returned (.tuple #[v, .int .i64 n, .int .i64 0]) ∧ ItS w' (newB w w') v x

set_option maxRecDepth 100000 in
theorem first_long (a : Option Addr) (n c : Nat) (bs : List UInt8) (hn : n = bs.length) (w : World) (hlo : 65536 < bs.length) (hbs : bs.length ≤ 140737488355328) :
  Calls Tryz.prog 34 #[.slice a n c] w (FirstP w bs) := by
 have hF : Hid (firstN bs = .error 3) := if_pos hlo
 rw [← hn] at hlo hbs
 clear hn
 have hB0 := below_al (below_al (Below.refl w.heap.size w) (.cells #[.int .i64 0, .int .u64 0, .slice none 0 0, .string ⟨#[]⟩, .slice none 0 0] 45)) (.cells #[.int .i64 0] 33)
 go_enter_defers Tryz.func34, Tryz.ntmps34
 go_wp2_with fail
 have hP : FirstP w bs (.returned (.tuple #[itemV 0 0 [], .int .i64 0, .int .i64 3])) ((w.alloc (.cells #[.int .i64 0, .int .u64 0, .slice none 0 0, .string ⟨#[]⟩, .slice none 0 0] 45)).alloc (.cells #[.int .i64 3] 33)) := by
  refine ⟨below_al (below_al (Below.refl w.heap.size w) _) _, ?_⟩
  rw [hF.out]
  rfl
 simp [bodyPostD, Leaves, settle, results, Tryz.results34, go_sem]
 exact hP

theorem rs_new (a : Option Addr) (c : Nat) (bs : List UInt8) (w W : World) (t : TypeId) (hr : RdB w w.heap.size a bs) (hc : bs.length ≤ c) (hc47 : bs.length ≤ 140737488355328) (hb : Below w.heap.size w W) : RS (W.alloc (.cells #[.slice a bs.length c] t)) W.heap.size w.heap.size bs := by
 refine ⟨a, c, by simp, hc, hc47, ?_, by simp, by simp, hb.size⟩
 exact hr.below (below_al hb _)

set_option maxRecDepth 100000 in
theorem cfirst_any (a : Option Addr) (n c : Nat) (bs : List UInt8) (hn : n = bs.length) (w : World) (hr : RdB w w.heap.size a bs) (hc : n ≤ c) (hc47 : bs.length ≤ 140737488355328) (ht : TabW w) (hlo : bs.length ≤ 65536) :
  Calls Tryz.prog 34 #[.slice a n c] w (FirstP w bs) := by
 have hmf : ∀ (fn : Fn) (first cap : Array Value) (w : World), (Instr.makeFunc fn first cap).run Tryz.prog w = .ok (.func fn first cap) w := fun _ _ _ _ => rfl
 have HN := h_ hn
 have HR := h_ hr
 have HT := h_ ht
 have hlo' : n ≤ 65536 := by omega
 have h2 := ht.1.1
 have hB0 := below_al (below_al (below_al (Below.refl w.heap.size w) (.cells #[.int .i64 0, .int .u64 0, .slice none 0 0, .string ⟨#[]⟩, .slice none 0 0] 45)) (.cells #[.int .i64 0] 33)) (.cells #[.slice a n c] 111)
 clear hn hr ht
 go_enter_defers Tryz.func34, Tryz.ntmps34
 go_wp2_with fail
 have hrs : RS (((w.alloc (.cells #[.int .i64 0, .int .u64 0, .slice none 0 0, .string ⟨#[]⟩, .slice none 0 0] 45)).alloc (.cells #[.int .i64 0] 33)).alloc (.cells #[.slice a n c] 111)) (w.heap.size + 1 + 1) w.heap.size bs := by
  have h := rs_new a c bs w ((w.alloc (.cells #[.int .i64 0, .int .u64 0, .slice none 0 0, .string ⟨#[]⟩, .slice none 0 0] 45)).alloc (.cells #[.int .i64 0] 33)) 111 HR.out (by rw [← HN.out]; exact hc) hc47 (below_al (below_al (Below.refl w.heap.size w) _) _)
  rw [← HN.out] at h
  simpa only [World.size_alloc] using h
 refine ((item_any (w.heap.size + 1 + 1) w.heap.size h2 8 (by omega)) bs _ hrs (HT.out.on hB0) (by omega)).mono ?_
 rintro e w1 ⟨hb1, hm⟩
 have hsz1 : w.heap.size + 1 + 1 + 1 ≤ w1.heap.size := by
  have := hb1.size
  simpa using this
 have hcell : ∀ i, w1.cell? ⟨w.heap.size, i, none⟩ = (w.alloc (.cells #[.int .i64 0, .int .u64 0, .slice none 0 0, .string ⟨#[]⟩, .slice none 0 0] 45)).cell? ⟨w.heap.size, i, none⟩ := fun i => by
  rw [hb1.cell (b := w.heap.size) (o := i) (by simp <;> omega) (by omega), World.cell?_alloc_lt _ _ _ (by simp <;> omega), World.cell?_alloc_lt _ _ _ (by simp)]
 have z0 := (hcell 0).trans (show _ = some (.int .i64 0) by simp)
 have z1 := (hcell 1).trans (show _ = some (.int .u64 0) by simp)
 have z2 := (hcell 2).trans (show _ = some (.slice none 0 0) by simp)
 have z3 := (hcell 3).trans (show _ = some (.string ⟨#[]⟩) by simp)
 have z4 := (hcell 4).trans (show _ = some (.slice none 0 0) by simp)
 have ec : w1.cell? ⟨w.heap.size + 1, 0, none⟩ = some (.int .i64 0) := by
  rw [hb1.cell (b := w.heap.size + 1) (o := 0) (by simp) (by omega), World.cell?_alloc_lt _ _ _ (by simp), ← World.size_alloc w (.cells #[.int .i64 0, .int .u64 0, .slice none 0 0, .string ⟨#[]⟩, .slice none 0 0] 45), World.cell?_alloc_mark]
  rfl
 have zf : ∀ i, w1.frozen? ⟨w.heap.size, i, none⟩ = false := fun i => by
  rw [hb1.frozen (b := w.heap.size) (o := i) (by simp <;> omega) (by omega), World.frozen?_alloc_old _ _ _ (by simp <;> omega), World.frozen?_alloc_old _ _ _ (by simp)]
  simp
 have ef : w1.frozen? ⟨w.heap.size + 1, 0, none⟩ = false := by
  rw [hb1.frozen (b := w.heap.size + 1) (o := 0) (by simp) (by omega), World.frozen?_alloc_old _ _ _ (by simp)]
  simp
 have HB1 := h_ hb1
 have HBw : Hid (Below w.heap.size w w1) := hB0.trans (hb1.below (by omega) (by simp; omega))
 clear hb1 hcell hrs
 cases hit : itemN 8 bs with
 | error q =>
  rw [hit] at hm
  have hm : e = gives q := hm
  subst hm
  have HF : Hid (firstN bs = .error q) := by
   rw [Hid, firstN, if_neg (by omega), hit]
  rw [gives_def]
  clear hit
  go_wp2_with fail
  refine leaves_cons (f := 54) (args := #[.pointer (some ⟨w.heap.size + 1, 0, none⟩)]) (by simp) (by simp [go_sem]) ?_
  refine (catch_gives ⟨w.heap.size + 1, 0, none⟩ 0 q w1 ec ef).mono ?_
  rintro e u' w'' ⟨rfl, rfl, rfl⟩
  have c0 : (w1.setCell ⟨w.heap.size + 1, 0, none⟩ (.int .i64 q)).cell? ⟨w.heap.size, 0, none⟩ = some (.int .i64 0) := (World.cell?_setCell_other _ _ _ _ (by simp)).trans z0
  have c1 : (w1.setCell ⟨w.heap.size + 1, 0, none⟩ (.int .i64 q)).cell? ⟨w.heap.size, 1, none⟩ = some (.int .u64 0) := (World.cell?_setCell_other _ _ _ _ (by simp)).trans z1
  have c2 : (w1.setCell ⟨w.heap.size + 1, 0, none⟩ (.int .i64 q)).cell? ⟨w.heap.size, 2, none⟩ = some (.slice none 0 0) := (World.cell?_setCell_other _ _ _ _ (by simp)).trans z2
  have c3 : (w1.setCell ⟨w.heap.size + 1, 0, none⟩ (.int .i64 q)).cell? ⟨w.heap.size, 3, none⟩ = some (.string ⟨#[]⟩) := (World.cell?_setCell_other _ _ _ _ (by simp)).trans z3
  have c4 : (w1.setCell ⟨w.heap.size + 1, 0, none⟩ (.int .i64 q)).cell? ⟨w.heap.size, 4, none⟩ = some (.slice none 0 0) := (World.cell?_setCell_other _ _ _ _ (by simp)).trans z4
  have c5 : (w1.setCell ⟨w.heap.size + 1, 0, none⟩ (.int .i64 q)).cell? ⟨w.heap.size + 1, 0, none⟩ = some (.int .i64 q) := World.cell?_setCell_same _ _ _ ec
  have hP : FirstP w bs (.returned (.tuple #[itemV 0 0 [], .int .i64 0, .int .i64 q])) (w1.setCell ⟨w.heap.size + 1, 0, none⟩ (.int .i64 q)) := by
   refine ⟨HBw.out.setCell (Nat.le_succ _) _, ?_⟩
   rw [HF.out]
  generalize w1.setCell ⟨w.heap.size + 1, 0, none⟩ (.int .i64 q) = w9 at *
  simp [Leaves, settle, results, Tryz.results34, go_sem, c0, c1, c2, c3, c4, c5]
  exact hP
 | ok p =>
  obtain ⟨x, r⟩ := p
  rw [hit] at hm
  obtain ⟨v, rfl, hx, hs1⟩ := hm
  obtain ⟨a', c', A', C', rfl⟩ := hx.form
  have HF : Hid (firstN bs = .ok (x, bs.length - r.length)) := by
   rw [Hid, firstN, if_neg (by omega), hit]
  have hrl := itemN_less 8 bs x r hit
  have HX := h_ hx
  have HS1 := h_ hs1
  clear hit hx hs1
  go_wp2_with fail
  change Code.wp _ _ _ _ (put5 w1 w.heap.size (.int .i64 x.k) (.int .u64 x.n) (.slice a' x.b.length c') (.string ⟨x.s.toArray⟩) (.slice A' x.l.length C'))
  obtain ⟨c0, c1, c2, c3, c4⟩ := put5_cells z0 z1 z2 z3 z4 (.int .i64 x.k) (.int .u64 x.n) (.slice a' x.b.length c') (.string ⟨x.s.toArray⟩) (.slice A' x.l.length C')
  have hbk := put5_block w1 w.heap.size (.int .i64 x.k) (.int .u64 x.n) (.slice a' x.b.length c') (.string ⟨x.s.toArray⟩) (.slice A' x.l.length C')
  have hbl := put5_below w1 w.heap.size w.heap.size (Nat.le_refl _) (.int .i64 x.k) (.int .u64 x.n) (.slice a' x.b.length c') (.string ⟨x.s.toArray⟩) (.slice A' x.l.length C')
  have zf3 : ∀ i, (put5 w1 w.heap.size (.int .i64 x.k) (.int .u64 x.n) (.slice a' x.b.length c') (.string ⟨x.s.toArray⟩) (.slice A' x.l.length C')).frozen? ⟨w.heap.size, i, none⟩ = false := fun i => by
   unfold put5
   rw [World.frozen?_setCell, World.frozen?_setCell, World.frozen?_setCell, World.frozen?_setCell, World.frozen?_setCell]
   exact zf i
  generalize put5 w1 w.heap.size (.int .i64 x.k) (.int .u64 x.n) (.slice a' x.b.length c') (.string ⟨x.s.toArray⟩) (.slice A' x.l.length C') = w3 at *
  have e3 : w3.cell? ⟨w.heap.size + 1, 0, none⟩ = some (.int .i64 0) := (World.cell?_of_block (w := w1) (hbk (w.heap.size + 1) (by omega))).trans ec
  have ef3 : w3.frozen? ⟨w.heap.size + 1, 0, none⟩ = false := (World.frozen?_of_block (w := w1) (hbk (w.heap.size + 1) (by omega))).trans ef
  obtain ⟨ra, rc, hrc, _, _, _, _, _, _⟩ := HS1.out
  have r3 : w3.cell? ⟨w.heap.size + 1 + 1, 0, none⟩ = some (.slice ra r.length rc) := (World.cell?_of_block (w := w1) (hbk (w.heap.size + 1 + 1) (by omega))).trans hrc
  have HBK := h_ hbk
  have HBL := h_ hbl
  have hrn : r.length ≤ n := by rw [HN.out]; omega
  clear hbk hbl hrc z0 z1 z2 z3 z4 zf ec ef
  go_region
  go_wp2_with fail
  change bodyPostD _ _ _ _ _ ((put5 w3 w.heap.size (.int .i64 x.k) (.int .u64 x.n) (.slice a' x.b.length c') (.string ⟨x.s.toArray⟩) (.slice A' x.l.length C')).setCell ⟨w.heap.size + 1, 0, none⟩ (.int .i64 0)).drew
  obtain ⟨d0, d1, d2, d3, d4⟩ := put5_cells c0 c1 c2 c3 c4 (.int .i64 x.k) (.int .u64 x.n) (.slice a' x.b.length c') (.string ⟨x.s.toArray⟩) (.slice A' x.l.length C')
  have hbk4 := put5_block w3 w.heap.size (.int .i64 x.k) (.int .u64 x.n) (.slice a' x.b.length c') (.string ⟨x.s.toArray⟩) (.slice A' x.l.length C')
  have hbl4 := put5_below w3 w.heap.size w.heap.size (Nat.le_refl _) (.int .i64 x.k) (.int .u64 x.n) (.slice a' x.b.length c') (.string ⟨x.s.toArray⟩) (.slice A' x.l.length C')
  generalize put5 w3 w.heap.size (.int .i64 x.k) (.int .u64 x.n) (.slice a' x.b.length c') (.string ⟨x.s.toArray⟩) (.slice A' x.l.length C') = w4 at *
  have e4 : w4.cell? ⟨w.heap.size + 1, 0, none⟩ = some (.int .i64 0) := (World.cell?_of_block (w := w3) (hbk4 (w.heap.size + 1) (by omega))).trans e3
  have k0 : (w4.setCell ⟨w.heap.size + 1, 0, none⟩ (.int .i64 0)).drew.cell? ⟨w.heap.size, 0, none⟩ = some (.int .i64 x.k) := (World.cell?_setCell_other _ _ _ _ (by simp)).trans d0
  have k1 : (w4.setCell ⟨w.heap.size + 1, 0, none⟩ (.int .i64 0)).drew.cell? ⟨w.heap.size, 1, none⟩ = some (.int .u64 x.n) := (World.cell?_setCell_other _ _ _ _ (by simp)).trans d1
  have k2 : (w4.setCell ⟨w.heap.size + 1, 0, none⟩ (.int .i64 0)).drew.cell? ⟨w.heap.size, 2, none⟩ = some (.slice a' x.b.length c') := (World.cell?_setCell_other _ _ _ _ (by simp)).trans d2
  have k3 : (w4.setCell ⟨w.heap.size + 1, 0, none⟩ (.int .i64 0)).drew.cell? ⟨w.heap.size, 3, none⟩ = some (.string ⟨x.s.toArray⟩) := (World.cell?_setCell_other _ _ _ _ (by simp)).trans d3
  have k4 : (w4.setCell ⟨w.heap.size + 1, 0, none⟩ (.int .i64 0)).drew.cell? ⟨w.heap.size, 4, none⟩ = some (.slice A' x.l.length C') := (World.cell?_setCell_other _ _ _ _ (by simp)).trans d4
  have k5 : (w4.setCell ⟨w.heap.size + 1, 0, none⟩ (.int .i64 0)).drew.cell? ⟨w.heap.size + 1, 0, none⟩ = some (.int .i64 0) := World.cell?_setCell_same _ _ _ e4
  have hP : FirstP w bs (.returned (.tuple #[.agg #[.int .i64 x.k, .int .u64 x.n, .slice a' x.b.length c', .string ⟨x.s.toArray⟩, .slice A' x.l.length C'], .int .i64 ((n : Int) - (r.length : Int)), .int .i64 0])) (w4.setCell ⟨w.heap.size + 1, 0, none⟩ (.int .i64 0)).drew := by
   refine ⟨(((HBw.out.trans HBL.out).trans hbl4).setCell (Nat.le_succ _) _).drew, ?_⟩
   rw [HF.out]
   refine ⟨_, ?_, (ItS.keep (w' := (w4.setCell ⟨w.heap.size + 1, 0, none⟩ (.int .i64 0)).drew) (fun b hb => ?_) x HX.out).more fun b hb => ⟨?_, ?_⟩⟩
   ·have e : (n : Int) - (r.length : Int) = ((bs.length - r.length : Nat) : Int) := by rw [HN.out]; omega
    rw [e]
   ·have h1 := hb.1
    simp at h1
    exact (Below.heap_setCell w4 _ _ b (by simp; omega)).trans ((hbk4 b (by omega)).trans (HBK.out b (by omega)))
   ·have h1 := hb.1
    simp at h1
    omega
   ·have h1 := hb.2
    have h2 := HBL.out.size
    have h3 := hbl4.size
    show b < (w4.setCell _ _).heap.size
    rw [World.size_setCell]
    omega
  refine leaves_cons (f := 54) (args := #[.pointer (some ⟨w.heap.size + 1, 0, none⟩)]) (by simp) (by simp [go_sem]) ?_
  refine (catch_idle ⟨w.heap.size + 1, 0, none⟩ _).mono ?_
  rintro e u' w'' ⟨rfl, rfl, rfl⟩
  generalize (w4.setCell ⟨w.heap.size + 1, 0, none⟩ (.int .i64 0)).drew = w9 at *
  simp [Leaves, settle, results, Tryz.results34, go_sem, k0, k1, k2, k3, k4, k5]
  exact hP

theorem listN_err {g : List UInt8 → Except Nat (It × List UInt8)} (hg : ∀ r c, g r = .error c → c = 120 ∨ c = 121) : ∀ (n : Nat) (r : List UInt8) (c : Nat), listN g n r = .error c → c = 120 ∨ c = 121
 | 0, r, c, h => by simp [listN] at h
 | n + 1, r, c, h => by
  simp only [listN] at h
  cases h1 : g r with
  | error e =>
   simp only [h1] at h
   injection h with h
   subst h
   exact hg r _ h1
  | ok p =>
   obtain ⟨x, r1⟩ := p
   simp only [h1] at h
   cases h2 : listN g n r1 with
   | error e =>
    simp only [h2] at h
    injection h with h
    subst h
    exact listN_err hg n r1 _ h2
   | ok q => simp [h2] at h

theorem textN_err {n : Int} {r : List UInt8} {c : Nat} (h : textN n r = .error c) : c = 121 := by
 unfold textN at h
 split at h
 ·split at h
  ·cases h
  ·injection h with h
   exact h.symm
 ·injection h with h
  exact h.symm

theorem bareN_err {n : Int} {r : List UInt8} {c : Nat} (h : bareN n r = .error c) : c = 121 := by
 unfold bareN at h
 split at h
 ·cases h
 ·split at h
  ·cases h
  ·injection h with h
   exact h.symm

theorem itemN_err : ∀ (k : Nat) (r : List UInt8) (c : Nat), itemN k r = .error c → c = 120 ∨ c = 121
 | 0, r, c, h => by
  simp only [itemN] at h
  injection h with h
  exact .inl h.symm
 | k + 1, bs, c, h => by
  cases hh : headN bs with
  | none =>
   rw [itemN_none hh] at h
   injection h with h
   exact .inr h.symm
  | some p =>
   obtain ⟨m, n, r⟩ := p
   by_cases m0 : m = 0
   ·subst m0
    rw [itemN_uint hh] at h
    cases h
   by_cases m2 : m = 2
   ·subst m2
    by_cases hl : n.toNat ≤ r.length
    ·rw [itemN_bytes hh hl] at h
     cases h
    ·rw [itemN_bytesE hh hl] at h
     injection h with h
     exact .inr h.symm
   by_cases m3 : m = 3
   ·subst m3
    rw [itemN_text hh] at h
    exact .inr (textN_err h)
   by_cases m4 : m = 4
   ·subst m4
    cases hL : listN (itemN k) n.toNat r with
    | error e =>
     rw [itemN_listE hh hL] at h
     injection h with h
     subst h
     exact listN_err (itemN_err k) _ _ _ hL
    | ok q =>
     obtain ⟨l, r'⟩ := q
     rw [itemN_list hh hL] at h
     cases h
   by_cases m7 : m = 7
   ·subst m7
    rw [itemN_bare hh] at h
    exact .inr (bareN_err h)
   rw [itemN_else hh m0 m2 m3 m4 m7] at h
   injection h with h
   exact .inr h.symm

theorem firstN_err {bs : List UInt8} {c : Nat} (h : firstN bs = .error c) : c = 3 ∨ c = 120 ∨ c = 121 := by
 unfold firstN at h
 split at h
 ·injection h with h
  exact .inl h.symm
 ·split at h
  ·rename_i q hq
   injection h with h
   subst h
   exact .inr (itemN_err 8 _ _ hq)
  ·cases h

theorem firstN_len {bs : List UInt8} {x : It} {n : Nat} (h : firstN bs = .ok (x, n)) : bs.length ≤ 65536 ∧ n ≤ bs.length ∧ 1 ≤ n := by
 unfold firstN at h
 split at h
 ·cases h
 ·split at h
  ·cases h
  ·rename_i y r hq
   injection h with h
   injection h with _ h
   have := itemN_less 8 _ _ _ hq
   omega

theorem firstAll (a : Option Addr) (n c : Nat) (bs : List UInt8) (hn : n = bs.length) (w : World) (hr : RdB w w.heap.size a bs) (hc : n ≤ c) (hc47 : bs.length ≤ 140737488355328) (ht : TabW w) :
  Calls Tryz.prog 34 #[.slice a n c] w (FirstP w bs) := by
 by_cases h : 65536 < bs.length
 ·exact first_long a n c bs hn w h (by omega)
 ·exact cfirst_any a n c bs hn w hr hc hc47 ht (by omega)

def decodeN (bs : List UInt8) : Except Nat It :=
 match firstN bs with
 | .error c => .error c
 | .ok (x, n) => if n < bs.length then .error 121 else .ok x

def DecodeP (w : World) (bs : List UInt8) (e : Ending) (w' : World) : Prop :=
 Below w.heap.size w w' ∧ match decodeN bs with
  | .error c => e = .returned (.tuple #[itemV 0 0 [], .int .i64 c])
  | .ok x => ∃ v, e = .returned (.tuple #[v, .int .i64 0]) ∧ ItS w' (newB w w') v x

set_option maxRecDepth 100000 in
theorem decode_any (a : Option Addr) (n c : Nat) (bs : List UInt8) (hn : n = bs.length) (w : World) (hr : RdB w w.heap.size a bs) (hc : n ≤ c) (hc47 : bs.length ≤ 140737488355328) (ht : TabW w) :
  Calls Tryz.prog 17 #[.slice a n c] w (DecodeP w bs) := by
 have HN := h_ hn
 have HR := h_ hr
 have HT := h_ ht
 have hB0 := below_al (Below.refl w.heap.size w) (.cells #[.int .i64 0, .int .u64 0, .slice none 0 0, .string ⟨#[]⟩, .slice none 0 0] 45)
 clear hn hr ht
 go_enter Tryz.func17, Tryz.ntmps17
 go_wp2_with fail
 refine (firstAll a n c bs HN.out _ ((HR.out.below hB0).mono hB0.size) hc hc47 (HT.out.on hB0)).mono ?_
 rintro e w1 ⟨hb1, hm⟩
 have hcell : ∀ i, w1.cell? ⟨w.heap.size, i, none⟩ = (w.alloc (.cells #[.int .i64 0, .int .u64 0, .slice none 0 0, .string ⟨#[]⟩, .slice none 0 0] 45)).cell? ⟨w.heap.size, i, none⟩ := fun i => hb1.cell (p := ⟨w.heap.size, i, none⟩) (by simp)
 have z0 := (hcell 0).trans (show _ = some (.int .i64 0) by simp)
 have z1 := (hcell 1).trans (show _ = some (.int .u64 0) by simp)
 have z2 := (hcell 2).trans (show _ = some (.slice none 0 0) by simp)
 have z3 := (hcell 3).trans (show _ = some (.string ⟨#[]⟩) by simp)
 have z4 := (hcell 4).trans (show _ = some (.slice none 0 0) by simp)
 have zf : ∀ i, w1.frozen? ⟨w.heap.size, i, none⟩ = false := fun i => (hb1.frozen (p := ⟨w.heap.size, i, none⟩) (by simp)).trans (by simp)
 have hsz1 : w.heap.size + 1 ≤ w1.heap.size := by
  have := hb1.size
  simpa using this
 have HB1 : Hid (Below w.heap.size w w1) := hB0.trans (hb1.mono (by simp))
 clear hb1 hcell
 cases hit : firstN bs with
 | error q =>
  rw [hit] at hm
  have hm : e = .returned (.tuple #[itemV 0 0 [], .int .i64 0, .int .i64 q]) := hm
  subst hm
  have hq := firstN_err hit
  have hq0 : ((q : Int) == 0) = false := by simp; omega
  have HD : Hid (decodeN bs = .error q) := by simp only [Hid, decodeN, hit]
  clear hit hm
  unfold itemV
  have y0 := (World.cell?_alloc_lt w1 (.cells #[.int .i64 0, .int .u64 0, .slice none 0 0, .string ⟨#[]⟩, .slice none 0 0] 45) (a := ⟨w.heap.size, 0, none⟩) hsz1).trans z0
  have y1 := (World.cell?_alloc_lt w1 (.cells #[.int .i64 0, .int .u64 0, .slice none 0 0, .string ⟨#[]⟩, .slice none 0 0] 45) (a := ⟨w.heap.size, 1, none⟩) hsz1).trans z1
  have y2 := (World.cell?_alloc_lt w1 (.cells #[.int .i64 0, .int .u64 0, .slice none 0 0, .string ⟨#[]⟩, .slice none 0 0] 45) (a := ⟨w.heap.size, 2, none⟩) hsz1).trans z2
  have y3 := (World.cell?_alloc_lt w1 (.cells #[.int .i64 0, .int .u64 0, .slice none 0 0, .string ⟨#[]⟩, .slice none 0 0] 45) (a := ⟨w.heap.size, 3, none⟩) hsz1).trans z3
  have y4 := (World.cell?_alloc_lt w1 (.cells #[.int .i64 0, .int .u64 0, .slice none 0 0, .string ⟨#[]⟩, .slice none 0 0] 45) (a := ⟨w.heap.size, 4, none⟩) hsz1).trans z4
  have yf : ∀ i, (w1.alloc (.cells #[.int .i64 0, .int .u64 0, .slice none 0 0, .string ⟨#[]⟩, .slice none 0 0] 45)).frozen? ⟨w.heap.size, i, none⟩ = false := fun i => (World.frozen?_alloc_past (.cells #[.int .i64 0, .int .u64 0, .slice none 0 0, .string ⟨#[]⟩, .slice none 0 0] 45) w.heap.size i hsz1).trans (zf i)
  have HB2 : Hid (Below w.heap.size w (w1.alloc (.cells #[.int .i64 0, .int .u64 0, .slice none 0 0, .string ⟨#[]⟩, .slice none 0 0] 45))) := below_al HB1.out _
  go_wp2_with fail
  change bodyPost _ _ _ _ _ (put5 (w1.alloc (.cells #[.int .i64 0, .int .u64 0, .slice none 0 0, .string ⟨#[]⟩, .slice none 0 0] 45)) w.heap.size (.int .i64 0) (.int .u64 0) (.slice none 0 0) (.string ⟨#[]⟩) (.slice none 0 0))
  obtain ⟨c0, c1, c2, c3, c4⟩ := put5_cells y0 y1 y2 y3 y4 (.int .i64 0) (.int .u64 0) (.slice none 0 0) (.string ⟨#[]⟩) (.slice none 0 0)
  have hbl := put5_below (w1.alloc (.cells #[.int .i64 0, .int .u64 0, .slice none 0 0, .string ⟨#[]⟩, .slice none 0 0] 45)) w.heap.size w.heap.size (Nat.le_refl _) (.int .i64 0) (.int .u64 0) (.slice none 0 0) (.string ⟨#[]⟩) (.slice none 0 0)
  have hbk := put5_block (w1.alloc (.cells #[.int .i64 0, .int .u64 0, .slice none 0 0, .string ⟨#[]⟩, .slice none 0 0] 45)) w.heap.size (.int .i64 0) (.int .u64 0) (.slice none 0 0) (.string ⟨#[]⟩) (.slice none 0 0)
  have hpz := put5_size (w1.alloc (.cells #[.int .i64 0, .int .u64 0, .slice none 0 0, .string ⟨#[]⟩, .slice none 0 0] 45)) w.heap.size (.int .i64 0) (.int .u64 0) (.slice none 0 0) (.string ⟨#[]⟩) (.slice none 0 0)
  generalize put5 (w1.alloc (.cells #[.int .i64 0, .int .u64 0, .slice none 0 0, .string ⟨#[]⟩, .slice none 0 0] 45)) w.heap.size (.int .i64 0) (.int .u64 0) (.slice none 0 0) (.string ⟨#[]⟩) (.slice none 0 0) = w9 at *
  refine bodyPost_ret (v := .tuple #[itemV 0 0 [], .int .i64 q]) (by simp [results, Tryz.results17, go_sem, itemV, c0, c1, c2, c3, c4]) rfl ⟨HB2.out.trans hbl, ?_⟩
  rw [HD.out]
 | ok p =>
  obtain ⟨x, m⟩ := p
  rw [hit] at hm
  obtain ⟨v, rfl, hx⟩ := hm
  obtain ⟨a', c', A', C', rfl⟩ := hx.form
  have hml := (firstN_len hit).2.1
  rw [← HN.out] at hml
  have HX := h_ hx
  by_cases hlt : m < n
  ·have HD : Hid (decodeN bs = .error 121) := by simp only [Hid, decodeN, hit, ← HN.out, hlt, if_true]
   clear hit hx
   have y0 := (World.cell?_alloc_lt w1 (.cells #[.int .i64 x.k, .int .u64 x.n, .slice a' x.b.length c', .string ⟨x.s.toArray⟩, .slice A' x.l.length C'] 45) (a := ⟨w.heap.size, 0, none⟩) hsz1).trans z0
   have y1 := (World.cell?_alloc_lt w1 (.cells #[.int .i64 x.k, .int .u64 x.n, .slice a' x.b.length c', .string ⟨x.s.toArray⟩, .slice A' x.l.length C'] 45) (a := ⟨w.heap.size, 1, none⟩) hsz1).trans z1
   have y2 := (World.cell?_alloc_lt w1 (.cells #[.int .i64 x.k, .int .u64 x.n, .slice a' x.b.length c', .string ⟨x.s.toArray⟩, .slice A' x.l.length C'] 45) (a := ⟨w.heap.size, 2, none⟩) hsz1).trans z2
   have y3 := (World.cell?_alloc_lt w1 (.cells #[.int .i64 x.k, .int .u64 x.n, .slice a' x.b.length c', .string ⟨x.s.toArray⟩, .slice A' x.l.length C'] 45) (a := ⟨w.heap.size, 3, none⟩) hsz1).trans z3
   have y4 := (World.cell?_alloc_lt w1 (.cells #[.int .i64 x.k, .int .u64 x.n, .slice a' x.b.length c', .string ⟨x.s.toArray⟩, .slice A' x.l.length C'] 45) (a := ⟨w.heap.size, 4, none⟩) hsz1).trans z4
   have yf : ∀ i, (w1.alloc (.cells #[.int .i64 x.k, .int .u64 x.n, .slice a' x.b.length c', .string ⟨x.s.toArray⟩, .slice A' x.l.length C'] 45)).frozen? ⟨w.heap.size, i, none⟩ = false := fun i => (World.frozen?_alloc_past (.cells #[.int .i64 x.k, .int .u64 x.n, .slice a' x.b.length c', .string ⟨x.s.toArray⟩, .slice A' x.l.length C'] 45) w.heap.size i hsz1).trans (zf i)
   have HB2 : Hid (Below w.heap.size w (w1.alloc (.cells #[.int .i64 x.k, .int .u64 x.n, .slice a' x.b.length c', .string ⟨x.s.toArray⟩, .slice A' x.l.length C'] 45))) := below_al HB1.out _
   go_wp2_with fail
   change bodyPost _ _ _ _ _ (put5 (w1.alloc (.cells #[.int .i64 x.k, .int .u64 x.n, .slice a' x.b.length c', .string ⟨x.s.toArray⟩, .slice A' x.l.length C'] 45)) w.heap.size (.int .i64 0) (.int .u64 0) (.slice none 0 0) (.string ⟨#[]⟩) (.slice none 0 0))
   obtain ⟨c0, c1, c2, c3, c4⟩ := put5_cells y0 y1 y2 y3 y4 (.int .i64 0) (.int .u64 0) (.slice none 0 0) (.string ⟨#[]⟩) (.slice none 0 0)
   have hbl := put5_below (w1.alloc (.cells #[.int .i64 x.k, .int .u64 x.n, .slice a' x.b.length c', .string ⟨x.s.toArray⟩, .slice A' x.l.length C'] 45)) w.heap.size w.heap.size (Nat.le_refl _) (.int .i64 0) (.int .u64 0) (.slice none 0 0) (.string ⟨#[]⟩) (.slice none 0 0)
   have hbk := put5_block (w1.alloc (.cells #[.int .i64 x.k, .int .u64 x.n, .slice a' x.b.length c', .string ⟨x.s.toArray⟩, .slice A' x.l.length C'] 45)) w.heap.size (.int .i64 0) (.int .u64 0) (.slice none 0 0) (.string ⟨#[]⟩) (.slice none 0 0)
   have hpz := put5_size (w1.alloc (.cells #[.int .i64 x.k, .int .u64 x.n, .slice a' x.b.length c', .string ⟨x.s.toArray⟩, .slice A' x.l.length C'] 45)) w.heap.size (.int .i64 0) (.int .u64 0) (.slice none 0 0) (.string ⟨#[]⟩) (.slice none 0 0)
   generalize put5 (w1.alloc (.cells #[.int .i64 x.k, .int .u64 x.n, .slice a' x.b.length c', .string ⟨x.s.toArray⟩, .slice A' x.l.length C'] 45)) w.heap.size (.int .i64 0) (.int .u64 0) (.slice none 0 0) (.string ⟨#[]⟩) (.slice none 0 0) = w9 at *
   refine bodyPost_ret (v := .tuple #[itemV 0 0 [], .int .i64 121]) (by simp [results, Tryz.results17, go_sem, itemV, c0, c1, c2, c3, c4]) rfl ⟨HB2.out.trans hbl, ?_⟩
   rw [HD.out]
   rfl
  ·have HD : Hid (decodeN bs = .ok x) := by simp only [Hid, decodeN, hit, ← HN.out, hlt, if_false]
   clear hit hx
   have y0 := (World.cell?_alloc_lt w1 (.cells #[.int .i64 x.k, .int .u64 x.n, .slice a' x.b.length c', .string ⟨x.s.toArray⟩, .slice A' x.l.length C'] 45) (a := ⟨w.heap.size, 0, none⟩) hsz1).trans z0
   have y1 := (World.cell?_alloc_lt w1 (.cells #[.int .i64 x.k, .int .u64 x.n, .slice a' x.b.length c', .string ⟨x.s.toArray⟩, .slice A' x.l.length C'] 45) (a := ⟨w.heap.size, 1, none⟩) hsz1).trans z1
   have y2 := (World.cell?_alloc_lt w1 (.cells #[.int .i64 x.k, .int .u64 x.n, .slice a' x.b.length c', .string ⟨x.s.toArray⟩, .slice A' x.l.length C'] 45) (a := ⟨w.heap.size, 2, none⟩) hsz1).trans z2
   have y3 := (World.cell?_alloc_lt w1 (.cells #[.int .i64 x.k, .int .u64 x.n, .slice a' x.b.length c', .string ⟨x.s.toArray⟩, .slice A' x.l.length C'] 45) (a := ⟨w.heap.size, 3, none⟩) hsz1).trans z3
   have y4 := (World.cell?_alloc_lt w1 (.cells #[.int .i64 x.k, .int .u64 x.n, .slice a' x.b.length c', .string ⟨x.s.toArray⟩, .slice A' x.l.length C'] 45) (a := ⟨w.heap.size, 4, none⟩) hsz1).trans z4
   have yf : ∀ i, (w1.alloc (.cells #[.int .i64 x.k, .int .u64 x.n, .slice a' x.b.length c', .string ⟨x.s.toArray⟩, .slice A' x.l.length C'] 45)).frozen? ⟨w.heap.size, i, none⟩ = false := fun i => (World.frozen?_alloc_past (.cells #[.int .i64 x.k, .int .u64 x.n, .slice a' x.b.length c', .string ⟨x.s.toArray⟩, .slice A' x.l.length C'] 45) w.heap.size i hsz1).trans (zf i)
   have HB2 : Hid (Below w.heap.size w (w1.alloc (.cells #[.int .i64 x.k, .int .u64 x.n, .slice a' x.b.length c', .string ⟨x.s.toArray⟩, .slice A' x.l.length C'] 45))) := below_al HB1.out _
   go_wp2_with fail
   change bodyPost _ _ _ _ _ (put5 (w1.alloc (.cells #[.int .i64 x.k, .int .u64 x.n, .slice a' x.b.length c', .string ⟨x.s.toArray⟩, .slice A' x.l.length C'] 45)) w.heap.size (.int .i64 x.k) (.int .u64 x.n) (.slice a' x.b.length c') (.string ⟨x.s.toArray⟩) (.slice A' x.l.length C'))
   obtain ⟨c0, c1, c2, c3, c4⟩ := put5_cells y0 y1 y2 y3 y4 (.int .i64 x.k) (.int .u64 x.n) (.slice a' x.b.length c') (.string ⟨x.s.toArray⟩) (.slice A' x.l.length C')
   have hbl := put5_below (w1.alloc (.cells #[.int .i64 x.k, .int .u64 x.n, .slice a' x.b.length c', .string ⟨x.s.toArray⟩, .slice A' x.l.length C'] 45)) w.heap.size w.heap.size (Nat.le_refl _) (.int .i64 x.k) (.int .u64 x.n) (.slice a' x.b.length c') (.string ⟨x.s.toArray⟩) (.slice A' x.l.length C')
   have hbk := put5_block (w1.alloc (.cells #[.int .i64 x.k, .int .u64 x.n, .slice a' x.b.length c', .string ⟨x.s.toArray⟩, .slice A' x.l.length C'] 45)) w.heap.size (.int .i64 x.k) (.int .u64 x.n) (.slice a' x.b.length c') (.string ⟨x.s.toArray⟩) (.slice A' x.l.length C')
   have hpz := put5_size (w1.alloc (.cells #[.int .i64 x.k, .int .u64 x.n, .slice a' x.b.length c', .string ⟨x.s.toArray⟩, .slice A' x.l.length C'] 45)) w.heap.size (.int .i64 x.k) (.int .u64 x.n) (.slice a' x.b.length c') (.string ⟨x.s.toArray⟩) (.slice A' x.l.length C')
   generalize put5 (w1.alloc (.cells #[.int .i64 x.k, .int .u64 x.n, .slice a' x.b.length c', .string ⟨x.s.toArray⟩, .slice A' x.l.length C'] 45)) w.heap.size (.int .i64 x.k) (.int .u64 x.n) (.slice a' x.b.length c') (.string ⟨x.s.toArray⟩) (.slice A' x.l.length C') = w9 at *
   refine bodyPost_ret (v := .tuple #[.agg #[.int .i64 x.k, .int .u64 x.n, .slice a' x.b.length c', .string ⟨x.s.toArray⟩, .slice A' x.l.length C'], .int .i64 0]) (by simp [results, Tryz.results17, go_sem, itemV, c0, c1, c2, c3, c4]) rfl ⟨HB2.out.trans hbl, ?_⟩
   rw [HD.out]
   refine ⟨_, rfl, (ItS.keep (w' := w9) (fun b hb => ?_) x HX.out).more fun b hb => ⟨?_, ?_⟩⟩
   ·have h1 := hb.1
    have h2 := hb.2
    rw [World.size_alloc] at h1
    exact (hbk b (by omega)).trans (Below.heap_alloc w1 _ b h2)
   ·have h1 := hb.1
    rw [World.size_alloc] at h1
    omega
   ·have h2 := hb.2
    rw [hpz, World.size_alloc]
    omega

end Go.Proofs.YteldifnkeekafaaGreatDoor
