/- Package cbor's First and Decode. -/
import Derived.Test.YtncemmhbbkpieaaDoorCbO
import Derived.Recover
namespace Go.Proofs.YtncemmhbbkpieaaDoor
open Go.RowKit Go.Shelf

theorem assert_errno (v : Value) (w : World) : (Instr.typeAssert (.iface 29 v) 20 29 false).run Tryd.prog w = .ok v w := by
  simp [Instr.typeAssert, run_underlying Tryd.underlying29]

set_option linter.unusedSimpArgs false
set_option maxRecDepth 100000 in
set_option maxHeartbeats 1000000 in
theorem catch_gives (p : Addr) (x c : Int) (w : World) (hc : w.cell? p = some (.int .i64 x)) (hz : w.frozen? p = false) :
    CallsD Tryd.prog 23 #[.pointer (some p)] (.panicking [{ v := .iface 29 (.int .i64 c), recovered := false }]) w fun e u' w' =>
      e = .returned (.tuple #[]) ∧ u' = .panicking [{ v := .iface 29 (.int .i64 c), recovered := true }] ∧ w' = w.setCell p (.int .i64 c) := by
  refine callsD_of_wpS Tryd.func23 rfl fun c₀ cs hu => ?_
  apply wpS_seq
  apply wpS_region
  simp [wpOpsS, go_sem, recoverD, hu, Tryd.ntmps23, Exit.thenS]
  refine wpS_of_wp ?_
  change Code.wp _ _ _ { tmps := #[.pointer (some p), .iface 29 (.int .i64 c), .iface 29 (.int .i64 c), undef, undef, undef, undef], defers := [] } _
  have has := assert_errno (.int .i64 c)
  go_wp2_with fail
  cases c₀
  simp_all [bodyPostS, results, Tryd.results23]

theorem catch_idle (p : Addr) (w : World) :
    CallsD Tryd.prog 23 #[.pointer (some p)] .returning w fun e u' w' => e = .returned (.tuple #[]) ∧ u' = .returning ∧ w' = w := by
  refine callsD_of_wpS Tryd.func23 rfl fun c₀ cs hu => ?_
  apply wpS_seq
  apply wpS_region
  simp [wpOpsS, go_sem, recoverD, hu, Tryd.ntmps23, Exit.thenS]
  refine wpS_of_wp ?_
  change Code.wp _ _ _ { tmps := #[.pointer (some p), .nilIface, .nilIface, undef, undef, undef, undef], defers := [] } _
  go_wp2_with fail
  cases c₀
  simp_all [bodyPostS, results, Tryd.results23]

/-- The item of the first bytes; how many; or why there is none. -/
def firstN (bs : List UInt8) : Except Nat (It × Nat) :=
  if 65536 < bs.length then .error 3 else match itemN 8 bs with
    | .error c => .error c
    | .ok (x, r) => .ok (x, bs.length - r.length)

/-- What First answers. -/
def FirstP (w : World) (bs : List UInt8) (e : Ending) (w' : World) : Prop :=
  Below w.heap.size w w' ∧ match firstN bs with
    | .error c => e = .returned (.tuple #[itemV 0 0 [], .int .i64 0, .int .i64 c])
    | .ok (x, n) => ∃ v, e = .returned (.tuple #[v, .int .i64 n, .int .i64 0]) ∧ ItS w' (newB w w') v x

set_option maxRecDepth 100000 in
set_option maxHeartbeats 4000000 in
theorem first_long (a : Option Addr) (n c : Nat) (bs : List UInt8) (hn : n = bs.length) (w : World) (hlo : 65536 < bs.length) (hbs : bs.length ≤ 140737488355328) :
    Calls Tryd.prog 7 #[.slice a n c] w (FirstP w bs) := by
  have hF : Hid (firstN bs = .error 3) := if_pos hlo
  rw [← hn] at hlo hbs
  clear hn
  have hB0 := below_al (below_al (Below.refl w.heap.size w) (.cells #[.int .i64 0, .int .u64 0, .slice none 0 0, .string ⟨#[]⟩, .slice none 0 0] 28)) (.cells #[.int .i64 0] 29)
  go_enter_defers Tryd.func7, Tryd.ntmps7
  go_wp2_with fail
  have hP : FirstP w bs (.returned (.tuple #[itemV 0 0 [], .int .i64 0, .int .i64 3])) ((w.alloc (.cells #[.int .i64 0, .int .u64 0, .slice none 0 0, .string ⟨#[]⟩, .slice none 0 0] 28)).alloc (.cells #[.int .i64 3] 29)) := by
    refine ⟨below_al (below_al (Below.refl w.heap.size w) _) _, ?_⟩
    rw [hF.out]
    rfl
  simp [bodyPostD, Leaves, settle, results, Tryd.results7, go_sem]
  exact hP

theorem rs_new (a : Option Addr) (c : Nat) (bs : List UInt8) (w W : World) (t : TypeId) (hr : RdB w w.heap.size a bs) (hc : bs.length ≤ c) (hc47 : bs.length ≤ 140737488355328) (hb : Below w.heap.size w W) : RS (W.alloc (.cells #[.slice a bs.length c] t)) W.heap.size w.heap.size bs := by
  refine ⟨a, c, by simp, hc, hc47, ?_, by simp, by simp, hb.size⟩
  exact hr.below (below_al hb _)

set_option maxRecDepth 100000 in
set_option maxHeartbeats 4000000 in
theorem cfirst_any (a : Option Addr) (n c : Nat) (bs : List UInt8) (hn : n = bs.length) (w : World) (hr : RdB w w.heap.size a bs) (hc : n ≤ c) (hc47 : bs.length ≤ 140737488355328) (ht : TabW w) (hlo : bs.length ≤ 65536) :
    Calls Tryd.prog 7 #[.slice a n c] w (FirstP w bs) := by
  have hmf : ∀ (fn : Fn) (first cap : Array Value) (w : World), (Instr.makeFunc fn first cap).run Tryd.prog w = .ok (.func fn first cap) w := fun _ _ _ _ => rfl
  have HN := Lib.hid hn
  have HR := Lib.hid hr
  have HT := Lib.hid ht
  have hlo' : n ≤ 65536 := by omega
  have h2 := ht.1.1
  have hB0 := below_al (below_al (below_al (Below.refl w.heap.size w) (.cells #[.int .i64 0, .int .u64 0, .slice none 0 0, .string ⟨#[]⟩, .slice none 0 0] 28)) (.cells #[.int .i64 0] 29)) (.cells #[.slice a n c] 57)
  clear hn hr ht
  go_enter_defers Tryd.func7, Tryd.ntmps7
  go_wp2_with fail
  have hrs : RS (((w.alloc (.cells #[.int .i64 0, .int .u64 0, .slice none 0 0, .string ⟨#[]⟩, .slice none 0 0] 28)).alloc (.cells #[.int .i64 0] 29)).alloc (.cells #[.slice a n c] 57)) (w.heap.size + 1 + 1) w.heap.size bs := by
    have h := rs_new a c bs w ((w.alloc (.cells #[.int .i64 0, .int .u64 0, .slice none 0 0, .string ⟨#[]⟩, .slice none 0 0] 28)).alloc (.cells #[.int .i64 0] 29)) 57 HR.out (by rw [← HN.out]; exact hc) hc47 (below_al (below_al (Below.refl w.heap.size w) _) _)
    rw [← HN.out] at h
    simpa only [World.size_alloc] using h
  refine ((item_any (w.heap.size + 1 + 1) w.heap.size h2 8 (by omega)) bs _ hrs (HT.out.on hB0) (by omega)).mono ?_
  rintro e w1 ⟨hb1, hm⟩
  have hsz1 : w.heap.size + 1 + 1 + 1 ≤ w1.heap.size := by
    have := hb1.size
    simpa using this
  have hcell : ∀ i, w1.cell? ⟨w.heap.size, i, none⟩ = (w.alloc (.cells #[.int .i64 0, .int .u64 0, .slice none 0 0, .string ⟨#[]⟩, .slice none 0 0] 28)).cell? ⟨w.heap.size, i, none⟩ := fun i => by
    rw [hb1.cell (b := w.heap.size) (o := i) (by simp <;> omega) (by omega), World.cell?_alloc_lt _ _ _ (by simp <;> omega), World.cell?_alloc_lt _ _ _ (by simp)]
  have z0 := (hcell 0).trans (show _ = some (.int .i64 0) by simp)
  have z1 := (hcell 1).trans (show _ = some (.int .u64 0) by simp)
  have z2 := (hcell 2).trans (show _ = some (.slice none 0 0) by simp)
  have z3 := (hcell 3).trans (show _ = some (.string ⟨#[]⟩) by simp)
  have z4 := (hcell 4).trans (show _ = some (.slice none 0 0) by simp)
  have ec : w1.cell? ⟨w.heap.size + 1, 0, none⟩ = some (.int .i64 0) := by
    rw [hb1.cell (b := w.heap.size + 1) (o := 0) (by simp) (by omega), World.cell?_alloc_lt _ _ _ (by simp), ← World.size_alloc w (.cells #[.int .i64 0, .int .u64 0, .slice none 0 0, .string ⟨#[]⟩, .slice none 0 0] 28), World.cell?_alloc_mark]
    rfl
  have zf : ∀ i, w1.frozen? ⟨w.heap.size, i, none⟩ = false := fun i => by
    rw [hb1.frozen (b := w.heap.size) (o := i) (by simp <;> omega) (by omega), World.frozen?_alloc_old _ _ _ (by simp <;> omega), World.frozen?_alloc_old _ _ _ (by simp)]
    simp
  have ef : w1.frozen? ⟨w.heap.size + 1, 0, none⟩ = false := by
    rw [hb1.frozen (b := w.heap.size + 1) (o := 0) (by simp) (by omega), World.frozen?_alloc_old _ _ _ (by simp)]
    simp
  have HB1 := Lib.hid hb1
  have HBw : Hid (Below w.heap.size w w1) := hB0.trans (hb1.below (by omega) (by simp; omega))
  clear hb1 hcell hrs
  cases hit : itemN 8 bs with
  | error q =>
    rw [hit] at hm
    have hm : e = gives q := hm
    subst hm
    have HF : Hid (firstN bs = .error q) := by
      rw [Hid, firstN, if_neg (by omega), hit]
    rw [gives_def]
    clear hit
    go_wp2_with fail
    refine leaves_cons (f := 23) (args := #[.pointer (some ⟨w.heap.size + 1, 0, none⟩)]) (by simp) (by simp [go_sem]) ?_
    refine (catch_gives ⟨w.heap.size + 1, 0, none⟩ 0 q w1 ec ef).mono ?_
    rintro e u' w'' ⟨rfl, rfl, rfl⟩
    have c0 : (w1.setCell ⟨w.heap.size + 1, 0, none⟩ (.int .i64 q)).cell? ⟨w.heap.size, 0, none⟩ = some (.int .i64 0) := (World.cell?_setCell_other _ _ _ _ (by simp)).trans z0
    have c1 : (w1.setCell ⟨w.heap.size + 1, 0, none⟩ (.int .i64 q)).cell? ⟨w.heap.size, 1, none⟩ = some (.int .u64 0) := (World.cell?_setCell_other _ _ _ _ (by simp)).trans z1
    have c2 : (w1.setCell ⟨w.heap.size + 1, 0, none⟩ (.int .i64 q)).cell? ⟨w.heap.size, 2, none⟩ = some (.slice none 0 0) := (World.cell?_setCell_other _ _ _ _ (by simp)).trans z2
    have c3 : (w1.setCell ⟨w.heap.size + 1, 0, none⟩ (.int .i64 q)).cell? ⟨w.heap.size, 3, none⟩ = some (.string ⟨#[]⟩) := (World.cell?_setCell_other _ _ _ _ (by simp)).trans z3
    have c4 : (w1.setCell ⟨w.heap.size + 1, 0, none⟩ (.int .i64 q)).cell? ⟨w.heap.size, 4, none⟩ = some (.slice none 0 0) := (World.cell?_setCell_other _ _ _ _ (by simp)).trans z4
    have c5 : (w1.setCell ⟨w.heap.size + 1, 0, none⟩ (.int .i64 q)).cell? ⟨w.heap.size + 1, 0, none⟩ = some (.int .i64 q) := World.cell?_setCell_same _ _ _ ec
    have hP : FirstP w bs (.returned (.tuple #[itemV 0 0 [], .int .i64 0, .int .i64 q])) (w1.setCell ⟨w.heap.size + 1, 0, none⟩ (.int .i64 q)) := by
      refine ⟨HBw.out.setCell (Nat.le_succ _) _, ?_⟩
      rw [HF.out]
    generalize w1.setCell ⟨w.heap.size + 1, 0, none⟩ (.int .i64 q) = w9 at *
    simp [Leaves, settle, results, Tryd.results7, go_sem, c0, c1, c2, c3, c4, c5]
    exact hP
  | ok p =>
    obtain ⟨x, r⟩ := p
    rw [hit] at hm
    obtain ⟨v, rfl, hx, hs1⟩ := hm
    obtain ⟨a', c', A', C', rfl⟩ := hx.form
    have HF : Hid (firstN bs = .ok (x, bs.length - r.length)) := by
      rw [Hid, firstN, if_neg (by omega), hit]
    have hrl := itemN_less 8 bs x r hit
    have HX := Lib.hid hx
    have HS1 := Lib.hid hs1
    clear hit hx hs1
    go_wp2_with fail
    change Code.wp _ _ _ _ (put5 w1 w.heap.size (.int .i64 x.k) (.int .u64 x.n) (.slice a' x.b.length c') (.string ⟨x.s.toArray⟩) (.slice A' x.l.length C'))
    obtain ⟨c0, c1, c2, c3, c4⟩ := put5_cells z0 z1 z2 z3 z4 (.int .i64 x.k) (.int .u64 x.n) (.slice a' x.b.length c') (.string ⟨x.s.toArray⟩) (.slice A' x.l.length C')
    have hbk := put5_block w1 w.heap.size (.int .i64 x.k) (.int .u64 x.n) (.slice a' x.b.length c') (.string ⟨x.s.toArray⟩) (.slice A' x.l.length C')
    have hbl := put5_below w1 w.heap.size w.heap.size (Nat.le_refl _) (.int .i64 x.k) (.int .u64 x.n) (.slice a' x.b.length c') (.string ⟨x.s.toArray⟩) (.slice A' x.l.length C')
    have zf3 : ∀ i, (put5 w1 w.heap.size (.int .i64 x.k) (.int .u64 x.n) (.slice a' x.b.length c') (.string ⟨x.s.toArray⟩) (.slice A' x.l.length C')).frozen? ⟨w.heap.size, i, none⟩ = false := fun i => by
      unfold put5
      rw [World.frozen?_setCell, World.frozen?_setCell, World.frozen?_setCell, World.frozen?_setCell, World.frozen?_setCell]
      exact zf i
    generalize put5 w1 w.heap.size (.int .i64 x.k) (.int .u64 x.n) (.slice a' x.b.length c') (.string ⟨x.s.toArray⟩) (.slice A' x.l.length C') = w3 at *
    have e3 : w3.cell? ⟨w.heap.size + 1, 0, none⟩ = some (.int .i64 0) := (World.cell?_of_block (w := w1) (hbk (w.heap.size + 1) (by omega))).trans ec
    have ef3 : w3.frozen? ⟨w.heap.size + 1, 0, none⟩ = false := (World.frozen?_of_block (w := w1) (hbk (w.heap.size + 1) (by omega))).trans ef
    obtain ⟨ra, rc, hrc, _, _, _, _, _, _⟩ := HS1.out
    have r3 : w3.cell? ⟨w.heap.size + 1 + 1, 0, none⟩ = some (.slice ra r.length rc) := (World.cell?_of_block (w := w1) (hbk (w.heap.size + 1 + 1) (by omega))).trans hrc
    have HBK := Lib.hid hbk
    have HBL := Lib.hid hbl
    have hrn : r.length ≤ n := by rw [HN.out]; omega
    clear hbk hbl hrc z0 z1 z2 z3 z4 zf ec ef
    go_region
    go_wp2_with fail
    change bodyPostD _ _ _ _ _ ((put5 w3 w.heap.size (.int .i64 x.k) (.int .u64 x.n) (.slice a' x.b.length c') (.string ⟨x.s.toArray⟩) (.slice A' x.l.length C')).setCell ⟨w.heap.size + 1, 0, none⟩ (.int .i64 0)).drew
    obtain ⟨d0, d1, d2, d3, d4⟩ := put5_cells c0 c1 c2 c3 c4 (.int .i64 x.k) (.int .u64 x.n) (.slice a' x.b.length c') (.string ⟨x.s.toArray⟩) (.slice A' x.l.length C')
    have hbk4 := put5_block w3 w.heap.size (.int .i64 x.k) (.int .u64 x.n) (.slice a' x.b.length c') (.string ⟨x.s.toArray⟩) (.slice A' x.l.length C')
    have hbl4 := put5_below w3 w.heap.size w.heap.size (Nat.le_refl _) (.int .i64 x.k) (.int .u64 x.n) (.slice a' x.b.length c') (.string ⟨x.s.toArray⟩) (.slice A' x.l.length C')
    generalize put5 w3 w.heap.size (.int .i64 x.k) (.int .u64 x.n) (.slice a' x.b.length c') (.string ⟨x.s.toArray⟩) (.slice A' x.l.length C') = w4 at *
    have e4 : w4.cell? ⟨w.heap.size + 1, 0, none⟩ = some (.int .i64 0) := (World.cell?_of_block (w := w3) (hbk4 (w.heap.size + 1) (by omega))).trans e3
    have k0 : (w4.setCell ⟨w.heap.size + 1, 0, none⟩ (.int .i64 0)).drew.cell? ⟨w.heap.size, 0, none⟩ = some (.int .i64 x.k) := (World.cell?_setCell_other _ _ _ _ (by simp)).trans d0
    have k1 : (w4.setCell ⟨w.heap.size + 1, 0, none⟩ (.int .i64 0)).drew.cell? ⟨w.heap.size, 1, none⟩ = some (.int .u64 x.n) := (World.cell?_setCell_other _ _ _ _ (by simp)).trans d1
    have k2 : (w4.setCell ⟨w.heap.size + 1, 0, none⟩ (.int .i64 0)).drew.cell? ⟨w.heap.size, 2, none⟩ = some (.slice a' x.b.length c') := (World.cell?_setCell_other _ _ _ _ (by simp)).trans d2
    have k3 : (w4.setCell ⟨w.heap.size + 1, 0, none⟩ (.int .i64 0)).drew.cell? ⟨w.heap.size, 3, none⟩ = some (.string ⟨x.s.toArray⟩) := (World.cell?_setCell_other _ _ _ _ (by simp)).trans d3
    have k4 : (w4.setCell ⟨w.heap.size + 1, 0, none⟩ (.int .i64 0)).drew.cell? ⟨w.heap.size, 4, none⟩ = some (.slice A' x.l.length C') := (World.cell?_setCell_other _ _ _ _ (by simp)).trans d4
    have k5 : (w4.setCell ⟨w.heap.size + 1, 0, none⟩ (.int .i64 0)).drew.cell? ⟨w.heap.size + 1, 0, none⟩ = some (.int .i64 0) := World.cell?_setCell_same _ _ _ e4
    have hP : FirstP w bs (.returned (.tuple #[.agg #[.int .i64 x.k, .int .u64 x.n, .slice a' x.b.length c', .string ⟨x.s.toArray⟩, .slice A' x.l.length C'], .int .i64 ((n : Int) - (r.length : Int)), .int .i64 0])) (w4.setCell ⟨w.heap.size + 1, 0, none⟩ (.int .i64 0)).drew := by
      refine ⟨(((HBw.out.trans HBL.out).trans hbl4).setCell (Nat.le_succ _) _).drew, ?_⟩
      rw [HF.out]
      refine ⟨_, ?_, (ItS.keep (w' := (w4.setCell ⟨w.heap.size + 1, 0, none⟩ (.int .i64 0)).drew) (fun b hb => ?_) x HX.out).more fun b hb => ⟨?_, ?_⟩⟩
      · have e : (n : Int) - (r.length : Int) = ((bs.length - r.length : Nat) : Int) := by rw [HN.out]; omega
        rw [e]
      · have h1 := hb.1
        simp at h1
        exact (Below.heap_setCell w4 _ _ b (by simp; omega)).trans ((hbk4 b (by omega)).trans (HBK.out b (by omega)))
      · have h1 := hb.1
        simp at h1
        omega
      · have h1 := hb.2
        have h2 := HBL.out.size
        have h3 := hbl4.size
        show b < (w4.setCell _ _).heap.size
        rw [World.size_setCell]
        omega
    refine leaves_cons (f := 23) (args := #[.pointer (some ⟨w.heap.size + 1, 0, none⟩)]) (by simp) (by simp [go_sem]) ?_
    refine (catch_idle ⟨w.heap.size + 1, 0, none⟩ _).mono ?_
    rintro e u' w'' ⟨rfl, rfl, rfl⟩
    generalize (w4.setCell ⟨w.heap.size + 1, 0, none⟩ (.int .i64 0)).drew = w9 at *
    simp [Leaves, settle, results, Tryd.results7, go_sem, k0, k1, k2, k3, k4, k5]
    exact hP

end Go.Proofs.YtncemmhbbkpieaaDoor
