/- Package name's Of. -/
import Derived.Test.YtjbdpkjkeelgfaaDoorNmK2
namespace Go.Proofs.YtjbdpkjkeelgfaaDoor
open Go Go.RowKit Go.Shelf
set_option linter.unusedSimpArgs false
set_option linter.unusedVariables false
set_option maxRecDepth 100000

/-- What is read of an item, or why not. -/
def rdI (x : It) : Except Int (Nat × Nat) := match epI x with
  | some p => .ok p
  | none => .error 130

/-- An item in a box. -/
def BoxI (w : World) (B P : Nat) (x : It) : Prop := ∃ a c A C, ItV w B (.agg #[.int .i64 x.k, .int .u64 x.n, .slice a x.b.length c, .string ⟨x.s.toArray⟩, .slice A x.l.length C]) x ∧ P < w.heap.size ∧
  w.cell? ⟨P, 0, none⟩ = some (.int .i64 x.k) ∧ w.cell? ⟨P, 1, none⟩ = some (.int .u64 x.n) ∧ w.cell? ⟨P, 2, none⟩ = some (.slice a x.b.length c) ∧ w.cell? ⟨P, 3, none⟩ = some (.string ⟨x.s.toArray⟩) ∧ w.cell? ⟨P, 4, none⟩ = some (.slice A x.l.length C)

theorem BoxI.on {w w' : World} {P : Nat} {x : It} (h : BoxI w w.heap.size P x) (hb : Below w.heap.size w w') : BoxI w' w'.heap.size P x := by
  obtain ⟨a, c, A, C, hv, hP, h0, h1, h2, h3, h4⟩ := h
  have hh : ∀ i, w'.cell? ⟨P, i, none⟩ = w.cell? ⟨P, i, none⟩ := fun i => hb.cell (p := ⟨P, i, none⟩) hP
  exact ⟨a, c, A, C, hv.on hb, Nat.lt_of_lt_of_le hP hb.size, (hh 0).trans h0, (hh 1).trans h1, (hh 2).trans h2, (hh 3).trans h3, (hh 4).trans h4⟩

theorem boxI_new {w : World} {x : It} {a A : Option Addr} {c C : Nat} (t : TypeId) (hv : ItV w w.heap.size (.agg #[.int .i64 x.k, .int .u64 x.n, .slice a x.b.length c, .string ⟨x.s.toArray⟩, .slice A x.l.length C]) x) :
    BoxI (w.alloc (.cells #[.int .i64 x.k, .int .u64 x.n, .slice a x.b.length c, .string ⟨x.s.toArray⟩, .slice A x.l.length C] t)) (w.alloc (.cells #[.int .i64 x.k, .int .u64 x.n, .slice a x.b.length c, .string ⟨x.s.toArray⟩, .slice A x.l.length C] t)).heap.size w.heap.size x :=
  ⟨a, c, A, C, hv.on (below_al (Below.refl _ _) _), by simp, by simp, by simp, by simp, by simp, by simp⟩

set_option maxHeartbeats 4000000 in
theorem of1_any (x : It) (P : Nat) (w : World) (hd : x.depth ≤ 60000) (h : BoxI w w.heap.size P x) :
    Calls Tryd.prog 43 #[.pointer (some ⟨P, 0, none⟩)] w (RdE w (rdI x)) := by
  obtain ⟨a, c, A, C, hv, hP, x0, x1, x2, x3, x4⟩ := h
  obtain ⟨W, hW⟩ : ∃ W, W = w.alloc (.cells #[.int .u32 0, .int .u32 0] 24) := ⟨_, rfl⟩
  have HB : Hid (Below w.heap.size w W) := by rw [hW]; exact below_al (Below.refl _ _) _
  have HR : Hid (∀ w', Below W.heap.size W w' → (w'.cell? ⟨w.heap.size, 0, none⟩ = some (.int .u32 0) ∧ w'.cell? ⟨w.heap.size, 1, none⟩ = some (.int .u32 0)) ∧ ∀ i, w'.frozen? ⟨w.heap.size, i, none⟩ = false) := fun w' h => by
    have hs : w.heap.size < W.heap.size := by rw [hW]; simp
    have hh := fun i => (h.cell (p := ⟨w.heap.size, i, none⟩) hs).trans (by rw [hW, World.cell?_alloc_mark] : W.cell? ⟨w.heap.size, i, none⟩ = (#[Value.int .u32 0, .int .u32 0])[i]?)
    refine ⟨⟨hh 0, hh 1⟩, fun i => (h.frozen (p := ⟨w.heap.size, i, none⟩) hs).trans ?_⟩
    rw [hW]
    exact World.frozen?_alloc_new _ _ _ _
  have HV := Lib.hid (hv.on HB.out)
  have HW := Lib.hid hW
  clear hv hW
  go_enter Tryd.func43, Tryd.ntmps43
  go_wp2_with fail
  rw [← HW.out]
  refine (endpointOf_any x _ W hd HV.out).mono ?_
  rintro e w2 ⟨hb2, ⟨n, m, rfl, hm⟩ | ⟨rfl, hm⟩⟩
  · have HB2 := Lib.hid (below_on HB.out hb2)
    obtain ⟨⟨r0, r1⟩, rf⟩ := HR.out w2 hb2
    have f0 := rf 0
    have f1 := rf 1
    have HM : Hid (rdI x = .ok (n, m)) := by rw [Hid, rdI, hm]
    clear hb2 hm x0 x1 x2 x3 x4
    go_wp2_with fail
    obtain ⟨s0, s1⟩ := put2 (.int .u32 (n : Int)) (.int .u32 (m : Int)) r0 r1
    refine bodyPost_ret (v := .agg #[.int .u32 n, .int .u32 m]) (by simp [results, Tryd.results43, go_sem, s0, s1]) rfl ⟨?_, by rw [HM.out]⟩
    exact ((HB2.out.setCell (p := ⟨w.heap.size, 0, none⟩) (Nat.le_refl _) _).setCell (p := ⟨w.heap.size, 1, none⟩) (Nat.le_refl _) _)
  · have HB2 := Lib.hid (below_on HB.out hb2)
    have HM : Hid (rdI x = .error 130) := by rw [Hid, rdI, hm]
    clear hb2 hm x0 x1 x2 x3 x4
    go_wp2_with fail
    exact ⟨rfl, HB2.out, by rw [HM.out]; rfl⟩

set_option maxHeartbeats 4000000 in
theorem of_any (x : It) (v : Value) (w : World) (hd : x.depth ≤ 60000) (hv : ItV w w.heap.size v x) :
    Calls Tryd.prog 17 #[v] w (TrE w (rdI x)) := by
  have hmf : ∀ (fn : Fn) (first cap : Array Value) (w : World), (Instr.makeFunc fn first cap).run Tryd.prog w = .ok (.func fn first cap) w := fun _ _ _ _ => rfl
  obtain ⟨a, c, A, C, rfl⟩ := hv.form
  obtain ⟨W1, hW1⟩ : ∃ W, W = w.alloc (.cells #[.int .i64 x.k, .int .u64 x.n, .slice a x.b.length c, .string ⟨x.s.toArray⟩, .slice A x.l.length C] 33) := ⟨_, rfl⟩
  have s1 : W1.heap.size = w.heap.size + 1 := by rw [hW1]; simp
  have hbx : BoxI W1 W1.heap.size w.heap.size x := by rw [hW1]; exact boxI_new _ hv
  obtain ⟨W, hW⟩ : ∃ W, W = W1.alloc (.cells #[.int .u32 0, .int .u32 0] 24) := ⟨_, rfl⟩
  have hb1 : Below w.heap.size w W1 := by rw [hW1]; exact below_al (Below.refl _ _) _
  have hb2 : Below W1.heap.size W1 W := by rw [hW]; exact below_al (Below.refl _ _) _
  have hbW : Below w.heap.size w W := below_on hb1 hb2
  have hsW : W.heap.size = w.heap.size + 2 := by rw [hW]; simp [s1]
  have HB := Lib.hid hbW
  have HT := Lib.hid (triedE_any 43 #[.pointer (some ⟨w.heap.size, 0, none⟩)] (rdI x) W (enters_of Tryd.func43 (by kernel_rfl) rfl) (fun w' hb => of1_any x _ w' hd (hbx.on (below_on hb2 hb))))
  have HC : Hid (∀ w', Below W.heap.size W w' → (w'.cell? ⟨w.heap.size + 1, 0, none⟩ = some (.int .u32 0) ∧ w'.cell? ⟨w.heap.size + 1, 1, none⟩ = some (.int .u32 0)) ∧ ∀ i, w'.frozen? ⟨w.heap.size + 1, i, none⟩ = false) := fun w' hb => by
    have hh : ∀ i, w'.cell? ⟨w.heap.size + 1, i, none⟩ = W.cell? ⟨w.heap.size + 1, i, none⟩ := fun i => hb.cell (p := ⟨w.heap.size + 1, i, none⟩) (show w.heap.size + 1 < _ by omega)
    have hf : ∀ i, w'.frozen? ⟨w.heap.size + 1, i, none⟩ = W.frozen? ⟨w.heap.size + 1, i, none⟩ := fun i => hb.frozen (p := ⟨w.heap.size + 1, i, none⟩) (show w.heap.size + 1 < _ by omega)
    exact ⟨⟨(hh 0).trans (by rw [hW, ← s1, World.cell?_alloc_mark]; rfl), (hh 1).trans (by rw [hW, ← s1, World.cell?_alloc_mark]; rfl)⟩, fun i => (hf i).trans (by rw [hW, ← s1]; exact World.frozen?_alloc_new _ _ _ _)⟩
  have HW : Hid (W = (w.alloc (.cells #[.int .i64 x.k, .int .u64 x.n, .slice a x.b.length c, .string ⟨x.s.toArray⟩, .slice A x.l.length C] 33)).alloc (.cells #[.int .u32 0, .int .u32 0] 24)) := by rw [← hW1]; exact hW
  clear hW1 hW hb1 hb2 hbW s1 hv hbx hd
  go_enter Tryd.func17, Tryd.ntmps17
  go_wp2_with fail
  rw [← HW.out]
  refine HT.out.mono ?_
  intro e w1 htr
  have HBB := Lib.hid (below_on HB.out htr.1)
  obtain ⟨⟨d0, d1⟩, df⟩ := HC.out w1 htr.1
  have f0 := df 0
  have f1 := df 1
  obtain ⟨n, m, c, rfl, hr⟩ := trE_agg htr
  have HR := Lib.hid hr
  clear htr hr df
  go_wp2_with fail
  obtain ⟨e0, e1⟩ := put2 (.int .u32 (n : Int)) (.int .u32 (m : Int)) d0 d1
  refine bodyPost_ret (v := .tuple #[.agg #[.int .u32 n, .int .u32 m], .int .i64 c]) (by simp [results, Tryd.results17, go_sem, e0, e1]) rfl (trE_of HR.out ?_)
  exact ((HBB.out.setCell (p := ⟨w.heap.size + 1, 0, none⟩) (by show w.heap.size ≤ w.heap.size + 1; omega) _).setCell (p := ⟨w.heap.size + 1, 1, none⟩) (by show w.heap.size ≤ w.heap.size + 1; omega) _)

/-- An endpoint's item is read as it. -/
theorem epI_itE (n m : Nat) (h : 0 < n ∨ m = 0) (hn : n ≤ 4294967295) (hm : m ≤ 4294967295) : epI (itE n m) = some (n, m) := by
  by_cases h0 : n = 0
  · subst h0
    obtain rfl : m = 0 := by omega
    decide +kernel
  · have e : itE n m = itLs [itU 2, itLs [itU n, itU m]] := if_neg h0
    have s1 : shL (itLs [itU 2, itLs [itU n, itU m]]) 2 = true := rfl
    have s2 : shL (itLs [itU n, itU m]) 2 = true := rfl
    have k2 : nuN (itU 2) = some 2 := nuN_itU 2
    have hsv : sv n m = true := by simp [sv]; omega
    rw [e, epI_two s1 rfl, k2]
    show epY _ = _
    rw [epY_two s2 rfl, epZ, nuN_itU, nuN_itU]
    simp [hsv]

theorem depth_itE (n m : Nat) : (itE n m).depth ≤ 3 := by
  unfold itE
  split <;> simp [itLs, itU, It.depth, It.depth.depthL]

end Go.Proofs.YtjbdpkjkeelgfaaDoor
