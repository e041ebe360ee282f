/- Package name's NameOf. -/
import Derived.Test.YtjbdpkjkeelgfaaDoorNmK4
namespace Go.Proofs.YtjbdpkjkeelgfaaDoor
open Go Go.RowKit Go.Shelf
set_option linter.unusedSimpArgs false
set_option linter.unusedVariables false
set_option maxRecDepth 100000

/-- What is read of an item, or why not. -/
def rdNI (x : It) : Except Int (Nat × Nat × Nat × Nat) := match nmI x with
  | some p => .ok p
  | none => .error 130

set_option maxHeartbeats 4000000 in
theorem nof1_any (x : It) (P : Nat) (w : World) (hd : x.depth ≤ 60000) (h : BoxI w w.heap.size P x) :
    Calls Tryd.prog 52 #[.pointer (some ⟨P, 0, none⟩)] w (RdN w (rdNI x)) := by
  obtain ⟨a, c, A, C, hv, hP, x0, x1, x2, x3, x4⟩ := h
  obtain ⟨W, hW⟩ : ∃ W, W = w.alloc (.cells #[.int .u32 0, .int .u32 0, .int .u64 0, .int .u32 0] 47) := ⟨_, rfl⟩
  have HB : Hid (Below w.heap.size w W) := by rw [hW]; exact below_al (Below.refl _ _) _
  have HR : Hid (∀ w', Below W.heap.size W w' → (w'.cell? ⟨w.heap.size, 0, none⟩ = some (.int .u32 0) ∧ w'.cell? ⟨w.heap.size, 1, none⟩ = some (.int .u32 0) ∧ w'.cell? ⟨w.heap.size, 2, none⟩ = some (.int .u64 0) ∧ w'.cell? ⟨w.heap.size, 3, none⟩ = some (.int .u32 0)) ∧ ∀ i, w'.frozen? ⟨w.heap.size, i, none⟩ = false) := fun w' h => by
    have hs : w.heap.size < W.heap.size := by rw [hW]; simp
    have hh := fun i => (h.cell (p := ⟨w.heap.size, i, none⟩) hs).trans (by rw [hW, World.cell?_alloc_mark] : W.cell? ⟨w.heap.size, i, none⟩ = (#[Value.int .u32 0, .int .u32 0, .int .u64 0, .int .u32 0])[i]?)
    refine ⟨⟨hh 0, hh 1, hh 2, hh 3⟩, fun i => (h.frozen (p := ⟨w.heap.size, i, none⟩) hs).trans ?_⟩
    rw [hW]
    exact World.frozen?_alloc_new _ _ _ _
  have HV := Lib.hid (hv.on HB.out)
  have HW := Lib.hid hW
  clear hv hW
  go_enter Tryd.func52, Tryd.ntmps52
  go_wp2_with fail
  rw [← HW.out]
  refine (nameOf_any x _ W hd HV.out).mono ?_
  rintro e w2 ⟨hb2, ⟨n, m, t, q, rfl, hm⟩ | ⟨rfl, hm⟩⟩
  · have HB2 := Lib.hid (below_on HB.out hb2)
    obtain ⟨⟨r0, r1, r2, r3⟩, rf⟩ := HR.out w2 hb2
    have f0 := rf 0
    have f1 := rf 1
    have f2 := rf 2
    have f3 := rf 3
    have HM : Hid (rdNI x = .ok (n, m, t, q)) := by rw [Hid, rdNI, hm]
    clear hb2 hm x0 x1 x2 x3 x4
    go_wp2_with fail
    obtain ⟨s0, s1, s2, s3⟩ := put4 (.int .u32 (n : Int)) (.int .u32 (m : Int)) (.int .u64 (t : Int)) (.int .u32 (q : Int)) r0 r1 r2 r3
    refine bodyPost_ret (v := .agg #[.int .u32 n, .int .u32 m, .int .u64 t, .int .u32 q]) (by simp [results, Tryd.results52, go_sem, s0, s1, s2, s3]) rfl ⟨?_, by rw [HM.out]⟩
    exact ((((HB2.out.setCell (p := ⟨w.heap.size, 0, none⟩) (Nat.le_refl _) _).setCell (p := ⟨w.heap.size, 1, none⟩) (Nat.le_refl _) _).setCell (p := ⟨w.heap.size, 2, none⟩) (Nat.le_refl _) _).setCell (p := ⟨w.heap.size, 3, none⟩) (Nat.le_refl _) _)
  · have HB2 := Lib.hid (below_on HB.out hb2)
    have HM : Hid (rdNI x = .error 130) := by rw [Hid, rdNI, hm]
    clear hb2 hm x0 x1 x2 x3 x4
    go_wp2_with fail
    exact ⟨rfl, HB2.out, by rw [HM.out]; rfl⟩

set_option maxHeartbeats 4000000 in
theorem nof_any (x : It) (v : Value) (w : World) (hd : x.depth ≤ 60000) (hv : ItV w w.heap.size v x) :
    Calls Tryd.prog 25 #[v] w (TrN w (rdNI x)) := by
  have hmf : ∀ (fn : Fn) (first cap : Array Value) (w : World), (Instr.makeFunc fn first cap).run Tryd.prog w = .ok (.func fn first cap) w := fun _ _ _ _ => rfl
  obtain ⟨a, c, A, C, rfl⟩ := hv.form
  obtain ⟨W1, hW1⟩ : ∃ W, W = w.alloc (.cells #[.int .i64 x.k, .int .u64 x.n, .slice a x.b.length c, .string ⟨x.s.toArray⟩, .slice A x.l.length C] 33) := ⟨_, rfl⟩
  have s1 : W1.heap.size = w.heap.size + 1 := by rw [hW1]; simp
  have hbx : BoxI W1 W1.heap.size w.heap.size x := by rw [hW1]; exact boxI_new _ hv
  obtain ⟨W, hW⟩ : ∃ W, W = W1.alloc (.cells #[.int .u32 0, .int .u32 0, .int .u64 0, .int .u32 0] 47) := ⟨_, rfl⟩
  have hb1 : Below w.heap.size w W1 := by rw [hW1]; exact below_al (Below.refl _ _) _
  have hb2 : Below W1.heap.size W1 W := by rw [hW]; exact below_al (Below.refl _ _) _
  have hbW : Below w.heap.size w W := below_on hb1 hb2
  have hsW : W.heap.size = w.heap.size + 2 := by rw [hW]; simp [s1]
  have HB := Lib.hid hbW
  have HT := Lib.hid (triedN_any 52 #[.pointer (some ⟨w.heap.size, 0, none⟩)] (rdNI x) W (enters_of Tryd.func52 (by kernel_rfl) rfl) (fun w' hb => nof1_any x _ w' hd (hbx.on (below_on hb2 hb))))
  have HC : Hid (∀ w', Below W.heap.size W w' → (w'.cell? ⟨w.heap.size + 1, 0, none⟩ = some (.int .u32 0) ∧ w'.cell? ⟨w.heap.size + 1, 1, none⟩ = some (.int .u32 0) ∧ w'.cell? ⟨w.heap.size + 1, 2, none⟩ = some (.int .u64 0) ∧ w'.cell? ⟨w.heap.size + 1, 3, none⟩ = some (.int .u32 0)) ∧ ∀ i, w'.frozen? ⟨w.heap.size + 1, i, none⟩ = false) := fun w' hb => by
    have hh : ∀ i, w'.cell? ⟨w.heap.size + 1, i, none⟩ = W.cell? ⟨w.heap.size + 1, i, none⟩ := fun i => hb.cell (p := ⟨w.heap.size + 1, i, none⟩) (show w.heap.size + 1 < _ by omega)
    have hf : ∀ i, w'.frozen? ⟨w.heap.size + 1, i, none⟩ = W.frozen? ⟨w.heap.size + 1, i, none⟩ := fun i => hb.frozen (p := ⟨w.heap.size + 1, i, none⟩) (show w.heap.size + 1 < _ by omega)
    exact ⟨⟨(hh 0).trans (by rw [hW, ← s1, World.cell?_alloc_mark]; rfl), (hh 1).trans (by rw [hW, ← s1, World.cell?_alloc_mark]; rfl), (hh 2).trans (by rw [hW, ← s1, World.cell?_alloc_mark]; rfl), (hh 3).trans (by rw [hW, ← s1, World.cell?_alloc_mark]; rfl)⟩, fun i => (hf i).trans (by rw [hW, ← s1]; exact World.frozen?_alloc_new _ _ _ _)⟩
  have HW : Hid (W = (w.alloc (.cells #[.int .i64 x.k, .int .u64 x.n, .slice a x.b.length c, .string ⟨x.s.toArray⟩, .slice A x.l.length C] 33)).alloc (.cells #[.int .u32 0, .int .u32 0, .int .u64 0, .int .u32 0] 47)) := by rw [← hW1]; exact hW
  clear hW1 hW hb1 hb2 hbW s1 hv hbx hd
  go_enter Tryd.func25, Tryd.ntmps25
  go_wp2_with fail
  rw [← HW.out]
  refine HT.out.mono ?_
  intro e w1 htr
  have HBB := Lib.hid (below_on HB.out htr.1)
  obtain ⟨⟨d0, d1, d2, d3⟩, df⟩ := HC.out w1 htr.1
  have f0 := df 0
  have f1 := df 1
  have f2 := df 2
  have f3 := df 3
  obtain ⟨n, m, t, q, c, rfl, hr⟩ := trN_agg htr
  have HR := Lib.hid hr
  clear htr hr df
  go_wp2_with fail
  obtain ⟨e0, e1, e2, e3⟩ := put4 (.int .u32 (n : Int)) (.int .u32 (m : Int)) (.int .u64 (t : Int)) (.int .u32 (q : Int)) d0 d1 d2 d3
  refine bodyPost_ret (v := .tuple #[.agg #[.int .u32 n, .int .u32 m, .int .u64 t, .int .u32 q], .int .i64 c]) (by simp [results, Tryd.results25, go_sem, e0, e1, e2, e3]) rfl (trN_of HR.out ?_)
  exact ((((HBB.out.setCell (p := ⟨w.heap.size + 1, 0, none⟩) (by show w.heap.size ≤ w.heap.size + 1; omega) _).setCell (p := ⟨w.heap.size + 1, 1, none⟩) (by show w.heap.size ≤ w.heap.size + 1; omega) _).setCell (p := ⟨w.heap.size + 1, 2, none⟩) (by show w.heap.size ≤ w.heap.size + 1; omega) _).setCell (p := ⟨w.heap.size + 1, 3, none⟩) (by show w.heap.size ≤ w.heap.size + 1; omega) _)

/-- A name's item is read as it. -/
theorem nmI_itN (n m t q : Nat) (h : 0 < n) (hn : n ≤ 4294967295) (hm : m ≤ 4294967295) (ht : t ≤ forever) (hq : q ≤ 4294967295) : nmI (itN n m t q) = some (n, m, t, q) := by
  have s1 : shL (itLs [itE n m, itU t, itU q]) 3 = true := rfl
  have hb : nmB n t q = true := by simp [nmB]; omega
  rw [itN, nmI_three s1 rfl, nmZ, epI_itE n m (.inl h) hn hm, nuN_itU, nuN_itU]
  simp [hb]

theorem depth_itN (n m t q : Nat) : (itN n m t q).depth ≤ 4 := by
  have := depth_itE n m
  simp only [itN, itLs, itU, It.depth, It.depth.depthL]
  omega

end Go.Proofs.YtjbdpkjkeelgfaaDoor
