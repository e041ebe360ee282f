/- Package disk: maps and writes that are cloned. -/
import Derived.Test.YtekeooeapiodmaaZDkK
import Derived.Shelf.SlMaps.Clone
import Derived.Deep.Onto
namespace Go.Proofs.Ytekeooeapiodmaa
open Go Go.RowKit Go.Shelf
set_option linter.unusedSimpArgs false
set_option linter.unusedVariables false
set_option maxRecDepth 100000

attribute [local go_sem] Oper.semAt_some

theorem IMap.block {w : World} {b : Nat} {f : Int → Option Value} (h : IMap w b f) : ∃ es c, w.heap[b]? = some (.map es c) ∧ IMap (w.alloc (.map es c)) w.heap.size f := by
  obtain ⟨es, c, h1, h2⟩ := h
  exact ⟨es, c, h1, es, c, (MapKept.heap_alloc w _).1, h2⟩

set_option maxHeartbeats 2000000 in
theorem mclone1_any (b : Nat) (f : Int → Option Value) (w : World) (h : IMap w b f) :
    Calls Try.prog 43 #[.map (some b)] w fun e w' => e = .returned (.map (some w.heap.size)) ∧ IMap w' w.heap.size f ∧ Below w.heap.size w w' ∧ w'.heap.size = w.heap.size + 1 := by
  obtain ⟨es, c, hb, hm⟩ := h.block
  have hq := fun w => run_eql_map_nil_sl (P := Try.prog) w 69 _ _ (some b) Try.underlying69
  have HM := Lib.hid hm
  have HB : Hid (Below w.heap.size w (w.alloc (.map es c))) := below_al (Below.refl _ _) _
  clear h hm
  go_enter Try.func43, Try.ntmps43
  go_wp2_with fail
  rw [run_callFunc_extern Try.func64 (by kernel_rfl) (by kernel_rfl) (by kernel_rfl) (e := Extern.MapsClone.clone) (by kernel_rfl), run_maps_clone_sl w 69 hb]
  simp only [Result.andThen]
  rw [Oper.upon_value]
  go_wp2_with fail
  rw [run_typeAssert_map_sl _ 69 _ _ _ _ Try.underlying69]
  simp only [Result.andThen]
  rw [Oper.upon_value]
  go_wp2_with fail
  go_ret
  exact ⟨rfl, HM.out, HB.out, by simp⟩

set_option maxHeartbeats 2000000 in
theorem mclone2_any (b : Nat) (f : Int → Option Value) (w : World) (h : IMap w b f) :
    Calls Try.prog 45 #[.map (some b)] w fun e w' => e = .returned (.map (some w.heap.size)) ∧ IMap w' w.heap.size f ∧ Below w.heap.size w w' ∧ w'.heap.size = w.heap.size + 1 := by
  obtain ⟨es, c, hb, hm⟩ := h.block
  have hq := fun w => run_eql_map_nil_sl (P := Try.prog) w 70 _ _ (some b) Try.underlying70
  have HM := Lib.hid hm
  have HB : Hid (Below w.heap.size w (w.alloc (.map es c))) := below_al (Below.refl _ _) _
  clear h hm
  go_enter Try.func45, Try.ntmps45
  go_wp2_with fail
  rw [run_callFunc_extern Try.func64 (by kernel_rfl) (by kernel_rfl) (by kernel_rfl) (e := Extern.MapsClone.clone) (by kernel_rfl), run_maps_clone_sl w 70 hb]
  simp only [Result.andThen]
  rw [Oper.upon_value]
  go_wp2_with fail
  rw [run_typeAssert_map_sl _ 70 _ _ _ _ Try.underlying70]
  simp only [Result.andThen]
  rw [Oper.upon_value]
  go_wp2_with fail
  go_ret
  exact ⟨rfl, HM.out, HB.out, by simp⟩

theorem wpList_appN {P : Program} (w : World) {ops : Array Oper} {rest : List Oper} {o : Oper} {a : Act} {Q : Exit → Act → World → Prop} (hgd : o.guard = none) (s x : Operand) (t : TypeId)
    (ho : o.op = .call { callee := .builtin .append, args := #[s, x], argTypes := #[t, t] })
    (base : Nat) (e : TypeId) (z : Value) (size bytes : Nat) (ht : P.underlying t = some (.slice e)) (hinfo : (P.info? e).map (fun i => (i.zero, i.size, i.bytes)) = some (some z, size, bytes)) (hz1 : z.cells.size = size) (hsz : 0 < size)
    (v : Value) (n : Nat) (xs : List Value) (hv : a.eval s = v) (hown : w.ownsRow base e size v n xs) (A : Addr) (m c : Nat) (ys : List Value) (hx : a.eval x = .slice (some A) m c) (hm : ys.length = m * size) (hs : ∀ j u, ys[j]? = some u → w.cell? (A.add j) = some u) (h1 : ∀ u ∈ ys, u.oneCell' = true)
    (h63 : n + m ≤ maxLen) (hbytes : (n + m) * bytes ≤ 140737488355328) (hbase : base ≤ w.heap.size)
    (h : ∀ v' w', w'.ownsRow base e size v' (n + m) (xs ++ ys) → w.grownBy w' v.ownBlock → (v'.ownBlock = v.ownBlock ∨ v'.ownBlock = some w.heap.size) → wpList P ops Q rest (a.put o.dst v') w') : wpList P ops Q (o :: rest) a w :=
  wpList_plain hgd fun _ hK => by
    obtain ⟨i, hi, hz0, hsz0, hb⟩ := info_parts hinfo
    obtain ⟨v', w', hrun, h2, h3, _, h5⟩ := run_append_own_at (P := P) w base t o.type e i z size bytes ht hi hz0 hsz0 hb hz1 hsz v n xs hown A m c ys hm hs h1 h63 hbytes hbase
    unfold Oper.wp execOp
    simp only [ho, resolve, invoke, builtin, Sem.run_bind, Sem.run_pure, Result.andThen_ok, List.map_toArray, List.map_cons, List.map_nil, hv, hx, hrun]
    exact hK _ _ (h v' w' h2 h3 h5)

/-- What a clone of writes is. -/
def ClP (l : List (Int × List UInt8)) (w : World) (e : Ending) (w' : World) : Prop := ∃ v, e = .returned v ∧ w'.ownsRow 0 88 65 v l.length (flatW l) ∧ Below w.heap.size w w' ∧ ∀ j, v.ownBlock = some j → w.heap.size ≤ j

set_option maxHeartbeats 4000000 in
theorem wclone_any (v : Value) (l : List (Int × List UInt8)) (hl : ∀ x ∈ l, x.2.length = 64) (hfew : l.length ≤ 1000000) (w : World) (h : w.ownsRow 0 88 65 v l.length (flatW l)) :
    Calls Try.prog 44 #[v] w (ClP l w) := by
  rcases h.2 with ⟨rfl, h0⟩ | ⟨g, cap, cur, rfl, _, hg, hn, hm, hs, ht⟩
  · obtain rfl : l = [] := List.eq_nil_of_length_eq_zero h0
    clear h h0 hl hfew
    have heq := fun w : World => Lib.run_eql_slice_nil (P := Try.prog) w 71 88 none 0 0 0 0 Try.underlying71
    go_enter Try.func44, Try.ntmps44
    go_wp2_with fail
    go_ret
    exact ⟨_, rfl, World.ownsRow_nil _ _ _ _, Below.refl _ _, fun j hj => by cases hj⟩
  · obtain ⟨w1, hw1⟩ : ∃ w1, w1 = w.alloc (.cells #[] 88) := ⟨_, rfl⟩
    have hb1 : Below w.heap.size w w1 := by rw [hw1]; exact below_al (Below.refl _ _) _
    have HO : Hid (w1.ownsRow w.heap.size 88 65 (.slice (some ⟨w.heap.size, 0, none⟩) 0 0) 0 []) := by
      rw [hw1]
      refine ⟨rfl, .inr ⟨w.heap.size, 0, #[], rfl, Nat.le_refl _, World.alloc_heap_new w _, ?_⟩⟩
      exact ⟨Nat.le_refl _, by decide, rfl, rfl⟩
    have HN : Hid (∀ j u, (flatW l)[j]? = some u → w1.cell? ((⟨g, 0, none⟩ : Addr).add j) = some u) := fun j u hu => by
      have h1 := h.cells (g := g) rfl j u hu
      have hlt := (h.lt g rfl).2
      rw [Addr.add_mid] at h1 ⊢
      exact (hb1.cell (p := ⟨g, 0 + j, none⟩) hlt).trans h1
    have HFl := Lib.hid (flatW_len hl)
    have HB1 := Lib.hid hb1
    have HW1 := Lib.hid hw1
    have HS1 : Hid (w.heap.size < w1.heap.size) := by rw [Hid, hw1]; simp
    have HF := Lib.hid hfew
    obtain ⟨n, hn0⟩ : ∃ n, n = l.length := ⟨_, rfl⟩
    rw [← hn0] at HFl HF hn ⊢
    have HNe := Lib.hid hn0
    clear hg ht hs hm h hl hfew hb1 hw1 hn0
    have heq := fun w : World => Lib.run_eql_slice_nil (P := Try.prog) w 71 88 (some ⟨g, 0, none⟩) n cap 0 0 Try.underlying71
    go_enter Try.func44, Try.ntmps44
    go_upto_region 3 with fail
    have hHn : w.heap.size ≤ w1.heap.size := Nat.le_of_lt HS1.out
    go_wp2_with (at_builtin; refine wpList_appN _ rfl _ _ 71 rfl w.heap.size 88 _ 65 72 Try.underlying71 info_wr (by kernel_rfl) (by decide) _ 0 [] rfl (by first | exact HO.out | (rw [← HW1.out]; exact HO.out)) ⟨g, 0, none⟩ n cap (flatW l) rfl HFl.out (by first | exact HN.out | (rw [← HW1.out]; exact HN.out)) flatW_one (by have := HF.out; unfold maxLen; omega) (by have := HF.out; omega) (by first | exact hHn | (rw [← HW1.out]; exact hHn)) ?_; intro v' w2 h2 h3 h5)
    go_ret
    have hb : Below w.heap.size w w2 := ((Below.refl _ _).alloc (Nat.le_refl _) _).grown h3 (by simp) (fun r e => by cases e; exact Nat.le_refl _)
    rw [Nat.zero_add, List.nil_append] at h2
    refine ⟨v', rfl, ?_, hb, fun j hj => (h2.lt j hj).1⟩
    rw [← HNe.out]
    exact h2.mono (Nat.zero_le _)

end Go.Proofs.Ytekeooeapiodmaa

