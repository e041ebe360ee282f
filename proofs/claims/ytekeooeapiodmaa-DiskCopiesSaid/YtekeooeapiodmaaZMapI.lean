/- Maps whose keys are ints: what is found, what a store leaves. -/
import Derived.Test.YtekeooeapiodmaaZGen
import Derived.MapKept
import GoSem.Instr.MapUpdate
import GoSem.Builtin.Clear
namespace Go.Proofs.Ytekeooeapiodmaa
open Go Go.RowKit Go.Shelf
set_option linter.unusedSimpArgs false
set_option linter.unusedVariables false
set_option maxRecDepth 100000

/-- Entries whose keys are ints, each once, read as f. -/
def EntI (l : List MapEntry) (f : Int → Option Value) : Prop :=
  (l.map (·.key)).Nodup ∧ (∀ x ∈ l, MapKept.IsKey (.int .i64) x.key) ∧ ∀ k v, f k = some v ↔ ∃ x ∈ l, x.key = .int .i64 k ∧ x.val = v

theorem EntI.nil : EntI [] (fun _ => none) := ⟨by simp, by simp, by simp⟩

theorem EntI.find {l : List MapEntry} {f : Int → Option Value} (h : EntI l f) (k : Int) :
    (Instr.findNow (.int .i64) (.int .i64 k) l 0 = some none ∧ f k = none ∧ ∀ x ∈ l, x.key ≠ .int .i64 k) ∨ ∃ j e, Instr.findNow (.int .i64) (.int .i64 k) l 0 = some (some (j, e.val)) ∧ l[j]? = some e ∧ e.key = .int .i64 k ∧ f k = some e.val := by
  rcases MapKept.findNow_spec (d := .int .i64) (k := .int .i64 k) (by simp [MapKept.IsKey]) l 0 h.2.1 with ⟨h1, h2⟩ | ⟨j, e, h1, h2, h3⟩
  · refine .inl ⟨h1, ?_, h2⟩
    cases hf : f k with
    | none => rfl
    | some v =>
      obtain ⟨x, hx, hk, _⟩ := (h.2.2 k v).1 hf
      exact absurd hk (h2 x hx)
  · refine .inr ⟨j, e, by simpa using h1, h2, h3, (h.2.2 k e.val).2 ⟨e, List.mem_of_getElem? h2, h3, rfl⟩⟩

/-- What a store leaves. -/
def updI (f : Int → Option Value) (k : Int) (v : Value) : Int → Option Value := fun j => if j = k then some v else f j

theorem EntI.push {l : List MapEntry} {f : Int → Option Value} (h : EntI l f) (k : Int) (v : Value) (c : Nat) (hn : ∀ x ∈ l, x.key ≠ .int .i64 k) : EntI (l ++ [⟨.int .i64 k, v, c⟩]) (updI f k v) := by
  obtain ⟨h1, h2, h3⟩ := h
  refine ⟨?_, ?_, fun j u => ?_⟩
  · rw [List.map_append, List.nodup_append]
    refine ⟨h1, by simp, fun a ha b hb => ?_⟩
    simp only [List.map_cons, List.map_nil, List.mem_singleton] at hb
    subst hb
    obtain ⟨x, hx, rfl⟩ := List.mem_map.1 ha
    exact hn x hx
  · intro x hx
    rcases List.mem_append.1 hx with hx | hx
    · exact h2 x hx
    · simp only [List.mem_singleton] at hx
      subst hx
      simp [MapKept.IsKey]
  · unfold updI
    by_cases e : j = k
    · subst e
      rw [if_pos rfl]
      constructor
      · intro hu
        injection hu with hu
        subst hu
        exact ⟨_, List.mem_append_right _ (List.mem_singleton.2 rfl), rfl, rfl⟩
      · rintro ⟨x, hx, hk, rfl⟩
        rcases List.mem_append.1 hx with hx | hx
        · exact absurd hk (hn x hx)
        · simp only [List.mem_singleton] at hx
          subst hx
          rfl
    · rw [if_neg e, h3 j u]
      constructor
      · rintro ⟨x, hx, hk, hv⟩
        exact ⟨x, List.mem_append_left _ hx, hk, hv⟩
      · rintro ⟨x, hx, hk, hv⟩
        rcases List.mem_append.1 hx with hx | hx
        · exact ⟨x, hx, hk, hv⟩
        · simp only [List.mem_singleton] at hx
          subst hx
          simp only [Value.int.injEq, true_and] at hk
          exact absurd hk.symm e

theorem EntI.set {l : List MapEntry} {f : Int → Option Value} (h : EntI l f) (k : Int) (v : Value) {i : Nat} {e : MapEntry} (hi : l[i]? = some e) (hk : e.key = .int .i64 k) (q : Value) (hq : q = .int .i64 k) :
    EntI (l.modify i fun e => { e with key := q, val := v }) (updI f k v) := by
  subst hq
  obtain ⟨h1, h2, h3⟩ := h
  have hkeys : (l.modify i fun e => { e with key := .int .i64 k, val := v }).map (·.key) = l.map (·.key) := by
    apply List.ext_getElem?
    intro j
    simp only [List.getElem?_map, List.getElem?_modify]
    by_cases hij : i = j
    · subst hij
      simp [hi, hk]
    · simp [hij]
  have hat : ∀ j x, (l.modify i fun e => { e with key := .int .i64 k, val := v })[j]? = some x ↔ (j = i ∧ x = { e with key := .int .i64 k, val := v }) ∨ (j ≠ i ∧ l[j]? = some x) := by
    intro j x
    rw [List.getElem?_modify]
    by_cases hij : i = j
    · subst hij
      simp [hi, eq_comm]
    · simp [hij, Ne.symm hij]
  refine ⟨by rw [hkeys]; exact h1, fun x hx => ?_, fun j u => ?_⟩
  · obtain ⟨j, hj⟩ := List.getElem?_of_mem hx
    rcases (hat j x).1 hj with ⟨_, rfl⟩ | ⟨_, hj⟩
    · simp [MapKept.IsKey]
    · exact h2 x (List.mem_of_getElem? hj)
  · unfold updI
    have huniq : ∀ j x, l[j]? = some x → x.key = .int .i64 k → j = i := by
      intro j x hj hx
      have a1 : (l.map (·.key))[j]? = some (.int .i64 k) := by rw [List.getElem?_map, hj]; simp [hx]
      have a2 : (l.map (·.key))[i]? = some (.int .i64 k) := by rw [List.getElem?_map, hi]; simp [hk]
      obtain ⟨b1, c1⟩ := List.getElem?_eq_some_iff.1 a1
      obtain ⟨b2, c2⟩ := List.getElem?_eq_some_iff.1 a2
      rcases Nat.lt_trichotomy j i with hl | hl | hl
      · exact absurd (c1.trans c2.symm) (List.pairwise_iff_getElem.1 h1 j i b1 b2 hl)
      · exact hl
      · exact absurd (c2.trans c1.symm) (List.pairwise_iff_getElem.1 h1 i j b2 b1 hl)
    by_cases ej : j = k
    · subst ej
      rw [if_pos rfl]
      constructor
      · intro hu
        injection hu with hu
        subst hu
        exact ⟨_, List.mem_of_getElem? ((hat i _).2 (.inl ⟨rfl, rfl⟩)), rfl, rfl⟩
      · rintro ⟨x, hx, hxk, rfl⟩
        obtain ⟨m, hm⟩ := List.getElem?_of_mem hx
        rcases (hat m x).1 hm with ⟨_, rfl⟩ | ⟨hne, hm⟩
        · rfl
        · exact absurd (huniq m x hm hxk) hne
    · rw [if_neg ej, h3 j u]
      constructor
      · rintro ⟨x, hx, hxk, hv⟩
        obtain ⟨m, hm⟩ := List.getElem?_of_mem hx
        have hne : m ≠ i := by
          rintro rfl
          rw [hi] at hm
          injection hm with hm
          subst hm
          rw [hk] at hxk
          simp only [Value.int.injEq, true_and] at hxk
          exact ej hxk.symm
        exact ⟨x, List.mem_of_getElem? ((hat m x).2 (.inr ⟨hne, hm⟩)), hxk, hv⟩
      · rintro ⟨x, hx, hxk, hv⟩
        obtain ⟨m, hm⟩ := List.getElem?_of_mem hx
        rcases (hat m x).1 hm with ⟨_, rfl⟩ | ⟨hne, hm⟩
        · simp only [Value.int.injEq, true_and] at hxk
          exact absurd hxk.symm ej
        · exact ⟨x, List.mem_of_getElem? hm, hxk, hv⟩

/-- Block b is a map that reads as f. -/
def IMap (w : World) (b : Nat) (f : Int → Option Value) : Prop := ∃ es clock, w.heap[b]? = some (.map es clock) ∧ EntI es.toList f

theorem IMap.lt {w : World} {b : Nat} {f : Int → Option Value} (h : IMap w b f) : b < w.heap.size := by
  obtain ⟨es, c, hb, _⟩ := h
  exact (Array.getElem?_eq_some_iff.1 hb).1
theorem IMap.kept {w w' : World} {b : Nat} {f : Int → Option Value} (h : IMap w b f) (hb : w'.heap[b]? = w.heap[b]?) : IMap w' b f := by
  obtain ⟨es, c, h1, h2⟩ := h
  exact ⟨es, c, hb.trans h1, h2⟩
theorem IMap.made (w : World) (c : Nat) : IMap (w.alloc (.map #[] c)) w.heap.size (fun _ => none) :=
  ⟨#[], c, (MapKept.heap_alloc w _).1, EntI.nil⟩

/-- One block turned. -/
def setB (w : World) (b : Nat) (o : Obj) : World := { w with heap := w.heap.setIfInBounds b o }

section
variable {P : Program} {t kt et : TypeId} {w : World} {b : Nat} {f : Int → Option Value}

theorem IMap.look (h : IMap w b f) (ht : P.underlying t = some (.map kt et)) (hk : P.underlying kt = some (.int .i64)) {z : Value} (hz : (zeroValue et).run P w = .ok z w) (k : Int) :
    (Instr.lookup t (.map (some b)) (.int .i64 k) false).run P w = .ok ((f k).getD z) w := by
  obtain ⟨es, c, hb, he⟩ := h
  have hc : ∀ e, (Instr.checkKey e 10000 kt (.int .i64 k)).run P w = .ok () w := fun e => MapKept.run_checkKey (k := .int .i64 k) hk (by simp [MapKept.IsKey]) e 9999
  rcases he.find k with ⟨h1, h2, _⟩ | ⟨j, e, h1, _, _, h4⟩
  · simp [Instr.lookup, run_underlying ht, MapKept.run_getObj_map hb, hc, MapKept.run_findKey hk h1, Result.andThen, hz, h2]
  · simp [Instr.lookup, run_underlying ht, MapKept.run_getObj_map hb, hc, MapKept.run_findKey hk h1, Result.andThen, h4]

theorem IMap.look2 (h : IMap w b f) (ht : P.underlying t = some (.map kt et)) (hk : P.underlying kt = some (.int .i64)) {z : Value} (hz : (zeroValue et).run P w = .ok z w) (k : Int) :
    (Instr.lookup t (.map (some b)) (.int .i64 k) true).run P w = .ok (.tuple #[(f k).getD z, .bool (f k).isSome]) w := by
  obtain ⟨es, c, hb, he⟩ := h
  have hc : ∀ e, (Instr.checkKey e 10000 kt (.int .i64 k)).run P w = .ok () w := fun e => MapKept.run_checkKey (k := .int .i64 k) hk (by simp [MapKept.IsKey]) e 9999
  rcases he.find k with ⟨h1, h2, _⟩ | ⟨j, e, h1, _, _, h4⟩
  · simp [Instr.lookup, run_underlying ht, MapKept.run_getObj_map hb, hc, MapKept.run_findKey hk h1, Result.andThen, hz, h2]
  · simp [Instr.lookup, run_underlying ht, MapKept.run_getObj_map hb, hc, MapKept.run_findKey hk h1, Result.andThen, h4]

theorem IMap.update (h : IMap w b f) (ht : P.underlying t = some (.map kt et)) (hk : P.underlying kt = some (.int .i64)) (k : Int) (v : Value) :
    ∃ o, (Instr.mapUpdate t (.map (some b)) (.int .i64 k) v).run P w = .ok () (setB w b o) ∧ IMap (setB w b o) b (updI f k v) := by
  obtain ⟨es, c, hb, he⟩ := h
  have hc : ∀ e, (Instr.checkKey e 10000 kt (.int .i64 k)).run P w = .ok () w := fun e => MapKept.run_checkKey (k := .int .i64 k) hk (by simp [MapKept.IsKey]) e 9999
  have hlt : b < w.heap.size := (Array.getElem?_eq_some_iff.1 hb).1
  rcases he.find k with ⟨h1, h2, h3⟩ | ⟨j, e, h1, h2, h3, h4⟩
  · refine ⟨.map (es.push { key := .int .i64 k, val := v, born := c }) (c + 1), ?_, es.push { key := .int .i64 k, val := v, born := c }, c + 1, by simp [setB, hlt], by simpa using he.push k v c h3⟩
    simp [Instr.mapUpdate, run_underlying ht, MapKept.run_getObj_map hb, hc, MapKept.run_findKey hk h1, MapKept.run_setObj_map _ hb, Result.andThen, setB]
  · have hj : es[j]? = some e := by simpa using h2
    obtain ⟨q, hq, hqk⟩ : ∃ q, (Instr.keyThatStays (.int .i64 k) (.int .i64 k)).run P w = .ok q w ∧ q = .int .i64 k := by
      refine ⟨.int .i64 k, ?_, rfl⟩
      simp [Instr.keyThatStays, Instr.sameBits]
    refine ⟨.map (es.modify j fun e => { e with key := q, val := v }) c, ?_, es.modify j fun e => { e with key := q, val := v }, c, by simp [setB, hlt], ?_⟩
    · simp [Instr.mapUpdate, run_underlying ht, MapKept.run_getObj_map hb, hc, MapKept.run_findKey hk h1, MapKept.run_setObj_map _ hb, Result.andThen, setB, hj, h3, hq]
    · rw [Array.toList_modify]
      exact he.set k v h2 h3 q hqk

theorem IMap.clear (h : IMap w b f) (ht : P.underlying t = some (.map kt et)) (u : TypeId) :
    ∃ o, (Builtin.clear_ #[t] u #[.map (some b)]).run P w = .ok (.tuple #[]) (setB w b o) ∧ IMap (setB w b o) b (fun _ => none) := by
  obtain ⟨es, c, hb, he⟩ := h
  have hlt : b < w.heap.size := (Array.getElem?_eq_some_iff.1 hb).1
  refine ⟨.map #[] c, ?_, #[], c, by simp [setB, hlt], EntI.nil⟩
  simp [Builtin.clear_, run_underlying ht, MapKept.run_getObj_map hb, MapKept.run_setObj_map _ hb, Result.andThen, setB]
end

theorem setB_size (w : World) (b : Nat) (o : Obj) : (setB w b o).heap.size = w.heap.size := by simp [setB]
theorem setB_block (w : World) (b : Nat) (o : Obj) (k : Nat) (h : k ≠ b) : (setB w b o).heap[k]? = w.heap[k]? := by
  simp [setB, Ne.symm h]

end Go.Proofs.Ytekeooeapiodmaa

