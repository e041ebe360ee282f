/- Maps whose keys are values of any kind that Go compares, told as a list of pairs: what is found, what a store leaves, what a range hands over. -/
import Derived.Test.YtdnjoohicbdmiaaButS
import Derived.MapKept
import Derived.Maps.RangeRun
import Derived.Maps.RangeWalk
import GoSem.Instr.MapUpdate
import GoSem.Instr.MapEntry
import GoSem.Builtin.Delete
namespace Go.Proofs.Ytdnjoohicbdmiaa
open Go Go.RowKit Go.Shelf
open Go.ChangeMaps (setBlock)
set_option linter.unusedSimpArgs false
set_option linter.unusedVariables false
set_option linter.unusedSectionVars false
set_option maxRecDepth 100000

section
variable {κ : Type} [DecidableEq κ]

/-- What is found at a key. -/
def lk : List (κ × Value) → κ → Option Value
  | [], _ => none
  | p :: r, k => if p.1 = k then some p.2 else lk r k
/-- What a store leaves. -/
def up : List (κ × Value) → κ → Value → List (κ × Value)
  | [], k, v => [(k, v)]
  | p :: r, k, v => if p.1 = k then (k, v) :: r else p :: up r k v
/-- What a delete leaves. -/
def dl (l : List (κ × Value)) (k : κ) : List (κ × Value) := l.filter fun p => decide (p.1 ≠ k)

theorem lk_none : ∀ {l : List (κ × Value)} {k : κ}, (∀ p ∈ l, p.1 ≠ k) → lk l k = none
  | [], _, _ => rfl
  | p :: r, k, h => by
    unfold lk
    rw [if_neg (h p (by simp)), lk_none fun q hq => h q (by simp [hq])]
theorem lk_mem : ∀ {l : List (κ × Value)} {k : κ} {v : Value}, lk l k = some v → (k, v) ∈ l
  | [], _, _, h => by cases h
  | p :: r, k, v, h => by
    unfold lk at h
    split at h
    · rename_i e
      injection h with h
      subst h
      subst e
      exact .head _
    · exact .tail _ (lk_mem h)
theorem lk_of_mem : ∀ {l : List (κ × Value)}, (l.map (·.1)).Nodup → ∀ {k : κ} {v : Value}, (k, v) ∈ l → lk l k = some v
  | [], _, _, _, h => by cases h
  | p :: r, hn, k, v, h => by
    have hn' : p.1 ∉ r.map (·.1) ∧ (r.map (·.1)).Nodup := List.nodup_cons.1 hn
    unfold lk
    rcases List.mem_cons.1 h with e | h
    · subst e
      rw [if_pos rfl]
    · have hne : p.1 ≠ k := fun e => hn'.1 (e ▸ List.mem_map.2 ⟨(k, v), h, rfl⟩)
      rw [if_neg hne, lk_of_mem hn'.2 h]
theorem lk_at {l : List (κ × Value)} (hn : (l.map (·.1)).Nodup) {j : Nat} {k : κ} {v : Value} (h : l[j]? = some (k, v)) : lk l k = some v := lk_of_mem hn (List.mem_of_getElem? h)
theorem lk_eq_none {l : List (κ × Value)} {k : κ} (h : lk l k = none) (hn : (l.map (·.1)).Nodup) : ∀ p ∈ l, p.1 ≠ k := fun p hp e => by
  have := lk_of_mem hn (k := p.1) (v := p.2) hp
  rw [e, h] at this
  cases this

theorem lk_up (l : List (κ × Value)) (k : κ) (v : Value) (j : κ) : lk (up l k v) j = if j = k then some v else lk l j := by
  induction l with
  | nil =>
    unfold up lk
    by_cases e : j = k
    · subst e; simp
    · rw [if_neg (Ne.symm e), if_neg e]
      rfl
  | cons p r ih =>
    unfold up
    by_cases e : p.1 = k
    · rw [if_pos e]
      by_cases e2 : j = k
      · subst e2
        rw [if_pos rfl]
        unfold lk
        rw [if_pos rfl]
      · rw [if_neg e2]
        unfold lk
        rw [if_neg (Ne.symm e2), if_neg (fun h => e2 (h.symm.trans e))]
    · rw [if_neg e]
      unfold lk
      by_cases e3 : p.1 = j
      · rw [if_pos e3, if_pos e3, if_neg (fun h => e (e3.trans h))]
      · rw [if_neg e3, if_neg e3, ih]

theorem lk_dl (l : List (κ × Value)) (k j : κ) : lk (dl l k) j = if j = k then none else lk l j := by
  induction l with
  | nil => simp [dl, lk]
  | cons p r ih =>
    unfold dl at ih ⊢
    rw [List.filter_cons]
    by_cases e : p.1 = k
    · rw [if_neg (by simp [e]), ih]
      by_cases e2 : j = k
      · rw [if_pos e2, if_pos e2]
      · rw [if_neg e2, if_neg e2]
        conv => rhs; unfold lk
        rw [if_neg (fun h => e2 (h.symm.trans e))]
    · rw [if_pos (by simp [e])]
      unfold lk
      by_cases e3 : p.1 = j
      · rw [if_pos e3, if_pos e3, if_neg (fun h => e (e3.trans h))]
      · rw [if_neg e3, if_neg e3, ih]

theorem up_keys (l : List (κ × Value)) (k : κ) (v : Value) : (up l k v).map (·.1) = if (lk l k).isSome then l.map (·.1) else l.map (·.1) ++ [k] := by
  induction l with
  | nil => simp [up, lk]
  | cons p r ih =>
    unfold up lk
    by_cases e : p.1 = k
    · simp [e]
    · simp only [if_neg e, List.map_cons, ih]
      split <;> simp
theorem up_len (l : List (κ × Value)) (k : κ) (v : Value) : (up l k v).length = if (lk l k).isSome then l.length else l.length + 1 := by
  have := congrArg List.length (up_keys l k v)
  rw [List.length_map] at this
  rw [this]
  split <;> simp
theorem up_nodup {l : List (κ × Value)} (hn : (l.map (·.1)).Nodup) (k : κ) (v : Value) : ((up l k v).map (·.1)).Nodup := by
  rw [up_keys]
  split
  · exact hn
  · rename_i h
    have h' : lk l k = none := by
      cases hh : lk l k with
      | none => rfl
      | some u => rw [hh] at h; exact absurd rfl h
    rw [List.nodup_append]
    refine ⟨hn, by simp, fun a ha b hb => ?_⟩
    simp only [List.mem_singleton] at hb
    subst hb
    obtain ⟨x, hx, rfl⟩ := List.mem_map.1 ha
    exact lk_eq_none h' hn x hx
theorem up_at : ∀ {l : List (κ × Value)}, (l.map (·.1)).Nodup → ∀ {j : Nat} {k : κ} {u : Value}, l[j]? = some (k, u) → ∀ v, up l k v = l.set j (k, v)
  | [], _, j, _, _, h, _ => by simp at h
  | p :: r, hn, j, k, u, h, v => by
    have hn' : p.1 ∉ r.map (·.1) ∧ (r.map (·.1)).Nodup := List.nodup_cons.1 hn
    unfold up
    cases j with
    | zero =>
      simp only [List.getElem?_cons_zero, Option.some.injEq] at h
      rw [if_pos (by rw [h]), List.set_cons_zero]
    | succ j =>
      simp only [List.getElem?_cons_succ] at h
      have hne : p.1 ≠ k := fun e => hn'.1 (e ▸ List.mem_map.2 ⟨(k, u), List.mem_of_getElem? h, rfl⟩)
      rw [if_neg hne, List.set_cons_succ, up_at hn'.2 h]
theorem up_new {l : List (κ × Value)} {k : κ} (h : ∀ p ∈ l, p.1 ≠ k) (v : Value) : up l k v = l ++ [(k, v)] := by
  induction l with
  | nil => rfl
  | cons p r ih =>
    unfold up
    rw [if_neg (h p (by simp)), ih fun q hq => h q (by simp [hq])]
    rfl
theorem dl_at : ∀ {l : List (κ × Value)}, (l.map (·.1)).Nodup → ∀ {j : Nat} {k : κ} {u : Value}, l[j]? = some (k, u) → dl l k = l.eraseIdx j
  | [], _, j, _, _, h => by simp at h
  | p :: r, hn, j, k, u, h => by
    have hn' : p.1 ∉ r.map (·.1) ∧ (r.map (·.1)).Nodup := List.nodup_cons.1 hn
    unfold dl
    rw [List.filter_cons]
    cases j with
    | zero =>
      simp only [List.getElem?_cons_zero, Option.some.injEq] at h
      have e : p.1 = k := by rw [h]
      rw [if_neg (by simp [e]), List.eraseIdx_cons_zero, List.filter_eq_self.2]
      intro q hq
      simp only [ne_eq, decide_eq_true_eq]
      intro e2
      exact hn'.1 (by rw [e, ← e2]; exact List.mem_map.2 ⟨q, hq, rfl⟩)
    | succ j =>
      simp only [List.getElem?_cons_succ] at h
      have hne : p.1 ≠ k := fun e => hn'.1 (e ▸ List.mem_map.2 ⟨(k, u), List.mem_of_getElem? h, rfl⟩)
      rw [if_pos (by simp [hne]), List.eraseIdx_cons_succ]
      exact congrArg (p :: ·) (dl_at hn'.2 h)
theorem dl_new {l : List (κ × Value)} {k : κ} (h : ∀ p ∈ l, p.1 ≠ k) : dl l k = l := by
  unfold dl
  rw [List.filter_eq_self]
  intro q hq
  simpa using h q hq
theorem dl_nodup {l : List (κ × Value)} (hn : (l.map (·.1)).Nodup) (k : κ) : ((dl l k).map (·.1)).Nodup := (List.filter_sublist.map _).nodup hn
end

/-- What Go's laws on maps ask of a type of keys. -/
structure KeyK (P : Program) (kt : TypeId) {κ : Type} (enc : κ → Value) : Prop where
  inj : ∀ a b, enc a = enc b → a = b
  check : ∀ (em : Bool) (k : κ) (w : World), (Instr.checkKey em 10000 kt (enc k)).run P w = .ok () w
  find : ∀ (k : κ) (w : World) (l : List MapEntry), (∀ e ∈ l, ∃ j, e.key = enc j) →
    ((Instr.findKey kt (enc k) l).run P w = .ok none w ∧ ∀ e ∈ l, e.key ≠ enc k) ∨ ∃ j e, (Instr.findKey kt (enc k) l).run P w = .ok (some (j, e.val)) w ∧ l[j]? = some e ∧ e.key = enc k
  stays : ∀ (k : κ) (w : World), (Instr.keyThatStays (enc k) (enc k)).run P w = .ok (enc k) w

/-- Keys of an integer's kind. -/
theorem KeyK.int {P : Program} {kt : TypeId} (q : IntKind) (hk : P.underlying kt = some (.int q)) : KeyK P kt (fun x : Int => Value.int q x) where
  inj a b h := by injection h
  check em k w := MapKept.run_checkKey (k := .int q k) hk (by simp [MapKept.IsKey]) em 9999
  find k w l hl := by
    rcases MapKept.findNow_spec (d := .int q) (k := .int q k) (by simp [MapKept.IsKey]) l 0 (fun x hx => by obtain ⟨j, e⟩ := hl x hx; rw [e]; simp [MapKept.IsKey]) with ⟨h1, h2⟩ | ⟨j, e, h1, h2, h3⟩
    · exact .inl ⟨MapKept.run_findKey hk h1, h2⟩
    · exact .inr ⟨j, e, MapKept.run_findKey hk (by simpa using h1), h2, h3⟩
  stays k w := by simp [Instr.keyThatStays, Instr.sameBits]

theorem findAsking_spec {P : Program} {kt : TypeId} {κ : Type} [DecidableEq κ] {enc : κ → Value} (heq : ∀ (a b : κ) (w : World), (Op.equal kt (enc a) (enc b)).run P w = .ok (decide (a = b)) w) (hinj : ∀ a b, enc a = enc b → a = b) (k : κ) (w : World) : ∀ (l : List MapEntry) (i : Nat), (∀ e ∈ l, ∃ j, e.key = enc j) →
    ((Instr.findAsking kt (enc k) l i).run P w = .ok none w ∧ ∀ e ∈ l, e.key ≠ enc k) ∨ ∃ j e, (Instr.findAsking kt (enc k) l i).run P w = .ok (some (i + j, e.val)) w ∧ l[j]? = some e ∧ e.key = enc k
  | [], _, _ => .inl ⟨rfl, by simp⟩
  | e :: es, i, h => by
    obtain ⟨j, ej⟩ := h e (.head _)
    have hr : (Op.equal kt (enc k) e.key).run P w = .ok (decide (k = j)) w := by rw [ej]; exact heq k j w
    by_cases hkj : k = j
    · subst hkj
      refine .inr ⟨0, e, ?_, rfl, ej⟩
      simp only [Instr.findAsking, Sem.run_bind, hr, Result.andThen_ok]
      simp
    · rcases findAsking_spec heq hinj k w es (i + 1) (fun x hx => h x (.tail _ hx)) with ⟨h1, h2⟩ | ⟨m, e', h1, h2, h3⟩
      · refine .inl ⟨?_, fun x hx => ?_⟩
        · simp only [Instr.findAsking, Sem.run_bind, hr, Result.andThen_ok, hkj, decide_false, Bool.false_eq_true, if_false, h1]
        · rcases List.mem_cons.1 hx with rfl | hx
          · rw [ej]
            exact fun e => hkj (hinj _ _ e).symm
          · exact h2 x hx
      · refine .inr ⟨m + 1, e', ?_, by simpa using h2, h3⟩
        simp only [Instr.findAsking, Sem.run_bind, hr, Result.andThen_ok, hkj, decide_false, Bool.false_eq_true, if_false, h1]
        rw [show i + 1 + m = i + (m + 1) by omega]

/-- Keys that are structs. -/
theorem KeyK.struct {P : Program} {kt : TypeId} {κ : Type} [DecidableEq κ] {enc : κ → Value} {fs : Array Field} (hk : P.underlying kt = some (.struct fs)) (hinj : ∀ a b, enc a = enc b → a = b)
    (hc : ∀ (em : Bool) (k : κ) (w : World), (Instr.checkKey em 10000 kt (enc k)).run P w = .ok () w) (heq : ∀ (a b : κ) (w : World), (Op.equal kt (enc a) (enc b)).run P w = .ok (decide (a = b)) w)
    (hst : ∀ (k : κ) (w : World), (Instr.keyThatStays (enc k) (enc k)).run P w = .ok (enc k) w) : KeyK P kt enc where
  inj := hinj
  check := hc
  find k w l hl := by
    cases l with
    | nil => exact .inl ⟨by simp [Instr.findKey, run_underlying hk, Instr.findNow, Result.andThen], by simp⟩
    | cons e es =>
      have hf : (Instr.findKey kt (enc k) (e :: es)).run P w = (Instr.findAsking kt (enc k) (e :: es) 0).run P w := by
        have : Instr.findNow (.struct fs) (enc k) (e :: es) 0 = none := by simp [Instr.findNow, Instr.sameNow]
        simp [Instr.findKey, run_underlying hk, this, Result.andThen]
      rw [hf]
      rcases findAsking_spec heq hinj k w (e :: es) 0 hl with h | ⟨j, e', h1, h2, h3⟩
      · exact .inl h
      · exact .inr ⟨j, e', by simpa using h1, h2, h3⟩
  stays := hst

section
variable {κ : Type} [DecidableEq κ] {enc : κ → Value}

/-- A block is a map that holds these pairs, in the order in which they came. -/
def KMap (enc : κ → Value) (w : World) (b : Nat) (l : List (κ × Value)) : Prop :=
  ∃ es clock, w.heap[b]? = some (.map es clock) ∧ (∀ x ∈ es.toList, x.born < clock) ∧ (es.toList.map (·.born)).Nodup ∧ es.toList.map (fun e => (e.key, e.val)) = l.map (fun p => (enc p.1, p.2)) ∧ (l.map (·.1)).Nodup

theorem KMap.lt {w : World} {b : Nat} {l : List (κ × Value)} (h : KMap enc w b l) : b < w.heap.size := by
  obtain ⟨es, c, hb, _⟩ := h
  exact (Array.getElem?_eq_some_iff.1 hb).1
theorem KMap.kept {w w' : World} {b : Nat} {l : List (κ × Value)} (h : KMap enc w b l) (hb : w'.heap[b]? = w.heap[b]?) : KMap enc w' b l := by
  obtain ⟨es, c, h1, h2⟩ := h
  exact ⟨es, c, hb.trans h1, h2⟩
theorem KMap.nodup {w : World} {b : Nat} {l : List (κ × Value)} (h : KMap enc w b l) : (l.map (·.1)).Nodup := by
  obtain ⟨es, c, _, _, _, _, h⟩ := h
  exact h
theorem KMap.made (w : World) : KMap enc (w.alloc (.map #[] 0)) w.heap.size ([] : List (κ × Value)) :=
  ⟨#[], 0, (MapKept.heap_alloc w _).1, by simp, by simp, rfl, by simp⟩

theorem pairs_at {es : Array MapEntry} {l : List (κ × Value)} (h : es.toList.map (fun e => (e.key, e.val)) = l.map (fun p => (enc p.1, p.2))) (j : Nat) : (es.toList[j]?).map (fun e => (e.key, e.val)) = (l[j]?).map (fun p => (enc p.1, p.2)) := by
  have := congrArg (·[j]?) h
  simpa using this
theorem pairs_key {es : Array MapEntry} {l : List (κ × Value)} (h : es.toList.map (fun e => (e.key, e.val)) = l.map (fun p => (enc p.1, p.2))) : ∀ e ∈ es.toList, ∃ p ∈ l, e.key = enc p.1 ∧ e.val = p.2 := fun e he => by
  have : (e.key, e.val) ∈ l.map (fun p => (enc p.1, p.2)) := h ▸ List.mem_map.2 ⟨e, he, rfl⟩
  obtain ⟨p, hp, e2⟩ := List.mem_map.1 this
  injection e2 with e3 e4
  exact ⟨p, hp, e3.symm, e4.symm⟩
theorem pairs_back {es : Array MapEntry} {l : List (κ × Value)} (h : es.toList.map (fun e => (e.key, e.val)) = l.map (fun p => (enc p.1, p.2))) : ∀ p ∈ l, ∃ e ∈ es.toList, e.key = enc p.1 ∧ e.val = p.2 := fun p hp => by
  have : (enc p.1, p.2) ∈ es.toList.map (fun e => (e.key, e.val)) := h ▸ List.mem_map.2 ⟨p, hp, rfl⟩
  obtain ⟨e, he, e2⟩ := List.mem_map.1 this
  injection e2 with e3 e4
  exact ⟨e, he, e3, e4⟩
theorem pairs_set {es : Array MapEntry} {l : List (κ × Value)} (h : es.toList.map (fun e => (e.key, e.val)) = l.map (fun p => (enc p.1, p.2))) {j : Nat} {e : MapEntry} (he : es.toList[j]? = some e) (f : MapEntry → MapEntry) (k : κ) (v : Value) (hf : ((f e).key, (f e).val) = (enc k, v)) :
    (es.modify j f).toList.map (fun e => (e.key, e.val)) = (l.set j (k, v)).map (fun p => (enc p.1, p.2)) := by
  rw [Array.toList_modify]
  apply List.ext_getElem?
  intro i
  have hi := pairs_at h i
  simp only [List.getElem?_map, List.getElem?_modify, List.getElem?_set] at hi ⊢
  by_cases hij : j = i
  · subst hij
    have hlt : j < l.length := by
      have h1 := (List.getElem?_eq_some_iff.1 he).1
      have h2 := congrArg List.length h
      simp only [List.length_map] at h2
      omega
    simp [he, hf, hlt]
  · simp only [if_neg hij, Option.map_map]
    simpa using hi
theorem modify_born {es : Array MapEntry} (j : Nat) (f : MapEntry → MapEntry) (hf : ∀ e, (f e).born = e.born) : (es.modify j f).toList.map (·.born) = es.toList.map (·.born) := by
  rw [Array.toList_modify]
  apply List.ext_getElem?
  intro i
  simp only [List.getElem?_map, List.getElem?_modify]
  by_cases hij : j = i
  · subst hij
    cases es.toList[j]? <;> simp [hf]
  · simp [hij]
theorem modify_bornnd {es : Array MapEntry} (h : (es.toList.map (·.born)).Nodup) (j : Nat) (f : MapEntry → MapEntry) (hf : ∀ e, (f e).born = e.born) : ((es.modify j f).toList.map (·.born)).Nodup := by
  rw [modify_born j f hf]
  exact h
theorem modify_bornlt {es : Array MapEntry} {clock : Nat} (h : ∀ x ∈ es.toList, x.born < clock) (j : Nat) (f : MapEntry → MapEntry) (hf : ∀ e, (f e).born = e.born) : ∀ x ∈ (es.modify j f).toList, x.born < clock := fun x hx => by
  have : x.born ∈ (es.modify j f).toList.map (·.born) := List.mem_map.2 ⟨x, hx, rfl⟩
  rw [modify_born j f hf] at this
  obtain ⟨y, hy, e⟩ := List.mem_map.1 this
  rw [← e]
  exact h y hy

theorem heap_setBlock {w : World} {b : Nat} (h : b < w.heap.size) (o : Obj) : (setBlock w b o).heap[b]? = some o := by simp [setBlock, h]
theorem setBlock_size (w : World) (b : Nat) (o : Obj) : (setBlock w b o).heap.size = w.heap.size := by simp [setBlock]
theorem setBlock_block (w : World) (b : Nat) (o : Obj) (k : Nat) (h : k ≠ b) : (setBlock w b o).heap[k]? = w.heap[k]? := by
  simp [setBlock, Ne.symm h]
theorem setBlock_cell (w : World) (b : Nat) (o : Obj) (p : Addr) (h : p.block ≠ b) : (setBlock w b o).cell? p = w.cell? p := World.cell?_of_block (a := p) (setBlock_block w b o p.block h)

theorem setBlock_alloc {w : World} {b : Nat} (h : b < w.heap.size) (o o' : Obj) : setBlock (w.alloc o') b o = (setBlock w b o).alloc o' := by
  have hh : (w.heap.push o').setIfInBounds b o = (w.heap.setIfInBounds b o).push o' := by
    apply Array.ext_getElem?
    intro i
    simp only [Array.getElem?_setIfInBounds, Array.getElem?_push, Array.size_push, Array.size_setIfInBounds]
    by_cases h1 : b = i
    · subst h1
      rw [if_pos rfl, if_pos (by omega), if_neg (by omega), if_pos rfl, if_pos h]
    · rw [if_neg h1, if_neg h1]
  show ({ (w.alloc o') with heap := (w.heap.push o').setIfInBounds b o } : World) = _
  rw [hh]
  rfl

/-- What stands in a map, found. -/
theorem KMap.found {P : Program} {kt : TypeId} (K : KeyK P kt enc) {es : Array MapEntry} {l : List (κ × Value)} (hp : es.toList.map (fun e => (e.key, e.val)) = l.map (fun p => (enc p.1, p.2))) (hn : (l.map (·.1)).Nodup) (k : κ) :
    ((∀ w, (Instr.findKey kt (enc k) es.toList).run P w = .ok none w) ∧ lk l k = none ∧ ∀ p ∈ l, p.1 ≠ k) ∨ ∃ j e, (∀ w, (Instr.findKey kt (enc k) es.toList).run P w = .ok (some (j, e.val)) w) ∧ es.toList[j]? = some e ∧ e.key = enc k ∧ l[j]? = some (k, e.val) ∧ lk l k = some e.val := by
  have hk : ∀ e ∈ es.toList, ∃ j, e.key = enc j := fun e he => by
    obtain ⟨p, _, h, _⟩ := pairs_key hp e he
    exact ⟨_, h⟩
  have hall := fun w => K.find k w es.toList hk
  by_cases hex : ∃ p ∈ l, p.1 = k
  · obtain ⟨p, hpl, rfl⟩ := hex
    obtain ⟨j, hj⟩ := List.getElem?_of_mem hpl
    obtain ⟨e0, he0, hk0, hv0⟩ := pairs_back hp p hpl
    have hpj : ∃ e, es.toList[j]? = some e ∧ e.key = enc p.1 ∧ e.val = p.2 := by
      have := pairs_at hp j
      rw [hj] at this
      cases he : es.toList[j]? with
      | none => rw [he] at this; cases this
      | some e =>
        rw [he] at this
        injection this with this
        injection this with a b
        exact ⟨e, rfl, a, b⟩
    obtain ⟨e, he, hke, hve⟩ := hpj
    refine .inr ⟨j, e, fun w => ?_, he, hke, by rw [hve]; exact hj, by rw [hve]; exact lk_at hn hj⟩
    rcases hall w with ⟨_, h2⟩ | ⟨i, e', h1, h2, h3⟩
    · exact absurd hke (h2 e (List.mem_of_getElem? he))
    · have hi := pairs_at hp i
      rw [h2] at hi
      cases hl : l[i]? with
      | none => rw [hl] at hi; cases hi
      | some q =>
        rw [hl] at hi
        injection hi with hi
        injection hi with a b
        have hq : q.1 = p.1 := K.inj _ _ (a.symm.trans h3)
        have hij : i = j := by
          have a1 : (l.map (·.1))[i]? = some p.1 := by rw [List.getElem?_map, hl]; simp [hq]
          have a2 : (l.map (·.1))[j]? = some p.1 := by rw [List.getElem?_map, hj]; rfl
          obtain ⟨b1, c1⟩ := List.getElem?_eq_some_iff.1 a1
          obtain ⟨b2, c2⟩ := List.getElem?_eq_some_iff.1 a2
          rcases Nat.lt_trichotomy i j with hl | hl | hl
          · exact absurd (c1.trans c2.symm) (List.pairwise_iff_getElem.1 hn i j b1 b2 hl)
          · exact hl
          · exact absurd (c2.trans c1.symm) (List.pairwise_iff_getElem.1 hn j i b2 b1 hl)
        subst hij
        rw [he] at h2
        injection h2 with h2
        subst h2
        exact h1
  · have hne : ∀ p ∈ l, p.1 ≠ k := fun p hpl e => hex ⟨p, hpl, e⟩
    refine .inl ⟨fun w => ?_, lk_none hne, hne⟩
    rcases hall w with ⟨h1, _⟩ | ⟨i, e', _, h2, h3⟩
    · exact h1
    · obtain ⟨p, hpl, hk', _⟩ := pairs_key hp e' (List.mem_of_getElem? h2)
      exact absurd (K.inj _ _ (hk'.symm.trans h3)) (hne p hpl)

section
variable {P : Program} {t kt et : TypeId} {w : World} {b : Nat} {l : List (κ × Value)}

theorem KMap.look (h : KMap enc w b l) (K : KeyK P kt enc) (ht : P.underlying t = some (.map kt et)) {z : Value} (hz : ∀ w : World, (zeroValue et).run P w = .ok z w) (k : κ) (ok : Bool) :
    (Instr.lookup t (.map (some b)) (enc k) ok).run P w = .ok (if ok then .tuple #[(lk l k).getD z, .bool (lk l k).isSome] else (lk l k).getD z) w := by
  obtain ⟨es, c, hb, _, _, hp, hn⟩ := h
  rcases KMap.found K hp hn k with ⟨h1, h2, _⟩ | ⟨j, e, h1, _, _, _, h4⟩
  · simp [Instr.lookup, run_underlying ht, MapKept.run_getObj_map hb, K.check, h1, Result.andThen, hz, h2]
  · simp [Instr.lookup, run_underlying ht, MapKept.run_getObj_map hb, K.check, h1, Result.andThen, h4]
theorem look_nil (K : KeyK P kt enc) (ht : P.underlying t = some (.map kt et)) {z : Value} (hz : ∀ w : World, (zeroValue et).run P w = .ok z w) (k : κ) (ok : Bool) (w : World) :
    (Instr.lookup t (.map none) (enc k) ok).run P w = .ok (if ok then .tuple #[z, .bool false] else z) w := by
  have hf := K.find k w [] (by simp)
  have hf' : (Instr.findKey kt (enc k) []).run P w = .ok none w := by
    rcases hf with ⟨h, _⟩ | ⟨j, e, _, h, _⟩
    · exact h
    · simp at h
  simp [Instr.lookup, run_underlying ht, K.check, hf', Result.andThen, hz]

theorem KMap.update (h : KMap enc w b l) (K : KeyK P kt enc) (ht : P.underlying t = some (.map kt et)) (k : κ) (v : Value) :
    ∃ o, (Instr.mapUpdate t (.map (some b)) (enc k) v).run P w = .ok () (setBlock w b o) ∧ KMap enc (setBlock w b o) b (up l k v) := by
  have hlt := h.lt
  obtain ⟨es, c, hb, hbo, hnb, hp, hn⟩ := h
  rcases KMap.found K hp hn k with ⟨h1, _, h3⟩ | ⟨j, e, h1, h2, h3, h4, _⟩
  · refine ⟨.map (es.push { key := enc k, val := v, born := c }) (c + 1), ?_, _, _, heap_setBlock hlt _, ?_, ?_, ?_, up_nodup hn k v⟩
    · simp [Instr.mapUpdate, run_underlying ht, MapKept.run_getObj_map hb, K.check, h1, MapKept.run_setObj_map _ hb, Result.andThen, setBlock]
    · intro x hx
      simp only [Array.toList_push, List.mem_append, List.mem_singleton] at hx
      rcases hx with hx | rfl
      · exact Nat.lt_succ_of_lt (hbo x hx)
      · exact Nat.lt_succ_self _
    · simp only [Array.toList_push, List.map_append, List.map_cons, List.map_nil]
      rw [List.nodup_append]
      refine ⟨hnb, by simp, fun a ha b hb => ?_⟩
      simp only [List.mem_singleton] at hb
      subst hb
      obtain ⟨x, hx, rfl⟩ := List.mem_map.1 ha
      exact Nat.ne_of_lt (hbo x hx)
    · rw [up_new h3]
      simp [hp]
  · have hj : es[j]? = some e := by simpa using h2
    have hq := K.stays k w
    refine ⟨.map (es.modify j fun e => { e with key := enc k, val := v }) c, ?_, _, _, heap_setBlock hlt _, modify_bornlt hbo _ _ (fun _ => rfl), modify_bornnd hnb _ _ (fun _ => rfl), ?_, up_nodup hn k v⟩
    · simp [Instr.mapUpdate, run_underlying ht, MapKept.run_getObj_map hb, K.check, h1, MapKept.run_setObj_map _ hb, Result.andThen, setBlock, hj, h3, hq]
    · rw [up_at hn h4]
      exact pairs_set hp h2 _ k v rfl

theorem KMap.delete (h : KMap enc w b l) (K : KeyK P kt enc) (ht : P.underlying t = some (.map kt et)) (k : κ) (u ty : TypeId) :
    ∃ o, (Builtin.delete_ #[t, u] ty #[.map (some b), enc k]).run P w = .ok (.tuple #[]) (setBlock w b o) ∧ KMap enc (setBlock w b o) b (dl l k) := by
  have hlt := h.lt
  obtain ⟨es, c, hb, hbo, hnb, hp, hn⟩ := h
  rcases KMap.found K hp hn k with ⟨h1, _, h3⟩ | ⟨j, e, h1, h2, h3, h4, _⟩
  · refine ⟨.map es c, ?_, es, c, heap_setBlock hlt _, hbo, hnb, by rw [dl_new h3]; exact hp, dl_nodup hn k⟩
    simp [Builtin.delete_, run_underlying ht, MapKept.run_getObj_map hb, K.check, h1, MapKept.run_setObj_map _ hb, Result.andThen, setBlock]
  · have hjl : j < es.size := by
      have := (List.getElem?_eq_some_iff.1 h2).1
      simpa using this
    have hes : (es.eraseIdxIfInBounds j).toList = es.toList.eraseIdx j := by
      unfold Array.eraseIdxIfInBounds
      rw [dif_pos hjl, Array.toList_eraseIdx]
    refine ⟨.map (es.eraseIdxIfInBounds j) c, ?_, _, _, heap_setBlock hlt _, ?_, ?_, ?_, dl_nodup hn k⟩
    · simp [Builtin.delete_, run_underlying ht, MapKept.run_getObj_map hb, K.check, h1, MapKept.run_setObj_map _ hb, Result.andThen, setBlock]
    · rw [hes]
      exact fun x hx => hbo x ((List.eraseIdx_sublist _ _).subset hx)
    · rw [hes]
      exact ((List.eraseIdx_sublist _ _).map _).nodup hnb
    · rw [hes, dl_at hn h4, ChangeMaps.map_eraseIdx, ChangeMaps.map_eraseIdx, hp]

/-- 'm[k] = f(m[k])': the entry, and whatever is stored into it later. -/
theorem KMap.entry (h : KMap enc w b l) (K : KeyK P kt enc) (ht : P.underlying t = some (.map kt et)) {z : Value} (hz : ∀ w : World, (zeroValue et).run P w = .ok z w) (k : κ) :
    ∃ (st : Nat) (o : Obj), (∀ w' : World, w'.heap[b]? = w.heap[b]? → (Instr.mapEntry t (.map (some b)) (enc k)).run P w' = .ok (.tuple #[(lk l k).getD z, .int .i64 st]) (setBlock w' b o)) ∧
      ∀ w' : World, w'.heap[b]? = some o → ∀ v : Value, ∃ o', (Instr.entryStore t (.map (some b)) (.int .i64 st) v).run P w' = .ok () (setBlock w' b o') ∧ KMap enc (setBlock w' b o') b (up l k v) := by
  have hlt := h.lt
  obtain ⟨es, c, hb, hbo, hnb, hp, hn⟩ := h
  have hst : ∀ (es1 : Array MapEntry) (c1 st i : Nat) (w' : World), w'.heap[b]? = some (.map es1 c1) → es1.findIdx? (fun e => ((e.born : Nat) : Int) == ((st : Nat) : Int)) = some i → ∀ v, (Instr.entryStore t (.map (some b)) (.int .i64 st) v).run P w' = .ok () (setBlock w' b (.map (es1.modify i fun e => { e with val := v }) c1)) := by
    intro es1 c1 st i w' hb1 hidx v
    simp [Instr.entryStore, MapKept.run_getObj_map hb1, asInt, asIntOf, hidx, MapKept.run_setObj_map _ hb1, Result.andThen, setBlock]
  have hidx : ∀ (es1 : Array MapEntry) (i : Nat) (e : MapEntry), (es1.toList.map (·.born)).Nodup → es1.toList[i]? = some e → es1.findIdx? (fun x => ((x.born : Nat) : Int) == ((e.born : Nat) : Int)) = some i := by
    intro es1 i e hn1 hi
    have hlt1 : i < es1.size := by
      have := (List.getElem?_eq_some_iff.1 hi).1
      simpa using this
    rw [Array.findIdx?_eq_some_iff_getElem]
    have hie : es1[i] = e := by
      have := (List.getElem?_eq_some_iff.1 hi).2
      simpa using this
    refine ⟨hlt1, by rw [hie]; simp, fun m hm => ?_⟩
    have hml : m < es1.size := by omega
    have hne := List.pairwise_iff_getElem.1 hn1 m i (by simpa using hml) (by simpa using hlt1) hm
    simp only [List.getElem_map, Array.getElem_toList] at hne
    rw [hie] at hne
    simp only [beq_iff_eq]
    omega
  rcases KMap.found K hp hn k with ⟨h1, h2, h3⟩ | ⟨j, e, h1, h2, h3, h4, h5⟩
  · refine ⟨c, .map (es.push { key := enc k, val := z, born := c }) (c + 1), fun w' hw' => ?_, fun w' hw' v => ?_⟩
    · rw [hb] at hw'
      simp [Instr.mapEntry, run_underlying ht, MapKept.run_getObj_map hw', K.check, h1, h2, hz, MapKept.run_setObj_map _ hw', Result.andThen, setBlock, goInt]
    · have hnb' : ((es.push { key := enc k, val := z, born := c }).toList.map (·.born)).Nodup := by
        simp only [Array.toList_push, List.map_append, List.map_cons, List.map_nil]
        rw [List.nodup_append]
        refine ⟨hnb, by simp, fun a ha b hb => ?_⟩
        simp only [List.mem_singleton] at hb
        subst hb
        obtain ⟨x, hx, rfl⟩ := List.mem_map.1 ha
        exact Nat.ne_of_lt (hbo x hx)
      have hbo' : ∀ x ∈ (es.push { key := enc k, val := z, born := c }).toList, x.born < c + 1 := by
        intro x hx
        simp only [Array.toList_push, List.mem_append, List.mem_singleton] at hx
        rcases hx with hx | rfl
        · exact Nat.lt_succ_of_lt (hbo x hx)
        · exact Nat.lt_succ_self _
      have hp' : (es.push { key := enc k, val := z, born := c }).toList.map (fun e => (e.key, e.val)) = (l ++ [(k, z)]).map (fun p => (enc p.1, p.2)) := by simp [hp]
      have hlen : es.toList.length = l.length := by
        have := congrArg List.length hp
        simpa using this
      have hat : (es.push { key := enc k, val := z, born := c }).toList[es.size]? = some { key := enc k, val := z, born := c } := by simp
      have hlw : b < w'.heap.size := (Array.getElem?_eq_some_iff.1 hw').1
      refine ⟨_, hst _ _ c es.size w' hw' (hidx _ es.size _ hnb' hat) v, _, _, heap_setBlock hlw _, modify_bornlt hbo' _ _ (fun _ => rfl), modify_bornnd hnb' _ _ (fun _ => rfl), ?_, up_nodup hn k v⟩
      have := pairs_set hp' hat (fun e => { e with val := v }) k v rfl
      rw [this, up_new h3]
      have : es.size = l.length := by simpa using hlen
      rw [this]
      simp
  · have hj : es[j]? = some e := by simpa using h2
    have hq := K.stays k w
    have hjl : j < es.size := by
      have := (List.getElem?_eq_some_iff.1 h2).1
      simpa using this
    have hsame : es.modify j (fun e => { e with key := enc k }) = es := by
      apply Array.toList_inj.1
      rw [Array.toList_modify]
      apply List.ext_getElem?
      intro i
      rw [List.getElem?_modify]
      by_cases hij : j = i
      · subst hij
        rw [h2]
        simp [← h3]
      · simp [hij]
    refine ⟨e.born, .map es c, fun w' hw' => ?_, fun w' hw' v => ?_⟩
    · have hq := K.stays k w'
      rw [hb] at hw'
      simp [Instr.mapEntry, run_underlying ht, MapKept.run_getObj_map hw', K.check, h1, h5, MapKept.run_setObj_map _ hw', Result.andThen, setBlock, hj, h3, hq, goInt]
      exact congrArg (fun a => w'.heap.setIfInBounds b (Obj.map a c)) hsame
    · have hlw : b < w'.heap.size := (Array.getElem?_eq_some_iff.1 hw').1
      refine ⟨_, hst _ _ e.born j w' hw' (hidx es j e hnb h2) v, _, _, heap_setBlock hlw _, modify_bornlt hbo _ _ (fun _ => rfl), modify_bornnd hnb _ _ (fun _ => rfl), ?_, up_nodup hn k v⟩
      rw [up_at hn h4]
      exact pairs_set hp h2 _ k v (by rw [← h3])

/-! ### A range -/

/-- Block r is a range over the map in block b; these pairs are still to come. -/
def RngK (enc : κ → Value) (w : World) (b r : Nat) (l todo : List (κ × Value)) : Prop :=
  r ≠ b ∧ todo.Sublist l ∧ ∃ es clock since seen c0, w.heap[b]? = some (.map es clock) ∧ w.heap[r]? = some (.mapIter (some b) since seen c0) ∧ (∀ x ∈ es.toList, x.born < since) ∧ since ≤ c0 ∧ since ≤ clock ∧ (es.toList.map (·.born)).Nodup ∧
    es.toList.map (fun e => (e.key, e.val)) = l.map (fun p => (enc p.1, p.2)) ∧ (l.map (·.1)).Nodup ∧ (leftOf es seen).toList.map (fun e => (e.key, e.val)) = todo.map (fun p => (enc p.1, p.2))

theorem RngK.kept {w' : World} {r : Nat} {todo : List (κ × Value)} (h : RngK enc w b r l todo) (hb : w'.heap[b]? = w.heap[b]?) (hr : w'.heap[r]? = w.heap[r]?) : RngK enc w' b r l todo := by
  obtain ⟨h1, h2, es, cl, si, se, c0, h3, h4, h5⟩ := h
  exact ⟨h1, h2, es, cl, si, se, c0, hb.trans h3, hr.trans h4, h5⟩
theorem RngK.map {r : Nat} {todo : List (κ × Value)} (h : RngK enc w b r l todo) : KMap enc w b l := by
  obtain ⟨h1, h2, es, cl, si, se, c0, h3, h4, h5, h6, h7, h8, h9, h10, _⟩ := h
  exact ⟨es, cl, h3, fun x hx => Nat.lt_of_lt_of_le (h5 x hx) h7, h8, h9, h10⟩
theorem RngK.sub {r : Nat} {todo : List (κ × Value)} (h : RngK enc w b r l todo) : todo.Sublist l := h.2.1
theorem RngK.rlt {r : Nat} {todo : List (κ × Value)} (h : RngK enc w b r l todo) : r < w.heap.size := by
  obtain ⟨h1, h2, es, cl, si, se, c0, h3, h4, h5⟩ := h
  exact (Array.getElem?_eq_some_iff.1 h4).1

theorem KMap.range (h : KMap enc w b l) (ht : P.underlying t = some (.map kt et)) :
    ∃ o, (Instr.range t (.map (some b))).run P w = .ok (.pointer (some ⟨w.heap.size, 0, none⟩)) (w.alloc o) ∧ RngK enc (w.alloc o) b w.heap.size l l := by
  have hlt := h.lt
  obtain ⟨es, c, hb, hbo, hnb, hp, hn⟩ := h
  refine ⟨.mapIter (some b) c #[] c, ?_, by omega, List.Sublist.refl _, es, c, c, #[], c, ?_, heap_alloc_new w _, hbo, Nat.le_refl _, Nat.le_refl _, hnb, hp, hn, ?_⟩
  · exact run_range_map w t kt et b es c ht hb
  · rw [heap_alloc_old w _ hlt]
    exact hb
  · rw [← hp]
    congr 1
    unfold leftOf
    simp

theorem RngK.next {r : Nat} {todo : List (κ × Value)} (h : RngK enc w b r l todo) (K : KeyK P kt enc) (ty : TypeId) :
    (todo = [] ∧ (Instr.next (.pointer (some ⟨r, 0, none⟩)) false ty).run P w = .ok (.tuple #[.bool false]) w) ∨
    ∃ (k : κ) (v : Value) (w1 : World) (o : Obj) (pre post : List (κ × Value)), todo = pre ++ (k, v) :: post ∧ (w1 = w ∨ w1 = w.drew) ∧ (Instr.next (.pointer (some ⟨r, 0, none⟩)) false ty).run P w = .ok (.tuple #[.bool true, enc k, v]) (setBlock w1 r o) ∧
      RngK enc (setBlock w1 r o) b r l (pre ++ post) ∧ ∀ w' : World, w'.heap[b]? = w.heap[b]? → w'.heap[r]? = some o → (Instr.entry (.pointer (some ⟨r, 0, none⟩))).run P w' = .ok (.tuple #[enc k, v]) w' := by
  obtain ⟨h1, h2, es, cl, si, se, c0, h3, h4, h5, h6, h7, h8, h9, h10, h11⟩ := h
  rcases run_next_at w ty r b si c0 se es cl h4 h3 h5 h6 with ⟨hz, hrun⟩ | ⟨e, he, w1, hw1, hrun⟩
  · left
    refine ⟨?_, hrun⟩
    have : (leftOf es se).toList = [] := List.eq_nil_of_length_eq_zero (by simpa using hz)
    rw [this] at h11
    exact List.map_eq_nil_iff.1 h11.symm
  · right
    obtain ⟨j, hj⟩ := List.getElem?_of_mem he
    have hpj := congrArg (·[j]?) h11
    simp only [List.getElem?_map, hj, Option.map_some] at hpj
    cases ht : todo[j]? with
    | none => rw [ht] at hpj; cases hpj
    | some p =>
      rw [ht] at hpj
      simp only [Option.map_some, Option.some.injEq, Prod.mk.injEq] at hpj
      obtain ⟨hk, hv⟩ := hpj
      have hes : e ∈ es.toList := by
        have : e ∈ (Array.filter (fun e => !se.contains e.born) es).toList := he
        simp at this ⊢
        exact this.1
      have hsplit : todo = todo.take j ++ p :: todo.drop (j + 1) := by
        obtain ⟨hjl, hje⟩ := List.getElem?_eq_some_iff.1 ht
        rw [← hje, List.getElem_cons_drop, List.take_append_drop]
      have hw1b : w1.heap = w.heap := by rcases hw1 with rfl | rfl <;> rfl
      have hrlt : r < w1.heap.size := by rw [hw1b]; exact (Array.getElem?_eq_some_iff.1 h4).1
      refine ⟨p.1, p.2, w1, _, todo.take j, todo.drop (j + 1), hsplit, hw1, by rw [← hk, ← hv]; exact hrun, ⟨h1, ?_, es, cl, si, se.push e.born, cl, ?_, heap_setBlock hrlt _, h5, h7, h7, h8, h9, h10, ?_⟩, fun w' hb' hr' => ?_⟩
      · refine List.Sublist.trans ?_ h2
        conv => rhs; rw [hsplit]
        exact List.Sublist.append (List.Sublist.refl _) (List.sublist_cons_self _ _)
      · rw [setBlock_block _ _ _ _ (Ne.symm h1), hw1b]
        exact h3
      · have hleft : (leftOf es (se.push e.born)).toList = (leftOf es se).toList.eraseIdx j := by
          have hnl : ((leftOf es se).toList.map (·.born)).Nodup := by
            unfold leftOf
            rw [Array.toList_filter]
            exact (List.filter_sublist.map _).nodup h8
          have e1 : (leftOf es (se.push e.born)).toList = (leftOf es se).toList.filter (fun x => decide (x.born ≠ e.born)) := by
            unfold leftOf
            rw [Array.toList_filter, Array.toList_filter, List.filter_filter]
            apply List.filter_congr
            intro x _
            rw [Bool.eq_iff_iff]
            simp
            exact ⟨fun h => ⟨h.2, h.1⟩, fun h => ⟨h.2, h.1⟩⟩
          rw [e1]
          generalize (leftOf es se).toList = L at hj hnl
          clear e1 he hrun ht hsplit h11 hes
          induction L generalizing j with
          | nil => simp at hj
          | cons x r ih =>
            have hn' : x.born ∉ r.map (·.born) ∧ (r.map (·.born)).Nodup := List.nodup_cons.1 hnl
            rw [List.filter_cons]
            cases j with
            | zero =>
              simp only [List.getElem?_cons_zero, Option.some.injEq] at hj
              subst hj
              rw [if_neg (by simp), List.eraseIdx_cons_zero, List.filter_eq_self.2]
              intro q hq
              simp only [ne_eq, decide_eq_true_eq]
              intro e2
              exact hn'.1 (e2 ▸ List.mem_map.2 ⟨q, hq, rfl⟩)
            | succ j =>
              simp only [List.getElem?_cons_succ] at hj
              have hne : x.born ≠ e.born := fun e2 => hn'.1 (e2 ▸ List.mem_map.2 ⟨e, List.mem_of_getElem? hj, rfl⟩)
              rw [if_pos (by simp [hne]), List.eraseIdx_cons_succ, ih _ hj hn'.2]
        rw [hleft, ChangeMaps.map_eraseIdx, h11, ← ChangeMaps.map_eraseIdx]
        congr 1
        exact List.eraseIdx_eq_take_drop_succ todo j
      · rw [← hk, ← hv]
        exact run_entry_at w' r b si se es cl e (by rw [hr']) (by rw [hb']; exact h3) hes h8
end
end

end Go.Proofs.Ytdnjoohicbdmiaa
