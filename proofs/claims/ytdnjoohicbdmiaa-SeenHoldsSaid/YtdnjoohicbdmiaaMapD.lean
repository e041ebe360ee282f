/- Maps as lists of pairs: deleted from while they are gone over. -/
import Derived.Test.YtdnjoohicbdmiaaMapW
import Derived.Test.YtdnjoohicbdmiaaButS
namespace Go.Proofs.Ytdnjoohicbdmiaa
open Go Go.RowKit Go.Shelf
open Go.ChangeMaps (setBlock)
set_option linter.unusedSimpArgs false
set_option linter.unusedVariables false
set_option linter.unusedSectionVars false

section
variable {κ : Type} [DecidableEq κ] {enc : κ → Value} {P : Program} {t kt et : TypeId} {w : World} {b : Nat} {l : List (κ × Value)}

theorem pairs_filter {es : List MapEntry} {l : List (κ × Value)} (hinj : ∀ a b, enc a = enc b → a = b) (k : κ) (h : es.map (fun e => (e.key, e.val)) = l.map (fun p => (enc p.1, p.2))) [DecidablePred fun e : MapEntry => e.key ≠ enc k] :
    (es.filter fun e => decide (e.key ≠ enc k)).map (fun e => (e.key, e.val)) = (dl l k).map (fun p => (enc p.1, p.2)) := by
  induction es generalizing l with
  | nil =>
    cases l with
    | nil => rfl
    | cons p r => simp at h
  | cons e r ih =>
    cases l with
    | nil => simp at h
    | cons p s =>
      simp only [List.map_cons, List.cons.injEq, Prod.mk.injEq] at h
      obtain ⟨⟨h1, h2⟩, h3⟩ := h
      have := ih h3
      unfold dl at this ⊢
      rw [List.filter_cons, List.filter_cons]
      by_cases hk : p.1 = k
      · have he : e.key = enc k := by rw [h1, hk]
        rw [if_neg (by simp [he]), if_neg (by simp [hk])]
        exact this
      · have he : e.key ≠ enc k := fun e1 => hk (hinj _ _ (h1.symm.trans e1))
        rw [if_pos (by simp [he]), if_pos (by simp [hk]), List.map_cons, List.map_cons, this, h1, h2]

theorem erase_filter {es : List MapEntry} {l : List (κ × Value)} (hinj : ∀ a b, enc a = enc b → a = b) {k : κ} (h : es.map (fun e => (e.key, e.val)) = l.map (fun p => (enc p.1, p.2))) (hn : (l.map (·.1)).Nodup) {j : Nat} {e : MapEntry} (hj : es[j]? = some e) (he : e.key = enc k) [DecidablePred fun e : MapEntry => e.key ≠ enc k] :
    es.eraseIdx j = es.filter fun e => decide (e.key ≠ enc k) := by
  induction es generalizing l j with
  | nil => simp at hj
  | cons x r ih =>
    cases l with
    | nil => simp at h
    | cons p s =>
      simp only [List.map_cons, List.cons.injEq, Prod.mk.injEq] at h
      obtain ⟨⟨h1, h2⟩, h3⟩ := h
      obtain ⟨n1, n2⟩ := List.nodup_cons.1 (by simpa using hn : (p.1 :: s.map (·.1)).Nodup)
      cases j with
      | zero =>
        simp only [List.getElem?_cons_zero, Option.some.injEq] at hj
        subst hj
        rw [List.eraseIdx_cons_zero, List.filter_cons, if_neg (by simp [he])]
        refine (List.filter_eq_self.2 fun y hy => ?_).symm
        obtain ⟨i, hi⟩ := List.getElem?_of_mem hy
        have hpi := congrArg (·[i]?) h3
        simp only [List.getElem?_map, hi, Option.map_some] at hpi
        cases hq : s[i]? with
        | none => rw [hq] at hpi; cases hpi
        | some q =>
          rw [hq] at hpi
          simp only [Option.map_some, Option.some.injEq, Prod.mk.injEq] at hpi
          have hk : p.1 = k := hinj _ _ (h1.symm.trans he)
          have hne : q.1 ≠ k := fun e1 => n1 (List.mem_map.2 ⟨q, List.mem_of_getElem? hq, e1.trans hk.symm⟩)
          exact decide_eq_true fun e1 => hne (hinj _ _ (hpi.1.symm.trans e1))
      | succ j =>
        rw [List.getElem?_cons_succ] at hj
        have hxk : x.key ≠ enc k := fun e1 => by
          have hpi := congrArg (·[j]?) h3
          simp only [List.getElem?_map, hj, Option.map_some] at hpi
          cases hq : s[j]? with
          | none => rw [hq] at hpi; cases hpi
          | some q =>
            rw [hq] at hpi
            simp only [Option.map_some, Option.some.injEq, Prod.mk.injEq] at hpi
            have e2 : p.1 = k := hinj _ _ (h1.symm.trans e1)
            have e3 : q.1 = k := hinj _ _ (hpi.1.symm.trans he)
            exact n1 (List.mem_map.2 ⟨q, List.mem_of_getElem? hq, e3.trans e2.symm⟩)
        rw [List.eraseIdx_cons_succ, List.filter_cons, if_pos (by simp [hxk]), ih h3 n2 hj]

theorem RngK.delete {r : Nat} {todo : List (κ × Value)} (h : RngK enc w b r l todo) (K : KeyK P kt enc) (hinj : ∀ a b, enc a = enc b → a = b) (ht : P.underlying t = some (.map kt et)) (k : κ) (u ty : TypeId) :
    ∃ o, (Builtin.delete_ #[t, u] ty #[.map (some b), enc k]).run P w = .ok (.tuple #[]) (setBlock w b o) ∧ RngK enc (setBlock w b o) b r (dl l k) (dl todo k) := by
  classical
  obtain ⟨h1, hsub, es, cl, si, se, c0, hb, hr, hbo, h6, h7, hnb, hp, hn, hl⟩ := h
  have hlt : b < w.heap.size := (Array.getElem?_eq_some_iff.1 hb).1
  have hsub' : (dl todo k).Sublist (dl l k) := hsub.filter _
  rcases KMap.found K hp hn k with ⟨e1, _, h3⟩ | ⟨j, e, e1, h2, h3, h4, _⟩
  · refine ⟨.map es cl, ?_, h1, hsub', es, cl, si, se, c0, heap_setBlock hlt _, (setBlock_block _ _ _ _ h1).trans hr, hbo, h6, h7, hnb, by rw [dl_new h3]; exact hp, dl_nodup hn k, by rw [dl_new fun p hp' => h3 p (hsub.subset hp')]; exact hl⟩
    simp [Builtin.delete_, run_underlying ht, MapKept.run_getObj_map hb, K.check, e1, MapKept.run_setObj_map _ hb, Result.andThen, setBlock]
  · have hjl : j < es.size := by
      have := (List.getElem?_eq_some_iff.1 h2).1
      simpa using this
    have hes : (es.eraseIdxIfInBounds j).toList = es.toList.eraseIdx j := by
      unfold Array.eraseIdxIfInBounds
      rw [dif_pos hjl, Array.toList_eraseIdx]
    have hfl : es.toList.eraseIdx j = es.toList.filter fun e => decide (e.key ≠ enc k) := erase_filter hinj hp hn h2 h3
    refine ⟨.map (es.eraseIdxIfInBounds j) cl, ?_, h1, hsub', _, cl, si, se, c0, heap_setBlock hlt _, (setBlock_block _ _ _ _ h1).trans hr, ?_, h6, h7, ?_, ?_, dl_nodup hn k, ?_⟩
    · simp [Builtin.delete_, run_underlying ht, MapKept.run_getObj_map hb, K.check, e1, MapKept.run_setObj_map _ hb, Result.andThen, setBlock]
    · rw [hes]
      exact fun x hx => hbo x ((List.eraseIdx_sublist _ _).subset hx)
    · rw [hes]
      exact ((List.eraseIdx_sublist _ _).map _).nodup hnb
    · rw [hes, hfl]
      exact pairs_filter hinj k hp
    · unfold leftOf at hl ⊢
      rw [Array.toList_filter] at hl ⊢
      rw [hes, hfl, List.filter_filter]
      rw [← pairs_filter hinj k hl, List.filter_filter]
      congr 2
      funext x
      exact Bool.and_comm _ _

end
/-- What turns where the blocks of S may be written. -/
theorem ButS.setBlock {B : Nat} {S : Nat → Prop} {w0 w : World} (h : ButS B S w0 w) {b : Nat} (hb : S b ∨ B ≤ b) (o : Obj) : ButS B S w0 (setBlock w b o) := by
  refine ⟨h.os, h.tape, h.output, by rw [setBlock_size]; exact h.size, fun k hk hn => ?_⟩
  have hne : k ≠ b := by
    rintro rfl
    rcases hb with hb | hb
    · exact hn hb
    · omega
  rw [setBlock_block _ _ _ _ hne]
  exact h.block k hk hn
theorem ButS.grown {B : Nat} {S : Nat → Prop} {w0 w w' : World} {row : Option Nat} (h : ButS B S w0 w) (hB : B ≤ w.heap.size) (hg : w.grownBy w' row) (hr : ∀ r, row = some r → S r ∨ B ≤ r) : ButS B S w0 w' := by
  refine ⟨hg.os.trans h.os, hg.tape.trans h.tape, hg.output.trans h.output, Nat.le_trans h.size hg.size, fun k hk hn => ?_⟩
  refine (hg.block k (Nat.lt_of_lt_of_le hk hB) fun e => ?_).trans (h.block k hk hn)
  rcases hr k e.symm with h | h
  · exact hn h
  · omega


theorem keys_perm {κ : Type} [DecidableEq κ] {l m : List (κ × Value)} (hl : (l.map (·.1)).Nodup) (hm : (m.map (·.1)).Nodup) (h : ∀ k, lk l k = none ↔ lk m k = none) : l.length = m.length := by
  have hk : ∀ {l : List (κ × Value)} (_ : (l.map (·.1)).Nodup) (k : κ), k ∈ l.map (·.1) ↔ lk l k ≠ none := fun {l} hl k => by
    constructor
    · intro hk he
      obtain ⟨p, hp, rfl⟩ := List.mem_map.1 hk
      exact lk_eq_none he hl p hp rfl
    · intro hne
      cases hv : lk l k with
      | none => exact absurd hv hne
      | some v => exact List.mem_map.2 ⟨_, lk_mem hv, rfl⟩
  have := ((List.perm_ext_iff_of_nodup hl hm).2 fun k => by rw [hk hl, hk hm, ne_eq, ne_eq, h k]).length_eq
  simpa using this
theorem mem_back {α : Type} [DecidableEq α] : ∀ {A B : List α}, A.Nodup → (∀ a ∈ A, a ∈ B) → B.length ≤ A.length → ∀ b ∈ B, b ∈ A
  | [], B, _, _, hl, b, hb => by
    have : B = [] := List.length_eq_zero_iff.1 (Nat.le_zero.1 hl)
    rw [this] at hb
    cases hb
  | a :: A, B, hn, hs, hl, b, hb => by
    obtain ⟨ha, hn⟩ := List.nodup_cons.1 hn
    have haB : a ∈ B := hs a List.mem_cons_self
    by_cases hab : b = a
    · rw [hab]; exact List.mem_cons_self
    · refine List.mem_cons_of_mem _ (mem_back hn (B := B.erase a) (fun x hx => ?_) ?_ b ((List.mem_erase_of_ne hab).2 hb))
      · exact (List.mem_erase_of_ne (fun (e : x = a) => ha (e ▸ hx))).2 (hs x (List.mem_cons_of_mem _ hx))
      · rw [List.length_erase_of_mem haB]
        simp only [List.length_cons] at hl
        omega
theorem keys_sub {κ : Type} [DecidableEq κ] {l m : List (κ × Value)} (hl : (l.map (·.1)).Nodup) (hm : (m.map (·.1)).Nodup) (hlen : l.length = m.length) (h : ∀ k, lk l k ≠ none → lk m k ≠ none) (k : κ) (hk : lk l k = none) : lk m k = none := by
  have hk' : ∀ {l : List (κ × Value)} (_ : (l.map (·.1)).Nodup) (k : κ), k ∈ l.map (·.1) ↔ lk l k ≠ none := fun {l} hl k => by
    constructor
    · intro hk he
      obtain ⟨p, hp, rfl⟩ := List.mem_map.1 hk
      exact lk_eq_none he hl p hp rfl
    · intro hne
      cases hv : lk l k with
      | none => exact absurd hv hne
      | some v => exact List.mem_map.2 ⟨_, lk_mem hv, rfl⟩
  have hs := mem_back hl (fun k hkm => (hk' hm k).2 (h k ((hk' hl k).1 hkm))) (by simp [hlen])
  cases hv : lk m k with
  | none => rfl
  | some v =>
    have h1 : k ∈ m.map (·.1) := (hk' hm k).2 (by rw [hv]; simp)
    exact absurd hk ((hk' hl k).1 (hs k h1))


end Go.Proofs.Ytdnjoohicbdmiaa
