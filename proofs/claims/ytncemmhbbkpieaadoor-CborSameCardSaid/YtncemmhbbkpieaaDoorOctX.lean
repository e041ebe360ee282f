/- What the writes into the pieces need: stores into the block, into the row; an append behind a piece. -/
import Derived.Test.YtncemmhbbkpieaaDoorOctW
import Derived.ArgAppend
namespace Go.Proofs.YtncemmhbbkpieaaDoor
open Go.RowKit Go.Shelf

theorem OwnV.later {w w' : World} {base : Nat} {e : TypeId} {v : Value} {xs : List Value} (h : OwnV w base e v xs) (hb : Below w.heap.size w w') : OwnV w' base e v xs := by
  obtain ⟨h1, h2⟩ := h
  rcases h2 with h2 | ⟨g, cap, cur, hv, hg0, hg, r⟩
  · exact ⟨h1, .inl h2⟩
  · exact ⟨h1, .inr ⟨g, cap, cur, hv, hg0, (hb.block g (Array.getElem?_eq_some_iff.1 hg).1).trans hg, r⟩⟩

/-- A store into a row that is owned. -/
theorem OwnV.put {w : World} {base G N C i : Nat} {e : TypeId} {xs : List Value} (h : OwnV w base e (.slice (some ⟨G, 0, none⟩) N C) xs) (u : Value) : OwnV (w.setCell ⟨G, i, none⟩ u) base e (.slice (some ⟨G, 0, none⟩) N C) (xs.set i u) := by
  unfold OwnV
  rw [List.length_set]
  rcases h.2 with ⟨hv, _⟩ | ⟨g, cap, cur, hv, hb, hg, hn, hm, hs, ht⟩
  · cases hv
  · injection hv with e1 e2 e3
    simp only [Option.some.injEq, Addr.mk.injEq] at e1
    obtain ⟨rfl, _⟩ := e1
    subst e2 e3
    refine ⟨by simp, .inr ⟨G, C, cur.setIfInBounds i u, rfl, hb, ?_, hn, hm, by simpa using hs, ?_⟩⟩
    · obtain ⟨hlt, hk⟩ := Array.getElem?_eq_some_iff.1 hg
      show (w.heap.modify G _)[G]? = _
      rw [Array.getElem?_eq_getElem (by rw [Array.size_modify]; exact hlt), Array.getElem_modify_self, hk]
      rfl
    · rw [Array.toList_setIfInBounds, List.take_set, ht]

theorem CloneB.later {w w' : World} {g cap L : Nat} (h : CloneB w g cap L) (hb : Below w.heap.size w w') : CloneB w' g cap L := by
  by_cases hg : g < w.heap.size
  · exact h.same (hb.block g hg)
  · refine ⟨fun j hj => ?_, fun j hj => ?_⟩
    · obtain ⟨u, hu⟩ := Option.isSome_iff_exists.1 (h.1 j hj).1
      exact absurd (World.block_lt_of_cell? w _ hu) hg
    · obtain ⟨x, _, _, hu⟩ := h.2 j hj
      exact absurd (World.block_lt_of_cell? w _ hu) hg

/-- A byte stored into the block. -/
theorem CloneB.put {w : World} {g cap L k : Nat} (h : CloneB w g cap L) {x : Int} (hx0 : 0 ≤ x) (hx1 : x < 256) : CloneB (w.setCell ⟨g, k, none⟩ (.int .u8 x)) g cap L := by
  refine ⟨fun j hj => ?_, fun j hj => ?_⟩
  · obtain ⟨h1, h2⟩ := h.1 j hj
    rw [World.frozen?_setCell]
    refine ⟨?_, h2⟩
    obtain ⟨u, hu⟩ := Option.isSome_iff_exists.1 h1
    by_cases e : j = k
    · subst e
      rw [World.cell?_setCell_same _ _ _ hu]
      rfl
    · rw [World.cell?_setCell_other _ _ _ _ (by intro e'; cases e'; exact e rfl)]
      exact h1
  · obtain ⟨y, y0, y1, hy⟩ := h.2 j hj
    by_cases e : j = k
    · subst e
      exact ⟨x, hx0, hx1, World.cell?_setCell_same _ _ _ hy⟩
    · exact ⟨y, y0, y1, by rw [World.cell?_setCell_other _ _ _ _ (by intro e'; cases e'; exact e rfl)]; exact hy⟩

/-- What an append behind a piece makes. -/
def AppPiece (w : World) (g cap L : Nat) (v' : Value) (w' : World) : Prop :=
  v'.oneCell' = true ∧ (∃ A n c, v' = .slice A n c) ∧ CloneB w' g cap L ∧ ∃ row, w.grownBy w' row ∧ (row = none ∨ row = some g)

section
variable {P : Program} (w : World)

theorem grown_none_later {w w' : World} (h : w.grownBy w' none) : Below w.heap.size w w' := (Below.refl _ _).grown h (Nat.le_refl _) (fun r e => by cases e)

theorem ownsRow_slice {w : World} {base : Nat} {e : TypeId} {size : Nat} {v : Value} {n : Nat} {xs : List Value} (h : w.ownsRow base e size v n xs) : ∃ A n c, v = .slice A n c := by
  rcases h.2 with ⟨rfl, _⟩ | ⟨g, cap, cur, rfl, _⟩
  · exact ⟨_, _, _, rfl⟩
  · exact ⟨_, _, _, rfl⟩

theorem run_app_piece (t ty e : TypeId) (bytes : Nat) (ht : P.underlying t = some (.slice e)) (hinfo : (P.info? e).map (fun i => (i.zero, i.size, i.bytes)) = some (some (.int .u8 0), 1, bytes)) (hby : bytes = 1)
    (g cap L : Nat) (hcl : CloneB w g cap L) (A : Option Addr) (n k : Nat) (hnk : n ≤ k) (hp : k = 0 ∨ ∃ o, A = some ⟨g, o, none⟩ ∧ o + n ≤ L ∧ o + k ≤ cap) (hn : n ≤ 100000) (B m : Nat) (x : Int) (hx0 : 0 ≤ x) (hx1 : x < 256) (hB : w.cell? ⟨B, 0, none⟩ = some (.int .u8 x)) :
    ∃ v' w', (Builtin.append_ #[t, t] ty #[.slice A n k, .slice (some ⟨B, 0, none⟩) 1 m]).run P w = .ok v' w' ∧ AppPiece w g cap L v' w' := by
  obtain ⟨i, hi, hz0, hsz, hb⟩ := info_parts hinfo
  subst hby
  have hnews : ∀ j u, ([.int .u8 x] : List Value)[j]? = some u → w.cell? ((⟨B, 0, none⟩ : Addr).add j) = some u := by
    intro j u hu
    cases j with
    | zero =>
      rw [mk_addr_add]
      simp at hu
      subst hu
      exact hB
    | succ j => simp at hu
  have h1c : ∀ u ∈ ([.int .u8 x] : List Value), u.oneCell' = true := by simp [Value.oneCell']
  by_cases hroom : n + 1 ≤ k
  · rcases hp with hp | ⟨o, rfl, hoL, hoc⟩
    · omega
    have hr := run_append_room_cells (P := P) w t ty e i ht hi g o n k ⟨B, 0, none⟩ 1 m [.int .u8 x] (by rw [hsz]; rfl) hnews h1c hroom
      (fun j hj => by
        simp at hj
        subst hj
        rw [hsz]
        exact (hcl.1 (o + n * 1 + 0) (by omega)).1)
      (fun j hj => by
        simp at hj
        subst hj
        rw [hsz]
        exact (hcl.1 (o + n * 1 + 0) (by omega)).2)
    exact ⟨_, _, hr, rfl, ⟨_, _, _, rfl⟩, hcl.put hx0 hx1, some g, ⟨rfl, rfl, rfl, (KeepsWalks.setCell w _ _).size, fun b _ hb => Below.heap_setCell _ _ _ b (fun e => hb (by rw [e]))⟩, .inr rfl⟩
  · cases A with
    | none =>
      have h0 : k = 0 := by
        rcases hp with hp | ⟨o, ho, _⟩
        · exact hp
        · cases ho
      obtain rfl : n = 0 := by omega
      subst h0
      obtain ⟨v', w', hrun, r1, r2, _⟩ := run_append_own (P := P) w w.heap.size t ty e i (.int .u8 0) 1 1 ht hi hz0 hsz hb rfl (by decide) (.slice none 0 0) 0 [] (World.ownsRow_nil w _ e 1) ⟨B, 0, none⟩ 1 m [.int .u8 x] rfl hnews h1c (by simp [maxLen]) (by omega) (Nat.le_refl _)
      obtain ⟨A', n', c', rfl⟩ := ownsRow_slice r1
      exact ⟨_, w', hrun, rfl, ⟨_, _, _, rfl⟩, hcl.later (grown_none_later r2), none, r2, .inl rfl⟩
    | some b =>
      obtain ⟨v', w', hrun, r1, r2⟩ := run_append_arg_grows (P := P) w t ty e i (.int .u8 0) 1 1 ht hi hz0 hsz hb rfl (by decide) b n k ((List.range n).map fun j => (w.cell? (b.add j)).getD undef) (by simp) (fun j u hu => by
        simp only [List.getElem?_map] at hu
        by_cases hj : j < n
        · rw [List.getElem?_range hj] at hu
          simp only [Option.map_some, Option.some.injEq] at hu
          rcases hp with hp | ⟨o, ho, hoL, hoc⟩
          · omega
          · cases ho
            rw [mk_addr_add] at hu ⊢
            obtain ⟨y, _, _, hy⟩ := hcl.2 (o + j) (by omega)
            rw [hy] at hu ⊢
            simpa using hu
        · rw [List.getElem?_eq_none (by simp; omega)] at hu
          cases hu) ⟨B, 0, none⟩ 1 m [.int .u8 x] rfl hnews (by omega) (by simp [maxLen]; omega) (by omega)
      obtain ⟨A', n', c', rfl⟩ := ownsRow_slice r1
      exact ⟨_, w', hrun, rfl, ⟨_, _, _, rfl⟩, hcl.later (grown_none_later r2), none, r2, .inl rfl⟩

theorem wpList_app_piece {ops : Array Oper} {rest : List Oper} {o : Oper} {a : Act} {Q : Exit → Act → World → Prop} (hgd : o.guard = none) (s x : Operand) (t : TypeId)
    (ho : o.op = .call { callee := .builtin .append, args := #[s, x], argTypes := #[t, t] })
    (e : TypeId) (ht : P.underlying t = some (.slice e)) (hinfo : (P.info? e).map (fun i => (i.zero, i.size, i.bytes)) = some (some (.int .u8 0), 1, 1))
    (g cap L : Nat) (hcl : CloneB w g cap L) (A : Option Addr) (n k : Nat) (hv : a.eval s = .slice A n k) (hnk : n ≤ k) (hp : k = 0 ∨ ∃ o, A = some ⟨g, o, none⟩ ∧ o + n ≤ L ∧ o + k ≤ cap) (hn : n ≤ 100000) (B m : Nat) (z : Int) (hx : a.eval x = .slice (some ⟨B, 0, none⟩) 1 m) (hx0 : 0 ≤ z) (hx1 : z < 256) (hB : w.cell? ⟨B, 0, none⟩ = some (.int .u8 z))
    (h : ∀ v' w', AppPiece w g cap L v' w' → wpList P ops Q rest (a.put o.dst v') w') : wpList P ops Q (o :: rest) a w :=
  wpList_plain hgd fun _ hK => by
    obtain ⟨v', w', hrun, hp'⟩ := run_app_piece (P := P) w t o.type e 1 ht hinfo rfl g cap L hcl A n k hnk hp hn B m z hx0 hx1 hB
    unfold Oper.wp execOp
    simp only [ho, resolve, invoke, builtin, Sem.run_bind, Sem.run_pure, Result.andThen_ok, List.map_toArray, List.map_cons, List.map_nil, hv, hx, hrun]
    exact hK _ _ (h v' w' hp')

end

theorem cutAt_length (bs : List UInt8) : ∀ (zs : List Int) (f : Nat) (ps : List (List UInt8)), cutAt bs f zs = some ps → ps.length = zs.length + 1
  | [], f, ps, h => by simp [cutAt] at h; subst h; simp
  | t :: ts, f, ps, h => by
    rw [cutAt] at h
    split at h
    · cases h
    · obtain ⟨q, hq, rfl⟩ := Option.map_eq_some_iff.1 h
      simp [cutAt_length bs ts _ _ hq]

theorem wrap_u8_rng (x : Int) : 0 ≤ IntKind.u8.wrap x ∧ IntKind.u8.wrap x < 256 := by
  simp [IntKind.wrap, IntKind.signed, IntKind.bits]
  omega

end Go.Proofs.YtncemmhbbkpieaaDoor
