/- Joined texts. -/
import Derived.Test.YtlmdbeccfoncpaaGreatDoorZJb
import Derived.ArgAppend
import Derived.Test.YtlmdbeccfoncpaaGreatDoorZJa
import Derived.Test.YtlmdbeccfoncpaaGreatDoorZJd
namespace Go.Proofs.YtlmdbeccfoncpaaGreatDoor
open Go.RowKit Go.Shelf

/-- Rows of elements of two types are two rows. -/
theorem OwnV.apart {w : World} {b1 b2 : Nat} {e1 e2 : TypeId} {v1 v2 : Value} {xs1 xs2 : List Value} (he : e1 ≠ e2) (h1 : OwnV w b1 e1 v1 xs1) (h2 : OwnV w b2 e2 v2 xs2) : v1.ownBlock = none ∨ v1.ownBlock ≠ v2.ownBlock := by
  rcases h1.2 with ⟨rfl, _⟩ | ⟨g, cap, cur, rfl, _, hg, _⟩
  · exact .inl rfl
  · refine .inr fun e => ?_
    rcases h2.2 with ⟨rfl, _⟩ | ⟨g2, cap2, cur2, rfl, _, hg2, _⟩
    · simp [Value.ownBlock] at e
    · simp [Value.ownBlock] at e
      subst e
      rw [hg] at hg2
      simp at hg2
      exact he hg2.2

/-- Pieces, each in memory of its own. -/
def OPcs (w : World) (B0 : Nat) (vs : List Value) (ps : List (List UInt8)) : Prop :=
  vs.length = ps.length ∧ ∀ j, j < ps.length → OwnV w B0 5 (vs[j]?.getD undef) ((ps[j]?.getD []).map encB)

theorem OPcs.nil (w : World) (B0 : Nat) : OPcs w B0 [] [] := ⟨rfl, fun j hj => absurd hj (Nat.not_lt_zero j)⟩

theorem OPcs.snoc {w : World} {B0 : Nat} {vs : List Value} {ps : List (List UInt8)} {v : Value} {p : List UInt8} (h : OPcs w B0 vs ps) (hp : OwnV w B0 5 v (p.map encB)) : OPcs w B0 (vs ++ [v]) (ps ++ [p]) := by
  refine ⟨by simp [h.1], fun j hj => ?_⟩
  simp at hj
  by_cases e : j < ps.length
  · rw [List.getElem?_append_left (by rw [h.1]; exact e), List.getElem?_append_left e]
    exact h.2 j e
  · obtain rfl : j = ps.length := by omega
    rw [List.getElem?_append_right (by rw [h.1]; exact Nat.le_refl _), List.getElem?_append_right (Nat.le_refl _), h.1]
    simpa using hp

theorem OPcs.alloc {w : World} {B0 : Nat} {vs : List Value} {ps : List (List UInt8)} (h : OPcs w B0 vs ps) (o : Obj) : OPcs (w.alloc o) B0 vs ps := ⟨h.1, fun j hj => (h.2 j hj).alloc o⟩

/-- Through a change of a row of another type, or of a row that is new. -/
theorem OPcs.kept {w w' : World} {B0 : Nat} {vs : List Value} {ps : List (List UInt8)} {row : Option Nat} (h : OPcs w B0 vs ps) (hg : w.grownBy w' row)
    (hne : ∀ v xs, OwnV w B0 5 v xs → v.ownBlock = none ∨ v.ownBlock ≠ row) : OPcs w' B0 vs ps := ⟨h.1, fun j hj => (h.2 j hj).kept hg (hne _ _ (h.2 j hj))⟩

theorem OPcs.pcs {w : World} {B0 : Nat} {vs : List Value} {ps : List (List UInt8)} (h : OPcs w B0 vs ps) : Pcs w B0 w.heap.size vs ps := by
  refine ⟨h.1, fun j hj => ?_⟩
  obtain ⟨A, c, hv, hc, hr, ha⟩ := (h.2 j hj).bytes
  exact ⟨A, c, hv, hc, hr, ha⟩

/-- What lay ahead of a new row lies as it lay when that one grows. -/
theorem row_kept {wr w2 : World} {B0 : Nat} {e : TypeId} {v : Value} {vs : List Value} {o : Obj} (hov : OwnV wr B0 e v vs) (g1 : (wr.alloc o).grownBy w2 (Value.slice (some ⟨wr.heap.size, 0, none⟩) 0 0).ownBlock) : OwnV w2 B0 e v vs :=
  (hov.alloc o).kept g1 (.inr fun e => by
    have := (hov.row wr.heap.size (by rw [e]; rfl)).2
    omega)

/-- One piece more: the piece's own row is made, then the row of pieces grows. -/
theorem piece_more {wr w2 w4 : World} {B0 : Nat} {v v1 v' : Value} {vs : List Value} {ps : List (List UInt8)} {p : List UInt8} (hB : B0 ≤ wr.heap.size) (hov : OwnV wr B0 29 v vs) (hpc : OPcs wr B0 vs ps)
    (hp1 : AppPost (wr.alloc (.cells #[] 5)) wr.heap.size 5 (.slice (some ⟨wr.heap.size, 0, none⟩) 0 0) [] (p.map encB) v1 w2)
    (hp2 : AppPost (w2.alloc (.cells #[v1] 29)) B0 29 v vs [v1] v' w4) :
    OwnV w4 B0 29 v' (vs ++ [v1]) ∧ OPcs w4 B0 (vs ++ [v1]) (ps ++ [p]) ∧ Below B0 wr w4 := by
  obtain ⟨h1, g1, _⟩ := hp1
  obtain ⟨h2, g2, _⟩ := hp2
  rw [List.nil_append] at h1
  have hov2 : OwnV w2 B0 29 v vs := (hov.alloc (.cells #[] 5)).kept g1 (.inr fun e => by
    have := (hov.row wr.heap.size (by rw [e]; rfl)).2
    omega)
  have hpc1 : OPcs w2 B0 vs ps := ⟨hpc.1, fun j hj => ((hpc.2 j hj).alloc (.cells #[] 5)).kept g1 (.inr fun e => by
    have := ((hpc.2 j hj).row wr.heap.size (by rw [e]; rfl)).2
    omega)⟩
  have hpc2 : OPcs w2 B0 (vs ++ [v1]) (ps ++ [p]) := hpc1.snoc (h1.base hB)
  refine ⟨h2, (hpc2.alloc (.cells #[v1] 29)).kept g2 (fun u xs hu => hu.apart (by decide) (hov2.alloc _)), ?_⟩
  have b1 := (((Below.refl B0 wr).alloc hB (.cells #[] 5)).grown g1 (by simp; omega) (fun r e => by cases e; exact hB)).alloc (Nat.le_trans hB (Nat.le_trans (by simp) g1.size)) (.cells #[v1] 29)
  exact b1.grown g2 (Nat.le_trans hB (by simpa using b1.size)) (fun r e => (hov2.row r e).1)

end Go.Proofs.YtlmdbeccfoncpaaGreatDoor

namespace Go.Proofs.YtlmdbeccfoncpaaGreatDoor
open Go.RowKit Go.Shelf

/-- The cells of a block of bytes: cap of them, the first L hold bytes. -/
def CloneB (w : World) (g cap L : Nat) : Prop :=
  (∀ j, j < cap → (w.cell? ⟨g, j, none⟩).isSome = true ∧ w.frozen? ⟨g, j, none⟩ = false) ∧ ∀ j, j < L → ∃ x, 0 ≤ x ∧ x < 256 ∧ w.cell? ⟨g, j, none⟩ = some (.int .u8 x)

/-- A cut of a slice at a, of length L and capacity c. -/
def PieceI (a : Option Addr) (c L : Nat) (v : Value) : Prop := ∃ l m n k, v = .slice (subA a l m) n k ∧ k = m - l ∧ n ≤ k ∧ l + n ≤ L ∧ l + k ≤ c

/-- A piece of the block g. -/
def PieceIn (g cap L : Nat) (v : Value) : Prop := ∃ A n k, v = .slice A n k ∧ n ≤ k ∧ (k = 0 ∨ ∃ o, A = some ⟨g, o, none⟩ ∧ o + n ≤ L ∧ o + k ≤ cap)

theorem pieceI_snoc {a : Option Addr} {c L : Nat} {vs : List Value} {v : Value} (h : ∀ j, j < vs.length → PieceI a c L (vs[j]?.getD undef)) (hv : PieceI a c L v) : ∀ j, j < (vs ++ [v]).length → PieceI a c L ((vs ++ [v])[j]?.getD undef) := by
  intro j hj
  simp at hj
  by_cases e : j < vs.length
  · rw [List.getElem?_append_left e]
    exact h j e
  · obtain rfl : j = vs.length := by omega
    rw [List.getElem?_append_right (Nat.le_refl _)]
    simpa using hv

/-- What is told of the row of pieces, and of the block that they lie in. -/
def RowL (w w' : World) (L : Nat) (v : Value) (vs : List Value) : Prop :=
  ∃ g cap, OwnV w' w.heap.size 29 v vs ∧ w.heap.size ≤ g ∧ v.ownBlock ≠ some g ∧ CloneB w' g cap L ∧ ∀ j, j < vs.length → PieceIn g cap L (vs[j]?.getD undef)

/-- What Split answers, and where it lies. -/
def SplitL (w : World) (bs : List UInt8) (zs : List Int) (e : Ending) (w' : World) : Prop :=
  ((cutAt bs 0 zs = none ∧ e = .returned (.tuple #[.slice none 0 0, .int .i64 4])) ∨
   ∃ ps v vs, cutAt bs 0 zs = some ps ∧ e = .returned (.tuple #[v, .int .i64 0]) ∧ RowL w w' bs.length v vs ∧ Pcs w' w.heap.size w'.heap.size vs ps) ∧ Below w.heap.size w w'

theorem CloneB.same {w w' : World} {g cap L : Nat} (h : CloneB w g cap L) (he : w'.heap[g]? = w.heap[g]?) : CloneB w' g cap L := by
  have e1 : ∀ j, w'.cell? ⟨g, j, none⟩ = w.cell? ⟨g, j, none⟩ := fun j => World.cell?_of_block (a := ⟨g, j, none⟩) he
  have e2 : ∀ j, w'.frozen? ⟨g, j, none⟩ = w.frozen? ⟨g, j, none⟩ := fun j => by simp only [World.frozen?, he]
  refine ⟨fun j hj => ?_, fun j hj => ?_⟩
  · rw [e1, e2]
    exact h.1 j hj
  · rw [e1]
    exact h.2 j hj

theorem clone_cells {w : World} {base L c : Nat} {a : Option Addr} {bs : List UInt8} (h : OwnV w base 5 (.slice a L c) (bs.map encB)) :
    (a = none ∧ c = 0 ∧ bs = []) ∨ ∃ g, a = some ⟨g, 0, none⟩ ∧ base ≤ g ∧ g < w.heap.size ∧ CloneB w g c bs.length := by
  rcases h.2 with ⟨hv, h0⟩ | ⟨g, cap, cur, hv, hb, hg, hn, hm, hs, ht⟩
  · injection hv with e1 e2 e3
    exact .inl ⟨e1, e3, List.eq_nil_of_length_eq_zero (by simpa using h0)⟩
  · injection hv with e1 e2 e3
    subst e1 e3
    refine .inr ⟨g, rfl, hb, (Array.getElem?_eq_some_iff.1 hg).1, fun j hj => ?_, fun j hj => ?_⟩
    · have h1 : w.cell? ⟨g, j, none⟩ = cur[j]? := by simp [World.cell?, hg]
      rw [h1, Array.getElem?_eq_getElem (by omega)]
      exact ⟨rfl, by simp [World.frozen?, hg]⟩
    · rcases h.form with ⟨hx, _⟩ | ⟨g2, cap2, hv2, _, _, _, _, hc, _⟩
      · cases hx
      · injection hv2 with e1 _ _
        simp only [Option.some.injEq, Addr.mk.injEq] at e1
        obtain ⟨rfl, _⟩ := e1
        refine ⟨byteAt bs j, byteAt_lo bs j, byteAt_hi bs j, ?_⟩
        rw [hc j (by simpa using hj), encB_at bs j hj]

theorem splitI_end {w w1 w2 : World} {c : Nat} {a : Option Addr} {bs : List UInt8} {v' : Value} {vs : List Value}
    (hcl : (a = none ∧ c = 0 ∧ bs = []) ∨ ∃ g, a = some ⟨g, 0, none⟩ ∧ w.heap.size ≤ g ∧ g < w1.heap.size ∧ CloneB w1 g c bs.length) (hp : OwnV w2 w1.heap.size 29 v' vs) (hs : w.heap.size ≤ w1.heap.size) (hby : Below w1.heap.size w1 w2)
    (hI : ∀ j, j < vs.length → PieceI a c bs.length (vs[j]?.getD undef)) : RowL w w2 bs.length v' vs := by
  rcases hcl with ⟨rfl, rfl, rfl⟩ | ⟨g, rfl, hg, hgl, hcb⟩
  · refine ⟨w2.heap.size, 0, hp.base hs, Nat.le_trans hs hby.size, fun e => ?_, ⟨fun j hj => absurd hj (Nat.not_lt_zero j), fun j hj => absurd hj (Nat.not_lt_zero j)⟩, fun j hj => ?_⟩
    · have := (hp.row _ e).2
      omega
    · obtain ⟨l, m, n, k, hv, h1, h2, h3, h4⟩ := hI j hj
      exact ⟨_, n, k, hv, h2, .inl (by omega)⟩
  · refine ⟨g, c, hp.base hs, hg, fun e => ?_, hcb.same (hby.block g hgl), fun j hj => ?_⟩
    · have := (hp.row _ e).1
      omega
    · obtain ⟨l, m, n, k, hv, h1, h2, h3, h4⟩ := hI j hj
      refine ⟨_, n, k, hv, h2, ?_⟩
      by_cases e : m = l
      · exact .inl (by omega)
      · refine .inr ⟨l, ?_, h3, h4⟩
        simp only [subA, if_neg e, Option.map_some, mk_addr_add]
        simp

end Go.Proofs.YtlmdbeccfoncpaaGreatDoor

namespace Go.Proofs.YtlmdbeccfoncpaaGreatDoor
open Go.RowKit Go.Shelf

theorem OwnV.later {w w' : World} {base : Nat} {e : TypeId} {v : Value} {xs : List Value} (h : OwnV w base e v xs) (hb : Below w.heap.size w w') : OwnV w' base e v xs := by
  obtain ⟨h1, h2⟩ := h
  rcases h2 with h2 | ⟨g, cap, cur, hv, hg0, hg, r⟩
  · exact ⟨h1, .inl h2⟩
  · exact ⟨h1, .inr ⟨g, cap, cur, hv, hg0, (hb.block g (Array.getElem?_eq_some_iff.1 hg).1).trans hg, r⟩⟩

/-- A store into a row that is owned. -/
theorem OwnV.put {w : World} {base G N C i : Nat} {e : TypeId} {xs : List Value} (h : OwnV w base e (.slice (some ⟨G, 0, none⟩) N C) xs) (u : Value) : OwnV (w.setCell ⟨G, i, none⟩ u) base e (.slice (some ⟨G, 0, none⟩) N C) (xs.set i u) := by
  unfold OwnV
  rw [List.length_set]
  rcases h.2 with ⟨hv, _⟩ | ⟨g, cap, cur, hv, hb, hg, hn, hm, hs, ht⟩
  · cases hv
  · injection hv with e1 e2 e3
    simp only [Option.some.injEq, Addr.mk.injEq] at e1
    obtain ⟨rfl, _⟩ := e1
    subst e2 e3
    refine ⟨by simp, .inr ⟨G, C, cur.setIfInBounds i u, rfl, hb, ?_, hn, hm, by simpa using hs, ?_⟩⟩
    · obtain ⟨hlt, hk⟩ := Array.getElem?_eq_some_iff.1 hg
      show (w.heap.modify G _)[G]? = _
      rw [Array.getElem?_eq_getElem (by rw [Array.size_modify]; exact hlt), Array.getElem_modify_self, hk]
      rfl
    · rw [Array.toList_setIfInBounds, List.take_set, ht]

theorem CloneB.later {w w' : World} {g cap L : Nat} (h : CloneB w g cap L) (hb : Below w.heap.size w w') : CloneB w' g cap L := by
  by_cases hg : g < w.heap.size
  · exact h.same (hb.block g hg)
  · refine ⟨fun j hj => ?_, fun j hj => ?_⟩
    · obtain ⟨u, hu⟩ := Option.isSome_iff_exists.1 (h.1 j hj).1
      exact absurd (World.block_lt_of_cell? w _ hu) hg
    · obtain ⟨x, _, _, hu⟩ := h.2 j hj
      exact absurd (World.block_lt_of_cell? w _ hu) hg

/-- A byte stored into the block. -/
theorem CloneB.put {w : World} {g cap L k : Nat} (h : CloneB w g cap L) {x : Int} (hx0 : 0 ≤ x) (hx1 : x < 256) : CloneB (w.setCell ⟨g, k, none⟩ (.int .u8 x)) g cap L := by
  refine ⟨fun j hj => ?_, fun j hj => ?_⟩
  · obtain ⟨h1, h2⟩ := h.1 j hj
    rw [World.frozen?_setCell]
    refine ⟨?_, h2⟩
    obtain ⟨u, hu⟩ := Option.isSome_iff_exists.1 h1
    by_cases e : j = k
    · subst e
      rw [World.cell?_setCell_same _ _ _ hu]
      rfl
    · rw [World.cell?_setCell_other _ _ _ _ (by intro e'; cases e'; exact e rfl)]
      exact h1
  · obtain ⟨y, y0, y1, hy⟩ := h.2 j hj
    by_cases e : j = k
    · subst e
      exact ⟨x, hx0, hx1, World.cell?_setCell_same _ _ _ hy⟩
    · exact ⟨y, y0, y1, by rw [World.cell?_setCell_other _ _ _ _ (by intro e'; cases e'; exact e rfl)]; exact hy⟩

/-- What an append behind a piece makes. -/
def AppPiece (w : World) (g cap L : Nat) (v' : Value) (w' : World) : Prop :=
  v'.oneCell' = true ∧ (∃ A n c, v' = .slice A n c) ∧ CloneB w' g cap L ∧ ∃ row, w.grownBy w' row ∧ (row = none ∨ row = some g)

section
variable {P : Program} (w : World)

theorem grown_none_later {w w' : World} (h : w.grownBy w' none) : Below w.heap.size w w' := (Below.refl _ _).grown h (Nat.le_refl _) (fun r e => by cases e)

theorem ownsRow_slice {w : World} {base : Nat} {e : TypeId} {size : Nat} {v : Value} {n : Nat} {xs : List Value} (h : w.ownsRow base e size v n xs) : ∃ A n c, v = .slice A n c := by
  rcases h.2 with ⟨rfl, _⟩ | ⟨g, cap, cur, rfl, _⟩
  · exact ⟨_, _, _, rfl⟩
  · exact ⟨_, _, _, rfl⟩

theorem run_app_piece (t ty e : TypeId) (bytes : Nat) (ht : P.underlying t = some (.slice e)) (hinfo : (P.info? e).map (fun i => (i.zero, i.size, i.bytes)) = some (some (.int .u8 0), 1, bytes)) (hby : bytes = 1)
    (g cap L : Nat) (hcl : CloneB w g cap L) (A : Option Addr) (n k : Nat) (hnk : n ≤ k) (hp : k = 0 ∨ ∃ o, A = some ⟨g, o, none⟩ ∧ o + n ≤ L ∧ o + k ≤ cap) (hn : n ≤ 100000) (B m : Nat) (x : Int) (hx0 : 0 ≤ x) (hx1 : x < 256) (hB : w.cell? ⟨B, 0, none⟩ = some (.int .u8 x)) :
    ∃ v' w', (Builtin.append_ #[t, t] ty #[.slice A n k, .slice (some ⟨B, 0, none⟩) 1 m]).run P w = .ok v' w' ∧ AppPiece w g cap L v' w' := by
  obtain ⟨i, hi, hz0, hsz, hb⟩ := info_parts hinfo
  subst hby
  have hnews : ∀ j u, ([.int .u8 x] : List Value)[j]? = some u → w.cell? ((⟨B, 0, none⟩ : Addr).add j) = some u := by
    intro j u hu
    cases j with
    | zero =>
      rw [mk_addr_add]
      simp at hu
      subst hu
      exact hB
    | succ j => simp at hu
  have h1c : ∀ u ∈ ([.int .u8 x] : List Value), u.oneCell' = true := by simp [Value.oneCell']
  by_cases hroom : n + 1 ≤ k
  · rcases hp with hp | ⟨o, rfl, hoL, hoc⟩
    · omega
    have hr := run_append_room_cells (P := P) w t ty e i ht hi g o n k ⟨B, 0, none⟩ 1 m [.int .u8 x] (by rw [hsz]; rfl) hnews h1c hroom
      (fun j hj => by
        simp at hj
        subst hj
        rw [hsz]
        exact (hcl.1 (o + n * 1 + 0) (by omega)).1)
      (fun j hj => by
        simp at hj
        subst hj
        rw [hsz]
        exact (hcl.1 (o + n * 1 + 0) (by omega)).2)
    exact ⟨_, _, hr, rfl, ⟨_, _, _, rfl⟩, hcl.put hx0 hx1, some g, ⟨rfl, rfl, rfl, (KeepsWalks.setCell w _ _).size, fun b _ hb => Below.heap_setCell _ _ _ b (fun e => hb (by rw [e]))⟩, .inr rfl⟩
  · cases A with
    | none =>
      have h0 : k = 0 := by
        rcases hp with hp | ⟨o, ho, _⟩
        · exact hp
        · cases ho
      obtain rfl : n = 0 := by omega
      subst h0
      obtain ⟨v', w', hrun, r1, r2, _⟩ := run_append_own (P := P) w w.heap.size t ty e i (.int .u8 0) 1 1 ht hi hz0 hsz hb rfl (by decide) (.slice none 0 0) 0 [] (World.ownsRow_nil w _ e 1) ⟨B, 0, none⟩ 1 m [.int .u8 x] rfl hnews h1c (by simp [maxLen]) (by omega) (Nat.le_refl _)
      obtain ⟨A', n', c', rfl⟩ := ownsRow_slice r1
      exact ⟨_, w', hrun, rfl, ⟨_, _, _, rfl⟩, hcl.later (grown_none_later r2), none, r2, .inl rfl⟩
    | some b =>
      obtain ⟨v', w', hrun, r1, r2⟩ := run_append_arg_grows (P := P) w t ty e i (.int .u8 0) 1 1 ht hi hz0 hsz hb rfl (by decide) b n k ((List.range n).map fun j => (w.cell? (b.add j)).getD undef) (by simp) (fun j u hu => by
        simp only [List.getElem?_map] at hu
        by_cases hj : j < n
        · rw [List.getElem?_range hj] at hu
          simp only [Option.map_some, Option.some.injEq] at hu
          rcases hp with hp | ⟨o, ho, hoL, hoc⟩
          · omega
          · cases ho
            rw [mk_addr_add] at hu ⊢
            obtain ⟨y, _, _, hy⟩ := hcl.2 (o + j) (by omega)
            rw [hy] at hu ⊢
            simpa using hu
        · rw [List.getElem?_eq_none (by simp; omega)] at hu
          cases hu) ⟨B, 0, none⟩ 1 m [.int .u8 x] rfl hnews (by omega) (by simp [maxLen]; omega) (by omega)
      obtain ⟨A', n', c', rfl⟩ := ownsRow_slice r1
      exact ⟨_, w', hrun, rfl, ⟨_, _, _, rfl⟩, hcl.later (grown_none_later r2), none, r2, .inl rfl⟩

theorem wpList_app_piece {ops : Array Oper} {rest : List Oper} {o : Oper} {a : Act} {Q : Exit → Act → World → Prop} (hgd : o.guard = none) (s x : Operand) (t : TypeId)
    (ho : o.op = .call { callee := .builtin .append, args := #[s, x], argTypes := #[t, t] })
    (e : TypeId) (ht : P.underlying t = some (.slice e)) (hinfo : (P.info? e).map (fun i => (i.zero, i.size, i.bytes)) = some (some (.int .u8 0), 1, 1))
    (g cap L : Nat) (hcl : CloneB w g cap L) (A : Option Addr) (n k : Nat) (hv : a.eval s = .slice A n k) (hnk : n ≤ k) (hp : k = 0 ∨ ∃ o, A = some ⟨g, o, none⟩ ∧ o + n ≤ L ∧ o + k ≤ cap) (hn : n ≤ 100000) (B m : Nat) (z : Int) (hx : a.eval x = .slice (some ⟨B, 0, none⟩) 1 m) (hx0 : 0 ≤ z) (hx1 : z < 256) (hB : w.cell? ⟨B, 0, none⟩ = some (.int .u8 z))
    (h : ∀ v' w', AppPiece w g cap L v' w' → wpList P ops Q rest (a.put o.dst v') w') : wpList P ops Q (o :: rest) a w :=
  wpList_plain hgd fun _ hK => by
    obtain ⟨v', w', hrun, hp'⟩ := run_app_piece (P := P) w t o.type e 1 ht hinfo rfl g cap L hcl A n k hnk hp hn B m z hx0 hx1 hB
    unfold Oper.wp execOp
    simp only [ho, resolve, invoke, builtin, Sem.run_bind, Sem.run_pure, Result.andThen_ok, List.map_toArray, List.map_cons, List.map_nil, hv, hx, hrun]
    exact hK _ _ (h v' w' hp')

end

theorem cutAt_length (bs : List UInt8) : ∀ (zs : List Int) (f : Nat) (ps : List (List UInt8)), cutAt bs f zs = some ps → ps.length = zs.length + 1
  | [], f, ps, h => by simp [cutAt] at h; subst h; simp
  | t :: ts, f, ps, h => by
    rw [cutAt] at h
    split at h
    · cases h
    · obtain ⟨q, hq, rfl⟩ := Option.map_eq_some_iff.1 h
      simp [cutAt_length bs ts _ _ hq]

theorem wrap_u8_rng (x : Int) : 0 ≤ IntKind.u8.wrap x ∧ IntKind.u8.wrap x < 256 := by
  simp [IntKind.wrap, IntKind.signed, IntKind.bits]
  omega

end Go.Proofs.YtlmdbeccfoncpaaGreatDoor

namespace Go.Proofs.YtlmdbeccfoncpaaGreatDoor
open Go.RowKit Go.Shelf

set_option maxHeartbeats 1000000 in
theorem equal_any (a1 a2 : Option Addr) (n1 n2 c1 c2 : Nat) (xs ys : List UInt8) (hn1 : n1 = xs.length) (hn2 : n2 = ys.length) (w : World) (B : Nat) (h1 : RdB w B a1 xs) (h2 : RdB w B a2 ys) :
    Calls Tryz.prog 63 #[.slice a1 n1 c1, .slice a2 n2 c2] w fun e w' => e = .returned (.bool (xs == ys)) ∧ w' = w := by
  have k1 := h1.text (P := Tryz.prog) 29 9 5 n1 c1 hn1 Tryz.underlying29 Tryz.underlying5 Tryz.underlying9
  have k2 := h2.text (P := Tryz.prog) 29 9 5 n2 c2 hn2 Tryz.underlying29 Tryz.underlying5 Tryz.underlying9
  clear h1 h2 hn1 hn2
  go_enter Tryz.func63, Tryz.ntmps63
  go_wp2
  go_ret
  exact ⟨rfl, rfl⟩

end Go.Proofs.YtlmdbeccfoncpaaGreatDoor

namespace Go.Proofs.YtlmdbeccfoncpaaGreatDoor
open Go.RowKit Go.Shelf

theorem rdP_one (w : World) (B : Nat) (hB : B ≤ w.heap.size) (t : TypeId) (a : Option Addr) (c : Nat) (p : List UInt8) (h : RdB w B a p) (l : p.length ≤ c) :
    RdP (w.alloc (.cells #[.slice a p.length c] t)) (w.alloc (.cells #[.slice a p.length c] t)).heap.size (some ⟨w.heap.size, 0, none⟩) [p] := by
  refine .inr ⟨w.heap.size, 0, rfl, by simp, fun j hj => ?_⟩
  have hb : Below B w (w.alloc (.cells #[.slice a p.length c] t)) := (Below.refl _ _).alloc hB _
  rw [Nat.zero_add, World.cell?_alloc_mark]
  simp at hj
  subst hj
  exact ⟨a, c, rfl, l, (h.below hb).mono (by simp; omega)⟩

/-- What is read of the library's table: a width's mark. -/
def TabW (w : World) : Prop :=
  (1 < w.heap.size ∧ w.cell? ⟨1, 0, none⟩ = some (.int .u8 0)) ∧ w.cell? ⟨1, 1, none⟩ = some (.int .u8 1) ∧
    w.cell? ⟨1, 3, none⟩ = some (.int .u8 2) ∧ w.cell? ⟨1, 7, none⟩ = some (.int .u8 3)

theorem TabW.below {B : Nat} {w w' : World} (h : TabW w) (hb : Below B w w') (hB : 1 < B) : TabW w' := by
  obtain ⟨⟨h0, h1⟩, h2, h3, h4⟩ := h
  refine ⟨⟨Nat.lt_of_lt_of_le h0 hb.size, ?_⟩, ?_, ?_, ?_⟩
  · exact (hb.cell (p := ⟨1, 0, none⟩) (show 1 < B by omega)).trans h1
  · exact (hb.cell (p := ⟨1, 1, none⟩) (show 1 < B by omega)).trans h2
  · exact (hb.cell (p := ⟨1, 3, none⟩) (show 1 < B by omega)).trans h3
  · exact (hb.cell (p := ⟨1, 7, none⟩) (show 1 < B by omega)).trans h4

theorem TabW.on {w w' : World} (h : TabW w) (hb : Below w.heap.size w w') : TabW w' := h.below hb h.1.1

/-- The mark of a width. -/
def lg (W : Nat) : Nat := if W = 1 then 0 else if W = 2 then 1 else if W = 4 then 2 else 3

set_option maxHeartbeats 1000000 in
theorem tz64_core (x k idx : Nat) (w : World) (hx0 : ((x : Int) == 0) = false)
    (key : IntKind.u64.wrap (bits BinOp.and IntKind.u64 (x : Int) (IntKind.u64.wrap (-(x : Int))) * 285870213051353865) / 288230376151711744 = (idx : Int))
    (hi : idx < 64) (hk : k < 64) (hcell : w.cell? ⟨1, idx, none⟩ = some (.int .u8 k)) :
    Calls Tryz.prog 145 #[.int .u64 x] w fun e w' => e = .returned (.int .i64 k) ∧ w' = w := by
  go_enter Tryz.func145, Tryz.ntmps145
  go_wp2_with (simp only [key])
  go_ret
  exact ⟨rfl, rfl⟩

theorem tz64_any (W : Nat) (hW : isW W = true) (w : World) (hT : TabW w) :
    Calls Tryz.prog 145 #[.int .u64 W] w fun e w' => e = .returned (.int .i64 (lg W)) ∧ w' = w := by
  obtain ⟨⟨_, h1⟩, h2, h3, h4⟩ := hT
  have hc := isW_cases hW
  have hc' : W = 1 ∨ W = 2 ∨ W = 4 ∨ W = 8 := by omega
  rcases hc' with rfl | rfl | rfl | rfl
  · exact tz64_core 1 0 0 w (by decide) (by decide +kernel) (by decide) (by decide) h1
  · exact tz64_core 2 1 1 w (by decide) (by decide +kernel) (by decide) (by decide) h2
  · exact tz64_core 4 2 3 w (by decide) (by decide +kernel) (by decide) (by decide) h3
  · exact tz64_core 8 3 7 w (by decide) (by decide +kernel) (by decide) (by decide) h4

theorem tz_any (W : Nat) (hW : isW W = true) (w : World) (hT : TabW w) :
    Calls Tryz.prog 129 #[.int .u64 W] w fun e w' => e = .returned (.int .i64 (lg W)) ∧ w' = w := by
  have c64 := Lib.hid (tz64_any W hW w hT)
  have hw : IntKind.u64.wrap (W : Int) = (W : Int) := by
    have := isW_cases hW
    rw [IntKind.wrap_u64]; omega
  go_enter Tryz.func129, Tryz.ntmps129
  go_wp2_with (go_at_call 145; refine c64.out.mono ?_; rintro e w' ⟨rfl, hw'⟩; rw [hw'])
  go_ret
  exact ⟨rfl, rfl⟩

theorem least_good (n : Int) : ∃ W : Nat, leastOf n = W ∧ isW W = true ∧ fits W n = true := by
  have h8 : fits 8 n = true := by simp [fits]
  unfold leastOf firstW
  by_cases h1 : fits 1 n = true
  · exact ⟨1, by simp [h1], by decide, h1⟩
  · by_cases h2 : fits 2 n = true
    · exact ⟨2, by simp [h1, h2], by decide, h2⟩
    · by_cases h4 : fits 4 n = true
      · exact ⟨4, by simp [h1, h2, h4], by decide, h4⟩
      · exact ⟨8, by simp [h1, h2, h4, h8], by decide, h8⟩

/-- A head's bytes. -/
def headB (m : Nat) (n : Int) : List UInt8 :=
  if n < 24 then [UInt8.ofNat (32 * m + n.toNat)] else UInt8.ofNat (32 * m + 24 + lg (leastOf n).toNat) :: beB (leastOf n).toNat n

theorem head_length (m : Nat) (n : Int) : 1 ≤ (headB m n).length ∧ (headB m n).length ≤ 9 := by
  unfold headB
  split
  · simp
  · simp [beB_length, leastOf, firstW]
    split
    · simp
    · split
      · simp
      · split
        · simp
        · split <;> simp

theorem headB_small (m : Nat) (n : Int) (h : n < 24) : headB m n = [UInt8.ofNat (32 * m + n.toNat)] := if_pos h

theorem headB_wide (m : Nat) (n : Int) (h : ¬ n < 24) (W : Nat) (hW : leastOf n = W) : headB m n = [UInt8.ofNat (32 * m + 24 + lg W)] ++ beB W n := by
  rw [headB, if_neg h, hW]
  rfl

theorem lg_le (W : Nat) : lg W ≤ 3 := by
  unfold lg
  split
  · omega
  · split
    · omega
    · split <;> omega

theorem byte_enc (k : Nat) (hk : k < 256) : Value.int .u8 (k : Int) = encB (UInt8.ofNat k) := by
  simp only [encB, UInt8.toNat_ofNat']
  rw [Nat.mod_eq_of_lt (by omega)]

set_option maxRecDepth 100000 in
set_option maxHeartbeats 2000000 in
theorem head_small (m : Nat) (n : Int) (w : World) (hm : m ≤ 7) (hn : 0 ≤ n) (h : n < 24) :
    Calls Tryz.prog 109 #[.int .u8 m, .int .u64 n] w (JoinP w (headB m n)) := by
  obtain ⟨k, rfl⟩ := Int.eq_ofNat_of_zero_le hn
  have e := byte_enc (32 * m + k) (by omega)
  have E : Hid (Value.int .u8 (32 * (m : Int) + (k : Int)) = encB (UInt8.ofNat (32 * m + k))) := by rw [← e]; simp [Hid]
  have HB := Lib.hid (headB_small m k h)
  clear e
  go_enter Tryz.func109, Tryz.ntmps109
  go_wp2_with fail
  go_ret
  rw [E.out, HB.out]
  exact ⟨_, rfl, OwnV.lit w w.heap.size 5 #[encB (UInt8.ofNat (32 * m + k))] (Nat.le_refl _) (by simp [maxLen]), (Below.refl _ _).alloc (Nat.le_refl _) _⟩

set_option maxRecDepth 100000 in
set_option maxHeartbeats 2000000 in
theorem head_wide (m : Nat) (n : Int) (w : World) (hm : m ≤ 7) (hn : U64 n) (h : ¬ n < 24) (ht : TabW w) :
    Calls Tryz.prog 109 #[.int .u8 m, .int .u64 n] w (JoinP w (headB m n)) := by
  obtain ⟨W, hW, hx, hf⟩ := least_good n
  have hl := lg_le W
  have hWb : 1 ≤ W ∧ W ≤ 8 := by
    have := isW_cases hx
    omega
  have e := byte_enc (32 * m + 24 + lg W) (by omega)
  have E : Hid (Value.int .u8 (32 * (m : Int) + 24 + (lg W : Int)) = encB (UInt8.ofNat (32 * m + 24 + lg W))) := by rw [← e]; simp [Hid]
  have HB := Lib.hid (headB_wide m n h W hW)
  have HW := Lib.hid hW
  have HX := Lib.hid hx
  have HF := Lib.hid hf
  have HT := Lib.hid ht
  have HN := Lib.hid hn
  have HL := Lib.hid (beB_length W n)
  have HWr : Hid (IntKind.u64.wrap (W : Int) = (W : Int)) := by
    simp only [Hid, IntKind.wrap_u64]
    omega
  have TZ0 : Hid (∀ w : World, TabW w → Calls Tryz.prog 129 #[.int .u64 W] w fun e w' => e = .returned (.int .i64 (lg W)) ∧ w' = w) := fun w h => tz_any W hx w h
  obtain ⟨q, hq⟩ : ∃ q, q = lg W := ⟨_, rfl⟩
  rw [← hq] at TZ0 hl E HB
  clear hq e hW hx hf ht hn
  go_enter Tryz.func109, Tryz.ntmps109
  go_wp2_with fail
  refine (least_any _ _ HN.out).mono ?_
  rintro e w1 ⟨rfl, hb1⟩
  rw [HW.out]
  go_wp2_with fail
  refine (put_ok W n _ HX.out HN.out HF.out).mono ?_
  rintro e w2 ⟨v, rfl, ⟨a2, c2, rfl, hc2, hr2, _⟩, hb2⟩
  have B2 := below_on hb1 hb2
  have HR2 := Lib.hid hr2
  clear hr2
  go_wp2_with fail
  refine (TZ0.out _ (HT.out.on B2)).mono ?_
  rintro e w3 ⟨rfl, rfl⟩
  have L1 : RdB (w3.alloc (.cells #[.int .u8 (32 * (m : Int) + 24 + (q : Int))] 5)) (w3.heap.size + 1) (some ⟨w3.heap.size, 0, none⟩) [UInt8.ofNat (32 * m + 24 + q)] :=
    rdB_lit w3 5 _ _ _ (by rw [E.out]; rfl)
  have L2 := (HR2.out.below (below_al (Below.refl _ _) (.cells #[.int .u8 (32 * (m : Int) + 24 + (q : Int))] 5))).mono (Nat.le_succ _)
  have HP0 := rdP_pair (w3.alloc (.cells #[.int .u8 (32 * (m : Int) + 24 + (q : Int))] 5)) (w3.heap.size + 1) (by simp) 29 _ _ 1 c2 _ _ L1 L2 (Nat.le_refl _) hc2
  simp only [World.size_alloc, List.length_singleton] at HP0
  have HP := Lib.hid HP0
  clear L1 L2 HP0
  go_wp2_with fail
  refine (join_any _ 2 [[UInt8.ofNat (32 * m + 24 + q)], beB W n] _ (by simp) (by simp [HL.out]; omega) (by simpa only [World.size_alloc] using HP.out)).mono ?_
  rintro e w4 ⟨v, rfl, ho, hb4⟩
  have B4 := below_al (below_al B2 (.cells #[.int .u8 (32 * (m : Int) + 24 + (q : Int))] 5)) (.cells #[.slice (some ⟨w3.heap.size, 0, none⟩) 1 1, .slice a2 (beB W n).length c2] 29)
  go_wp2
  go_ret
  refine ⟨v, rfl, ?_, below_on B4 hb4⟩
  rw [HB.out]
  have hf : [[UInt8.ofNat (32 * m + 24 + q)], beB W n].flatten = [UInt8.ofNat (32 * m + 24 + q)] ++ beB W n := by simp
  rw [hf] at ho
  exact ho.base B4.size

/-- A head, of any major and number. -/
theorem head_any (m : Nat) (n : Int) (w : World) (hm : m ≤ 7) (hn : U64 n) (ht : TabW w) :
    Calls Tryz.prog 109 #[.int .u8 m, .int .u64 n] w (JoinP w (headB m n)) := by
  by_cases h : n < 24
  · exact head_small m n w hm hn.1 h
  · exact head_wide m n w hm hn h ht

end Go.Proofs.YtlmdbeccfoncpaaGreatDoor
