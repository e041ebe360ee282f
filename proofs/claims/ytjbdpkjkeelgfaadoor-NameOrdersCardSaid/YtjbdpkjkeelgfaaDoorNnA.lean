/- Names in a row: how they are read, kept, cloned; slices.Values of names, Sorted's own way. -/
import Derived.Test.YtjbdpkjkeelgfaaDoorIter
import Derived.Test.YtjbdpkjkeelgfaaDoorNmH1
import Derived.Lib.SliceRun
import Derived.Laws.IdiomCopy
import Derived.Laws.OwnMore
import Derived.Maps.AppendAt
namespace Go.Proofs.YtjbdpkjkeelgfaaDoor
open Go Go.RowKit Go.Shelf
set_option linter.unusedSimpArgs false
set_option linter.unusedVariables false

attribute [local go_sem] Oper.semAt_some

/-- A name that fits its types. -/
abbrev NmS := {x : NmT // x.ok}
def nmZero : NmS := ⟨⟨0, 0, 0, 0⟩, ⟨by decide, by decide⟩, by decide, by decide⟩
instance : Inhabited NmS := ⟨nmZero⟩
/-- The name at a place. -/
def atN (ss : List NmS) (k : Nat) : NmS := ss[k]?.getD nmZero
def encN (x : NmS) : List Value := [.int .u32 x.1.n, .int .u32 x.1.m, .int .u64 x.1.t, .int .u32 x.1.q]
def nmAt (ss : List NmS) (k : Nat) : Value := .agg #[.int .u32 (atN ss k).1.n, .int .u32 (atN ss k).1.m, .int .u64 (atN ss k).1.t, .int .u32 (atN ss k).1.q]

/-- Four cells that are a name's. -/
def CellN (w : World) (g o : Nat) (x : NmS) : Prop := w.cell? ⟨g, o, none⟩ = some (.int .u32 x.1.n) ∧ w.cell? ⟨g, o + 1, none⟩ = some (.int .u32 x.1.m) ∧ w.cell? ⟨g, o + 2, none⟩ = some (.int .u64 x.1.t) ∧ w.cell? ⟨g, o + 3, none⟩ = some (.int .u32 x.1.q)

theorem CellN.kept {w w' : World} {g o : Nat} {x : NmS} (h : CellN w g o x) (hb : w'.heap[g]? = w.heap[g]?) : CellN w' g o x :=
  ⟨(World.cell?_of_block (a := ⟨g, o, none⟩) hb).trans h.1, (World.cell?_of_block (a := ⟨g, o + 1, none⟩) hb).trans h.2.1, (World.cell?_of_block (a := ⟨g, o + 2, none⟩) hb).trans h.2.2.1, (World.cell?_of_block (a := ⟨g, o + 3, none⟩) hb).trans h.2.2.2⟩

/-- A slice at a reads as these names. -/
def RdNs (w : World) (B : Nat) (a : Option Addr) (ss : List NmS) : Prop := ss = [] ∨ ∃ b o, a = some ⟨b, o, none⟩ ∧ b < B ∧ ∀ j, j < ss.length → CellN w b (o + j * 4) (atN ss j)

theorem RdNs.below {w w' : World} {B : Nat} {a : Option Addr} {ss : List NmS} (h : RdNs w B a ss) (hb : Below B w w') : RdNs w' B a ss := by
  rcases h with h | ⟨b, o, e, hlt, hc⟩
  · exact .inl h
  · exact .inr ⟨b, o, e, hlt, fun j hj => (hc j hj).kept (hb.block b hlt)⟩

theorem RdNs.mono {w : World} {B B' : Nat} {a : Option Addr} {ss : List NmS} (h : RdNs w B a ss) (hB : B ≤ B') : RdNs w B' a ss := by
  rcases h with h | ⟨b, o, e, hlt, hc⟩
  · exact .inl h
  · exact .inr ⟨b, o, e, by omega, hc⟩

theorem RdNs.cells {w : World} {B : Nat} {a : Option Addr} {ss : List NmS} (h : RdNs w B a ss) (k : Nat) (hk : k < ss.length) : ∃ g o, a = some ⟨g, o, none⟩ ∧ g < B ∧ CellN w g (o + k * 4) (atN ss k) := by
  rcases h with rfl | ⟨b, o, rfl, hlt, hc⟩
  · simp at hk
  · exact ⟨b, o, rfl, hlt, hc k hk⟩

/-- The row at g, o holds these names, and may be written. -/
def RowN (w : World) (g o : Nat) (zs : List NmS) : Prop := ∀ j, j < zs.length → CellN w g (o + j * 4) (atN zs j) ∧ ∀ i, i < 4 → w.frozen? ⟨g, o + j * 4 + i, none⟩ = false

theorem RowN.kept {w w' : World} {g o : Nat} {zs : List NmS} (h : RowN w g o zs) (hb : w'.heap[g]? = w.heap[g]?) : RowN w' g o zs := fun j hj =>
  ⟨(h j hj).1.kept hb, fun i hi => (World.frozen?_of_block (a := ⟨g, o + j * 4 + i, none⟩) hb).trans ((h j hj).2 i hi)⟩

theorem RowN.rd {w : World} {g o : Nat} {zs : List NmS} (h : RowN w g o zs) {B : Nat} (hg : g < B) : RdNs w B (some ⟨g, o, none⟩) zs := .inr ⟨g, o, rfl, hg, fun j hj => (h j hj).1⟩

/-- Names as cells, one behind another. -/
def flatN : List NmS → List Value
  | [] => []
  | p :: r => .int .u32 p.1.n :: .int .u32 p.1.m :: .int .u64 p.1.t :: .int .u32 p.1.q :: flatN r

theorem flatN_length : ∀ ss : List NmS, (flatN ss).length = ss.length * 4
  | [] => rfl
  | p :: r => by simp [flatN, flatN_length r]; omega

theorem flatN_at : ∀ (ss : List NmS) (k : Nat), k < ss.length → (flatN ss)[k * 4]? = some (.int .u32 (atN ss k).1.n) ∧ (flatN ss)[k * 4 + 1]? = some (.int .u32 (atN ss k).1.m) ∧ (flatN ss)[k * 4 + 2]? = some (.int .u64 (atN ss k).1.t) ∧ (flatN ss)[k * 4 + 3]? = some (.int .u32 (atN ss k).1.q)
  | [], k, h => absurd h (Nat.not_lt_zero _)
  | p :: r, 0, _ => ⟨rfl, rfl, rfl, rfl⟩
  | p :: r, k + 1, h => by
    have := flatN_at r k (by simpa using h)
    rw [show (k + 1) * 4 = k * 4 + 1 + 1 + 1 + 1 by omega]
    simp only [flatN, List.getElem?_cons_succ]
    simpa [atN] using this

theorem flatN_one : ∀ (ss : List NmS) (u : Value), u ∈ flatN ss → u.oneCell' = true
  | [], u, h => by cases h
  | p :: r, u, h => by
    simp only [flatN, List.mem_cons] at h
    rcases h with rfl | rfl | rfl | rfl | h
    · rfl
    · rfl
    · rfl
    · rfl
    · exact flatN_one r u h

theorem flatN_cell {w : World} {g o : Nat} {ss : List NmS} (h : ∀ j, j < ss.length → CellN w g (o + j * 4) (atN ss j)) (i : Nat) (u : Value) (hu : (flatN ss)[i]? = some u) : w.cell? ⟨g, o + i, none⟩ = some u := by
  have hi : i < ss.length * 4 := by
    have := (List.getElem?_eq_some_iff.1 hu).1
    rwa [flatN_length] at this
  have hm : i % 4 = 0 ∨ i % 4 = 1 ∨ i % 4 = 2 ∨ i % 4 = 3 := by omega
  have hk : i / 4 < ss.length := by omega
  obtain ⟨f0, f1, f2, f3⟩ := flatN_at ss _ hk
  obtain ⟨c0, c1, c2, c3⟩ := h _ hk
  rcases hm with hm | hm | hm | hm
  · have e : i = i / 4 * 4 := by omega
    rw [e, f0] at hu
    rw [e, ← hu]
    exact c0
  · have e : i = i / 4 * 4 + 1 := by omega
    rw [e, f1] at hu
    rw [e, ← hu]
    exact c1
  · have e : i = i / 4 * 4 + 2 := by omega
    rw [e, f2] at hu
    rw [e, ← hu]
    exact c2
  · have e : i = i / 4 * 4 + 3 := by omega
    rw [e, f3] at hu
    rw [e, ← hu]
    exact c3

section
variable {P : Program} (w : World)

/-- One item appended onto items of the call's own. -/
theorem wpList_appN4 {ops : Array Oper} {rest : List Oper} {o : Oper} {a : Act} {Q : Exit → Act → World → Prop} (hgd : o.guard = none) (s x : Operand) (t : TypeId)
    (ho : o.op = .call { callee := .builtin .append, args := #[s, x], argTypes := #[t, t] })
    (base : Nat) (e : TypeId) (z : Value) (size bytes : Nat) (ht : P.underlying t = some (.slice e)) (hinfo : (P.info? e).map (fun i => (i.zero, i.size, i.bytes)) = some (some z, size, bytes)) (hz1 : z.cells.size = size) (hsz : 0 < size)
    (v : Value) (n : Nat) (xs : List Value) (hv : a.eval s = v) (hown : w.ownsRow base e size v n xs) (A : Addr) (m c : Nat) (ys : List Value) (hx : a.eval x = .slice (some A) m c) (hm : ys.length = m * size) (hs : ∀ j u, ys[j]? = some u → w.cell? (A.add j) = some u) (h1 : ∀ u ∈ ys, u.oneCell' = true)
    (h63 : n + m ≤ maxLen) (hbytes : (n + m) * bytes ≤ 140737488355328) (hbase : base ≤ w.heap.size)
    (h : ∀ v' w', w'.ownsRow base e size v' (n + m) (xs ++ ys) → w.grownBy w' v.ownBlock → (v'.ownBlock = v.ownBlock ∨ v'.ownBlock = some w.heap.size) → wpList P ops Q rest (a.put o.dst v') w') : wpList P ops Q (o :: rest) a w :=
  wpList_plain hgd fun _ hK => by
    obtain ⟨i, hi, hz0, hsz0, hb⟩ := info_parts hinfo
    obtain ⟨v', w', hrun, h2, h3, _, h5⟩ := run_append_own_at (P := P) w base t o.type e i z size bytes ht hi hz0 hsz0 hb hz1 hsz v n xs hown A m c ys hm hs h1 h63 hbytes hbase
    unfold Oper.wp execOp
    simp only [ho, resolve, invoke, builtin, Sem.run_bind, Sem.run_pure, Result.andThen_ok, List.map_toArray, List.map_cons, List.map_nil, hv, hx, hrun]
    exact hK _ _ (h v' w' h2 h3 h5)
end


theorem info_name : (Tryd.prog.info? 47).map (fun i => (i.zero, i.size, i.bytes)) = some (some (.agg #[.int .u32 0, .int .u32 0, .int .u64 0, .int .u32 0]), 4, 24) := by kernel_rfl

/-- Names in a row of the call's own. -/
def OwnN (w w' : World) (A : Option Addr) (C : Nat) (ss : List NmS) : Prop :=
  ss.length ≤ C ∧ ((A = none ∧ ss = []) ∨ ∃ g, A = some ⟨g, 0, none⟩ ∧ w.heap.size ≤ g ∧ g < w'.heap.size ∧ RowN w' g 0 ss) ∧ Below w.heap.size w w'

set_option maxRecDepth 100000 in
set_option maxHeartbeats 4000000 in
theorem nclone_any (A : Option Addr) (C : Nat) (ss : List NmS) (w : World) (hlen : ss.length ≤ 1000000) (hr : RdNs w w.heap.size A ss) :
    Calls Tryd.prog 65 #[.slice A ss.length C] w fun e w' => ∃ A' C', e = .returned (.slice A' ss.length C') ∧ OwnN w w' A' C' ss := by
  rcases A with _ | ad
  · obtain rfl : ss = [] := by
      rcases hr with h | ⟨g, o, h, _⟩
      · exact h
      · cases h
    have heq := fun w : World => Lib.run_eql_slice_nil (P := Tryd.prog) w 68 47 none 0 C 0 0 Tryd.underlying68
    go_enter Tryd.func65, Tryd.ntmps65
    go_wp2
    go_ret
    exact ⟨none, 0, rfl, Nat.zero_le _, .inl ⟨rfl, rfl⟩, Below.refl _ _⟩
  · have heq := fun w : World => Lib.run_eql_slice_nil (P := Tryd.prog) w 68 47 (some ad) ss.length C 0 0 Tryd.underlying68
    have HYS : Hid (∀ j u, (flatN ss)[j]? = some u → (w.alloc (.cells #[] 47)).cell? (ad.add j) = some u) := by
      intro j u hu
      refine Lib.cell?_alloc_some _ ?_
      rcases hr with rfl | ⟨g, o, h, hg, hl⟩
      · simp [flatN] at hu
      · injection h with h
        subst h
        have := flatN_cell (w := w) (g := g) (o := o) hl j u hu
        by_cases e : j = 0
        · subst e; simpa [Addr.add] using this
        · simpa [Addr.add, e] using this
    have HO : Hid ((w.alloc (.cells #[] 47)).ownsRow w.heap.size 47 4 (.slice (some ⟨w.heap.size, 0, none⟩) 0 0) 0 []) := by
      refine ⟨rfl, .inr ⟨w.heap.size, 0, #[], rfl, Nat.le_refl _, World.alloc_heap_new w _, ?_⟩⟩
      refine ⟨Nat.le_refl _, by decide, rfl, rfl⟩
    clear hr
    go_enter Tryd.func65, Tryd.ntmps65
    go_wp2_with (at_builtin; refine wpList_appN4 _ rfl _ _ 68 rfl w.heap.size 47 _ 4 24 Tryd.underlying68 info_name rfl (by decide) _ 0 [] rfl HO.out ad ss.length C (flatN ss) rfl (flatN_length ss) HYS.out (flatN_one ss) (by unfold maxLen; omega) (by omega) (by simp) ?_; intro v' w2 h2 h3 h5)
    go_ret
    have hb : Below w.heap.size w w2 := ((Below.refl _ _).alloc (Nat.le_refl _) _).grown h3 (by simp) (fun r e => by cases e; exact Nat.le_refl _)
    simp only [Nat.zero_add, List.nil_append] at h2
    rcases h2.2 with ⟨rfl, h0⟩ | ⟨gg, cp, cur, rfl, hb0, hg, hn9, hm9, hs9, htk⟩
    · have h0' : ss.length = 0 := h0
      obtain rfl : ss = [] := List.eq_nil_of_length_eq_zero h0'
      exact ⟨none, 0, rfl, Nat.zero_le _, .inl ⟨rfl, rfl⟩, hb⟩
    · have hlt := (Array.getElem?_eq_some_iff.1 hg).1
      refine ⟨some ⟨gg, 0, none⟩, cp, rfl, hn9, .inr ⟨gg, rfl, hb0, hlt, fun j hj => ?_⟩, hb⟩
      have hcell : ∀ i, i < ss.length * 4 → w2.cell? ⟨gg, i, none⟩ = (flatN ss)[i]? := fun i hi => by
        have h1 : w2.cell? ⟨gg, i, none⟩ = cur[i]? := by simp [World.cell?, hg]
        rw [h1, ← htk]
        simp [List.getElem?_take, hi]
      have hfr : ∀ i, w2.frozen? ⟨gg, i, none⟩ = false := fun i => h2.frozenAt i
      obtain ⟨f0, f1, f2, f3⟩ := flatN_at ss j hj
      unfold CellN
      rw [Nat.zero_add, hcell _ (by omega), hcell _ (by omega), hcell _ (by omega), hcell _ (by omega)]
      exact ⟨⟨f0, f1, f2, f3⟩, fun i _ => hfr _⟩

end Go.Proofs.YtjbdpkjkeelgfaaDoor
