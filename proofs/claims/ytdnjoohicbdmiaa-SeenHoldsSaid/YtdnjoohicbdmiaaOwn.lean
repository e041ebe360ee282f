/- Slices of the call's own, elements of one cell: what an append makes of them, whatever slice is appended (nil, too). -/
import Derived.Test.YtdnjoohicbdmiaaBase
import Derived.Maps.AppendAt
import Derived.Deep.AppendLies
import Derived.Lib.SliceRun
namespace Go.Proofs.Ytdnjoohicbdmiaa
open Go.RowKit Go.Shelf

/-- A slice value of the call's own (its block from base on), holding just these cells. -/
def OwnV (w : World) (base : Nat) (e : TypeId) (v : Value) (xs : List Value) : Prop := w.ownsRow base e 1 v xs.length xs

/-- A slice at A reads as these cells. -/
def Src (w : World) (A : Option Addr) (ys : List Value) : Prop := ys = [] ∨ ∃ ad, A = some ad ∧ ∀ j u, ys[j]? = some u → w.cell? (ad.add j) = some u

theorem Src.alloc {w : World} {A : Option Addr} {ys : List Value} (h : Src w A ys) (o : Obj) : Src (w.alloc o) A ys := by
  rcases h with h | ⟨ad, e, hc⟩
  · exact .inl h
  · exact .inr ⟨ad, e, fun j u hu => by
      have h1 := hc j u hu
      rw [World.cell?_alloc_lt _ _ _ (World.block_lt_of_cell? w _ h1)]
      exact h1⟩

theorem OwnV.nil (w : World) (base : Nat) (e : TypeId) : OwnV w base e (.slice none 0 0) [] := World.ownsRow_nil w base e 1

theorem OwnV.kept {w w' : World} {base : Nat} {e : TypeId} {v : Value} {xs : List Value} {row : Option Nat} (h : OwnV w base e v xs) (hg : w.grownBy w' row) (hne : v.ownBlock = none ∨ v.ownBlock ≠ row) : OwnV w' base e v xs :=
  World.ownsRow.kept h hg hne

theorem OwnV.alloc {w : World} {base : Nat} {e : TypeId} {v : Value} {xs : List Value} (h : OwnV w base e v xs) (o : Obj) : OwnV (w.alloc o) base e v xs := World.ownsRow.alloc h o

theorem OwnV.lit (w : World) (base : Nat) (e : TypeId) (cs : Array Value) (hb : base ≤ w.heap.size) (hm : cs.size ≤ maxLen) : OwnV (w.alloc (.cells cs e)) base e (.slice (some ⟨w.heap.size, 0, none⟩) cs.size cs.size) cs.toList := by
  unfold OwnV
  rw [Array.length_toList]
  exact World.ownsRow_lit w cs cs.size hb hm (by simp)

/-- Its shape, its cells. -/
theorem OwnV.form {w : World} {base : Nat} {e : TypeId} {v : Value} {xs : List Value} (h : OwnV w base e v xs) :
    (v = .slice none 0 0 ∧ xs = []) ∨ ∃ g cap, v = .slice (some ⟨g, 0, none⟩) xs.length cap ∧ base ≤ g ∧ g < w.heap.size ∧ xs.length ≤ cap ∧ cap ≤ maxLen ∧ (∀ j, j < xs.length → w.cell? ⟨g, j, none⟩ = xs[j]?) ∧ (∀ j, w.frozen? ⟨g, j, none⟩ = false) := by
  rcases h.2 with ⟨rfl, h0⟩ | ⟨g, cap, cur, rfl, hb, hg, hn, hm, hs, ht⟩
  · exact .inl ⟨rfl, List.eq_nil_of_length_eq_zero h0⟩
  · refine .inr ⟨g, cap, rfl, hb, (Array.getElem?_eq_some_iff.1 hg).1, hn, hm, fun j hj => ?_, fun j => by simp [World.frozen?, hg]⟩
    have h1 : w.cell? ⟨g, j, none⟩ = cur[j]? := by simp [World.cell?, hg]
    rw [h1, ← ht, List.getElem?_take, if_pos (by omega)]
    simp

theorem OwnV.src {w : World} {base : Nat} {e : TypeId} {A : Option Addr} {n c : Nat} {xs : List Value} (h : OwnV w base e (.slice A n c) xs) : Src w A xs := by
  rcases h.form with ⟨_, rfl⟩ | ⟨g, cap, hv, _, _, _, _, hc, _⟩
  · exact .inl rfl
  · injection hv with hA
    refine .inr ⟨⟨g, 0, none⟩, hA, fun j u hu => ?_⟩
    rw [mk_addr_add, Nat.zero_add, hc j (List.getElem?_eq_some_iff.1 hu).1]
    exact hu

theorem src_one (w : World) (u : Value) (t : TypeId) : Src (w.alloc (.cells #[u] t)) (some ⟨w.heap.size, 0, none⟩) [u] :=
  (OwnV.lit w 0 t #[u] (Nat.zero_le _) (by simp [maxLen])).src

theorem OwnV.base {w : World} {base base' : Nat} {e : TypeId} {v : Value} {xs : List Value} (h : OwnV w base e v xs) (hb : base' ≤ base) : OwnV w base' e v xs := by
  obtain ⟨h1, h2⟩ := h
  refine ⟨h1, ?_⟩
  rcases h2 with h2 | ⟨g, cap, cur, hv, hg, r⟩
  · exact .inl h2
  · exact .inr ⟨g, cap, cur, hv, Nat.le_trans hb hg, r⟩

theorem OwnV.row {w : World} {base : Nat} {e : TypeId} {v : Value} {xs : List Value} (h : OwnV w base e v xs) : ∀ r, v.ownBlock = some r → base ≤ r ∧ r < w.heap.size := World.ownsRow.lt h

section
variable {P : Program} (w : World)

theorem run_append_nothing (base : Nat) (t ty e : TypeId) (i : TypeInfo) (ht : P.underlying t = some (.slice e)) (hi : P.info? e = some i)
    (v : Value) (xs : List Value) (hown : OwnV w base e v xs) (c : Nat) : (Builtin.append_ #[t, t] ty #[v, .slice none 0 c]).run P w = .ok v w := by
  rcases hown.form with ⟨rfl, rfl⟩ | ⟨g, cap, rfl, _, _, hn, _⟩
  · simp [Builtin.append_, run_underlying ht, sizeOf, typeInfo, hi, Builtin.lenOf, Builtin.firstCells]
  · simp [Builtin.append_, run_underlying ht, sizeOf, typeInfo, hi, Builtin.lenOf, Builtin.firstCells, hn, storeCells]

/-- WHAT AN APPEND MAKES. -/
def AppPost (w : World) (base : Nat) (e : TypeId) (v : Value) (xs ys : List Value) (v' : Value) (w' : World) : Prop :=
  OwnV w' base e v' (xs ++ ys) ∧ w.grownBy w' v.ownBlock ∧ (v'.ownBlock = v.ownBlock ∨ v'.ownBlock = some w.heap.size)

theorem run_app (base : Nat) (t ty e : TypeId) (z : Value) (bytes : Nat) (ht : P.underlying t = some (.slice e)) (hinfo : (P.info? e).map (fun i => (i.zero, i.size, i.bytes)) = some (some z, 1, bytes)) (hz1 : z.cells.size = 1)
    (v : Value) (xs : List Value) (hown : OwnV w base e v xs) (A : Option Addr) (m c : Nat) (ys : List Value) (hm : ys.length = m) (hs : Src w A ys) (h1 : ∀ u ∈ ys, u.oneCell' = true)
    (h63 : xs.length + ys.length ≤ maxLen) (hbytes : (xs.length + ys.length) * bytes ≤ 140737488355328) (hbase : base ≤ w.heap.size) :
    ∃ v' w', (Builtin.append_ #[t, t] ty #[v, .slice A m c]).run P w = .ok v' w' ∧ AppPost w base e v xs ys v' w' := by
  obtain ⟨i, hi, hz0, hsz, hb⟩ := info_parts hinfo
  subst hm
  rcases A with _ | ad
  · obtain rfl : ys = [] := by
      rcases hs with h | ⟨ad, h, _⟩
      · exact h
      · cases h
    exact ⟨v, w, run_append_nothing w base t ty e i ht hi v xs hown c, by simpa using hown, World.grownBy.refl w _, .inl rfl⟩
  · have hcells : ∀ j u, ys[j]? = some u → w.cell? (ad.add j) = some u := by
      intro j u hu
      rcases hs with rfl | ⟨ad', h, hc⟩
      · simp at hu
      · injection h with h
        subst h
        exact hc j u hu
    obtain ⟨v', w', hrun, h2, h3, _, h5⟩ := run_append_own_at (P := P) w base t ty e i z 1 bytes ht hi hz0 hsz hb hz1 (by decide) v xs.length xs hown ad ys.length c ys (by simp) hcells h1 h63 hbytes hbase
    refine ⟨v', w', hrun, ?_, h3, h5⟩
    unfold OwnV
    rw [List.length_append]
    exact h2

/-- One element more: what lay below base lies as it lay. -/
theorem AppPost.below {w : World} {base : Nat} {e : TypeId} {v : Value} {xs ys : List Value} {v' : Value} {w' : World} (h : AppPost w base e v xs ys v' w') (hown : OwnV w base e v xs) (hb : base ≤ w.heap.size) : Below base w w' :=
  (Below.refl _ _).grown h.2.1 hb (fun r e => (hown.row r e).1)

theorem wpList_app {ops : Array Oper} {rest : List Oper} {o : Oper} {a : Act} {Q : Exit → Act → World → Prop} (hgd : o.guard = none) (s x : Operand) (t : TypeId)
    (ho : o.op = .call { callee := .builtin .append, args := #[s, x], argTypes := #[t, t] })
    (base : Nat) (e : TypeId) (z : Value) (bytes : Nat) (ht : P.underlying t = some (.slice e)) (hinfo : (P.info? e).map (fun i => (i.zero, i.size, i.bytes)) = some (some z, 1, bytes)) (hz1 : z.cells.size = 1)
    (v : Value) (xs : List Value) (hv : a.eval s = v) (hown : OwnV w base e v xs) (A : Option Addr) (m c : Nat) (ys : List Value) (hx : a.eval x = .slice A m c) (hm : ys.length = m) (hs : Src w A ys) (h1 : ∀ u ∈ ys, u.oneCell' = true)
    (h63 : xs.length + ys.length ≤ maxLen) (hbytes : (xs.length + ys.length) * bytes ≤ 140737488355328) (hbase : base ≤ w.heap.size)
    (h : ∀ v' w', AppPost w base e v xs ys v' w' → wpList P ops Q rest (a.put o.dst v') w') : wpList P ops Q (o :: rest) a w :=
  wpList_plain hgd fun _ hK => by
    obtain ⟨v', w', hrun, hp⟩ := run_app (P := P) w base t o.type e z bytes ht hinfo hz1 v xs hown A m c ys hm hs h1 h63 hbytes hbase
    unfold Oper.wp execOp
    simp only [ho, resolve, invoke, builtin, Sem.run_bind, Sem.run_pure, Result.andThen_ok, List.map_toArray, List.map_cons, List.map_nil, hv, hx, hrun]
    exact hK _ _ (h v' w' hp)

end

/-- A byte's cell. -/
def encB (c : UInt8) : Value := .int .u8 (c.toNat : Int)

theorem encB_at (bs : List UInt8) (j : Nat) (hj : j < bs.length) : (bs.map encB)[j]? = some (.int .u8 (byteAt bs j)) := by
  simp [encB, byteAt, List.getElem?_eq_getElem hj]

theorem encB_one (bs : List UInt8) : ∀ u ∈ bs.map encB, u.oneCell' = true := by
  intro u hu
  obtain ⟨c, _, rfl⟩ := List.mem_map.1 hu
  rfl

theorem RdB.src {w : World} {B : Nat} {a : Option Addr} {bs : List UInt8} (h : RdB w B a bs) : Src w a (bs.map encB) := by
  rcases h with rfl | ⟨b, o, e, _, hc⟩
  · exact .inl rfl
  · refine .inr ⟨_, e, fun j u hu => ?_⟩
    have hj : j < bs.length := by
      have := (List.getElem?_eq_some_iff.1 hu).1
      simpa using this
    rw [encB_at bs j hj] at hu
    injection hu with hu
    subst hu
    rw [mk_addr_add]
    exact hc j hj

/-- Bytes of the call's own. -/
theorem OwnV.bytes {w : World} {base : Nat} {e : TypeId} {v : Value} {bs : List UInt8} (h : OwnV w base e v (bs.map encB)) :
    ∃ a c, v = .slice a bs.length c ∧ bs.length ≤ c ∧ RdB w w.heap.size a bs ∧ (∀ p, a = some p → base ≤ p.block ∧ p.block < w.heap.size) := by
  rcases h.form with ⟨rfl, hx⟩ | ⟨g, cap, rfl, hb, hlt, hn, _, hc, _⟩
  · obtain rfl : bs = [] := by simpa using hx
    exact ⟨none, 0, rfl, Nat.le_refl _, .inl rfl, fun p hp => by cases hp⟩
  · rw [List.length_map] at hn
    refine ⟨some ⟨g, 0, none⟩, cap, by rw [List.length_map], hn, .inr ⟨g, 0, rfl, hlt, fun j hj => ?_⟩, fun p hp => by cases hp; exact ⟨hb, hlt⟩⟩
    rw [Nat.zero_add, hc j (by simpa using hj), encB_at bs j hj]

/-! ### Cuts of a slice -/

/-- Where a cut of a slice lies. -/
def subA (a : Option Addr) (l m : Nat) : Option Addr := if m = l then a else a.map (·.add (l * 1))

theorem subA_block {a : Option Addr} {l m : Nat} {q : Addr} (h : subA a l m = some q) : ∃ p, a = some p ∧ q.block = p.block := by
  unfold subA at h
  split at h
  · exact ⟨q, h, rfl⟩
  · rcases a with _ | p
    · cases h
    · refine ⟨p, rfl, ?_⟩
      have : p.add (l * 1) = q := by simpa using h
      rw [← this]
      unfold Addr.add
      split <;> rfl

theorem RdB.cut {w : World} {B : Nat} {a : Option Addr} {bs : List UInt8} (h : RdB w B a bs) (l m k : Nat) (hm : l + k ≤ m) : RdB w B (subA a l m) ((bs.drop l).take k) := by
  rcases h with rfl | ⟨b, o, rfl, hlt, hc⟩
  · exact .inl (by simp)
  · by_cases hk : k = 0
    · subst hk
      exact .inl (by simp)
    · refine .inr ⟨b, o + l, ?_, hlt, fun j hj => ?_⟩
      · unfold subA
        rw [if_neg (by omega)]
        simp [mk_addr_add]
      · simp at hj
        rw [byteAt_take _ _ _ (by omega), byteAt_drop, Nat.add_assoc]
        exact hc (l + j) (by omega)

section
variable {P : Program}

theorem run_cut3 (t e : TypeId) (ht : P.underlying t = some (.slice e)) (hz : ∀ w, (Go.sizeOf e).run P w = .ok 1 w) (a : Option Addr) (n cap l h m : Nat) (h1 : l ≤ h) (h2 : h ≤ m) (h3 : m ≤ cap) (w : World) :
    (Instr.slice t (.slice a n cap) (some (.int .i64 (l : Int))) (some (.int .i64 (h : Int))) (some (.int .i64 (m : Int)))).run P w = .ok (.slice (subA a l m) (h - l) (m - l)) w := by
  have ht' : P.underlying t = some (.slice (P.elem t)) := by simp [Program.elem, ht]
  have he : P.elem t = e := by simp [Program.elem, ht]
  rw [run_slice_lhm w t a n cap ht' .i64 .i64 .i64 l h m (by omega) (by omega) (by omega) (by omega), he, hz]
  simp [Result.andThen, sliced, subA]

theorem run_cut2 (t e : TypeId) (ht : P.underlying t = some (.slice e)) (hz : ∀ w, (Go.sizeOf e).run P w = .ok 1 w) (a : Option Addr) (n cap l h : Nat) (h1 : l ≤ h) (h2 : h ≤ cap) (w : World) :
    (Instr.slice t (.slice a n cap) (some (.int .i64 (l : Int))) (some (.int .i64 (h : Int))) none).run P w = .ok (.slice (subA a l cap) (h - l) (cap - l)) w := by
  have ht' : P.underlying t = some (.slice (P.elem t)) := by simp [Program.elem, ht]
  have he : P.elem t = e := by simp [Program.elem, ht]
  rw [run_slice_lh w t a n cap ht' .i64 .i64 l h (by omega) (by omega) (by omega), he, hz]
  simp [Result.andThen, sliced, subA]

theorem run_cut1 (t e : TypeId) (ht : P.underlying t = some (.slice e)) (hz : ∀ w, (Go.sizeOf e).run P w = .ok 1 w) (a : Option Addr) (n cap l : Nat) (h1 : l ≤ n) (w : World) :
    (Instr.slice t (.slice a n cap) (some (.int .i64 (l : Int))) none none).run P w = .ok (.slice (subA a l cap) (n - l) (cap - l)) w := by
  have ht' : P.underlying t = some (.slice (P.elem t)) := by simp [Program.elem, ht]
  have he : P.elem t = e := by simp [Program.elem, ht]
  rw [run_slice_l w t a n cap ht' .i64 l (by omega) (by omega), he, hz]
  simp [Result.andThen, sliced, subA]

/-- 'make([]T, 0, n)', T of one cell. -/
theorem run_make0 (t e : TypeId) (z : Value) (bytes : Nat) (ht : P.underlying t = some (.slice e)) (hinfo : (P.info? e).map (fun i => (i.zero, i.size, i.bytes)) = some (some z, 1, bytes)) (hz1 : z.cells = #[z])
    (n : Nat) (hbytes : bytes * n ≤ 281474976710656) (h63 : n ≤ 9223372036854775807) (w : World) :
    (Instr.makeSlice t (.int .i64 0) (.int .i64 (n : Int))).run P w = .ok (.slice (some ⟨w.heap.size, 0, none⟩) 0 n) (w.alloc (.cells (madeCells #[z] n) e)) := by
  obtain ⟨i, hi, hz0, hsz, hb⟩ := info_parts hinfo
  have hb' : (i.bytes : Int) * (n : Int) ≤ 281474976710656 := by
    have h : ((i.bytes * n : Nat) : Int) ≤ 281474976710656 := by rw [hb]; omega
    rwa [Int.natCast_mul] at h
  have hr := run_make (P := P) w t e i z ht hi hz0 .i64 .i64 0 n (by omega) (by omega) hb' (by omega)
  simp only [Int.toNat_natCast, hsz, Nat.mul_one, hz1] at hr
  exact hr

theorem OwnV.made (w : World) (base : Nat) (e : TypeId) (z : Value) (n : Nat) (hb : base ≤ w.heap.size) (hm : n ≤ maxLen) : OwnV (w.alloc (.cells (madeCells #[z] n) e)) base e (.slice (some ⟨w.heap.size, 0, none⟩) 0 n) [] :=
  World.ownsRow_made w (madeCells #[z] n) n hb hm (by rw [size_madeCells, Nat.mul_one])

end

/-! ### Lists of pieces -/

/-- A slice value that reads as these bytes, its block from B0 on, below B1. -/
def PieceV (w : World) (B0 B1 : Nat) (v : Value) (p : List UInt8) : Prop :=
  ∃ A c, v = .slice A p.length c ∧ p.length ≤ c ∧ RdB w B1 A p ∧ (∀ q, A = some q → B0 ≤ q.block ∧ q.block < B1)

/-- Slice values, one for each piece. -/
def Pcs (w : World) (B0 B1 : Nat) (vs : List Value) (ps : List (List UInt8)) : Prop :=
  vs.length = ps.length ∧ ∀ j, j < ps.length → PieceV w B0 B1 (vs[j]?.getD undef) (ps[j]?.getD [])

theorem PieceV.below {w w' : World} {B0 B1 : Nat} {v : Value} {p : List UInt8} (h : PieceV w B0 B1 v p) (hb : Below B1 w w') : PieceV w' B0 B1 v p := by
  obtain ⟨A, c, hv, hc, hr, ha⟩ := h
  exact ⟨A, c, hv, hc, hr.below hb, ha⟩

theorem PieceV.mono {w : World} {B0 B1 B2 : Nat} {v : Value} {p : List UInt8} (h : PieceV w B0 B1 v p) (hb : B1 ≤ B2) : PieceV w B0 B2 v p := by
  obtain ⟨A, c, hv, hc, hr, ha⟩ := h
  exact ⟨A, c, hv, hc, hr.mono hb, fun q hq => ⟨(ha q hq).1, Nat.lt_of_lt_of_le (ha q hq).2 hb⟩⟩

theorem Pcs.below {w w' : World} {B0 B1 : Nat} {vs : List Value} {ps : List (List UInt8)} (h : Pcs w B0 B1 vs ps) (hb : Below B1 w w') : Pcs w' B0 B1 vs ps := ⟨h.1, fun j hj => (h.2 j hj).below hb⟩

theorem Pcs.mono {w : World} {B0 B1 B2 : Nat} {vs : List Value} {ps : List (List UInt8)} (h : Pcs w B0 B1 vs ps) (hb : B1 ≤ B2) : Pcs w B0 B2 vs ps := ⟨h.1, fun j hj => (h.2 j hj).mono hb⟩

theorem Pcs.nil (w : World) (B0 B1 : Nat) : Pcs w B0 B1 [] [] := ⟨rfl, fun j hj => absurd hj (Nat.not_lt_zero j)⟩

theorem Pcs.snoc {w : World} {B0 B1 : Nat} {vs : List Value} {ps : List (List UInt8)} {v : Value} {p : List UInt8} (h : Pcs w B0 B1 vs ps) (hp : PieceV w B0 B1 v p) : Pcs w B0 B1 (vs ++ [v]) (ps ++ [p]) := by
  refine ⟨by simp [h.1], fun j hj => ?_⟩
  simp at hj
  by_cases e : j < ps.length
  · rw [List.getElem?_append_left (by rw [h.1]; exact e), List.getElem?_append_left e]
    exact h.2 j e
  · obtain rfl : j = ps.length := by omega
    rw [List.getElem?_append_right (by rw [h.1]; exact Nat.le_refl _), List.getElem?_append_right (Nat.le_refl _), h.1]
    simpa using hp

end Go.Proofs.Ytdnjoohicbdmiaa
