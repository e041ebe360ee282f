/- Joined texts. -/
import Derived.Test.YtkbnglcpcehaiaaDoorZJb
import Derived.Maps.AppendAt
import Derived.Laws.IdiomCopy
import Derived.Laws.OwnMore
import Derived.Deep.RegionLawGrows
import Derived.Test.YtkbnglcpcehaiaaDoorZJa
namespace Go.Proofs.YtkbnglcpcehaiaaDoor
open Go Go.RowKit Go.Shelf
set_option linter.unusedSimpArgs false
set_option linter.unusedVariables false
set_option maxRecDepth 100000

/-- The row at g holds these crossings, and may be written. -/
def RowX (w : World) (g : Nat) (zs : List Cr) : Prop := ∀ j, j < zs.length → CellX w g (j * 2) (atX zs j) ∧ ∀ i, i < 2 → w.frozen? ⟨g, j * 2 + i, none⟩ = false

theorem RowX.kept {w w' : World} {g : Nat} {zs : List Cr} (h : RowX w g zs) (hb : w'.heap[g]? = w.heap[g]?) : RowX w' g zs := fun j hj =>
  ⟨(h j hj).1.kept hb, fun i hi => (World.frozen?_of_block (a := ⟨g, j * 2 + i, none⟩) hb).trans ((h j hj).2 i hi)⟩

theorem RowX.rd {w : World} {g : Nat} {zs : List Cr} (h : RowX w g zs) {B : Nat} (hg : g < B) : RdX w B (some ⟨g, 0, none⟩) zs := .inr ⟨g, 0, rfl, hg, fun j hj => by rw [Nat.zero_add]; exact (h j hj).1⟩

/-- Crossings as cells, one behind another. -/
def flatX : List Cr → List Value
  | [] => []
  | p :: r => .int .u32 p.1.toNat :: .bool p.2 :: flatX r

theorem flatX_length : ∀ xs : List Cr, (flatX xs).length = xs.length * 2
  | [] => rfl
  | p :: r => by simp [flatX, flatX_length r]; omega

theorem flatX_at : ∀ (xs : List Cr) (k : Nat), k < xs.length → (flatX xs)[k * 2]? = some (.int .u32 (atX xs k).1.toNat) ∧ (flatX xs)[k * 2 + 1]? = some (.bool (atX xs k).2)
  | [], k, h => absurd h (Nat.not_lt_zero _)
  | p :: r, 0, _ => ⟨rfl, rfl⟩
  | p :: r, k + 1, h => by
    have := flatX_at r k (by simpa using h)
    rw [show (k + 1) * 2 = k * 2 + 1 + 1 by omega]
    simp only [flatX, List.getElem?_cons_succ]
    simpa [atX] using this

theorem flatX_one : ∀ (xs : List Cr) (u : Value), u ∈ flatX xs → u.oneCell' = true
  | [], u, h => by cases h
  | p :: r, u, h => by
    simp only [flatX, List.mem_cons] at h
    rcases h with rfl | rfl | h
    · rfl
    · rfl
    · exact flatX_one r u h

theorem flatX_append : ∀ xs ys : List Cr, flatX (xs ++ ys) = flatX xs ++ flatX ys
  | [], ys => rfl
  | p :: r, ys => by simp [flatX, flatX_append r ys]

theorem flatX_cell {w : World} {g o : Nat} {xs : List Cr} (h : ∀ j, j < xs.length → CellX w g (o + j * 2) (atX xs j)) (i : Nat) (u : Value) (hu : (flatX xs)[i]? = some u) : w.cell? ⟨g, o + i, none⟩ = some u := by
  have hi : i < xs.length * 2 := by
    have := (List.getElem?_eq_some_iff.1 hu).1
    rwa [flatX_length] at this
  have hk : i / 2 < xs.length := by omega
  obtain ⟨f0, f1⟩ := flatX_at xs _ hk
  obtain ⟨c0, c1⟩ := h _ hk
  rcases (show i % 2 = 0 ∨ i % 2 = 1 by omega) with hm | hm
  · have e : i = i / 2 * 2 := by omega
    rw [e, f0] at hu
    rw [e, ← hu]
    exact c0
  · have e : i = i / 2 * 2 + 1 := by omega
    rw [e, f1] at hu
    rw [e, ← hu]
    exact c1

theorem info_cross : (Tryd.prog.info? 27).map (fun i => (i.zero, i.size, i.bytes)) = some (some (.agg #[.int .u32 0, .bool false]), 2, 8) := by kernel_rfl

/-- What owns these crossings: nil, or a row from block B on. -/
theorem ownX_form {w' : World} {B : Nat} {v : Value} {xs : List Cr} (h : w'.ownsRow B 27 2 v xs.length (flatX xs)) :
    (v = .slice none 0 0 ∧ xs = []) ∨ ∃ g C, v = .slice (some ⟨g, 0, none⟩) xs.length C ∧ xs.length ≤ C ∧ B ≤ g ∧ g < w'.heap.size ∧ RowX w' g xs := by
  rcases h.2 with ⟨rfl, h0⟩ | ⟨gg, cp, cur, rfl, hb0, hg, hn9, hm9, hs9, htk⟩
  · exact .inl ⟨rfl, List.eq_nil_of_length_eq_zero h0⟩
  · have hlt := (Array.getElem?_eq_some_iff.1 hg).1
    refine .inr ⟨gg, cp, rfl, hn9, hb0, hlt, fun j hj => ?_⟩
    have hcell : ∀ i, i < xs.length * 2 → w'.cell? ⟨gg, i, none⟩ = (flatX xs)[i]? := fun i hi => by
      have h1 : w'.cell? ⟨gg, i, none⟩ = cur[i]? := by simp [World.cell?, hg]
      rw [h1, ← htk]
      simp [List.getElem?_take, hi]
    have hfr : ∀ i, w'.frozen? ⟨gg, i, none⟩ = false := fun i => h.frozenAt i
    obtain ⟨f0, f1⟩ := flatX_at xs j hj
    unfold CellX
    rw [hcell _ (by omega), hcell _ (by omega)]
    exact ⟨⟨f0, f1⟩, fun i _ => hfr _⟩

/-- An append in a region that draws its order, from its run. -/
theorem step_runX {P : Program} {ops : Array Oper} {o : Oper} {a : Act} {w : World} {K : Act → World → Prop} {Q : Exit → Act → World → Prop} {E : Prop} (hgd : o.guard = none) (s x : Operand) (t u : TypeId)
    (ho : o.op = .call { callee := .builtin .append, args := #[s, x], argTypes := #[t, u] }) (v y v' : Value) (w' : World) (hv : a.eval s = v) (hy : a.eval x = y)
    (hrun : (Builtin.append_ #[t, u] o.type #[v, y]).run P w = .ok v' w') (h : K (a.put o.dst v') w') : if Region.wanted o (yielded ops a.tmps) = true then Oper.wp P o a w K Q else E := by
  have hw : Region.wanted o (yielded ops a.tmps) = true := by simp [Region.wanted, hgd]
  rw [if_pos hw]
  unfold Oper.wp execOp
  simp only [ho, resolve, invoke, builtin, Sem.run_bind, Sem.run_pure, Result.andThen_ok, List.map_toArray, List.map_cons, List.map_nil, hv, hy, hrun]
  exact h

theorem run_app_nil {P : Program} (w : World) (base size : Nat) (t ty e : TypeId) (i : TypeInfo) (ht : P.underlying t = some (.slice e)) (hi : P.info? e = some i)
    (v : Value) (n : Nat) (xs : List Value) (hown : w.ownsRow base e size v n xs) (c : Nat) : (Builtin.append_ #[t, t] ty #[v, .slice none 0 c]).run P w = .ok v w := by
  rcases hown.2 with ⟨rfl, _⟩ | ⟨g, cap, cur, rfl, _, _, hn, _⟩
  · simp [Builtin.append_, run_underlying ht, sizeOf, typeInfo, hi, Builtin.lenOf, Builtin.firstCells]
  · simp [Builtin.append_, run_underlying ht, sizeOf, typeInfo, hi, Builtin.lenOf, Builtin.firstCells, hn, storeCells]

/-- Crossings appended onto crossings of the call's own. -/
theorem appX (w : World) (base : Nat) (v : Value) (zs : List Cr) (hown : w.ownsRow base 27 2 v zs.length (flatX zs)) (hbase : base ≤ w.heap.size) (a : Option Addr) (c B : Nat) (xs : List Cr) (hr : RdX w B a xs)
    (hlen : zs.length + xs.length ≤ 1000000) :
    ∃ v' w', (Builtin.append_ #[22, 22] 22 #[v, .slice a xs.length c]).run Tryd.prog w = .ok v' w' ∧ w'.ownsRow base 27 2 v' (zs ++ xs).length (flatX (zs ++ xs)) ∧ w.grownBy w' v.ownBlock := by
  obtain ⟨i, hi, hz, hs, hb⟩ := info_parts info_cross
  rcases a with _ | ad
  · obtain rfl : xs = [] := by
      rcases hr with h | ⟨g, o, h, _⟩
      · exact h
      · cases h
    refine ⟨v, w, run_app_nil w base 2 22 22 27 i Tryd.underlying22 hi v zs.length (flatX zs) hown c, ?_, World.grownBy.refl w _⟩
    rw [List.append_nil]
    exact hown
  · obtain ⟨v', w', hrun, h2, h3, _⟩ := run_append_own_at (P := Tryd.prog) w base 22 22 27 i _ 2 8 Tryd.underlying22 hi hz hs hb rfl (by decide) v zs.length (flatX zs) hown ad xs.length c (flatX xs) (flatX_length xs) (fun j u hu => by
      rcases hr with rfl | ⟨b, o, e, _, hc⟩
      · simp [flatX] at hu
      · cases e
        rw [mk_addr_add]
        exact flatX_cell hc j u hu) (flatX_one xs) (by unfold maxLen; omega) (by omega) hbase
    rw [flatX_append, List.length_append]
    exact ⟨v', w', hrun, h2, h3⟩

/-- The row of a list that is written out, or empty. -/
theorem own_empty (w : World) : (w.alloc (.cells #[] 27)).ownsRow w.heap.size 27 2 (.slice (some ⟨w.heap.size, 0, none⟩) 0 0) ([] : List Cr).length (flatX []) :=
  ⟨rfl, .inr ⟨w.heap.size, 0, #[], rfl, Nat.le_refl _, World.alloc_heap_new w _, ⟨Nat.le_refl _, by decide, rfl, rfl⟩⟩⟩

/-- One crossing appended onto a full slice. -/
theorem grow_one (w : World) (a : Option Addr) (xs : List Cr) (x : Cr) (g : Nat) (hlen : xs.length ≤ 1000000) (hr : RdX w w.heap.size a xs) (hnone : a = none → xs = [])
    (h0 : w.cell? ⟨g, 0, none⟩ = some (.int .u32 x.1.toNat)) (h1 : w.cell? ⟨g, 1, none⟩ = some (.bool x.2)) :
    ∃ v' w', (Builtin.append_ #[22, 22] 22 #[.slice a xs.length xs.length, .slice (some ⟨g, 0, none⟩) 1 1]).run Tryd.prog w = .ok v' w' ∧ w'.ownsRow w.heap.size 27 2 v' (xs ++ [x]).length (flatX (xs ++ [x])) ∧ w.grownBy w' none := by
  obtain ⟨i, hi, hz, hs, hb⟩ := info_parts info_cross
  have hn : ∀ j u, (flatX [x])[j]? = some u → w.cell? ((⟨g, 0, none⟩ : Addr).add j) = some u := fun j u hu => by
    rw [mk_addr_add, Nat.zero_add]
    have hj : j < 2 := by
      have := (List.getElem?_eq_some_iff.1 hu).1
      simpa [flatX] using this
    rcases (show j = 0 ∨ j = 1 by omega) with rfl | rfl
    · simp [flatX] at hu; rw [← hu]; exact h0
    · simp [flatX] at hu; rw [← hu]; exact h1
  rw [flatX_append, List.length_append]
  rcases a with _ | ad
  · obtain rfl := hnone rfl
    obtain ⟨v', w', hrun, r1, r2, _⟩ := run_append_own (P := Tryd.prog) w w.heap.size 22 22 27 i _ 2 8 Tryd.underlying22 hi hz hs hb rfl (by decide) (.slice none 0 0) 0 [] (World.ownsRow_nil w _ _ 2) ⟨g, 0, none⟩ 1 1 (flatX [x]) rfl hn (flatX_one [x]) (by decide) (by decide) (Nat.le_refl _)
    exact ⟨v', w', hrun, r1, r2⟩
  · obtain ⟨v', w', hrun, r1, r2⟩ := run_append_arg_grows (P := Tryd.prog) w 22 22 27 i _ 2 8 Tryd.underlying22 hi hz hs hb rfl (by decide) ad xs.length xs.length (flatX xs) (flatX_length xs) (fun j u hu => by
      rcases hr with rfl | ⟨b, o, e, _, hc⟩
      · simp [flatX] at hu
      · cases e
        rw [mk_addr_add]
        exact flatX_cell hc j u hu) ⟨g, 0, none⟩ 1 1 (flatX [x]) rfl hn (by omega) (by unfold maxLen; omega) (by omega)
    exact ⟨v', w', hrun, r1, r2⟩

end Go.Proofs.YtkbnglcpcehaiaaDoor

namespace Go.Proofs.YtkbnglcpcehaiaaDoor
open Go Go.RowKit Go.Shelf
set_option linter.unusedSimpArgs false
set_option linter.unusedVariables false
set_option maxRecDepth 100000

/-- With's error. -/
def wiE (xs : List Cr) (x : Cr) : Int := if rightX xs = false ∨ noGate x = true then 2 else if x ∈ xs then 150 else if xs.length = 64 then 151 else 0

def WithP (w : World) (bk : Bool) (xs : List Cr) (x : Cr) (e : Ending) (w' : World) : Prop :=
  Below w.heap.size w w' ∧ ((wiE xs x ≠ 0 ∧ e = .returned (.tuple #[.agg #[.bool false, .slice none 0 0], .int .i64 (wiE xs x)])) ∨
    (wiE xs x = 0 ∧ ∃ g C, e = .returned (.tuple #[.agg #[.bool bk, .slice (some ⟨g, 0, none⟩) (xs.length + 1) C], .int .i64 0]) ∧ xs.length + 1 ≤ C ∧ w.heap.size ≤ g ∧ g < w'.heap.size ∧ RowX w' g (xs ++ [x])))

/-- What holds of With's boxes. -/
def WiS (w : World) (n : Nat) (bk : Bool) (a : Option Addr) (m c : Nat) (x : Cr) : Prop :=
  ((w.cell? ⟨n, 0, none⟩ = some (.bool bk) ∧ w.cell? ⟨n, 1, none⟩ = some (.slice a m c)) ∧ (w.cell? ⟨n + 1, 0, none⟩ = some (.int .u32 x.1.toNat) ∧ w.cell? ⟨n + 1, 1, none⟩ = some (.bool x.2))) ∧
  (w.cell? ⟨n + 1 + 1 + 1, 0, none⟩ = some (.bool bk) ∧ w.cell? ⟨n + 1 + 1 + 1, 1, none⟩ = some (.slice a m c))

theorem frozen_at {w w' : World} {cs : Array Value} {t : TypeId} (h : Below (w.alloc (.cells cs t)).heap.size (w.alloc (.cells cs t)) w') (i : Nat) : w'.frozen? ⟨w.heap.size, i, none⟩ = false :=
  (h.frozen (p := ⟨w.heap.size, i, none⟩) (by simp)).trans (by simp)

theorem set2_cells {w : World} {b : Nat} {v0 v1 : Value} (h0 : w.cell? ⟨b, 0, none⟩ = some v0) (h1 : w.cell? ⟨b, 1, none⟩ = some v1) (u0 u1 : Value) :
    ((w.setCell ⟨b, 0, none⟩ u0).setCell ⟨b, 1, none⟩ u1).cell? ⟨b, 0, none⟩ = some u0 ∧ ((w.setCell ⟨b, 0, none⟩ u0).setCell ⟨b, 1, none⟩ u1).cell? ⟨b, 1, none⟩ = some u1 := by
  constructor <;> go_simp

theorem set1_cells {w : World} {b : Nat} {v0 v1 : Value} (h0 : w.cell? ⟨b, 0, none⟩ = some v0) (h1 : w.cell? ⟨b, 1, none⟩ = some v1) (u1 : Value) :
    (w.setCell ⟨b, 1, none⟩ u1).cell? ⟨b, 0, none⟩ = some v0 ∧ (w.setCell ⟨b, 1, none⟩ u1).cell? ⟨b, 1, none⟩ = some u1 := by
  constructor <;> go_simp

/-- Four boxes, and what holds of them later. -/
theorem boxes4 {w w' : World} {A B C D : Array Value} {tA tB tC tD : TypeId} (h : Below ((((w.alloc (.cells A tA)).alloc (.cells B tB)).alloc (.cells C tC)).alloc (.cells D tD)).heap.size ((((w.alloc (.cells A tA)).alloc (.cells B tB)).alloc (.cells C tC)).alloc (.cells D tD)) w') (i : Nat) :
    (w'.cell? ⟨w.heap.size, i, none⟩ = A[i]? ∧ w'.cell? ⟨w.heap.size + 1, i, none⟩ = B[i]? ∧ w'.cell? ⟨w.heap.size + 1 + 1, i, none⟩ = C[i]? ∧ w'.cell? ⟨w.heap.size + 1 + 1 + 1, i, none⟩ = D[i]?) ∧
    (w'.frozen? ⟨w.heap.size + 1 + 1, i, none⟩ = false ∧ w'.frozen? ⟨w.heap.size + 1 + 1 + 1, i, none⟩ = false) := by
  have h3 := below_on (below_al (Below.refl _ (((w.alloc (.cells A tA)).alloc (.cells B tB)).alloc (.cells C tC))) (.cells D tD)) h
  have h2 := below_on (below_al (Below.refl _ ((w.alloc (.cells A tA)).alloc (.cells B tB))) (.cells C tC)) h3
  have h1 := below_on (below_al (Below.refl _ (w.alloc (.cells A tA))) (.cells B tB)) h2
  have q0 := box_at h1 i
  have q1 := box_at h2 i
  have q2 := box_at h3 i
  have q3 := box_at h i
  have f2 := frozen_at h3 i
  have f3 := frozen_at h i
  simp only [World.size_alloc] at q1 q2 q3 f2 f3
  exact ⟨⟨q0, q1, q2, q3⟩, f2, f3⟩

set_option maxHeartbeats 8000000 in
theorem pwith_any (bk : Bool) (a : Option Addr) (c : Nat) (xs : List Cr) (x : Cr) (w : World) (hlen : xs.length ≤ 1000000) (hcap : xs.length ≤ c) (hr : RdX w w.heap.size a xs) :
    Calls Tryd.prog 9 #[.agg #[.bool bk, .slice a xs.length c], .agg #[.int .u32 x.1.toNat, .bool x.2]] w (WithP w bk xs x) := by
  have hnone : a = none → xs = [] := fun e => by
    rcases hr with h | ⟨b, o, h, _⟩
    · exact h
    · rw [e] at h; cases h
  have hgl := gate_lt x
  obtain ⟨W, hW⟩ : ∃ W, W = (((w.alloc (.cells #[.bool bk, .slice a xs.length c] 24)).alloc (.cells #[.int .u32 x.1.toNat, .bool x.2] 27)).alloc (.cells #[.bool false, .slice none 0 0] 24)).alloc (.cells #[.bool bk, .slice a xs.length c] 68) := ⟨_, rfl⟩
  have HB0 : Hid (Below w.heap.size w W) := by rw [hW]; exact below_al (below_al (below_al (below_al (Below.refl _ _) _) _) _) _
  have HX : Hid (∀ w', Below W.heap.size W w' → (((w'.cell? ⟨w.heap.size, 0, none⟩ = some (.bool bk) ∧ w'.cell? ⟨w.heap.size, 1, none⟩ = some (.slice a xs.length c)) ∧ (w'.cell? ⟨w.heap.size + 1, 0, none⟩ = some (.int .u32 x.1.toNat) ∧ w'.cell? ⟨w.heap.size + 1, 1, none⟩ = some (.bool x.2))) ∧
      ((w'.cell? ⟨w.heap.size + 1 + 1, 0, none⟩ = some (.bool false) ∧ w'.cell? ⟨w.heap.size + 1 + 1, 1, none⟩ = some (.slice none 0 0) ∧ w'.frozen? ⟨w.heap.size + 1 + 1, 0, none⟩ = false ∧ w'.frozen? ⟨w.heap.size + 1 + 1, 1, none⟩ = false) ∧
      (w'.cell? ⟨w.heap.size + 1 + 1 + 1, 0, none⟩ = some (.bool bk) ∧ w'.cell? ⟨w.heap.size + 1 + 1 + 1, 1, none⟩ = some (.slice a xs.length c) ∧ w'.frozen? ⟨w.heap.size + 1 + 1 + 1, 1, none⟩ = false)))) := fun w' h => by
    rw [hW] at h
    obtain ⟨a0, b0⟩ := boxes4 h 0
    obtain ⟨a1, b1⟩ := boxes4 h 1
    exact ⟨⟨⟨a0.1, a1.1⟩, a0.2.1, a1.2.1⟩, ⟨a0.2.2.1, a1.2.2.1, b0.1, b1.1⟩, a0.2.2.2, a1.2.2.2, b1.2⟩
  have HCk : Hid (∀ w', Below W.heap.size W w' → Calls Tryd.prog 17 #[.agg #[.bool bk, .slice a xs.length c]] w' fun e w'' => e = .returned (.int .i64 (chX xs)) ∧ Below w'.heap.size w' w'') := fun w' h => pcheck_any bk a c xs w' hlen ((hr.on HB0.out).on h)
  have HHs : Hid (∀ w', Below W.heap.size W w' → Calls Tryd.prog 15 #[.agg #[.bool bk, .slice a xs.length c], .agg #[.int .u32 x.1.toNat, .bool x.2]] w' fun e w'' => e = .returned (.bool (decide (x ∈ xs))) ∧ Below w'.heap.size w' w'') := fun w' h => phas_any bk a c xs x w' hlen ((hr.on HB0.out).on h)
  have HR : Hid (∀ w', Below W.heap.size W w' → RdX w' w'.heap.size a xs) := fun w' h => (hr.on HB0.out).on h
  have HG := Lib.hid (fun w => gateless_any x w)
  have HE : Hid (wiE xs x = if rightX xs = false ∨ noGate x = true then 2 else if x ∈ xs then 150 else if xs.length = 64 then 151 else 0) := rfl
  have HC : Hid (chX xs = if rightX xs = true then 0 else 2) := rfl
  have HW := Lib.hid hW
  have HN := Lib.hid hnone
  unfold WithP
  obtain ⟨E, hE⟩ : ∃ E, E = wiE xs x := ⟨_, rfl⟩
  rw [← hE] at HE ⊢
  clear hr hW hnone hE
  go_enter Tryd.func9, Tryd.ntmps9
  go_wp2_with fail
  refine wp_scope_on 0 rfl ?_
  obtain ⟨⟨⟨x0, x1⟩, x2, x3⟩, ⟨y0, y1, y2, y3⟩, z0, z1, z2⟩ := HX.out W (Below.refl _ _)
  cases hq : rightX xs
  · rw [hq, if_neg (by decide)] at HC
    rw [hq, if_pos (.inl rfl)] at HE
    rw [HC.out] at HCk
    clear hq
    go_wp2_with fail
    rw [← HW.out]
    refine (HCk.out W (Below.refl _ _)).mono ?_
    rintro e w1 ⟨rfl, hb⟩
    have HBw1 := Lib.hid hb
    clear hb x0 x1 x2 x3 y0 y1 y2 y3 z0 z1 z2
    obtain ⟨⟨⟨x0, x1⟩, x2, x3⟩, ⟨y0, y1, y2, y3⟩, z0, z1, z2⟩ := HX.out w1 HBw1.out
    go_wp2_with fail
    go_step3
    refine ⟨rfl, ?_⟩
    show Code.wp _ _ _ _ _
    go_wp2_with fail
    rw [Exit.noGoto_ret]
    have s2 := set2_cells y0 y1 (.bool false) (.slice none 0 0)
    refine bodyPost_ret (v := .tuple #[.agg #[.bool false, .slice none 0 0], .int .i64 2]) (by obtain ⟨s2, s3⟩ := s2; simp [results, Tryd.results9, go_sem, s2, s3]) rfl ⟨?_, .inl ⟨by rw [HE.out]; decide, by rw [HE.out]⟩⟩
    exact HB0.out.trans (((HBw1.out.mono HB0.out.size).setCell (by simp; omega) _).setCell (by simp; omega) _)
  · rw [hq, if_pos rfl] at HC
    rw [hq] at HE
    rw [HC.out] at HCk
    clear hq
    obtain ⟨q, hq⟩ : ∃ q, q = noGate x := ⟨_, rfl⟩
    rw [← hq] at HG HE
    clear hq
    go_wp2_with fail
    rw [← HW.out]
    refine (HCk.out W (Below.refl _ _)).mono ?_
    rintro e w1 ⟨rfl, hb⟩
    have HBw1 := Lib.hid hb
    clear hb x0 x1 x2 x3 y0 y1 y2 y3 z0 z1 z2
    obtain ⟨⟨⟨x0, x1⟩, x2, x3⟩, ⟨y0, y1, y2, y3⟩, z0, z1, z2⟩ := HX.out w1 HBw1.out
    go_wp2_with fail
    refine (HG.out w1).mono ?_
    rintro e w2 ⟨rfl, hb⟩
    have HBw2 := Lib.hid (below_on HBw1.out hb)
    clear hb x0 x1 x2 x3 y0 y1 y2 y3 z0 z1 z2
    obtain ⟨⟨⟨x0, x1⟩, x2, x3⟩, ⟨y0, y1, y2, y3⟩, z0, z1, z2⟩ := HX.out w2 HBw2.out
    cases q
    · rw [if_neg (by decide)] at HE
      obtain ⟨m, hm⟩ : ∃ m, m = decide (x ∈ xs) := ⟨_, rfl⟩
      have HM := Lib.hid hm
      rw [← hm] at HHs
      clear hm
      go_wp2_with fail
      refine (HHs.out w2 HBw2.out).mono ?_
      rintro e w3 ⟨rfl, hb⟩
      have HBw3 := Lib.hid (below_on HBw2.out hb)
      clear hb x0 x1 x2 x3 y0 y1 y2 y3 z0 z1 z2
      obtain ⟨⟨⟨x0, x1⟩, x2, x3⟩, ⟨y0, y1, y2, y3⟩, z0, z1, z2⟩ := HX.out w3 HBw3.out
      cases m
      · rw [if_neg (of_decide_eq_false HM.out.symm)] at HE
        by_cases h64 : xs.length = 64
        · rw [if_pos h64] at HE
          have e64 : ((xs.length : Int) == 64) = true := by simp; omega
          clear h64
          go_wp2_with fail
          go_step3
          refine ⟨rfl, ?_⟩
          show Code.wp _ _ _ _ _
          go_wp2_with fail
          rw [Exit.noGoto_ret]
          have s2 := set2_cells y0 y1 (.bool false) (.slice none 0 0)
          refine bodyPost_ret (v := .tuple #[.agg #[.bool false, .slice none 0 0], .int .i64 151]) (by obtain ⟨s2, s3⟩ := s2; simp [results, Tryd.results9, go_sem, s2, s3]) rfl ⟨?_, .inl ⟨by rw [HE.out]; decide, by rw [HE.out]⟩⟩
          exact HB0.out.trans (((HBw3.out.mono HB0.out.size).setCell (by simp; omega) _).setCell (by simp; omega) _)
        · rw [if_neg h64] at HE
          have e64 : ((xs.length : Int) == 64) = false := by simp; omega
          clear h64
          have hsl := fun w : World => cut_hm (P := Tryd.prog) 22 27 2 Tryd.underlying22 size_cross a xs.length c xs.length xs.length (Nat.le_refl _) hcap w
          obtain ⟨W8, hW8⟩ : ∃ W, W = w3.alloc (.cells #[.int .u32 x.1.toNat, .bool x.2] 27) := ⟨_, rfl⟩
          have hb8 : Below w3.heap.size w3 W8 := by rw [hW8]; exact below_al (Below.refl _ _) _
          obtain ⟨v4, w4, hrun, hown, hgr⟩ := grow_one W8.drew a xs x w3.heap.size hlen (HR.out W8.drew (below_on HBw3.out hb8.drew)) HN.out (by rw [hW8]; simp) (by rw [hW8]; simp)
          have hb4 : Below W8.heap.size W8 w4 := (Below.refl _ W8).drew.grown hgr (Nat.le_refl _) (fun r e => by cases e)
          rcases ownX_form hown with ⟨_, hbad⟩ | ⟨g, C, rfl, hC, hg0, hg1, hrow⟩
          · simp at hbad
          simp only [List.length_append, List.length_cons, List.length_nil, Nat.zero_add] at hrun hC
          have HRow := Lib.hid hrow
          have HB34 := Lib.hid (below_on hb8 hb4)
          have HB4 := Lib.hid (below_on HBw3.out (below_on hb8 hb4))
          have hg2 : w3.heap.size + 1 ≤ g := by
            have e : W8.heap.size = w3.heap.size + 1 := by rw [hW8]; simp
            have e2 : W8.heap.size ≤ g := hg0
            omega
          have HG2 := Lib.hid hg2
          obtain ⟨_, ⟨y0', y1', y2', y3'⟩, z0', z1', z2'⟩ := HX.out w4 HB4.out
          obtain ⟨⟨⟨t0, t1⟩, t2, t3⟩, _, t4, t5, t6⟩ := HX.out W8 (below_on HBw3.out hb8)
          have HRun := Lib.hid hrun
          rw [hW8] at HRun t0 t1 t2 t3 t4 t5 t6
          clear hrun hrow hown hgr hb4 hb8 hg0 hW8
          go_wp2_with fail
          have HSd : Hid (∀ w', Below w3.heap.size w3 w' → ((w'.cell? ⟨w.heap.size + 1, 0, none⟩ = some (.int .u32 x.1.toNat) ∧ w'.cell? ⟨w.heap.size + 1, 1, none⟩ = some (.bool x.2)) ∧ (w'.cell? ⟨w.heap.size + 1 + 1 + 1, 0, none⟩ = some (.bool bk) ∧ w'.cell? ⟨w.heap.size + 1 + 1 + 1, 1, none⟩ = some (.slice a xs.length c)))) := fun w' h => by
            obtain ⟨⟨_, h1⟩, _, h2, h3, _⟩ := HX.out w' (below_on HBw3.out h)
            exact ⟨h1, h2, h3⟩
          have hS0 := HSd.out w3.drew (Below.refl _ _).drew
          refine wp_region_T (fun w' => (w'.cell? ⟨w.heap.size + 1, 0, none⟩ = some (.int .u32 x.1.toNat) ∧ w'.cell? ⟨w.heap.size + 1, 1, none⟩ = some (.bool x.2)) ∧ (w'.cell? ⟨w.heap.size + 1 + 1 + 1, 0, none⟩ = some (.bool bk) ∧ w'.cell? ⟨w.heap.size + 1 + 1 + 1, 1, none⟩ = some (.slice a xs.length c))) 15 (by kernel_rfl) ?_
          refine wpAnyT_take (i := 0) (v := ?_) rfl (by kernel_rfl) (by kernel_rfl) (by kernel_rfl) (by kernel_rfl) (fun _ _ _ h => h) (Or.inl ⟨by rfl, ?_⟩) hS0 ?_
          rotate_left
          · intro w hSw
            (try dsimp only at hSw)
            go_simp
            all_goals with_reducible rfl
          simp only [Act.put, List.setIfInBounds_toArray, List.set_cons_zero, List.set_cons_succ]
          refine wpAnyT_take (i := 1) (v := ?_) rfl (by kernel_rfl) (by kernel_rfl) (by kernel_rfl) (by kernel_rfl) (fun _ _ _ h => h) (Or.inl ⟨by rfl, ?_⟩) hS0 ?_
          rotate_left
          · intro w hSw
            (try dsimp only at hSw)
            go_simp
            all_goals with_reducible rfl
          simp only [Act.put, List.setIfInBounds_toArray, List.set_cons_zero, List.set_cons_succ]
          refine wpAnyT_take (i := 2) (v := ?_) rfl (by kernel_rfl) (by kernel_rfl) (by kernel_rfl) (by kernel_rfl) (fun _ _ _ h => h) (Or.inl ⟨by rfl, ?_⟩) hS0 ?_
          rotate_left
          · intro w hSw
            (try dsimp only at hSw)
            go_simp
            all_goals with_reducible rfl
          simp only [Act.put, List.setIfInBounds_toArray, List.set_cons_zero, List.set_cons_succ]
          refine wpAnyT_take (i := 3) (v := ?_) rfl (by kernel_rfl) (by kernel_rfl) (by kernel_rfl) (by kernel_rfl) (fun _ _ _ h => h) (Or.inl ⟨by rfl, ?_⟩) hS0 ?_
          rotate_left
          · intro w hSw
            (try dsimp only at hSw)
            go_simp
            all_goals with_reducible rfl
          simp only [Act.put, List.setIfInBounds_toArray, List.set_cons_zero, List.set_cons_succ]
          refine wpAnyT_take (i := 4) (v := ?_) rfl (by kernel_rfl) (by kernel_rfl) (by kernel_rfl) (by kernel_rfl) (fun _ _ _ h => h) (Or.inl ⟨by rfl, ?_⟩) hS0 ?_
          rotate_left
          · intro w hSw
            (try dsimp only at hSw)
            go_simp
            all_goals with_reducible rfl
          simp only [Act.put, List.setIfInBounds_toArray, List.set_cons_zero, List.set_cons_succ]
          refine wpAnyT_take (i := 5) (v := ?_) rfl (by kernel_rfl) (by kernel_rfl) (by kernel_rfl) (by kernel_rfl) (fun _ _ _ h => h) (Or.inl ⟨by rfl, ?_⟩) hS0 ?_
          rotate_left
          · intro w hSw
            (try dsimp only at hSw)
            go_simp
            all_goals with_reducible rfl
          simp only [Act.put, List.setIfInBounds_toArray, List.set_cons_zero, List.set_cons_succ]
          refine wpAnyT_take (i := 6) (v := ?_) rfl (by kernel_rfl) (by kernel_rfl) (by kernel_rfl) (by kernel_rfl) (fun _ _ _ h => h) (Or.inl ⟨by rfl, ?_⟩) hS0 ?_
          rotate_left
          · intro w hSw
            (try dsimp only at hSw)
            go_simp
            all_goals with_reducible rfl
          simp only [Act.put, List.setIfInBounds_toArray, List.set_cons_zero, List.set_cons_succ]
          refine wpAnyT_take (i := 7) (v := ?_) rfl (by kernel_rfl) (by kernel_rfl) (by kernel_rfl) (by kernel_rfl) (fun _ _ _ h => h) (Or.inl ⟨by rfl, ?_⟩) hS0 ?_
          rotate_left
          · intro w hSw
            (try dsimp only at hSw)
            go_simp
            all_goals with_reducible rfl
          simp only [Act.put, List.setIfInBounds_toArray, List.set_cons_zero, List.set_cons_succ]
          refine wpAnyT_take (i := 8) (v := ?_) rfl (by kernel_rfl) (by kernel_rfl) (by kernel_rfl) (by kernel_rfl) (fun _ _ _ h => h) (Or.inl ⟨by rfl, ?_⟩) hS0 ?_
          rotate_left
          · intro w hSw
            (try dsimp only at hSw)
            go_simp
            all_goals with_reducible rfl
          simp only [Act.put, List.setIfInBounds_toArray, List.set_cons_zero, List.set_cons_succ]
          refine wpAnyT_take (i := 9) (v := ?_) rfl (by kernel_rfl) (by kernel_rfl) (by kernel_rfl) (by kernel_rfl) (fun _ _ _ h => h) (Or.inl ⟨by rfl, ?_⟩) hS0 ?_
          rotate_left
          · intro w hSw
            (try dsimp only at hSw)
            go_simp
            all_goals with_reducible rfl
          simp only [Act.put, List.setIfInBounds_toArray, List.set_cons_zero, List.set_cons_succ]
          refine wpAnyT_take (i := 10) (v := ?_) rfl (by kernel_rfl) (by kernel_rfl) (by kernel_rfl) (by kernel_rfl) (fun _ _ _ h => h) (Or.inl ⟨by rfl, ?_⟩) hS0 ?_
          rotate_left
          · intro w hSw
            (try dsimp only at hSw)
            go_simp
            all_goals with_reducible rfl
          simp only [Act.put, List.setIfInBounds_toArray, List.set_cons_zero, List.set_cons_succ]
          refine wpAnyT_take (i := 11) (v := ?_) rfl (by kernel_rfl) (by kernel_rfl) (by kernel_rfl) (by kernel_rfl) (fun _ _ _ h => h) (Or.inl ⟨by rfl, ?_⟩) hS0 ?_
          rotate_left
          · intro w hSw
            (try dsimp only at hSw)
            go_simp
            all_goals with_reducible rfl
          simp only [Act.put, List.setIfInBounds_toArray, List.set_cons_zero, List.set_cons_succ]
          refine wpAnyT_take (i := 12) (v := ?_) rfl (by kernel_rfl) (by kernel_rfl) (by kernel_rfl) (by kernel_rfl) (fun _ _ _ h => h) (Or.inl ⟨by rfl, ?_⟩) hS0 ?_
          rotate_left
          · intro w hSw
            (try dsimp only at hSw)
            go_simp
            all_goals with_reducible rfl
          simp only [Act.put, List.setIfInBounds_toArray, List.set_cons_zero, List.set_cons_succ]
          refine wpAnyT_one (i := 13) (by kernel_rfl) rfl (fun K hK => ?_)
          go_simp
          refine hK.out _ _ (fun _ => HSd.out _ (below_al (Below.refl _ _).drew _)) ?_
          clear hK K
          try simp only [Act.put, List.setIfInBounds_toArray, List.set_cons_zero, List.set_cons_succ]
          refine wpAnyT_one (i := 14) (by kernel_rfl) rfl (fun K hK => ?_)
          refine step_runX (by rfl) _ _ _ _ (by rfl) _ _ _ _ (by rfl) (by rfl) HRun.out ?_
          refine hK.out _ _ (fun _ => HSd.out _ HB34.out) ?_
          clear hK K
          try simp only [Act.put, List.setIfInBounds_toArray, List.set_cons_zero, List.set_cons_succ]
          refine wpAnyT_one (i := 15) (by kernel_rfl) rfl (fun K hK => ?_)
          go_simp
          refine hK.out _ _ (fun h => absurd h (by decide)) ?_
          clear hK K
          try simp only [Act.put, List.setIfInBounds_toArray, List.set_cons_zero, List.set_cons_succ]
          refine wpAnyT_one (i := 16) (by kernel_rfl) rfl (fun K hK => ?_)
          go_simp
          refine hK.out _ _ (fun h => absurd h (by decide)) ?_
          clear hK K
          try simp only [Act.put, List.setIfInBounds_toArray, List.set_cons_zero, List.set_cons_succ]
          refine wpAnyT_one (i := 17) (by kernel_rfl) rfl (fun K hK => ?_)
          go_simp
          refine hK.out _ _ (fun h => absurd h (by decide)) ?_
          clear hK K
          try simp only [Act.put, List.setIfInBounds_toArray, List.set_cons_zero, List.set_cons_succ]
          refine wpAnyT_done (by kernel_rfl) ?_ _
          have z3 := set1_cells z0' z1' (.slice (some ⟨g, 0, none⟩) (xs.length + 1) C)
          have y4 : (w4.setCell ⟨w.heap.size + 1 + 1 + 1, 1, none⟩ (.slice (some ⟨g, 0, none⟩) (xs.length + 1) C)).cell? ⟨w.heap.size + 1 + 1, 0, none⟩ = some (.bool false) := by
            rw [World.cell?_setCell_far _ _ _ _ (by simp)]
            exact y0'
          have y5 : (w4.setCell ⟨w.heap.size + 1 + 1 + 1, 1, none⟩ (.slice (some ⟨g, 0, none⟩) (xs.length + 1) C)).cell? ⟨w.heap.size + 1 + 1, 1, none⟩ = some (.slice none 0 0) := by
            rw [World.cell?_setCell_far _ _ _ _ (by simp)]
            exact y1'
          have y6 : (w4.setCell ⟨w.heap.size + 1 + 1 + 1, 1, none⟩ (.slice (some ⟨g, 0, none⟩) (xs.length + 1) C)).frozen? ⟨w.heap.size + 1 + 1, 0, none⟩ = false := by
            rw [World.frozen?_setCell]
            exact y2'
          have y7 : (w4.setCell ⟨w.heap.size + 1 + 1 + 1, 1, none⟩ (.slice (some ⟨g, 0, none⟩) (xs.length + 1) C)).frozen? ⟨w.heap.size + 1 + 1, 1, none⟩ = false := by
            rw [World.frozen?_setCell]
            exact y3'
          have hne : g ≠ w.heap.size + 1 + 1 + 1 ∧ g ≠ w.heap.size + 1 + 1 := by
            have h1 := HB0.out.size
            have h2 := HBw3.out.size
            have h3 : w.heap.size + 1 + 1 + 1 < W.heap.size := by rw [HW.out]; simp
            omega
          have HNE := Lib.hid hne
          obtain ⟨W5, hW5⟩ : ∃ W, W = w4.setCell ⟨w.heap.size + 1 + 1 + 1, 1, none⟩ (.slice (some ⟨g, 0, none⟩) (xs.length + 1) C) := ⟨_, rfl⟩
          have HB5 : Hid (Below w.heap.size w W5) := by
            rw [hW5]
            exact (HB0.out.trans (HB4.out.mono HB0.out.size)).setCell (by simp; omega) _
          have HRow5 : Hid (RowX W5 g (xs ++ [x]) ∧ W5.heap.size = w4.heap.size) := by
            rw [hW5]
            exact ⟨HRow.out.kept (Below.heap_setCell _ _ _ _ HNE.out.1), World.size_setCell _ _ _⟩
          rw [← hW5] at z3 y4 y5 y6 y7 ⊢
          obtain ⟨z3, z4⟩ := z3
          have HG1 := Lib.hid hg1
          clear hW5 hne x0 x1 x2 x3 y0 y1 y2 y3 z0 z1 z2 t0 t1 t2 t3 t4 t5 t6 y0' y1' y2' y3' z0' z1' z2' hS0 hsl hg1 hg2
          go_wp2_with fail
          simp only [Exit.jump]
          have s2 := set2_cells y4 y5 (.bool bk) (.slice (some ⟨g, 0, none⟩) (xs.length + 1) C)
          refine bodyPost_ret (v := .tuple #[.agg #[.bool bk, .slice (some ⟨g, 0, none⟩) (xs.length + 1) C], .int .i64 0]) (by obtain ⟨s2, s3⟩ := s2; simp [results, Tryd.results9, go_sem, s2, s3]) rfl ⟨?_, .inr ⟨by rw [HE.out], g, C, rfl, hC, ?_, ?_, ?_⟩⟩
          · exact (HB5.out.setCell (by simp; omega) _).setCell (by simp; omega) _
          · have h1 := HB0.out.size
            have h2 := HBw3.out.size
            have h3 := HG1.out
            have h4 : w3.heap.size + 1 ≤ g := HG2.out
            omega
          · rw [World.size_setCell, World.size_setCell, HRow5.out.2]
            exact HG1.out
          · exact (HRow5.out.1.kept (Below.heap_setCell _ _ _ _ HNE.out.2)).kept (Below.heap_setCell _ _ _ _ HNE.out.2)
      · rw [if_pos (of_decide_eq_true HM.out.symm)] at HE
        go_wp2_with fail
        go_step3
        refine ⟨rfl, ?_⟩
        show Code.wp _ _ _ _ _
        go_wp2_with fail
        rw [Exit.noGoto_ret]
        have s2 := set2_cells y0 y1 (.bool false) (.slice none 0 0)
        refine bodyPost_ret (v := .tuple #[.agg #[.bool false, .slice none 0 0], .int .i64 150]) (by obtain ⟨s2, s3⟩ := s2; simp [results, Tryd.results9, go_sem, s2, s3]) rfl ⟨?_, .inl ⟨by rw [HE.out]; decide, by rw [HE.out]⟩⟩
        exact HB0.out.trans (((HBw3.out.mono HB0.out.size).setCell (by simp; omega) _).setCell (by simp; omega) _)
    · rw [if_pos (.inr rfl)] at HE
      go_wp2_with fail
      go_step3
      refine ⟨rfl, ?_⟩
      show Code.wp _ _ _ _ _
      go_wp2_with fail
      rw [Exit.noGoto_ret]
      have s2 := set2_cells y0 y1 (.bool false) (.slice none 0 0)
      refine bodyPost_ret (v := .tuple #[.agg #[.bool false, .slice none 0 0], .int .i64 2]) (by obtain ⟨s2, s3⟩ := s2; simp [results, Tryd.results9, go_sem, s2, s3]) rfl ⟨?_, .inl ⟨by rw [HE.out]; decide, by rw [HE.out]⟩⟩
      exact HB0.out.trans (((HBw2.out.mono HB0.out.size).setCell (by simp; omega) _).setCell (by simp; omega) _)

end Go.Proofs.YtkbnglcpcehaiaaDoor

namespace Go.Proofs.YtkbnglcpcehaiaaDoor
open Go Go.RowKit Go.Shelf
set_option linter.unusedSimpArgs false
set_option linter.unusedVariables false
set_option maxRecDepth 100000

/-- The same? -/
def sameP (b b' : Bool) (xs ys : List Cr) : Bool := decide (b = b' ∧ xs = ys)

theorem sameP_bool {b b' : Bool} {xs ys : List Cr} (h : ¬ b = b') : sameP b b' xs ys = false := by simp [sameP, h]
theorem sameP_len {b b' : Bool} {xs ys : List Cr} (h : ¬ xs.length = ys.length) : sameP b b' xs ys = false := by
  have : ¬ xs = ys := fun e => h (by rw [e])
  simp [sameP, this]
theorem sameP_at {b b' : Bool} {xs ys : List Cr} {k : Nat} (hk : k < xs.length) (hk' : k < ys.length) (h : ¬ atX xs k = atX ys k) : sameP b b' xs ys = false := by
  have : ¬ xs = ys := fun e => h (by rw [e])
  simp [sameP, this]
theorem sameX_step {xs ys : List Cr} {k : Nat} (hk : k < xs.length) (hk' : k < ys.length) (h : xs.take k = ys.take k) (h1 : atX xs k = atX ys k) : xs.take (k + 1) = ys.take (k + 1) := by
  rw [take_atX xs k hk, take_atX ys k hk', h, h1]

set_option maxHeartbeats 8000000 in
theorem refPSame_any (b b' : Bool) (a a' : Option Addr) (c c' : Nat) (xs ys : List Cr) (w : World) (hlen : xs.length ≤ 1000000) (hlen' : ys.length ≤ 1000000) (hr : RdX w w.heap.size a xs) (hr' : RdX w w.heap.size a' ys) :
    Calls Tryd.prog 13 #[.agg #[.bool b, .slice a xs.length c], .agg #[.bool b', .slice a' ys.length c']] w fun e w' => e = .returned (.bool (sameP b b' xs ys)) ∧ Below w.heap.size w w' := by
  have HR := Lib.hid hr
  have HR' := Lib.hid hr'
  obtain ⟨V, hV⟩ : ∃ V, V = w.alloc (.cells #[.bool b, .slice a xs.length c] 24) := ⟨_, rfl⟩
  have HBV : Hid (Below w.heap.size w V) := by rw [hV]; exact below_al (Below.refl _ _) _
  have hVs : V.heap.size = w.heap.size + 1 := by rw [hV]; simp
  have HXV : Hid (∀ w', Below V.heap.size V w' → w'.cell? ⟨w.heap.size, 0, none⟩ = some (.bool b) ∧ w'.cell? ⟨w.heap.size, 1, none⟩ = some (.slice a xs.length c)) := by
    rw [hV]
    exact fun w' h => box2_all h
  obtain ⟨W, hW⟩ : ∃ W, W = V.alloc (.cells #[.bool b', .slice a' ys.length c'] 24) := ⟨_, rfl⟩
  have HBW : Hid (Below V.heap.size V W) := by rw [hW]; exact below_al (Below.refl _ _) _
  have HX : Hid (∀ w', Below W.heap.size W w' → (w'.cell? ⟨w.heap.size, 0, none⟩ = some (.bool b) ∧ w'.cell? ⟨w.heap.size, 1, none⟩ = some (.slice a xs.length c)) ∧ (w'.cell? ⟨w.heap.size + 1, 0, none⟩ = some (.bool b') ∧ w'.cell? ⟨w.heap.size + 1, 1, none⟩ = some (.slice a' ys.length c'))) := fun w' h => by
    refine ⟨HXV.out w' (below_on HBW.out h), ?_⟩
    rw [hW] at h
    have := box2_all h
    rw [hVs] at this
    exact this
  have HB0 : Hid (Below w.heap.size w W) := below_on HBV.out HBW.out
  have HW : Hid (W = (w.alloc (.cells #[.bool b, .slice a xs.length c] 24)).alloc (.cells #[.bool b', .slice a' ys.length c'] 24)) := by rw [hW, hV]; rfl
  have HEQ := Lib.hid (fun x y w => eqCross_run x y w)
  clear hr hr' hW hVs hV HXV
  by_cases hb : b = b'
  · subst hb
    have eb : (b == b) = true := by simp
    have eb' : (b != b) = false := by simp
    by_cases hl : xs.length = ys.length
    · have el : ((xs.length : Int) == (xs.length : Int)) = true := by simp
      have HLen := Lib.hid hl
      rw [← hl] at HX HW hlen' ⊢
      clear hl
      go_enter Tryd.func13, Tryd.ntmps13
      go_wp2_with fail
      rw [← HW.out]
      go_loopw [5] (fun i wr => ∃ k : Nat, k ≤ xs.length ∧ i = .int .i64 k ∧ Hid (xs.take k = ys.take k ∧ Below W.heap.size W wr)) (fun i _ => xs.length - (intOf i).toNat)
      case atStart => exact ⟨0, Nat.zero_le _, rfl, by simp, Below.refl _ _⟩
      case round =>
        obtain ⟨k, hk, rfl, HI⟩ := hrel
        obtain ⟨⟨x0, x1⟩, x2, x3⟩ := HX.out wr HI.out.2
        by_cases hlt : k < xs.length
        · have hlt' : k < ys.length := by rw [← HLen.out]; exact hlt
          have hBw := HB0.out.trans (HI.out.2.mono HB0.out.size)
          obtain ⟨g, o, rfl, hg, hc0⟩ := HR.out.cells k hlt
          obtain ⟨g', o', rfl, hg', hc0'⟩ := HR'.out.cells k hlt'
          obtain ⟨q0, q1⟩ := hc0.kept (hBw.block g hg)
          obtain ⟨r0, r1⟩ := hc0'.kept (hBw.block g' hg')
          clear hc0 hc0' hBw
          have HS : Hid (atX xs k = atX ys k → xs.take (k + 1) = ys.take (k + 1)) := sameX_step hlt hlt' HI.out.1
          have HN : Hid (¬ atX xs k = atX ys k → sameP b b xs ys = false) := sameP_at hlt hlt'
          have he := fun w => HEQ.out (atX xs k) (atX ys k) w
          generalize atX xs k = x at *
          generalize atX ys k = y at *
          by_cases hq : x = y
          · rw [decide_eq_true hq] at he
            have HQ := Lib.hid (HS.out hq)
            clear hq hlt'
            go_wp2_with fail
            go_quiet (fail)
            go_wp2_with fail
            go_roundw
            case rel => exact ⟨k + 1, by omega, by go_num, HQ.out, below_dr HI.out.2 _⟩
            case measure => simp [intOf]; omega
          · rw [decide_eq_false hq] at he
            have HQ := Lib.hid (HN.out hq)
            clear hq hlt'
            go_wp2_with fail
            go_quiet (fail)
            go_wp2_with fail
            go_ret
            exact ⟨by rw [HQ.out]; rfl, HB0.out.trans ((below_dr HI.out.2 _).mono HB0.out.size)⟩
        · obtain rfl : k = xs.length := by omega
          have h := HI.out
          rw [List.take_length, HLen.out, List.take_length] at h
          have h2 : sameP b b xs ys = true := by simp [sameP, h.1]
          have HI2 := Lib.hid h.2
          have H2 := Lib.hid h2
          clear h h2 HI
          go_wp2_with fail
          go_ret
          exact ⟨by rw [H2.out]; rfl, HB0.out.trans (HI2.out.mono HB0.out.size)⟩
    · have HQ := Lib.hid (sameP_len (b := b) (b' := b) hl)
      have el : ((xs.length : Int) == (ys.length : Int)) = false := by simp; omega
      have el' : ((xs.length : Int) != (ys.length : Int)) = true := by simp; omega
      clear hl
      obtain ⟨⟨x0, x1⟩, x2, x3⟩ := HX.out W (Below.refl _ _)
      go_enter Tryd.func13, Tryd.ntmps13
      go_wp2_with fail
      go_ret
      exact ⟨by rw [HQ.out]; rfl, HW.out ▸ HB0.out⟩
  · have HQ := Lib.hid (sameP_bool (xs := xs) (ys := ys) hb)
    have eb : (b == b') = false := by simpa using hb
    have eb' : (b != b') = true := by simpa using hb
    clear hb
    go_enter Tryd.func13, Tryd.ntmps13
    go_wp2_with fail
    go_ret
    exact ⟨by rw [HQ.out]; rfl, HW.out ▸ HB0.out⟩

end Go.Proofs.YtkbnglcpcehaiaaDoor

namespace Go.Proofs.YtkbnglcpcehaiaaDoor
open Go Go.RowKit Go.Shelf
set_option linter.unusedSimpArgs false
set_option linter.unusedVariables false
set_option maxRecDepth 100000

/-- Three boxes, and what holds of them later. -/
theorem boxes3 {w w' : World} {A B C : Array Value} {tA tB tC : TypeId} (h : Below (((w.alloc (.cells A tA)).alloc (.cells B tB)).alloc (.cells C tC)).heap.size (((w.alloc (.cells A tA)).alloc (.cells B tB)).alloc (.cells C tC)) w') (i : Nat) :
    (w'.cell? ⟨w.heap.size, i, none⟩ = A[i]? ∧ w'.cell? ⟨w.heap.size + 1, i, none⟩ = B[i]? ∧ w'.cell? ⟨w.heap.size + 1 + 1, i, none⟩ = C[i]?) ∧ w'.frozen? ⟨w.heap.size + 1 + 1, i, none⟩ = false := by
  have h2 := below_on (below_al (Below.refl _ ((w.alloc (.cells A tA)).alloc (.cells B tB))) (.cells C tC)) h
  have h1 := below_on (below_al (Below.refl _ (w.alloc (.cells A tA))) (.cells B tB)) h2
  have q0 := box_at h1 i
  have q1 := box_at h2 i
  have q2 := box_at h i
  have f2 := frozen_at h i
  simp only [World.size_alloc] at q1 q2 f2
  exact ⟨⟨q0, q1, q2⟩, f2⟩

def RWithP (w : World) (bk : Bool) (xs : List Cr) (x : Cr) (e : Ending) (w' : World) : Prop :=
  Below w.heap.size w w' ∧ ((wiE xs x ≠ 0 ∧ e = .returned (.tuple #[.agg #[.bool false, .slice none 0 0], .int .i64 (wiE xs x)])) ∨
    (wiE xs x = 0 ∧ ∃ g C, e = .returned (.tuple #[.agg #[.bool bk, .slice (some ⟨g, 0, none⟩) (xs.length + 1) C], .int .i64 0]) ∧ xs.length + 1 ≤ C ∧ RdX w' w'.heap.size (some ⟨g, 0, none⟩) (xs ++ [x])))

/-- A row of one crossing. -/
theorem rd_new (w : World) (x : Cr) : RdX (w.alloc (.cells #[.int .u32 x.1.toNat, .bool x.2] 27)) (w.alloc (.cells #[.int .u32 x.1.toNat, .bool x.2] 27)).heap.size (some ⟨w.heap.size, 0, none⟩) [x] := by
  refine .inr ⟨w.heap.size, 0, rfl, by simp, fun j hj => ?_⟩
  obtain rfl : j = 0 := by simp at hj; omega
  exact ⟨(box_at (Below.refl _ _) 0), (box_at (Below.refl _ _) 1)⟩

theorem rd_on {w : World} {a : Option Addr} {xs : List Cr} (h : RdX w w.heap.size a xs) (o : Obj) : RdX (w.alloc o).drew (w.alloc o).drew.heap.size a xs := h.on (below_dr (below_al (Below.refl w.heap.size w) o) 1)

theorem rd_new2 (w : World) (o : Obj) (x : Cr) : RdX ((w.alloc o).alloc (.cells #[.int .u32 x.1.toNat, .bool x.2] 27)).drew ((w.alloc o).alloc (.cells #[.int .u32 x.1.toNat, .bool x.2] 27)).drew.heap.size (some ⟨w.heap.size + 1, 0, none⟩) [x] := by
  have h := rd_new (w.alloc o) x
  have e : (w.alloc o).heap.size = w.heap.size + 1 := World.size_alloc w o
  rw [e] at h
  exact h

theorem rd_grown {w w' : World} {g : Nat} {row : Option Nat} {xs : List Cr} (h : RdX w w.heap.size (some ⟨g, 0, none⟩) xs) (hg : w.grownBy w' row) (hne : some g ≠ row) : RdX w' w'.heap.size (some ⟨g, 0, none⟩) xs := by
  rcases h with h | ⟨b, o, e, hlt, hc⟩
  · exact .inl h
  · cases e
    exact .inr ⟨g, 0, rfl, Nat.lt_of_lt_of_le hlt hg.size, fun j hj => (hc j hj).kept (hg.block g hlt hne)⟩

theorem own_empty2 (w : World) (o : Obj) : ((w.alloc o).alloc (.cells #[] 27)).drew.ownsRow w.heap.size 27 2 (.slice (some ⟨w.heap.size + 1, 0, none⟩) 0 0) ([] : List Cr).length (flatX []) := by
  have h := own_empty (w.alloc o)
  rw [World.size_alloc] at h
  obtain ⟨h1, h2⟩ := h
  refine ⟨h1, h2.imp id ?_⟩
  rintro ⟨g, cap, cur, e, hb, r⟩
  exact ⟨g, cap, cur, e, by omega, r⟩

set_option maxHeartbeats 16000000 in
theorem refWith_any (bk : Bool) (a : Option Addr) (c : Nat) (xs : List Cr) (x : Cr) (w : World) (hlen : xs.length ≤ 900000) (hcap : xs.length ≤ c) (hr : RdX w w.heap.size a xs) :
    Calls Tryd.prog 10 #[.agg #[.bool bk, .slice a xs.length c], .agg #[.int .u32 x.1.toNat, .bool x.2]] w (RWithP w bk xs x) := by
  have hgl := gate_lt x
  obtain ⟨W, hW⟩ : ∃ W, W = ((w.alloc (.cells #[.bool bk, .slice a xs.length c] 24)).alloc (.cells #[.int .u32 x.1.toNat, .bool x.2] 27)).alloc (.cells #[.bool false, .slice none 0 0] 24) := ⟨_, rfl⟩
  have HB0 : Hid (Below w.heap.size w W) := by rw [hW]; exact below_al (below_al (below_al (Below.refl _ _) _) _) _
  have HX : Hid (∀ w', Below W.heap.size W w' → ((w'.cell? ⟨w.heap.size, 0, none⟩ = some (.bool bk) ∧ w'.cell? ⟨w.heap.size, 1, none⟩ = some (.slice a xs.length c)) ∧ (w'.cell? ⟨w.heap.size + 1, 0, none⟩ = some (.int .u32 x.1.toNat) ∧ w'.cell? ⟨w.heap.size + 1, 1, none⟩ = some (.bool x.2))) ∧
      (w'.cell? ⟨w.heap.size + 1 + 1, 0, none⟩ = some (.bool false) ∧ w'.cell? ⟨w.heap.size + 1 + 1, 1, none⟩ = some (.slice none 0 0) ∧ w'.frozen? ⟨w.heap.size + 1 + 1, 0, none⟩ = false ∧ w'.frozen? ⟨w.heap.size + 1 + 1, 1, none⟩ = false)) := fun w' h => by
    rw [hW] at h
    obtain ⟨a0, b0⟩ := boxes3 h 0
    obtain ⟨a1, b1⟩ := boxes3 h 1
    exact ⟨⟨⟨a0.1, a1.1⟩, a0.2.1, a1.2.1⟩, a0.2.2, a1.2.2, b0, b1⟩
  have HCk : Hid (∀ w', Below W.heap.size W w' → Calls Tryd.prog 12 #[.agg #[.bool bk, .slice a xs.length c]] w' fun e w'' => e = .returned (.bool (rightX xs)) ∧ Below w'.heap.size w' w'') := fun w' h => refRight_any bk a c xs w' (by omega) hcap ((hr.on HB0.out).on h)
  have HHs : Hid (∀ w', Below W.heap.size W w' → Calls Tryd.prog 16 #[.agg #[.bool bk, .slice a xs.length c], .agg #[.int .u32 x.1.toNat, .bool x.2]] w' fun e w'' => e = .returned (.bool (decide (x ∈ xs))) ∧ Below w'.heap.size w' w'') := fun w' h => refHas_any bk a c xs x w' (by omega) ((hr.on HB0.out).on h)
  have HRa : Hid (∀ w', Below W.heap.size W w' → RdX w' w.heap.size a xs) := fun w' h => hr.below (HB0.out.trans (h.mono HB0.out.size))
  have HE : Hid (wiE xs x = if rightX xs = false ∨ noGate x = true then 2 else if x ∈ xs then 150 else if xs.length = 64 then 151 else 0) := rfl
  have hb : ((x.1.toNat : Int) == 0) = noGate x := by
    unfold noGate
    by_cases h : x.1.toNat = 0 <;> simp [h]
  have HW := Lib.hid hW
  unfold RWithP
  obtain ⟨E, hE⟩ : ∃ E, E = wiE xs x := ⟨_, rfl⟩
  rw [← hE] at HE ⊢
  clear hr hW hE
  obtain ⟨q, hq⟩ : ∃ q, q = noGate x := ⟨_, rfl⟩
  rw [← hq] at HE hb
  clear hq
  go_enter Tryd.func10, Tryd.ntmps10
  go_wp2_with fail
  rw [← HW.out]
  obtain ⟨⟨⟨x0, x1⟩, x2, x3⟩, y0, y1, y2, y3⟩ := HX.out W (Below.refl _ _)
  obtain ⟨r, hrr⟩ : ∃ r, r = rightX xs := ⟨_, rfl⟩
  rw [← hrr] at HCk HE
  clear hrr
  refine (HCk.out W (Below.refl _ _)).mono ?_
  rintro e w1 ⟨rfl, hbb⟩
  have HBw1 := Lib.hid hbb
  clear hbb x0 x1 x2 x3 y0 y1 y2 y3
  obtain ⟨⟨⟨x0, x1⟩, x2, x3⟩, y0, y1, y2, y3⟩ := HX.out w1 HBw1.out
  cases r
  · rw [if_pos (.inl rfl)] at HE
    go_wp2_with fail
    have s2 := set2_cells y0 y1 (.bool false) (.slice none 0 0)
    refine bodyPost_ret (v := .tuple #[.agg #[.bool false, .slice none 0 0], .int .i64 2]) (by obtain ⟨s2, s3⟩ := s2; simp [results, Tryd.results10, go_sem, s2, s3]) rfl ⟨?_, .inl ⟨by rw [HE.out]; decide, by rw [HE.out]⟩⟩
    exact HB0.out.trans (((HBw1.out.mono HB0.out.size).setCell (by simp; omega) _).setCell (by simp; omega) _)
  cases q
  case true =>
    rw [if_pos (.inr rfl)] at HE
    go_wp2_with fail
    have s2 := set2_cells y0 y1 (.bool false) (.slice none 0 0)
    refine bodyPost_ret (v := .tuple #[.agg #[.bool false, .slice none 0 0], .int .i64 2]) (by obtain ⟨s2, s3⟩ := s2; simp [results, Tryd.results10, go_sem, s2, s3]) rfl ⟨?_, .inl ⟨by rw [HE.out]; decide, by rw [HE.out]⟩⟩
    exact HB0.out.trans (((HBw1.out.mono HB0.out.size).setCell (by simp; omega) _).setCell (by simp; omega) _)
  rw [if_neg (by decide)] at HE
  obtain ⟨m, hm⟩ : ∃ m, m = decide (x ∈ xs) := ⟨_, rfl⟩
  have HM := Lib.hid hm
  rw [← hm] at HHs
  clear hm
  go_wp2_with fail
  refine (HHs.out w1 HBw1.out).mono ?_
  rintro e w2 ⟨rfl, hbb⟩
  have HBw2 := Lib.hid (below_on HBw1.out hbb)
  clear hbb x0 x1 x2 x3 y0 y1 y2 y3
  obtain ⟨⟨⟨x0, x1⟩, x2, x3⟩, y0, y1, y2, y3⟩ := HX.out w2 HBw2.out
  cases m
  case true =>
    rw [if_pos (of_decide_eq_true HM.out.symm)] at HE
    go_wp2_with fail
    have s2 := set2_cells y0 y1 (.bool false) (.slice none 0 0)
    refine bodyPost_ret (v := .tuple #[.agg #[.bool false, .slice none 0 0], .int .i64 150]) (by obtain ⟨s2, s3⟩ := s2; simp [results, Tryd.results10, go_sem, s2, s3]) rfl ⟨?_, .inl ⟨by rw [HE.out]; decide, by rw [HE.out]⟩⟩
    exact HB0.out.trans (((HBw2.out.mono HB0.out.size).setCell (by simp; omega) _).setCell (by simp; omega) _)
  rw [if_neg (of_decide_eq_false HM.out.symm)] at HE
  by_cases h64 : xs.length = 64
  · rw [if_pos h64] at HE
    have e64 : ((xs.length : Int) == 64) = true := by simp; omega
    clear h64
    go_wp2_with fail
    have s2 := set2_cells y0 y1 (.bool false) (.slice none 0 0)
    refine bodyPost_ret (v := .tuple #[.agg #[.bool false, .slice none 0 0], .int .i64 151]) (by obtain ⟨s2, s3⟩ := s2; simp [results, Tryd.results10, go_sem, s2, s3]) rfl ⟨?_, .inl ⟨by rw [HE.out]; decide, by rw [HE.out]⟩⟩
    exact HB0.out.trans (((HBw2.out.mono HB0.out.size).setCell (by simp; omega) _).setCell (by simp; omega) _)
  rw [if_neg h64] at HE
  have e64 : ((xs.length : Int) == 64) = false := by simp; omega
  clear h64
  go_wp2_with fail
  have HSd : Hid (∀ w', Below w2.heap.size w2 w' → (w'.cell? ⟨w.heap.size, 0, none⟩ = some (.bool bk) ∧ w'.cell? ⟨w.heap.size, 1, none⟩ = some (.slice a xs.length c)) ∧ (w'.cell? ⟨w.heap.size + 1, 0, none⟩ = some (.int .u32 x.1.toNat) ∧ w'.cell? ⟨w.heap.size + 1, 1, none⟩ = some (.bool x.2))) := fun w' h => (HX.out w' (below_on HBw2.out h)).1
  have hS0 := HSd.out w2.drew (Below.refl _ _).drew
  refine wp_region_T (fun w' => (w'.cell? ⟨w.heap.size, 0, none⟩ = some (.bool bk) ∧ w'.cell? ⟨w.heap.size, 1, none⟩ = some (.slice a xs.length c)) ∧ (w'.cell? ⟨w.heap.size + 1, 0, none⟩ = some (.int .u32 x.1.toNat) ∧ w'.cell? ⟨w.heap.size + 1, 1, none⟩ = some (.bool x.2))) 10 (by kernel_rfl) ?_
  refine wpAnyT_take (i := 0) (v := ?_) rfl (by kernel_rfl) (by kernel_rfl) (by kernel_rfl) (by kernel_rfl) (fun _ _ _ h => h) (Or.inl ⟨by rfl, ?_⟩) hS0 ?_
  rotate_left
  · intro w hSw
    (try dsimp only at hSw)
    go_simp
    all_goals with_reducible rfl
  simp only [Act.put, List.setIfInBounds_toArray, List.set_cons_zero, List.set_cons_succ]
  refine wpAnyT_take (i := 1) (v := ?_) rfl (by kernel_rfl) (by kernel_rfl) (by kernel_rfl) (by kernel_rfl) (fun _ _ _ h => h) (Or.inl ⟨by rfl, ?_⟩) hS0 ?_
  rotate_left
  · intro w hSw
    (try dsimp only at hSw)
    go_simp
    all_goals with_reducible rfl
  simp only [Act.put, List.setIfInBounds_toArray, List.set_cons_zero, List.set_cons_succ]
  refine wpAnyT_take (i := 3) (v := ?_) rfl (by kernel_rfl) (by kernel_rfl) (by kernel_rfl) (by kernel_rfl) (fun _ _ _ h => h) (Or.inl ⟨by rfl, ?_⟩) hS0 ?_
  rotate_left
  · intro w hSw
    (try dsimp only at hSw)
    go_simp
    all_goals with_reducible rfl
  simp only [Act.put, List.setIfInBounds_toArray, List.set_cons_zero, List.set_cons_succ]
  refine wpAnyT_take (i := 4) (v := ?_) rfl (by kernel_rfl) (by kernel_rfl) (by kernel_rfl) (by kernel_rfl) (fun _ _ _ h => h) (Or.inl ⟨by rfl, ?_⟩) hS0 ?_
  rotate_left
  · intro w hSw
    (try dsimp only at hSw)
    go_simp
    all_goals with_reducible rfl
  simp only [Act.put, List.setIfInBounds_toArray, List.set_cons_zero, List.set_cons_succ]
  refine wpAnyT_take (i := 6) (v := ?_) rfl (by kernel_rfl) (by kernel_rfl) (by kernel_rfl) (by kernel_rfl) (fun _ _ _ h => h) (Or.inl ⟨by rfl, ?_⟩) hS0 ?_
  rotate_left
  · intro w hSw
    (try dsimp only at hSw)
    go_simp
    all_goals with_reducible rfl
  simp only [Act.put, List.setIfInBounds_toArray, List.set_cons_zero, List.set_cons_succ]
  have HRd : Hid (∀ w', Below w2.heap.size w2 w' → RdX w' w.heap.size a xs) := fun w' h => HRa.out w' (below_on HBw2.out h)
  clear x0 x1 x2 x3 y0 y1 y2 y3 hS0
  refine wpAnyT_two (i := 2) (k := 7) (by kernel_rfl) rfl rfl (fun K hK => ?_) (fun K hK => ?_)
  · go_simp
    refine hK.out _ _ (fun _ => HSd.out _ (below_dr (below_al (Below.refl w2.heap.size w2) (.cells #[] 27)) 1)) ?_
    clear hK K
    try simp only [Act.put, List.setIfInBounds_toArray, List.set_cons_zero, List.set_cons_succ]
    refine wpAnyT_two (i := 5) (k := 7) (by kernel_rfl) rfl rfl (fun K hK => ?_) (fun K hK => ?_)
    · obtain ⟨v1, w4, hrun1, hown1, hgr1⟩ := appX (w2.alloc (.cells #[] 27)).drew w2.heap.size (.slice (some ⟨w2.heap.size, 0, none⟩) 0 0) [] (own_empty w2) (below_dr (below_al (Below.refl w2.heap.size w2) (.cells #[] 27)) 1).size a c w.heap.size xs (HRd.out _ (below_dr (below_al (Below.refl w2.heap.size w2) (.cells #[] 27)) 1)) (by simp; omega)
      have HB4 : Hid (Below w2.heap.size w2 w4) := (below_dr (below_al (Below.refl w2.heap.size w2) (.cells #[] 27)) 1).grown hgr1 (below_dr (below_al (Below.refl w2.heap.size w2) (.cells #[] 27)) 1).size (fun r e => by cases e; simp)
      simp only [List.nil_append] at hown1
      have HG4 := Lib.hid hgr1
      refine step_runX (by rfl) _ _ _ _ (by rfl) _ _ _ _ (by rfl) (by rfl) hrun1 ?_
      refine hK.out _ _ (fun _ => HSd.out _ HB4.out) ?_
      clear hgr1 hrun1
      clear hK K
      try simp only [Act.put, List.setIfInBounds_toArray, List.set_cons_zero, List.set_cons_succ]
      refine wpAnyT_one (i := 7) (by kernel_rfl) rfl (fun K hK => ?_)
      go_simp
      refine hK.out _ _ (fun _ => HSd.out _ (below_al HB4.out (.cells #[.int .u32 x.1.toNat, .bool x.2] 27))) ?_
      clear hK K
      try simp only [Act.put, List.setIfInBounds_toArray, List.set_cons_zero, List.set_cons_succ]
      obtain ⟨v2, w6, hrun2, hown2, hgr2⟩ := appX (w4.alloc (.cells #[.int .u32 x.1.toNat, .bool x.2] 27)) w2.heap.size v1 xs (World.ownsRow.alloc hown1 _) (below_al HB4.out (.cells #[.int .u32 x.1.toNat, .bool x.2] 27)).size (some ⟨w4.heap.size, 0, none⟩) 1 (w4.alloc (.cells #[.int .u32 x.1.toNat, .bool x.2] 27)).heap.size [x] (rd_new w4 x) (by simp; omega)
      have HB6 : Hid (Below w2.heap.size w2 w6) := (below_al HB4.out (.cells #[.int .u32 x.1.toNat, .bool x.2] 27)).grown hgr2 (below_al HB4.out (.cells #[.int .u32 x.1.toNat, .bool x.2] 27)).size (fun r e => ((World.ownsRow.lt hown1) r e).1)
      refine wpAnyT_one (i := 8) (by kernel_rfl) rfl (fun K hK => ?_)
      refine step_runX (by rfl) _ _ _ _ (by rfl) _ _ _ _ (by rfl) (by rfl) hrun2 ?_
      refine hK.out _ _ (fun _ => HSd.out _ HB6.out) ?_
      clear hgr2 hrun2
      clear hK K
      try simp only [Act.put, List.setIfInBounds_toArray, List.set_cons_zero, List.set_cons_succ]
      rcases ownX_form hown2 with ⟨_, hbad⟩ | ⟨g, C, rfl, hC, hg0, hg1, hrow⟩
      · simp at hbad
      simp only [List.length_append, List.length_cons, List.length_nil, Nat.zero_add] at hC
      have HRow := Lib.hid hrow
      have HG0 : Hid (w2.heap.size ≤ g) := hg0
      have HGL := Lib.hid hg1
      clear hrow hg0 hg1 hown2
      refine wpAnyT_one (i := 9) (by kernel_rfl) rfl (fun K hK => ?_)
      go_simp
      refine hK.out _ _ (fun _ => HSd.out _ HB6.out) ?_
      clear hK K
      try simp only [Act.put, List.setIfInBounds_toArray, List.set_cons_zero, List.set_cons_succ]
      obtain ⟨⟨⟨x0, x1⟩, x2, x3⟩, y0, y1, y2, y3⟩ := HX.out w6 (below_on HBw2.out HB6.out)
      refine wpAnyT_one (i := 10) (by kernel_rfl) rfl (fun K hK => ?_)
      go_simp
      refine hK.out _ _ (fun h => absurd h (by decide)) ?_
      clear hK K
      try simp only [Act.put, List.setIfInBounds_toArray, List.set_cons_zero, List.set_cons_succ]
      refine wpAnyT_one (i := 11) (by kernel_rfl) rfl (fun K hK => ?_)
      go_simp
      refine hK.out _ _ (fun h => absurd h (by decide)) ?_
      clear hK K
      try simp only [Act.put, List.setIfInBounds_toArray, List.set_cons_zero, List.set_cons_succ]
      refine wpAnyT_done (by kernel_rfl) ?_ _
      have s2 := set2_cells y0 y1 (.bool bk) (.slice (some ⟨g, 0, none⟩) (xs.length + 1) C)
      have hn2 : w.heap.size + 1 + 1 < w2.heap.size := by
        have h1 := HBw2.out.size
        have h3 : w.heap.size + 1 + 1 < W.heap.size := by rw [HW.out]; simp
        omega
      have HS2 := Lib.hid s2
      clear s2 x0 x1 x2 x3 y0 y1 y2 y3
      go_wp2_with fail
      refine bodyPost_ret (v := .tuple #[.agg #[.bool bk, .slice (some ⟨g, 0, none⟩) (xs.length + 1) C], .int .i64 0]) (by obtain ⟨s2, s3⟩ := HS2.out; simp [results, Tryd.results10, go_sem, s2, s3]) rfl ⟨?_, .inr ⟨by rw [HE.out], g, C, rfl, hC, ?_⟩⟩
      · exact HB0.out.trans ((((below_on HBw2.out HB6.out).mono HB0.out.size).setCell (by simp; omega) _).setCell (by simp; omega) _)
      · have hgn : g ≠ w.heap.size + 1 + 1 := by
          have h4 := HG0.out
          omega
        have hg1 : g < w6.heap.size := HGL.out
        exact RowX.rd ((HRow.out.kept (Below.heap_setCell _ _ _ _ hgn)).kept (Below.heap_setCell _ _ _ _ hgn)) (by rw [World.size_setCell, World.size_setCell]; exact hg1)
    · go_simp
      refine hK.out _ _ (fun _ => HSd.out _ (below_dr (below_al (below_al (Below.refl w2.heap.size w2) (.cells #[] 27)) (.cells #[.int .u32 x.1.toNat, .bool x.2] 27)) 1)) ?_
      clear hK K
      try simp only [Act.put, List.setIfInBounds_toArray, List.set_cons_zero, List.set_cons_succ]
      refine wpAnyT_one (i := 5) (by kernel_rfl) rfl (fun K hK => ?_)
      obtain ⟨v1, w4, hrun1, hown1, hgr1⟩ := appX ((w2.alloc (.cells #[] 27)).alloc (.cells #[.int .u32 x.1.toNat, .bool x.2] 27)).drew w2.heap.size (.slice (some ⟨w2.heap.size, 0, none⟩) 0 0) [] (World.ownsRow.alloc (own_empty w2) _) (below_dr (below_al (below_al (Below.refl w2.heap.size w2) (.cells #[] 27)) (.cells #[.int .u32 x.1.toNat, .bool x.2] 27)) 1).size a c w.heap.size xs (HRd.out _ (below_dr (below_al (below_al (Below.refl w2.heap.size w2) (.cells #[] 27)) (.cells #[.int .u32 x.1.toNat, .bool x.2] 27)) 1)) (by simp; omega)
      have HB4 : Hid (Below w2.heap.size w2 w4) := (below_dr (below_al (below_al (Below.refl w2.heap.size w2) (.cells #[] 27)) (.cells #[.int .u32 x.1.toNat, .bool x.2] 27)) 1).grown hgr1 (below_dr (below_al (below_al (Below.refl w2.heap.size w2) (.cells #[] 27)) (.cells #[.int .u32 x.1.toNat, .bool x.2] 27)) 1).size (fun r e => by cases e; simp)
      simp only [List.nil_append] at hown1
      have HG4 := Lib.hid hgr1
      refine step_runX (by rfl) _ _ _ _ (by rfl) _ _ _ _ (by rfl) (by rfl) hrun1 ?_
      refine hK.out _ _ (fun _ => HSd.out _ HB4.out) ?_
      clear hgr1 hrun1
      clear hK K
      try simp only [Act.put, List.setIfInBounds_toArray, List.set_cons_zero, List.set_cons_succ]
      obtain ⟨v2, w6, hrun2, hown2, hgr2⟩ := appX w4 w2.heap.size v1 xs hown1 HB4.out.size (some ⟨w2.heap.size + 1, 0, none⟩) 1 w4.heap.size [x] (rd_grown (rd_new2 w2 _ x) HG4.out (by simp [Value.ownBlock])) (by simp; omega)
      have HB6 : Hid (Below w2.heap.size w2 w6) := HB4.out.grown hgr2 HB4.out.size (fun r e => ((World.ownsRow.lt hown1) r e).1)
      refine wpAnyT_one (i := 8) (by kernel_rfl) rfl (fun K hK => ?_)
      refine step_runX (by rfl) _ _ _ _ (by rfl) _ _ _ _ (by rfl) (by rfl) hrun2 ?_
      refine hK.out _ _ (fun _ => HSd.out _ HB6.out) ?_
      clear hgr2 hrun2
      clear hK K
      try simp only [Act.put, List.setIfInBounds_toArray, List.set_cons_zero, List.set_cons_succ]
      rcases ownX_form hown2 with ⟨_, hbad⟩ | ⟨g, C, rfl, hC, hg0, hg1, hrow⟩
      · simp at hbad
      simp only [List.length_append, List.length_cons, List.length_nil, Nat.zero_add] at hC
      have HRow := Lib.hid hrow
      have HG0 : Hid (w2.heap.size ≤ g) := hg0
      have HGL := Lib.hid hg1
      clear hrow hg0 hg1 hown2
      refine wpAnyT_one (i := 9) (by kernel_rfl) rfl (fun K hK => ?_)
      go_simp
      refine hK.out _ _ (fun _ => HSd.out _ HB6.out) ?_
      clear hK K
      try simp only [Act.put, List.setIfInBounds_toArray, List.set_cons_zero, List.set_cons_succ]
      obtain ⟨⟨⟨x0, x1⟩, x2, x3⟩, y0, y1, y2, y3⟩ := HX.out w6 (below_on HBw2.out HB6.out)
      refine wpAnyT_one (i := 10) (by kernel_rfl) rfl (fun K hK => ?_)
      go_simp
      refine hK.out _ _ (fun h => absurd h (by decide)) ?_
      clear hK K
      try simp only [Act.put, List.setIfInBounds_toArray, List.set_cons_zero, List.set_cons_succ]
      refine wpAnyT_one (i := 11) (by kernel_rfl) rfl (fun K hK => ?_)
      go_simp
      refine hK.out _ _ (fun h => absurd h (by decide)) ?_
      clear hK K
      try simp only [Act.put, List.setIfInBounds_toArray, List.set_cons_zero, List.set_cons_succ]
      refine wpAnyT_done (by kernel_rfl) ?_ _
      have s2 := set2_cells y0 y1 (.bool bk) (.slice (some ⟨g, 0, none⟩) (xs.length + 1) C)
      have hn2 : w.heap.size + 1 + 1 < w2.heap.size := by
        have h1 := HBw2.out.size
        have h3 : w.heap.size + 1 + 1 < W.heap.size := by rw [HW.out]; simp
        omega
      have HS2 := Lib.hid s2
      clear s2 x0 x1 x2 x3 y0 y1 y2 y3
      go_wp2_with fail
      refine bodyPost_ret (v := .tuple #[.agg #[.bool bk, .slice (some ⟨g, 0, none⟩) (xs.length + 1) C], .int .i64 0]) (by obtain ⟨s2, s3⟩ := HS2.out; simp [results, Tryd.results10, go_sem, s2, s3]) rfl ⟨?_, .inr ⟨by rw [HE.out], g, C, rfl, hC, ?_⟩⟩
      · exact HB0.out.trans ((((below_on HBw2.out HB6.out).mono HB0.out.size).setCell (by simp; omega) _).setCell (by simp; omega) _)
      · have hgn : g ≠ w.heap.size + 1 + 1 := by
          have h4 := HG0.out
          omega
        have hg1 : g < w6.heap.size := HGL.out
        exact RowX.rd ((HRow.out.kept (Below.heap_setCell _ _ _ _ hgn)).kept (Below.heap_setCell _ _ _ _ hgn)) (by rw [World.size_setCell, World.size_setCell]; exact hg1)
  · go_simp
    refine hK.out _ _ (fun _ => HSd.out _ (below_dr (below_al (Below.refl w2.heap.size w2) (.cells #[.int .u32 x.1.toNat, .bool x.2] 27)) 1)) ?_
    clear hK K
    try simp only [Act.put, List.setIfInBounds_toArray, List.set_cons_zero, List.set_cons_succ]
    refine wpAnyT_one (i := 2) (by kernel_rfl) rfl (fun K hK => ?_)
    go_simp
    refine hK.out _ _ (fun _ => HSd.out _ (below_dr (below_al (below_al (Below.refl w2.heap.size w2) (.cells #[.int .u32 x.1.toNat, .bool x.2] 27)) (.cells #[] 27)) 1)) ?_
    clear hK K
    try simp only [Act.put, List.setIfInBounds_toArray, List.set_cons_zero, List.set_cons_succ]
    refine wpAnyT_one (i := 5) (by kernel_rfl) rfl (fun K hK => ?_)
    obtain ⟨v1, w4, hrun1, hown1, hgr1⟩ := appX ((w2.alloc (.cells #[.int .u32 x.1.toNat, .bool x.2] 27)).alloc (.cells #[] 27)).drew w2.heap.size (.slice (some ⟨w2.heap.size + 1, 0, none⟩) 0 0) [] (own_empty2 w2 _) (below_dr (below_al (below_al (Below.refl w2.heap.size w2) (.cells #[.int .u32 x.1.toNat, .bool x.2] 27)) (.cells #[] 27)) 1).size a c w.heap.size xs (HRd.out _ (below_dr (below_al (below_al (Below.refl w2.heap.size w2) (.cells #[.int .u32 x.1.toNat, .bool x.2] 27)) (.cells #[] 27)) 1)) (by simp; omega)
    have HB4 : Hid (Below w2.heap.size w2 w4) := (below_dr (below_al (below_al (Below.refl w2.heap.size w2) (.cells #[.int .u32 x.1.toNat, .bool x.2] 27)) (.cells #[] 27)) 1).grown hgr1 (below_dr (below_al (below_al (Below.refl w2.heap.size w2) (.cells #[.int .u32 x.1.toNat, .bool x.2] 27)) (.cells #[] 27)) 1).size (fun r e => by cases e; simp)
    simp only [List.nil_append] at hown1
    have HG4 := Lib.hid hgr1
    refine step_runX (by rfl) _ _ _ _ (by rfl) _ _ _ _ (by rfl) (by rfl) hrun1 ?_
    refine hK.out _ _ (fun _ => HSd.out _ HB4.out) ?_
    clear hgr1 hrun1
    clear hK K
    try simp only [Act.put, List.setIfInBounds_toArray, List.set_cons_zero, List.set_cons_succ]
    obtain ⟨v2, w6, hrun2, hown2, hgr2⟩ := appX w4 w2.heap.size v1 xs hown1 HB4.out.size (some ⟨w2.heap.size, 0, none⟩) 1 w4.heap.size [x] (rd_grown (rd_on (rd_new w2 x) _) HG4.out (by simp [Value.ownBlock])) (by simp; omega)
    have HB6 : Hid (Below w2.heap.size w2 w6) := HB4.out.grown hgr2 HB4.out.size (fun r e => ((World.ownsRow.lt hown1) r e).1)
    refine wpAnyT_one (i := 8) (by kernel_rfl) rfl (fun K hK => ?_)
    refine step_runX (by rfl) _ _ _ _ (by rfl) _ _ _ _ (by rfl) (by rfl) hrun2 ?_
    refine hK.out _ _ (fun _ => HSd.out _ HB6.out) ?_
    clear hgr2 hrun2
    clear hK K
    try simp only [Act.put, List.setIfInBounds_toArray, List.set_cons_zero, List.set_cons_succ]
    rcases ownX_form hown2 with ⟨_, hbad⟩ | ⟨g, C, rfl, hC, hg0, hg1, hrow⟩
    · simp at hbad
    simp only [List.length_append, List.length_cons, List.length_nil, Nat.zero_add] at hC
    have HRow := Lib.hid hrow
    have HG0 : Hid (w2.heap.size ≤ g) := hg0
    have HGL := Lib.hid hg1
    clear hrow hg0 hg1 hown2
    refine wpAnyT_one (i := 9) (by kernel_rfl) rfl (fun K hK => ?_)
    go_simp
    refine hK.out _ _ (fun _ => HSd.out _ HB6.out) ?_
    clear hK K
    try simp only [Act.put, List.setIfInBounds_toArray, List.set_cons_zero, List.set_cons_succ]
    obtain ⟨⟨⟨x0, x1⟩, x2, x3⟩, y0, y1, y2, y3⟩ := HX.out w6 (below_on HBw2.out HB6.out)
    refine wpAnyT_one (i := 10) (by kernel_rfl) rfl (fun K hK => ?_)
    go_simp
    refine hK.out _ _ (fun h => absurd h (by decide)) ?_
    clear hK K
    try simp only [Act.put, List.setIfInBounds_toArray, List.set_cons_zero, List.set_cons_succ]
    refine wpAnyT_one (i := 11) (by kernel_rfl) rfl (fun K hK => ?_)
    go_simp
    refine hK.out _ _ (fun h => absurd h (by decide)) ?_
    clear hK K
    try simp only [Act.put, List.setIfInBounds_toArray, List.set_cons_zero, List.set_cons_succ]
    refine wpAnyT_done (by kernel_rfl) ?_ _
    have s2 := set2_cells y0 y1 (.bool bk) (.slice (some ⟨g, 0, none⟩) (xs.length + 1) C)
    have hn2 : w.heap.size + 1 + 1 < w2.heap.size := by
      have h1 := HBw2.out.size
      have h3 : w.heap.size + 1 + 1 < W.heap.size := by rw [HW.out]; simp
      omega
    have HS2 := Lib.hid s2
    clear s2 x0 x1 x2 x3 y0 y1 y2 y3
    go_wp2_with fail
    refine bodyPost_ret (v := .tuple #[.agg #[.bool bk, .slice (some ⟨g, 0, none⟩) (xs.length + 1) C], .int .i64 0]) (by obtain ⟨s2, s3⟩ := HS2.out; simp [results, Tryd.results10, go_sem, s2, s3]) rfl ⟨?_, .inr ⟨by rw [HE.out], g, C, rfl, hC, ?_⟩⟩
    · exact HB0.out.trans ((((below_on HBw2.out HB6.out).mono HB0.out.size).setCell (by simp; omega) _).setCell (by simp; omega) _)
    · have hgn : g ≠ w.heap.size + 1 + 1 := by
        have h4 := HG0.out
        omega
      have hg1 : g < w6.heap.size := HGL.out
      exact RowX.rd ((HRow.out.kept (Below.heap_setCell _ _ _ _ hgn)).kept (Below.heap_setCell _ _ _ _ hgn)) (by rw [World.size_setCell, World.size_setCell]; exact hg1)

end Go.Proofs.YtkbnglcpcehaiaaDoor
