/- Package rank: a line, as it lies; the small functions. -/
import Derived.Test.YthfndphngeaihaaDoorRkA
import Derived.Test.YthfndphngeaihaaDoorOwn
import Derived.Test.YthfndphngeaihaaDoorHeldT
import Derived.Deep.QuietTactic
import Derived.BigQuiet
namespace Go.Proofs.YthfndphngeaihaaDoor
open Go Go.RowKit Go.Shelf
open Go.ChangeMaps (setBlock)
set_option linter.unusedSimpArgs false
set_option linter.unusedVariables false
set_option linter.unusedSectionVars false
set_option maxRecDepth 100000

attribute [local go_sem] Oper.semAt_some

/-- The names of a queue, as they came. -/
def namesOf (D : List Wt) (q : Qk) : List Nm := (D.filter fun x => decide (x.qk = q)).map Wt.nm
/-- How a name waits. -/
def wt (D : List Wt) (n : Nm) : Option Wt := D.find? fun x => decide (x.nm = n)
def flatNm (l : List Nm) : List Value := l.flatMap Nm.cells
theorem flatNm_len (l : List Nm) : (flatNm l).length = l.length * 4 := by
  induction l with
  | nil => rfl
  | cons x r ih =>
    unfold flatNm at ih ⊢
    rw [List.flatMap_cons, List.length_append, ih, List.length_cons]
    simp [Nm.cells]
    omega

theorem ownsRow_kept {w w' : World} {B : Nat} {e : TypeId} {k : Nat} {v : Value} {n : Nat} {xs : List Value} (h : w.ownsRow B e k v n xs) (hb : ∀ j, v.ownBlock = some j → w'.heap[j]? = w.heap[j]?) : w'.ownsRow B e k v n xs := by
  refine ⟨h.1, ?_⟩
  rcases h.2 with h2 | ⟨g, cap, cur, hv, hB, hg, rest⟩
  · exact .inl h2
  · exact .inr ⟨g, cap, cur, hv, hB, (hb g (by rw [hv]; rfl)).trans hg, rest⟩

/-- The queues' map holds just the queues in which names wait. -/
def QsAt (w : World) (lq : List (Qk × Value)) (D : List Wt) : Prop :=
  (∀ q, lk lq q = none ↔ namesOf D q = []) ∧ (∀ q v, lk lq q = some v → w.ownsRow 0 28 4 v (namesOf D q).length (flatNm (namesOf D q))) ∧
    ∀ q q' v v', q ≠ q' → lk lq q = some v → lk lq q' = some v' → v.ownBlock ≠ v'.ownBlock
def WsAt (lw : List (Nm × Value)) (D : List Wt) : Prop := (∀ n, lk lw n = (wt D n).map encWt) ∧ lw.length = D.length ∧ (D.map Wt.nm).Nodup

/-- A line at block p, all of whose blocks are in S. -/
def LineAt (w : World) (S : Nat → Prop) (p : Nat) (most : Int) (D : List Wt) : Prop :=
  ∃ bq bw lq lw, RowB w p [.int .i64 most, .map (some bq), .map (some bw)] ∧ KMap encQk w bq lq ∧ KMap encNm w bw lw ∧ QsAt w lq D ∧ WsAt lw D ∧
    (S p ∧ S bq ∧ S bw ∧ ∀ q v j, lk lq q = some v → v.ownBlock = some j → S j) ∧ (bq ≠ bw ∧ p ≠ bq ∧ p ≠ bw ∧ ∀ q v j, lk lq q = some v → v.ownBlock = some j → j ≠ p ∧ j ≠ bq ∧ j ≠ bw)

theorem QsAt.kept {w w' : World} {lq : List (Qk × Value)} {D : List Wt} (h : QsAt w lq D) (hb : ∀ q v j, lk lq q = some v → v.ownBlock = some j → w'.heap[j]? = w.heap[j]?) : QsAt w' lq D :=
  ⟨h.1, fun q v hq => ownsRow_kept (h.2.1 q v hq) fun j hj => hb q v j hq hj, h.2.2⟩
theorem QsAt.lt {w : World} {lq : List (Qk × Value)} {D : List Wt} (h : QsAt w lq D) {q : Qk} {v : Value} {j : Nat} (hq : lk lq q = some v) (hj : v.ownBlock = some j) : j < w.heap.size := (World.ownsRow.lt (h.2.1 q v hq) j hj).2

theorem LineAt.kept {w w' : World} {S : Nat → Prop} {p : Nat} {most : Int} {D : List Wt} (h : LineAt w S p most D) (hb : ∀ b, S b → b < w.heap.size → w'.heap[b]? = w.heap[b]?) : LineAt w' S p most D := by
  obtain ⟨bq, bw, lq, lw, h1, h2, h3, h4, h5, h6, h7⟩ := h
  exact ⟨bq, bw, lq, lw, h1.kept (hb p h6.1 h1.lt), h2.kept (hb bq h6.2.1 h2.lt), h3.kept (hb bw h6.2.2.1 h3.lt), h4.kept fun q v j hq hj => hb j (h6.2.2.2 q v j hq hj) (h4.lt hq hj), h5, h6, h7⟩
theorem LineAt.on {w w' : World} {S : Nat → Prop} {p : Nat} {most : Int} {D : List Wt} (h : LineAt w S p most D) (hb : Below w.heap.size w w') : LineAt w' S p most D := h.kept fun b _ hlt => hb.block b hlt
theorem LineAt.into {w : World} {S T : Nat → Prop} {p : Nat} {most : Int} {D : List Wt} (h : LineAt w S p most D) (hb : ∀ b, S b → T b) : LineAt w T p most D := by
  obtain ⟨bq, bw, lq, lw, h1, h2, h3, h4, h5, h6, h7⟩ := h
  exact ⟨bq, bw, lq, lw, h1, h2, h3, h4, h5, ⟨hb _ h6.1, hb _ h6.2.1, hb _ h6.2.2.1, fun q v j hq hj => hb j (h6.2.2.2 q v j hq hj)⟩, h7⟩

theorem LineAt.bound {w : World} {S : Nat → Prop} {p : Nat} {most : Int} {D : List Wt} (h : LineAt w S p most D) : LineAt w (fun b => S b ∧ b < w.heap.size) p most D := by
  obtain ⟨bq, bw, lq, lw, h1, h2, h3, h4, h5, h6, h7⟩ := h
  exact ⟨bq, bw, lq, lw, h1, h2, h3, h4, h5, ⟨⟨h6.1, h1.lt⟩, ⟨h6.2.1, h2.lt⟩, ⟨h6.2.2.1, h3.lt⟩, fun q v j hq hj => ⟨h6.2.2.2 q v j hq hj, h4.lt hq hj⟩⟩, h7⟩

/-- What unless answers. -/
def unE (is : Bool) (e : Int) : Int := if is = true then 0 else e
theorem unless_any (is : Bool) (e : Int) (w : World) : Calls Tryd.prog 45 #[.bool is, .int .i64 e] w fun x w' => x = .returned (.int .i64 (unE is e)) ∧ w' = w := by
  cases is <;>
  · go_enter Tryd.func45, Tryd.ntmps45
    go_wp2_with fail
    go_ret
    exact ⟨rfl, rfl⟩

theorem more_any (b n : Int) (w : World) : Calls Tryd.prog 53 #[.int .i64 b, .int .i64 n] w fun x w' => x = .returned (.bool (decide (n < b))) ∧ w' = w := by
  go_enter Tryd.func53, Tryd.ntmps53
  go_wp2_with fail
  go_ret
  exact ⟨rfl, rfl⟩

theorem num_any (e : Int) (w : World) : Calls Tryd.prog 6 #[.int .i64 e] w fun x w' => x = .returned (.int .i64 e) ∧ w' = w := by
  go_enter Tryd.func6, Tryd.ntmps6
  go_wp2_with fail
  go_ret
  exact ⟨rfl, rfl⟩

theorem eqlMap_nil (w : World) (b : Option Nat) : (binOp BinOp.eql 59 (.map b) (.map none)).run Tryd.prog w = .ok (.bool b.isNone) w := by
  cases b <;> kernel_rfl

theorem none_any (p b : Nat) (w : World) (h : w.cell? ⟨p, 1, none⟩ = some (.map (some b))) : Calls Tryd.prog 27 #[.pointer (some ⟨p, 0, none⟩)] w fun x w' => x = .returned (.bool false) ∧ w' = w := by
  have heq := eqlMap_nil
  go_enter Tryd.func27, Tryd.ntmps27
  go_wp2_with fail
  go_ret
  exact ⟨rfl, rfl⟩
theorem none_zero (p : Nat) (w : World) (h : w.cell? ⟨p, 1, none⟩ = some (.map none)) : Calls Tryd.prog 27 #[.pointer (some ⟨p, 0, none⟩)] w fun x w' => x = .returned (.bool true) ∧ w' = w := by
  have heq := eqlMap_nil
  go_enter Tryd.func27, Tryd.ntmps27
  go_wp2_with fail
  go_ret
  exact ⟨rfl, rfl⟩
theorem none_nil (w : World) : Calls Tryd.prog 27 #[.pointer none] w fun x w' => x = .returned (.bool true) ∧ w' = w := by
  go_enter Tryd.func27, Tryd.ntmps27
  go_wp2_with fail
  go_ret
  exact ⟨rfl, rfl⟩

/-- May it be a name? -/
def mayN (x : Nm) : Bool := !(x.n == 0) && decide (x.t ≤ 4611686018427387903)
theorem checkName_any (x : Nm) (w : World) : Calls Tryd.prog 47 #[.agg #[.int .u32 x.n, .int .u32 x.m, .int .u64 x.t, .int .u32 x.q]] w fun e w' => e = .returned (.int .i64 (unE (mayN x) 2)) ∧ Below w.heap.size w w' := by
  obtain ⟨n, m, t, q⟩ := x
  by_cases h0 : n = 0
  · subst h0
    have HE : Hid (mayN ⟨0, m, t, q⟩ = false) := by rw [Hid]; simp [mayN]
    go_enter Tryd.func47, Tryd.ntmps47
    go_wp2
    go_ret
    exact ⟨by rw [HE.out]; rfl, below_al (Below.refl _ _) _⟩
  · have h3 : (n == 0) = false := by simpa using h0
    by_cases h5 : (4611686018427387903 : Int) < t
    · have HE : Hid (mayN ⟨n, m, t, q⟩ = false) := by rw [Hid]; simp [mayN]; omega
      clear h0
      go_enter Tryd.func47, Tryd.ntmps47
      go_wp2
      all_goals first | (go_ret; exact ⟨by rw [HE.out]; rfl, below_al (Below.refl _ _) _⟩) | (exfalso; omega)
    · have h6 : decide ((4611686018427387903 : Int) < t) = false := by simpa using h5
      have HE : Hid (mayN ⟨n, m, t, q⟩ = true) := by rw [Hid]; simp [mayN, h3]; omega
      go_enter Tryd.func47, Tryd.ntmps47
      go_wp2
      all_goals first | (go_ret; exact ⟨by rw [HE.out]; rfl, below_al (Below.refl _ _) _⟩) | (exfalso; omega)

/-! ### The questions -/

theorem rnamed1_any (b : Nat) (x : Nm) (w : World) (h0 : w.cell? ⟨b, 0, none⟩ = some (.int .u32 x.n)) (h1 : w.cell? ⟨b, 1, none⟩ = some (.int .u32 x.m)) (h2 : w.cell? ⟨b, 2, none⟩ = some (.int .u64 x.t)) (h3 : w.cell? ⟨b, 3, none⟩ = some (.int .u32 x.q)) :
    Calls Tryd.prog 46 #[.pointer (some ⟨b, 0, none⟩)] w fun e w' => e = .returned (.int .i64 (unE (mayN x) 2)) ∧ Below w.heap.size w w' := by
  go_enter Tryd.func46, Tryd.ntmps46
  go_wp2_with fail
  refine (checkName_any x w).mono ?_
  rintro e w1 ⟨rfl, hb⟩
  go_wp2_with fail
  go_ret
  exact ⟨rfl, hb⟩

theorem near1_any (b : Nat) (n : Int) (w : World) (h : w.cell? ⟨b, 0, none⟩ = some (.int .u32 n)) : Calls Tryd.prog 48 #[.pointer (some ⟨b, 0, none⟩)] w fun x w' => x = .returned (.int .i64 (unE (decide (0 < n)) 2)) ∧ Below w.heap.size w w' := by
  obtain ⟨q, hq⟩ : ∃ q, q = decide (0 < n) := ⟨_, rfl⟩
  rw [← hq]
  have HQ := Lib.hid hq
  clear hq
  go_enter Tryd.func48, Tryd.ntmps48
  go_wp2_with fail
  try rw [← HQ.out]
  refine (unless_any q 2 w).mono ?_
  rintro e w' ⟨rfl, rfl⟩
  go_wp2_with fail
  go_ret
  exact ⟨rfl, Below.refl _ _⟩

/-- Is n between lo and hi? -/
def inB (lo hi n : Int) : Bool := decide (lo ≤ n) && decide (n ≤ hi)

theorem ranked1_any (b : Nat) (n : Int) (w : World) (h : w.cell? ⟨b, 0, none⟩ = some (.int .i64 n)) : Calls Tryd.prog 49 #[.pointer (some ⟨b, 0, none⟩)] w fun x w' => x = .returned (.int .i64 (unE (inB 0 2 n) 2)) ∧ Below w.heap.size w w' := by
  by_cases h0 : 0 ≤ n
  · obtain ⟨q, hq⟩ : ∃ q, q = decide (n < 3) := ⟨_, rfl⟩
    have HE : Hid (inB 0 2 n = q) := by
      rw [Hid, hq, Bool.eq_iff_iff]
      simp [inB]
      omega
    have HQ := Lib.hid hq
    clear hq
    go_enter Tryd.func49, Tryd.ntmps49
    go_wp2_with fail
    try rw [← HQ.out]
    refine (unless_any q 2 w).mono ?_
    rintro e w' ⟨rfl, rfl⟩
    go_wp2_with fail
    go_ret
    exact ⟨by rw [HE.out]; rfl, Below.refl _ _⟩
  · have HE : Hid (inB 0 2 n = false) := by
      rw [Hid]
      simp [inB, h0]
    go_enter Tryd.func49, Tryd.ntmps49
    go_wp2_with fail
    refine (unless_any false 2 w).mono ?_
    rintro e w' ⟨rfl, rfl⟩
    go_wp2_with fail
    go_ret
    exact ⟨by rw [HE.out]; rfl, Below.refl _ _⟩
theorem sized1_any (b : Nat) (n : Int) (w : World) (h : w.cell? ⟨b, 0, none⟩ = some (.int .i64 n)) : Calls Tryd.prog 50 #[.pointer (some ⟨b, 0, none⟩)] w fun x w' => x = .returned (.int .i64 (unE (inB 1 65536 n) 2)) ∧ Below w.heap.size w w' := by
  by_cases h0 : 1 ≤ n
  · obtain ⟨q, hq⟩ : ∃ q, q = decide (n ≤ 65536) := ⟨_, rfl⟩
    have HE : Hid (inB 1 65536 n = q) := by
      rw [Hid, hq]
      simp [inB, h0]
    have HQ := Lib.hid hq
    clear hq
    go_enter Tryd.func50, Tryd.ntmps50
    go_wp2_with fail
    try rw [← HQ.out]
    refine (unless_any q 2 w).mono ?_
    rintro e w' ⟨rfl, rfl⟩
    go_wp2_with fail
    go_ret
    exact ⟨by rw [HE.out]; rfl, Below.refl _ _⟩
  · have HE : Hid (inB 1 65536 n = false) := by
      rw [Hid]
      simp [inB, h0]
    go_enter Tryd.func50, Tryd.ntmps50
    go_wp2_with fail
    refine (unless_any false 2 w).mono ?_
    rintro e w' ⟨rfl, rfl⟩
    go_wp2_with fail
    go_ret
    exact ⟨by rw [HE.out]; rfl, Below.refl _ _⟩
theorem bounded1_any (b : Nat) (n : Int) (w : World) (h : w.cell? ⟨b, 0, none⟩ = some (.int .i64 n)) : Calls Tryd.prog 44 #[.pointer (some ⟨b, 0, none⟩)] w fun x w' => x = .returned (.int .i64 (unE (inB 0 4096 n) 2)) ∧ Below w.heap.size w w' := by
  by_cases h0 : 0 ≤ n
  · obtain ⟨q, hq⟩ : ∃ q, q = decide (n ≤ 4096) := ⟨_, rfl⟩
    have HE : Hid (inB 0 4096 n = q) := by
      rw [Hid, hq]
      simp [inB, h0]
    have HQ := Lib.hid hq
    clear hq
    go_enter Tryd.func44, Tryd.ntmps44
    go_wp2_with fail
    try rw [← HQ.out]
    refine (unless_any q 2 w).mono ?_
    rintro e w' ⟨rfl, rfl⟩
    go_wp2_with fail
    go_ret
    exact ⟨by rw [HE.out]; rfl, Below.refl _ _⟩
  · have HE : Hid (inB 0 4096 n = false) := by
      rw [Hid]
      simp [inB, h0]
    go_enter Tryd.func44, Tryd.ntmps44
    go_wp2_with fail
    refine (unless_any false 2 w).mono ?_
    rintro e w' ⟨rfl, rfl⟩
    go_wp2_with fail
    go_ret
    exact ⟨by rw [HE.out]; rfl, Below.refl _ _⟩

theorem there_any (p b : Nat) (w : World) (h : w.cell? ⟨p, 1, none⟩ = some (.map (some b))) : Calls Tryd.prog 19 #[.pointer (some ⟨p, 0, none⟩)] w fun x w' => x = .returned (.int .i64 0) ∧ Below w.heap.size w w' := by
  go_enter Tryd.func19, Tryd.ntmps19
  go_wp2_with fail
  refine (none_any p b w h).mono ?_
  rintro e w' ⟨rfl, rfl⟩
  go_wp2_with fail
  refine (unless_any true 1 _).mono ?_
  rintro e w' ⟨rfl, rfl⟩
  go_wp2_with fail
  go_ret
  exact ⟨rfl, Below.refl _ _⟩

end Go.Proofs.YthfndphngeaihaaDoor
