/- Joined texts. -/
import Derived.Test.YtlmdbeccfoncpaaGreatDoorZJd
import Derived.Test.YtlmdbeccfoncpaaGreatDoorZJe
import Derived.Test.YtlmdbeccfoncpaaGreatDoorZCbJ
import Derived.Test.YtlmdbeccfoncpaaGreatDoorZItLs
import Derived.Test.YtlmdbeccfoncpaaGreatDoorZNmI2
import Derived.Deep.CutRange
import Derived.Deep.RegionHeld3
namespace Go.Proofs.YtlmdbeccfoncpaaGreatDoor
open Go Go.RowKit Go.Shelf
set_option linter.unusedSimpArgs false
set_option linter.unusedVariables false
set_option maxRecDepth 100000

theorem box_at {w w' : World} {cs : Array Value} {t : TypeId} (h : Below (w.alloc (.cells cs t)).heap.size (w.alloc (.cells cs t)) w') (i : Nat) : w'.cell? ⟨w.heap.size, i, none⟩ = cs[i]? :=
  (h.cell (p := ⟨w.heap.size, i, none⟩) (by simp)).trans (by rw [World.cell?_alloc_mark])

theorem frozen_at {w w' : World} {cs : Array Value} {t : TypeId} (h : Below (w.alloc (.cells cs t)).heap.size (w.alloc (.cells cs t)) w') (i : Nat) : w'.frozen? ⟨w.heap.size, i, none⟩ = false :=
  (h.frozen (p := ⟨w.heap.size, i, none⟩) (by simp)).trans (by simp)

theorem take_listed {P : Program} {l : List Oper} {Q : Exit → Act → World → Prop} {md : Region.Mode} {S : World → Prop} {i : Nat} {oi : Oper} {v : Value} {fuel : Nat} {listed : Array Bool} {a : Act} {w : World} (hi : l[i]? = some oi)
    (hs : Region.noSelect l.toArray = true) (hf : Region.free md l.toArray listed i = true) (hr : (Region.ready md l.toArray listed).contains i = true)
    (hQ : ∀ c a w, Q (.panic c) (a.put oi.dst v) w → Q (.panic c) a w) (hy : YieldsIf P l.toArray S oi v a) (hS : S w)
    (h : wpAnyH P md l.toArray Q S fuel (listed.setIfInBounds i true) (a.put oi.dst v) w) : wpAnyH P md l.toArray Q S (fuel + 1) listed a w :=
  wpAnyH_take (by simpa using hi) hs hf hr hQ hy hS h

theorem box5_all {w w' : World} {v0 v1 v2 v3 v4 : Value} {t : TypeId} (h : Below (w.alloc (.cells #[v0, v1, v2, v3, v4] t)).heap.size (w.alloc (.cells #[v0, v1, v2, v3, v4] t)) w') :
    w'.cell? ⟨w.heap.size, 0, none⟩ = some v0 ∧ w'.cell? ⟨w.heap.size, 1, none⟩ = some v1 ∧ w'.cell? ⟨w.heap.size, 2, none⟩ = some v2 ∧ w'.cell? ⟨w.heap.size, 3, none⟩ = some v3 ∧ w'.cell? ⟨w.heap.size, 4, none⟩ = some v4 :=
  ⟨box_at h 0, box_at h 1, box_at h 2, box_at h 3, box_at h 4⟩

def set5 (w : World) (g : Nat) (v0 v1 v2 v3 v4 : Value) : World :=
  ((((w.setCell ⟨g, 0, none⟩ v0).setCell ⟨g, 1, none⟩ v1).setCell ⟨g, 2, none⟩ v2).setCell ⟨g, 3, none⟩ v3).setCell ⟨g, 4, none⟩ v4

theorem set5_cells {w : World} {g : Nat} {u0 u1 u2 u3 u4 : Value} (h0 : w.cell? ⟨g, 0, none⟩ = some u0) (h1 : w.cell? ⟨g, 1, none⟩ = some u1) (h2 : w.cell? ⟨g, 2, none⟩ = some u2) (h3 : w.cell? ⟨g, 3, none⟩ = some u3) (h4 : w.cell? ⟨g, 4, none⟩ = some u4) (v0 v1 v2 v3 v4 : Value) :
    (set5 w g v0 v1 v2 v3 v4).cell? ⟨g, 0, none⟩ = some v0 ∧ (set5 w g v0 v1 v2 v3 v4).cell? ⟨g, 1, none⟩ = some v1 ∧ (set5 w g v0 v1 v2 v3 v4).cell? ⟨g, 2, none⟩ = some v2 ∧ (set5 w g v0 v1 v2 v3 v4).cell? ⟨g, 3, none⟩ = some v3 ∧ (set5 w g v0 v1 v2 v3 v4).cell? ⟨g, 4, none⟩ = some v4 := by
  unfold set5
  refine ⟨?_, ?_, ?_, ?_, ?_⟩ <;> go_simp

theorem set5_on {B g : Nat} {w0 w : World} (h : Below B w0 w) (hB : B ≤ g) (v0 v1 v2 v3 v4 : Value) : Below B w0 (set5 w g v0 v1 v2 v3 v4) := by
  unfold set5
  exact ((((h.setCell hB v0).setCell hB v1).setCell hB v2).setCell hB v3).setCell hB v4

theorem set5_size (w : World) (g : Nat) (v0 v1 v2 v3 v4 : Value) : (set5 w g v0 v1 v2 v3 v4).heap.size = w.heap.size := by simp [set5]

theorem set5_block {w : World} {g b : Nat} (h : b ≠ g) (v0 v1 v2 v3 v4 : Value) : (set5 w g v0 v1 v2 v3 v4).heap[b]? = w.heap[b]? := by
  unfold set5
  rw [Below.heap_setCell _ _ _ _ h, Below.heap_setCell _ _ _ _ h, Below.heap_setCell _ _ _ _ h, Below.heap_setCell _ _ _ _ h, Below.heap_setCell _ _ _ _ h]

theorem wpList_run {P : Program} {ops : Array Oper} {rest : List Oper} {o : Oper} {a : Act} {w : World} {Q : Exit → Act → World → Prop} (hgd : o.guard = none) (s x : Operand) (t u : TypeId)
    (ho : o.op = .call { callee := .builtin .append, args := #[s, x], argTypes := #[t, u] }) (v y v' : Value) (w' : World) (hv : a.eval s = v) (hy : a.eval x = y)
    (hrun : (Builtin.append_ #[t, u] o.type #[v, y]).run P w = .ok v' w') (h : wpList P ops Q rest (a.put o.dst v') w') : wpList P ops Q (o :: rest) a w :=
  wpList_plain hgd fun _ hK => by
    unfold Oper.wp execOp
    simp only [ho, resolve, invoke, builtin, Sem.run_bind, Sem.run_pure, Result.andThen_ok, List.map_toArray, List.map_cons, List.map_nil, hv, hy, hrun]
    exact hK _ _ h

theorem own_below {w w' : World} {B : Nat} {e : TypeId} {k : Nat} {v : Value} {n : Nat} {xs : List Value} (h : w.ownsRow B e k v n xs) (hb : Below w.heap.size w w') : w'.ownsRow B e k v n xs :=
  ⟨h.1, h.2.imp id fun ⟨g, cap, cur, e, h0, hg, r⟩ => ⟨g, cap, cur, e, h0, (hb.block g (Array.getElem?_eq_some_iff.1 hg).1).trans hg, r⟩⟩

/-- A primary: flags, sum, to, source, report, time, number, life. -/
structure Pm where
  f : Nat
  s : Int
  tn : Nat
  tm : Nat
  sn : Nat
  sm : Nat
  rn : Nat
  rm : Nat
  t : Nat
  q : Nat
  l : Nat

/-- What fits its types. -/
structure Pm.ok (p : Pm) : Prop where
  f : p.f ≤ 4294967295
  tn : p.tn ≤ 4294967295
  tm : p.tm ≤ 4294967295
  sn : p.sn ≤ 4294967295
  sm : p.sm ≤ 4294967295
  rn : p.rn ≤ 4294967295
  rm : p.rm ≤ 4294967295
  t : p.t < 18446744073709551616
  q : p.q ≤ 4294967295
  l : p.l < 18446744073709551616

/-- A primary's value. -/
def Pm.v (p : Pm) : Value := .agg #[.int .u32 p.f, .int .i64 p.s, .int .u32 p.tn, .int .u32 p.tm, .int .u32 p.sn, .int .u32 p.sm, .int .u32 p.rn, .int .u32 p.rm, .int .u64 p.t, .int .u32 p.q, .int .u64 p.l]

theorem pbox {w w' : World} {p : Pm} {t : TypeId} (h : Below (w.alloc (.cells #[.int .u32 p.f, .int .i64 p.s, .int .u32 p.tn, .int .u32 p.tm, .int .u32 p.sn, .int .u32 p.sm, .int .u32 p.rn, .int .u32 p.rm, .int .u64 p.t, .int .u32 p.q, .int .u64 p.l] t)).heap.size (w.alloc (.cells #[.int .u32 p.f, .int .i64 p.s, .int .u32 p.tn, .int .u32 p.tm, .int .u32 p.sn, .int .u32 p.sm, .int .u32 p.rn, .int .u32 p.rm, .int .u64 p.t, .int .u32 p.q, .int .u64 p.l] t)) w') : (w'.cell? ⟨w.heap.size, 0, none⟩ = some (.int .u32 p.f) ∧ w'.cell? ⟨w.heap.size, 1, none⟩ = some (.int .i64 p.s) ∧ w'.cell? ⟨w.heap.size, 2, none⟩ = some (.int .u32 p.tn) ∧ w'.cell? ⟨w.heap.size, 3, none⟩ = some (.int .u32 p.tm) ∧ w'.cell? ⟨w.heap.size, 4, none⟩ = some (.int .u32 p.sn) ∧ w'.cell? ⟨w.heap.size, 5, none⟩ = some (.int .u32 p.sm) ∧ w'.cell? ⟨w.heap.size, 6, none⟩ = some (.int .u32 p.rn) ∧ w'.cell? ⟨w.heap.size, 7, none⟩ = some (.int .u32 p.rm) ∧ w'.cell? ⟨w.heap.size, 8, none⟩ = some (.int .u64 p.t) ∧ w'.cell? ⟨w.heap.size, 9, none⟩ = some (.int .u32 p.q) ∧ w'.cell? ⟨w.heap.size, 10, none⟩ = some (.int .u64 p.l)) :=
  ⟨(h.cell (p := ⟨w.heap.size, 0, none⟩) (by simp)).trans (by simp), (h.cell (p := ⟨w.heap.size, 1, none⟩) (by simp)).trans (by simp), (h.cell (p := ⟨w.heap.size, 2, none⟩) (by simp)).trans (by simp), (h.cell (p := ⟨w.heap.size, 3, none⟩) (by simp)).trans (by simp), (h.cell (p := ⟨w.heap.size, 4, none⟩) (by simp)).trans (by simp), (h.cell (p := ⟨w.heap.size, 5, none⟩) (by simp)).trans (by simp), (h.cell (p := ⟨w.heap.size, 6, none⟩) (by simp)).trans (by simp), (h.cell (p := ⟨w.heap.size, 7, none⟩) (by simp)).trans (by simp), (h.cell (p := ⟨w.heap.size, 8, none⟩) (by simp)).trans (by simp), (h.cell (p := ⟨w.heap.size, 9, none⟩) (by simp)).trans (by simp), (h.cell (p := ⟨w.heap.size, 10, none⟩) (by simp)).trans (by simp)⟩

/-- May flags be? -/
def flB (f : Nat) : Bool := decide ((f &&& 4294967261) % 128 = 0) && decide ((f &&& 4294967261) / 128 ≤ 2)

set_option maxHeartbeats 2000000 in
theorem flagged_any (p : Pm) (hp : p.ok) (w : World) : Calls Tryz.prog 27 #[.agg #[.int .u32 p.f, .int .i64 p.s, .int .u32 p.tn, .int .u32 p.tm, .int .u32 p.sn, .int .u32 p.sm, .int .u32 p.rn, .int .u32 p.rm, .int .u64 p.t, .int .u32 p.q, .int .u64 p.l]] w fun e w' => e = .returned (.bool (flB p.f)) ∧ Below w.heap.size w w' := by
  have hf := hp.f
  have h1 : bits .andNot .u32 (p.f : Int) 34 = ((p.f &&& 4294967261 : Nat) : Int) := u32_andNot_nat p.f 34 (by omega) (by omega)
  have hg : p.f &&& 4294967261 ≤ p.f := Nat.and_le_left
  obtain ⟨g, hgd⟩ : ∃ g, g = p.f &&& 4294967261 := ⟨_, rfl⟩
  have hfl : flB p.f = (decide (g % 128 = 0) && decide (g / 128 ≤ 2)) := by rw [hgd]; rfl
  rw [← hgd] at h1 hg
  have HFL := Lib.hid hfl
  have hm : ((g : Nat) : Int).tmod 128 = ((g % 128 : Nat) : Int) := by rw [Int.tmod_eq_emod_of_nonneg (by omega)]; omega
  have hd : ((g : Nat) : Int).tdiv 128 = ((g / 128 : Nat) : Int) := by rw [Int.tdiv_eq_ediv_of_nonneg (by omega)]; omega
  clear hgd hfl
  by_cases h0 : g % 128 = 0
  · have h0' : (((g % 128 : Nat) : Int) == 0) = true := by rw [h0]; rfl
    have h0i : ((g % 128 : Nat) : Int) = 0 := by omega
    have hlt : ((g / 128 : Nat) : Int) % 4294967296 = ((g / 128 : Nat) : Int) := by omega
    have HD : Hid (decide (((g / 128 : Nat) : Int) ≤ 2) = decide (g / 128 ≤ 2)) := by
      by_cases h : g / 128 ≤ 2
      · rw [Hid, decide_eq_true h, decide_eq_true (by omega)]
      · rw [Hid, decide_eq_false h, decide_eq_false (by omega)]
    have H0 := Lib.hid h0
    generalize ((g / 128 : Nat) : Int) = d at *
    generalize ((g % 128 : Nat) : Int) = m at *
    clear h0 hg hf
    go_enter Tryz.func27, Tryz.ntmps27
    go_wp2
    all_goals first
      | (go_ret; refine ⟨?_, below_al (Below.refl _ _) _⟩; rw [HFL.out, decide_eq_true H0.out, ← HD.out]; rfl)
      | (exfalso; omega)
  · have h0' : (((g % 128 : Nat) : Int) == 0) = false := by simp only [beq_eq_false_iff_ne]; omega
    have h0i : ¬ ((g % 128 : Nat) : Int) = 0 := by omega
    have H0 := Lib.hid h0
    generalize ((g % 128 : Nat) : Int) = m at *
    clear h0 hg hf hd
    go_enter Tryz.func27, Tryz.ntmps27
    go_wp2
    all_goals first
      | (go_ret; refine ⟨?_, below_al (Below.refl _ _) _⟩; rw [HFL.out, decide_eq_false H0.out]; rfl)
      | (exfalso; omega)

set_option maxHeartbeats 1000000 in
theorem summed_any (p : Pm) (w : World) : Calls Tryz.prog 28 #[.agg #[.int .u32 p.f, .int .i64 p.s, .int .u32 p.tn, .int .u32 p.tm, .int .u32 p.sn, .int .u32 p.sm, .int .u32 p.rn, .int .u32 p.rm, .int .u64 p.t, .int .u32 p.q, .int .u64 p.l]] w fun e w' => e = .returned (.bool (isK p.s)) ∧ Below w.heap.size w w' := by
  obtain ⟨c, q, hc, hq⟩ : ∃ (c : Int) (q : Bool), (∀ w, ∃ v : Int, Calls Tryz.prog 48 #[.int .i64 p.s] w fun e w' => e = .returned (.tuple #[.int .i64 v, .int .i64 c]) ∧ Below w.heap.size w w') ∧ q = (c == 0) ∧ isK p.s = q := by
    cases hk : isK p.s
    · exact ⟨2, false, fun w => ⟨0, width_no p.s hk w⟩, rfl, rfl⟩
    · obtain ⟨k, hk2, e⟩ := isK_nat hk
      exact ⟨0, true, fun w => ⟨wdN k, by rw [e]; exact width_ok k hk2 w⟩, rfl, rfl⟩
  obtain ⟨v, hv⟩ := hc (w.alloc (.cells #[.int .u32 p.f, .int .i64 p.s, .int .u32 p.tn, .int .u32 p.tm, .int .u32 p.sn, .int .u32 p.sm, .int .u32 p.rn, .int .u32 p.rm, .int .u64 p.t, .int .u32 p.q, .int .u64 p.l] 59))
  obtain ⟨hq1, hq2⟩ := hq
  rw [hq2]
  clear hc hq2
  have HV := Lib.hid hv
  have HQ := Lib.hid hq1
  clear hv hq1
  go_enter Tryz.func28, Tryz.ntmps28
  go_wp2_with fail
  refine HV.out.mono ?_
  rintro e w1 ⟨rfl, hb⟩
  have HB := Lib.hid hb
  clear hb
  go_wp2
  go_ret
  exact ⟨by rw [HQ.out]; rfl, below_on (below_al (Below.refl _ _) _) HB.out⟩

set_option maxHeartbeats 1000000 in
theorem sent_any (p : Pm) (w : World) : Calls Tryz.prog 29 #[.agg #[.int .u32 p.f, .int .i64 p.s, .int .u32 p.tn, .int .u32 p.tm, .int .u32 p.sn, .int .u32 p.sm, .int .u32 p.rn, .int .u32 p.rm, .int .u64 p.t, .int .u32 p.q, .int .u64 p.l]] w fun e w' => e = .returned (.bool (decide (0 < p.tn))) ∧ Below w.heap.size w w' := by
  have hd : decide ((0 : Int) < (p.tn : Int)) = decide (0 < p.tn) := by
    by_cases h : 0 < p.tn
    · rw [decide_eq_true h, decide_eq_true (by omega)]
    · rw [decide_eq_false h, decide_eq_false (by omega)]
  have HD := Lib.hid hd
  clear hd
  go_enter Tryz.func29, Tryz.ntmps29
  go_wp2
  go_ret
  exact ⟨by rw [← HD.out]; rfl, below_al (Below.refl _ _) _⟩

/-- May its name be? -/
def nmOk (p : Pm) : Bool := decide (0 < p.sn) && decide (p.t ≤ 4611686018427387903)
def nmOkE (p : Pm) : Int := if nmOk p = true then 0 else 2
theorem nmOkE_b (p : Pm) : (nmOkE p == 0) = nmOk p := by
  unfold nmOkE
  cases nmOk p <;> rfl

theorem cname_any (p : Pm) (w : World) : Calls Tryz.prog 57 #[.agg #[.int .u32 p.sn, .int .u32 p.sm, .int .u64 p.t, .int .u32 p.q]] w fun e w' => e = .returned (.int .i64 (nmOkE p)) ∧ Below w.heap.size w w' := by
  unfold nmOkE nmOk
  by_cases h1 : 0 < p.sn
  · by_cases h2 : p.t ≤ 4611686018427387903
    · rw [if_pos (by simp [h1, h2])]
      exact cname_ok _ _ _ _ (by omega) (by omega) w
    · rw [if_neg (by simp [h2])]
      exact cname_no _ _ _ _ (by omega) w
  · rw [if_neg (by simp [h1])]
    exact cname_no _ _ _ _ (by omega) w

set_option maxHeartbeats 1000000 in
theorem pname_any (p : Pm) (w : World) : Calls Tryz.prog 42 #[.agg #[.int .u32 p.f, .int .i64 p.s, .int .u32 p.tn, .int .u32 p.tm, .int .u32 p.sn, .int .u32 p.sm, .int .u32 p.rn, .int .u32 p.rm, .int .u64 p.t, .int .u32 p.q, .int .u64 p.l]] w fun e w' => e = .returned (.agg #[.int .u32 p.sn, .int .u32 p.sm, .int .u64 p.t, .int .u32 p.q]) ∧ Below w.heap.size w w' := by
  go_enter Tryz.func42, Tryz.ntmps42
  go_wp2
  exact bodyPost_ret (v := .agg #[.int .u32 p.sn, .int .u32 p.sm, .int .u64 p.t, .int .u32 p.q]) (by simp [results, Tryz.results42, go_sem]) rfl ⟨rfl, below_al (below_al (Below.refl _ _) _) _⟩

set_option maxHeartbeats 1000000 in
theorem named_any (p : Pm) (w : World) : Calls Tryz.prog 30 #[.agg #[.int .u32 p.f, .int .i64 p.s, .int .u32 p.tn, .int .u32 p.tm, .int .u32 p.sn, .int .u32 p.sm, .int .u32 p.rn, .int .u32 p.rm, .int .u64 p.t, .int .u32 p.q, .int .u64 p.l]] w fun e w' => e = .returned (.bool (nmOk p)) ∧ Below w.heap.size w w' := by
  have HE := Lib.hid (nmOkE_b p)
  have HC := Lib.hid (fun w => cname_any p w)
  have HN := Lib.hid (fun w => pname_any p w)
  generalize nmOkE p = c at *
  generalize nmOk p = q at *
  go_enter Tryz.func30, Tryz.ntmps30
  go_wp2_with fail
  refine (HN.out _).mono ?_
  rintro e w1 ⟨rfl, hb⟩
  have HB1 := Lib.hid (below_on (below_al (Below.refl _ _) _) hb)
  clear hb
  go_wp2_with fail
  refine (HC.out _).mono ?_
  rintro e w2 ⟨rfl, hb⟩
  have HB2 := Lib.hid (below_on HB1.out hb)
  clear hb
  go_wp2
  go_ret
  exact ⟨by rw [← HE.out]; rfl, HB2.out⟩

/-- May the one that is reported to be? -/
def rpOk (p : Pm) : Bool := decide (0 < p.rn ∨ p.rm = 0)
def rpOkE (p : Pm) : Int := if rpOk p = true then 0 else 2
theorem rpOkE_b (p : Pm) : (rpOkE p == 0) = rpOk p := by
  unfold rpOkE
  cases rpOk p <;> rfl

theorem rcheck_any (p : Pm) (w : World) : Calls Tryz.prog 58 #[.agg #[.int .u32 p.rn, .int .u32 p.rm]] w fun e w' => e = .returned (.int .i64 (rpOkE p)) ∧ Below w.heap.size w w' := by
  unfold rpOkE rpOk
  by_cases h1 : 0 < p.rn
  · rw [if_pos (by simp [h1])]
    exact check_ok _ _ (.inl (by omega)) w
  · have e : p.rn = 0 := by omega
    by_cases h2 : p.rm = 0
    · rw [if_pos (by simp [h2])]
      exact check_ok _ _ (.inr ⟨by omega, by omega⟩) w
    · rw [if_neg (by simp [h1, h2]), e]
      exact check_no _ (by omega) w

set_option maxHeartbeats 1000000 in
theorem reported_any (p : Pm) (w : World) : Calls Tryz.prog 31 #[.agg #[.int .u32 p.f, .int .i64 p.s, .int .u32 p.tn, .int .u32 p.tm, .int .u32 p.sn, .int .u32 p.sm, .int .u32 p.rn, .int .u32 p.rm, .int .u64 p.t, .int .u32 p.q, .int .u64 p.l]] w fun e w' => e = .returned (.bool (rpOk p)) ∧ Below w.heap.size w w' := by
  have HE := Lib.hid (rpOkE_b p)
  have HC := Lib.hid (fun w => rcheck_any p w)
  generalize rpOkE p = c at *
  generalize rpOk p = q at *
  go_enter Tryz.func31, Tryz.ntmps31
  go_wp2_with fail
  refine (HC.out _).mono ?_
  rintro e w2 ⟨rfl, hb⟩
  have HB2 := Lib.hid (below_on (below_al (Below.refl _ _) _) hb)
  clear hb
  go_wp2
  go_ret
  exact ⟨by rw [← HE.out]; rfl, HB2.out⟩

theorem rdU_one (w : World) (x : Int) : RdU (w.alloc (.cells #[.int .u64 x] 26)) (w.heap.size + 1) (some ⟨w.heap.size, 0, none⟩) [x] := by
  refine .inr ⟨w.heap.size, 0, rfl, Nat.lt_succ_self _, fun j hj => ?_⟩
  obtain rfl : j = 0 := by simp at hj; omega
  simp

set_option maxHeartbeats 1000000 in
theorem check_one (a : Int) (w : World) :
    Calls Tryz.prog 59 #[.slice (some ⟨w.heap.size, 0, none⟩) 1 1] (w.alloc (.cells #[.int .u64 a] 26)) fun e w' => e = .returned (.int .i64 (chkT (isT a))) ∧ w.alloc (.cells #[.int .u64 a] 26) = w' := by
  have H := Lib.hid (withinT_any (some ⟨w.heap.size, 0, none⟩) 1 (w.heap.size + 1) [a] (w.alloc (.cells #[.int .u64 a] 26)) (by simp) (rdU_one w a))
  have hv : allT [a] 1 ↔ isT a = true := by
    constructor
    · intro h
      exact h 0 (by omega)
    · intro h0 j hj
      obtain rfl : j = 0 := by omega
      exact h0
  cases hq : isT a
  · rw [hq] at hv
    have HV := Lib.hid hv
    clear hv hq
    generalize w.alloc (.cells #[.int .u64 a] 26) = W at H ⊢
    go_enter Tryz.func59, Tryz.ntmps59
    go_wp2
    refine wp_scope_on 0 rfl ?_
    go_wp2_with fail
    refine H.out.mono ?_
    rintro e w' ⟨⟨rfl, h⟩ | ⟨rfl, h⟩, rfl⟩
    · exact absurd (HV.out.1 h) (by simp)
    · clear h
      go_wp2
      go_step3
      refine ⟨rfl, ?_⟩
      show Code.wp _ _ _ _ _
      go_wp2
      rw [Exit.noGoto_ret]
      go_ret
      exact ⟨rfl, rfl⟩
  · rw [hq] at hv
    have HV := Lib.hid hv
    clear hv hq
    generalize w.alloc (.cells #[.int .u64 a] 26) = W at H ⊢
    go_enter Tryz.func59, Tryz.ntmps59
    go_wp2
    refine wp_scope_on 0 rfl ?_
    go_wp2_with fail
    refine H.out.mono ?_
    rintro e w' ⟨⟨rfl, h⟩ | ⟨rfl, h⟩, rfl⟩
    · clear h
      go_wp2
      simp only [Exit.jump]
      go_ret
      exact ⟨rfl, rfl⟩
    · exact absurd (HV.out.2 trivial) h

/-- May its life be? -/
def lfOk (p : Pm) : Bool := isT p.l
theorem lfOk_b (p : Pm) : (chkT (isT p.l) == 0) = lfOk p := by
  unfold lfOk chkT
  cases isT (p.l : Int) <;> rfl

set_option maxHeartbeats 1000000 in
theorem lives_any (p : Pm) (w : World) : Calls Tryz.prog 32 #[.agg #[.int .u32 p.f, .int .i64 p.s, .int .u32 p.tn, .int .u32 p.tm, .int .u32 p.sn, .int .u32 p.sm, .int .u32 p.rn, .int .u32 p.rm, .int .u64 p.t, .int .u32 p.q, .int .u64 p.l]] w fun e w' => e = .returned (.bool (lfOk p)) ∧ Below w.heap.size w w' := by
  have HE := Lib.hid (lfOk_b p)
  have HC := Lib.hid (fun w => check_one p.l w)
  generalize chkT (isT p.l) = c at *
  generalize lfOk p = q at *
  go_enter Tryz.func32, Tryz.ntmps32
  go_wp2_with fail
  have HC1 := HC.out (w.alloc (.cells #[.int .u32 p.f, .int .i64 p.s, .int .u32 p.tn, .int .u32 p.tm, .int .u32 p.sn, .int .u32 p.sm, .int .u32 p.rn, .int .u32 p.rm, .int .u64 p.t, .int .u32 p.q, .int .u64 p.l] 59))
  rw [World.size_alloc] at HC1
  refine HC1.mono ?_
  rintro e w2 ⟨rfl, rfl⟩
  go_wp2
  go_ret
  exact ⟨by rw [← HE.out]; rfl, below_al (below_al (Below.refl _ _) _) _⟩

end Go.Proofs.YtlmdbeccfoncpaaGreatDoor

namespace Go.Proofs.YtlmdbeccfoncpaaGreatDoor
open Go Go.RowKit Go.Shelf
set_option linter.unusedSimpArgs false
set_option linter.unusedVariables false
set_option maxRecDepth 100000

set_option maxHeartbeats 8000000 in
theorem yesSix_any (p : Pm) (hp : p.ok) (g : Nat) (w : World) (hf : (w.cell? ⟨g, 0, none⟩ = some (.func (.func 27) #[] #[]) ∧ w.cell? ⟨g, 1, none⟩ = some (.func (.func 28) #[] #[]) ∧ w.cell? ⟨g, 2, none⟩ = some (.func (.func 29) #[] #[]) ∧ w.cell? ⟨g, 3, none⟩ = some (.func (.func 30) #[] #[]) ∧ w.cell? ⟨g, 4, none⟩ = some (.func (.func 31) #[] #[]) ∧ w.cell? ⟨g, 5, none⟩ = some (.func (.func 32) #[] #[]))) :
    Calls Tryz.prog 26 #[.agg #[.int .u32 p.f, .int .i64 p.s, .int .u32 p.tn, .int .u32 p.tm, .int .u32 p.sn, .int .u32 p.sm, .int .u32 p.rn, .int .u32 p.rm, .int .u64 p.t, .int .u32 p.q, .int .u64 p.l], .slice (some ⟨g, 0, none⟩) 6 6] w fun e w' => e = .returned (.bool ((flB p.f) && ((isK p.s) && ((decide (0 < p.tn)) && ((nmOk p) && ((rpOk p) && (lfOk p))))))) ∧ Below w.heap.size w w' := by
  have hg : g < w.heap.size := World.block_lt_of_cell? w _ hf.1
  obtain ⟨W, hW⟩ : ∃ W, W = w.alloc (.cells #[.int .u32 p.f, .int .i64 p.s, .int .u32 p.tn, .int .u32 p.tm, .int .u32 p.sn, .int .u32 p.sm, .int .u32 p.rn, .int .u32 p.rm, .int .u64 p.t, .int .u32 p.q, .int .u64 p.l] 59) := ⟨_, rfl⟩
  have HB0 : Hid (Below w.heap.size w W) := by rw [hW]; exact below_al (Below.refl _ _) _
  have HX : Hid (∀ w', Below W.heap.size W w' → (w'.cell? ⟨w.heap.size, 0, none⟩ = some (.int .u32 p.f) ∧ w'.cell? ⟨w.heap.size, 1, none⟩ = some (.int .i64 p.s) ∧ w'.cell? ⟨w.heap.size, 2, none⟩ = some (.int .u32 p.tn) ∧ w'.cell? ⟨w.heap.size, 3, none⟩ = some (.int .u32 p.tm) ∧ w'.cell? ⟨w.heap.size, 4, none⟩ = some (.int .u32 p.sn) ∧ w'.cell? ⟨w.heap.size, 5, none⟩ = some (.int .u32 p.sm) ∧ w'.cell? ⟨w.heap.size, 6, none⟩ = some (.int .u32 p.rn) ∧ w'.cell? ⟨w.heap.size, 7, none⟩ = some (.int .u32 p.rm) ∧ w'.cell? ⟨w.heap.size, 8, none⟩ = some (.int .u64 p.t) ∧ w'.cell? ⟨w.heap.size, 9, none⟩ = some (.int .u32 p.q) ∧ w'.cell? ⟨w.heap.size, 10, none⟩ = some (.int .u64 p.l)) ∧ (w'.cell? ⟨g, 0, none⟩ = some (.func (.func 27) #[] #[]) ∧ w'.cell? ⟨g, 1, none⟩ = some (.func (.func 28) #[] #[]) ∧ w'.cell? ⟨g, 2, none⟩ = some (.func (.func 29) #[] #[]) ∧ w'.cell? ⟨g, 3, none⟩ = some (.func (.func 30) #[] #[]) ∧ w'.cell? ⟨g, 4, none⟩ = some (.func (.func 31) #[] #[]) ∧ w'.cell? ⟨g, 5, none⟩ = some (.func (.func 32) #[] #[]))) := fun w' h => by
    have hb := HB0.out.trans (h.mono HB0.out.size)
    refine ⟨?_, ?_⟩
    · rw [hW] at h
      exact pbox h
    · obtain ⟨f0, f1, f2, f3, f4, f5⟩ := hf
      exact ⟨(hb.cell (p := ⟨g, 0, none⟩) hg).trans f0, (hb.cell (p := ⟨g, 1, none⟩) hg).trans f1, (hb.cell (p := ⟨g, 2, none⟩) hg).trans f2, (hb.cell (p := ⟨g, 3, none⟩) hg).trans f3, (hb.cell (p := ⟨g, 4, none⟩) hg).trans f4, (hb.cell (p := ⟨g, 5, none⟩) hg).trans f5⟩
  obtain ⟨q0, e0⟩ : ∃ q, q = (flB p.f) := ⟨_, rfl⟩
  obtain ⟨q1, e1⟩ : ∃ q, q = (isK p.s) := ⟨_, rfl⟩
  obtain ⟨q2, e2⟩ : ∃ q, q = (decide (0 < p.tn)) := ⟨_, rfl⟩
  obtain ⟨q3, e3⟩ : ∃ q, q = (nmOk p) := ⟨_, rfl⟩
  obtain ⟨q4, e4⟩ : ∃ q, q = (rpOk p) := ⟨_, rfl⟩
  obtain ⟨q5, e5⟩ : ∃ q, q = (lfOk p) := ⟨_, rfl⟩
  have HQ0 : Hid (∀ w', Calls Tryz.prog 27 #[.agg #[.int .u32 p.f, .int .i64 p.s, .int .u32 p.tn, .int .u32 p.tm, .int .u32 p.sn, .int .u32 p.sm, .int .u32 p.rn, .int .u32 p.rm, .int .u64 p.t, .int .u32 p.q, .int .u64 p.l]] w' fun e w'' => e = .returned (.bool q0) ∧ Below w'.heap.size w' w'') := fun w' => by rw [e0]; exact flagged_any p hp _
  have HQ1 : Hid (∀ w', Calls Tryz.prog 28 #[.agg #[.int .u32 p.f, .int .i64 p.s, .int .u32 p.tn, .int .u32 p.tm, .int .u32 p.sn, .int .u32 p.sm, .int .u32 p.rn, .int .u32 p.rm, .int .u64 p.t, .int .u32 p.q, .int .u64 p.l]] w' fun e w'' => e = .returned (.bool q1) ∧ Below w'.heap.size w' w'') := fun w' => by rw [e1]; exact summed_any p _
  have HQ2 : Hid (∀ w', Calls Tryz.prog 29 #[.agg #[.int .u32 p.f, .int .i64 p.s, .int .u32 p.tn, .int .u32 p.tm, .int .u32 p.sn, .int .u32 p.sm, .int .u32 p.rn, .int .u32 p.rm, .int .u64 p.t, .int .u32 p.q, .int .u64 p.l]] w' fun e w'' => e = .returned (.bool q2) ∧ Below w'.heap.size w' w'') := fun w' => by rw [e2]; exact sent_any p _
  have HQ3 : Hid (∀ w', Calls Tryz.prog 30 #[.agg #[.int .u32 p.f, .int .i64 p.s, .int .u32 p.tn, .int .u32 p.tm, .int .u32 p.sn, .int .u32 p.sm, .int .u32 p.rn, .int .u32 p.rm, .int .u64 p.t, .int .u32 p.q, .int .u64 p.l]] w' fun e w'' => e = .returned (.bool q3) ∧ Below w'.heap.size w' w'') := fun w' => by rw [e3]; exact named_any p _
  have HQ4 : Hid (∀ w', Calls Tryz.prog 31 #[.agg #[.int .u32 p.f, .int .i64 p.s, .int .u32 p.tn, .int .u32 p.tm, .int .u32 p.sn, .int .u32 p.sm, .int .u32 p.rn, .int .u32 p.rm, .int .u64 p.t, .int .u32 p.q, .int .u64 p.l]] w' fun e w'' => e = .returned (.bool q4) ∧ Below w'.heap.size w' w'') := fun w' => by rw [e4]; exact reported_any p _
  have HQ5 : Hid (∀ w', Calls Tryz.prog 32 #[.agg #[.int .u32 p.f, .int .i64 p.s, .int .u32 p.tn, .int .u32 p.tm, .int .u32 p.sn, .int .u32 p.sm, .int .u32 p.rn, .int .u32 p.rm, .int .u64 p.t, .int .u32 p.q, .int .u64 p.l]] w' fun e w'' => e = .returned (.bool q5) ∧ Below w'.heap.size w' w'') := fun w' => by rw [e5]; exact lives_any p _
  rw [← e0, ← e1, ← e2, ← e3, ← e4, ← e5]
  have HW := Lib.hid hW
  clear hW hf e0 e1 e2 e3 e4 e5
  go_enter Tryz.func26, Tryz.ntmps26
  go_wp2_with fail
  rw [← HW.out]
  go_loopw [9] (fun i wr => ∃ k : Nat, k ≤ 6 ∧ i = .int .i64 k ∧ Hid (Below W.heap.size W wr ∧ (1 ≤ k → q0 = true) ∧ (2 ≤ k → q1 = true) ∧ (3 ≤ k → q2 = true) ∧ (4 ≤ k → q3 = true) ∧ (5 ≤ k → q4 = true) ∧ (6 ≤ k → q5 = true))) (fun i _ => 6 - (intOf i).toNat)
  case atStart => exact ⟨0, by omega, rfl, Below.refl _ _, fun h => by omega, fun h => by omega, fun h => by omega, fun h => by omega, fun h => by omega, fun h => by omega⟩
  case round =>
    obtain ⟨k, hk, rfl, HI⟩ := hrel
    obtain ⟨⟨x0, x1, x2, x3, x4, x5, x6, x7, x8, x9, x10⟩, y0, y1, y2, y3, y4, y5⟩ := HX.out wr HI.out.1
    have hkk : k = 0 ∨ k = 1 ∨ k = 2 ∨ k = 3 ∨ k = 4 ∨ k = 5 ∨ k = 6 := by omega
    rcases hkk with rfl | rfl | rfl | rfl | rfl | rfl | rfl
    · go_wp2_with fail
      refine (HQ0.out wr).mono ?_
      rintro e w1 ⟨rfl, hb⟩
      have HB := Lib.hid (below_on HI.out.1 hb)
      clear hb x0 x1 x2 x3 x4 x5 x6 x7 x8 x9 x10 y0 y1 y2 y3 y4 y5
      cases q0
      · go_wp2_with fail
        go_ret
        exact ⟨by simp, HB0.out.trans (HB.out.mono HB0.out.size)⟩
      · go_wp2_with fail
        go_roundw
        case rel => exact ⟨1, by omega, rfl, HB.out, (fun _ => by first | trivial | rfl), (fun h => by omega), (fun h => by omega), (fun h => by omega), (fun h => by omega), (fun h => by omega)⟩
        case measure => simp [intOf]
    · go_wp2_with fail
      refine (HQ1.out wr).mono ?_
      rintro e w1 ⟨rfl, hb⟩
      have HB := Lib.hid (below_on HI.out.1 hb)
      clear hb x0 x1 x2 x3 x4 x5 x6 x7 x8 x9 x10 y0 y1 y2 y3 y4 y5
      cases q1
      · go_wp2_with fail
        go_ret
        exact ⟨by simp, HB0.out.trans (HB.out.mono HB0.out.size)⟩
      · go_wp2_with fail
        go_roundw
        case rel => exact ⟨2, by omega, rfl, HB.out, (fun _ => HI.out.2.1 (by omega)), (fun _ => by first | trivial | rfl), (fun h => by omega), (fun h => by omega), (fun h => by omega), (fun h => by omega)⟩
        case measure => simp [intOf]
    · go_wp2_with fail
      refine (HQ2.out wr).mono ?_
      rintro e w1 ⟨rfl, hb⟩
      have HB := Lib.hid (below_on HI.out.1 hb)
      clear hb x0 x1 x2 x3 x4 x5 x6 x7 x8 x9 x10 y0 y1 y2 y3 y4 y5
      cases q2
      · go_wp2_with fail
        go_ret
        exact ⟨by simp, HB0.out.trans (HB.out.mono HB0.out.size)⟩
      · go_wp2_with fail
        go_roundw
        case rel => exact ⟨3, by omega, rfl, HB.out, (fun _ => HI.out.2.1 (by omega)), (fun _ => HI.out.2.2.1 (by omega)), (fun _ => by first | trivial | rfl), (fun h => by omega), (fun h => by omega), (fun h => by omega)⟩
        case measure => simp [intOf]
    · go_wp2_with fail
      refine (HQ3.out wr).mono ?_
      rintro e w1 ⟨rfl, hb⟩
      have HB := Lib.hid (below_on HI.out.1 hb)
      clear hb x0 x1 x2 x3 x4 x5 x6 x7 x8 x9 x10 y0 y1 y2 y3 y4 y5
      cases q3
      · go_wp2_with fail
        go_ret
        exact ⟨by simp, HB0.out.trans (HB.out.mono HB0.out.size)⟩
      · go_wp2_with fail
        go_roundw
        case rel => exact ⟨4, by omega, rfl, HB.out, (fun _ => HI.out.2.1 (by omega)), (fun _ => HI.out.2.2.1 (by omega)), (fun _ => HI.out.2.2.2.1 (by omega)), (fun _ => by first | trivial | rfl), (fun h => by omega), (fun h => by omega)⟩
        case measure => simp [intOf]
    · go_wp2_with fail
      refine (HQ4.out wr).mono ?_
      rintro e w1 ⟨rfl, hb⟩
      have HB := Lib.hid (below_on HI.out.1 hb)
      clear hb x0 x1 x2 x3 x4 x5 x6 x7 x8 x9 x10 y0 y1 y2 y3 y4 y5
      cases q4
      · go_wp2_with fail
        go_ret
        exact ⟨by simp, HB0.out.trans (HB.out.mono HB0.out.size)⟩
      · go_wp2_with fail
        go_roundw
        case rel => exact ⟨5, by omega, rfl, HB.out, (fun _ => HI.out.2.1 (by omega)), (fun _ => HI.out.2.2.1 (by omega)), (fun _ => HI.out.2.2.2.1 (by omega)), (fun _ => HI.out.2.2.2.2.1 (by omega)), (fun _ => by first | trivial | rfl), (fun h => by omega)⟩
        case measure => simp [intOf]
    · go_wp2_with fail
      refine (HQ5.out wr).mono ?_
      rintro e w1 ⟨rfl, hb⟩
      have HB := Lib.hid (below_on HI.out.1 hb)
      clear hb x0 x1 x2 x3 x4 x5 x6 x7 x8 x9 x10 y0 y1 y2 y3 y4 y5
      cases q5
      · go_wp2_with fail
        go_ret
        exact ⟨by simp, HB0.out.trans (HB.out.mono HB0.out.size)⟩
      · go_wp2_with fail
        go_roundw
        case rel => exact ⟨6, by omega, rfl, HB.out, (fun _ => HI.out.2.1 (by omega)), (fun _ => HI.out.2.2.1 (by omega)), (fun _ => HI.out.2.2.2.1 (by omega)), (fun _ => HI.out.2.2.2.2.1 (by omega)), (fun _ => HI.out.2.2.2.2.2.1 (by omega)), (fun _ => by first | trivial | rfl)⟩
        case measure => simp [intOf]
    · have r0 := HI.out.2.1 (by omega)
      have r1 := HI.out.2.2.1 (by omega)
      have r2 := HI.out.2.2.2.1 (by omega)
      have r3 := HI.out.2.2.2.2.1 (by omega)
      have r4 := HI.out.2.2.2.2.2.1 (by omega)
      have r5 := HI.out.2.2.2.2.2.2 (by omega)
      subst r0 r1 r2 r3 r4 r5
      clear x0 x1 x2 x3 x4 x5 x6 x7 x8 x9 x10 y0 y1 y2 y3 y4 y5
      go_wp2_with fail
      go_ret
      exact ⟨rfl, HB0.out.trans (HI.out.1.mono HB0.out.size)⟩

set_option maxHeartbeats 8000000 in
theorem yesFlag_any (p : Pm) (hp : p.ok) (g : Nat) (w : World) (hf : (w.cell? ⟨g, 0, none⟩ = some (.func (.func 27) #[] #[]))) :
    Calls Tryz.prog 26 #[.agg #[.int .u32 p.f, .int .i64 p.s, .int .u32 p.tn, .int .u32 p.tm, .int .u32 p.sn, .int .u32 p.sm, .int .u32 p.rn, .int .u32 p.rm, .int .u64 p.t, .int .u32 p.q, .int .u64 p.l], .slice (some ⟨g, 0, none⟩) 1 1] w fun e w' => e = .returned (.bool (flB p.f)) ∧ Below w.heap.size w w' := by
  have hg : g < w.heap.size := World.block_lt_of_cell? w _ hf
  obtain ⟨W, hW⟩ : ∃ W, W = w.alloc (.cells #[.int .u32 p.f, .int .i64 p.s, .int .u32 p.tn, .int .u32 p.tm, .int .u32 p.sn, .int .u32 p.sm, .int .u32 p.rn, .int .u32 p.rm, .int .u64 p.t, .int .u32 p.q, .int .u64 p.l] 59) := ⟨_, rfl⟩
  have HB0 : Hid (Below w.heap.size w W) := by rw [hW]; exact below_al (Below.refl _ _) _
  have HX : Hid (∀ w', Below W.heap.size W w' → (w'.cell? ⟨w.heap.size, 0, none⟩ = some (.int .u32 p.f) ∧ w'.cell? ⟨w.heap.size, 1, none⟩ = some (.int .i64 p.s) ∧ w'.cell? ⟨w.heap.size, 2, none⟩ = some (.int .u32 p.tn) ∧ w'.cell? ⟨w.heap.size, 3, none⟩ = some (.int .u32 p.tm) ∧ w'.cell? ⟨w.heap.size, 4, none⟩ = some (.int .u32 p.sn) ∧ w'.cell? ⟨w.heap.size, 5, none⟩ = some (.int .u32 p.sm) ∧ w'.cell? ⟨w.heap.size, 6, none⟩ = some (.int .u32 p.rn) ∧ w'.cell? ⟨w.heap.size, 7, none⟩ = some (.int .u32 p.rm) ∧ w'.cell? ⟨w.heap.size, 8, none⟩ = some (.int .u64 p.t) ∧ w'.cell? ⟨w.heap.size, 9, none⟩ = some (.int .u32 p.q) ∧ w'.cell? ⟨w.heap.size, 10, none⟩ = some (.int .u64 p.l)) ∧ (w'.cell? ⟨g, 0, none⟩ = some (.func (.func 27) #[] #[]))) := fun w' h => by
    have hb := HB0.out.trans (h.mono HB0.out.size)
    refine ⟨?_, ?_⟩
    · rw [hW] at h
      exact pbox h
    · have f0 := hf
      exact (hb.cell (p := ⟨g, 0, none⟩) hg).trans f0
  obtain ⟨q0, e0⟩ : ∃ q, q = (flB p.f) := ⟨_, rfl⟩
  have HQ0 : Hid (∀ w', Calls Tryz.prog 27 #[.agg #[.int .u32 p.f, .int .i64 p.s, .int .u32 p.tn, .int .u32 p.tm, .int .u32 p.sn, .int .u32 p.sm, .int .u32 p.rn, .int .u32 p.rm, .int .u64 p.t, .int .u32 p.q, .int .u64 p.l]] w' fun e w'' => e = .returned (.bool q0) ∧ Below w'.heap.size w' w'') := fun w' => by rw [e0]; exact flagged_any p hp _
  rw [← e0]
  have HW := Lib.hid hW
  clear hW hf e0
  go_enter Tryz.func26, Tryz.ntmps26
  go_wp2_with fail
  rw [← HW.out]
  go_loopw [9] (fun i wr => ∃ k : Nat, k ≤ 1 ∧ i = .int .i64 k ∧ Hid (Below W.heap.size W wr ∧ (1 ≤ k → q0 = true))) (fun i _ => 1 - (intOf i).toNat)
  case atStart => exact ⟨0, by omega, rfl, Below.refl _ _, fun h => by omega⟩
  case round =>
    obtain ⟨k, hk, rfl, HI⟩ := hrel
    obtain ⟨⟨x0, x1, x2, x3, x4, x5, x6, x7, x8, x9, x10⟩, y0⟩ := HX.out wr HI.out.1
    have hkk : k = 0 ∨ k = 1 := by omega
    rcases hkk with rfl | rfl
    · go_wp2_with fail
      refine (HQ0.out wr).mono ?_
      rintro e w1 ⟨rfl, hb⟩
      have HB := Lib.hid (below_on HI.out.1 hb)
      clear hb x0 x1 x2 x3 x4 x5 x6 x7 x8 x9 x10 y0
      cases q0
      · go_wp2_with fail
        go_ret
        exact ⟨by simp, HB0.out.trans (HB.out.mono HB0.out.size)⟩
      · go_wp2_with fail
        go_roundw
        case rel => exact ⟨1, by omega, rfl, HB.out, (fun _ => by first | trivial | rfl)⟩
        case measure => simp [intOf]
    · have r0 := HI.out.2 (by omega)
      subst r0
      clear x0 x1 x2 x3 x4 x5 x6 x7 x8 x9 x10 y0
      go_wp2_with fail
      go_ret
      exact ⟨rfl, HB0.out.trans (HI.out.1.mono HB0.out.size)⟩

set_option maxHeartbeats 8000000 in
theorem yesName_any (p : Pm) (hp : p.ok) (g : Nat) (w : World) (hf : (w.cell? ⟨g, 0, none⟩ = some (.func (.func 30) #[] #[]))) :
    Calls Tryz.prog 26 #[.agg #[.int .u32 p.f, .int .i64 p.s, .int .u32 p.tn, .int .u32 p.tm, .int .u32 p.sn, .int .u32 p.sm, .int .u32 p.rn, .int .u32 p.rm, .int .u64 p.t, .int .u32 p.q, .int .u64 p.l], .slice (some ⟨g, 0, none⟩) 1 1] w fun e w' => e = .returned (.bool (nmOk p)) ∧ Below w.heap.size w w' := by
  have hg : g < w.heap.size := World.block_lt_of_cell? w _ hf
  obtain ⟨W, hW⟩ : ∃ W, W = w.alloc (.cells #[.int .u32 p.f, .int .i64 p.s, .int .u32 p.tn, .int .u32 p.tm, .int .u32 p.sn, .int .u32 p.sm, .int .u32 p.rn, .int .u32 p.rm, .int .u64 p.t, .int .u32 p.q, .int .u64 p.l] 59) := ⟨_, rfl⟩
  have HB0 : Hid (Below w.heap.size w W) := by rw [hW]; exact below_al (Below.refl _ _) _
  have HX : Hid (∀ w', Below W.heap.size W w' → (w'.cell? ⟨w.heap.size, 0, none⟩ = some (.int .u32 p.f) ∧ w'.cell? ⟨w.heap.size, 1, none⟩ = some (.int .i64 p.s) ∧ w'.cell? ⟨w.heap.size, 2, none⟩ = some (.int .u32 p.tn) ∧ w'.cell? ⟨w.heap.size, 3, none⟩ = some (.int .u32 p.tm) ∧ w'.cell? ⟨w.heap.size, 4, none⟩ = some (.int .u32 p.sn) ∧ w'.cell? ⟨w.heap.size, 5, none⟩ = some (.int .u32 p.sm) ∧ w'.cell? ⟨w.heap.size, 6, none⟩ = some (.int .u32 p.rn) ∧ w'.cell? ⟨w.heap.size, 7, none⟩ = some (.int .u32 p.rm) ∧ w'.cell? ⟨w.heap.size, 8, none⟩ = some (.int .u64 p.t) ∧ w'.cell? ⟨w.heap.size, 9, none⟩ = some (.int .u32 p.q) ∧ w'.cell? ⟨w.heap.size, 10, none⟩ = some (.int .u64 p.l)) ∧ (w'.cell? ⟨g, 0, none⟩ = some (.func (.func 30) #[] #[]))) := fun w' h => by
    have hb := HB0.out.trans (h.mono HB0.out.size)
    refine ⟨?_, ?_⟩
    · rw [hW] at h
      exact pbox h
    · have f0 := hf
      exact (hb.cell (p := ⟨g, 0, none⟩) hg).trans f0
  obtain ⟨q0, e0⟩ : ∃ q, q = (nmOk p) := ⟨_, rfl⟩
  have HQ0 : Hid (∀ w', Calls Tryz.prog 30 #[.agg #[.int .u32 p.f, .int .i64 p.s, .int .u32 p.tn, .int .u32 p.tm, .int .u32 p.sn, .int .u32 p.sm, .int .u32 p.rn, .int .u32 p.rm, .int .u64 p.t, .int .u32 p.q, .int .u64 p.l]] w' fun e w'' => e = .returned (.bool q0) ∧ Below w'.heap.size w' w'') := fun w' => by rw [e0]; exact named_any p _
  rw [← e0]
  have HW := Lib.hid hW
  clear hW hf e0
  go_enter Tryz.func26, Tryz.ntmps26
  go_wp2_with fail
  rw [← HW.out]
  go_loopw [9] (fun i wr => ∃ k : Nat, k ≤ 1 ∧ i = .int .i64 k ∧ Hid (Below W.heap.size W wr ∧ (1 ≤ k → q0 = true))) (fun i _ => 1 - (intOf i).toNat)
  case atStart => exact ⟨0, by omega, rfl, Below.refl _ _, fun h => by omega⟩
  case round =>
    obtain ⟨k, hk, rfl, HI⟩ := hrel
    obtain ⟨⟨x0, x1, x2, x3, x4, x5, x6, x7, x8, x9, x10⟩, y0⟩ := HX.out wr HI.out.1
    have hkk : k = 0 ∨ k = 1 := by omega
    rcases hkk with rfl | rfl
    · go_wp2_with fail
      refine (HQ0.out wr).mono ?_
      rintro e w1 ⟨rfl, hb⟩
      have HB := Lib.hid (below_on HI.out.1 hb)
      clear hb x0 x1 x2 x3 x4 x5 x6 x7 x8 x9 x10 y0
      cases q0
      · go_wp2_with fail
        go_ret
        exact ⟨by simp, HB0.out.trans (HB.out.mono HB0.out.size)⟩
      · go_wp2_with fail
        go_roundw
        case rel => exact ⟨1, by omega, rfl, HB.out, (fun _ => by first | trivial | rfl)⟩
        case measure => simp [intOf]
    · have r0 := HI.out.2 (by omega)
      subst r0
      clear x0 x1 x2 x3 x4 x5 x6 x7 x8 x9 x10 y0
      go_wp2_with fail
      go_ret
      exact ⟨rfl, HB0.out.trans (HI.out.1.mono HB0.out.size)⟩

/-- May it be? -/
def Pm.right (p : Pm) : Bool := ((flB p.f) && ((isK p.s) && ((decide (0 < p.tn)) && ((nmOk p) && ((rpOk p) && (lfOk p))))))
def Pm.er (p : Pm) : Int := if p.right = true then 0 else 2

set_option maxHeartbeats 4000000 in
theorem prcheck_any (p : Pm) (hp : p.ok) (w : World) : Calls Tryz.prog 7 #[.agg #[.int .u32 p.f, .int .i64 p.s, .int .u32 p.tn, .int .u32 p.tm, .int .u32 p.sn, .int .u32 p.sm, .int .u32 p.rn, .int .u32 p.rm, .int .u64 p.t, .int .u32 p.q, .int .u64 p.l]] w fun e w' => e = .returned (.int .i64 p.er) ∧ Below w.heap.size w w' := by
  have HY : Hid (∀ (g : Nat) (w1 : World), (w1.cell? ⟨g, 0, none⟩ = some (.func (.func 27) #[] #[]) ∧ w1.cell? ⟨g, 1, none⟩ = some (.func (.func 28) #[] #[]) ∧ w1.cell? ⟨g, 2, none⟩ = some (.func (.func 29) #[] #[]) ∧ w1.cell? ⟨g, 3, none⟩ = some (.func (.func 30) #[] #[]) ∧ w1.cell? ⟨g, 4, none⟩ = some (.func (.func 31) #[] #[]) ∧ w1.cell? ⟨g, 5, none⟩ = some (.func (.func 32) #[] #[])) → Calls Tryz.prog 26 #[.agg #[.int .u32 p.f, .int .i64 p.s, .int .u32 p.tn, .int .u32 p.tm, .int .u32 p.sn, .int .u32 p.sm, .int .u32 p.rn, .int .u32 p.rm, .int .u64 p.t, .int .u32 p.q, .int .u64 p.l], .slice (some ⟨g, 0, none⟩) 6 6] w1 fun e w' => e = .returned (.bool p.right) ∧ Below w1.heap.size w1 w') := fun g w1 h => yesSix_any p hp g w1 h
  have HC : Hid (p.er = if p.right = true then 0 else 2) := rfl
  generalize p.right = q at *
  generalize p.er = r at *
  go_enter Tryz.func7, Tryz.ntmps7
  go_wp2_with fail
  refine wp_scope_on 0 rfl ?_
  go_wp2_with fail
  obtain ⟨W, hW⟩ : ∃ W, W = (w.alloc (.cells #[.int .u32 p.f, .int .i64 p.s, .int .u32 p.tn, .int .u32 p.tm, .int .u32 p.sn, .int .u32 p.sm, .int .u32 p.rn, .int .u32 p.rm, .int .u64 p.t, .int .u32 p.q, .int .u64 p.l] 28)).alloc (.cells #[.func (.func 27) #[] #[], .func (.func 28) #[] #[], .func (.func 29) #[] #[], .func (.func 30) #[] #[], .func (.func 31) #[] #[], .func (.func 32) #[] #[]] 62) := ⟨_, rfl⟩
  have HB0 : Hid (Below w.heap.size w W) := by rw [hW]; exact below_al (below_al (Below.refl _ _) _) _
  have hfs : ∀ i, W.cell? ⟨w.heap.size + 1, i, none⟩ = (#[Value.func (.func 27) #[] #[], .func (.func 28) #[] #[], .func (.func 29) #[] #[], .func (.func 30) #[] #[], .func (.func 31) #[] #[], .func (.func 32) #[] #[]] : Array Value)[i]? := fun i => by
    have h := box_at (w := w.alloc (.cells #[.int .u32 p.f, .int .i64 p.s, .int .u32 p.tn, .int .u32 p.tm, .int .u32 p.sn, .int .u32 p.sm, .int .u32 p.rn, .int .u32 p.rm, .int .u64 p.t, .int .u32 p.q, .int .u64 p.l] 28)) (Below.refl _ ((w.alloc (.cells #[.int .u32 p.f, .int .i64 p.s, .int .u32 p.tn, .int .u32 p.tm, .int .u32 p.sn, .int .u32 p.sm, .int .u32 p.rn, .int .u32 p.rm, .int .u64 p.t, .int .u32 p.q, .int .u64 p.l] 28)).alloc (.cells #[.func (.func 27) #[] #[], .func (.func 28) #[] #[], .func (.func 29) #[] #[], .func (.func 30) #[] #[], .func (.func 31) #[] #[], .func (.func 32) #[] #[]] 62))) i
    rw [← hW] at h
    simpa using h
  have HXp : Hid (∀ w', Below W.heap.size W w' → (w'.cell? ⟨w.heap.size, 0, none⟩ = some (.int .u32 p.f) ∧ w'.cell? ⟨w.heap.size, 1, none⟩ = some (.int .i64 p.s) ∧ w'.cell? ⟨w.heap.size, 2, none⟩ = some (.int .u32 p.tn) ∧ w'.cell? ⟨w.heap.size, 3, none⟩ = some (.int .u32 p.tm) ∧ w'.cell? ⟨w.heap.size, 4, none⟩ = some (.int .u32 p.sn) ∧ w'.cell? ⟨w.heap.size, 5, none⟩ = some (.int .u32 p.sm) ∧ w'.cell? ⟨w.heap.size, 6, none⟩ = some (.int .u32 p.rn) ∧ w'.cell? ⟨w.heap.size, 7, none⟩ = some (.int .u32 p.rm) ∧ w'.cell? ⟨w.heap.size, 8, none⟩ = some (.int .u64 p.t) ∧ w'.cell? ⟨w.heap.size, 9, none⟩ = some (.int .u32 p.q) ∧ w'.cell? ⟨w.heap.size, 10, none⟩ = some (.int .u64 p.l))) := fun w' h => by
    rw [hW] at h
    exact pbox (below_on (below_al (Below.refl _ _) _) h)
  have HW := Lib.hid hW
  rw [← hW]
  clear hW
  refine (HY.out (w.heap.size + 1) W ⟨hfs 0, hfs 1, hfs 2, hfs 3, hfs 4, hfs 5⟩).mono ?_
  rintro e w1 ⟨rfl, hb⟩
  have HB1 := Lib.hid (below_on HB0.out hb)
  obtain ⟨x0, x1, x2, x3, x4, x5, x6, x7, x8, x9, x10⟩ := HXp.out w1 hb
  clear hb hfs
  cases q
  · go_wp2_with fail
    go_step3
    refine ⟨rfl, ?_⟩
    show Code.wp _ _ _ _ _
    go_wp2_with fail
    rw [Exit.noGoto_ret]
    go_ret
    exact ⟨by rw [HC.out]; rfl, HB1.out⟩
  · go_wp2_with fail
    simp only [Exit.jump]
    go_ret
    exact ⟨by rw [HC.out]; rfl, HB1.out⟩

/-- Its rank. -/
def Pm.rank (p : Pm) : Int := if flB p.f = true then ((p.f / 128 : Nat) : Int) else 0

set_option maxHeartbeats 4000000 in
theorem rank_any (p : Pm) (hp : p.ok) (w : World) : Calls Tryz.prog 21 #[.agg #[.int .u32 p.f, .int .i64 p.s, .int .u32 p.tn, .int .u32 p.tm, .int .u32 p.sn, .int .u32 p.sm, .int .u32 p.rn, .int .u32 p.rm, .int .u64 p.t, .int .u32 p.q, .int .u64 p.l]] w fun e w' => e = .returned (.int .i64 p.rank) ∧ Below w.heap.size w w' := by
  have HY : Hid (∀ (g : Nat) (w1 : World), w1.cell? ⟨g, 0, none⟩ = some (.func (.func 27) #[] #[]) → Calls Tryz.prog 26 #[.agg #[.int .u32 p.f, .int .i64 p.s, .int .u32 p.tn, .int .u32 p.tm, .int .u32 p.sn, .int .u32 p.sm, .int .u32 p.rn, .int .u32 p.rm, .int .u64 p.t, .int .u32 p.q, .int .u64 p.l], .slice (some ⟨g, 0, none⟩) 1 1] w1 fun e w' => e = .returned (.bool (flB p.f)) ∧ Below w1.heap.size w1 w') := fun g w1 h => yesFlag_any p hp g w1 h
  have HC : Hid (p.rank = if flB p.f = true then ((p.f / 128 : Nat) : Int) else 0) := rfl
  have hf := hp.f
  have hd : ((p.f : Nat) : Int).tdiv 128 = ((p.f / 128 : Nat) : Int) := by rw [Int.tdiv_eq_ediv_of_nonneg (by omega)]; omega
  have hlt : ((p.f / 128 : Nat) : Int) % 4294967296 = ((p.f / 128 : Nat) : Int) := by omega
  have hwr : IntKind.i64.wrap ((p.f / 128 : Nat) : Int) = ((p.f / 128 : Nat) : Int) := by
    simp [IntKind.wrap, IntKind.signed, IntKind.bits]
    omega
  generalize flB p.f = q at *
  generalize p.rank = r at *
  clear hf hp
  go_enter Tryz.func21, Tryz.ntmps21
  go_wp2_with fail
  obtain ⟨W, hW⟩ : ∃ W, W = (w.alloc (.cells #[.int .u32 p.f, .int .i64 p.s, .int .u32 p.tn, .int .u32 p.tm, .int .u32 p.sn, .int .u32 p.sm, .int .u32 p.rn, .int .u32 p.rm, .int .u64 p.t, .int .u32 p.q, .int .u64 p.l] 28)).alloc (.cells #[.func (.func 27) #[] #[]] 62) := ⟨_, rfl⟩
  have HB0 : Hid (Below w.heap.size w W) := by rw [hW]; exact below_al (below_al (Below.refl _ _) _) _
  have hfs : ∀ i, W.cell? ⟨w.heap.size + 1, i, none⟩ = (#[Value.func (.func 27) #[] #[]] : Array Value)[i]? := fun i => by
    have h := box_at (w := w.alloc (.cells #[.int .u32 p.f, .int .i64 p.s, .int .u32 p.tn, .int .u32 p.tm, .int .u32 p.sn, .int .u32 p.sm, .int .u32 p.rn, .int .u32 p.rm, .int .u64 p.t, .int .u32 p.q, .int .u64 p.l] 28)) (Below.refl _ ((w.alloc (.cells #[.int .u32 p.f, .int .i64 p.s, .int .u32 p.tn, .int .u32 p.tm, .int .u32 p.sn, .int .u32 p.sm, .int .u32 p.rn, .int .u32 p.rm, .int .u64 p.t, .int .u32 p.q, .int .u64 p.l] 28)).alloc (.cells #[.func (.func 27) #[] #[]] 62))) i
    rw [← hW] at h
    simpa using h
  have HXp : Hid (∀ w', Below W.heap.size W w' → (w'.cell? ⟨w.heap.size, 0, none⟩ = some (.int .u32 p.f) ∧ w'.cell? ⟨w.heap.size, 1, none⟩ = some (.int .i64 p.s) ∧ w'.cell? ⟨w.heap.size, 2, none⟩ = some (.int .u32 p.tn) ∧ w'.cell? ⟨w.heap.size, 3, none⟩ = some (.int .u32 p.tm) ∧ w'.cell? ⟨w.heap.size, 4, none⟩ = some (.int .u32 p.sn) ∧ w'.cell? ⟨w.heap.size, 5, none⟩ = some (.int .u32 p.sm) ∧ w'.cell? ⟨w.heap.size, 6, none⟩ = some (.int .u32 p.rn) ∧ w'.cell? ⟨w.heap.size, 7, none⟩ = some (.int .u32 p.rm) ∧ w'.cell? ⟨w.heap.size, 8, none⟩ = some (.int .u64 p.t) ∧ w'.cell? ⟨w.heap.size, 9, none⟩ = some (.int .u32 p.q) ∧ w'.cell? ⟨w.heap.size, 10, none⟩ = some (.int .u64 p.l))) := fun w' h => by
    rw [hW] at h
    exact pbox (below_on (below_al (Below.refl _ _) _) h)
  have HW := Lib.hid hW
  rw [← hW]
  clear hW
  refine (HY.out (w.heap.size + 1) W (hfs 0)).mono ?_
  rintro e w1 ⟨rfl, hb⟩
  have HB1 := Lib.hid (below_on HB0.out hb)
  obtain ⟨x0, x1, x2, x3, x4, x5, x6, x7, x8, x9, x10⟩ := HXp.out w1 hb
  clear hb hfs
  cases q
  · go_wp2_with fail
    go_ret
    exact ⟨by rw [HC.out]; rfl, HB1.out⟩
  · generalize ((p.f / 128 : Nat) : Int) = d at *
    go_wp2_with fail
    go_ret
    exact ⟨by rw [HC.out]; rfl, HB1.out⟩

/-- What Name answers. -/
def NameP (p : Pm) (w : World) (e : Ending) (w' : World) : Prop :=
  Below w.heap.size w w' ∧ e = if nmOk p = true then .returned (.tuple #[.agg #[.int .u32 p.sn, .int .u32 p.sm, .int .u64 p.t, .int .u32 p.q], .int .i64 0]) else .returned (.tuple #[.agg #[.int .u32 0, .int .u32 0, .int .u64 0, .int .u32 0], .int .i64 2])

set_option maxHeartbeats 4000000 in
theorem expires_any (p : Pm) (w : World) : Calls Tryz.prog 23 #[.agg #[.int .u32 p.f, .int .i64 p.s, .int .u32 p.tn, .int .u32 p.tm, .int .u32 p.sn, .int .u32 p.sm, .int .u32 p.rn, .int .u32 p.rm, .int .u64 p.t, .int .u32 p.q, .int .u64 p.l]] w fun e w' => e = .returned (.int .u64 (addT p.t p.l)) ∧ Below w.heap.size w w' := by
  have HA := Lib.hid (fun w => add_any p.t p.l w (by omega) (by omega))
  generalize addT p.t p.l = r at *
  go_enter Tryz.func23, Tryz.ntmps23
  go_wp2_with fail
  refine (HA.out _).mono ?_
  rintro e w1 ⟨rfl, hb⟩
  have HB1 := Lib.hid (below_on (below_al (Below.refl _ _) _) hb)
  clear hb
  go_wp2
  go_ret
  exact ⟨rfl, HB1.out⟩

end Go.Proofs.YtlmdbeccfoncpaaGreatDoor
