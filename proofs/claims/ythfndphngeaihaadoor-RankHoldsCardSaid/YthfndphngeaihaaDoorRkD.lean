/- Package rank: what asks of a line; New. -/
import Derived.Test.YthfndphngeaihaaDoorRkC
namespace Go.Proofs.YthfndphngeaihaaDoor
open Go Go.RowKit Go.Shelf
open Go.ChangeMaps (setBlock)
set_option linter.unusedSimpArgs false
set_option linter.unusedVariables false
set_option linter.unusedSectionVars false
set_option maxRecDepth 100000

attribute [local go_sem] Oper.semAt_some

theorem KMap.len {κ : Type} [DecidableEq κ] {enc : κ → Value} {P : Program} {t kt et : TypeId} {w : World} {b : Nat} {l : List (κ × Value)} (h : KMap enc w b l) (ht : P.underlying t = some (.map kt et)) (ty : TypeId) : (Builtin.len_ #[t] ty #[.map (some b)]).run P w = .ok (.int .i64 (l.length : Int)) w := by
  obtain ⟨es, c, hb, _, _, hp, hn⟩ := h
  have e1 : es.size = l.length := by
    have := congrArg List.length hp
    simpa using this
  rw [← e1]
  simp [Builtin.len_, run_underlying ht, MapKept.run_getObj_map hb, goInt, Result.andThen]

theorem absent1_any (S : Nat → Prop) (p : Nat) (most : Int) (D : List Wt) (x : Nm) (b c : Nat) (w : World) (h : LineAt w S p most D) (hb : w.cell? ⟨b, 0, none⟩ = some (.pointer (some ⟨p, 0, none⟩)))
    (h0 : w.cell? ⟨c, 0, none⟩ = some (.int .u32 x.n)) (h1 : w.cell? ⟨c, 1, none⟩ = some (.int .u32 x.m)) (h2 : w.cell? ⟨c, 2, none⟩ = some (.int .u64 x.t)) (h3 : w.cell? ⟨c, 3, none⟩ = some (.int .u32 x.q)) :
    Calls Tryd.prog 51 #[.pointer (some ⟨b, 0, none⟩), .pointer (some ⟨c, 0, none⟩)] w fun e w' => e = .returned (.int .i64 (unE (!(wt D x).isSome) 150)) ∧ Below w.heap.size w w' := by
  have HH : Hid (∀ w, LineAt w S p most D → Calls Tryd.prog 52 #[.pointer (some ⟨p, 0, none⟩), .agg #[.int .u32 x.n, .int .u32 x.m, .int .u64 x.t, .int .u32 x.q]] w fun e w' => e = .returned (.bool (wt D x).isSome) ∧ Below w.heap.size w w') := fun w h => has_any S p most D x w h
  have HL := Lib.hid h
  clear h
  generalize (wt D x).isSome = q at HH ⊢
  go_enter Tryd.func51, Tryd.ntmps51
  go_wp2_with fail
  refine (HH.out w HL.out).mono ?_
  rintro e w1 ⟨rfl, hb1⟩
  have HB := Lib.hid hb1
  clear hb1
  go_wp2_with fail
  refine (unless_any (!q) 150 w1).mono ?_
  rintro e w' ⟨rfl, rfl⟩
  go_wp2_with fail
  go_ret
  exact ⟨rfl, HB.out⟩
theorem waiting1_any (S : Nat → Prop) (p : Nat) (most : Int) (D : List Wt) (x : Nm) (b c : Nat) (w : World) (h : LineAt w S p most D) (hb : w.cell? ⟨b, 0, none⟩ = some (.pointer (some ⟨p, 0, none⟩)))
    (h0 : w.cell? ⟨c, 0, none⟩ = some (.int .u32 x.n)) (h1 : w.cell? ⟨c, 1, none⟩ = some (.int .u32 x.m)) (h2 : w.cell? ⟨c, 2, none⟩ = some (.int .u64 x.t)) (h3 : w.cell? ⟨c, 3, none⟩ = some (.int .u32 x.q)) :
    Calls Tryd.prog 56 #[.pointer (some ⟨b, 0, none⟩), .pointer (some ⟨c, 0, none⟩)] w fun e w' => e = .returned (.int .i64 (unE (wt D x).isSome 5)) ∧ Below w.heap.size w w' := by
  have HH : Hid (∀ w, LineAt w S p most D → Calls Tryd.prog 52 #[.pointer (some ⟨p, 0, none⟩), .agg #[.int .u32 x.n, .int .u32 x.m, .int .u64 x.t, .int .u32 x.q]] w fun e w' => e = .returned (.bool (wt D x).isSome) ∧ Below w.heap.size w w') := fun w h => has_any S p most D x w h
  have HL := Lib.hid h
  clear h
  generalize (wt D x).isSome = q at HH ⊢
  go_enter Tryd.func56, Tryd.ntmps56
  go_wp2_with fail
  refine (HH.out w HL.out).mono ?_
  rintro e w1 ⟨rfl, hb1⟩
  have HB := Lib.hid hb1
  clear hb1
  go_wp2_with fail
  refine (unless_any q 5 w1).mono ?_
  rintro e w' ⟨rfl, rfl⟩
  go_wp2_with fail
  go_ret
  exact ⟨rfl, HB.out⟩

set_option maxHeartbeats 2000000 in
theorem roomy_any (S : Nat → Prop) (p : Nat) (most : Int) (D : List Wt) (w : World) (h : LineAt w S p most D) :
    Calls Tryd.prog 25 #[.pointer (some ⟨p, 0, none⟩)] w fun e w' => e = .returned (.int .i64 (unE (decide ((D.length : Int) < most)) 220)) ∧ Below w.heap.size w w' := by
  obtain ⟨bq, bw, lq, lw, h1, h2, h3, h4, h5, _⟩ := h
  obtain ⟨n, hn⟩ : ∃ n : Int, n = (D.length : Int) := ⟨_, rfl⟩
  have c0 : ∀ k, (w.drewN k).cell? ⟨p, 0, none⟩ = some (.int .i64 most) := fun _ => h1.1 0 _ rfl
  have c2 : ∀ k, (w.drewN k).cell? ⟨p, 2, none⟩ = some (.map (some bw)) := fun _ => h1.1 2 _ rfl
  have hl : ∀ k, (Builtin.len_ #[60] 3 #[.map (some bw)]).run Tryd.prog (w.drewN k) = .ok (.int .i64 n) (w.drewN k) := fun k => by
    have : KMap encNm (w.drewN k) bw lw := h3.kept rfl
    rw [hn, ← h5.2.1]
    exact this.len Tryd.underlying60 _
  rw [← hn]
  clear h1 h2 h3 h4 h5 hn
  go_enter Tryd.func25, Tryd.ntmps25
  go_upto_region 1 with fail
  go_quiet (first
    | (go_at_call 53; exact Calls.quiet_of_same (more_any most n _))
    | (go_at_call 45; exact Calls.quiet_of_same (unless_any _ 220 _)))
  go_wp2_with fail
  go_ret
  exact ⟨rfl, below_dr (Below.refl _ _) _⟩

theorem firstE_one (q : Ask) : firstE [q] = q.e := by
  unfold firstE
  split
  · rename_i h
    rw [h]
    rfl
  · rfl
theorem asks_one {w : World} {q : Ask} (he : ∀ args w, (callFunc q.g args).run Tryd.prog w = .ok (.enter q.g args) w) (hc : ∀ w', Below w.heap.size w w' → Calls Tryd.prog q.g (q.fs ++ q.lb) w' fun e w'' => e = .returned (.int .i64 q.e) ∧ Below w'.heap.size w' w'') : AsksAt w [q] := fun j x hj _ => by
  cases j with
  | zero =>
    injection hj with hj
    subst hj
    exact ⟨he, hc⟩
  | succ j => cases hj
theorem asks_cons {w : World} {q : Ask} {l : List Ask} (he : ∀ args w, (callFunc q.g args).run Tryd.prog w = .ok (.enter q.g args) w) (hc : ∀ w', Below w.heap.size w w' → Calls Tryd.prog q.g (q.fs ++ q.lb) w' fun e w'' => e = .returned (.int .i64 q.e) ∧ Below w'.heap.size w' w'') (h : AsksAt w l) : AsksAt w (q :: l) := fun j x hj hi => by
  cases j with
  | zero =>
    injection hj with hj
    subst hj
    exact ⟨he, hc⟩
  | succ j => exact h j x hj fun i y hy hiy => hi (i + 1) y (by omega) hiy
theorem asks_nil {w : World} : AsksAt w [] := fun j x hj _ => by cases hj

theorem ent_bounded1 : ∀ args w, (callFunc 44 args).run Tryd.prog w = .ok (.enter 44 args) w := enters_of Tryd.func44 (by kernel_rfl) rfl
theorem ent_there : ∀ args w, (callFunc 19 args).run Tryd.prog w = .ok (.enter 19 args) w := enters_of Tryd.func19 (by kernel_rfl) rfl
theorem ent_named1 : ∀ args w, (callFunc 46 args).run Tryd.prog w = .ok (.enter 46 args) w := enters_of Tryd.func46 (by kernel_rfl) rfl
theorem ent_near1 : ∀ args w, (callFunc 48 args).run Tryd.prog w = .ok (.enter 48 args) w := enters_of Tryd.func48 (by kernel_rfl) rfl
theorem ent_ranked1 : ∀ args w, (callFunc 49 args).run Tryd.prog w = .ok (.enter 49 args) w := enters_of Tryd.func49 (by kernel_rfl) rfl
theorem ent_sized1 : ∀ args w, (callFunc 50 args).run Tryd.prog w = .ok (.enter 50 args) w := enters_of Tryd.func50 (by kernel_rfl) rfl
theorem ent_absent1 : ∀ args w, (callFunc 51 args).run Tryd.prog w = .ok (.enter 51 args) w := enters_of Tryd.func51 (by kernel_rfl) rfl
theorem ent_waiting1 : ∀ args w, (callFunc 56 args).run Tryd.prog w = .ok (.enter 56 args) w := enters_of Tryd.func56 (by kernel_rfl) rfl
theorem ent_roomy : ∀ args w, (callFunc 25 args).run Tryd.prog w = .ok (.enter 25 args) w := enters_of Tryd.func25 (by kernel_rfl) rfl

theorem line_made (most : Int) (w : World) : LineAt (((w.alloc (.map #[] 0)).alloc (.map #[] 0)).alloc (.cells #[.int .i64 most, .map (some w.heap.size), .map (some (w.heap.size + 1))] 62)) (fun b => w.heap.size ≤ b) (w.heap.size + 1 + 1) most [] := by
  have h1 : KMap encQk (w.alloc (.map #[] 0)) w.heap.size [] := KMap.made w
  have h2 : KMap encNm ((w.alloc (.map #[] 0)).alloc (.map #[] 0)) (w.heap.size + 1) [] := by
    have := KMap.made (enc := encNm) (w.alloc (.map #[] 0))
    simpa using this
  have hz1 : (w.alloc (.map #[] 0)).heap.size = w.heap.size + 1 := by simp
  have hz2 : ((w.alloc (.map #[] 0)).alloc (.map #[] 0)).heap.size = w.heap.size + 1 + 1 := by simp
  have b1 := below_al (Below.refl (w.alloc (.map #[] 0)).heap.size (w.alloc (.map #[] 0))) (.map #[] 0)
  have b2 := below_al (Below.refl ((w.alloc (.map #[] 0)).alloc (.map #[] 0)).heap.size ((w.alloc (.map #[] 0)).alloc (.map #[] 0))) (.cells #[.int .i64 most, .map (some w.heap.size), .map (some (w.heap.size + 1))] 62)
  refine ⟨w.heap.size, w.heap.size + 1, [], [], ?_, ?_, ?_, ⟨fun q => ⟨fun _ => rfl, fun _ => rfl⟩, fun q v h => (by cases h), fun q q' v v' _ h => (by cases h)⟩, ⟨fun n => rfl, rfl, by simp⟩, ⟨by show _ ≤ _; omega, by show _ ≤ _; omega, by show _ ≤ _; omega, fun q v j h => (by cases h)⟩, by omega, by omega, by omega, fun q v j h => (by cases h)⟩
  · have := RowB.new ((w.alloc (.map #[] 0)).alloc (.map #[] 0)) [.int .i64 most, .map (some w.heap.size), .map (some (w.heap.size + 1))] 62
    rw [hz2] at this
    exact this
  · exact (h1.kept (b1.block _ (by omega))).kept (b2.block _ (by omega))
  · exact h2.kept (b2.block _ (by omega))

/-- What New answers. -/
def NewP (w : World) (most : Int) (e : Ending) (w' : World) : Prop := Below w.heap.size w w' ∧ ((inB 0 4096 most = true ∧ ∃ p, e = .returned (.tuple #[.pointer (some ⟨p, 0, none⟩), .int .i64 0]) ∧ LineAt w' (newS w w') p most []) ∨ (inB 0 4096 most = false ∧ e = .returned (.tuple #[.pointer none, .int .i64 2])))

set_option maxHeartbeats 2000000 in
theorem new_any (most : Int) (w : World) :
    Calls Tryd.prog 5 #[.int .i64 most] w fun e w' => NewP w most e w' := by
  go_enter Tryd.func5, Tryd.ntmps5
  go_wp2_with fail
  refine (bounded_any most w).mono ?_
  rintro e w1 ⟨rfl, rfl⟩
  go_wp2_with fail
  obtain ⟨W, hW⟩ : ∃ W, W = (w.alloc (.cells #[.int .i64 most] 3)).alloc (.cells #[.func (.func 44) #[] #[.pointer (some ⟨w.heap.size, 0, none⟩)]] 56) := ⟨_, rfl⟩
  rw [← hW]
  have HB : Hid (Below w.heap.size w W) := by rw [hW]; exact below_al (below_al (Below.refl _ _) _) _
  have HC : Hid (∀ X, Below W.heap.size W X → X.cell? ⟨w.heap.size, 0, none⟩ = some (.int .i64 most)) := fun X hb => by
    rw [hW] at hb
    rw [hb.cell (p := ⟨w.heap.size, 0, none⟩) (by simp; omega)]
    simp
  have HC1 : Hid (W.cell? ⟨w.heap.size + 1, 0, none⟩ = some (.func (.func 44) #[] #[.pointer (some ⟨w.heap.size, 0, none⟩)]) ∧ w.heap.size + 1 < W.heap.size) := by
    rw [Hid, hW]
    constructor
    · simp
    · simp
  clear hW
  refine (rkrefusal_any (w.heap.size + 1) [⟨44, #[], #[.pointer (some ⟨w.heap.size, 0, none⟩)], unE (inB 0 4096 most) 2⟩] W (by simp) HC1.out.2 (fun j q hj => by
    cases j with
    | zero => injection hj with hj; subst hj; exact HC1.out.1
    | succ j => cases hj) (asks_one ent_bounded1 fun X hb => bounded1_any _ most X (HC.out X hb))).mono ?_
  rintro e w1 ⟨rfl, hb1⟩
  rw [firstE_one]
  have HB1 := Lib.hid (below_on HB.out hb1)
  clear hb1
  have hmm := @run_makeMap Tryd.prog
  cases hq : inB 0 4096 most
  · have HQ := Lib.hid hq
    clear hq
    rw [show unE false 2 = 2 from rfl]
    go_wp2_with fail
    go_ret2
    exact ⟨HB1.out, .inr ⟨HQ.out, rfl⟩⟩
  · have HQ := Lib.hid hq
    clear hq
    rw [show unE true 2 = 0 from rfl]
    go_wp2_with fail
    go_ret2
    refine ⟨below_al (below_al (below_al HB1.out _) _) _, ?_⟩
    refine .inl ⟨HQ.out, _, rfl, ?_⟩
    have := line_made most w1
    exact (LineAt.bound (by simpa using this : LineAt _ (fun b => w1.heap.size ≤ b) _ most [])).into fun b hb => ⟨Nat.le_trans HB1.out.size hb.1, hb.2⟩

end Go.Proofs.YthfndphngeaihaaDoor
