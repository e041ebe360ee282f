/- What the law asks of a primary's name. -/
import Derived.Test.YtlmdbeccfoncpaaGreatDoorZPmI
namespace Go.Proofs.YtlmdbeccfoncpaaGreatDoor
open Go Go.RowKit Go.Shelf
set_option linter.unusedSimpArgs false
set_option linter.unusedVariables false
set_option maxRecDepth 100000


theorem refRightName6_any (p : Pm) (w : World) : Calls Tryz.prog 15 #[.agg #[.int .u32 p.sn, .int .u32 p.sm, .int .u64 p.t, .int .u32 p.q]] w fun e w' => e = .returned (.bool (nmOk p)) ∧ Below w.heap.size w w' := by
  by_cases h0 : 0 < p.sn
  · have h0' : (0 : Int) < (p.sn : Int) := by omega
    by_cases h1 : p.t ≤ 4611686018427387903
    · have h1' : (p.t : Int) ≤ 4611686018427387903 := by omega
      have HM : Hid (nmOk p = true) := by simp [Hid, nmOk, h0, h1]
      go_enter Tryz.func15, Tryz.ntmps15
      go_wp2
      go_ret
      exact ⟨by rw [HM.out]; rfl, below_al (Below.refl _ _) _⟩
    · have h1' : ¬ (p.t : Int) ≤ 4611686018427387903 := by omega
      have h1'' : decide ((p.t : Int) ≤ 4611686018427387903) = false := by simpa using h1'
      have HM : Hid (nmOk p = false) := by simp [Hid, nmOk, h1]
      go_enter Tryz.func15, Tryz.ntmps15
      go_wp2
      all_goals first | (go_ret; exact ⟨by rw [HM.out]; rfl, below_al (Below.refl _ _) _⟩) | (exfalso; omega)
  · have h0' : ¬ (0 : Int) < (p.sn : Int) := by omega
    have h0'' : decide ((0 : Int) < (p.sn : Int)) = false := by simpa using h0'
    have h2 : (p.sn : Int) ≤ 0 := by omega
    have h3 : (p.sn : Int) = 0 := by omega
    have HM : Hid (nmOk p = false) := by simp [Hid, nmOk, h0]
    go_enter Tryz.func15, Tryz.ntmps15
    go_wp2
    go_ret
    exact ⟨by rw [HM.out]; rfl, below_al (Below.refl _ _) _⟩

theorem eqN6_run (a b c d : Int) (w : World) : (Op.equalIn 10000 42 (.agg #[.int .u32 a, .int .u32 b, .int .u64 c, .int .u32 d]) (.agg #[.int .u32 a, .int .u32 b, .int .u64 c, .int .u32 d])).run Tryz.prog w = .ok true w := by
  go_simp
  try simp

theorem info_u32 : (Tryz.prog.info? 22).map (fun i => (i.zero, i.size, i.bytes)) = some (some (.int .u32 0), 1, 4) := by kernel_rfl

theorem own_ne {X : World} {base : Nat} {e : TypeId} {v : Value} {xs : List Value} {row : Option Nat} (ho : OwnV X base e v xs) (hr : ∀ r, row = some r → ∃ o : Obj, X.heap[r]? = some o ∧ o.isCells = false) : v.ownBlock = none ∨ v.ownBlock ≠ row := by
  cases hv : v.ownBlock with
  | none => exact .inl rfl
  | some g =>
    refine .inr fun e => ?_
    obtain ⟨o, h1, h2⟩ := hr g e.symm
    rcases ho.2 with ⟨rfl, _⟩ | ⟨g', cap, cur, rfl, _, hg, _⟩
    · simp [Value.ownBlock] at hv
    · simp [Value.ownBlock] at hv
      subst hv
      rw [hg] at h1
      cases h1
      cases h2

theorem own_shape {w : World} {base : Nat} {v : Value} {xs : List Value} (h : OwnV w base 22 v xs) : ∃ A C, v = .slice A xs.length C ∧ ∀ j, j < xs.length → ∃ g, A = some ⟨g, 0, none⟩ ∧ w.cell? ⟨g, j, none⟩ = xs[j]? := by
  rcases h.form with ⟨rfl, rfl⟩ | ⟨g, cap, rfl, _, _, _, _, hc, _⟩
  · exact ⟨none, 0, rfl, fun j hj => by simp at hj⟩
  · exact ⟨some ⟨g, 0, none⟩, cap, rfl, fun j hj => ⟨g, rfl, hc j hj⟩⟩

theorem wpListIn_run6 {F : Fence} {n : Nat} {P : Program} {ops : Array Oper} {rest : List Oper} {o : Oper} {a : Act} {w : World} {Q : Exit → Act → World → Prop} (hgd : o.guard = none) (s x : Operand) (t u : TypeId)
    (ho : o.op = .call { callee := .builtin .append, args := #[s, x], argTypes := #[t, u] }) (v y v' : Value) (w' : World) (hv : a.eval s = v) (hx : a.eval x = y)
    (hrun : (Builtin.append_ #[t, u] o.type #[v, y]).run P w = .ok v' w') (h : wpListIn F n P ops Q rest (a.put o.dst v') w') : wpListIn F n P ops Q (o :: rest) a w :=
  wpListIn_plain hgd fun _ hK => by
    unfold Oper.wpIn
    refine ⟨by simp [Oper.about, ho, resolve, Target.leads, Sem.run_pure], ?_⟩
    rw [Oper.semAt_plain F _ _ (by rw [ho]; intro c' hc'; cases hc')]
    simp [execOp, ho, resolve, invoke, builtin, hv, hx, hrun, Result.andThen]
    exact hK _ _ h

theorem app1U (w : World) (base : Nat) (v : Value) (xs : List Value) (x : Int) (ho : OwnV w base 22 v xs) (hb : base ≤ w.heap.size) (hl : xs.length ≤ 100) :
    ∃ A' C' w', (Builtin.append_ #[40, 40] 40 #[v, .slice (some ⟨w.heap.size, 0, none⟩) 1 1]).run Tryz.prog (w.alloc (.cells #[.int .u32 x] 22)) = .ok (.slice A' (xs.length + 1) C') w' ∧ AppPost (w.alloc (.cells #[.int .u32 x] 22)) base 22 v xs [.int .u32 x] (.slice A' (xs.length + 1) C') w' := by
  obtain ⟨v', w', hrun, hp⟩ := run_app (P := Tryz.prog) (w.alloc (.cells #[.int .u32 x] 22)) base 40 40 22 (.int .u32 0) 4 Tryz.underlying40 info_u32 rfl v xs (ho.alloc _) (some ⟨w.heap.size, 0, none⟩) 1 1 [.int .u32 x] rfl
    (.inr ⟨⟨w.heap.size, 0, none⟩, rfl, fun j u hu => by
      have hj : j = 0 := by
        have := (List.getElem?_eq_some_iff.1 hu).1
        simp at this
        omega
      subst hj
      rw [mk_addr_add, World.cell?_alloc_mark]
      simpa using hu⟩) (fun u hu => by simp at hu; subst hu; rfl) (by simp; unfold maxLen; omega) (by simp; omega) (by rw [World.size_alloc]; omega)
  have hf : ∃ A' C', v' = .slice A' (xs.length + 1) C' := by
    rcases hp.1.form with ⟨_, h⟩ | ⟨g, cap, h, _⟩
    · simp at h
    · exact ⟨some ⟨g, 0, none⟩, cap, by rw [h]; simp⟩
  obtain ⟨A', C', rfl⟩ := hf
  exact ⟨A', C', w', hrun, hp⟩

/-- What Name answers, in one form. -/
theorem name6_any (p : Pm) (hp : p.ok) (w : World) : Calls Tryz.prog 13 #[.agg #[.int .u32 p.f, .int .i64 p.s, .int .u32 p.tn, .int .u32 p.tm, .int .u32 p.sn, .int .u32 p.sm, .int .u32 p.rn, .int .u32 p.rm, .int .u64 p.t, .int .u32 p.q, .int .u64 p.l]] w fun e w' => Below w.heap.size w w' ∧ ∃ a b c d er : Int, e = .returned (.tuple #[.agg #[.int .u32 a, .int .u32 b, .int .u64 c, .int .u32 d], .int .i64 er]) ∧
    (nmOk p = true → a = p.sn ∧ b = p.sm ∧ c = p.t ∧ d = p.q ∧ er = 0) ∧ (nmOk p = false → a = 0 ∧ b = 0 ∧ c = 0 ∧ d = 0 ∧ er = 2) := by
  refine (name_any6 p hp w).mono ?_
  rintro e w' ⟨hb, rfl⟩
  refine ⟨hb, ?_⟩
  cases h : nmOk p
  · exact ⟨0, 0, 0, 0, 2, rfl, (fun h => nomatch h), fun _ => ⟨rfl, rfl, rfl, rfl, rfl⟩⟩
  · exact ⟨_, _, _, _, 0, rfl, fun _ => ⟨rfl, rfl, rfl, rfl, rfl⟩, (fun h => nomatch h)⟩

end Go.Proofs.YtlmdbeccfoncpaaGreatDoor
