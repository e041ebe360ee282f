/- The way over both flags; Has. -/
import Derived.Test.YtlmdbeccfoncpaaGreatDoorZPmB
import Derived.Test.YtlmdbeccfoncpaaGreatDoorZIter2
namespace Go.Proofs.YtlmdbeccfoncpaaGreatDoor
open Go Go.RowKit Go.Shelf
set_option linter.unusedSimpArgs false
set_option linter.unusedVariables false
set_option maxRecDepth 100000

attribute [local go_sem] Oper.semAt_some

/-- The flags. -/
def flg (k : Nat) : Int := if k = 0 then 2 else 32

set_option maxHeartbeats 2000000 in
theorem both_goes (S : Nat → Prop) (w : World) (hSw : ∀ b, S b → b < w.heap.size) :
    GoesO Tryz.prog 72 #[] (fun k => #[.int .u32 (flg k)]) S 2 w := by
  intro L J Jx W hW hJ hJx hY h0
  have hWS := hW.size
  obtain ⟨fn, tmps, assign, body, hy, hR⟩ := hY 0 W (by decide) h0 (Nat.le_refl _)
  have HY := Lib.hid hY
  simp only [flg, if_true] at hy
  clear hY
  refine (callsIn_wide (n := 10)).1 (callsIn_of_wp Tryz.func72 rfl trivial ?_ rfl)
  simp only [Tryz.ntmps72, List.size_toArray, List.length_cons, List.length_nil, Nat.reduceAdd, Nat.reduceSub, Array.replicate_succ, Array.replicate_zero, List.push_toArray, List.append_toArray, List.nil_append, List.cons_append]
  gi_wp2
  refine hR.mono ?_
  rintro e W3 (⟨rfl, hJ3, hz3, hk3⟩ | ⟨rfl, hJx3, _, _⟩)
  · obtain ⟨fn2, tmps2, assign2, body2, hy2, hR2⟩ := HY.out 1 W3 (by decide) hJ3 hz3
    clear hy hR
    simp only [flg, Nat.one_ne_zero, if_false] at hy2
    gi_wp2
    refine hR2.mono ?_
    rintro e W4 (⟨rfl, hJ4, hz4, hk4⟩ | ⟨rfl, hJx4, _, _⟩)
    · gi_wp2
      go_end0
      exact ⟨⟨_, rfl⟩, .inl hJ4⟩
    · gi_wp2
      go_end0
      exact ⟨⟨_, rfl⟩, .inr ⟨1, by decide, hJx4⟩⟩
  · clear hy
    gi_wp2
    refine ⟨(fun f h => nomatch h), ?_⟩
    gi_wp2
    go_end0
    exact ⟨⟨_, rfl⟩, .inr ⟨0, by decide, hJx3⟩⟩

theorem both_any (w : World) : Calls Tryz.prog 43 #[] w fun e w' => e = .returned (.func (.func 72) #[] #[]) ∧ w' = w := by
  go_enter Tryz.func43, Tryz.ntmps43
  go_wp2
  go_ret
  exact ⟨rfl, rfl⟩

end Go.Proofs.YtlmdbeccfoncpaaGreatDoor
