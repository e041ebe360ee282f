/- Package clock: when an amount is over; which numbers are times. -/
import Derived.Test.YtjmlpmkpjmgfiaaClC
namespace Go.Proofs.Ytjmlpmkpjmgfiaa
open Go.RowKit Go.Shelf

set_option maxHeartbeats 1000000 in
theorem over_any (f a r : Int) (w : World) (hf : W64 f) (ha : W64 a) (hr : W64 r) :
    Calls Try.prog 11 #[.int .u64 f, .int .u64 a, .int .u64 r] w fun e w' => e = .returned (.int .u64 (overT f a r)) ∧ Below w.heap.size w w' := by
  have hf0 := hf.1
  have ha0 := ha.1
  have hr0 := hr.1
  unfold overT
  by_cases h1 : 4611686018427387903 < f
  · have e1 : isT f = false := by unfold isT; simp; omega
    rw [if_pos h1]
    clear hf ha hr h1
    go_enter Try.func11, Try.ntmps11
    go_wp2
    refine wp_scope_on 0 rfl ?_
    go_wp2_with (go_at_call 27; refine (isTime_any _ _).mono ?_; rintro e w' ⟨rfl, rfl⟩)
    go_step3
    refine ⟨rfl, ?_⟩
    show Code.wp _ _ _ _ _
    go_wp2
    rw [Exit.noGoto_ret]
    go_ret
    exact ⟨rfl, Below.refl _ _⟩
  · have e1 : isT f = true := by unfold isT; simp; omega
    rw [if_neg h1]
    by_cases h2 : a = 0
    · subst h2
      rw [if_pos rfl]
      clear hf ha hr h1
      go_enter Try.func11, Try.ntmps11
      go_wp2
      refine wp_scope_on 0 rfl ?_
      go_wp2_with (go_at_call 27; refine (isTime_any _ _).mono ?_; rintro e w' ⟨rfl, rfl⟩)
      simp only [Exit.jump]
      go_ret
      exact ⟨rfl, Below.refl _ _⟩
    · rw [if_neg h2]
      have e2 : (a == 0) = false := by simpa using h2
      by_cases h3 : r = 0
      · subst h3
        rw [if_pos rfl]
        clear hf ha hr h1 h2
        go_enter Try.func11, Try.ntmps11
        go_wp2
        refine wp_scope_on 0 rfl ?_
        go_wp2_with (go_at_call 27; refine (isTime_any _ _).mono ?_; rintro e w' ⟨rfl, rfl⟩)
        go_step3
        refine ⟨rfl, ?_⟩
        show Code.wp _ _ _ _ _
        go_wp2
        rw [Exit.noGoto_ret]
        go_ret
        exact ⟨rfl, Below.refl _ _⟩
      · rw [if_neg h3]
        have e3 : (r == 0) = false := by simpa using h3
        have hn := needT_bd a r ha (by omega)
        have HN := Lib.hid (needed_any a r w ha (by omega))
        change Calls _ _ _ _ fun e w' => e = .returned (.int .u64 (addT f (needT a r))) ∧ _
        have H := Lib.hid (sum_any (some ⟨w.heap.size, 0, none⟩) 2 [f, needT a r] (w.alloc (.cells #[.int .u64 f, .int .u64 (needT a r)] 28)) (by simp) (fun j hj => by
          have : j = 0 ∨ j = 1 := by simp at hj; omega
          rcases this with rfl | rfl
          · exact hf0
          · exact hn.1) (by rw [World.size_alloc]; exact rdU_two w f (needT a r)))
        clear hf ha hr h1 h2 h3 hn
        go_enter Try.func11, Try.ntmps11
        go_wp2
        refine wp_scope_on 0 rfl ?_
        go_wp2_with (go_at_call 27; refine (isTime_any _ _).mono ?_; rintro e w' ⟨rfl, rfl⟩)
        refine HN.out.mono ?_
        rintro e w' ⟨rfl, rfl⟩
        go_wp2_with fail
        refine H.out.mono ?_
        rintro e w1 ⟨rfl, hb⟩
        go_wp2
        simp only [Exit.jump]
        go_ret
        exact ⟨ret_u64 (sumN_two f _ hf0), ((Below.refl _ _).alloc (Nat.le_refl _) _).trans (hb.mono (by simp))⟩

/-- Are the first k times? -/
def allT (zs : List Int) (k : Nat) : Prop := ∀ j, j < k → isT (zs[j]?.getD 0) = true

/-- What 'within' answers. -/
def WithinP (zs : List Int) (w : World) (e : Ending) (w' : World) : Prop :=
  ((e = .returned (.bool true) ∧ allT zs zs.length) ∨ (e = .returned (.bool false) ∧ ¬ allT zs zs.length)) ∧ w = w'

set_option maxRecDepth 100000 in
set_option maxHeartbeats 1000000 in
theorem withinT_any (a : Option Addr) (c B : Nat) (zs : List Int) (w : World) (hlen : zs.length ≤ 140737488355328) (hr : RdU w B a zs) :
    Calls Try.prog 38 #[.func (.func 27) #[] #[], .slice a zs.length c] w (WithinP zs w) := by
  have HR := Lib.hid hr
  clear hr
  go_enter Try.func38, Try.ntmps38
  go_wp2
  go_loop [9] (fun i => ∃ k : Nat, k ≤ zs.length ∧ i = .int .i64 k ∧ Hid (allT zs k)) (fun i => zs.length - (intOf i).toNat)
  case atStart => exact ⟨0, Nat.zero_le _, rfl, fun j hj => absurd hj (Nat.not_lt_zero j)⟩
  case round =>
    obtain ⟨k, hk, rfl, HA⟩ := hrel
    by_cases hlt : k < zs.length
    · rcases HR.out with rfl | ⟨g, o, rfl, hg, hcs⟩
      · simp at hlt
      have hck := hcs k hlt
      clear hcs
      obtain ⟨t, ht⟩ : ∃ t, t = zs[k]?.getD 0 := ⟨_, rfl⟩
      rw [← ht] at hck
      have HT := Lib.hid ht
      clear ht
      cases hq : isT t
      · go_wp2_with (go_at_call 27; refine (isTime_any _ _).mono ?_; rintro e w' ⟨rfl, rfl⟩)
        go_ret
        exact ⟨.inr ⟨rfl, fun h => by have := h k hlt; rw [← HT.out, hq] at this; cases this⟩, rfl⟩
      · go_wp2_with (go_at_call 27; refine (isTime_any _ _).mono ?_; rintro e w' ⟨rfl, rfl⟩)
        go_round
        case rel =>
          refine ⟨k + 1, by omega, by go_num, fun j hj => ?_⟩
          by_cases e : j = k
          · subst e
            rw [← HT.out]
            exact hq
          · exact HA.out j (by omega)
        case measure => simp [intOf]; omega
    · obtain rfl : k = zs.length := by omega
      go_wp2
      go_ret
      exact ⟨.inl ⟨rfl, HA.out⟩, rfl⟩

/-- What Check answers. -/
def chkT (b : Bool) : Int := if b then 0 else 2

end Go.Proofs.Ytjmlpmkpjmgfiaa
