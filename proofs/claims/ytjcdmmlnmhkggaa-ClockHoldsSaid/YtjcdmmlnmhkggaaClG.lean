/- The document's answer of clock.Both. -/
import Derived.Test.YtjcdmmlnmhkggaaClF
namespace Go.Proofs.Ytjcdmmlnmhkggaa
open Go.RowKit Go.Shelf

theorem below5 (w : World) (a b c d e : Obj) : Below w.heap.size w (((((w.alloc a).alloc b).alloc c).alloc d).alloc e) :=
  (((((Below.refl _ _).alloc (Nat.le_refl _) _).alloc (by simp) _).alloc (by simp; omega) _).alloc (by simp; omega) _).alloc (by simp; omega) _
theorem below6 (w : World) (a b c d e f : Obj) : Below w.heap.size w ((((((w.alloc a).alloc b).alloc c).alloc d).alloc e).alloc f) :=
  (below5 w a b c d e).alloc (by simp; omega) _

theorem bothB_1 {f u g v : Int} (h : rightT f u = false) : bothB f u g v = false := by simp [bothB, h]
theorem bothB_2 {f u g v : Int} (h : rightT g v = false) : bothB f u g v = false := by simp [bothB, h]

set_option maxRecDepth 100000 in
set_option maxHeartbeats 4000000 in
theorem refBoth_any (f u g v : Int) (w : World) :
    Calls Try.prog 17 #[.agg #[.int .u64 f, .int .u64 u], .agg #[.int .u64 g, .int .u64 v]] w fun e w' => e = .returned (bothA f u g v) ∧ Below w.heap.size w w' := by
  cases h1 : rightT f u
  · rw [bothA_no (bothB_1 h1)]
    by_cases hm : f < g <;> by_cases hn : v < u
    all_goals
      go_enter Try.func17, Try.ntmps17
      go_wp2_with (go_at_call 19; refine (refRight_any _ _ _).mono ?_; rintro e w' ⟨rfl, rfl⟩)
      exact bodyPost_ret (v := .tuple #[.agg #[.int .u64 0, .int .u64 0], .bool false]) (by simp [results, Try.results17, go_sem]) rfl ⟨rfl, below5 _ _ _ _ _ _⟩
  · cases h2 : rightT g v
    · rw [bothA_no (bothB_2 h2)]
      by_cases hm : f < g <;> by_cases hn : v < u
      all_goals
        go_enter Try.func17, Try.ntmps17
        go_wp2_with (go_at_call 19; refine (refRight_any _ _ _).mono ?_; rintro e w' ⟨rfl, rfl⟩)
        exact bodyPost_ret (v := .tuple #[.agg #[.int .u64 0, .int .u64 0], .bool false]) (by simp [results, Try.results17, go_sem]) rfl ⟨rfl, below6 _ _ _ _ _ _ _⟩
    · cases hq : bothB f u g v
      · rw [bothA_no hq]
        have h5 : minI u v ≤ maxI f g := by
          simp [bothB, h1, h2] at hq
          exact hq
        clear hq
        unfold maxI minI at h5
        by_cases hm : f < g <;> by_cases hn : v < u <;> simp only [hm, hn, if_true, if_false] at h5
        all_goals
          go_enter Try.func17, Try.ntmps17
          go_wp2_with (go_at_call 19; refine (refRight_any _ _ _).mono ?_; rintro e w' ⟨rfl, rfl⟩)
          exact bodyPost_ret (v := .tuple #[.agg #[.int .u64 0, .int .u64 0], .bool false]) (by simp [results, Try.results17, go_sem]) rfl ⟨rfl, below6 _ _ _ _ _ _ _⟩
      · rw [bothA_yes hq]
        have h5 : maxI f g < minI u v := by
          simp [bothB, h1, h2] at hq
          exact hq
        clear hq
        unfold maxI minI at h5 ⊢
        by_cases hm : f < g <;> by_cases hn : v < u <;> simp only [hm, hn, if_true, if_false] at h5 ⊢
        all_goals
          go_enter Try.func17, Try.ntmps17
          go_wp2_with (go_at_call 19; refine (refRight_any _ _ _).mono ?_; rintro e w' ⟨rfl, rfl⟩)
          exact bodyPost_ret (v := .tuple #[.agg #[.int .u64 _, .int .u64 _], .bool true]) (by simp [results, Try.results17, go_sem]) rfl ⟨rfl, below6 _ _ _ _ _ _ _⟩

end Go.Proofs.Ytjcdmmlnmhkggaa
