/- Package clock and its document's answers: the times that two spans have. -/
import Derived.Test.YtjmlpmkpjmgfiaaClE
namespace Go.Proofs.Ytjmlpmkpjmgfiaa
open Go.RowKit Go.Shelf

/-- A slice at a reads as these spans. -/
def RdS (w : World) (B : Nat) (a : Option Addr) (ss : List (Int × Int)) : Prop :=
  ss = [] ∨ ∃ b o, a = some ⟨b, o, none⟩ ∧ b < B ∧ ∀ j, j < ss.length → w.cell? ⟨b, o + j * 2, none⟩ = some (.int .u64 (ss[j]?.getD (0, 0)).1) ∧ w.cell? ⟨b, o + j * 2 + 1, none⟩ = some (.int .u64 (ss[j]?.getD (0, 0)).2)

theorem RdS.below {w w' : World} {B : Nat} {a : Option Addr} {ss : List (Int × Int)} (h : RdS w B a ss) (hb : Below B w w') : RdS w' B a ss := by
  rcases h with h | ⟨b, o, e, hlt, hc⟩
  · exact .inl h
  · exact .inr ⟨b, o, e, hlt, fun j hj => ⟨(hb.cell (p := ⟨b, o + j * 2, none⟩) hlt).trans (hc j hj).1, (hb.cell (p := ⟨b, o + j * 2 + 1, none⟩) hlt).trans (hc j hj).2⟩⟩

theorem RdS.mono {w : World} {B B' : Nat} {a : Option Addr} {ss : List (Int × Int)} (h : RdS w B a ss) (hB : B ≤ B') : RdS w B' a ss := by
  rcases h with h | ⟨b, o, e, hlt, hc⟩
  · exact .inl h
  · exact .inr ⟨b, o, e, by omega, hc⟩

theorem rdS_two (w : World) (f u g v : Int) (t : TypeId) (B : Nat) (hB : w.heap.size < B) : RdS (w.alloc (.cells #[.int .u64 f, .int .u64 u, .int .u64 g, .int .u64 v] t)) B (some ⟨w.heap.size, 0, none⟩) [(f, u), (g, v)] := by
  refine .inr ⟨w.heap.size, 0, rfl, hB, fun j hj => ?_⟩
  have : j = 0 ∨ j = 1 := by simp at hj; omega
  rcases this with rfl | rfl
  · simp
  · simp

/-- May the first k be? -/
def allS (ss : List (Int × Int)) (k : Nat) : Prop := ∀ j, j < k → rightT (ss[j]?.getD (0, 0)).1 (ss[j]?.getD (0, 0)).2 = true

/-- What 'within' answers. -/
def WithinSP (ss : List (Int × Int)) (w : World) (e : Ending) (w' : World) : Prop :=
  ((e = .returned (.bool true) ∧ allS ss ss.length) ∨ (e = .returned (.bool false) ∧ ¬ allS ss ss.length)) ∧ Below w.heap.size w w'

set_option maxRecDepth 100000 in
set_option maxHeartbeats 1000000 in
theorem withinS_any (a : Option Addr) (c : Nat) (ss : List (Int × Int)) (w : World) (hlen : ss.length ≤ 140737488355328) (hr : RdS w w.heap.size a ss) :
    Calls Try.prog 23 #[.func (.func 18) #[] #[], .slice a ss.length c] w (WithinSP ss w) := by
  have HR := Lib.hid hr
  clear hr
  go_enter Try.func23, Try.ntmps23
  go_wp2
  go_loopw [9] (fun i wr => ∃ k : Nat, k ≤ ss.length ∧ i = .int .i64 k ∧ Hid (allS ss k) ∧ Below w.heap.size w wr) (fun i _ => ss.length - (intOf i).toNat)
  case atStart => exact ⟨0, Nat.zero_le _, rfl, fun j hj => absurd hj (Nat.not_lt_zero j), Below.refl _ _⟩
  case round =>
    obtain ⟨k, hk, rfl, HA, hbw⟩ := hrel
    by_cases hlt : k < ss.length
    · have hrw := HR.out.below hbw
      rcases hrw with rfl | ⟨g, o, rfl, hg, hcs⟩
      · simp at hlt
      obtain ⟨hck0, hck1⟩ := hcs k hlt
      clear hcs
      obtain ⟨f, u, ht⟩ : ∃ f u, (f, u) = ss[k]?.getD (0, 0) := ⟨_, _, rfl⟩
      rw [← ht] at hck0 hck1
      have HT := Lib.hid ht
      clear ht
      simp only at hck0 hck1
      cases hq : rightT f u
      · go_wp2_with (go_at_call 18; refine (right_any _ _ _).mono ?_; rintro e w' ⟨rfl, hb⟩)
        go_ret
        exact ⟨.inr ⟨rfl, fun h => by have := h k hlt; rw [← HT.out, hq] at this; cases this⟩, (hbw.alloc hbw.size _).trans (hb.mono (by simp; have := hbw.size; omega))⟩
      · go_wp2_with (go_at_call 18; refine (right_any _ _ _).mono ?_; rintro e w' ⟨rfl, hb⟩)
        go_roundw
        case rel =>
          refine ⟨k + 1, by omega, by go_num, fun j hj => ?_, (hbw.alloc hbw.size _).trans (hb.mono (by simp; have := hbw.size; omega))⟩
          by_cases e : j = k
          · subst e
            rw [← HT.out]
            exact hq
          · exact HA.out j (by omega)
        case measure => simp [intOf]; omega
    · obtain rfl : k = ss.length := by omega
      go_wp2
      go_ret
      exact ⟨.inl ⟨rfl, HA.out⟩, hbw⟩

theorem allS_two (f u g v : Int) : allS [(f, u), (g, v)] 2 ↔ (rightT f u = true ∧ rightT g v = true) := by
  constructor
  · intro h
    exact ⟨h 0 (by omega), h 1 (by omega)⟩
  · rintro ⟨h0, h1⟩ j hj
    have : j = 0 ∨ j = 1 := by omega
    rcases this with rfl | rfl
    · exact h0
    · exact h1

def maxI (a b : Int) : Int := if a < b then b else a
def minI (a b : Int) : Int := if b < a then b else a

/-- Have two spans a time? -/
def bothB (f u g v : Int) : Bool := rightT f u && (rightT g v && decide (maxI f g < minI u v))
/-- The answer of Both. -/
def bothA (f u g v : Int) : Value := .tuple #[.agg #[.int .u64 (if bothB f u g v then maxI f g else 0), .int .u64 (if bothB f u g v then minI u v else 0)], .bool (bothB f u g v)]

theorem bothA_no {f u g v : Int} (h : bothB f u g v = false) : bothA f u g v = .tuple #[.agg #[.int .u64 0, .int .u64 0], .bool false] := by simp [bothA, h]
theorem bothA_yes {f u g v : Int} (h : bothB f u g v = true) : bothA f u g v = .tuple #[.agg #[.int .u64 (maxI f g), .int .u64 (minI u v)], .bool true] := by simp [bothA, h]

/-- What Both's boxes hold, behind its first call. -/
structure BothW (f u g v : Int) (w W : World) : Prop where
  c10 : W.cell? ⟨w.heap.size + 1, 0, none⟩ = some (.int .u64 g)
  c11 : W.cell? ⟨w.heap.size + 1, 1, none⟩ = some (.int .u64 v)
  c20 : W.cell? ⟨w.heap.size + 1 + 1, 0, none⟩ = some (.int .u64 0)
  c21 : W.cell? ⟨w.heap.size + 1 + 1, 1, none⟩ = some (.int .u64 0)
  c30 : W.cell? ⟨w.heap.size + 1 + 1 + 1, 0, none⟩ = some (.int .u64 f)
  c31 : W.cell? ⟨w.heap.size + 1 + 1 + 1, 1, none⟩ = some (.int .u64 u)
  f20 : W.frozen? ⟨w.heap.size + 1 + 1, 0, none⟩ = false
  f21 : W.frozen? ⟨w.heap.size + 1 + 1, 1, none⟩ = false
  f30 : W.frozen? ⟨w.heap.size + 1 + 1 + 1, 0, none⟩ = false
  f31 : W.frozen? ⟨w.heap.size + 1 + 1 + 1, 1, none⟩ = false
  below : Below w.heap.size w W

theorem later_step {w W' : World} {o : Obj} (hb : Below (w.alloc o).heap.size (w.alloc o) W') : Below w.heap.size w W' :=
  ((Below.refl _ _).alloc (Nat.le_refl _) _).trans (hb.mono (by simp))

theorem box2_frozen {w w' : World} {x y : Value} {t : TypeId} (hb : Below (w.alloc (.cells #[x, y] t)).heap.size (w.alloc (.cells #[x, y] t)) w') :
    w'.frozen? ⟨w.heap.size, 0, none⟩ = false ∧ w'.frozen? ⟨w.heap.size, 1, none⟩ = false := by
  constructor
  · rw [hb.frozen (by simp)]
    simp
  · rw [hb.frozen (by simp)]
    simp

theorem both_later (f u g v : Int) (w : World) (s t : TypeId) (W' : World) (hb : Below (((((w.alloc (.cells #[.int .u64 f, .int .u64 u] s)).alloc (.cells #[.int .u64 g, .int .u64 v] s)).alloc (.cells #[.int .u64 0, .int .u64 0] s)).alloc (.cells #[.int .u64 f, .int .u64 u] t)).alloc (.cells #[.int .u64 f, .int .u64 u, .int .u64 g, .int .u64 v] s)).heap.size (((((w.alloc (.cells #[.int .u64 f, .int .u64 u] s)).alloc (.cells #[.int .u64 g, .int .u64 v] s)).alloc (.cells #[.int .u64 0, .int .u64 0] s)).alloc (.cells #[.int .u64 f, .int .u64 u] t)).alloc (.cells #[.int .u64 f, .int .u64 u, .int .u64 g, .int .u64 v] s)) W') : BothW f u g v w W' := by
  have b4 := later_step hb
  have b3 := later_step b4
  have b2 := later_step b3
  have b1 := later_step b2
  obtain ⟨c10, c11⟩ := box2_later b2
  obtain ⟨c20, c21⟩ := box2_later b3
  obtain ⟨c30, c31⟩ := box2_later b4
  obtain ⟨f20, f21⟩ := box2_frozen b3
  obtain ⟨f30, f31⟩ := box2_frozen b4
  simp only [World.size_alloc] at c10 c11 c20 c21 c30 c31 f20 f21 f30 f31
  exact ⟨c10, c11, c20, c21, c30, c31, f20, f21, f30, f31, later_step b1⟩

theorem both_worlds (f u g v : Int) (w : World) (s t : TypeId) : ∃ W, W = ((((w.alloc (.cells #[.int .u64 f, .int .u64 u] s)).alloc (.cells #[.int .u64 g, .int .u64 v] s)).alloc (.cells #[.int .u64 0, .int .u64 0] s)).alloc (.cells #[.int .u64 f, .int .u64 u] t)).alloc (.cells #[.int .u64 f, .int .u64 u, .int .u64 g, .int .u64 v] s) ∧
    RdS W W.heap.size (some ⟨w.heap.size + 1 + 1 + 1 + 1, 0, none⟩) [(f, u), (g, v)] ∧ ∀ W', Below W.heap.size W W' → BothW f u g v w W' := by
  refine ⟨_, rfl, ?_, fun W' hb => both_later f u g v w s t W' hb⟩
  have h := rdS_two ((((w.alloc (.cells #[.int .u64 f, .int .u64 u] s)).alloc (.cells #[.int .u64 g, .int .u64 v] s)).alloc (.cells #[.int .u64 0, .int .u64 0] s)).alloc (.cells #[.int .u64 f, .int .u64 u] t)) f u g v s (w.heap.size + 5) (by simp)
  simpa using h

set_option maxRecDepth 100000 in
set_option maxHeartbeats 2000000 in
theorem both_any (f u g v : Int) (w : World) :
    Calls Try.prog 7 #[.agg #[.int .u64 f, .int .u64 u], .agg #[.int .u64 g, .int .u64 v]] w fun e w' => e = .returned (bothA f u g v) ∧ Below w.heap.size w w' := by
  obtain ⟨W, hW, hr, hl⟩ := both_worlds f u g v w 30 44
  have HS := Lib.hid (withinS_any (some ⟨w.heap.size + 1 + 1 + 1 + 1, 0, none⟩) 2 [(f, u), (g, v)] W (by simp) hr)
  have HV := Lib.hid (allS_two f u g v)
  have HW := Lib.hid hW
  have HL := Lib.hid hl
  clear hW hr hl
  cases hq : bothB f u g v
  · rw [bothA_no hq]
    cases h1 : (rightT f u && rightT g v)
    · have H1 := Lib.hid h1
      clear h1 hq
      go_enter Try.func7, Try.ntmps7
      go_wp2
      refine wp_scope_on 0 rfl ?_
      go_wp2_with fail
      rw [← HW.out]
      refine HS.out.mono ?_
      rintro e w1 ⟨⟨rfl, h⟩ | ⟨rfl, h⟩, hb⟩
      · have := HV.out.1 h
        have h1 := H1.out
        rw [this.1, this.2] at h1
        cases h1
      · clear h
        obtain ⟨c10, c11, c20, c21, c30, c31, f20, f21, f30, f31, hB⟩ := HL.out w1 hb
        clear hb
        go_wp2
        go_step3
        refine ⟨rfl, ?_⟩
        show Code.wp _ _ _ _ _
        go_wp2
        rw [Exit.noGoto_ret]
        exact bodyPost_ret (v := .tuple #[.agg #[.int .u64 0, .int .u64 0], .bool false]) (by simp [results, Try.results7, go_sem, c20, c21]) rfl ⟨rfl, (hB.setCell (by simp; omega) _).setCell (by simp; omega) _⟩
    · simp only [Bool.and_eq_true] at h1
      have h5 : minI u v ≤ maxI f g := by
        simp [bothB, h1.1, h1.2] at hq
        exact hq
      have H1 := Lib.hid h1
      clear h1 hq
      unfold maxI minI at h5
      by_cases hm : f < g <;> by_cases hn : v < u <;> simp only [hm, hn, if_true, if_false] at h5
      all_goals
        go_enter Try.func7, Try.ntmps7
        go_wp2
        refine wp_scope_on 0 rfl ?_
        go_wp2_with fail
        rw [← HW.out]
        refine HS.out.mono ?_
        rintro e w1 ⟨⟨rfl, h⟩ | ⟨rfl, h⟩, hb⟩
        · clear h
          obtain ⟨c10, c11, c20, c21, c30, c31, f20, f21, f30, f31, hB⟩ := HL.out w1 hb
          clear hb
          go_wp2
          go_step3
          refine ⟨rfl, ?_⟩
          show Code.wp _ _ _ _ _
          go_wp2
          rw [Exit.noGoto_ret]
          exact bodyPost_ret (v := .tuple #[.agg #[.int .u64 0, .int .u64 0], .bool false]) (by simp [results, Try.results7, go_sem, c20, c21]) rfl ⟨rfl, (((hB.setCell (by simp; omega) _).setCell (by simp; omega) _).setCell (by simp; omega) _).setCell (by simp; omega) _⟩
        · exact absurd (HV.out.2 H1.out) h
  · rw [bothA_yes hq]
    have h1 : rightT f u = true ∧ rightT g v = true ∧ maxI f g < minI u v := by
      simpa [bothB] using hq
    obtain ⟨h1, h2, h5⟩ := h1
    have H1 := Lib.hid (show rightT f u = true ∧ rightT g v = true from ⟨h1, h2⟩)
    clear h1 h2 hq
    unfold maxI minI at h5 ⊢
    by_cases hm : f < g <;> by_cases hn : v < u <;> simp only [hm, hn, if_true, if_false] at h5 ⊢
    all_goals
      go_enter Try.func7, Try.ntmps7
      go_wp2
      refine wp_scope_on 0 rfl ?_
      go_wp2_with fail
      rw [← HW.out]
      refine HS.out.mono ?_
      rintro e w1 ⟨⟨rfl, h⟩ | ⟨rfl, h⟩, hb⟩
      · clear h
        obtain ⟨c10, c11, c20, c21, c30, c31, f20, f21, f30, f31, hB⟩ := HL.out w1 hb
        clear hb
        go_wp2
        simp only [Exit.jump]
        exact bodyPost_ret (v := .tuple #[.agg #[.int .u64 _, .int .u64 _], .bool true]) (by simp [results, Try.results7, go_sem, c20, c21]) rfl ⟨rfl, (((hB.setCell (by simp; omega) _).setCell (by simp; omega) _).setCell (by simp; omega) _).setCell (by simp; omega) _⟩
      · exact absurd (HV.out.2 H1.out) h

theorem rightT_lo {f u g v : Int} (h : bothB f u g v = true) : rightT f u = true ∧ rightT g v = true := by
  unfold bothB at h
  simp at h
  exact ⟨h.1, h.2.1⟩

end Go.Proofs.Ytjmlpmkpjmgfiaa
