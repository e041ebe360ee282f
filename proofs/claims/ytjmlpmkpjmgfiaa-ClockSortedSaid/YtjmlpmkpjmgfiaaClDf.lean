/- slices.DeleteFunc of spans, by what may not be. -/
import Derived.Test.YtjmlpmkpjmgfiaaSpA
namespace Go.Proofs.Ytjmlpmkpjmgfiaa
open Go.RowKit Go.Shelf
set_option linter.unusedSimpArgs false
set_option linter.unusedVariables false

/-- May a span be? -/
def riS (p : Int × Int) : Bool := rightT p.1 p.2

set_option maxHeartbeats 1000000 in
theorem notRight_any (f u : Int) (w : World) :
    Calls Try.prog 17 #[.agg #[.int .u64 f, .int .u64 u]] w fun e w' => e = .returned (.bool (!rightT f u)) ∧ Below w.heap.size w w' := by
  go_enter Try.func17, Try.ntmps17
  go_wp2_with (go_at_call 18; refine (right_any _ _ _).mono ?_; rintro e w' ⟨rfl, hb⟩)
  go_ret
  exact ⟨rfl, ((Below.refl _ _).alloc (Nat.le_refl _) _).trans (hb.mono (by simp))⟩

/-- The first that may not be, if there is one. -/
def IdxP (ss : List (Int × Int)) (w : World) (e : Ending) (w' : World) : Prop :=
  ((e = .returned (.int .i64 (-1)) ∧ allS ss ss.length) ∨ ∃ k : Nat, k < ss.length ∧ e = .returned (.int .i64 k) ∧ allS ss k ∧ rightT (fAt ss k) (uAt ss k) = false) ∧ Below w.heap.size w w'

set_option maxRecDepth 100000 in
set_option maxHeartbeats 2000000 in
theorem indexFunc_any (a : Option Addr) (c : Nat) (ss : List (Int × Int)) (w : World) (hlen : ss.length ≤ 140737488355328) (hr : RdS w w.heap.size a ss) :
    Calls Try.prog 31 #[.slice a ss.length c, .func (.func 17) #[] #[]] w (IdxP ss w) := by
  have HR := Lib.hid hr
  clear hr
  go_enter Try.func31, Try.ntmps31
  go_wp2
  go_loopw [8] (fun i wr => ∃ k : Nat, k ≤ ss.length ∧ i = .int .i64 k ∧ Hid (allS ss k) ∧ Below w.heap.size w wr) (fun i _ => ss.length - (intOf i).toNat)
  case atStart => exact ⟨0, Nat.zero_le _, rfl, fun j hj => absurd hj (Nat.not_lt_zero j), Below.refl _ _⟩
  case round =>
    obtain ⟨k, hk, rfl, HA, hbw⟩ := hrel
    by_cases hlt : k < ss.length
    · have hrw := HR.out.below hbw
      obtain ⟨g, o, rfl, hg, hck0, hck1⟩ := hrw.cells k hlt
      obtain ⟨f, hf⟩ : ∃ f, f = fAt ss k := ⟨_, rfl⟩
      obtain ⟨u, hu⟩ : ∃ u, u = uAt ss k := ⟨_, rfl⟩
      rw [← hf] at hck0
      rw [← hu] at hck1
      have HF := Lib.hid hf
      have HU := Lib.hid hu
      clear hf hu hrw
      cases hq : rightT f u
      · go_wp2_with (go_at_call 17; refine (notRight_any _ _ _).mono ?_; rintro e w' ⟨rfl, hb⟩)
        go_ret
        exact ⟨.inr ⟨k, hlt, rfl, HA.out, by rw [← HF.out, ← HU.out]; exact hq⟩, hbw.trans (hb.mono hbw.size)⟩
      · go_wp2_with (go_at_call 17; refine (notRight_any _ _ _).mono ?_; rintro e w' ⟨rfl, hb⟩)
        go_roundw
        case rel =>
          refine ⟨k + 1, by omega, by go_num, fun j hj => ?_, hbw.trans (hb.mono hbw.size)⟩
          by_cases e : j = k
          · subst e
            show rightT (fAt ss j) (uAt ss j) = true
            rw [← HF.out, ← HU.out]
            exact hq
          · exact HA.out j (by omega)
        case measure => simp [intOf]; omega
    · obtain rfl : k = ss.length := by omega
      go_wp2
      go_ret
      exact ⟨.inl ⟨rfl, HA.out⟩, hbw⟩

theorem filter_allS {ss : List (Int × Int)} {k : Nat} (h : allS ss k) (hk : k ≤ ss.length) : (ss.take k).filter riS = ss.take k := by
  rw [List.filter_eq_self]
  intro p hp
  obtain ⟨j, hj, rfl⟩ := List.getElem_of_mem hp
  rw [List.length_take] at hj
  have := h j (by omega)
  rw [List.getElem_take]
  rw [List.getElem?_eq_getElem (by omega)] at this
  exact this

theorem take_snoc (ss : List (Int × Int)) (j : Nat) (hj : j < ss.length) : ss.take (j + 1) = ss.take j ++ [(fAt ss j, uAt ss j)] := by
  have e : (fAt ss j, uAt ss j) = ss[j] := by simp [fAt, uAt, List.getElem?_eq_getElem hj]
  rw [e, List.take_add_one, List.getElem?_eq_getElem hj]
  rfl

/-- Where DeleteFunc stands: what is kept of the first j lies ahead. -/
structure DelI (ss : List (Int × Int)) (i j : Nat) (zs : List (Int × Int)) : Prop where
  len : zs.length = ss.length
  lt : i < j
  le : j ≤ ss.length
  kept : zs.take i = (ss.take j).filter riS
  high : ∀ t, j ≤ t → zs[t]? = ss[t]?

theorem DelI.start {ss : List (Int × Int)} {k : Nat} (hk : k < ss.length) (h : allS ss k) (hn : rightT (fAt ss k) (uAt ss k) = false) : DelI ss k (k + 1) ss where
  len := rfl
  lt := Nat.lt_succ_self _
  le := hk
  kept := by
    rw [take_snoc _ _ hk, List.filter_append, filter_allS h (by omega)]
    simp [riS, hn]
  high := fun _ _ => rfl

theorem DelI.count {ss zs : List (Int × Int)} {i j : Nat} (h : DelI ss i j zs) : ((ss.take j).filter riS).length = i := by
  rw [← h.kept, List.length_take]
  have := h.len; have := h.lt; have := h.le
  omega

theorem DelI.skip {ss zs : List (Int × Int)} {i j : Nat} (h : DelI ss i j zs) (hj : j < ss.length) (hn : rightT (fAt ss j) (uAt ss j) = false) : DelI ss i (j + 1) zs where
  len := h.len
  lt := Nat.lt_succ_of_lt h.lt
  le := hj
  kept := by
    rw [take_snoc _ _ hj, List.filter_append, ← h.kept]
    simp [riS, hn]
  high := fun t ht => h.high t (by omega)

theorem DelI.keep {ss zs : List (Int × Int)} {i j : Nat} (h : DelI ss i j zs) (hj : j < ss.length) (hn : rightT (fAt ss j) (uAt ss j) = true) : DelI ss (i + 1) (j + 1) (zs.set i (fAt ss j, uAt ss j)) where
  len := by rw [List.length_set]; exact h.len
  lt := Nat.succ_lt_succ h.lt
  le := hj
  kept := by
    have hl := h.len
    have hlt := h.lt
    rw [take_snoc _ _ hj, List.filter_append, ← h.kept, List.take_add_one, List.take_set_of_le (Nat.le_refl _)]
    simp [riS, hn, List.getElem?_set, show i < zs.length by omega]
  high := fun t ht => by
    rw [List.getElem?_set_ne (by have := h.lt; omega)]
    exact h.high t (by omega)

theorem DelI.at {ss zs : List (Int × Int)} {i j : Nat} (h : DelI ss i j zs) : fAt zs j = fAt ss j ∧ uAt zs j = uAt ss j := by
  unfold fAt uAt
  rw [h.high j (Nat.le_refl _)]
  exact ⟨rfl, rfl⟩

theorem below_cells {B : Nat} (g : Nat) (w : World) (hB : B ≤ g) : ∀ (vs : List Value) (o : Nat), Below B w (w.setCells g o vs) := by
  intro vs
  induction vs generalizing w with
  | nil => exact fun _ => Below.refl _ _
  | cons v r ih =>
    intro o
    exact ((Below.refl B w).setCell (p := ⟨g, o, none⟩) hB v).trans (ih _ (o + 1))

set_option maxRecDepth 100000 in
set_option maxHeartbeats 4000000 in
theorem deleteFunc_any (g o c B : Nat) (ss : List (Int × Int)) (w : World) (hlen : ss.length ≤ 140737488355328) (hc : ss.length ≤ c) (hB : B ≤ g) (hg : g < w.heap.size) (hr : RowS w g o ss) :
    Calls Try.prog 15 #[.slice (some ⟨g, o, none⟩) ss.length c, .func (.func 17) #[] #[]] w fun e w' =>
      e = .returned (.slice (some ⟨g, o, none⟩) (ss.filter riS).length c) ∧ RowS w' g o (ss.filter riS) ∧ Below B w w' := by
  have HI := Lib.hid (indexFunc_any (some ⟨g, o, none⟩) c ss w hlen (hr.rd hg))
  have HR := Lib.hid hr
  clear hr
  go_enter Try.func15, Try.ntmps15
  go_wp2_with fail
  refine HI.out.mono ?_
  rintro e w1 ⟨⟨rfl, hA⟩ | ⟨k, hk, rfl, hA, hn⟩, hb1⟩
  · have HA := Lib.hid hA
    clear hA
    go_wp2
    go_ret
    have hf : ss.filter riS = ss := by
      have := filter_allS HA.out (Nat.le_refl _)
      rwa [List.take_length] at this
    rw [hf]
    exact ⟨rfl, HR.out.on hg hb1, hb1.mono (by omega)⟩
  · have hne1 : ((k : Int) == -1) = false := beq_eq_false_iff_ne.2 (by omega)
    have HD := Lib.hid (DelI.start hk hA hn)
    have HB1 := Lib.hid hb1
    have hz1 := hb1.size
    have HR1 := Lib.hid (HR.out.on hg hb1)
    clear hA hn hb1
    go_wp2
    go_loopw [5, 6] (fun s5 s6 wr => ∃ (i j : Nat) (zs : List (Int × Int)), s5 = .int .i64 i ∧ s6 = .int .i64 j ∧ Hid (DelI ss i j zs) ∧ i < j ∧ j ≤ ss.length ∧ Hid (RowS wr g o zs) ∧ Hid (Below B w wr) ∧ w.heap.size ≤ wr.heap.size) (fun _ s6 _ => ss.length - (intOf s6).toNat)
    case atStart => exact ⟨k, k + 1, ss, rfl, by go_num, HD.out, by omega, by omega, HR1.out, HB1.out.mono (by omega), hz1⟩
    case round =>
      obtain ⟨i, j, zs, rfl, rfl, HJ, hij, hjn, HRz, HBz, hzz⟩ := hrel
      have hzl := HJ.out.len
      by_cases hlt : j < ss.length
      · obtain ⟨⟨c0, c1⟩, f0, f1⟩ := HRz.out j (by omega)
        rw [HJ.out.at.1] at c0
        rw [HJ.out.at.2] at c1
        obtain ⟨f, hf⟩ : ∃ f, f = fAt ss j := ⟨_, rfl⟩
        obtain ⟨u, hu⟩ : ∃ u, u = uAt ss j := ⟨_, rfl⟩
        rw [← hf] at c0
        rw [← hu] at c1
        have HF := Lib.hid hf
        have HU := Lib.hid hu
        clear hf hu
        have hgz : g < wr.heap.size := by omega
        have HON : Hid (∀ w3, Below (wr.alloc (.cells #[.int .u64 f, .int .u64 u] 30)).heap.size (wr.alloc (.cells #[.int .u64 f, .int .u64 u] 30)) w3 → RowS w3 g o zs ∧ Below B w w3 ∧ wr.heap.size ≤ w3.heap.size) := fun w3 hb => by
          have h1 : Below wr.heap.size wr w3 := ((Below.refl _ _).alloc (Nat.le_refl _) _).trans (hb.mono (by simp))
          exact ⟨HRz.out.on hgz h1, HBz.out.trans (h1.mono (by omega)), h1.size⟩
        cases hq : rightT f u
        · go_wp2_with (go_at_call 17; refine (notRight_any _ _ _).mono ?_; rintro e w3 ⟨rfl, hb⟩)
          obtain ⟨h1, h2, h3⟩ := HON.out _ hb
          go_roundw
          case rel => exact ⟨i, j + 1, zs, rfl, by go_num, HJ.out.skip hlt (by rw [← HF.out, ← HU.out]; exact hq), by omega, by omega, h1, h2, by omega⟩
          case measure => simp [intOf]; omega
        · go_wp2_with fail
          refine (notRight_any _ _ _).mono ?_
          rintro e w3 ⟨rfl, hb⟩
          obtain ⟨h1, h2, h3⟩ := HON.out _ hb
          obtain ⟨b0, b1⟩ := box2_later hb
          have H1 := Lib.hid h1
          have H2 := Lib.hid h2
          obtain ⟨⟨d0, d1⟩, e0, e1⟩ := h1 i (by omega)
          clear hb h1 h2 c0 c1 f0 f1
          go_wp2
          go_roundw
          case rel =>
            refine ⟨i + 1, j + 1, zs.set i (f, u), by go_num, by go_num, ?_, by omega, by omega, H1.out.set i (by omega) f u, ?_, by simp; omega⟩
            · have := HJ.out.keep hlt (by rw [← HF.out, ← HU.out]; exact hq)
              rwa [← HF.out, ← HU.out] at this
            · exact (H2.out.setCell (p := ⟨g, o + i * 2, none⟩) hB _).setCell (p := ⟨g, o + i * 2 + 1, none⟩) hB _
          case measure => simp [intOf]; omega
      · obtain rfl : j = ss.length := by omega
        have hcut := fun w => run_cutL2 g o ss.length c i (by omega) hc w
        have hcuh := fun w => run_cutH2 (some ⟨g, o, none⟩) ss.length c i (by omega) w
        have hcl : ∀ ty, (Builtin.clear_ #[22] ty #[.slice (some ⟨g, o + i * 2, none⟩) (ss.length - i) (c - i)]).run Try.prog wr = .ok (.tuple #[]) (wr.setCells g (o + i * 2) (List.replicate ((ss.length - i) * 2) (.int .u64 0))) :=
          fun ty => run_clear2 wr ty g (o + i * 2) (ss.length - i) (c - i) (by omega)
            (fun t ht => by rw [Nat.add_assoc]; exact (HRz.out.raw (i * 2 + t) (by omega)).1) (fun t ht => by rw [Nat.add_assoc]; exact (HRz.out.raw (i * 2 + t) (by omega)).2)
        go_wp2
        go_ret
        have hc9 := HJ.out.count
        have hk9 := HJ.out.kept
        rw [List.take_length] at hc9 hk9
        rw [hc9, ← hk9]
        exact ⟨rfl, HRz.out.cut _ i (by omega), HBz.out.trans (below_cells g wr hB _ _)⟩

end Go.Proofs.Ytjmlpmkpjmgfiaa
