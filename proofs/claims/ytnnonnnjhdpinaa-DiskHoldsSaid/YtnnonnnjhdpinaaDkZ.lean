/- DiskHolds, walked. -/
import Derived.Test.YtnnonnnjhdpinaaDkY
namespace Go.Proofs.Ytnnonnnjhdpinaa
open Go Go.RowKit Go.Shelf
set_option linter.unusedSimpArgs false
set_option linter.unusedVariables false
set_option maxRecDepth 100000

attribute [local go_sem] Oper.semAt_some

theorem m1 {k n : Nat} (h : k < n) : n - (intOf (.int .i64 ((k : Int) + 1))).toNat < n - (intOf (.int .i64 (k : Int))).toNat := by simp only [intOf]; omega

theorem RdP.at {w : World} {B g o i : Nat} {l : List (UInt8 × UInt8)} {x : UInt8 × UInt8} (h : RdP w B (some ⟨g, o, none⟩) l) (hx : l[i]? = some x) : g < B ∧ w.cell? ⟨g, o + i * 2, none⟩ = some (.int .u8 (x.1.toNat : Int)) ∧ w.cell? ⟨g, o + i * 2 + 1, none⟩ = some (.int .u8 (x.2.toNat : Int)) := by
  rcases h with rfl | ⟨g', o', e, hg, hc⟩
  · simp at hx
  · injection e with e
    injection e with e1 e2
    subst e1 e2
    exact ⟨hg, hc i x hx⟩
theorem RdP.some {w : World} {B i : Nat} {A : Option Addr} {l : List (UInt8 × UInt8)} {x : UInt8 × UInt8} (h : RdP w B A l) (hx : l[i]? = some x) : ∃ g o, A = some ⟨g, o, none⟩ := by
  rcases h with rfl | ⟨g', o', e, hg, hc⟩
  · simp at hx
  · exact ⟨g', o', e⟩
theorem take_one {l : List (UInt8 × UInt8)} {i : Nat} {x : UInt8 × UInt8} (hx : l[i]? = some x) : l.take (i + 1) = l.take i ++ [x] := by rw [List.take_add_one, hx]; rfl
theorem k5 (c : UInt8) : ((c.toNat : Int) % 5) = ((secK c : Nat) : Int) := by unfold secK; omega
theorem k5w (c : UInt8) : IntKind.i64.wrap ((c.toNat : Int).tmod 5) = ((secK c : Nat) : Int) := by
  have e : (c.toNat : Int).tmod 5 = ((c.toNat % 5 : Nat) : Int) := rfl
  rw [e, IntKind.wrap_i64]
  unfold secK
  omega
theorem k5b (c : UInt8) : (0 : Int) ≤ ((secK c : Nat) : Int) ∧ ((secK c : Nat) : Int) < 5 := by have := secK_lt c; omega
theorem dsk_few {l : List (UInt8 × UInt8)} {i n : Nat} {lie : Int → List UInt8} (h : n = l.length ∧ n ≤ 30) : (dsk ((l.take i).map wrP) lie).wt.length < 1000000 := by simp [dsk]; omega
theorem step_wt {l : List (UInt8 × UInt8)} {i : Nat} {x : UInt8 × UInt8} (hx : l[i]? = some x) : (l.take (i + 1)).map wrP = (l.take i).map wrP ++ [(((secK x.1 : Nat) : Int), fullB x.2)] := by rw [take_one hx, List.map_append]; rfl
theorem step_was {l : List (UInt8 × UInt8)} {i : Nat} {x : UInt8 × UInt8} (hx : l[i]? = some x) : (wasL (l.take (i + 1)) was0).map encB = ((wasL (l.take i) was0).map encB).set (secK x.1) (.int .u8 (x.2.toNat : Int)) := by rw [take_one hx, wasL_push, List.map_set]; rfl
def txtB (s : List UInt8) : ByteArray := ⟨s.toArray⟩
/-- Is a sector as it was, or as one of the writes of that sector? -/
def fineB (s : List UInt8) (b0 : Bool) (k : Nat) (l : List (UInt8 × UInt8)) : Bool := b0 || l.any fun x => decide (((secK x.1 : Nat) : Int) = (k : Int)) && ((txtB s).toList == (txtB (fullB x.2)).toList)
theorem fine_step {s : List UInt8} {b0 : Bool} {k i : Nat} {l : List (UInt8 × UInt8)} {x : UInt8 × UInt8} (hx : l[i]? = some x) : fineB s b0 k (l.take (i + 1)) = (fineB s b0 k (l.take i) || (decide (((secK x.1 : Nat) : Int) = (k : Int)) && ((txtB s).toList == (txtB (fullB x.2)).toList))) := by
  rw [take_one hx]
  simp [fineB, Bool.or_assoc]
theorem fine_end {s : List UInt8} {W : UInt8} {k : Nat} {l : List (UInt8 × UInt8)} (h : s = fullB W ∨ ∃ x, x ∈ l ∧ secK x.1 = k ∧ s = fullB x.2) : fineB s ((txtB s).toList == (txtB (fullB W)).toList) k l = true := by
  unfold fineB
  rcases h with h | ⟨x, hx, hk, h⟩
  · rw [← h, beq_self_eq_true, Bool.true_or]
  · rw [Bool.or_eq_true]
    right
    rw [List.any_eq_true]
    exact ⟨x, hx, by rw [← h, beq_self_eq_true, hk]; simp⟩
theorem was_len (l : List (UInt8 × UInt8)) : (wasL l was0).length = 5 := by rw [wasL_len]; rfl

set_option maxHeartbeats 4000000 in
theorem walk_dkE (A1 : Option Addr) (C1 : Nat) (l1 : List (UInt8 × UInt8)) (A2 : Option Addr) (C2 : Nat) (l2 : List (UInt8 × UInt8)) (A3 : Option Addr) (C3 : Nat) (l3 : List Bool) (w : World) (r1 : RdP w w.heap.size A1 l1) (r2 : RdP w w.heap.size A2 l2) (r3 : RdT w w.heap.size A3 l3) (hb : 30 < l1.length ∨ 30 < l2.length ∨ 60 < l3.length) :
    Calls Try.prog 5 #[.slice A1 l1.length C1, .slice A2 l2.length C2, .slice A3 l3.length C3] w fun e w' => e = .returned (.bool true) ∧ Below w.heap.size w w' := by
  have h1 : decide ((30 : Int) < (l1.length : Int)) = decide (30 < l1.length) := by simp; omega
  clear r1 r2 r3
  generalize l1.length = n1 at *
  generalize l2.length = n2 at *
  generalize l3.length = n3 at *
  by_cases h1 : 30 < n1
  · have h1I : (30 : Int) < (n1 : Int) := by omega
    go_enter Try.func5, Try.ntmps5
    go_wp2_with fail
    refine (dkworks_any w).mono ?_
    rintro e w1 ⟨rfl, hb1⟩
    have HB := Lib.hid hb1
    clear hb1
    go_wp2_with fail
    go_ret
    exact ⟨rfl, HB.out⟩
  have h1I : ¬ (30 : Int) < (n1 : Int) := by omega
  by_cases h2 : 30 < n2
  · have h2I : (30 : Int) < (n2 : Int) := by omega
    go_enter Try.func5, Try.ntmps5
    go_wp2_with fail
    refine (dkworks_any w).mono ?_
    rintro e w1 ⟨rfl, hb1⟩
    have HB := Lib.hid hb1
    clear hb1
    go_wp2_with fail
    go_ret
    exact ⟨rfl, HB.out⟩
  have h2I : ¬ (30 : Int) < (n2 : Int) := by omega
  have h3I : (60 : Int) < (n3 : Int) := by omega
  go_enter Try.func5, Try.ntmps5
  go_wp2_with fail
  refine (dkworks_any w).mono ?_
  rintro e w1 ⟨rfl, hb1⟩
  have HB := Lib.hid hb1
  clear hb1
  go_wp2_with fail
  go_ret
  exact ⟨rfl, HB.out⟩

set_option maxHeartbeats 16000000 in
theorem walk_dk (A1 : Option Addr) (C1 : Nat) (l1 : List (UInt8 × UInt8)) (A2 : Option Addr) (C2 : Nat) (l2 : List (UInt8 × UInt8)) (A3 : Option Addr) (C3 : Nat) (l3 : List Bool) (w : World) (r1 : RdP w w.heap.size A1 l1) (r2 : RdP w w.heap.size A2 l2) (r3 : RdT w w.heap.size A3 l3) (h1 : l1.length ≤ 30) (h2 : l2.length ≤ 30) (h3 : l3.length ≤ 60) :
    Calls Try.prog 5 #[.slice A1 l1.length C1, .slice A2 l2.length C2, .slice A3 l3.length C3] w fun e w' => e = .returned (.bool true) ∧ Below w.heap.size w w' := by
  have HR1 : Hid (∀ w', Below w.heap.size w w' → RdP w' w'.heap.size A1 l1) := fun w' h => r1.on h
  have HR2 : Hid (∀ w', Below w.heap.size w w' → RdP w' w'.heap.size A2 l2) := fun w' h => r2.on h
  have HR3 : Hid (∀ w', Below w.heap.size w w' → RdT w' w'.heap.size A3 l3) := fun w' h => r3.on h
  have HA3 : Hid (l3 ≠ [] → ∀ q, A3 = some q → q.block < w.heap.size) := fun hne q hq => by
    rcases r3 with h | ⟨g, o, h, hg, _⟩
    · exact absurd h hne
    · rw [h] at hq; injection hq with hq; subst hq; exact hg
  obtain ⟨n1, hn1⟩ : ∃ n, n = l1.length := ⟨_, rfl⟩
  obtain ⟨n2, hn2⟩ : ∃ n, n = l2.length := ⟨_, rfl⟩
  obtain ⟨n3, hn3⟩ : ∃ n, n = l3.length := ⟨_, rfl⟩
  have HN1 : Hid (n1 = l1.length ∧ n1 ≤ 30) := ⟨hn1, by omega⟩
  have HN2 : Hid (n2 = l2.length ∧ n2 ≤ 30) := ⟨hn2, by omega⟩
  have HN3 : Hid (n3 = l3.length ∧ n3 ≤ 60) := ⟨hn3, by omega⟩
  have i1 : ¬ (30 : Int) < (n1 : Int) := by omega
  have i2 : ¬ (30 : Int) < (n2 : Int) := by omega
  have i3 : ¬ (60 : Int) < (n3 : Int) := by omega
  rw [← hn1, ← hn2, ← hn3]
  clear hn1 hn2 hn3 h1 h2 h3 r1 r2 r3
  go_enter Try.func5, Try.ntmps5
  go_wp2_with fail
  clear i1 i2 i3
  refine (new_any 5 ⟨by decide, by decide⟩ w).mono ?_
  rintro e w1 ⟨hb, ⟨_, p, rfl, hd⟩ | ⟨hz, _⟩⟩
  rotate_left
  · exact absurd hz (by decide)
  have HS1 : Hid (DSt w w1 p (newM 5) []) := .start (k := 0) hd hb (newM_ok (by decide) (by decide))
  clear hb hd
  go_wp2_with fail
  refine (dknum_any 0 _).mono ?_
  rintro e9 w9 ⟨rfl, h9⟩
  rw [← h9]
  clear h9 w9
  go_upto_region 7 with fail
  obtain ⟨W, hW⟩ : ∃ W, W = w1.alloc (.cells #[.int .u8 0, .int .u8 0, .int .u8 0, .int .u8 0, .int .u8 0] 54) := ⟨_, rfl⟩
  rw [← hW]
  have hrow : RowB W w1.heap.size [.int .u8 0, .int .u8 0, .int .u8 0, .int .u8 0, .int .u8 0] := by rw [hW]; exact RowB.new w1 _ _
  have hWb : Below w1.heap.size w1 W := by rw [hW]; exact below_al (Below.refl _ _) _
  have HSW : Hid (DSt w W p (dsk [] fun _ => zeroS) [(w1.heap.size, (wasL [] was0).map encB)]) := HS1.out.add hWb hrow (Nat.le_refl _) hrow.lt
  have HG : Hid (w.heap.size ≤ w1.heap.size) := HS1.out.below.size
  generalize w1.heap.size = gA at HSW HG ⊢
  clear hW hrow hWb HS1
  as_aux_lemma =>
    go_wp2_with fail
    go_loopw [10, 11] (fun vi vk wr => ∃ i : Nat, i ≤ n1 ∧ vi = .int .i64 i ∧ Hid (DSt w wr p (dsk ((l1.take i).map wrP) fun _ => zeroS) [(gA, (wasL (l1.take i) was0).map encB)])) (fun vi _ _ => n1 - (intOf vi).toNat)
    case atStart => exact ⟨0, Nat.zero_le _, rfl, HSW.out⟩
    case round =>
      obtain ⟨i, hi, rfl, HI⟩ := hrel
      by_cases hlt : i < n1
      · have hltI : (i : Int) < (n1 : Int) := by omega
        obtain ⟨x, hx⟩ : ∃ x, l1[i]? = some x := ⟨_, List.getElem?_eq_getElem (by have := HN1.out.1; omega)⟩
        obtain ⟨g, o, rfl⟩ := (HR1.out wr HI.out.below).some hx
        obtain ⟨hg, c0, c1⟩ := (HR1.out wr HI.out.below).at hx
        have hN := HN1.out.2
        have HXx := Lib.hid hx
        clear hx
        go_upto_region 11 with fail
        rw [k5 x.1]
        have hk := k5b x.1
        go_wp2_with fail
        refine (HI.out.fullAt x.2 _ rfl).mono ?_
        rintro e v1 ⟨f1, rfl, hs, hr, hb⟩
        have HS1 := Lib.hid hs
        have HF1 := Lib.hid hr
        clear hs hr hb c0 c1
        go_wp2_with fail
        refine (HS1.out.wrote64 ((secK x.1 : Nat) : Int) ⟨by omega, by omega⟩ _ x.2 (dsk_few HN1.out) HF1.out (dsk_wr (k5b x.1))).mono ?_
        rintro e v2 ⟨rfl, hs⟩
        have HS2 := Lib.hid hs
        clear hs
        go_wp2_with fail
        refine (dknum_any 0 _).mono ?_
        rintro e9 w9 ⟨rfl, h9⟩
        rw [← h9]
        clear h9 w9
        obtain ⟨hg2, c0, c1⟩ := (HR1.out v2 HS2.out.below).at HXx.out
        have hA := HS2.out.row (List.mem_singleton_self _)
        have hcA := hA.1 (secK x.1) _ (encB_at (wasL (l1.take i) was0) (secK x.1) (by rw [was_len]; exact secK_lt _))
        have hfA := hA.2 (secK x.1)
        have HS3 : Hid (DSt w (v2.setCell ⟨gA, secK x.1, none⟩ (.int .u8 (x.2.toNat : Int))) p (dsk ((l1.take (i + 1)).map wrP) fun _ => zeroS) [(gA, (wasL (l1.take (i + 1)) was0).map encB)]) := by
          rw [step_wt HXx.out, step_was HXx.out]
          exact HS2.out.set HG.out _ _
        have hk1 : i + 1 ≤ n1 := hlt
        have hms := m1 hlt
        clear hA
        go_wp2_with fail
        go_roundw
        case rel => exact ⟨i + 1, hk1, rfl, HS3.out⟩
        case measure => exact hms
      · have hin : n1 = i := by omega
        subst hin
        have hd : l1.take n1 = l1 := by rw [HN1.out.1, List.take_length]
        rw [hd] at HI
        clear hd
        go_wp2_with fail
        refine (HI.out.sync (by show (-1 : Int) ≠ 0; decide)).mono ?_
        rintro e v1 ⟨rfl, hs⟩
        have HSy : Hid (DSt w v1 p (dsk [] (settleN (l1.map wrP) (fun _ => true) (fun _ => zeroS) (l1.map wrP).length)) [(gA, (wasL l1 was0).map encB)]) := hs
        have HLo : Hid (∀ k, k < 5 → settleN (l1.map wrP) (fun _ => true) (fun _ => zeroS) (l1.map wrP).length (k : Nat) = fullB (uAt (wasL l1 was0) k)) := fun k hk => by
          have h := was_lie l1 l1.length (Nat.le_refl _) k hk
          rw [List.take_length] at h
          exact h
        have HWn : Hid ((wasL l1 was0).length = 5) := was_len l1
        generalize settleN (l1.map wrP) (fun _ => true) (fun _ => zeroS) (l1.map wrP).length = L0 at HSy HLo
        generalize wasL l1 was0 = Wl at HSy HLo HWn
        clear hs
        go_wp2_with fail
        refine (dknum_any 0 _).mono ?_
        rintro e9 w9 ⟨rfl, h9⟩
        rw [← h9]
        clear h9 w9
        have HI0 : Hid (DSt w v1 p (dsk ((l2.take 0).map wrP) L0) [(gA, Wl.map encB)]) := HSy.out
        as_aux_lemma =>
          go_wp2_with fail
          go_loopw [12] (fun vi wr => ∃ i : Nat, i ≤ n2 ∧ vi = .int .i64 i ∧ Hid (DSt w wr p (dsk ((l2.take i).map wrP) L0) [(gA, Wl.map encB)])) (fun vi _ => n2 - (intOf vi).toNat)
          case atStart => exact ⟨0, Nat.zero_le _, rfl, HI0.out⟩
          case round =>
            obtain ⟨i, hi, rfl, HI⟩ := hrel
            by_cases hlt : i < n2
            · have hltI : (i : Int) < (n2 : Int) := by omega
              obtain ⟨x, hx⟩ : ∃ x, l2[i]? = some x := ⟨_, List.getElem?_eq_getElem (by have := HN2.out.1; omega)⟩
              obtain ⟨g, o, rfl⟩ := (HR2.out wr HI.out.below).some hx
              have HXw : Hid (∀ w', Below w.heap.size w w' → (w'.cell? ⟨g, o + i * 2, none⟩ = some (.int .u8 (x.1.toNat : Int)) ∧ w'.cell? ⟨g, o + i * 2 + 1, none⟩ = some (.int .u8 (x.2.toNat : Int)))) := fun w' hb => ((HR2.out w' hb).at hx).2
              have hN := HN2.out.2
              have HXx := Lib.hid hx
              clear hx
              go_upto_region 19 with fail
              have HSd := Lib.hid (HI.out.on (Below.refl wr.heap.size wr).drew)
              refine wp_region_held_drew (S := (fun w' => (w'.cell? ⟨g, o + i * 2, none⟩ = some (.int .u8 (x.1.toNat : Int)) ∧ w'.cell? ⟨g, o + i * 2 + 1, none⟩ = some (.int .u8 (x.2.toNat : Int))))) (by kernel_rfl) (HXw.out _ HSd.out.below) (fun hHeld => ?_)
              refine take_listed (i := 0) (v := ?_) rfl (by kernel_rfl) (by kernel_rfl) (by kernel_rfl) (fun _ _ _ h => h) (Or.inl ⟨by rfl, ?_⟩) (by assumption) ?_
              rotate_left
              · intro w hSw
                (try dsimp only at hSw)
                go_simp
                all_goals with_reducible rfl
              simp only [Act.put, List.setIfInBounds_toArray, List.set_cons_zero, List.set_cons_succ]
              refine take_listed (i := 1) (v := ?_) rfl (by kernel_rfl) (by kernel_rfl) (by kernel_rfl) (fun _ _ _ h => h) (Or.inl ⟨by rfl, ?_⟩) (by assumption) ?_
              rotate_left
              · intro w hSw
                (try dsimp only at hSw)
                go_simp
                all_goals with_reducible rfl
              simp only [Act.put, List.setIfInBounds_toArray, List.set_cons_zero, List.set_cons_succ]
              refine take_listed (i := 2) (v := ?_) rfl (by kernel_rfl) (by kernel_rfl) (by kernel_rfl) (fun _ _ _ h => h) (Or.inl ⟨by rfl, ?_⟩) (by assumption) ?_
              rotate_left
              · intro w hSw
                (try dsimp only at hSw)
                go_simp
                all_goals with_reducible rfl
              simp only [Act.put, List.setIfInBounds_toArray, List.set_cons_zero, List.set_cons_succ]
              refine take_listed (i := 3) (v := ?_) rfl (by kernel_rfl) (by kernel_rfl) (by kernel_rfl) (fun _ _ _ h => h) (Or.inl ⟨by rfl, ?_⟩) (by assumption) ?_
              rotate_left
              · intro w hSw
                (try dsimp only at hSw)
                go_simp
                all_goals with_reducible rfl
              simp only [Act.put, List.setIfInBounds_toArray, List.set_cons_zero, List.set_cons_succ]
              refine take_listed (i := 4) (v := ?_) rfl (by kernel_rfl) (by kernel_rfl) (by kernel_rfl) (fun _ _ _ h => h) (Or.inl ⟨by rfl, ?_⟩) (by assumption) ?_
              rotate_left
              · intro w hSw
                (try dsimp only at hSw)
                go_simp
                all_goals with_reducible rfl
              simp only [Act.put, List.setIfInBounds_toArray, List.set_cons_zero, List.set_cons_succ]
              refine take_listed (i := 5) (v := ?_) rfl (by kernel_rfl) (by kernel_rfl) (by kernel_rfl) (fun _ _ _ h => h) (Or.inl ⟨by rfl, ?_⟩) (by assumption) ?_
              rotate_left
              · intro w hSw
                (try dsimp only at hSw)
                go_simp
                all_goals with_reducible rfl
              simp only [Act.put, List.setIfInBounds_toArray, List.set_cons_zero, List.set_cons_succ]
              refine take_listed (i := 6) (v := ?_) rfl (by kernel_rfl) (by kernel_rfl) (by kernel_rfl) (fun _ _ _ h => h) (Or.inl ⟨by rfl, ?_⟩) (by assumption) ?_
              rotate_left
              · intro w hSw
                (try dsimp only at hSw)
                go_simp
                all_goals with_reducible rfl
              simp only [Act.put, List.setIfInBounds_toArray, List.set_cons_zero, List.set_cons_succ]
              refine take_listed (i := 7) (v := ?_) rfl (by kernel_rfl) (by kernel_rfl) (by kernel_rfl) (fun _ _ _ h => h) (Or.inl ⟨by rfl, ?_⟩) (by assumption) ?_
              rotate_left
              · intro w hSw
                (try dsimp only at hSw)
                go_simp
                all_goals with_reducible rfl
              simp only [Act.put, List.setIfInBounds_toArray, List.set_cons_zero, List.set_cons_succ]
              refine take_listed (i := 8) (v := ?_) rfl (by kernel_rfl) (by kernel_rfl) (by kernel_rfl) (fun _ _ _ h => h) (Or.inl ⟨by rfl, ?_⟩) (by assumption) ?_
              rotate_left
              · intro w hSw
                (try dsimp only at hSw)
                go_simp
                all_goals with_reducible rfl
              simp only [Act.put, List.setIfInBounds_toArray, List.set_cons_zero, List.set_cons_succ]
              refine take_listed (i := 9) (v := ?_) rfl (by kernel_rfl) (by kernel_rfl) (by kernel_rfl) (fun _ _ _ h => h) (Or.inl ⟨by rfl, ?_⟩) (by assumption) ?_
              rotate_left
              · intro w hSw
                (try dsimp only at hSw)
                go_simp
                all_goals with_reducible rfl
              simp only [Act.put, List.setIfInBounds_toArray, List.set_cons_zero, List.set_cons_succ]
              refine take_listed (i := 10) (v := ?_) rfl (by kernel_rfl) (by kernel_rfl) (by kernel_rfl) (fun _ _ _ h => h) (Or.inl ⟨by rfl, ?_⟩) (by assumption) ?_
              rotate_left
              · intro w hSw
                (try dsimp only at hSw)
                go_simp
                all_goals with_reducible rfl
              simp only [Act.put, List.setIfInBounds_toArray, List.set_cons_zero, List.set_cons_succ]
              refine take_listed (i := 11) (v := ?_) rfl (by kernel_rfl) (by kernel_rfl) (by kernel_rfl) (fun _ _ _ h => h) (Or.inl ⟨by rfl, ?_⟩) (by assumption) ?_
              rotate_left
              · intro w hSw
                (try dsimp only at hSw)
                go_simp
                all_goals with_reducible rfl
              simp only [Act.put, List.setIfInBounds_toArray, List.set_cons_zero, List.set_cons_succ]
              refine take_listed (i := 12) (v := ?_) rfl (by kernel_rfl) (by kernel_rfl) (by kernel_rfl) (fun _ _ _ h => h) (Or.inl ⟨by rfl, ?_⟩) (by assumption) ?_
              rotate_left
              · intro w hSw
                (try dsimp only at hSw)
                go_simp
                all_goals with_reducible rfl
              simp only [Act.put, List.setIfInBounds_toArray, List.set_cons_zero, List.set_cons_succ]
              refine wpAnyH_ready (rs := [13]) (by kernel_rfl) (by simp) ?_
              refine AllReadyH.cons rfl (fun K hK => ?_) AllReadyH.nil
              go_simp
              refine (HSd.out.fullAt x.2 _ rfl).mono ?_
              rintro e v1 ⟨f1, rfl, hs, hr, hb⟩
              have HS1 := Lib.hid hs
              have HF1 := Lib.hid hr
              clear hs hr hb
              refine hK.out _ _ (HXw.out _ HS1.out.below) (fun hHeld => ?_)
              clear hK K
              try simp only [Act.put, List.setIfInBounds_toArray, List.set_cons_zero, List.set_cons_succ]
              refine wpAnyH_ready (rs := [14]) (by kernel_rfl) (by simp) ?_
              refine AllReadyH.cons rfl (fun K hK => ?_) AllReadyH.nil
              go_simp
              rw [k5w x.1]
              refine (HS1.out.wrote64 ((secK x.1 : Nat) : Int) ⟨by have := k5b x.1; omega, by have := k5b x.1; omega⟩ _ x.2 (dsk_few HN2.out) HF1.out (dsk_wr (k5b x.1))).mono ?_
              rintro e v2 ⟨rfl, hs⟩
              have HS2 := Lib.hid hs
              clear hs
              refine hK.out _ _ (HXw.out _ HS2.out.below) (fun hHeld => ?_)
              clear hK K
              try simp only [Act.put, List.setIfInBounds_toArray, List.set_cons_zero, List.set_cons_succ]
              refine wpAnyH_ready (rs := [15]) (by kernel_rfl) (by simp) ?_
              refine AllReadyH.cons rfl (fun K hK => ?_) AllReadyH.nil
              go_simp
              refine (dknum_any 0 _).mono ?_
              rintro e9 w9 ⟨rfl, h9⟩
              rw [← h9]
              clear h9 w9
              refine hK.out _ _ (HXw.out _ HS2.out.below) (fun hHeld => ?_)
              clear hK K
              try simp only [Act.put, List.setIfInBounds_toArray, List.set_cons_zero, List.set_cons_succ]
              refine take_listed (i := 16) (v := ?_) rfl (by kernel_rfl) (by kernel_rfl) (by kernel_rfl) (fun _ _ _ h => h) (Or.inl ⟨by rfl, ?_⟩) (by assumption) ?_
              rotate_left
              · intro w hSw
                (try dsimp only at hSw)
                go_simp
                all_goals with_reducible rfl
              simp only [Act.put, List.setIfInBounds_toArray, List.set_cons_zero, List.set_cons_succ]
              clear hHeld
              refine wpAnyH_done (by kernel_rfl) ?_ _
              have HS3 : Hid (DSt w v2 p (dsk ((l2.take (i + 1)).map wrP) L0) [(gA, Wl.map encB)]) := by
                rw [step_wt HXx.out]
                exact HS2.out
              have hk1 : i + 1 ≤ n2 := hlt
              have hms := m1 hlt
              go_wp2_with fail
              go_roundw
              case rel => exact ⟨i + 1, hk1, rfl, HS3.out⟩
              case measure => exact hms
            · have hin : n2 = i := by omega
              subst hin
              have hd : l2.take n2 = l2 := by rw [HN2.out.1, List.take_length]
              rw [hd] at HI
              clear hd
              go_wp2_with fail
              refine (HI.out.copy).mono ?_
              rintro e v2 ⟨q, rfl, hs, hc⟩
              have HSc2 := Lib.hid hc
              clear hs hc
              go_wp2_with fail
              refine (HSc2.out.arm 0 ⟨by decide, by decide⟩).mono ?_
              rintro e v3 ⟨rfl, hc⟩
              have HSc3 := Lib.hid hc
              clear hc
              go_wp2_with fail
              refine (HSc3.out.fullAt 1 1 rfl).mono ?_
              rintro e v4 ⟨f4, rfl, hc, hr, hb⟩
              have HSc4 := Lib.hid hc
              have HF4 := Lib.hid hr
              clear hc hr hb
              go_wp2_with fail
              refine (HSc4.out.not64 0 ⟨by decide, by decide⟩ _ 1 (by have := HN2.out; show (l2.map wrP).length < 1000000; rw [List.length_map]; omega) HF4.out 190 (dsk_wr0 _ _) (by decide)).mono ?_
              rintro e v5 ⟨rfl, hc, hb⟩
              have HSc5 := Lib.hid hc
              clear hc hb
              go_wp2_with fail
              refine (HSc5.out.syncNot rfl).mono ?_
              rintro e v6 ⟨rfl, hc, hb⟩
              have HSc6 := Lib.hid hc
              clear hc hb
              go_wp2_with fail
              refine (dknum_any 0 _).mono ?_
              rintro e9 w9 ⟨rfl, h9⟩
              rw [← h9]
              clear h9 w9
              go_wp2_with fail
              refine (dknum_any 190 _).mono ?_
              rintro e9 w9 ⟨rfl, h9⟩
              rw [← h9]
              clear h9 w9
              go_wp2_with fail
              refine (dknum_any 190 _).mono ?_
              rintro e9 w9 ⟨rfl, h9⟩
              rw [← h9]
              clear h9 w9
              go_wp2_with fail
              refine (HSc6.out.arm (-1) ⟨by decide, by decide⟩).mono ?_
              rintro e v7 ⟨rfl, hc⟩
              have HSc7 : Hid (DSt wr v7 q (dsk (l2.map wrP) L0) []) := hc
              have HSd7 := Lib.hid (HI.out.on HSc7.out.below)
              clear hc
              go_wp2_with fail
              refine (dknum_any 0 _).mono ?_
              rintro e9 w9 ⟨rfl, h9⟩
              rw [← h9]
              clear h9 w9
              go_wp2_with fail
              refine (HSd7.out.same HSc7.out).mono ?_
              rintro e v8 ⟨rfl, hb⟩
              have HSd8 := Lib.hid (HSd7.out.on hb)
              clear hb
              go_wp2_with fail
              have hcr := HSd8.out.crash2 A3 C3 l3 (by have := HN3.out; omega) (HR3.out v8 HSd8.out.below) HA3.out
              rw [← HN3.out.1] at hcr
              refine hcr.mono ?_
              clear hcr
              rintro e v9 ⟨rfl, hs⟩
              have HSe : Hid (DSt w v9 p (dsk [] (settleN (l2.map wrP) (keepAt l3) L0 (l2.map wrP).length)) [(gA, Wl.map encB)]) := hs
              have HFi : Hid (∀ k : Nat, k < 5 → settleN (l2.map wrP) (keepAt l3) L0 (l2.map wrP).length (k : Int) = fullB (uAt Wl k) ∨ ∃ x, x ∈ l2 ∧ secK x.1 = k ∧ settleN (l2.map wrP) (keepAt l3) L0 (l2.map wrP).length (k : Int) = fullB x.2) := fun k hk => by
                rcases settle_one (l2.map wrP) (keepAt l3) L0 (k : Int) _ (Nat.le_refl _) with h | ⟨i, x, hi, hx, hxk, h⟩
                · exact .inl (h.trans (HLo.out k hk))
                · rw [List.getElem?_map] at hx
                  cases hy : l2[i]? with
                  | none => rw [hy] at hx; cases hx
                  | some y =>
                    rw [hy] at hx
                    injection hx with hx
                    subst hx
                    exact .inr ⟨y, List.mem_of_getElem? hy, by have h2 : ((secK y.1 : Nat) : Int) = (k : Int) := hxk; omega, h⟩
              generalize settleN (l2.map wrP) (keepAt l3) L0 (l2.map wrP).length = L1 at HSe HFi
              clear hs HSd8 HSd7 HSc7 HSc6 HSc5 HSc4 HSc3 HSc2 HF4 HI
              go_wp2_with fail
              refine (dknum_any 0 _).mono ?_
              rintro e9 w9 ⟨rfl, h9⟩
              rw [← h9]
              clear h9 w9
              as_aux_lemma =>
                go_wp2_with fail
                go_loopw [17] (fun vi wr => ∃ k : Nat, k ≤ 5 ∧ vi = .int .i64 k ∧ Hid (DSt w wr p (dsk [] L1) [(gA, Wl.map encB)])) (fun vi _ => 5 - (intOf vi).toNat)
                case atStart => exact ⟨0, Nat.zero_le _, rfl, HSe.out⟩
                case round =>
                  obtain ⟨k, hk, rfl, HI⟩ := hrel
                  by_cases hlt : k < 5
                  · have hltI : (k : Int) < 5 := by omega
                    go_wp2_with fail
                    refine (HI.out.read (k : Int) (dsk_has ⟨by omega, by omega⟩) (L1 k) rfl).mono ?_
                    rintro e v1 ⟨gb, rfl, hs⟩
                    have HS1 := Lib.hid hs
                    have HL64 : Hid ((L1 k).length = 64) := HI.out.ok.lie (k : Int)
                    have HEnd := Lib.hid (HFi.out k hlt)
                    obtain ⟨s, hsE⟩ : ∃ s, s = L1 (k : Int) := ⟨_, rfl⟩
                    rw [← hsE] at HS1 HL64 HEnd
                    clear hs hsE
                    go_wp2_with fail
                    refine (dknum_any 0 _).mono ?_
                    rintro e9 w9 ⟨rfl, h9⟩
                    rw [← h9]
                    clear h9 w9
                    go_upto_region 31 with fail
                    have HXs : Hid (∀ w', Below v1.heap.size v1 w' → (w'.cell? ⟨gA, k, none⟩ = some (.int .u8 ((uAt Wl k).toNat : Int)) ∧ (convert 57 9 (.slice (some ⟨gb, 0, none⟩) 64 64)).run Try.prog w' = .ok (.string (txtB s)) w')) := fun w' hb => by
                      have h := HS1.out.on hb
                      refine ⟨?_, h.text (g := gb) (s := s) (by simp) HL64.out⟩
                      exact (h.row (r := (gA, Wl.map encB)) (by simp)).1 k _ (encB_at Wl k (by rw [HWn.out]; exact hlt))
                    have F : Below v1.heap.size v1 v1.drew := (Below.refl _ _).drew
                    as_aux_lemma =>
                      refine wp_region_held_drew (S := (fun w' => (w'.cell? ⟨gA, k, none⟩ = some (.int .u8 ((uAt Wl k).toNat : Int)) ∧ (convert 57 9 (.slice (some ⟨gb, 0, none⟩) 64 64)).run Try.prog w' = .ok (.string (txtB s)) w'))) (by kernel_rfl) (HXs.out _ F) (fun hHeld => ?_)
                      refine take_listed (i := 0) (v := ?_) rfl (by kernel_rfl) (by kernel_rfl) (by kernel_rfl) (fun _ _ _ h => h) (Or.inl ⟨by rfl, ?_⟩) (by assumption) ?_
                      rotate_left
                      · intro w hSw
                        (try dsimp only at hSw)
                        go_simp
                        all_goals with_reducible rfl
                      simp only [Act.put, List.setIfInBounds_toArray, List.set_cons_zero, List.set_cons_succ]
                      refine take_listed (i := 1) (v := ?_) rfl (by kernel_rfl) (by kernel_rfl) (by kernel_rfl) (fun _ _ _ h => h) (Or.inl ⟨by rfl, ?_⟩) (by assumption) ?_
                      rotate_left
                      · intro w hSw
                        (try dsimp only at hSw)
                        go_simp
                        all_goals with_reducible rfl
                      simp only [Act.put, List.setIfInBounds_toArray, List.set_cons_zero, List.set_cons_succ]
                      refine take_listed (i := 2) (v := ?_) rfl (by kernel_rfl) (by kernel_rfl) (by kernel_rfl) (fun _ _ _ h => h) (Or.inl ⟨by rfl, ?_⟩) (by assumption) ?_
                      rotate_left
                      · intro w hSw
                        (try dsimp only at hSw)
                        go_simp
                        all_goals with_reducible rfl
                      simp only [Act.put, List.setIfInBounds_toArray, List.set_cons_zero, List.set_cons_succ]
                      refine take_listed (i := 3) (v := ?_) rfl (by kernel_rfl) (by kernel_rfl) (by kernel_rfl) (fun _ _ _ h => h) (Or.inl ⟨by rfl, ?_⟩) (by assumption) ?_
                      rotate_left
                      · intro w hSw
                        (try dsimp only at hSw)
                        go_simp
                        all_goals with_reducible rfl
                      simp only [Act.put, List.setIfInBounds_toArray, List.set_cons_zero, List.set_cons_succ]
                      refine take_listed (i := 4) (v := ?_) rfl (by kernel_rfl) (by kernel_rfl) (by kernel_rfl) (fun _ _ _ h => h) (Or.inl ⟨by rfl, ?_⟩) (by assumption) ?_
                      rotate_left
                      · intro w hSw
                        (try dsimp only at hSw)
                        go_simp
                        all_goals with_reducible rfl
                      simp only [Act.put, List.setIfInBounds_toArray, List.set_cons_zero, List.set_cons_succ]
                      refine wpAnyH_ready (rs := [5]) (by kernel_rfl) (by simp) ?_
                      refine AllReadyH.cons rfl (fun K hK => ?_) AllReadyH.nil
                      go_simp
                      refine (full_lit (uAt Wl k) _ rfl _).mono ?_
                      rintro e x1 ⟨f1, rfl, hr, hb⟩
                      have tF : (convert 57 9 (.slice (some ⟨f1, 0, none⟩) 64 64)).run Try.prog x1 = .ok (.string (txtB (fullB (uAt Wl k)))) x1 := text64 hr (fullB_len _)
                      replace F := below_on F hb
                      clear hr hb
                      refine hK.out _ _ (HXs.out _ F) (fun hHeld => ?_)
                      clear hK K
                      try simp only [Act.put, List.setIfInBounds_toArray, List.set_cons_zero, List.set_cons_succ]
                      refine wpAnyH_ready (rs := [6]) (by kernel_rfl) (by simp) ?_
                      refine AllReadyH.cons rfl (fun K hK => ?_) AllReadyH.nil
                      go_simp
                      refine hK.out _ _ (HXs.out _ F) (fun hHeld => ?_)
                      clear hK K
                      try simp only [Act.put, List.setIfInBounds_toArray, List.set_cons_zero, List.set_cons_succ]
                      refine take_listed (i := 7) (v := ?_) rfl (by kernel_rfl) (by kernel_rfl) (by kernel_rfl) (fun _ _ _ h => h) (Or.inl ⟨by rfl, ?_⟩) (by assumption) ?_
                      rotate_left
                      · intro w hSw
                        (try dsimp only at hSw)
                        go_simp
                        all_goals with_reducible rfl
                      simp only [Act.put, List.setIfInBounds_toArray, List.set_cons_zero, List.set_cons_succ]
                      refine take_listed (i := 8) (v := ?_) rfl (by kernel_rfl) (by kernel_rfl) (by kernel_rfl) (fun _ _ _ h => h) (Or.inl ⟨by rfl, ?_⟩) (by assumption) ?_
                      rotate_left
                      · intro w hSw
                        (try dsimp only at hSw)
                        go_simp
                        all_goals with_reducible rfl
                      simp only [Act.put, List.setIfInBounds_toArray, List.set_cons_zero, List.set_cons_succ]
                      clear hHeld
                      refine wpAnyH_done (by kernel_rfl) ?_ _
                      have HF := Lib.hid F
                      clear F
                      obtain ⟨b0, hb0⟩ : ∃ b, b = ((txtB s).toList == (txtB (fullB (uAt Wl k))).toList) := ⟨_, rfl⟩
                      rw [← hb0]
                      have HEn : Hid (fineB s b0 k l2 = true) := by rw [Hid, hb0]; exact fine_end HEnd.out
                      have HJ0 := Lib.hid (HS1.out.on HF.out)
                      clear hb0
                      go_wp2_with fail
                      go_loopw [20, 21] (fun vf vi wr => ∃ i : Nat, i ≤ n2 ∧ vi = .int .i64 i ∧ vf = .bool (fineB s b0 k (l2.take i)) ∧ Hid (DSt w wr p (dsk [] L1) [(gb, s.map encB), (gA, Wl.map encB)])) (fun _ vi _ => n2 - (intOf vi).toNat)
                      case atStart => exact ⟨0, Nat.zero_le _, rfl, by simp [fineB], HJ0.out⟩
                      case round =>
                        obtain ⟨i, hi, rfl, rfl, HJ⟩ := hrel
                        by_cases hlt2 : i < n2
                        · have hltI2 : (i : Int) < (n2 : Int) := by omega
                          obtain ⟨x, hx⟩ : ∃ x, l2[i]? = some x := ⟨_, List.getElem?_eq_getElem (by have := HN2.out.1; omega)⟩
                          obtain ⟨g, o, rfl⟩ := (HR2.out wr HJ.out.below).some hx
                          have HXw : Hid (∀ w', Below wr.heap.size wr w' → (w'.cell? ⟨g, o + i * 2, none⟩ = some (.int .u8 (x.1.toNat : Int)) ∧ w'.cell? ⟨g, o + i * 2 + 1, none⟩ = some (.int .u8 (x.2.toNat : Int)) ∧ (convert 57 9 (.slice (some ⟨gb, 0, none⟩) 64 64)).run Try.prog w' = .ok (.string (txtB s)) w')) := fun w' hb => by
                            have h := (HR2.out w' (below_on HJ.out.below hb)).at hx
                            exact ⟨h.2.1, h.2.2, (HJ.out.on hb).text (g := gb) (s := s) (by simp) HL64.out⟩
                          have HFs := Lib.hid (fine_step (s := s) (b0 := b0) (k := k) hx)
                          have hN := HN2.out.2
                          clear hx
                          cases hf : fineB s b0 k (l2.take i)
                          · rw [hf] at HFs
                            clear hf
                            by_cases hkk : ((secK x.1 : Nat) : Int) = (k : Int)
                            · have HFs2 : Hid (fineB s b0 k (l2.take (i + 1)) = ((txtB s).toList == (txtB (fullB x.2)).toList)) := by rw [Hid, HFs.out, hkk]; simp
                              have hkw := k5w x.1
                              have hke : (((secK x.1 : Nat) : Int) == (k : Int)) = true := by simpa using hkk
                              go_upto_region 35 with fail
                              have F : Below wr.heap.size wr wr.drew := (Below.refl _ _).drew
                              as_aux_lemma =>
                                refine wp_region_held_drew (S := (fun w' => (w'.cell? ⟨g, o + i * 2, none⟩ = some (.int .u8 (x.1.toNat : Int)) ∧ w'.cell? ⟨g, o + i * 2 + 1, none⟩ = some (.int .u8 (x.2.toNat : Int)) ∧ (convert 57 9 (.slice (some ⟨gb, 0, none⟩) 64 64)).run Try.prog w' = .ok (.string (txtB s)) w'))) (by kernel_rfl) (HXw.out _ F) (fun hHeld => ?_)
                                refine take_listed (i := 0) (v := ?_) rfl (by kernel_rfl) (by kernel_rfl) (by kernel_rfl) (fun _ _ _ h => h) (Or.inl ⟨by rfl, ?_⟩) (by assumption) ?_
                                rotate_left
                                · intro w hSw
                                  (try dsimp only at hSw)
                                  go_simp
                                  all_goals with_reducible rfl
                                simp only [Act.put, List.setIfInBounds_toArray, List.set_cons_zero, List.set_cons_succ]
                                refine take_listed (i := 1) (v := ?_) rfl (by kernel_rfl) (by kernel_rfl) (by kernel_rfl) (fun _ _ _ h => h) (Or.inl ⟨by rfl, ?_⟩) (by assumption) ?_
                                rotate_left
                                · intro w hSw
                                  (try dsimp only at hSw)
                                  go_simp
                                  all_goals with_reducible rfl
                                simp only [Act.put, List.setIfInBounds_toArray, List.set_cons_zero, List.set_cons_succ]
                                refine take_listed (i := 2) (v := ?_) rfl (by kernel_rfl) (by kernel_rfl) (by kernel_rfl) (fun _ _ _ h => h) (Or.inl ⟨by rfl, ?_⟩) (by assumption) ?_
                                rotate_left
                                · intro w hSw
                                  (try dsimp only at hSw)
                                  go_simp
                                  all_goals with_reducible rfl
                                simp only [Act.put, List.setIfInBounds_toArray, List.set_cons_zero, List.set_cons_succ]
                                refine take_listed (i := 3) (v := ?_) rfl (by kernel_rfl) (by kernel_rfl) (by kernel_rfl) (fun _ _ _ h => h) (Or.inl ⟨by rfl, ?_⟩) (by assumption) ?_
                                rotate_left
                                · intro w hSw
                                  (try dsimp only at hSw)
                                  go_simp
                                  all_goals with_reducible rfl
                                simp only [Act.put, List.setIfInBounds_toArray, List.set_cons_zero, List.set_cons_succ]
                                refine take_listed (i := 4) (v := ?_) rfl (by kernel_rfl) (by kernel_rfl) (by kernel_rfl) (fun _ _ _ h => h) (Or.inl ⟨by rfl, ?_⟩) (by assumption) ?_
                                rotate_left
                                · intro w hSw
                                  (try dsimp only at hSw)
                                  go_simp
                                  all_goals with_reducible rfl
                                simp only [Act.put, List.setIfInBounds_toArray, List.set_cons_zero, List.set_cons_succ]
                                refine take_listed (i := 5) (v := ?_) rfl (by kernel_rfl) (by kernel_rfl) (by kernel_rfl) (fun _ _ _ h => h) (Or.inl ⟨by rfl, ?_⟩) (by assumption) ?_
                                rotate_left
                                · intro w hSw
                                  (try dsimp only at hSw)
                                  go_simp
                                  all_goals with_reducible rfl
                                simp only [Act.put, List.setIfInBounds_toArray, List.set_cons_zero, List.set_cons_succ]
                                refine take_listed (i := 6) (v := ?_) rfl (by kernel_rfl) (by kernel_rfl) (by kernel_rfl) (fun _ _ _ h => h) (Or.inl ⟨by rfl, ?_⟩) (by assumption) ?_
                                rotate_left
                                · intro w hSw
                                  (try dsimp only at hSw)
                                  go_simp
                                  all_goals with_reducible rfl
                                simp only [Act.put, List.setIfInBounds_toArray, List.set_cons_zero, List.set_cons_succ]
                                refine take_listed (i := 7) (v := ?_) rfl (by kernel_rfl) (by kernel_rfl) (by kernel_rfl) (fun _ _ _ h => h) (Or.inl ⟨by rfl, ?_⟩) (by assumption) ?_
                                rotate_left
                                · intro w hSw
                                  (try dsimp only at hSw)
                                  go_simp
                                  all_goals with_reducible rfl
                                simp only [Act.put, List.setIfInBounds_toArray, List.set_cons_zero, List.set_cons_succ]
                                refine take_listed (i := 8) (v := ?_) rfl (by kernel_rfl) (by kernel_rfl) (by kernel_rfl) (fun _ _ _ h => h) (Or.inl ⟨by rfl, ?_⟩) (by assumption) ?_
                                rotate_left
                                · intro w hSw
                                  (try dsimp only at hSw)
                                  go_simp
                                  all_goals with_reducible rfl
                                simp only [Act.put, List.setIfInBounds_toArray, List.set_cons_zero, List.set_cons_succ]
                                refine take_listed (i := 9) (v := ?_) rfl (by kernel_rfl) (by kernel_rfl) (by kernel_rfl) (fun _ _ _ h => h) (Or.inl ⟨by rfl, ?_⟩) (by assumption) ?_
                                rotate_left
                                · intro w hSw
                                  (try dsimp only at hSw)
                                  go_simp
                                  all_goals with_reducible rfl
                                simp only [Act.put, List.setIfInBounds_toArray, List.set_cons_zero, List.set_cons_succ]
                                refine take_listed (i := 10) (v := ?_) rfl (by kernel_rfl) (by kernel_rfl) (by kernel_rfl) (fun _ _ _ h => h) (Or.inl ⟨by rfl, ?_⟩) (by assumption) ?_
                                rotate_left
                                · intro w hSw
                                  (try dsimp only at hSw)
                                  go_simp
                                  all_goals with_reducible rfl
                                simp only [Act.put, List.setIfInBounds_toArray, List.set_cons_zero, List.set_cons_succ]
                                refine take_listed (i := 11) (v := ?_) rfl (by kernel_rfl) (by kernel_rfl) (by kernel_rfl) (fun _ _ _ h => h) (Or.inl ⟨by rfl, ?_⟩) (by assumption) ?_
                                rotate_left
                                · intro w hSw
                                  (try dsimp only at hSw)
                                  go_simp
                                  all_goals with_reducible rfl
                                simp only [Act.put, List.setIfInBounds_toArray, List.set_cons_zero, List.set_cons_succ]
                                refine take_listed (i := 12) (v := ?_) rfl (by kernel_rfl) (by kernel_rfl) (by kernel_rfl) (fun _ _ _ h => h) (Or.inl ⟨by rfl, ?_⟩) (by assumption) ?_
                                rotate_left
                                · intro w hSw
                                  (try dsimp only at hSw)
                                  go_simp
                                  all_goals with_reducible rfl
                                simp only [Act.put, List.setIfInBounds_toArray, List.set_cons_zero, List.set_cons_succ]
                                refine take_listed (i := 13) (v := ?_) rfl (by kernel_rfl) (by kernel_rfl) (by kernel_rfl) (fun _ _ _ h => h) (Or.inl ⟨by rfl, ?_⟩) (by assumption) ?_
                                rotate_left
                                · intro w hSw
                                  (try dsimp only at hSw)
                                  go_simp
                                  all_goals with_reducible rfl
                                simp only [Act.put, List.setIfInBounds_toArray, List.set_cons_zero, List.set_cons_succ]
                                refine take_listed (i := 14) (v := ?_) rfl (by kernel_rfl) (by kernel_rfl) (by kernel_rfl) (fun _ _ _ h => h) (Or.inl ⟨by rfl, ?_⟩) (by assumption) ?_
                                rotate_left
                                · intro w hSw
                                  (try dsimp only at hSw)
                                  go_simp
                                  all_goals with_reducible rfl
                                simp only [Act.put, List.setIfInBounds_toArray, List.set_cons_zero, List.set_cons_succ]
                                refine take_listed (i := 15) (v := ?_) rfl (by kernel_rfl) (by kernel_rfl) (by kernel_rfl) (fun _ _ _ h => h) (Or.inl ⟨by rfl, ?_⟩) (by assumption) ?_
                                rotate_left
                                · intro w hSw
                                  (try dsimp only at hSw)
                                  go_simp
                                  all_goals with_reducible rfl
                                simp only [Act.put, List.setIfInBounds_toArray, List.set_cons_zero, List.set_cons_succ]
                                refine take_listed (i := 16) (v := ?_) rfl (by kernel_rfl) (by kernel_rfl) (by kernel_rfl) (fun _ _ _ h => h) (Or.inl ⟨by rfl, ?_⟩) (by assumption) ?_
                                rotate_left
                                · intro w hSw
                                  (try dsimp only at hSw)
                                  go_simp
                                  all_goals with_reducible rfl
                                simp only [Act.put, List.setIfInBounds_toArray, List.set_cons_zero, List.set_cons_succ]
                                refine take_listed (i := 17) (v := ?_) rfl (by kernel_rfl) (by kernel_rfl) (by kernel_rfl) (fun _ _ _ h => h) (Or.inl ⟨by rfl, ?_⟩) (by assumption) ?_
                                rotate_left
                                · intro w hSw
                                  (try dsimp only at hSw)
                                  go_simp
                                  all_goals with_reducible rfl
                                simp only [Act.put, List.setIfInBounds_toArray, List.set_cons_zero, List.set_cons_succ]
                                refine take_listed (i := 18) (v := ?_) rfl (by kernel_rfl) (by kernel_rfl) (by kernel_rfl) (fun _ _ _ h => h) (Or.inl ⟨by rfl, ?_⟩) (by assumption) ?_
                                rotate_left
                                · intro w hSw
                                  (try dsimp only at hSw)
                                  go_simp
                                  all_goals with_reducible rfl
                                simp only [Act.put, List.setIfInBounds_toArray, List.set_cons_zero, List.set_cons_succ]
                                refine wpAnyH_ready (rs := [19]) (by kernel_rfl) (by simp) ?_
                                refine AllReadyH.cons rfl (fun K hK => ?_) AllReadyH.nil
                                go_simp
                                refine (full_lit x.2 _ rfl _).mono ?_
                                rintro e x1 ⟨f1, rfl, hr, hb⟩
                                have tF : (convert 57 9 (.slice (some ⟨f1, 0, none⟩) 64 64)).run Try.prog x1 = .ok (.string (txtB (fullB x.2))) x1 := text64 hr (fullB_len _)
                                replace F := below_on F hb
                                clear hr hb
                                refine hK.out _ _ (HXw.out _ F) (fun hHeld => ?_)
                                clear hK K
                                try simp only [Act.put, List.setIfInBounds_toArray, List.set_cons_zero, List.set_cons_succ]
                                refine wpAnyH_ready (rs := [20]) (by kernel_rfl) (by simp) ?_
                                refine AllReadyH.cons rfl (fun K hK => ?_) AllReadyH.nil
                                go_simp
                                refine hK.out _ _ (HXw.out _ F) (fun hHeld => ?_)
                                clear hK K
                                try simp only [Act.put, List.setIfInBounds_toArray, List.set_cons_zero, List.set_cons_succ]
                                refine take_listed (i := 21) (v := ?_) rfl (by kernel_rfl) (by kernel_rfl) (by kernel_rfl) (fun _ _ _ h => h) (Or.inl ⟨by rfl, ?_⟩) (by assumption) ?_
                                rotate_left
                                · intro w hSw
                                  (try dsimp only at hSw)
                                  go_simp
                                  all_goals with_reducible rfl
                                simp only [Act.put, List.setIfInBounds_toArray, List.set_cons_zero, List.set_cons_succ]
                                refine take_listed (i := 22) (v := ?_) rfl (by kernel_rfl) (by kernel_rfl) (by kernel_rfl) (fun _ _ _ h => h) (Or.inl ⟨by rfl, ?_⟩) (by assumption) ?_
                                rotate_left
                                · intro w hSw
                                  (try dsimp only at hSw)
                                  go_simp
                                  all_goals with_reducible rfl
                                simp only [Act.put, List.setIfInBounds_toArray, List.set_cons_zero, List.set_cons_succ]
                                refine take_listed (i := 23) (v := ?_) rfl (by kernel_rfl) (by kernel_rfl) (by kernel_rfl) (fun _ _ _ h => h) (Or.inl ⟨by rfl, ?_⟩) (by assumption) ?_
                                rotate_left
                                · intro w hSw
                                  (try dsimp only at hSw)
                                  go_simp
                                  all_goals with_reducible rfl
                                simp only [Act.put, List.setIfInBounds_toArray, List.set_cons_zero, List.set_cons_succ]
                                refine take_listed (i := 24) (v := ?_) rfl (by kernel_rfl) (by kernel_rfl) (by kernel_rfl) (fun _ _ _ h => h) (Or.inl ⟨by rfl, ?_⟩) (by assumption) ?_
                                rotate_left
                                · intro w hSw
                                  (try dsimp only at hSw)
                                  go_simp
                                  all_goals with_reducible rfl
                                simp only [Act.put, List.setIfInBounds_toArray, List.set_cons_zero, List.set_cons_succ]
                                clear hHeld
                                refine wpAnyH_done (by kernel_rfl) ?_ _
                                have HF := Lib.hid F
                                clear F
                                have hk1 : i + 1 ≤ n2 := hlt2
                                have hms := m1 hlt2
                                have HSn := Lib.hid (HJ.out.on HF.out)
                                go_wp2_with fail
                                go_roundw
                                case rel => exact ⟨i + 1, hk1, rfl, by rw [HFs2.out], HSn.out⟩
                                case measure => exact hms
                            · have HFs2 : Hid (fineB s b0 k (l2.take (i + 1)) = false) := by rw [Hid, HFs.out]; simp [hkk]
                              have hkb : (((secK x.1 : Nat) : Int) == (k : Int)) = false := by simpa using hkk
                              have hkw := k5w x.1
                              go_upto_region 35 with fail
                              have F : Below wr.heap.size wr wr.drew := (Below.refl _ _).drew
                              as_aux_lemma =>
                                refine wp_region_held_drew (S := (fun w' => (w'.cell? ⟨g, o + i * 2, none⟩ = some (.int .u8 (x.1.toNat : Int)) ∧ w'.cell? ⟨g, o + i * 2 + 1, none⟩ = some (.int .u8 (x.2.toNat : Int)) ∧ (convert 57 9 (.slice (some ⟨gb, 0, none⟩) 64 64)).run Try.prog w' = .ok (.string (txtB s)) w'))) (by kernel_rfl) (HXw.out _ F) (fun hHeld => ?_)
                                refine take_listed (i := 0) (v := ?_) rfl (by kernel_rfl) (by kernel_rfl) (by kernel_rfl) (fun _ _ _ h => h) (Or.inl ⟨by rfl, ?_⟩) (by assumption) ?_
                                rotate_left
                                · intro w hSw
                                  (try dsimp only at hSw)
                                  go_simp
                                  all_goals with_reducible rfl
                                simp only [Act.put, List.setIfInBounds_toArray, List.set_cons_zero, List.set_cons_succ]
                                refine take_listed (i := 1) (v := ?_) rfl (by kernel_rfl) (by kernel_rfl) (by kernel_rfl) (fun _ _ _ h => h) (Or.inl ⟨by rfl, ?_⟩) (by assumption) ?_
                                rotate_left
                                · intro w hSw
                                  (try dsimp only at hSw)
                                  go_simp
                                  all_goals with_reducible rfl
                                simp only [Act.put, List.setIfInBounds_toArray, List.set_cons_zero, List.set_cons_succ]
                                refine take_listed (i := 2) (v := ?_) rfl (by kernel_rfl) (by kernel_rfl) (by kernel_rfl) (fun _ _ _ h => h) (Or.inl ⟨by rfl, ?_⟩) (by assumption) ?_
                                rotate_left
                                · intro w hSw
                                  (try dsimp only at hSw)
                                  go_simp
                                  all_goals with_reducible rfl
                                simp only [Act.put, List.setIfInBounds_toArray, List.set_cons_zero, List.set_cons_succ]
                                refine take_listed (i := 3) (v := ?_) rfl (by kernel_rfl) (by kernel_rfl) (by kernel_rfl) (fun _ _ _ h => h) (Or.inl ⟨by rfl, ?_⟩) (by assumption) ?_
                                rotate_left
                                · intro w hSw
                                  (try dsimp only at hSw)
                                  go_simp
                                  all_goals with_reducible rfl
                                simp only [Act.put, List.setIfInBounds_toArray, List.set_cons_zero, List.set_cons_succ]
                                refine take_listed (i := 4) (v := ?_) rfl (by kernel_rfl) (by kernel_rfl) (by kernel_rfl) (fun _ _ _ h => h) (Or.inl ⟨by rfl, ?_⟩) (by assumption) ?_
                                rotate_left
                                · intro w hSw
                                  (try dsimp only at hSw)
                                  go_simp
                                  all_goals with_reducible rfl
                                simp only [Act.put, List.setIfInBounds_toArray, List.set_cons_zero, List.set_cons_succ]
                                refine take_listed (i := 5) (v := ?_) rfl (by kernel_rfl) (by kernel_rfl) (by kernel_rfl) (fun _ _ _ h => h) (Or.inl ⟨by rfl, ?_⟩) (by assumption) ?_
                                rotate_left
                                · intro w hSw
                                  (try dsimp only at hSw)
                                  go_simp
                                  all_goals with_reducible rfl
                                simp only [Act.put, List.setIfInBounds_toArray, List.set_cons_zero, List.set_cons_succ]
                                refine take_listed (i := 6) (v := ?_) rfl (by kernel_rfl) (by kernel_rfl) (by kernel_rfl) (fun _ _ _ h => h) (Or.inl ⟨by rfl, ?_⟩) (by assumption) ?_
                                rotate_left
                                · intro w hSw
                                  (try dsimp only at hSw)
                                  go_simp
                                  all_goals with_reducible rfl
                                simp only [Act.put, List.setIfInBounds_toArray, List.set_cons_zero, List.set_cons_succ]
                                refine take_listed (i := 7) (v := ?_) rfl (by kernel_rfl) (by kernel_rfl) (by kernel_rfl) (fun _ _ _ h => h) (Or.inl ⟨by rfl, ?_⟩) (by assumption) ?_
                                rotate_left
                                · intro w hSw
                                  (try dsimp only at hSw)
                                  go_simp
                                  all_goals with_reducible rfl
                                simp only [Act.put, List.setIfInBounds_toArray, List.set_cons_zero, List.set_cons_succ]
                                refine take_listed (i := 8) (v := ?_) rfl (by kernel_rfl) (by kernel_rfl) (by kernel_rfl) (fun _ _ _ h => h) (Or.inl ⟨by rfl, ?_⟩) (by assumption) ?_
                                rotate_left
                                · intro w hSw
                                  (try dsimp only at hSw)
                                  go_simp
                                  all_goals with_reducible rfl
                                simp only [Act.put, List.setIfInBounds_toArray, List.set_cons_zero, List.set_cons_succ]
                                refine take_listed (i := 9) (v := ?_) rfl (by kernel_rfl) (by kernel_rfl) (by kernel_rfl) (fun _ _ _ h => h) (Or.inl ⟨by rfl, ?_⟩) (by assumption) ?_
                                rotate_left
                                · intro w hSw
                                  (try dsimp only at hSw)
                                  go_simp
                                  all_goals with_reducible rfl
                                simp only [Act.put, List.setIfInBounds_toArray, List.set_cons_zero, List.set_cons_succ]
                                refine take_listed (i := 10) (v := ?_) rfl (by kernel_rfl) (by kernel_rfl) (by kernel_rfl) (fun _ _ _ h => h) (Or.inl ⟨by rfl, ?_⟩) (by assumption) ?_
                                rotate_left
                                · intro w hSw
                                  (try dsimp only at hSw)
                                  go_simp
                                  all_goals with_reducible rfl
                                simp only [Act.put, List.setIfInBounds_toArray, List.set_cons_zero, List.set_cons_succ]
                                refine take_listed (i := 11) (v := ?_) rfl (by kernel_rfl) (by kernel_rfl) (by kernel_rfl) (fun _ _ _ h => h) (Or.inl ⟨by rfl, ?_⟩) (by assumption) ?_
                                rotate_left
                                · intro w hSw
                                  (try dsimp only at hSw)
                                  go_simp
                                  all_goals with_reducible rfl
                                simp only [Act.put, List.setIfInBounds_toArray, List.set_cons_zero, List.set_cons_succ]
                                refine take_listed (i := 12) (v := undef) rfl (by kernel_rfl) (by kernel_rfl) (by kernel_rfl) (fun _ _ _ h => h) (Or.inr ⟨by rfl, rfl⟩) (by assumption) ?_
                                simp only [Act.put, List.setIfInBounds_toArray, List.set_cons_zero, List.set_cons_succ]
                                refine take_listed (i := 13) (v := undef) rfl (by kernel_rfl) (by kernel_rfl) (by kernel_rfl) (fun _ _ _ h => h) (Or.inr ⟨by rfl, rfl⟩) (by assumption) ?_
                                simp only [Act.put, List.setIfInBounds_toArray, List.set_cons_zero, List.set_cons_succ]
                                refine take_listed (i := 14) (v := undef) rfl (by kernel_rfl) (by kernel_rfl) (by kernel_rfl) (fun _ _ _ h => h) (Or.inr ⟨by rfl, rfl⟩) (by assumption) ?_
                                simp only [Act.put, List.setIfInBounds_toArray, List.set_cons_zero, List.set_cons_succ]
                                refine take_listed (i := 15) (v := undef) rfl (by kernel_rfl) (by kernel_rfl) (by kernel_rfl) (fun _ _ _ h => h) (Or.inr ⟨by rfl, rfl⟩) (by assumption) ?_
                                simp only [Act.put, List.setIfInBounds_toArray, List.set_cons_zero, List.set_cons_succ]
                                refine take_listed (i := 16) (v := undef) rfl (by kernel_rfl) (by kernel_rfl) (by kernel_rfl) (fun _ _ _ h => h) (Or.inr ⟨by rfl, rfl⟩) (by assumption) ?_
                                simp only [Act.put, List.setIfInBounds_toArray, List.set_cons_zero, List.set_cons_succ]
                                refine take_listed (i := 17) (v := undef) rfl (by kernel_rfl) (by kernel_rfl) (by kernel_rfl) (fun _ _ _ h => h) (Or.inr ⟨by rfl, rfl⟩) (by assumption) ?_
                                simp only [Act.put, List.setIfInBounds_toArray, List.set_cons_zero, List.set_cons_succ]
                                refine take_listed (i := 18) (v := undef) rfl (by kernel_rfl) (by kernel_rfl) (by kernel_rfl) (fun _ _ _ h => h) (Or.inr ⟨by rfl, rfl⟩) (by assumption) ?_
                                simp only [Act.put, List.setIfInBounds_toArray, List.set_cons_zero, List.set_cons_succ]
                                refine take_listed (i := 19) (v := undef) rfl (by kernel_rfl) (by kernel_rfl) (by kernel_rfl) (fun _ _ _ h => h) (Or.inr ⟨by rfl, rfl⟩) (by assumption) ?_
                                simp only [Act.put, List.setIfInBounds_toArray, List.set_cons_zero, List.set_cons_succ]
                                refine take_listed (i := 20) (v := undef) rfl (by kernel_rfl) (by kernel_rfl) (by kernel_rfl) (fun _ _ _ h => h) (Or.inr ⟨by rfl, rfl⟩) (by assumption) ?_
                                simp only [Act.put, List.setIfInBounds_toArray, List.set_cons_zero, List.set_cons_succ]
                                refine take_listed (i := 21) (v := undef) rfl (by kernel_rfl) (by kernel_rfl) (by kernel_rfl) (fun _ _ _ h => h) (Or.inr ⟨by rfl, rfl⟩) (by assumption) ?_
                                simp only [Act.put, List.setIfInBounds_toArray, List.set_cons_zero, List.set_cons_succ]
                                refine take_listed (i := 22) (v := ?_) rfl (by kernel_rfl) (by kernel_rfl) (by kernel_rfl) (fun _ _ _ h => h) (Or.inl ⟨by rfl, ?_⟩) (by assumption) ?_
                                rotate_left
                                · intro w hSw
                                  (try dsimp only at hSw)
                                  go_simp
                                  all_goals with_reducible rfl
                                simp only [Act.put, List.setIfInBounds_toArray, List.set_cons_zero, List.set_cons_succ]
                                refine take_listed (i := 23) (v := ?_) rfl (by kernel_rfl) (by kernel_rfl) (by kernel_rfl) (fun _ _ _ h => h) (Or.inl ⟨by rfl, ?_⟩) (by assumption) ?_
                                rotate_left
                                · intro w hSw
                                  (try dsimp only at hSw)
                                  go_simp
                                  all_goals with_reducible rfl
                                simp only [Act.put, List.setIfInBounds_toArray, List.set_cons_zero, List.set_cons_succ]
                                refine take_listed (i := 24) (v := ?_) rfl (by kernel_rfl) (by kernel_rfl) (by kernel_rfl) (fun _ _ _ h => h) (Or.inl ⟨by rfl, ?_⟩) (by assumption) ?_
                                rotate_left
                                · intro w hSw
                                  (try dsimp only at hSw)
                                  go_simp
                                  all_goals with_reducible rfl
                                simp only [Act.put, List.setIfInBounds_toArray, List.set_cons_zero, List.set_cons_succ]
                                clear hHeld
                                refine wpAnyH_done (by kernel_rfl) ?_ _
                                have HF := Lib.hid F
                                clear F
                                have hk1 : i + 1 ≤ n2 := hlt2
                                have hms := m1 hlt2
                                have HSn := Lib.hid (HJ.out.on HF.out)
                                go_wp2_with fail
                                go_roundw
                                case rel => exact ⟨i + 1, hk1, rfl, by rw [HFs2.out], HSn.out⟩
                                case measure => exact hms
                          · rw [hf] at HFs
                            clear hf
                            have HFs2 : Hid (fineB s b0 k (l2.take (i + 1)) = true) := by rw [Hid, HFs.out]; rfl
                            go_upto_region 35 with fail
                            have F : Below wr.heap.size wr wr.drew := (Below.refl _ _).drew
                            as_aux_lemma =>
                              refine wp_region_held_drew (S := (fun w' => (w'.cell? ⟨g, o + i * 2, none⟩ = some (.int .u8 (x.1.toNat : Int)) ∧ w'.cell? ⟨g, o + i * 2 + 1, none⟩ = some (.int .u8 (x.2.toNat : Int)) ∧ (convert 57 9 (.slice (some ⟨gb, 0, none⟩) 64 64)).run Try.prog w' = .ok (.string (txtB s)) w'))) (by kernel_rfl) (HXw.out _ F) (fun hHeld => ?_)
                              refine take_listed (i := 0) (v := ?_) rfl (by kernel_rfl) (by kernel_rfl) (by kernel_rfl) (fun _ _ _ h => h) (Or.inl ⟨by rfl, ?_⟩) (by assumption) ?_
                              rotate_left
                              · intro w hSw
                                (try dsimp only at hSw)
                                go_simp
                                all_goals with_reducible rfl
                              simp only [Act.put, List.setIfInBounds_toArray, List.set_cons_zero, List.set_cons_succ]
                              refine take_listed (i := 1) (v := ?_) rfl (by kernel_rfl) (by kernel_rfl) (by kernel_rfl) (fun _ _ _ h => h) (Or.inl ⟨by rfl, ?_⟩) (by assumption) ?_
                              rotate_left
                              · intro w hSw
                                (try dsimp only at hSw)
                                go_simp
                                all_goals with_reducible rfl
                              simp only [Act.put, List.setIfInBounds_toArray, List.set_cons_zero, List.set_cons_succ]
                              refine take_listed (i := 2) (v := undef) rfl (by kernel_rfl) (by kernel_rfl) (by kernel_rfl) (fun _ _ _ h => h) (Or.inr ⟨by rfl, rfl⟩) (by assumption) ?_
                              simp only [Act.put, List.setIfInBounds_toArray, List.set_cons_zero, List.set_cons_succ]
                              refine take_listed (i := 3) (v := undef) rfl (by kernel_rfl) (by kernel_rfl) (by kernel_rfl) (fun _ _ _ h => h) (Or.inr ⟨by rfl, rfl⟩) (by assumption) ?_
                              simp only [Act.put, List.setIfInBounds_toArray, List.set_cons_zero, List.set_cons_succ]
                              refine take_listed (i := 4) (v := undef) rfl (by kernel_rfl) (by kernel_rfl) (by kernel_rfl) (fun _ _ _ h => h) (Or.inr ⟨by rfl, rfl⟩) (by assumption) ?_
                              simp only [Act.put, List.setIfInBounds_toArray, List.set_cons_zero, List.set_cons_succ]
                              refine take_listed (i := 5) (v := undef) rfl (by kernel_rfl) (by kernel_rfl) (by kernel_rfl) (fun _ _ _ h => h) (Or.inr ⟨by rfl, rfl⟩) (by assumption) ?_
                              simp only [Act.put, List.setIfInBounds_toArray, List.set_cons_zero, List.set_cons_succ]
                              refine take_listed (i := 6) (v := undef) rfl (by kernel_rfl) (by kernel_rfl) (by kernel_rfl) (fun _ _ _ h => h) (Or.inr ⟨by rfl, rfl⟩) (by assumption) ?_
                              simp only [Act.put, List.setIfInBounds_toArray, List.set_cons_zero, List.set_cons_succ]
                              refine take_listed (i := 7) (v := undef) rfl (by kernel_rfl) (by kernel_rfl) (by kernel_rfl) (fun _ _ _ h => h) (Or.inr ⟨by rfl, rfl⟩) (by assumption) ?_
                              simp only [Act.put, List.setIfInBounds_toArray, List.set_cons_zero, List.set_cons_succ]
                              refine take_listed (i := 8) (v := undef) rfl (by kernel_rfl) (by kernel_rfl) (by kernel_rfl) (fun _ _ _ h => h) (Or.inr ⟨by rfl, rfl⟩) (by assumption) ?_
                              simp only [Act.put, List.setIfInBounds_toArray, List.set_cons_zero, List.set_cons_succ]
                              refine take_listed (i := 9) (v := undef) rfl (by kernel_rfl) (by kernel_rfl) (by kernel_rfl) (fun _ _ _ h => h) (Or.inr ⟨by rfl, rfl⟩) (by assumption) ?_
                              simp only [Act.put, List.setIfInBounds_toArray, List.set_cons_zero, List.set_cons_succ]
                              refine take_listed (i := 10) (v := undef) rfl (by kernel_rfl) (by kernel_rfl) (by kernel_rfl) (fun _ _ _ h => h) (Or.inr ⟨by rfl, rfl⟩) (by assumption) ?_
                              simp only [Act.put, List.setIfInBounds_toArray, List.set_cons_zero, List.set_cons_succ]
                              refine take_listed (i := 11) (v := undef) rfl (by kernel_rfl) (by kernel_rfl) (by kernel_rfl) (fun _ _ _ h => h) (Or.inr ⟨by rfl, rfl⟩) (by assumption) ?_
                              simp only [Act.put, List.setIfInBounds_toArray, List.set_cons_zero, List.set_cons_succ]
                              refine take_listed (i := 12) (v := undef) rfl (by kernel_rfl) (by kernel_rfl) (by kernel_rfl) (fun _ _ _ h => h) (Or.inr ⟨by rfl, rfl⟩) (by assumption) ?_
                              simp only [Act.put, List.setIfInBounds_toArray, List.set_cons_zero, List.set_cons_succ]
                              refine take_listed (i := 13) (v := undef) rfl (by kernel_rfl) (by kernel_rfl) (by kernel_rfl) (fun _ _ _ h => h) (Or.inr ⟨by rfl, rfl⟩) (by assumption) ?_
                              simp only [Act.put, List.setIfInBounds_toArray, List.set_cons_zero, List.set_cons_succ]
                              refine take_listed (i := 14) (v := undef) rfl (by kernel_rfl) (by kernel_rfl) (by kernel_rfl) (fun _ _ _ h => h) (Or.inr ⟨by rfl, rfl⟩) (by assumption) ?_
                              simp only [Act.put, List.setIfInBounds_toArray, List.set_cons_zero, List.set_cons_succ]
                              refine take_listed (i := 15) (v := undef) rfl (by kernel_rfl) (by kernel_rfl) (by kernel_rfl) (fun _ _ _ h => h) (Or.inr ⟨by rfl, rfl⟩) (by assumption) ?_
                              simp only [Act.put, List.setIfInBounds_toArray, List.set_cons_zero, List.set_cons_succ]
                              refine take_listed (i := 16) (v := undef) rfl (by kernel_rfl) (by kernel_rfl) (by kernel_rfl) (fun _ _ _ h => h) (Or.inr ⟨by rfl, rfl⟩) (by assumption) ?_
                              simp only [Act.put, List.setIfInBounds_toArray, List.set_cons_zero, List.set_cons_succ]
                              refine take_listed (i := 17) (v := undef) rfl (by kernel_rfl) (by kernel_rfl) (by kernel_rfl) (fun _ _ _ h => h) (Or.inr ⟨by rfl, rfl⟩) (by assumption) ?_
                              simp only [Act.put, List.setIfInBounds_toArray, List.set_cons_zero, List.set_cons_succ]
                              refine take_listed (i := 18) (v := undef) rfl (by kernel_rfl) (by kernel_rfl) (by kernel_rfl) (fun _ _ _ h => h) (Or.inr ⟨by rfl, rfl⟩) (by assumption) ?_
                              simp only [Act.put, List.setIfInBounds_toArray, List.set_cons_zero, List.set_cons_succ]
                              refine take_listed (i := 19) (v := undef) rfl (by kernel_rfl) (by kernel_rfl) (by kernel_rfl) (fun _ _ _ h => h) (Or.inr ⟨by rfl, rfl⟩) (by assumption) ?_
                              simp only [Act.put, List.setIfInBounds_toArray, List.set_cons_zero, List.set_cons_succ]
                              refine take_listed (i := 20) (v := undef) rfl (by kernel_rfl) (by kernel_rfl) (by kernel_rfl) (fun _ _ _ h => h) (Or.inr ⟨by rfl, rfl⟩) (by assumption) ?_
                              simp only [Act.put, List.setIfInBounds_toArray, List.set_cons_zero, List.set_cons_succ]
                              refine take_listed (i := 21) (v := undef) rfl (by kernel_rfl) (by kernel_rfl) (by kernel_rfl) (fun _ _ _ h => h) (Or.inr ⟨by rfl, rfl⟩) (by assumption) ?_
                              simp only [Act.put, List.setIfInBounds_toArray, List.set_cons_zero, List.set_cons_succ]
                              refine take_listed (i := 22) (v := undef) rfl (by kernel_rfl) (by kernel_rfl) (by kernel_rfl) (fun _ _ _ h => h) (Or.inr ⟨by rfl, rfl⟩) (by assumption) ?_
                              simp only [Act.put, List.setIfInBounds_toArray, List.set_cons_zero, List.set_cons_succ]
                              refine take_listed (i := 23) (v := ?_) rfl (by kernel_rfl) (by kernel_rfl) (by kernel_rfl) (fun _ _ _ h => h) (Or.inl ⟨by rfl, ?_⟩) (by assumption) ?_
                              rotate_left
                              · intro w hSw
                                (try dsimp only at hSw)
                                go_simp
                                all_goals with_reducible rfl
                              simp only [Act.put, List.setIfInBounds_toArray, List.set_cons_zero, List.set_cons_succ]
                              refine take_listed (i := 24) (v := ?_) rfl (by kernel_rfl) (by kernel_rfl) (by kernel_rfl) (fun _ _ _ h => h) (Or.inl ⟨by rfl, ?_⟩) (by assumption) ?_
                              rotate_left
                              · intro w hSw
                                (try dsimp only at hSw)
                                go_simp
                                all_goals with_reducible rfl
                              simp only [Act.put, List.setIfInBounds_toArray, List.set_cons_zero, List.set_cons_succ]
                              clear hHeld
                              refine wpAnyH_done (by kernel_rfl) ?_ _
                              have HF := Lib.hid F
                              clear F
                              have hk1 : i + 1 ≤ n2 := hlt2
                              have hms := m1 hlt2
                              have HSn := Lib.hid (HJ.out.on HF.out)
                              go_wp2_with fail
                              go_roundw
                              case rel => exact ⟨i + 1, hk1, rfl, by rw [HFs2.out], HSn.out⟩
                              case measure => exact hms
                        · have hin : n2 = i := by omega
                          subst hin
                          have hd : l2.take n2 = l2 := by rw [HN2.out.1, List.take_length]
                          rw [hd, HEn.out]
                          have HSn : Hid (DSt w wr p (dsk [] L1) [(gA, Wl.map encB)]) := HJ.out.sub fun r hr => List.mem_cons_of_mem _ hr
                          have hk1 : k + 1 ≤ 5 := hlt
                          have hms := m1 hlt
                          clear hd
                          go_wp2_with fail
                          go_roundw
                          case rel => exact ⟨k + 1, hk1, rfl, HSn.out⟩
                          case measure => exact hms
                  · obtain rfl : k = 5 := by omega
                    go_wp2_with fail
                    refine (dkworks_any wr).mono ?_
                    rintro e v1 ⟨rfl, hb⟩
                    have HBz := Lib.hid (below_on HI.out.below hb)
                    clear hb
                    go_wp2_with fail
                    go_ret
                    exact ⟨rfl, HBz.out⟩

end Go.Proofs.Ytnnonnnjhdpinaa
