/- Package rank: Same. -/
import Derived.Test.YthfndphngeaihaaDoorRkM
namespace Go.Proofs.YthfndphngeaihaaDoor
open Go Go.RowKit Go.Shelf
open Go.ChangeMaps (setBlock)
set_option linter.unusedSimpArgs false
set_option linter.unusedVariables false
set_option linter.unusedSectionVars false
set_option maxRecDepth 100000

attribute [local go_sem] Oper.semAt_some

theorem list_ne_at {α : Type} {l m : List α} (hl : l.length = m.length) {j : Nat} {x y : α} (hx : l[j]? = some x) (hy : m[j]? = some y) (hne : x ≠ y) : l ≠ m := by
  rintro rfl
  rw [hx] at hy
  injection hy with hy
  exact hne hy

set_option maxHeartbeats 2000000 in
theorem nmEqual_any (g c g' c' : Nat) (ns ns' : List Nm) (w : World) (hr : RowNs w g ns) (hr' : RowNs w g' ns') (hg : g < w.heap.size) (hg' : g' < w.heap.size) (hlen : ns.length ≤ 1000000) (hlen' : ns'.length ≤ 1000000) :
    Calls Tryd.prog 33 #[.slice (some ⟨g, 0, none⟩) ns.length c, .slice (some ⟨g', 0, none⟩) ns'.length c'] w fun e w' => e = .returned (.bool (decide (ns = ns'))) ∧ Below w.heap.size w w' := by
  obtain ⟨N, hN⟩ : ∃ N, N = ns.length := ⟨_, rfl⟩
  obtain ⟨N', hN'⟩ : ∃ N, N = ns'.length := ⟨_, rfl⟩
  have HR : Hid (∀ X, Below w.heap.size w X → RowNs X g ns ∧ RowNs X g' ns') := fun X hb => ⟨hr.kept (hb.block g hg), hr'.kept (hb.block g' hg')⟩
  have hNl : N ≤ 1000000 := by rw [hN]; exact hlen
  have hNl' : N' ≤ 1000000 := by rw [hN']; exact hlen'
  have HN := Lib.hid hN
  have HN' := Lib.hid hN'
  have heq := nmNe_bin
  rw [← hN, ← hN']
  clear hr hr' hg hg' hlen hlen' hN hN'
  go_enter Tryd.func33, Tryd.ntmps33
  by_cases hnn : N = N'
  · have HE := Lib.hid hnn
    subst hnn
    go_wp2_with fail
    go_loopw [13] (fun q wr => ∃ j : Nat, j ≤ N ∧ q = .int .i64 j ∧ Hid (Below w.heap.size w wr) ∧ Hid (∀ i, i < j → ns[i]? = ns'[i]?)) (fun q _ => N - (intOf q).toNat)
    case atStart => exact ⟨0, Nat.zero_le _, rfl, Below.refl _ _, fun i hi => absurd hi (Nat.not_lt_zero _)⟩
    case round =>
      rename_i wr hrel
      obtain ⟨j, hj, rfl, HB, HA⟩ := hrel
      rcases Nat.lt_or_ge j N with hjN | hjN
      · obtain ⟨x, hx⟩ : ∃ y, ns[j]? = some y := ⟨ns[j]'(by rw [← HN.out]; omega), List.getElem?_eq_getElem _⟩
        obtain ⟨y, hy⟩ : ∃ y, ns'[j]? = some y := ⟨ns'[j]'(by rw [← HN'.out]; omega), List.getElem?_eq_getElem _⟩
        obtain ⟨x0, x1, x2, x3⟩ := (HR.out wr HB.out).1 j x hx
        obtain ⟨r0, r1, r2, r3⟩ := (HR.out wr HB.out).2 j y hy
        have HX := Lib.hid hx
        have HY := Lib.hid hy
        clear hx hy
        by_cases hxy : x = y
        · have hdec : decide (x = y) = true := by simpa using hxy
          have HXY := Lib.hid hxy
          clear hxy
          go_upto_region 6 with fail
          go_quiet (fail)
          go_wp2_with fail
          go_roundw
          case rel =>
            refine ⟨j + 1, by omega, by go_num, below_dr HB.out _, fun i hi => ?_⟩
            rcases Nat.lt_or_ge i j with h | h
            · exact HA.out i h
            · obtain rfl : i = j := by omega
              rw [HX.out, HY.out, HXY.out]
          case measure => simp [intOf]; omega
        · have hdec : decide (x = y) = false := by simpa using hxy
          have HXY := Lib.hid hxy
          clear hxy
          go_upto_region 6 with fail
          go_quiet (fail)
          go_wp2_with fail
          go_ret
          refine ⟨?_, below_dr HB.out _⟩
          rw [decide_eq_false (list_ne_at (HN.out.symm.trans HN'.out) HX.out HY.out HXY.out)]
          rfl
      · obtain rfl : j = N := by omega
        go_wp2_with fail
        go_ret
        refine ⟨?_, HB.out⟩
        have : ns = ns' := List.ext_getElem? fun i => by
          rcases Nat.lt_or_ge i j with h | h
          · exact HA.out i h
          · rw [List.getElem?_eq_none (by rw [← HN.out]; exact h), List.getElem?_eq_none (by rw [← HN'.out]; exact h)]
        rw [decide_eq_true this]
        rfl
  · have hnz : ((N : Int) = (N' : Int)) = False := by simpa using fun h => hnn (by exact_mod_cast h)
    go_wp2_with fail
    go_ret
    refine ⟨?_, Below.refl _ _⟩
    have : ¬ ns = ns' := fun h => hnn (by rw [HN.out, HN'.out, h])
    rw [decide_eq_false this]
    rfl

theorem keys_perm {κ : Type} [DecidableEq κ] {l m : List (κ × Value)} (hl : (l.map (·.1)).Nodup) (hm : (m.map (·.1)).Nodup) (h : ∀ k, lk l k = none ↔ lk m k = none) : l.length = m.length := by
  have hk : ∀ {l : List (κ × Value)} (_ : (l.map (·.1)).Nodup) (k : κ), k ∈ l.map (·.1) ↔ lk l k ≠ none := fun {l} hl k => by
    constructor
    · intro hk he
      obtain ⟨p, hp, rfl⟩ := List.mem_map.1 hk
      exact lk_eq_none he hl p hp rfl
    · intro hne
      cases hv : lk l k with
      | none => exact absurd hv hne
      | some v => exact List.mem_map.2 ⟨_, lk_mem hv, rfl⟩
  have := ((List.perm_ext_iff_of_nodup hl hm).2 fun k => by rw [hk hl, hk hm, ne_eq, ne_eq, h k]).length_eq
  simpa using this
theorem mem_back {α : Type} [DecidableEq α] : ∀ {A B : List α}, A.Nodup → (∀ a ∈ A, a ∈ B) → B.length ≤ A.length → ∀ b ∈ B, b ∈ A
  | [], B, _, _, hl, b, hb => by
    have : B = [] := List.length_eq_zero_iff.1 (Nat.le_zero.1 hl)
    rw [this] at hb
    cases hb
  | a :: A, B, hn, hs, hl, b, hb => by
    obtain ⟨ha, hn⟩ := List.nodup_cons.1 hn
    have haB : a ∈ B := hs a List.mem_cons_self
    by_cases hab : b = a
    · rw [hab]; exact List.mem_cons_self
    · refine List.mem_cons_of_mem _ (mem_back hn (B := B.erase a) (fun x hx => ?_) ?_ b ((List.mem_erase_of_ne hab).2 hb))
      · exact (List.mem_erase_of_ne (fun (e : x = a) => ha (e ▸ hx))).2 (hs x (List.mem_cons_of_mem _ hx))
      · rw [List.length_erase_of_mem haB]
        simp only [List.length_cons] at hl
        omega
theorem keys_sub {κ : Type} [DecidableEq κ] {l m : List (κ × Value)} (hl : (l.map (·.1)).Nodup) (hm : (m.map (·.1)).Nodup) (hlen : l.length = m.length) (h : ∀ k, lk l k ≠ none → lk m k ≠ none) (k : κ) (hk : lk l k = none) : lk m k = none := by
  have hk' : ∀ {l : List (κ × Value)} (_ : (l.map (·.1)).Nodup) (k : κ), k ∈ l.map (·.1) ↔ lk l k ≠ none := fun {l} hl k => by
    constructor
    · intro hk he
      obtain ⟨p, hp, rfl⟩ := List.mem_map.1 hk
      exact lk_eq_none he hl p hp rfl
    · intro hne
      cases hv : lk l k with
      | none => exact absurd hv hne
      | some v => exact List.mem_map.2 ⟨_, lk_mem hv, rfl⟩
  have hs := mem_back hl (fun k hkm => (hk' hm k).2 (h k ((hk' hl k).1 hkm))) (by simp [hlen])
  cases hv : lk m k with
  | none => rfl
  | some v =>
    have h1 : k ∈ m.map (·.1) := (hk' hm k).2 (by rw [hv]; simp)
    exact absurd hk ((hk' hl k).1 (hs k h1))

theorem own_ptr {w : World} {B : Nat} {e : TypeId} {k : Nat} {v : Value} {n : Nat} {xs : List Value} (h : w.ownsRow B e k v n xs) (hn : 0 < n) : ∃ g cap, v = .slice (some ⟨g, 0, none⟩) n cap := by
  rcases h.2 with ⟨_, h⟩ | ⟨g, cap, _, h, _⟩
  · omega
  · exact ⟨g, cap, h⟩
theorem QsAt.pos {w : World} {lq : List (Qk × Value)} {D : List Wt} (h : QsAt w lq D) {q : Qk} {v : Value} (hq : lk lq q = some v) : 0 < (namesOf D q).length := by
  have h1 := h.1 q
  rw [hq] at h1
  cases hn : namesOf D q with
  | nil => rw [hn] at h1; simp at h1
  | cons a l => simp
theorem namesOf_len (D : List Wt) (q : Qk) : (namesOf D q).length ≤ D.length := by
  rw [namesOf, List.length_map]
  exact List.length_filter_le _ _

set_option maxHeartbeats 4000000 in
theorem eqFunc_any (b b' : Nat) (lq lq' : List (Qk × Value)) (D D' : List Wt) (w : World) (h : KMap encQk w b lq) (h' : KMap encQk w b' lq') (hq : QsAt w lq D) (hq' : QsAt w lq' D') (hlen : D.length ≤ 100000) (hlen' : D'.length ≤ 100000) :
    Calls Tryd.prog 32 #[.map (some b), .map (some b'), .func (.func 33) #[] #[]] w fun e w' => (∃ t : Bool, e = .returned (.bool t) ∧ (t = true ↔ ∀ q, namesOf D q = namesOf D' q)) ∧ Below w.heap.size w w' := by
  have HM := Lib.hid h
  have HM' := Lib.hid h'
  have HQ := Lib.hid hq
  have HQ' := Lib.hid hq'
  have HLe := Lib.hid hlen
  have HLe' := Lib.hid hlen'
  have hl1 := fun ty => h.len (P := Tryd.prog) Tryd.underlying59 ty
  have hl2 := fun ty => h'.len (P := Tryd.prog) Tryd.underlying59 ty
  by_cases hlq : lq.length = lq'.length
  · have HLQ := Lib.hid hlq
    obtain ⟨n, hn⟩ : ∃ n, n = lq.length := ⟨_, rfl⟩
    rw [← hlq] at hl2
    rw [← hn] at hl1 hl2
    clear hq hq' hlen hlen' hlq hn h'
    go_enter Tryd.func32, Tryd.ntmps32
    go_wp2_with (first
      | (at_range; refine wpList_range_K _ rfl _ 59 rfl _ _ Tryd.underlying59 b lq rfl h ?_; intro o7 hrg)
      | fail)
    go_frame
    obtain ⟨r, hr⟩ : ∃ r, r = w.heap.size := ⟨_, rfl⟩
    obtain ⟨W7, hW7⟩ : ∃ W, W = w.alloc o7 := ⟨_, rfl⟩
    rw [← hW7, ← hr] at hrg ⊢
    have HR7 : Hid (RngK encQk W7 b r lq lq) := hrg
    have HB7 : Hid (Below w.heap.size w W7) := by rw [Hid, hW7]; exact below_al (Below.refl _ _) _
    have HZ : Hid (r = w.heap.size) := hr
    clear hrg hr hW7 h hl1 hl2
    go_loopw [18] (fun _ wr => ∃ todo : List (Qk × Value), RngK encQk wr b r lq todo ∧ Hid ((∀ q, lk lq q ≠ none → lk todo q = none → namesOf D q = namesOf D' q) ∧ Below w.heap.size w wr)) (fun _ wr => wr.rangeLeft b r)
    case atStart => exact ⟨lq, HR7.out, fun q h1 h2 => absurd h2 h1, HB7.out⟩
    case round =>
      rename_i wr hrel
      obtain ⟨todo, c1, HI⟩ := hrel
      have HC1 := Lib.hid c1
      go_wp2_with (first
        | (at_next; refine wpList_next_K _ rfl _ rfl _ keyQk b r lq todo rfl c1 ?_ ?_)
        | fail)
      · intro ht
        have HT := Lib.hid ht
        clear ht c1
        go_wp2_with fail
        go_ret
        refine ⟨⟨true, rfl, fun _ q => ?_, fun _ => rfl⟩, HI.out.2⟩
        have hT := HT.out
        subst hT
        cases hl : lk lq q with
        | some v => exact HI.out.1 q (by rw [hl]; simp) rfl
        | none =>
          have h2 : lk lq' q = none := keys_sub HM.out.nodup HM'.out.nodup HLQ.out (fun k hk => ?_) q hl
          · rw [(HQ.out.1 q).1 hl, (HQ'.out.1 q).1 h2]
          · intro hk'
            refine hk ((HQ.out.1 k).2 ?_)
            rw [HI.out.1 k hk rfl]
            exact (HQ'.out.1 k).1 hk'
      · intro q v w1 o1 pre post hsp hw1 hrg1 hen
        have hlq : lk lq q = some v := lk_of_mem (HM.out.nodup) (c1.sub.subset (by rw [hsp]; simp))
        clear c1
        obtain ⟨We, hWe⟩ : ∃ W, W = setBlock w1 r o1 := ⟨_, rfl⟩
        rw [← hWe] at hrg1 ⊢
        have hrl := HC1.out.rlt
        have hbl : b < w.heap.size := HM.out.lt
        have hw1h : w1.heap = wr.heap ∧ Below w.heap.size w w1 := by
          rcases hw1 with rfl | rfl
          · exact ⟨rfl, HI.out.2⟩
          · exact ⟨rfl, HI.out.2.drew⟩
        have HWe : Hid (We.heap.size = wr.heap.size ∧ (∀ j, j ≠ r → We.heap[j]? = wr.heap[j]?) ∧ We.heap[r]? = some o1 ∧ Below w.heap.size w We) := by
          rw [Hid, hWe]
          refine ⟨by rw [setBlock_size, hw1h.1], fun j hj => by rw [setBlock_block _ _ _ _ hj, hw1h.1], heap_setBlock (by rw [hw1h.1]; exact hrl) o1, ?_⟩
          exact (ButS.setBlock (S := fun _ => False) (ButS.of_below hw1h.2) (.inr (by rw [HZ.out]; exact Nat.le_refl _)) o1).below (Nat.le_refl _) (fun k h => h.elim)
        have he := hen We (by rw [HWe.out.2.1 b (by have := HZ.out; omega)]) HWe.out.2.2.1
        unfold encQk at he
        have HRG := Lib.hid hrg1
        have HSP := Lib.hid hsp
        have HVq := Lib.hid hlq
        have HKX : Hid (∀ X, Below w.heap.size w X → KMap encQk X b' lq') := fun X hb => HM'.out.kept (hb.block _ HM'.out.lt)
        have hlk : ∀ X, Below w.heap.size w X → (Instr.lookup 59 (.map (some b')) (.agg #[.int .u32 q.node, .int .i64 q.rank]) true).run Tryd.prog X = .ok (.tuple #[(lk lq' q).getD (.slice none 0 0), .bool (lk lq' q).isSome]) X := fun X hb => (HKX.out X hb).look keyQk Tryd.underlying59 zeroNs q true
        have hsz := HWe.out.1
        clear hen hrg1 hsp hlq hw1 hw1h hWe w1
        have hB8 : Below w.heap.size w (We.alloc (.cells #[.int .u32 q.node, .int .i64 q.rank] 68)) := below_al HWe.out.2.2.2 _
        have hlk8 := hlk _ hB8
        have HB8 := Lib.hid hB8
        clear hlk hB8
        cases hv' : lk lq' q with
        | none =>
          rw [hv'] at hlk8
          simp only [Option.getD_none, Option.isSome_none] at hlk8
          have HV' := Lib.hid hv'
          clear hv'
          go_wp2_with fail
          go_ret
          refine ⟨⟨false, rfl, by simp, fun hall => ?_⟩, HB8.out⟩
          have h1 := (HQ'.out.1 q).1 HV'.out
          rw [← hall q] at h1
          have := (HQ.out.1 q).2 h1
          rw [HVq.out] at this
          cases this
        | some v' =>
          rw [hv'] at hlk8
          simp only [Option.getD_some, Option.isSome_some] at hlk8
          have HV' := Lib.hid hv'
          clear hv'
          go_wp2_with fail
          have ho := ownsRow_kept (HQ.out.2.1 q v HVq.out) fun j hj => HB8.out.block j (HQ.out.lt HVq.out hj)
          have ho' := ownsRow_kept (HQ'.out.2.1 q v' HV'.out) fun j hj => HB8.out.block j (HQ'.out.lt HV'.out hj)
          obtain ⟨g, cap, rfl⟩ := own_ptr ho (HQ.out.pos HVq.out)
          obtain ⟨g', cap', rfl⟩ := own_ptr ho' (HQ'.out.pos HV'.out)
          have h1 := namesOf_len D q
          have h2 := namesOf_len D' q
          have h3 := HLe.out
          have h4 := HLe'.out
          refine (nmEqual_any g cap g' cap' (namesOf D q) (namesOf D' q) _ (own_names ho) (own_names ho') (World.ownsRow.lt ho g rfl).2 (World.ownsRow.lt ho' g' rfl).2 (by omega) (by omega)).mono ?_
          rintro e X ⟨rfl, hbx⟩
          have HBx := Lib.hid hbx
          clear ho ho' h1 h2 h3 h4 hbx
          by_cases hns : namesOf D q = namesOf D' q
          · have hdec : decide (namesOf D q = namesOf D' q) = true := decide_eq_true hns
            have HNs := Lib.hid hns
            clear hns
            go_wp2_with fail
            have hk : ∀ j, j < wr.heap.size → X.heap[j]? = We.heap[j]? := fun j hj => (HBx.out.block j (by simp; omega)).trans ((below_al (Below.refl We.heap.size We) _).block j (by omega))
            have hr9 : RngK encQk X b r lq (pre ++ post) := HRG.out.kept (hk b (by have := HM.out.lt; have := HI.out.2.size; omega)) (hk r HC1.out.rlt)
            have hls : ∀ q', lk (pre ++ post) q' = if q' = q then none else lk todo q' := fun q' => by
              have := (HC1.out.sub.map (·.1)).nodup HM.out.nodup
              rw [HSP.out] at this ⊢
              exact lk_split this q'
            go_roundw
            case rel =>
              refine ⟨pre ++ post, hr9, fun q' h1 h2 => ?_, HB8.out.trans (HBx.out.mono HB8.out.size)⟩
              rw [hls] at h2
              by_cases e : q' = q
              · rw [e]; exact HNs.out
              · simp only [e, if_false] at h2
                exact HI.out.1 q' h1 h2
            case measure =>
              rw [hr9.left, HC1.out.left, HSP.out]
              simp
          · have hdec : decide (namesOf D q = namesOf D' q) = false := decide_eq_false hns
            have HNs := Lib.hid hns
            clear hns
            go_wp2_with fail
            go_ret
            exact ⟨⟨false, rfl, by simp, fun hall => absurd (hall q) HNs.out⟩, HB8.out.trans (HBx.out.mono HB8.out.size)⟩
  · have hnz : ((lq.length : Int) = (lq'.length : Int)) = False := by simpa using fun h => hlq (by exact_mod_cast h)
    clear hq hq' hlen hlen' h h'
    go_enter Tryd.func32, Tryd.ntmps32
    go_wp2_with fail
    go_ret
    refine ⟨⟨false, rfl, by simp, fun hall => ?_⟩, Below.refl _ _⟩
    refine absurd (keys_perm HM.out.nodup HM'.out.nodup fun q => ?_) hlq
    rw [HQ.out.1 q, HQ'.out.1 q, hall q]

end Go.Proofs.YthfndphngeaihaaDoor
