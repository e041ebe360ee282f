/- Package seen: here, Has, Same. -/
import Derived.Test.YtdnjoohicbdmiaaSeD
import Derived.Test.YtdnjoohicbdmiaaHeldT
namespace Go.Proofs.Ytdnjoohicbdmiaa
open Go Go.RowKit Go.Shelf
open Go.ChangeMaps (setBlock)
set_option linter.unusedSimpArgs false
set_option linter.unusedVariables false
set_option linter.unusedSectionVars false
set_option maxRecDepth 100000

attribute [local go_sem] Oper.semAt_some

theorem sehere_any (p b : Nat) (w : World) (h : w.cell? ⟨p, 1, none⟩ = some (.map (some b))) : Calls Try.prog 37 #[.pointer (some ⟨p, 0, none⟩)] w fun x w' => x = .returned (.pointer (some ⟨p, 0, none⟩)) ∧ w' = w := by
  go_enter Try.func37, Try.ntmps37
  go_wp2_with fail
  refine (senone_any p b w h).mono ?_
  rintro e w' ⟨rfl, rfl⟩
  go_wp2_with fail
  go_ret
  exact ⟨rfl, rfl⟩

set_option maxHeartbeats 2000000 in
theorem has_any (S : Nat → Prop) (p : Nat) (most : Int) (l : List (Sg × Value)) (x : Sg) (w : World) (h : TabAt w S p most l) :
    Calls Try.prog 18 #[.pointer (some ⟨p, 0, none⟩), .agg #[.int .u32 x.nm.n, .int .u32 x.nm.m, .int .u64 x.nm.t, .int .u32 x.nm.q, .bool x.back, .int .u8 x.cnt]] w fun e w' => e = .returned (.tuple #[(lk l x).getD (.int .u64 0), .bool (lk l x).isSome]) ∧ Below w.heap.size w w' := by
  obtain ⟨bu, h1, h2, h3, h4⟩ := h
  obtain ⟨W, hW⟩ : ∃ W, W = w.alloc (.cells #[.int .u32 x.nm.n, .int .u32 x.nm.m, .int .u64 x.nm.t, .int .u32 x.nm.q, .bool x.back, .int .u8 x.cnt] 42) := ⟨_, rfl⟩
  have hb0 : Below w.heap.size w W := by rw [hW]; exact below_al (Below.refl _ _) _
  obtain ⟨bx, hbx⟩ : ∃ bx, bx = w.heap.size := ⟨_, rfl⟩
  have hc : RowB W bx x.cells := by rw [hW, hbx]; exact RowB.new w x.cells _
  have h1' := h1.on hb0 h1.lt
  have h2' : KMap encSg W bu l := h2.kept (hb0.block _ h2.lt)
  have q1 : ∀ k, (W.drewN k).cell? ⟨p, 1, none⟩ = some (.map (some bu)) := fun _ => h1'.1 1 _ rfl
  have c0 : ∀ k, (W.drewN k).cell? ⟨bx, 0, none⟩ = some (.int .u32 x.nm.n) := fun _ => hc.1 0 _ rfl
  have c1 : ∀ k, (W.drewN k).cell? ⟨bx, 1, none⟩ = some (.int .u32 x.nm.m) := fun _ => hc.1 1 _ rfl
  have c2 : ∀ k, (W.drewN k).cell? ⟨bx, 2, none⟩ = some (.int .u64 x.nm.t) := fun _ => hc.1 2 _ rfl
  have c3 : ∀ k, (W.drewN k).cell? ⟨bx, 3, none⟩ = some (.int .u32 x.nm.q) := fun _ => hc.1 3 _ rfl
  have c4 : ∀ k, (W.drewN k).cell? ⟨bx, 4, none⟩ = some (.bool x.back) := fun _ => hc.1 4 _ rfl
  have c5 : ∀ k, (W.drewN k).cell? ⟨bx, 5, none⟩ = some (.int .u8 x.cnt) := fun _ => hc.1 5 _ rfl
  have hlk : ∀ k, (Instr.lookup 67 (.map (some bu)) (.agg #[.int .u32 x.nm.n, .int .u32 x.nm.m, .int .u64 x.nm.t, .int .u32 x.nm.q, .bool x.back, .int .u8 x.cnt]) true).run Try.prog (W.drewN k) = .ok (.tuple #[(lk l x).getD (.int .u64 0), .bool (lk l x).isSome]) (W.drewN k) := fun k => by
    have h : KMap encSg (W.drewN k) bu l := h2'.kept rfl
    exact h.look keySg Try.underlying67 zeroU64 x true
  obtain ⟨v, hv⟩ : ∃ v, v = (lk l x).getD (.int .u64 0) := ⟨_, rfl⟩
  obtain ⟨q, hq⟩ : ∃ q, q = (lk l x).isSome := ⟨_, rfl⟩
  rw [← hv, ← hq] at hlk ⊢
  have HB0 := Lib.hid hb0
  have HW := Lib.hid hW
  have HBx : Hid (bx = w.heap.size) := hbx
  clear h1 h2 h3 hv hq hc h1' h2' hb0 hW
  go_enter Try.func18, Try.ntmps18
  go_upto_region 1 with fail
  rw [← HW.out, ← hbx]
  clear hbx
  go_quiet (first
    | (go_at_call 37; exact Calls.quiet_of_same (sehere_any p bu _ (q1 _))))
  go_wp2_with fail
  go_ret2
  exact ⟨rfl, below_dr HB0.out _⟩

set_option maxHeartbeats 4000000 in
theorem seequal_any (b b' : Nat) (l l' : List (Sg × Value)) (w : World) (h : KMap encSg w b l) (h' : KMap encSg w b' l') (hT : AllT l) (hT' : AllT l') :
    Calls Try.prog 31 #[.map (some b), .map (some b')] w fun e w' => (∃ t : Bool, e = .returned (.bool t) ∧ (t = true ↔ ∀ q, lk l q = lk l' q)) ∧ Below w.heap.size w w' := by
  have HM := Lib.hid h
  have HM' := Lib.hid h'
  have HTs := Lib.hid (And.intro hT hT')
  have hl1 := fun ty => h.len (P := Try.prog) Try.underlying67 ty
  have hl2 := fun ty => h'.len (P := Try.prog) Try.underlying67 ty
  by_cases hlq : l.length = l'.length
  · have HLQ := Lib.hid hlq
    obtain ⟨n, hn⟩ : ∃ n, n = l.length := ⟨_, rfl⟩
    rw [← hlq] at hl2
    rw [← hn] at hl1 hl2
    clear hlq hn h' hT hT'
    go_enter Try.func31, Try.ntmps31
    go_wp2_with (first
      | (at_range; refine wpList_range_K _ rfl _ 67 rfl _ _ Try.underlying67 b l rfl h ?_; intro o7 hrg)
      | fail)
    go_frame
    obtain ⟨r, hr⟩ : ∃ r, r = w.heap.size := ⟨_, rfl⟩
    obtain ⟨W7, hW7⟩ : ∃ W, W = w.alloc o7 := ⟨_, rfl⟩
    rw [← hW7, ← hr] at hrg ⊢
    have HR7 : Hid (RngK encSg W7 b r l l) := hrg
    have HB7 : Hid (Below w.heap.size w W7) := by rw [Hid, hW7]; exact below_al (Below.refl _ _) _
    have HZ : Hid (r = w.heap.size) := hr
    clear hrg hr hW7 h hl1 hl2
    go_loopw [16] (fun _ wr => ∃ todo : List (Sg × Value), RngK encSg wr b r l todo ∧ Hid ((∀ q, lk l q ≠ none → lk todo q = none → lk l q = lk l' q) ∧ Below w.heap.size w wr)) (fun _ wr => wr.rangeLeft b r)
    case atStart => exact ⟨l, HR7.out, fun q h1 h2 => absurd h2 h1, HB7.out⟩
    case round =>
      rename_i wr hrel
      obtain ⟨todo, c1, HI⟩ := hrel
      have HC1 := Lib.hid c1
      go_wp2_with (first
        | (at_next; refine wpList_next_K _ rfl _ rfl _ keySg b r l todo rfl c1 ?_ ?_)
        | fail)
      · intro ht
        have HT := Lib.hid ht
        clear ht c1
        go_wp2_with fail
        go_ret
        refine ⟨⟨true, rfl, fun _ q => ?_, fun _ => rfl⟩, HI.out.2⟩
        have hT := HT.out
        subst hT
        cases hl : lk l q with
        | some v => exact hl.symm.trans (HI.out.1 q (by rw [hl]; simp) rfl)
        | none => exact (keys_sub HM.out.nodup HM'.out.nodup HLQ.out (fun k hk => by rw [← HI.out.1 k hk rfl]; exact hk) q hl).symm
      · intro q v w1 o1 pre post hsp hw1 hrg1 hen
        have hlq : lk l q = some v := lk_of_mem (HM.out.nodup) (c1.sub.subset (by rw [hsp]; simp))
        clear c1
        obtain ⟨We, hWe⟩ : ∃ W, W = setBlock w1 r o1 := ⟨_, rfl⟩
        rw [← hWe] at hrg1 ⊢
        have hrl := HC1.out.rlt
        have hbl : b < w.heap.size := HM.out.lt
        have hw1h : w1.heap = wr.heap ∧ Below w.heap.size w w1 := by
          rcases hw1 with rfl | rfl
          · exact ⟨rfl, HI.out.2⟩
          · exact ⟨rfl, HI.out.2.drew⟩
        have HWe : Hid (We.heap.size = wr.heap.size ∧ (∀ j, j ≠ r → We.heap[j]? = wr.heap[j]?) ∧ We.heap[r]? = some o1 ∧ Below w.heap.size w We) := by
          rw [Hid, hWe]
          refine ⟨by rw [setBlock_size, hw1h.1], fun j hj => by rw [setBlock_block _ _ _ _ hj, hw1h.1], heap_setBlock (by rw [hw1h.1]; exact hrl) o1, ?_⟩
          exact (ButS.setBlock (S := fun _ => False) (ButS.of_below hw1h.2) (.inr (by rw [HZ.out]; exact Nat.le_refl _)) o1).below (Nat.le_refl _) (fun k h => h.elim)
        have he := hen We (by rw [HWe.out.2.1 b (by have := HZ.out; omega)]) HWe.out.2.2.1
        unfold encSg at he
        have HRG := Lib.hid hrg1
        have HSP := Lib.hid hsp
        obtain ⟨tv, rfl⟩ := HTs.out.1 (q, v) (lk_mem hlq)
        have HVq := Lib.hid hlq
        have HKX : Hid (∀ X, Below w.heap.size w X → KMap encSg X b' l') := fun X hb => HM'.out.kept (hb.block _ HM'.out.lt)
        have hlk : ∀ X, Below w.heap.size w X → (Instr.lookup 67 (.map (some b')) (.agg #[.int .u32 q.nm.n, .int .u32 q.nm.m, .int .u64 q.nm.t, .int .u32 q.nm.q, .bool q.back, .int .u8 q.cnt]) true).run Try.prog X = .ok (.tuple #[(lk l' q).getD (.int .u64 0), .bool (lk l' q).isSome]) X := fun X hb => (HKX.out X hb).look keySg Try.underlying67 zeroU64 q true
        have hsz := HWe.out.1
        clear hen hrg1 hsp hlq hw1 hw1h hWe w1
        have hB8 : Below w.heap.size w (We.alloc (.cells #[.int .u32 q.nm.n, .int .u32 q.nm.m, .int .u64 q.nm.t, .int .u32 q.nm.q, .bool q.back, .int .u8 q.cnt] 80)) := below_al HWe.out.2.2.2 _
        have hlk8 := hlk _ hB8
        have HB8 := Lib.hid hB8
        clear hlk hB8
        cases hv' : lk l' q with
        | none =>
          rw [hv'] at hlk8
          simp only [Option.getD_none, Option.isSome_none] at hlk8
          have HV' := Lib.hid hv'
          clear hv'
          go_wp2_with fail
          go_ret
          refine ⟨⟨false, rfl, by simp, fun hall => ?_⟩, HB8.out⟩
          have := hall q
          rw [HVq.out, HV'.out] at this
          cases this
        | some v' =>
          obtain ⟨tv', rfl⟩ := HTs.out.2 (q, v') (lk_mem hv')
          rw [hv'] at hlk8
          simp only [Option.getD_some, Option.isSome_some] at hlk8
          have HV' := Lib.hid hv'
          clear hv'
          by_cases htv : tv = tv'
          · have hne : (tv != tv') = false := by simpa using htv
            have HNs : Hid (lk l q = lk l' q) := by rw [Hid, HVq.out, HV'.out, htv]
            clear htv
            go_wp2_with fail
            have hk : ∀ j, j < wr.heap.size → (We.alloc (.cells #[.int .u32 q.nm.n, .int .u32 q.nm.m, .int .u64 q.nm.t, .int .u32 q.nm.q, .bool q.back, .int .u8 q.cnt] 80)).heap[j]? = We.heap[j]? := fun j hj => (below_al (Below.refl We.heap.size We) _).block j (by omega)
            have hr9 : RngK encSg (We.alloc (.cells #[.int .u32 q.nm.n, .int .u32 q.nm.m, .int .u64 q.nm.t, .int .u32 q.nm.q, .bool q.back, .int .u8 q.cnt] 80)) b r l (pre ++ post) := HRG.out.kept (hk b (by have := HM.out.lt; have := HI.out.2.size; omega)) (hk r HC1.out.rlt)
            have hls : ∀ q', lk (pre ++ post) q' = if q' = q then none else lk todo q' := fun q' => by
              have := (HC1.out.sub.map (·.1)).nodup HM.out.nodup
              rw [HSP.out] at this ⊢
              exact lk_split this q'
            go_roundw
            case rel =>
              refine ⟨pre ++ post, hr9, fun q' h1 h2 => ?_, HB8.out⟩
              rw [hls] at h2
              by_cases e : q' = q
              · rw [e]; exact HNs.out
              · simp only [e, if_false] at h2
                exact HI.out.1 q' h1 h2
            case measure =>
              rw [hr9.left, HC1.out.left, HSP.out]
              simp
          · have hne : (tv != tv') = true := by simpa using htv
            have HNs := Lib.hid htv
            clear htv
            go_wp2_with fail
            go_ret
            refine ⟨⟨false, rfl, by simp, fun hall => ?_⟩, HB8.out⟩
            have := hall q
            rw [HVq.out, HV'.out] at this
            injection this with this
            injection this with _ this
            exact absurd this HNs.out
  · have hnz : ((l.length : Int) = (l'.length : Int)) = False := by simpa using fun h => hlq (by exact_mod_cast h)
    clear h h' hT hT'
    go_enter Try.func31, Try.ntmps31
    go_wp2_with fail
    go_ret
    refine ⟨⟨false, rfl, by simp, fun hall => ?_⟩, Below.refl _ _⟩
    refine absurd (keys_perm HM.out.nodup HM'.out.nodup fun q => ?_) hlq
    rw [hall q]

end Go.Proofs.Ytdnjoohicbdmiaa
