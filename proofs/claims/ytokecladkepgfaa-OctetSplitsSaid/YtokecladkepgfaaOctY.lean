/- The walk of OctetSplits: whatever bytes, whatever places. -/
import Derived.Test.YtokecladkepgfaaOctQ
import Derived.Test.YtokecladkepgfaaOctX
import Derived.RangeFuncBox
import Derived.OneCell
namespace Go.Proofs.Ytokecladkepgfaa
open Go.RowKit Go.Shelf

theorem front {w : World} {B : Nat} {a : Option Addr} {bs : List UInt8} {x : UInt8} (h : RdB w B a (bs ++ [x])) : RdB w B a bs := by
  have := h.take bs.length
  rwa [List.take_left' rfl] at this

set_option maxRecDepth 100000 in
set_option maxHeartbeats 1000000 in
theorem walk_splits (a1 a2 : Option Addr) (c1 c2 : Nat) (bs : List UInt8) (zs : List Int) (w : World) (hc : bs.length ≤ c1) (h1 : RdB w w.heap.size a1 bs) (h2 : RdI w w.heap.size a2 zs) :
    Calls Try.prog 6 #[.slice a1 bs.length c1, .slice a2 zs.length c2] w fun e w' => e = .returned (.bool true) ∧ Below w.heap.size w w' := by
  have H1 := Lib.hid h1
  have H2 := Lib.hid h2
  clear h1 h2
  have hh : (2000 : Int) < (bs.length : Int) ∨ (¬ (2000 : Int) < (bs.length : Int) ∧ (30 : Int) < (zs.length : Int)) ∨ (¬ (2000 : Int) < (bs.length : Int) ∧ ¬ (30 : Int) < (zs.length : Int)) := by omega
  rcases hh with g1 | ⟨g1, g2⟩ | ⟨g1, g2⟩
  · go_enter Try.func6, Try.ntmps6
    go_wp2_with fail
    refine (works_any _).mono ?_
    rintro e w1 ⟨rfl, hb1⟩
    go_wp2
    go_ret
    exact ⟨rfl, hb1⟩
  · go_enter Try.func6, Try.ntmps6
    go_wp2_with fail
    refine (works_any _).mono ?_
    rintro e w1 ⟨rfl, hb1⟩
    go_wp2
    go_ret
    exact ⟨rfl, hb1⟩
  have hbl : Hid (bs.length ≤ 2000) := by simp only [Hid]; omega
  have hzl : Hid (zs.length ≤ 30) := by simp only [Hid]; omega
  go_enter Try.func6, Try.ntmps6
  go_wp2_with fail
  refine (lent_any a1 c1 bs _ (by have := hbl.out; omega) H1.out).mono ?_
  rintro e w1 ⟨g0, cap0, rfl, hcap, _, hm, hb1⟩
  have HM := Lib.hid hm
  have HK := Lib.hid hcap
  clear hm hcap
  go_wp2_with fail
  refine (split_lies _ a2 cap0 c2 bs zs w1 (by have := hbl.out; omega) (by have := hzl.out; omega) (front HM.out) ((H2.out.below hb1).mono hb1.size)).mono ?_
  rintro e w2 ⟨⟨hcut, rfl⟩ | ⟨ps, v, vs, hcut, rfl, hrow, hpcs⟩, hb2⟩
  · have HC := Lib.hid hcut
    clear hcut
    have B2 := below_on hb1 hb2
    go_wp2_with fail
    refine (refSplit_any a1 a2 c1 c2 bs zs w2 (by have := hbl.out; omega) hc (by have := hzl.out; omega) ((H1.out.below B2).mono B2.size) ((H2.out.below B2).mono B2.size)).mono ?_
    rintro e w3 ⟨⟨hcut', rfl⟩ | ⟨ps', v', vs', hcut', rfl, hov', hpcs'⟩, hb3⟩
    · go_wp2_with fail
      refine (same_any none none 0 0 [] [] w3 (by simp) (by simp) 0 (.inl rfl) (.inl rfl)).mono ?_
      rintro e w4 ⟨rfl, mm, rfl⟩
      have B4 : Below w1.heap.size w1 (w3.drewN mm) := below_dr (below_on hb2 hb3) mm
      go_wp2_with (go_at_call 10; refine (num_any _ _).mono ?_; rintro e w' ⟨rfl, rfl⟩)
      go_loopw [10] (fun i wr => i = .int .i64 0 ∧ Below w1.heap.size w1 wr) (fun _ _ => 0)
      case atStart => exact ⟨rfl, B4⟩
      case round =>
        obtain ⟨rfl, hbw⟩ := hrel
        go_wp2_with fail
        refine (kept_any g0 cap0 c1 w1.heap.size a1 bs _ (by have := hbl.out; omega) HK.out (HM.out.below hbw) (((H1.out.below hb1).mono hb1.size).below hbw)).mono ?_
        rintro e w6 ⟨rfl, rfl⟩
        go_wp2_with fail
        refine (works_any _).mono ?_
        rintro e w7 ⟨rfl, hb7⟩
        go_wp2
        go_ret
        exact ⟨rfl, below_on (below_on hb1 hbw) hb7⟩
    · rw [HC.out] at hcut'
      cases hcut'
  · have HC := Lib.hid hcut
    have HROW := Lib.hid hrow
    have HPCS := Lib.hid hpcs
    clear hcut hrow hpcs
    have B2 := below_on hb1 hb2
    go_wp2_with fail
    refine (refSplit_any a1 a2 c1 c2 bs zs w2 (by have := hbl.out; omega) hc (by have := hzl.out; omega) ((H1.out.below B2).mono B2.size) ((H2.out.below B2).mono B2.size)).mono ?_
    rintro e w3 ⟨⟨hcut', rfl⟩ | ⟨ps', v', vs', hcut', rfl, hov', hpcs'⟩, hb3⟩
    · rw [HC.out] at hcut'
      cases hcut'
    · obtain rfl : ps = ps' := by
        rw [HC.out] at hcut'
        injection hcut'
      have hpl := cutAt_length bs zs 0 ps HC.out
      have hps : ps.length ≤ 100000000 := by have := hzl.out; omega
      obtain ⟨g, cap, hov, hg, hgb, hcl, hpi⟩ := HROW.out
      have hvl : vs.length = ps.length := HPCS.out.1
      have hN : Hid (vs.length ≤ 31 ∧ 0 < vs.length) := by have := hzl.out; simp only [Hid]; omega
      obtain ⟨G, C, rfl, hGlo⟩ : ∃ G C, v = .slice (some ⟨G, 0, none⟩) vs.length C ∧ w1.heap.size ≤ G := by
        rcases hov.form with ⟨_, h0⟩ | ⟨G, C, hv, h0, _⟩
        · subst h0
          simp at hvl
          omega
        · exact ⟨G, C, hv, h0⟩
      obtain ⟨A, c, hv, hrp⟩ := rdP_own hov HPCS.out
      injection hv with e1 e2 e3
      clear e2
      subst e1 e3
      obtain ⟨A', c', rfl, hrp'⟩ := rdP_own hov' hpcs'
      have HP := Lib.hid ((hrp.below hb3).mono hb3.size)
      have HP' := Lib.hid hrp'
      have HOV := Lib.hid (hov.later hb3)
      have HCL := Lib.hid (hcl.later hb3)
      have hGg : G ≠ g := fun e => hgb (by rw [e]; rfl)
      have HI := Lib.hid hpi
      have HV := Lib.hid hvl
      clear hrp hrp' hov hov' hcl hpcs' hcut' hpi hgb hvl hpl
      go_wp2_with fail
      have hsame := Lib.hid (same_any (some ⟨G, 0, none⟩) A' C c' ps ps _ hps hps _ HP.out HP'.out)
      rw [show (#[Value.slice (some ⟨G, 0, none⟩) ps.length C, .slice A' ps.length c'] : Array Value) = #[.slice (some ⟨G, 0, none⟩) vs.length C, .slice A' ps.length c'] by rw [HV.out]] at hsame
      refine hsame.out.mono ?_
      rintro e w4 ⟨rfl, mm, rfl⟩
      rw [show (ps == ps) = true from beq_self_eq_true ps]
      have B4 : Below w1.heap.size w1 (w3.drewN mm) := below_dr (below_on hb2 hb3) mm
      have HOV4 : Hid (OwnV (w3.drewN mm) w1.heap.size 23 (.slice (some ⟨G, 0, none⟩) vs.length C) vs) := HOV.out.later (below_dr (Below.refl _ _) mm)
      have HCL4 : Hid (CloneB (w3.drewN mm) g cap bs.length) := HCL.out.later (below_dr (Below.refl _ _) mm)
      clear HP HP' HOV HCL hsame
      go_wp2_with (go_at_call 10; refine (num_any _ _).mono ?_; rintro e w' ⟨rfl, rfl⟩)
      go_loopw [10] (fun i wr => ∃ (k : Nat) (us : List Value), k ≤ vs.length ∧ i = .int .i64 k ∧ Hid (OwnV wr w1.heap.size 23 (.slice (some ⟨G, 0, none⟩) vs.length C) us) ∧ Hid (us.length = vs.length) ∧ Hid (∀ j, k ≤ j → us[j]? = vs[j]?) ∧
        Hid (CloneB wr g cap bs.length) ∧ Below w1.heap.size w1 wr) (fun i _ => vs.length - (intOf i).toNat)
      case atStart => exact ⟨0, vs, Nat.zero_le _, rfl, HOV4, rfl, fun _ _ => rfl, HCL4, B4⟩
      case round =>
        obtain ⟨k, us, hk, rfl, HU, HL, HS, HB, hbw⟩ := hrel
        have hv31 : vs.length ≤ 31 := hN.out.1
        by_cases hlt : k < vs.length
        · obtain ⟨A1, n1, k1, hpv, hnk, hpo⟩ := HI.out k hlt
          have hus : us[k]? = some (.slice A1 n1 k1) := by
            rw [HS.out k (Nat.le_refl _), List.getElem?_eq_getElem hlt, ← hpv, List.getElem?_eq_getElem hlt]
            rfl
          have hn1 : n1 ≤ 2000 := by
            have := hbl.out
            rcases hpo with h | ⟨o, _, h, _⟩ <;> omega
          have cell : ∀ (wq : World), OwnV wq w1.heap.size 23 (.slice (some ⟨G, 0, none⟩) vs.length C) us → wq.cell? ⟨G, k, none⟩ = some (.slice A1 n1 k1) ∧ wq.frozen? ⟨G, k, none⟩ = false := by
            intro wq h
            rcases h.form with ⟨h0, _⟩ | ⟨G', C', hv', _, _, _, _, hc', hf'⟩
            · cases h0
            · injection hv' with e1 _ _
              simp only [Option.some.injEq, Addr.mk.injEq] at e1
              obtain ⟨rfl, _⟩ := e1
              exact ⟨(hc' k (by rw [HL.out]; exact hlt)).trans hus, hf' k⟩
          have HCELL := Lib.hid cell
          have HUS := Lib.hid hus
          have HPO := Lib.hid hpo
          have HNK := Lib.hid hnk
          have HPV := Lib.hid hpv
          clear cell hus hpo hnk hpv
          go_wp2
          go_loopw [11] (fun i wq => ∃ q : Nat, q ≤ n1 ∧ i = .int .i64 q ∧ Hid (OwnV wq w1.heap.size 23 (.slice (some ⟨G, 0, none⟩) vs.length C) us) ∧ Hid (CloneB wq g cap bs.length) ∧ Below w1.heap.size w1 wq) (fun i _ => n1 - (intOf i).toNat)
          case atStart => exact ⟨0, Nat.zero_le _, rfl, HU, HB, hbw⟩
          case round =>
            obtain ⟨q, hq, rfl, HU2, HB2, hbq⟩ := hrel
            have hcx := (HCELL.out _ HU2.out).1
            by_cases hql : q < n1
            · obtain ⟨o, rfl, hoL, hoc⟩ : ∃ o, A1 = some ⟨g, o, none⟩ ∧ o + n1 ≤ bs.length ∧ o + k1 ≤ cap := by
                rcases HPO.out with h | h
                · have := HNK.out
                  omega
                · exact h
              obtain ⟨x, x0, x1, hcy⟩ := HB2.out.2 (o + q) (by omega)
              have hfy := (HB2.out.1 (o + q) (by have := HNK.out; omega)).2
              go_wp2
              go_roundw
              case rel =>
                refine ⟨q + 1, by omega, by go_num, ?_, HB2.out.put (by omega) (by omega), hbq.setCell (p := ⟨g, o + q, none⟩) hg _⟩
                exact ownsRow_setCell_other HU2.out (a := ⟨g, o + q, none⟩) (by simp [Value.ownBlock]; exact hGg) _
              case measure => simp [intOf]; omega
            · obtain rfl : q = n1 := by omega
              have hsq := hbq.size
              have hnew := (Boxed.new wr 5 (.int .u8 3)).cell
              have HB3 := Lib.hid (HB2.out.later (below_al (Below.refl _ _) (.cells #[.int .u8 3] 5)))
              have HU3 := Lib.hid (HU2.out.alloc (.cells #[.int .u8 3] 5))
              go_wp2_with (at_builtin; refine wpList_app_piece _ rfl _ _ 23 rfl 5 Try.underlying23 info_u8 g cap bs.length HB3.out A1 q k1 rfl HNK.out HPO.out (by omega) _ _ 3 rfl (by omega) (by omega) hnew ?_; rintro v5 w5 ⟨_, ⟨A5, n5, c5, rfl⟩, hc5, row, hg5, hr5⟩; have hu5 : OwnV w5 w1.heap.size 23 (.slice (some ⟨G, 0, none⟩) vs.length C) us := HU3.out.kept hg5 (.inr (by rcases hr5 with rfl | rfl <;> simp [Value.ownBlock]; exact hGg)); obtain ⟨hx5, hf5⟩ := HCELL.out _ hu5; have HU5 := Lib.hid hu5; clear hu5)
              go_roundw
              case rel =>
                have b5 : Below w1.heap.size w1 w5 := (hbq.alloc hsq (.cells #[.int .u8 3] 5)).grown hg5 (by simp; omega) (fun r e => by
                  rcases hr5 with h | h
                  · rw [h] at e; cases e
                  · rw [h] at e; cases e; exact hg)
                refine ⟨k + 1, us.set k (.slice A5 n5 c5), by omega, by go_num, HU5.out.put _, by simp only [Hid]; rw [List.length_set]; exact HL.out, fun j hj => ?_, hc5.same (Below.heap_setCell _ _ _ g (fun e => hGg e.symm)), b5.setCell (p := ⟨G, k, none⟩) hGlo _⟩
                rw [List.getElem?_set_ne (by omega)]
                exact HS.out j (by omega)
              case measure => simp [intOf]; omega
        · obtain rfl : k = vs.length := by omega
          go_wp2_with fail
          refine (kept_any g0 cap0 c1 w1.heap.size a1 bs _ (by have := hbl.out; omega) HK.out (HM.out.below hbw) (((H1.out.below hb1).mono hb1.size).below hbw)).mono ?_
          rintro e w6 ⟨rfl, rfl⟩
          go_wp2_with fail
          refine (works_any _).mono ?_
          rintro e w7 ⟨rfl, hb7⟩
          go_wp2
          go_ret
          exact ⟨rfl, below_on (below_on hb1 hbw) hb7⟩

end Go.Proofs.Ytokecladkepgfaa
