/- Whether two lists of pieces are the same: the document's answer. -/
import Derived.Test.YtokecladkepgfaaOctH
namespace Go.Proofs.Ytokecladkepgfaa
open Go.RowKit Go.Shelf

/-- A slice at a reads as these values (of one cell each). -/
def RdV (w : World) (a : Option Addr) (vs : List Value) : Prop :=
  vs = [] ∨ ∃ b o, a = some ⟨b, o, none⟩ ∧ ∀ j, j < vs.length → w.cell? ⟨b, o + j, none⟩ = vs[j]?

theorem OwnV.rdV {w : World} {base : Nat} {e : TypeId} {v : Value} {xs : List Value} (h : OwnV w base e v xs) : ∃ A c, v = .slice A xs.length c ∧ RdV w A xs := by
  rcases h.form with ⟨rfl, rfl⟩ | ⟨g, cap, rfl, _, _, _, _, hc, _⟩
  · exact ⟨none, 0, rfl, .inl rfl⟩
  · exact ⟨_, _, rfl, .inr ⟨g, 0, rfl, fun j hj => by rw [Nat.zero_add]; exact hc j hj⟩⟩

/-- A list of pieces, read. -/
def RdP (w : World) (B : Nat) (a : Option Addr) (ps : List (List UInt8)) : Prop :=
  ps = [] ∨ ∃ b o, a = some ⟨b, o, none⟩ ∧ b < B ∧ ∀ j, j < ps.length → ∃ A c, w.cell? ⟨b, o + j, none⟩ = some (.slice A (ps[j]?.getD []).length c) ∧ (ps[j]?.getD []).length ≤ c ∧ RdB w B A (ps[j]?.getD [])

theorem RdP.drewN {w : World} {B : Nat} {a : Option Addr} {ps : List (List UInt8)} (h : RdP w B a ps) (q : Nat) : RdP (w.drewN q) B a ps := h

theorem RdP.below {w w' : World} {B : Nat} {a : Option Addr} {ps : List (List UInt8)} (h : RdP w B a ps) (hb : Below B w w') : RdP w' B a ps := by
  rcases h with h | ⟨b, o, e, hlt, hc⟩
  · exact .inl h
  · refine .inr ⟨b, o, e, hlt, fun j hj => ?_⟩
    obtain ⟨A, c, h1, h2, h3⟩ := hc j hj
    exact ⟨A, c, (hb.cell (p := ⟨b, o + j, none⟩) hlt).trans h1, h2, h3.below hb⟩

theorem RdP.mono {w : World} {B B' : Nat} {a : Option Addr} {ps : List (List UInt8)} (h : RdP w B a ps) (hB : B ≤ B') : RdP w B' a ps := by
  rcases h with h | ⟨b, o, e, hlt, hc⟩
  · exact .inl h
  · refine .inr ⟨b, o, e, by omega, fun j hj => ?_⟩
    obtain ⟨A, c, h1, h2, h3⟩ := hc j hj
    exact ⟨A, c, h1, h2, h3.mono hB⟩

theorem rdP_own {w : World} {base B0 : Nat} {e : TypeId} {v : Value} {vs : List Value} {ps : List (List UInt8)} (h : OwnV w base e v vs) (hp : Pcs w B0 w.heap.size vs ps) :
    ∃ A c, v = .slice A ps.length c ∧ RdP w w.heap.size A ps := by
  rcases h.form with ⟨rfl, rfl⟩ | ⟨g, cap, rfl, _, hg, _, _, hc, _⟩
  · have : ps = [] := List.eq_nil_of_length_eq_zero (by rw [← hp.1]; rfl)
    subst this
    exact ⟨none, 0, rfl, .inl rfl⟩
  · refine ⟨_, _, by rw [hp.1], .inr ⟨g, 0, rfl, hg, fun j hj => ?_⟩⟩
    obtain ⟨A, c, hv, hle, hr, _⟩ := hp.2 j hj
    refine ⟨A, c, ?_, hle, hr⟩
    have hj' : j < vs.length := by rw [hp.1]; exact hj
    rw [Nat.zero_add, hc j hj', List.getElem?_eq_getElem hj', ← hv]
    simp [List.getElem?_eq_getElem hj']

set_option maxRecDepth 100000 in
set_option maxHeartbeats 2000000 in
theorem same_any (a1 a2 : Option Addr) (c1 c2 : Nat) (ps qs : List (List UInt8)) (w : World) (hl1 : ps.length ≤ 100000000) (hl2 : qs.length ≤ 100000000) (B : Nat) (h1 : RdP w B a1 ps) (h2 : RdP w B a2 qs) :
    Calls Try.prog 23 #[.slice a1 ps.length c1, .slice a2 qs.length c2] w fun e w' => e = .returned (.bool (ps == qs)) ∧ ∃ m, w' = w.drewN m := by
  by_cases hll : ps.length = qs.length
  · have he : ((ps.length : Int) != (qs.length : Int)) = false := by simp [hll]
    have HL := Lib.hid hll
    clear hll
    go_enter Try.func23, Try.ntmps23
    go_wp2
    go_loopw [5] (fun i wr => ∃ k : Nat, k ≤ ps.length ∧ i = .int .i64 k ∧ Hid (∀ j, j < k → ps[j]?.getD [] = qs[j]?.getD []) ∧ Hid (∃ m, wr = w.drewN m)) (fun i _ => ps.length - (intOf i).toNat)
    case atStart => exact ⟨0, Nat.zero_le _, rfl, fun j hj => absurd hj (Nat.not_lt_zero j), 0, rfl⟩
    case round =>
      obtain ⟨k, hk, rfl, hpre, hdr⟩ := hrel
      by_cases hlt : k < ps.length
      · have hlt2 : k < qs.length := by rw [← HL.out]; exact hlt
        have h1w : RdP wr B a1 ps := by obtain ⟨m, rfl⟩ := hdr.out; exact h1
        have h2w : RdP wr B a2 qs := by obtain ⟨m, rfl⟩ := hdr.out; exact h2
        rcases h1w with rfl | ⟨b, o, rfl, _, hc1⟩
        · simp at hlt
        rcases h2w with rfl | ⟨b', o', rfl, _, hc2⟩
        · simp at hlt2
        obtain ⟨A, c, hx1, _, hr1⟩ := hc1 k hlt
        obtain ⟨A', c', hx2, _, hr2⟩ := hc2 k hlt2
        obtain ⟨p, hp⟩ : ∃ p, p = ps[k]?.getD [] := ⟨_, rfl⟩
        obtain ⟨q, hq⟩ : ∃ q, q = qs[k]?.getD [] := ⟨_, rfl⟩
        rw [← hp] at hx1 hr1
        rw [← hq] at hx2 hr2
        have HP := Lib.hid hp
        have HQ := Lib.hid hq
        have H1 := Lib.hid h1
        have H2 := Lib.hid h2
        clear hp hq hc1 hc2 h1 h2
        have k1 := fun d => (hr1.drewN d).text (P := Try.prog) 23 9 5 p.length c rfl Try.underlying23 Try.underlying5 Try.underlying9
        have k2 := fun d => (hr2.drewN d).text (P := Try.prog) 23 9 5 q.length c' rfl Try.underlying23 Try.underlying5 Try.underlying9
        clear hr1 hr2
        have hi1 : (k : Int) < (ps.length : Int) := by omega
        have hi2 : (k : Int) < (qs.length : Int) := by omega
        cases hne : (p == q)
        · go_wp2
          go_quiet (fail)
          go_wp2
          go_ret
          refine ⟨?_, ?_⟩
          · have : (ps == qs) = false := by
              cases h : (ps == qs)
              · rfl
              · have := eq_of_beq h
                subst this
                rw [HP.out, HQ.out] at hne
                simp at hne
            rw [this]
            rfl
          · obtain ⟨m, rfl⟩ := hdr.out
            exact ⟨_, World.drewN_drewN _ _ _⟩
        · go_wp2
          go_quiet (fail)
          go_wp2
          go_roundw
          case rel =>
            refine ⟨k + 1, by omega, by go_num, fun j hj => ?_, ?_⟩
            · by_cases e : j = k
              · subst e
                rw [← HP.out, ← HQ.out]
                exact eq_of_beq hne
              · exact hpre.out j (by omega)
            · obtain ⟨m, rfl⟩ := hdr.out
              exact ⟨_, World.drewN_drewN _ _ _⟩
          case measure => simp [intOf]; omega
      · obtain rfl : k = ps.length := by omega
        go_wp2
        go_ret
        refine ⟨?_, hdr.out⟩
        have : (ps == qs) = true := by
          rw [beq_iff_eq]
          apply List.ext_getElem HL.out
          intro j h1 h2
          have := hpre.out j h1
          simpa [List.getElem?_eq_getElem h1, List.getElem?_eq_getElem h2] using this
        rw [this]
        rfl
  · have he : ((ps.length : Int) != (qs.length : Int)) = true := by simp; omega
    have HL := Lib.hid hll
    clear hll
    go_enter Try.func23, Try.ntmps23
    go_wp2
    go_ret
    refine ⟨?_, 0, rfl⟩
    have : (ps == qs) = false := by
      cases h : (ps == qs)
      · rfl
      · exact absurd (congrArg List.length (eq_of_beq h)) HL.out
    rw [this]
    rfl

end Go.Proofs.Ytokecladkepgfaa
