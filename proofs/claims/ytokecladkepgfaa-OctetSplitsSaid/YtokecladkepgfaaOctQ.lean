/- Bytes that are lent, and whether they were kept. -/
import Derived.Test.YtokecladkepgfaaOctJ
namespace Go.Proofs.Ytokecladkepgfaa
open Go.RowKit Go.Shelf

/-- Bytes that are lent: in memory of their own, 77 behind them. -/
def LentP (w : World) (bs : List UInt8) (e : Ending) (w' : World) : Prop :=
  ∃ g cap, e = .returned (.slice (some ⟨g, 0, none⟩) bs.length cap) ∧ bs.length < cap ∧ w.heap.size ≤ g ∧ RdB w' w'.heap.size (some ⟨g, 0, none⟩) (bs ++ [77]) ∧ Below w.heap.size w w'

theorem lent_form {w : World} {base : Nat} {v : Value} {bs : List UInt8} (h : OwnV w base 5 v (([] ++ bs.map encB) ++ [.int .u8 77])) :
    ∃ g cap, v = .slice (some ⟨g, 0, none⟩) (bs.length + 1) cap ∧ base ≤ g ∧ g < w.heap.size ∧ bs.length + 1 ≤ cap ∧ RdB w w.heap.size (some ⟨g, 0, none⟩) (bs ++ [77]) := by
  have e : ([] ++ bs.map encB) ++ [Value.int .u8 77] = (bs ++ [77]).map encB := by simp [encB]
  rw [e] at h
  obtain ⟨a, c, hv, hc, hr, ha⟩ := h.bytes
  rcases h.form with ⟨_, h0⟩ | ⟨g, cap, rfl, hb, hlt, hn, _⟩
  · simp at h0
  · injection hv with h1 h2 h3
    subst h1 h3
    refine ⟨g, cap, by simp, hb, hlt, by simpa using hn, hr⟩

/-- 's[:h]': at the same place. -/
theorem run_cut1h {P : Program} (t e : TypeId) (ht : P.underlying t = some (.slice e)) (hz : ∀ w, (Go.sizeOf e).run P w = .ok 1 w) (a : Option Addr) (n cap h : Nat) (h1 : h ≤ cap) (w : World) :
    (Instr.slice t (.slice a n cap) none (some (.int .i64 (h : Int))) none).run P w = .ok (.slice a h cap) w := by
  have ht' : P.underlying t = some (.slice (P.elem t)) := by simp [Program.elem, ht]
  have he : P.elem t = e := by simp [Program.elem, ht]
  rw [run_slice_h w t a n cap ht' .i64 h (by omega) (by omega), he, hz]
  rcases a with _ | ad
  · simp [Result.andThen, sliced]
  · simp [Result.andThen, sliced, Addr.add]

set_option maxRecDepth 100000 in
set_option maxHeartbeats 1000000 in
theorem lent_any (a : Option Addr) (c : Nat) (bs : List UInt8) (w : World) (hlen : bs.length ≤ 140737488351232) (hr : RdB w w.heap.size a bs) :
    Calls Try.prog 15 #[.slice a bs.length c] w (LentP w bs) := by
  have hs := (hr.src).alloc (.cells #[] 5)
  have ho := OwnV.lit w w.heap.size 5 #[] (Nat.le_refl _) (by decide)
  have h1 := Lib.hid (encB_one bs)
  have hL1 : Hid (([] : List Value).length + (bs.map encB).length ≤ maxLen) := by simp [Hid, maxLen]; omega
  have hL2 : Hid ((([] : List Value).length + (bs.map encB).length) * 1 ≤ 140737488355328) := by simp [Hid]; omega
  have hM1 : Hid (([] ++ bs.map encB : List Value).length + ([.int .u8 77] : List Value).length ≤ maxLen) := by simp [Hid, maxLen]; omega
  have hM2 : Hid ((([] ++ bs.map encB : List Value).length + ([.int .u8 77] : List Value).length) * 1 ≤ 140737488355328) := by simp [Hid]; omega
  clear hr
  go_enter Try.func15, Try.ntmps15
  go_wp2_with (first | (at_builtin; refine wpList_app _ rfl (.tmp 3) (.tmp 4) 23 rfl w.heap.size 5 (.int .u8 0) 1 Try.underlying23 info_u8 rfl _ _ rfl ho _ _ _ _ rfl (List.length_map _) hs h1.out hL1.out hL2.out (by simp) ?_; intro v1 w1 hp; have hsz := (hp.below ho (by simp)).size) | (at_builtin; refine wpList_app _ rfl (.tmp 5) (.tmp 6) 23 rfl w.heap.size 5 (.int .u8 0) 1 Try.underlying23 info_u8 rfl _ _ rfl (hp.1.alloc _) _ _ _ [.int .u8 77] rfl rfl (src_one _ _ _) (by simp [Value.oneCell']) hM1.out hM2.out (by simp at hsz; simp; omega) ?_; intro v2 w2 hp2; obtain ⟨g, cap, rfl, hg1, hg2, hn, hc⟩ := lent_form hp2.1; have hsl := fun w : World => run_cut1h (P := Try.prog) 23 5 Try.underlying23 size_u8 (some ⟨g, 0, none⟩) (bs.length + 1) cap bs.length (by omega) w))
  go_ret
  have b1 := ((Below.refl w.heap.size w).alloc (Nat.le_refl _) (.cells #[] 5)).trans (hp.below ho (by simp))
  exact ⟨g, cap, rfl, hn, hg1, hc, (b1.alloc b1.size _).trans (hp2.below (hp.1.alloc _) (by have := b1.size; simp; omega))⟩

set_option maxRecDepth 100000 in
set_option maxHeartbeats 1000000 in
theorem kept_any (g cap c B : Nat) (a : Option Addr) (bs : List UInt8) (w : World) (hlen : bs.length ≤ 140737488351232) (hcap : bs.length < cap) (hm : RdB w B (some ⟨g, 0, none⟩) (bs ++ [77])) (hr : RdB w B a bs) :
    Calls Try.prog 17 #[.slice (some ⟨g, 0, none⟩) bs.length cap, .slice a bs.length c] w fun e w' => e = .returned (.bool true) ∧ w = w' := by
  have k1 := (hm.take bs.length).text (P := Try.prog) 23 9 5 bs.length cap (by simp) Try.underlying23 Try.underlying5 Try.underlying9
  rw [List.take_left' rfl] at k1
  have k2 := hr.text (P := Try.prog) 23 9 5 bs.length c rfl Try.underlying23 Try.underlying5 Try.underlying9
  have hcx : w.cell? ⟨g, bs.length, none⟩ = some (.int .u8 77) := by
    rcases hm with h | ⟨b, o, h, _, hc⟩
    · simp at h
    · injection h with h
      injection h with h1 h2
      subst h1 h2
      have := hc bs.length (by simp)
      rw [Nat.zero_add] at this
      rw [this]
      simp [byteAt]
  have hsl := fun w : World => run_cut1h (P := Try.prog) 23 5 Try.underlying23 size_u8 (some ⟨g, 0, none⟩) bs.length cap (bs.length + 1) (by omega) w
  have ec : ((bs.length + 1 : Nat) : Int) = (bs.length : Int) + 1 := by omega
  rw [ec] at hsl
  clear ec hm hr
  go_enter Try.func17, Try.ntmps17
  go_wp2
  go_ret
  exact ⟨rfl, rfl⟩

end Go.Proofs.Ytokecladkepgfaa
