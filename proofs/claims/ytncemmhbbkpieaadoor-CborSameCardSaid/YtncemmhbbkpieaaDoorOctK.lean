/- slices.Grow of nothing, slices.Concat and package octet's Join. -/
import Derived.Test.YtncemmhbbkpieaaDoorOctI
import Derived.Lib.AppendZeros
namespace Go.Proofs.YtncemmhbbkpieaaDoor
open Go.RowKit Go.Shelf

def GrowP (w : World) (e : Ending) (w' : World) : Prop := ∃ v, e = .returned v ∧ OwnV w' w.heap.size 5 v [] ∧ Below w.heap.size w w'

set_option maxRecDepth 100000 in
set_option maxHeartbeats 1000000 in
theorem grow_any (n : Nat) (w : World) (hn : n ≤ 140737488355328) : Calls Tryd.prog 83 #[.slice none 0 0, .int .i64 n] w (GrowP w) := by
  by_cases h0 : n = 0
  · subst h0
    go_enter Tryd.func83, Tryd.ntmps83
    go_wp2
    go_ret
    exact ⟨_, rfl, OwnV.nil _ _ _, Below.refl _ _⟩
  · obtain ⟨i0, hi, hz0, hz1, hz2⟩ := info_parts info_u8
    have hcap : Hid (grownCap w n 0 5 ≤ maxLen ∧ n ≤ grownCap w n 0 5) := ⟨grownCap_le_maxLen w n 0 _ (by simp [maxLen]; omega), grownCap_ge w n 0 _⟩
    have hr := fun ty => Lib.run_append_nil_zeros (P := Tryd.prog) w 22 3 ty 5 i0 (.int .u8 0) .i64 .i64 Tryd.underlying22 Tryd.underlying3 hi hz0 n (by omega) (by omega) (by omega) (by rw [hz2]; omega)
    have HR := Lib.hid hr
    clear hr hz0 hz1 hz2 hi
    go_enter Tryd.func83, Tryd.ntmps83
    go_wp2_with (at_builtin; refine Lib.wpList_append_run _ rfl _ _ 22 3 rfl _ _ rfl rfl _ _ (HR.out _) ?_)
    go_ret
    refine ⟨_, rfl, ?_, below_dr (below_al (Below.refl _ _) _) 1⟩
    exact World.ownsRow_made w _ (grownCap w n 0 5) (Nat.le_refl _) hcap.out.1 (by
      have := hcap.out.2
      rw [Array.size_append, size_zeroCells, size_zeroCells]
      show n * 1 + (_ - n) * 1 = _ * 1
      omega)

/-- How many bytes the first k pieces have. -/
def tot (ps : List (List UInt8)) (k : Nat) : Nat := ((ps.take k).flatten).length

theorem tot_step (ps : List (List UInt8)) (k : Nat) (hk : k < ps.length) : tot ps (k + 1) = tot ps k + (ps[k]?.getD []).length := by
  unfold tot
  rw [List.take_succ_eq_append_getElem hk, List.flatten_append, List.length_append, List.getElem?_eq_getElem hk]
  simp

theorem tot_le (ps : List (List UInt8)) (k : Nat) : tot ps k ≤ ps.flatten.length := by
  have h : ps.flatten = (ps.take k).flatten ++ (ps.drop k).flatten := by rw [← List.flatten_append, List.take_append_drop]
  unfold tot
  rw [h, List.length_append]
  omega

def JoinP (w : World) (bs : List UInt8) (e : Ending) (w' : World) : Prop := ∃ v, e = .returned v ∧ OwnV w' w.heap.size 5 v (bs.map encB) ∧ Below w.heap.size w w'

set_option maxRecDepth 100000 in
set_option maxHeartbeats 2000000 in
theorem concat_any (a : Option Addr) (c : Nat) (ps : List (List UInt8)) (w : World) (hl : ps.length ≤ 100000000) (ht : ps.flatten.length ≤ 140737488355328) (hr : RdP w w.heap.size a ps) :
    Calls Tryd.prog 77 #[.slice a ps.length c] w (JoinP w ps.flatten) := by
  have HR := Lib.hid hr
  clear hr
  go_enter Tryd.func77, Tryd.ntmps77
  go_wp2
  go_loop [3, 11] (fun s i => ∃ k : Nat, k ≤ ps.length ∧ i = .int .i64 k ∧ s = .int .i64 (tot ps k)) (fun _ i => ps.length - (intOf i).toNat)
  case atStart => exact ⟨0, Nat.zero_le _, rfl, by simp [tot]⟩
  case round =>
    obtain ⟨k, hk, rfl, rfl⟩ := hrel
    have htl := tot_le ps k
    by_cases hlt : k < ps.length
    · rcases HR.out with rfl | ⟨b, o, rfl, hb, hcs⟩
      · simp at hlt
      obtain ⟨A, c', hx, _, _⟩ := hcs k hlt
      clear hcs
      have hts := tot_step ps k hlt
      have htl2 := tot_le ps (k + 1)
      obtain ⟨q, hq⟩ : ∃ q, q = (ps[k]?.getD []).length := ⟨_, rfl⟩
      obtain ⟨m, hm⟩ : ∃ m, m = tot ps k := ⟨_, rfl⟩
      rw [← hq] at hx hts
      rw [← hm] at hts htl ⊢
      have hmq : m + q ≤ 140737488355328 := by omega
      have HS := Lib.hid hts
      clear hts hq hm htl htl2
      go_wp2
      go_round
      case rel => exact ⟨k + 1, by omega, by go_num, by rw [HS.out]; go_num⟩
      case measure => simp [intOf]; omega
    · obtain rfl : k = ps.length := by omega
      go_wp2_with fail
      refine (grow_any (tot ps ps.length) _ (by omega)).mono ?_
      rintro e w1 ⟨v1, rfl, ho1, hb1⟩
      go_wp2
      go_loopw [6, 27] (fun v i wr => ∃ k : Nat, k ≤ ps.length ∧ i = .int .i64 k ∧ OwnV wr w.heap.size 5 v ((ps.take k).flatten.map encB) ∧ Below w.heap.size w wr) (fun _ i _ => ps.length - (intOf i).toNat)
      case atStart => exact ⟨0, Nat.zero_le _, rfl, by simpa using ho1, hb1⟩
      case round =>
        obtain ⟨k, hk2, rfl, hov, hbw⟩ := hrel
        by_cases hlt2 : k < ps.length
        · rcases HR.out.below hbw with rfl | ⟨b, o, rfl, hb, hcs⟩
          · simp at hlt2
          obtain ⟨A, c', hx, _, hp⟩ := hcs k hlt2
          clear hcs
          have hts := tot_step ps k hlt2
          have htl2 := tot_le ps (k + 1)
          have hfl : (ps.take (k + 1)).flatten = (ps.take k).flatten ++ ps[k]?.getD [] := by
            rw [List.take_succ_eq_append_getElem hlt2, List.flatten_append]
            simp [List.getElem?_eq_getElem hlt2]
          obtain ⟨p, hpe⟩ : ∃ p, p = ps[k]?.getD [] := ⟨_, rfl⟩
          rw [← hpe] at hx hp hts hfl
          have hM : ((ps.take k).flatten.map encB).length + (p.map encB).length ≤ 140737488355328 := by
            simp only [List.length_map]
            unfold tot at hts htl2
            omega
          have HF := Lib.hid hfl
          have hL1 : Hid (((ps.take k).flatten.map encB).length + (p.map encB).length ≤ maxLen) := Nat.le_trans hM (by simp [maxLen])
          have hL2 : Hid ((((ps.take k).flatten.map encB).length + (p.map encB).length) * 1 ≤ 140737488355328) := by simp only [Hid]; omega
          have h1 := Lib.hid (encB_one p)
          have hsz := hbw.size
          clear hts htl2 hfl hpe hM
          go_wp2_with (at_builtin; refine wpList_app _ rfl _ _ 22 rfl w.heap.size 5 (.int .u8 0) 1 Tryd.underlying22 info_u8 rfl _ _ rfl hov _ _ _ _ rfl (List.length_map _) hp.src h1.out hL1.out hL2.out hsz ?_; intro v' w2 hpp)
          go_roundw
          case rel => exact ⟨k + 1, by omega, by go_num, by rw [HF.out, List.map_append]; exact hpp.1, hbw.trans (hpp.below hov hsz)⟩
          case measure => simp [intOf]; omega
        · obtain rfl : k = ps.length := by omega
          go_wp2
          go_ret
          rw [List.take_length] at hov
          exact ⟨_, rfl, hov, hbw⟩

set_option maxHeartbeats 1000000 in
theorem join_any (a : Option Addr) (c : Nat) (ps : List (List UInt8)) (w : World) (hl : ps.length ≤ 100000000) (ht : ps.flatten.length ≤ 140737488355328) (hr : RdP w w.heap.size a ps) :
    Calls Tryd.prog 62 #[.slice a ps.length c] w (JoinP w ps.flatten) := by
  have H := Lib.hid (concat_any a c ps w hl ht hr)
  clear hr
  go_enter Tryd.func62, Tryd.ntmps62
  go_wp2_with fail
  refine H.out.mono ?_
  rintro e w1 ⟨v, rfl, ho, hb⟩
  go_wp2
  go_ret
  exact ⟨v, rfl, ho, hb⟩

end Go.Proofs.YtncemmhbbkpieaaDoor
