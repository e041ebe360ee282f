/- Package sum's way over lists of bytes, byte by byte. -/
import Derived.Test.YtjcfhkodfanbiaaSumB
import Derived.Test.YtjcfhkodfanbiaaOctK
namespace Go.Proofs.Ytjcfhkodfanbiaa
open Go.RowKit Go.Shelf

attribute [local go_sem] Oper.semAt_some

set_option maxHeartbeats 400000 in
theorem eachS_any (a : Option Addr) (n c : Nat) (w : World) :
    Calls Try.prog 26 #[.slice a n c] w fun e w' => e = .returned (.func (.func 31) #[] #[.pointer (some ⟨w.heap.size, 0, none⟩)]) ∧ w' = w.alloc (.cells #[.slice a n c] 22) := by
  have hmf : ∀ (fn : Fn) (first cap : Array Value) (w : World), (Instr.makeFunc fn first cap).run Try.prog w = .ok (.func fn first cap) w := fun _ _ _ _ => rfl
  go_enter Try.func26, Try.ntmps26
  go_wp2
  go_ret
  exact ⟨rfl, rfl⟩

theorem RdB.keep {w w' : World} {B : Nat} {a : Option Addr} {bs : List UInt8} (h : RdB w B a bs) (hk : KeepB (· < B) w w') : RdB w' B a bs := by
  rcases h with h | ⟨b, o, e, hlt, hc⟩
  · exact .inl h
  · exact .inr ⟨b, o, e, hlt, fun j hj => (World.cell?_of_block (a := ⟨b, o + j, none⟩) (hk b hlt)).trans (hc j hj)⟩

theorem RdP.keep {w w' : World} {B : Nat} {a : Option Addr} {ps : List (List UInt8)} (h : RdP w B a ps) (hk : KeepB (· < B) w w') : RdP w' B a ps := by
  rcases h with h | ⟨b, o, e, hlt, hc⟩
  · exact .inl h
  · refine .inr ⟨b, o, e, hlt, fun j hj => ?_⟩
    obtain ⟨A, c, h1, h2, h3⟩ := hc j hj
    exact ⟨A, c, (World.cell?_of_block (a := ⟨b, o + j, none⟩) (hk b hlt)).trans h1, h2, h3.keep hk⟩

theorem byteAt_flat (ps : List (List UInt8)) (i j : Nat) (hi : i < ps.length) (hj : j < (ps[i]?.getD []).length) : byteAt ps.flatten (tot ps i + j) = byteAt (ps[i]?.getD []) j := by
  have e : ps.flatten = (ps.take i).flatten ++ (ps[i]?.getD [] ++ (ps.drop (i + 1)).flatten) := by
    have h : ps = ps.take i ++ (ps[i] :: ps.drop (i + 1)) := by rw [← List.drop_eq_getElem_cons hi, List.take_append_drop]
    have h2 := congrArg List.flatten h
    rw [List.flatten_append, List.flatten_cons] at h2
    rw [h2, List.getElem?_eq_getElem hi, Option.getD_some]
  unfold tot byteAt
  rw [e, List.getElem?_append_right (by omega), Nat.add_sub_cancel_left, List.getElem?_append_left hj]

/-- What the way over lists hands over, round by round. -/
def encF (bs : List UInt8) (k : Nat) : Array Value := #[.int .u8 (byteAt bs k)]

set_option maxRecDepth 100000 in
set_option maxHeartbeats 4000000 in
theorem eachS_goes (Bs B : Nat) (a : Option Addr) (c : Nat) (ps : List (List UInt8)) (w : World) (hl : ps.length ≤ 100000000000000) (hlen : ps.flatten.length ≤ 140737488355328) (hBs : Bs < w.heap.size) (hB : B ≤ w.heap.size)
    (hc : w.cell? ⟨Bs, 0, none⟩ = some (.slice a ps.length c)) (hr : RdP w B a ps) :
    Goes Try.prog 31 #[.pointer (some ⟨Bs, 0, none⟩)] (encF ps.flatten) (· < B) ps.flatten.length w := by
  intro l J Jx W hW hJ hJx hY h0
  have hcW := (hW.cell (p := ⟨Bs, 0, none⟩) hBs).trans hc
  have HR := Lib.hid (hr.below (hW.mono hB))
  have HJ := Lib.hid hJ
  have HJx := Lib.hid hJx
  have HY := Lib.hid hY
  clear hc hr hW hJ hJx hY
  refine callsIn_of_wp Try.func31 rfl trivial ?_ rfl
  simp only [Try.ntmps31, List.size_toArray, List.length_cons, List.length_nil, Nat.reduceAdd, Nat.reduceSub, Array.replicate_succ, Array.replicate_zero, List.push_toArray, List.append_toArray, List.nil_append, List.cons_append]
  refine wpIn_wide.2 (wp_scope_on 0 rfl ((wpIn_wide (n := 10)).1 ?_))
  refine wpIn_seq (wpIn_label ?_)
  simp only [Exit.then]
  gi_wp2
  gi_loopw [9] (fun i wr => ∃ k : Nat, k ≤ ps.length ∧ i = .int .i64 k ∧ Hid (J (tot ps k) wr) ∧ Hid (KeepB (· < B) W wr)) (fun i _ => ps.length - (intOf i).toNat)
  case atStart => exact ⟨0, Nat.zero_le _, rfl, h0, KeepB.refl _ _⟩
  case round =>
    obtain ⟨k, hk, rfl, hJs, hnx⟩ := hrel
    by_cases hlt : k < ps.length
    · rcases HR.out.keep hnx.out with rfl | ⟨b, o, rfl, hb, hcs⟩
      · simp at hlt
      obtain ⟨A, c', hx, _, hp⟩ := hcs k hlt
      clear hcs
      obtain ⟨p, hpe⟩ : ∃ p, p = ps[k]?.getD [] := ⟨_, rfl⟩
      rw [← hpe] at hx hp
      have HP := Lib.hid hp
      have HE := Lib.hid hpe
      have hbl : Hid (∀ j, j < p.length → byteAt ps.flatten (tot ps k + j) = byteAt p j) := by
        intro j hj
        rw [hpe]
        exact byteAt_flat ps k j hlt (by rw [← hpe]; exact hj)
      have hts : Hid (tot ps (k + 1) = tot ps k + p.length) := by
        simp only [Hid]
        rw [hpe]
        exact tot_step ps k hlt
      have htl := tot_le ps (k + 1)
      have hpl : p.length ≤ 140737488355328 := by
        have := hts.out
        omega
      clear hp hpe
      have HT := Lib.hid htl
      clear htl
      gi_wp2
      gi_loopw [15] (fun i wr' => ∃ j : Nat, j ≤ p.length ∧ i = .int .i64 j ∧ Hid (J (tot ps k + j) wr') ∧ Hid (KeepB (· < B) W wr')) (fun i _ => p.length - (intOf i).toNat)
      case atStart => exact ⟨0, Nat.zero_le _, rfl, hJs, hnx⟩
      case round =>
        obtain ⟨j, hj, rfl, hJs2, hnx2⟩ := hrel
        by_cases hlt2 : j < p.length
        · have hpk : RdB _ B A p := (HP.out.keep (fun q hq => (hnx2.out q hq).trans (hnx.out q hq).symm))
          rcases hpk with rfl | ⟨b', o', rfl, hb', hcs'⟩
          · simp at hlt2
          have hcx := hcs' j hlt2
          clear hcs'
          obtain ⟨fn, tmps, assign, body, hy, hR⟩ := HY.out (tot ps k + j) _ (by have := hts.out; have := HT.out; omega) hJs2.out
          simp only [encF] at hy
          rw [hbl.out j hlt2] at hy
          gi_wp2
          refine hR.mono ?_
          rintro e W3 (⟨rfl, hJ3, hk3⟩ | ⟨rfl, hJx3⟩)
          · gi_wp2
            go_roundw
            case rel => exact ⟨j + 1, by omega, by simp, hJ3, hnx2.out.trans hk3⟩
            case measure => simp [intOf]; omega
          · gi_wp2
            simp only [Exit.jump]
            go_end0
            exact ⟨⟨_, rfl⟩, .inr ⟨_, by have := hts.out; have := HT.out; omega, hJx3⟩⟩
        · obtain rfl : j = p.length := by omega
          gi_wp2
          go_roundw
          case rel => exact ⟨k + 1, by omega, by simp, by rw [hts.out]; exact hJs2, hnx2⟩
          case measure => simp [intOf]; omega
    · obtain rfl : k = ps.length := by omega
      gi_wp2
      simp only [Exit.jump]
      go_end0
      refine ⟨⟨_, rfl⟩, .inl ?_⟩
      have ht : tot ps ps.length = ps.flatten.length := by simp [tot]
      rw [← ht]
      exact hJs

end Go.Proofs.Ytjcfhkodfanbiaa
