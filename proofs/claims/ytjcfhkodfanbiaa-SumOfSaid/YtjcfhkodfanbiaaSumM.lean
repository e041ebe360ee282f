/- The walk of SumOf: every kind, all lists. -/
import Derived.Test.YtjcfhkodfanbiaaSumI
import Derived.Deep.RegionHeld
namespace Go.Proofs.Ytjcfhkodfanbiaa
open Go.RowKit Go.Shelf

/-- A kind's number, if it is one. -/
def kNum (x : Int) : Option Nat := if isK x = true then some x.toNat else none

def ofNum (k : Option Nat) (bs : List UInt8) : Nat := match k with | some k => sumN k bs | none => 0
def wdNum (k : Option Nat) : Nat := match k with | some k => wdN k | none => 0
def eNum (k : Option Nat) : Int := if k = none then 2 else 0

theorem ofQ_any (x : Int) (a : Option Addr) (n c : Nat) (ps : List (List UInt8)) (bs : List UInt8) (hn : n = ps.length) (hbs : bs = ps.flatten) (w : World) (hl : ps.length ≤ 100000000000000) (hlen : bs.length ≤ 140737488355328) (hr : RdP w w.heap.size a ps) :
    Calls Try.prog 7 #[.int .i64 x, .slice a n c] w fun e w' => e = .returned (.tuple #[.int .u32 (ofNum (kNum x) bs), .int .i64 (eNum (kNum x))]) ∧ Below w.heap.size w w' := by
  by_cases hx : isK x = true
  · obtain ⟨k, hk, rfl⟩ := isK_nat hx
    have e : kNum (k : Int) = some k := by simp [kNum, hx]
    rw [e]
    exact of_ok k hk a n c ps bs hn hbs w hl hlen hr
  · have e : kNum x = none := by simp [kNum, hx]
    rw [e]
    exact of_no x (by simpa using hx) a n c w

theorem widthQ_any (x : Int) (w : World) :
    Calls Try.prog 8 #[.int .i64 x] w fun e w' => e = .returned (.tuple #[.int .i64 (wdNum (kNum x)), .int .i64 (eNum (kNum x))]) ∧ Below w.heap.size w w' := by
  by_cases hx : isK x = true
  · obtain ⟨k, hk, rfl⟩ := isK_nat hx
    have e : kNum (k : Int) = some k := by simp [kNum, hx]
    rw [e]
    exact width_ok k hk w
  · have e : kNum x = none := by simp [kNum, hx]
    rw [e]
    exact width_no x (by simpa using hx) w

theorem flat_succ (ps : List (List UInt8)) (k : Nat) (hk : k < ps.length) : (ps.take (k + 1)).flatten = (ps.take k).flatten ++ ps[k]?.getD [] := by
  rw [List.take_succ_eq_append_getElem hk, List.flatten_append]
  simp [List.getElem?_eq_getElem hk]

/-- One list more, behind those that have come. -/
theorem app_more {w w2 : World} {base k tt : Nat} {v v' : Value} {ps : List (List UInt8)} {p : List UInt8} (hfl : (ps.take (k + 1)).flatten = (ps.take k).flatten ++ p) (_hts : tot ps (k + 1) = tt + p.length)
    (hpp : AppPost w base 5 v ((ps.take k).flatten.map encB) (p.map encB) v' w2) (hov : OwnV w base 5 v ((ps.take k).flatten.map encB)) (hsz : base ≤ w.heap.size) :
    (∃ A c, v' = .slice A (tot ps (k + 1)) c ∧ OwnV w2 base 5 (.slice A (tot ps (k + 1)) c) ((ps.take (k + 1)).flatten.map encB)) ∧ Below base w w2 := by
  have h := hpp.1
  rw [← List.map_append, ← hfl] at h
  obtain ⟨A, C, rfl, _, _, _⟩ := h.bytes
  exact ⟨⟨A, C, rfl, h⟩, hpp.below hov hsz⟩

set_option maxRecDepth 100000 in
set_option maxHeartbeats 4000000 in
theorem walk_sumOf (x : Int) (a : Option Addr) (c : Nat) (ps : List (List UInt8)) (w : World) (hl : ps.length ≤ 140737488351232) (hp : ∀ j, j < ps.length → (ps[j]?.getD []).length ≤ 140737488351232) (hr : RdP w w.heap.size a ps) :
    Calls Try.prog 3 #[.int .i64 x, .slice a ps.length c] w fun e w' => e = .returned (.bool true) ∧ Below w.heap.size w w' := by
  have HR := Lib.hid hr
  have HP := Lib.hid hp
  clear hr hp
  go_enter Try.func3, Try.ntmps3
  go_wp2
  go_loopw [5, 6] (fun v i wr => ∃ (k : Nat) (A : Option Addr) (cc : Nat), k ≤ ps.length ∧ i = .int .i64 k ∧ v = .slice A (tot ps k) cc ∧ Hid (OwnV wr w.heap.size 5 (.slice A (tot ps k) cc) ((ps.take k).flatten.map encB)) ∧ Hid (Below w.heap.size w wr)) (fun _ i _ => ps.length - (intOf i).toNat)
  case atStart =>
    exact ⟨0, none, 0, Nat.zero_le _, rfl, rfl, OwnV.nil _ _ _, Below.refl _ _⟩
  case round =>
    obtain ⟨k, A, cc, hk, rfl, rfl, hov, hbw⟩ := hrel
    obtain ⟨tt, htt⟩ : ∃ tt, tt = tot ps k := ⟨_, rfl⟩
    rw [← htt] at hov
    rw [← htt]
    have HT := Lib.hid htt
    clear htt
    by_cases hlt : k < ps.length
    · by_cases hsm : tt ≤ 3000
      · rcases HR.out.below hbw.out with rfl | ⟨b, o, rfl, hb, hcs⟩
        · simp at hlt
        obtain ⟨A2, c2, hx, _, hp2⟩ := hcs k hlt
        clear hcs
        have hpl := HP.out k hlt
        have hts : Hid (tot ps (k + 1) = tt + (ps[k]?.getD []).length) := by
          simp only [Hid]
          rw [HT.out]
          exact tot_step ps k hlt
        have hfl : Hid ((ps.take (k + 1)).flatten = (ps.take k).flatten ++ ps[k]?.getD []) := flat_succ ps k hlt
        obtain ⟨p, hpe⟩ : ∃ p, p = ps[k]?.getD [] := ⟨_, rfl⟩
        rw [← hpe] at hx hp2 hpl hts hfl
        have hfll : ((ps.take k).flatten.map encB).length = tt := by
          rw [List.length_map, HT.out]
          rfl
        have hL1 : Hid (((ps.take k).flatten.map encB).length + (p.map encB).length ≤ maxLen) := by
          simp only [Hid]
          rw [hfll, List.length_map]
          simp [maxLen]
          omega
        have hL2 : Hid ((((ps.take k).flatten.map encB).length + (p.map encB).length) * 1 ≤ 140737488355328) := by
          simp only [Hid]
          rw [hfll, List.length_map]
          omega
        have h1 := Lib.hid (encB_one p)
        have hsz := hbw.out.size
        clear hpe hfll
        have hP2 := Lib.hid hp2
        clear hp2
        go_wp2_with (at_builtin; refine wpList_app _ rfl _ _ 23 rfl w.heap.size 5 (.int .u8 0) 1 Try.underlying23 info_u8 rfl _ _ rfl hov.out _ _ _ _ rfl (List.length_map _) hP2.out.src h1.out hL1.out hL2.out hsz ?_; intro v' w2 hpp; obtain ⟨hn, hbn⟩ := app_more hfl.out hts.out hpp hov.out hsz; obtain ⟨A', cc', rfl, hn2⟩ := hn)
        go_roundw
        case rel => exact ⟨k + 1, A', cc', by omega, by go_num, rfl, hn2, hbw.out.trans hbn⟩
        case measure => simp [intOf]; omega
      · have hsm' : (3000 : Int) < (tt : Int) := by omega
        by_cases h20 : (20 : Int) < (ps.length : Int)
        · go_wp2_with fail
          refine (works_any _).mono ?_
          rintro e w3 ⟨rfl, hb3⟩
          go_wp2
          go_ret
          exact ⟨rfl, below_on hbw.out hb3⟩
        · go_wp2_with fail
          refine (works_any _).mono ?_
          rintro e w3 ⟨rfl, hb3⟩
          go_wp2
          go_ret
          exact ⟨rfl, below_on hbw.out hb3⟩
    · obtain rfl : k = ps.length := by omega
      by_cases h20 : (20 : Int) < (ps.length : Int)
      · go_wp2_with fail
        refine (works_any _).mono ?_
        rintro e w3 ⟨rfl, hb3⟩
        go_wp2
        go_ret
        exact ⟨rfl, below_on hbw.out hb3⟩
      by_cases hsm' : (3000 : Int) < (tt : Int)
      · go_wp2_with fail
        refine (works_any _).mono ?_
        rintro e w3 ⟨rfl, hb3⟩
        go_wp2
        go_ret
        exact ⟨rfl, below_on hbw.out hb3⟩
      obtain ⟨bs, hbs⟩ : ∃ bs, bs = ps.flatten := ⟨_, rfl⟩
      have htl : tt = bs.length := by
        rw [HT.out, hbs]
        simp [tot]
      obtain ⟨nn, hnn⟩ : ∃ nn, nn = ofNum (kNum x) bs := ⟨_, rfl⟩
      obtain ⟨ww, hww⟩ : ∃ ww, ww = wdNum (kNum x) := ⟨_, rfl⟩
      obtain ⟨ee, hee⟩ : ∃ ee, ee = eNum (kNum x) := ⟨_, rfl⟩
      have CO : Hid (∀ w : World, RdP w w.heap.size a ps → Calls Try.prog 7 #[.int .i64 x, .slice a ps.length c] w fun e w' => e = .returned (.tuple #[.int .u32 nn, .int .i64 ee]) ∧ Below w.heap.size w w') := by
        intro w h
        rw [hnn, hee]
        exact ofQ_any x a _ c ps bs rfl hbs w (by omega) (by omega) h
      have CW : Hid (∀ w : World, Calls Try.prog 8 #[.int .i64 x] w fun e w' => e = .returned (.tuple #[.int .i64 ww, .int .i64 ee]) ∧ Below w.heap.size w w') := by
        intro w
        rw [hww, hee]
        exact widthQ_any x w
      have hra : Hid (RdB wr wr.heap.size A bs) := by
        obtain ⟨A', C', hv, _, hr, _⟩ := OwnV.bytes hov.out
        injection hv with e1
        rw [List.take_length, ← hbs, ← e1] at hr
        exact hr
      have HNN := Lib.hid hnn
      have HWW := Lib.hid hww
      have HEE := Lib.hid hee
      have HTL := Lib.hid htl
      have hts : tt ≤ 3000 := by omega
      clear hbs hnn hww hee htl
      go_wp2_with fail
      refine (CO.out wr ((HR.out.below hbw.out).mono hbw.out.size)).mono ?_
      rintro e w3 ⟨rfl, hb3⟩
      go_wp2_with fail
      refine (CW.out w3).mono ?_
      rintro e w4 ⟨rfl, hb4⟩
      have B34 := below_on hb3 hb4
      have H4 := Lib.hid (below_on hbw.out B34)
      have HRA : Hid (RdB w4 w4.heap.size A bs) := (hra.out.below B34).mono B34.size
      clear hb3 hb4 B34
      go_wp2_with fail
      refine (refKind_any _ _).mono ?_
      rintro e w5 ⟨rfl, rfl⟩
      cases hx : isK x
      · have ek : kNum x = none := by simp [kNum, hx]
        obtain rfl : nn = 0 := by rw [HNN.out, ek]; rfl
        obtain rfl : ww = 0 := by rw [HWW.out, ek]; rfl
        obtain rfl : ee = 2 := by rw [HEE.out, ek]; rfl
        go_wp2_with (go_at_call 10; refine (num_any _ _).mono ?_; rintro e w' ⟨rfl, rfl⟩)
        refine (works_any _).mono ?_
        rintro e w6 ⟨rfl, hb6⟩
        go_wp2
        go_ret
        exact ⟨rfl, below_on H4.out hb6⟩
      · obtain ⟨k, hk2, rfl⟩ := isK_nat hx
        have ek : kNum (k : Int) = some k := by simp [kNum, hx]
        obtain rfl : nn = sumN k bs := by rw [HNN.out, ek]; rfl
        obtain rfl : ww = wdN k := by rw [HWW.out, ek]; rfl
        obtain rfl : ee = 0 := by rw [HEE.out, ek]; rfl
        go_wp2_with fail
        refine (refOf_any k hk2 A tt cc bs HTL.out w4 (by have := HTL.out; omega) HRA.out).mono ?_
        rintro e w6 ⟨rfl, hb6⟩
        go_wp2_with fail
        refine (refWidth_any k hk2 _).mono ?_
        rintro e w7 ⟨rfl, rfl⟩
        go_wp2_with (go_at_call 10; refine (num_any _ _).mono ?_; rintro e w' ⟨rfl, rfl⟩)
        refine (works_any _).mono ?_
        rintro e w8 ⟨rfl, hb8⟩
        go_wp2
        go_ret
        exact ⟨rfl, below_on (below_on H4.out hb6) hb8⟩

end Go.Proofs.Ytjcfhkodfanbiaa
