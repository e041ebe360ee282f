/- The walk of SumSeals: every kind, all bytes. -/
import Derived.Test.YtjcfhkodfanbiaaSumI
import Derived.Deep.RegionHeld
namespace Go.Proofs.Ytjcfhkodfanbiaa
open Go.RowKit Go.Shelf

theorem rd_front {w : World} {B : Nat} {a : Option Addr} {bs : List UInt8} {x : UInt8} (h : RdB w B a (bs ++ [x])) : RdB w B a bs := by
  have := h.take bs.length
  rwa [List.take_left' rfl] at this

theorem behind_cell {w : World} {B g : Nat} {bs : List UInt8} (hm : RdB w B (some ⟨g, 0, none⟩) (bs ++ [77])) : w.cell? ⟨g, bs.length, none⟩ = some (.int .u8 77) := by
  rcases hm with h | ⟨b, o, h, _, hc⟩
  · simp at h
  · injection h with h
    injection h with h1 h2
    subst h1 h2
    have := hc bs.length (by simp)
    rw [Nat.zero_add] at this
    rw [this]
    simp [byteAt]

/-- What Open answers, told as bytes: none, or those ahead. -/
def oB (o : Option (List UInt8)) : List UInt8 := o.getD []
def oE (o : Option (List UInt8)) : Int := if o = none then 110 else 0

/-- Both answers in one form: some bytes, some number. -/
def OpenQ (w : World) (bs : List UInt8) (g : Int) (e : Ending) (w' : World) : Prop :=
  ∃ A C, e = .returned (.tuple #[.slice A bs.length C, .int .i64 g]) ∧ RdB w' w'.heap.size A bs ∧ Below w.heap.size w w'

theorem OpenP.q {w : World} {k : Nat} {ss : List UInt8} {e : Ending} {w' : World} (h : OpenP w k ss e w') : OpenQ w (oB (openN k ss)) (oE (openN k ss)) e w' := by
  obtain ⟨⟨h, rfl⟩ | ⟨p, h, A, C, rfl, hra, _⟩, hb⟩ := h
  · rw [h]
    exact ⟨none, 0, rfl, .inl rfl, hb⟩
  · rw [h]
    exact ⟨A, C, rfl, hra, hb⟩

/-- What Seal answers: bytes, and a number. -/
def sealB (k : Option Nat) (bs : List UInt8) : List UInt8 := match k with | some k => bs ++ sumB k bs | none => []
/-- What Open answers of any kind. -/
def openB (k : Option Nat) (bs : List UInt8) : List UInt8 := match k with | some k => oB (openN k bs) | none => []
def openE (k : Option Nat) (bs : List UInt8) : Int := match k with | some k => oE (openN k bs) | none => 2

/-- A kind's number, if it is one. -/
def kNat (x : Int) : Option Nat := if isK x = true then some x.toNat else none

theorem openQ_any (x : Int) (a : Option Addr) (n c : Nat) (ss : List UInt8) (hn : n = ss.length) (w : World) (hlen : ss.length ≤ 140737488355328) (hr : RdB w w.heap.size a ss) :
    Calls Try.prog 14 #[.int .i64 x, .slice a n c] w (OpenQ w (openB (kNat x) ss) (openE (kNat x) ss)) := by
  by_cases hx : isK x = true
  · obtain ⟨k, hk, rfl⟩ := isK_nat hx
    have e : kNat (k : Int) = some k := by simp [kNat, hx]
    rw [e]
    exact (open_any k hk a n c ss hn w hlen hr).mono fun e w' h => h.q
  · have e : kNat x = none := by simp [kNat, hx]
    rw [e]
    refine (open_no x (by simpa using hx) a n c w).mono ?_
    rintro e w' ⟨rfl, hb⟩
    exact ⟨none, 0, rfl, .inl rfl, hb⟩

theorem refOpenQ_any (x : Int) (a : Option Addr) (n c : Nat) (ss : List UInt8) (hn : n = ss.length) (w : World) (hc : ss.length ≤ c) (hlen : ss.length ≤ 140737488351232) (hr : RdB w w.heap.size a ss) :
    Calls Try.prog 15 #[.int .i64 x, .slice a n c] w (OpenQ w (openB (kNat x) ss) (openE (kNat x) ss)) := by
  by_cases hx : isK x = true
  · obtain ⟨k, hk, rfl⟩ := isK_nat hx
    have e : kNat (k : Int) = some k := by simp [kNat, hx]
    rw [e]
    exact (refOpen_any k hk a n c ss hn w hc hlen hr).mono fun e w' h => h.q
  · have e : kNat x = none := by simp [kNat, hx]
    rw [e]
    refine (refOpen_no x (by simpa using hx) a n c w).mono ?_
    rintro e w' ⟨rfl, rfl⟩
    exact ⟨none, 0, rfl, .inl rfl, Below.refl _ _⟩

theorem lent_cut {w : World} {base : Nat} {v : Value} {bs : List UInt8} (h : OwnV w base 5 v (([] ++ bs.map encB) ++ [.int .u8 77])) :
    ∃ g cap, v = .slice (some ⟨g, 0, none⟩) (bs.length + 1) cap ∧ bs.length + 1 ≤ cap ∧ RdB w w.heap.size (some ⟨g, 0, none⟩) (bs ++ [77]) := by
  obtain ⟨g, cap, h1, _, _, h2, h3⟩ := lent_form h
  exact ⟨g, cap, h1, h2, h3⟩

/-- The number beside what Seal answers. -/
def sealE (k : Option Nat) : Int := if k = none then 2 else 0

theorem sealQ_any (x : Int) (a : Option Addr) (n c : Nat) (bs : List UInt8) (hn : n = bs.length) (w : World) (hlen : bs.length ≤ 140737488351232) (hc : n ≤ c) (hr : RdB w w.heap.size a bs) :
    Calls Try.prog 13 #[.int .i64 x, .slice a n c] w (OpenQ w (sealB (kNat x) bs) (sealE (kNat x))) := by
  by_cases hx : isK x = true
  · obtain ⟨k, hk, rfl⟩ := isK_nat hx
    have e : kNat (k : Int) = some k := by simp [kNat, hx]
    rw [e]
    refine (seal_ok k hk a n c bs hn w hlen hc hr).mono ?_
    rintro e w' ⟨v, rfl, ho, hb⟩
    obtain ⟨A, C, rfl, _, hra, _⟩ := ho.bytes
    exact ⟨A, C, rfl, hra, hb⟩
  · have e : kNat x = none := by simp [kNat, hx]
    rw [e]
    refine (seal_no x (by simpa using hx) a n c w).mono ?_
    rintro e w' ⟨rfl, hb⟩
    exact ⟨none, 0, rfl, .inl rfl, hb⟩

/-- What the last statement reads. -/
def T3 (B : Nat) (S P a : Option Addr) (ss bs : List UInt8) (w' : World) : Prop := RdB w' B S ss ∧ RdB w' B P bs ∧ RdB w' B a bs ∧ B ≤ w'.heap.size

theorem T3.later {B : Nat} {S P a : Option Addr} {ss bs : List UInt8} {w1 w2 : World} (h : T3 B S P a ss bs w1) (hb : Below w1.heap.size w1 w2) : T3 B S P a ss bs w2 :=
  ⟨h.1.below (hb.mono h.2.2.2), h.2.1.below (hb.mono h.2.2.2), h.2.2.1.below (hb.mono h.2.2.2), Nat.le_trans h.2.2.2 hb.size⟩

theorem T3.held {B : Nat} {S P a : Option Addr} {ss bs : List UInt8} {w1 : World} (h : T3 B S P a ss bs w1) (cs cp c : Nat) :
    ((convert 23 9 (.slice S ss.length cs)).run Try.prog w1 = .ok (.string ⟨ss.toArray⟩) w1 ∧ (convert 23 9 (.slice P bs.length cp)).run Try.prog w1 = .ok (.string ⟨bs.toArray⟩) w1 ∧
      (convert 23 9 (.slice a bs.length c)).run Try.prog w1 = .ok (.string ⟨bs.toArray⟩) w1) ∧ T3 B S P a ss bs w1 :=
  ⟨⟨h.1.text (P := Try.prog) 23 9 5 _ cs rfl Try.underlying23 Try.underlying5 Try.underlying9,
    h.2.1.text (P := Try.prog) 23 9 5 _ cp rfl Try.underlying23 Try.underlying5 Try.underlying9,
    h.2.2.1.text (P := Try.prog) 23 9 5 _ c rfl Try.underlying23 Try.underlying5 Try.underlying9⟩, h⟩

set_option maxRecDepth 100000 in
set_option maxHeartbeats 4000000 in
theorem walk_seals (x : Int) (a : Option Addr) (c : Nat) (bs : List UInt8) (w : World) (hc : bs.length ≤ c) (hr : RdB w w.heap.size a bs) :
    Calls Try.prog 4 #[.int .i64 x, .slice a bs.length c] w fun e w' => e = .returned (.bool true) ∧ Below w.heap.size w w' := by
  have HR := Lib.hid hr
  by_cases hsm : (3000 : Int) < (bs.length : Int)
  · clear hr
    go_enter Try.func4, Try.ntmps4
    go_wp2_with fail
    refine (works_any _).mono ?_
    rintro e w1 ⟨rfl, hb1⟩
    go_wp2
    go_ret
    exact ⟨rfl, hb1⟩
  have hsm2 : bs.length ≤ 3000 := by omega
  have hs := (hr.src).alloc (.cells #[] 5)
  have ho := OwnV.lit w w.heap.size 5 #[] (Nat.le_refl _) (by decide)
  have h1 := Lib.hid (encB_one bs)
  have hL1 : Hid (([] : List Value).length + (bs.map encB).length ≤ maxLen) := by simp [Hid, maxLen]; omega
  have hL2 : Hid ((([] : List Value).length + (bs.map encB).length) * 1 ≤ 140737488355328) := by simp [Hid]; omega
  have hM1 : Hid (([] ++ bs.map encB : List Value).length + ([.int .u8 77] : List Value).length ≤ maxLen) := by simp [Hid, maxLen]; omega
  have hM2 : Hid ((([] ++ bs.map encB : List Value).length + ([.int .u8 77] : List Value).length) * 1 ≤ 140737488355328) := by simp [Hid]; omega
  obtain ⟨ss, hss⟩ : ∃ ss, ss = sealB (kNat x) bs := ⟨_, rfl⟩
  obtain ⟨ge, hge⟩ : ∃ ge, ge = sealE (kNat x) := ⟨_, rfl⟩
  obtain ⟨ob, hob⟩ : ∃ ob, ob = openB (kNat x) bs := ⟨_, rfl⟩
  obtain ⟨oe, hoe⟩ : ∃ oe, oe = openE (kNat x) bs := ⟨_, rfl⟩
  have CS : Hid (∀ (a : Option Addr) (c : Nat) (w : World), bs.length ≤ c → RdB w w.heap.size a bs → Calls Try.prog 13 #[.int .i64 x, .slice a bs.length c] w (OpenQ w ss ge)) := by
    intro a c w h1 h2
    rw [hss, hge]
    exact sealQ_any x a _ c bs rfl w (by omega) h1 h2
  have CO : Hid (∀ (a : Option Addr) (c : Nat) (w : World), RdB w w.heap.size a bs → Calls Try.prog 14 #[.int .i64 x, .slice a bs.length c] w (OpenQ w ob oe)) := by
    intro a c w h2
    rw [hob, hoe]
    exact openQ_any x a _ c bs rfl w (by omega) h2
  have CR : Hid (∀ (a : Option Addr) (c : Nat) (w : World), bs.length ≤ c → RdB w w.heap.size a bs → Calls Try.prog 15 #[.int .i64 x, .slice a bs.length c] w (OpenQ w ob oe)) := by
    intro a c w h1 h2
    rw [hob, hoe]
    exact refOpenQ_any x a _ c bs rfl w h1 (by omega) h2
  have HSS := Lib.hid hss
  have HGE := Lib.hid hge
  clear hr hss hge hob hoe
  go_enter Try.func4, Try.ntmps4
  go_wp2_with (first | (at_builtin; refine wpList_app _ rfl (.tmp 20) (.tmp 21) 23 rfl w.heap.size 5 (.int .u8 0) 1 Try.underlying23 info_u8 rfl _ _ rfl ho _ _ _ _ rfl (List.length_map _) hs h1.out hL1.out hL2.out (by simp) ?_; intro v1 w1 hp; have b1 := ((Below.refl w.heap.size w).alloc (Nat.le_refl _) (.cells #[] 5)).trans (hp.below ho (by simp)); have hsz := b1.size) | (at_builtin; refine wpList_app _ rfl (.tmp 22) (.tmp 23) 23 rfl w.heap.size 5 (.int .u8 0) 1 Try.underlying23 info_u8 rfl _ _ rfl (hp.1.alloc _) _ _ _ [.int .u8 77] rfl rfl (src_one _ _ _) (by simp [Value.oneCell']) hM1.out hM2.out (by simp; omega) ?_; intro v2 w2 hp2; have b2 := (b1.alloc hsz _).trans (hp2.below (hp.1.alloc _) (by simp; omega)); obtain ⟨g, cap, rfl, hn, hm⟩ := lent_cut hp2.1; have hsl := fun w : World => run_cut1h (P := Try.prog) 23 5 Try.underlying23 size_u8 (some ⟨g, 0, none⟩) (bs.length + 1) cap bs.length (by omega) w))
  have HM := Lib.hid hm
  clear hm hp2 hp hs ho h1 hL1 hL2 hM1 hM2 hsl b1 hsz
  refine (CS.out _ cap w2 (by omega) (rd_front HM.out)).mono ?_
  rintro e w3 ⟨S, cs, rfl, hrS, hb3⟩
  have HRS := Lib.hid hrS
  clear hrS
  go_wp2_with fail
  refine (CO.out _ cap w3 ((rd_front (HM.out.below hb3)).mono hb3.size)).mono ?_
  rintro e w4 ⟨O, co, rfl, hrO, hb4⟩
  have HRO := Lib.hid hrO
  clear hrO
  have B4 := below_on (below_on b2 hb3) hb4
  go_wp2_with fail
  refine (CR.out a c w4 hc ((HR.out.below B4).mono B4.size)).mono ?_
  rintro e w5 ⟨Q, cq, rfl, hrQ, hb5⟩
  have B5 := below_on B4 hb5
  have B25 := below_on (below_on hb3 hb4) hb5
  have k1 := (HRO.out.below hb5).text (P := Try.prog) 23 9 5 _ co rfl Try.underlying23 Try.underlying5 Try.underlying9
  have k2 := hrQ.text (P := Try.prog) 23 9 5 _ cq rfl Try.underlying23 Try.underlying5 Try.underlying9
  have k3 := (rd_front (HM.out.below B25)).text (P := Try.prog) 23 9 5 _ cap rfl Try.underlying23 Try.underlying5 Try.underlying9
  have k4 := (HR.out.below B5).text (P := Try.prog) 23 9 5 _ c rfl Try.underlying23 Try.underlying5 Try.underlying9
  have hcx := behind_cell (HM.out.below B25)
  have hsl := fun w : World => run_cut1h (P := Try.prog) 23 5 Try.underlying23 size_u8 (some ⟨g, 0, none⟩) bs.length cap (bs.length + 1) (by omega) w
  have ec : ((bs.length + 1 : Nat) : Int) = (bs.length : Int) + 1 := by omega
  rw [ec] at hsl
  have HS5 : Hid (RdB w5 w5.heap.size S ss) := (HRS.out.below (below_on hb4 hb5)).mono (below_on hb4 hb5).size
  have H5 := Lib.hid B5
  clear ec hrQ hb3 hb4 hb5 B4 B5 B25 b2
  go_wp2_with (go_at_call 10; refine (num_any _ _).mono ?_; rintro e w' ⟨rfl, rfl⟩)
  refine (refKind_any _ _).mono ?_
  rintro e w6 ⟨rfl, rfl⟩
  cases hx : isK x
  · have ek : kNat x = none := by simp [kNat, hx]
    obtain rfl : ss = [] := by rw [HSS.out, ek]; rfl
    obtain rfl : ge = 2 := by rw [HGE.out, ek]; rfl
    go_wp2_with (go_at_call 10; refine (num_any _ _).mono ?_; rintro e w' ⟨rfl, rfl⟩)
    refine (works_any _).mono ?_
    rintro e w6 ⟨rfl, hb6⟩
    go_wp2
    go_ret
    exact ⟨rfl, below_on H5.out hb6⟩
  · obtain ⟨k, hk, rfl⟩ := isK_nat hx
    have ek : kNat (k : Int) = some k := by simp [kNat, hx]
    have hss : ss = bs ++ sumB k bs := by rw [HSS.out, ek]; rfl
    obtain rfl : ge = 0 := by rw [HGE.out, ek]; rfl
    have hsl' : ss.length ≤ 140737488355328 := by
      rw [hss, List.length_append, sumB_length]
      have := wdN_le k
      omega
    have CO2 : Hid (Calls Try.prog 14 #[.int .i64 k, .slice S ss.length cs] w5 (OpenQ w5 bs 0)) := by
      have h := openQ_any (k : Int) S _ cs ss rfl w5 hsl' HS5.out
      have e1 : openB (some k) ss = bs := by
        show oB (openN k ss) = bs
        rw [hss, openN_seal]
        rfl
      have e2 : openE (some k) ss = 0 := by
        show oE (openN k ss) = 0
        rw [hss, openN_seal]
        rfl
      rw [ek, e1, e2] at h
      exact h
    have CW : Hid (∀ w : World, RdB w w.heap.size a bs → Calls Try.prog 16 #[.int .i64 k, .slice a bs.length c] w (NewP w ss)) := by
      intro w h
      rw [hss]
      exact refSeal_any k hk a _ c bs rfl w (by omega) h
    clear hss hsl'
    go_wp2_with fail
    refine CO2.out.mono ?_
    rintro e w6 ⟨P, cp, rfl, hrP, hb6⟩
    have B6 := below_on H5.out hb6
    have F0 : T3 w6.heap.size S P a ss bs w6.drew := T3.later (w1 := w6) ⟨(HS5.out.below hb6).mono hb6.size, hrP, (HR.out.below B6).mono B6.size, Nat.le_refl _⟩ (Below.refl _ _).drew
    have H6 := Lib.hid B6
    clear hrP hb6 B6 k1 k2 k3 k4 hcx hsl
    go_wp2
    go_region_held (fun w' => ((convert 23 9 (.slice S ss.length cs)).run Try.prog w' = .ok (.string ⟨ss.toArray⟩) w' ∧ (convert 23 9 (.slice P bs.length cp)).run Try.prog w' = .ok (.string ⟨bs.toArray⟩) w' ∧
        (convert 23 9 (.slice a bs.length c)).run Try.prog w' = .ok (.string ⟨bs.toArray⟩) w') ∧ T3 w6.heap.size S P a ss bs w')
      (first | exact F0.held cs cp c | exact F1.held cs cp c | exact F2.held cs cp c)
      (first
        | (go_at_call 10; refine (num_any _ _).mono ?_; rintro e w' ⟨rfl, rfl⟩)
        | (go_at_call 16; refine (CW.out _ (F0.2.2.1.mono F0.2.2.2)).mono ?_; rintro e W1 ⟨Aj, cj, rfl, _, hrj, hbj⟩; have kj := hrj.text (P := Try.prog) 23 9 5 _ cj rfl Try.underlying23 Try.underlying5 Try.underlying9; have F1 := F0.later hbj; clear hrj)
        | (go_at_call 6; refine (works_any _).mono ?_; rintro e W2 ⟨rfl, hbw⟩; have F2 := F1.later hbw))
    go_wp2
    go_ret
    exact ⟨rfl, below_on (below_on (below_on H6.out (Below.refl _ _).drew) hbj) hbw⟩

end Go.Proofs.Ytjcfhkodfanbiaa
