/- Joined texts. -/
import Derived.Test.YtiahakbkagipkaaGreatDoorZBa
import Derived.Recover
set_option maxHeartbeats 8000000
set_option linter.unusedSimpArgs false
set_option linter.unusedVariables false
set_option maxRecDepth 100000
namespace Go.Proofs.YtiahakbkagipkaaGreatDoor
open Go Go.RowKit Go.Shelf

attribute [local go_sem] Oper.semAt_some

structure Bl where
 t : Nat
 n : Nat
 s : Int
 d : List UInt8

def numB (t n : Nat) : Bool := if t = 1 then decide (n = 1) else decide (2 ≤ n) && decide (n ≤ 255)
def knB (t : Nat) : Bool := decide (t = 1 ∨ t = 6 ∨ t = 7 ∨ t = 10 ∨ t = 200)
def tellE (x : Ex) (t : Nat) (d : List UInt8) : Option Ex :=
 if t = 1 then some x else if t = 6 then (datD befI d).map fun p => ⟨p.1, p.2, x.g, x.l, x.c, x.b, x.xs⟩ else if t = 7 then (datD ageI d).map fun p => ⟨x.n, x.m, p, x.l, x.c, x.b, x.xs⟩
 else if t = 10 then (datD hopI d).map fun p => ⟨x.n, x.m, x.g, p.1, p.2, x.b, x.xs⟩ else if t = 200 then (datD patI d).map fun p => ⟨x.n, x.m, x.g, x.l, x.c, p.1, p.2⟩ else none
def lookE (x : Ex) (b : Bl) : Option Ex := if (knB b.t && (numB b.t b.n && isK b.s)) = true then tellE x b.t b.d else none

theorem bbox {w w' : World} {b : Bl} {a : Option Addr} {c : Nat} {t : TypeId} (h : Below (w.alloc (.cells #[.int .u64 b.t, .int .u64 b.n, .int .i64 b.s, .slice a b.d.length c] t)).heap.size (w.alloc (.cells #[.int .u64 b.t, .int .u64 b.n, .int .i64 b.s, .slice a b.d.length c] t)) w') : (w'.cell? ⟨w.heap.size, 0, none⟩ = some (.int .u64 b.t) ∧ w'.cell? ⟨w.heap.size, 1, none⟩ = some (.int .u64 b.n) ∧ w'.cell? ⟨w.heap.size, 2, none⟩ = some (.int .i64 b.s) ∧ w'.cell? ⟨w.heap.size, 3, none⟩ = some (.slice a b.d.length c)) :=
 ⟨box_at h 0, box_at h 1, box_at h 2, box_at h 3⟩

theorem numbered_any (b : Bl) (a : Option Addr) (c : Nat) (w : World) : Calls Tryz.prog 121 #[.agg #[.int .u64 b.t, .int .u64 b.n, .int .i64 b.s, .slice a b.d.length c]] w fun e w' => e = .returned (.bool (numB b.t b.n)) ∧ Below w.heap.size w w' := by
 obtain ⟨x0, x1, x2, x3⟩ := bbox (Below.refl (w.alloc (.cells #[.int .u64 b.t, .int .u64 b.n, .int .i64 b.s, .slice a b.d.length c] 65)).heap.size _)
 have HB : Hid (Below w.heap.size w (w.alloc (.cells #[.int .u64 b.t, .int .u64 b.n, .int .i64 b.s, .slice a b.d.length c] 65))) := below_al bR _
 by_cases h1 : b.t = 1
 ·have HN : Hid (numB b.t b.n = ((b.n : Int) == 1)) := by
    rw [Hid, numB, if_pos h1]
    by_cases h : b.n = 1
    ·rw [h]; rfl
    ·rw [decide_eq_false h]
     have : ¬ (b.n : Int) = 1 := by omega
     simp [this]
  have d1 : ((b.t : Int) == 1) = true := by rw [h1]; rfl
  clear h1
  go_enter Tryz.func121, Tryz.ntmps121
  go_wp2_with fail
  go_ret
  exact ⟨by rw [HN.out]; rfl, HB.out⟩
 ·have d1 : ((b.t : Int) == 1) = false := by have : ¬ (b.t : Int) = 1 := by omega
                                             simp [this]
  have HN : Hid (numB b.t b.n = (decide (2 ≤ b.n) && decide (b.n ≤ 255))) := if_neg h1
  clear h1
  by_cases h2 : 2 ≤ b.n
  ·have d2 : decide ((2 : Int) ≤ (b.n : Int)) = true := decide_eq_true (by omega)
   have HN2 : Hid (numB b.t b.n = decide ((b.n : Int) ≤ 255)) := by
    rw [Hid, HN.out, decide_eq_true h2, Bool.true_and]
    by_cases h : b.n ≤ 255
    ·rw [decide_eq_true h, decide_eq_true (by omega)]
    ·rw [decide_eq_false h, decide_eq_false (by omega)]
   clear h2
   go_enter Tryz.func121, Tryz.ntmps121
   go_wp2_with fail
   go_ret
   exact ⟨by rw [HN2.out]; rfl, HB.out⟩
  ·have d2 : decide ((2 : Int) ≤ (b.n : Int)) = false := decide_eq_false (by omega)
   have HN2 : Hid (numB b.t b.n = false) := by rw [Hid, HN.out, decide_eq_false h2, Bool.false_and]
   clear h2
   go_enter Tryz.func121, Tryz.ntmps121
   go_wp2_with fail
   go_ret
   exact ⟨by rw [HN2.out]; rfl, HB.out⟩

def bEnt (Bx t : Nat) : Option (Nat × Value) :=
 if t = 1 then some (0, .func (.func 112) #[] #[]) else if t = 6 then some (1, .func (.func 113) #[] #[.pointer (some ⟨Bx, 0, none⟩)]) else if t = 7 then some (2, .func (.func 115) #[] #[.pointer (some ⟨Bx, 0, none⟩)])
 else if t = 10 then some (3, .func (.func 117) #[] #[.pointer (some ⟨Bx, 0, none⟩)]) else if t = 200 then some (4, .func (.func 119) #[] #[.pointer (some ⟨Bx, 0, none⟩)]) else none

theorem find_ent (Bx t : Nat) : Instr.findNow (.int .u64) (.int .u64 (t : Int)) (bMap Bx).toList 0 = some (bEnt Bx t) := by
 unfold bEnt
 by_cases h1 : t = 1
 ·subst h1; rfl
 by_cases h2 : t = 6
 ·subst h2; rfl
 by_cases h3 : t = 7
 ·subst h3; rfl
 by_cases h4 : t = 10
 ·subst h4; rfl
 by_cases h5 : t = 200
 ·subst h5; rfl
 have g1 : ¬ (t : Int) = 1 := by omega
 have g2 : ¬ (t : Int) = 6 := by omega
 have g3 : ¬ (t : Int) = 7 := by omega
 have g4 : ¬ (t : Int) = 10 := by omega
 have g5 : ¬ (t : Int) = 200 := by omega
 have e1 : ((t : Int) == 1) = false := by simp [g1]
 have e2 : ((t : Int) == 6) = false := by simp [g2]
 have e3 : ((t : Int) == 7) = false := by simp [g3]
 have e4 : ((t : Int) == 10) = false := by simp [g4]
 have e5 : ((t : Int) == 200) = false := by simp [g5]
 simp [bMap, bE, Instr.findNow, Instr.sameNow, h1, h2, h3, h4, h5, e1, e2, e3, e4, e5]

def LookR (w : World) (X : Nat) (r : Option Ex) (e : Ending) (w' : World) : Prop := TellR w X r e w'

theorem look_any (b : Bl) (a : Option Addr) (c M Bx X : Nat) (x : Ex) (w : World) (hr : RdB w w.heap.size a b.d) (hc : b.d.length ≤ c) (hc47 : b.d.length ≤ 140737488355328) (ht : TabW w) (hx : ExAt w X x) (hB : w.cell? ⟨Bx, 0, none⟩ = some (.pointer (some ⟨X, 0, none⟩))) (hne : Bx ≠ X) (hM : w.heap[M]? = some (.map (bMap Bx) 5)) :
  Calls Tryz.prog 85 #[.agg #[.int .u64 b.t, .int .u64 b.n, .int .i64 b.s, .slice a b.d.length c], .map (some M)] w (LookR w X (lookE x b)) := by
 obtain ⟨W, hW⟩ : ∃ W, W = w.alloc (.cells #[.int .u64 b.t, .int .u64 b.n, .int .i64 b.s, .slice a b.d.length c] 65) := ⟨_, rfl⟩
 have HB0 : Hid (Below w.heap.size w W) := by rw [hW]; exact below_al bR _
 have HX : Hid (∀ w', Below W.heap.size W w' → (w'.cell? ⟨w.heap.size, 0, none⟩ = some (.int .u64 b.t) ∧ w'.cell? ⟨w.heap.size, 1, none⟩ = some (.int .u64 b.n) ∧ w'.cell? ⟨w.heap.size, 2, none⟩ = some (.int .i64 b.s) ∧ w'.cell? ⟨w.heap.size, 3, none⟩ = some (.slice a b.d.length c))) := fun w' h => by
  rw [hW] at h
  exact bbox h
 have hMl := (Array.getElem?_eq_some_iff.1 hM).1
 have hBl := World.block_lt_of_cell? w _ hB
 have HL : Hid (∀ w', Below w.heap.size w w' → (Instr.lookup 142 (.map (some M)) (.int .u64 (b.t : Int)) true).run Tryz.prog w' = .ok (.tuple #[entV (bEnt Bx b.t), .bool (bEnt Bx b.t).isSome]) w') := fun w' h => run_blookup w' M Bx b.t _ ((h.block M hMl).trans hM) (find_ent Bx b.t)
 have HTl : Hid (∀ w', Below w.heap.size w w' → RdB w' w'.heap.size a b.d ∧ TabW w' ∧ ExAt w' X x ∧ w'.cell? ⟨Bx, 0, none⟩ = some (.pointer (some ⟨X, 0, none⟩))) := fun w' h => ⟨(hr.below h).mono h.size, ht.on h, hx.on h, (h.cell (p := ⟨Bx, 0, none⟩) hBl).trans hB⟩
 have HNe := h_ hne
 have HXs := h_ hx.1
 have HLE : Hid (lookE x b = if (knB b.t && (numB b.t b.n && isK b.s)) = true then tellE x b.t b.d else none) := rfl
 have HNb := h_ (fun w => numbered_any b a c w)
 have HW := h_ hW
 clear hW hr ht hx hB hne hM hMl hBl
 obtain ⟨x0, x1, x2, x3⟩ := HX.out W bR
 have hlk := HL.out W HB0.out
 rw [HW.out] at x0 x1 x2 x3 hlk
 by_cases hk : b.t = 1 ∨ b.t = 6 ∨ b.t = 7 ∨ b.t = 10 ∨ b.t = 200
 rotate_left
 ·have h0 : bEnt Bx b.t = none := by
    unfold bEnt
    rw [if_neg (by omega), if_neg (by omega), if_neg (by omega), if_neg (by omega), if_neg (by omega)]
  have HQ : Hid (lookE x b = none) := by
   have h1 : knB b.t = false := decide_eq_false hk
   rw [Hid, HLE.out, h1]
   rfl
  rw [h0] at hlk
  simp only [Option.isSome, entV] at hlk
  clear hk h0
  go_enter Tryz.func85, Tryz.ntmps85
  go_wp2_with fail
  clear x0 x1 x2 x3 hlk
  rw [← HW.out]
  by_cases hs : isK b.s = true
  ·obtain ⟨k, hk2, hks⟩ := isK_nat hs
   have hwd := width_ok k hk2 W
   rw [← hks] at hwd
   refine hwd.mono ?_
   rintro e w1 ⟨rfl, hb1⟩
   have HB1 := h_ (below_on HB0.out hb1)
   clear hb1 hs hk2 hks hwd
   go_wp2_with fail
   refine (bneed_any false _).mono ?_
   rintro e w2 ⟨rfl, ⟨_, h⟩ | ⟨rfl, _⟩⟩
   ·cases h
   rw [gives_def]
   go_wp2_with fail
   exact ⟨rfl, But.of_below HB1.out, .inr ⟨rfl, HQ.out⟩⟩
  ·refine (width_no b.s (by simpa using hs) _).mono ?_
   rintro e w1 ⟨rfl, hb1⟩
   have HB1 := h_ (below_on HB0.out hb1)
   clear hb1 hs
   go_wp2_with fail
   refine (bneed_any false _).mono ?_
   rintro e w2 ⟨rfl, ⟨_, h⟩ | ⟨rfl, _⟩⟩
   ·cases h
   rw [gives_def]
   go_wp2_with fail
   exact ⟨rfl, But.of_below HB1.out, .inr ⟨rfl, HQ.out⟩⟩
 obtain ⟨i, v, hv⟩ : ∃ i v, bEnt Bx b.t = some (i, v) := by
  unfold bEnt
  rcases hk with h | h | h | h | h <;> rw [h] <;> exact ⟨_, _, rfl⟩
 have HV := h_ hv
 have hkn : knB b.t = true := decide_eq_true hk
 rw [hv] at hlk
 simp only [Option.isSome, entV] at hlk
 have HKn := h_ hk
 have HLE2 : Hid (lookE x b = if (numB b.t b.n && isK b.s) = true then tellE x b.t b.d else none) := by rw [Hid, HLE.out, hkn, Bool.true_and]
 clear hv hk hkn
 obtain ⟨nb, hnb⟩ : ∃ nb, nb = numB b.t b.n := ⟨_, rfl⟩
 rw [← hnb] at HNb HLE2
 clear hnb
 go_enter Tryz.func85, Tryz.ntmps85
 go_wp2_with fail
 clear x0 x1 x2 x3 hlk
 rw [← HW.out]
 by_cases hs : isK b.s = true
 rotate_left
 ·have hs2 : isK b.s = false := by simpa using hs
  have HQ : Hid (lookE x b = none) := by rw [Hid, HLE2.out, hs2, Bool.and_false]; rfl
  refine (width_no b.s hs2 _).mono ?_
  rintro e w1 ⟨rfl, hb1⟩
  have HB1 := h_ (below_on HB0.out hb1)
  obtain ⟨x0, x1, x2, x3⟩ := HX.out w1 hb1
  clear hb1 hs hs2
  go_wp2_with fail
  refine (HNb.out _).mono ?_
  rintro e w2 ⟨rfl, hb2⟩
  have HB2 := h_ (below_on HB1.out hb2)
  clear hb2 x0 x1 x2 x3
  cases nb
  ·go_wp2_with fail
   refine (bneed_any false _).mono ?_
   rintro e w3 ⟨rfl, ⟨_, h⟩ | ⟨rfl, _⟩⟩
   ·cases h
   rw [gives_def]
   go_wp2_with fail
   exact ⟨rfl, But.of_below HB2.out, .inr ⟨rfl, HQ.out⟩⟩
  ·go_wp2_with fail
   refine (bneed_any false _).mono ?_
   rintro e w3 ⟨rfl, ⟨_, h⟩ | ⟨rfl, _⟩⟩
   ·cases h
   rw [gives_def]
   go_wp2_with fail
   exact ⟨rfl, But.of_below HB2.out, .inr ⟨rfl, HQ.out⟩⟩
 obtain ⟨k, hk2, hks⟩ := isK_nat hs
 have hwd := width_ok k hk2 W
 rw [← hks] at hwd
 refine hwd.mono ?_
 rintro e w1 ⟨rfl, hb1⟩
 have HB1 := h_ (below_on HB0.out hb1)
 have HbW1 := h_ hb1
 obtain ⟨x0, x1, x2, x3⟩ := HX.out w1 hb1
 have HLE3 : Hid (lookE x b = if nb = true then tellE x b.t b.d else none) := by rw [Hid, HLE2.out, hs, Bool.and_true]
 clear hb1 hs hk2 hks hwd
 go_wp2_with fail
 refine (HNb.out _).mono ?_
 rintro e w2 ⟨rfl, hb2⟩
 have HB2 := h_ (below_on HB1.out hb2)
 have HbW2 := h_ (below_on HbW1.out hb2)
 clear hb2 x0 x1 x2 x3
 cases nb
 ·have HQ : Hid (lookE x b = none) := by rw [Hid, HLE3.out]; rfl
  go_wp2_with fail
  refine (bneed_any false _).mono ?_
  rintro e w3 ⟨rfl, ⟨_, h⟩ | ⟨rfl, _⟩⟩
  ·cases h
  rw [gives_def]
  go_wp2_with fail
  exact ⟨rfl, But.of_below HB2.out, .inr ⟨rfl, HQ.out⟩⟩
 have HQ : Hid (lookE x b = tellE x b.t b.d) := by rw [Hid, HLE3.out]; rfl
 go_wp2_with fail
 refine (bneed_any true _).mono ?_
 rintro e w3 ⟨rfl, ⟨rfl, _⟩ | ⟨_, h⟩⟩
 rotate_left
 ·cases h
 obtain ⟨x0, x1, x2, x3⟩ := HX.out w2 HbW2.out
 obtain ⟨hr2, ht2, hx2, hB2⟩ := HTl.out w2 HB2.out
 have HR2 := h_ hr2
 have HT2 := h_ ht2
 have HX2 := h_ hx2
 have HBx2 := h_ hB2
 obtain ⟨L, hL⟩ : ∃ L, L = b.d.length := ⟨_, rfl⟩
 rw [← hL] at hc hc47 x3 ⊢
 have HLn := h_ hL
 clear hr2 ht2 hx2 hB2 hL
 have fin : ∀ e' w', TellR w2 X (tellE x b.t b.d) e' w' → LookR w X (lookE x b) e' w' := fun e' w' h => by
  rw [HQ.out]
  exact ⟨(But.of_below HB2.out).trans h.1, h.2⟩
 have HFin := h_ fin
 clear fin
 rcases HKn.out with h | h | h | h | h
 ·have hv2 : v = .func (.func 112) #[] #[] := by
    have h9 := HV.out
    rw [h] at h9
    injection h9 with h9
    injection h9 with _ h9
    exact h9.symm
  subst hv2
  have HTe : Hid (tellE x b.t b.d = some x) := by rw [Hid, tellE, h]; rfl
  have HCl := h_ (tell1_any a L c X x w2 HX2.out)
  clear h
  go_wp2_with fail
  refine HCl.out.mono ?_
  rintro e w4 ⟨hbut, ⟨y, hy, rfl, hey⟩ | ⟨rfl, hn⟩⟩
  ·have HR4 : Hid (LookR w X (lookE x b) (.returned (.tuple #[])) w4) := HFin.out _ _ (by rw [HTe.out]; exact ⟨hbut, .inl ⟨y, hy, rfl, hey⟩⟩)
   clear hbut hy hey
   go_wp2_with fail
   first | go_end0 | skip
   exact HR4.out
  ·have HR4 : Hid (LookR w X (lookE x b) (gives 160) w4) := HFin.out _ _ (by rw [HTe.out]; exact ⟨hbut, .inr ⟨rfl, hn⟩⟩)
   rw [gives_def]
   clear hbut hn
   go_wp2_with fail
   exact ⟨by first | trivial | rfl, HR4.out⟩
 ·have hv2 : v = .func (.func 113) #[] #[.pointer (some ⟨Bx, 0, none⟩)] := by
    have h9 := HV.out
    rw [h] at h9
    injection h9 with h9
    injection h9 with _ h9
    exact h9.symm
  subst hv2
  have HTe : Hid (tellE x b.t b.d = (datD befI b.d).map fun p => ⟨p.1, p.2, x.g, x.l, x.c, x.b, x.xs⟩) := by rw [Hid, tellE, h]; rfl
  have HCl := h_ (tell2_any a L c b.d HLn.out Bx X x w2 HR2.out hc (by rw [← HLn.out]; exact hc47) HT2.out HX2.out HBx2.out HNe.out)
  clear h
  go_wp2_with fail
  refine HCl.out.mono ?_
  rintro e w4 ⟨hbut, ⟨y, hy, rfl, hey⟩ | ⟨rfl, hn⟩⟩
  ·have HR4 : Hid (LookR w X (lookE x b) (.returned (.tuple #[])) w4) := HFin.out _ _ (by rw [HTe.out]; exact ⟨hbut, .inl ⟨y, hy, rfl, hey⟩⟩)
   clear hbut hy hey
   go_wp2_with fail
   first | go_end0 | skip
   exact HR4.out
  ·have HR4 : Hid (LookR w X (lookE x b) (gives 160) w4) := HFin.out _ _ (by rw [HTe.out]; exact ⟨hbut, .inr ⟨rfl, hn⟩⟩)
   rw [gives_def]
   clear hbut hn
   go_wp2_with fail
   exact ⟨by first | trivial | rfl, HR4.out⟩
 ·have hv2 : v = .func (.func 115) #[] #[.pointer (some ⟨Bx, 0, none⟩)] := by
    have h9 := HV.out
    rw [h] at h9
    injection h9 with h9
    injection h9 with _ h9
    exact h9.symm
  subst hv2
  have HTe : Hid (tellE x b.t b.d = (datD ageI b.d).map fun p => ⟨x.n, x.m, p, x.l, x.c, x.b, x.xs⟩) := by rw [Hid, tellE, h]; rfl
  have HCl := h_ (tell3_any a L c b.d HLn.out Bx X x w2 HR2.out hc (by rw [← HLn.out]; exact hc47) HT2.out HX2.out HBx2.out HNe.out)
  clear h
  go_wp2_with fail
  refine HCl.out.mono ?_
  rintro e w4 ⟨hbut, ⟨y, hy, rfl, hey⟩ | ⟨rfl, hn⟩⟩
  ·have HR4 : Hid (LookR w X (lookE x b) (.returned (.tuple #[])) w4) := HFin.out _ _ (by rw [HTe.out]; exact ⟨hbut, .inl ⟨y, hy, rfl, hey⟩⟩)
   clear hbut hy hey
   go_wp2_with fail
   first | go_end0 | skip
   exact HR4.out
  ·have HR4 : Hid (LookR w X (lookE x b) (gives 160) w4) := HFin.out _ _ (by rw [HTe.out]; exact ⟨hbut, .inr ⟨rfl, hn⟩⟩)
   rw [gives_def]
   clear hbut hn
   go_wp2_with fail
   exact ⟨by first | trivial | rfl, HR4.out⟩
 ·have hv2 : v = .func (.func 117) #[] #[.pointer (some ⟨Bx, 0, none⟩)] := by
    have h9 := HV.out
    rw [h] at h9
    injection h9 with h9
    injection h9 with _ h9
    exact h9.symm
  subst hv2
  have HTe : Hid (tellE x b.t b.d = (datD hopI b.d).map fun p => ⟨x.n, x.m, x.g, p.1, p.2, x.b, x.xs⟩) := by rw [Hid, tellE, h]; rfl
  have HCl := h_ (tell4_any a L c b.d HLn.out Bx X x w2 HR2.out hc (by rw [← HLn.out]; exact hc47) HT2.out HX2.out HBx2.out HNe.out)
  clear h
  go_wp2_with fail
  refine HCl.out.mono ?_
  rintro e w4 ⟨hbut, ⟨y, hy, rfl, hey⟩ | ⟨rfl, hn⟩⟩
  ·have HR4 : Hid (LookR w X (lookE x b) (.returned (.tuple #[])) w4) := HFin.out _ _ (by rw [HTe.out]; exact ⟨hbut, .inl ⟨y, hy, rfl, hey⟩⟩)
   clear hbut hy hey
   go_wp2_with fail
   first | go_end0 | skip
   exact HR4.out
  ·have HR4 : Hid (LookR w X (lookE x b) (gives 160) w4) := HFin.out _ _ (by rw [HTe.out]; exact ⟨hbut, .inr ⟨rfl, hn⟩⟩)
   rw [gives_def]
   clear hbut hn
   go_wp2_with fail
   exact ⟨by first | trivial | rfl, HR4.out⟩
 ·have hv2 : v = .func (.func 119) #[] #[.pointer (some ⟨Bx, 0, none⟩)] := by
    have h9 := HV.out
    rw [h] at h9
    injection h9 with h9
    injection h9 with _ h9
    exact h9.symm
  subst hv2
  have HTe : Hid (tellE x b.t b.d = (datD patI b.d).map fun p => ⟨x.n, x.m, x.g, x.l, x.c, p.1, p.2⟩) := by rw [Hid, tellE, h]; rfl
  have HCl := h_ (tell5_any a L c b.d HLn.out Bx X x w2 HR2.out hc (by rw [← HLn.out]; exact hc47) HT2.out HX2.out HBx2.out HNe.out)
  clear h
  go_wp2_with fail
  refine HCl.out.mono ?_
  rintro e w4 ⟨hbut, ⟨y, hy, rfl, hey⟩ | ⟨rfl, hn⟩⟩
  ·have HR4 : Hid (LookR w X (lookE x b) (.returned (.tuple #[])) w4) := HFin.out _ _ (by rw [HTe.out]; exact ⟨hbut, .inl ⟨y, hy, rfl, hey⟩⟩)
   clear hbut hy hey
   go_wp2_with fail
   first | go_end0 | skip
   exact HR4.out
  ·have HR4 : Hid (LookR w X (lookE x b) (gives 160) w4) := HFin.out _ _ (by rw [HTe.out]; exact ⟨hbut, .inr ⟨rfl, hn⟩⟩)
   rw [gives_def]
   clear hbut hn
   go_wp2_with fail
   exact ⟨by first | trivial | rfl, HR4.out⟩

attribute [local go_sem] Oper.semAt_some

def put7 (w : World) (g : Nat) (v0 v1 v2 v3 v4 v5 v6 : Value) : World := (((((((w.setCell ⟨g, 0, none⟩ (v0)).setCell ⟨g, 1, none⟩ (v1)).setCell ⟨g, 2, none⟩ (v2)).setCell ⟨g, 3, none⟩ (v3)).setCell ⟨g, 4, none⟩ (v4)).setCell ⟨g, 5, none⟩ (v5)).setCell ⟨g, 6, none⟩ (v6))
theorem put7_row {w : World} {g : Nat} {u0 u1 u2 u3 u4 u5 u6 : Value} (h : RowB w g [u0, u1, u2, u3, u4, u5, u6]) (v0 v1 v2 v3 v4 v5 v6 : Value) : RowB (put7 w g v0 v1 v2 v3 v4 v5 v6) g [v0, v1, v2, v3, v4, v5, v6] := (((((((h.set 0 v0).set 1 v1).set 2 v2).set 3 v3).set 4 v4).set 5 v5).set 6 v6)
theorem put7_block {w : World} {g b : Nat} (h : b ≠ g) (v0 v1 v2 v3 v4 v5 v6 : Value) : (put7 w g v0 v1 v2 v3 v4 v5 v6).heap[b]? = w.heap[b]? := by
 unfold put7
 rw [Below.heap_setCell _ _ _ _ h, Below.heap_setCell _ _ _ _ h, Below.heap_setCell _ _ _ _ h, Below.heap_setCell _ _ _ _ h, Below.heap_setCell _ _ _ _ h, Below.heap_setCell _ _ _ _ h, Below.heap_setCell _ _ _ _ h]
theorem put7_size (w : World) (g : Nat) (v0 v1 v2 v3 v4 v5 v6 : Value) : (put7 w g v0 v1 v2 v3 v4 v5 v6).heap.size = w.heap.size := by simp [put7]
theorem put7_on {B g : Nat} {w0 w : World} (h : Below B w0 w) (hB : B ≤ g) (v0 v1 v2 v3 v4 v5 v6 : Value) : Below B w0 (put7 w g v0 v1 v2 v3 v4 v5 v6) := by
 unfold put7
 exact (((((((h.setCell (p := ⟨g, 0, none⟩) hB _).setCell (p := ⟨g, 1, none⟩) hB _).setCell (p := ⟨g, 2, none⟩) hB _).setCell (p := ⟨g, 3, none⟩) hB _).setCell (p := ⟨g, 4, none⟩) hB _).setCell (p := ⟨g, 5, none⟩) hB _).setCell (p := ⟨g, 6, none⟩) hB _)
theorem put7_other {w : World} {g b : Nat} (h : b ≠ g) (i : Nat) (v0 v1 v2 v3 v4 v5 v6 : Value) : (put7 w g v0 v1 v2 v3 v4 v5 v6).cell? ⟨b, i, none⟩ = w.cell? ⟨b, i, none⟩ := by
 have hb := put7_block (w := w) h v0 v1 v2 v3 v4 v5 v6
 generalize put7 w g v0 v1 v2 v3 v4 v5 v6 = w' at *
 exact World.cell?_of_block (a := ⟨b, i, none⟩) hb
theorem put7_new {w w' : World} {g : Nat} {A : Option Addr} {xs : List Cr} (h : NewX w w' A xs) (hg : g < w.heap.size) (v0 v1 v2 v3 v4 v5 v6 : Value) : NewX w (put7 w' g v0 v1 v2 v3 v4 v5 v6) A xs := by
 unfold put7
 exact (((((((h.set hg _).set hg _).set hg _).set hg _).set hg _).set hg _).set hg _)

def RdEx (w : World) (r : Except Int Ex) (e : Ending) (w' : World) : Prop :=
 Below w.heap.size w w' ∧ match r with
  | .ok y => ∃ A C, e = .returned (.agg #[.int .u32 y.n, .int .u32 y.m, .int .u64 y.g, .int .u8 y.l, .int .u8 y.c, .bool y.b, .slice A y.xs.length C]) ∧ y.xs.length ≤ C ∧ NewX w w' A y.xs
  | .error c => e = gives c
def TrEx (w : World) (r : Except Int Ex) (e : Ending) (w' : World) : Prop :=
 Below w.heap.size w w' ∧ match r with
  | .ok y => ∃ A C, e = .returned (.tuple #[.agg #[.int .u32 y.n, .int .u32 y.m, .int .u64 y.g, .int .u8 y.l, .int .u8 y.c, .bool y.b, .slice A y.xs.length C], .int .i64 0]) ∧ y.xs.length ≤ C ∧ NewX w w' A y.xs
  | .error c => e = .returned (.tuple #[.agg #[.int .u32 0, .int .u32 0, .int .u64 0, .int .u8 0, .int .u8 0, .bool false, .slice none 0 0], .int .i64 c])

def toldB (b : Bl) : Except Int Ex := match lookE ex0 b with
 | some y => .ok y
 | none => .error 160

theorem PathAt.newer {w w' : World} {X : Nat} {A : Option Addr} {xs : List Cr} (h : PathAt w' X A xs) (hX : w.heap.size ≤ X) : NewX w w' A xs := by
 rcases h with h | ⟨g, rfl, h1, h2, h3⟩
 ·exact .inl h
 ·exact .inr ⟨g, rfl, by omega, h2, h3⟩

theorem told_any (b : Bl) (a : Option Addr) (c : Nat) (w : World) (hr : RdB w w.heap.size a b.d) (hc : b.d.length ≤ c) (hc47 : b.d.length ≤ 140737488355328) (ht : TabW w) :
  Calls Tryz.prog 52 #[.agg #[.int .u64 b.t, .int .u64 b.n, .int .i64 b.s, .slice a b.d.length c]] w (RdEx w (toldB b)) := by
 obtain ⟨W1, hW1⟩ : ∃ W, W = w.alloc (.cells #[.int .u64 b.t, .int .u64 b.n, .int .i64 b.s, .slice a b.d.length c] 65) := ⟨_, rfl⟩
 have s1 : W1.heap.size = w.heap.size + 1 := by rw [hW1]; simp
 obtain ⟨W, hW⟩ : ∃ W, W = W1.alloc (.cells #[.int .u32 0, .int .u32 0, .int .u64 0, .int .u8 0, .int .u8 0, .bool false, .slice none 0 0] 46) := ⟨_, rfl⟩
 have s2 : W.heap.size = w.heap.size + 2 := by rw [hW]; simp [s1]
 have hb1 : Below w.heap.size w W1 := by rw [hW1]; exact below_al bR _
 have hb2 : Below W1.heap.size W1 W := by rw [hW]; exact below_al bR _
 have HB0 : Hid (Below w.heap.size w W) := below_on hb1 hb2
 have HX : Hid (∀ w', But (w.heap.size + 1) W w' → (w'.cell? ⟨w.heap.size, 0, none⟩ = some (.int .u64 b.t) ∧ w'.cell? ⟨w.heap.size, 1, none⟩ = some (.int .u64 b.n) ∧ w'.cell? ⟨w.heap.size, 2, none⟩ = some (.int .i64 b.s) ∧ w'.cell? ⟨w.heap.size, 3, none⟩ = some (.slice a b.d.length c))) := fun w' h => by
  have e : ∀ i, w'.cell? ⟨w.heap.size, i, none⟩ = W1.cell? ⟨w.heap.size, i, none⟩ := fun i => (h.cell (b := w.heap.size) (o := i) (by omega) (by omega)).trans (hb2.cell (p := ⟨w.heap.size, i, none⟩) (by show w.heap.size < _; omega))
  have q : (W1.cell? ⟨w.heap.size, 0, none⟩ = some (.int .u64 b.t) ∧ W1.cell? ⟨w.heap.size, 1, none⟩ = some (.int .u64 b.n) ∧ W1.cell? ⟨w.heap.size, 2, none⟩ = some (.int .i64 b.s) ∧ W1.cell? ⟨w.heap.size, 3, none⟩ = some (.slice a b.d.length c)) := by rw [hW1]; exact bbox bR
  exact ⟨(e 0).trans q.1, (e 1).trans q.2.1, (e 2).trans q.2.2.1, (e 3).trans q.2.2.2⟩
 have hex : ExAt W (w.heap.size + 1) ex0 := by
  refine ⟨by omega, none, 0, ?_, Nat.le_refl _, .inl rfl⟩
  have h := RowB.new W1 [.int .u32 0, .int .u32 0, .int .u64 0, .int .u8 0, .int .u8 0, .bool false, .slice none 0 0] 46
  rw [s1] at h
  rw [hW]
  exact h
 have HEx := h_ hex
 have HIn : Hid (∀ w', Below W.heap.size W w' → RdB w' w'.heap.size a b.d ∧ TabW w' ∧ ExAt w' (w.heap.size + 1) ex0) := fun w' h => ⟨(hr.below (below_on HB0.out h)).mono (below_on HB0.out h).size, ht.on (below_on HB0.out h), hex.on h⟩
 have HS2 : Hid (W.heap.size = w.heap.size + 2) := s2
 have HTd : Hid (toldB b = match lookE ex0 b with | some y => .ok y | none => .error 160) := rfl
 have HW : Hid (W = (w.alloc (.cells #[.int .u64 b.t, .int .u64 b.n, .int .i64 b.s, .slice a b.d.length c] 65)).alloc (.cells #[.int .u32 0, .int .u32 0, .int .u64 0, .int .u8 0, .int .u8 0, .bool false, .slice none 0 0] 46)) := by rw [← hW1]; exact hW
 clear hW1 hW s1 s2 hb1 hb2 hex hr ht
 go_enter Tryz.func52, Tryz.ntmps52
 go_wp2_with fail
 rw [← HW.out]
 have F0 : Below W.heap.size W W.drew := bR.drew
 refine wp_region_held_drew (S := fun w' => (w'.cell? ⟨w.heap.size, 0, none⟩ = some (.int .u64 b.t) ∧ w'.cell? ⟨w.heap.size, 1, none⟩ = some (.int .u64 b.n) ∧ w'.cell? ⟨w.heap.size, 2, none⟩ = some (.int .i64 b.s) ∧ w'.cell? ⟨w.heap.size, 3, none⟩ = some (.slice a b.d.length c))) (by kernel_rfl) (HX.out _ (But.of_below F0)) (fun hHeld => ?_)
 refine takeL 0 (v := ?_) ?_ ‹_› ?_
 rotate_left
 ·intro w hSw; (try dsimp only at hSw); go_simp; all_goals with_reducible rfl
 simp only [Act.put, zA, zB, zC]
 refine wpAnyH_ready (rs := [1]) (by kernel_rfl) (by simp) (.cons rfl (fun K hK => ?_) .nil)
 go_simp
 refine (btypes_any (w.heap.size + 1) _).mono ?_
 rintro e w1 ⟨rfl, hw1⟩
 have F1 : Below W.heap.size W w1 := by rw [hw1]; exact below_al (below_al F0 _) _
 have hz : W.drew.heap.size = W.heap.size := rfl
 have hBx : w1.cell? ⟨W.heap.size, 0, none⟩ = some (.pointer (some ⟨w.heap.size + 1, 0, none⟩)) := by
  rw [hw1, World.cell?_alloc_lt _ _ _ (by simp [hz]), ← hz, World.cell?_alloc_mark]
  rfl
 have hMm : w1.heap[W.heap.size + 1]? = some (.map (bMap W.heap.size) 5) := by
  rw [hw1]
  have h := map_at (W.drew.alloc (.cells #[.pointer (some ⟨w.heap.size + 1, 0, none⟩)] 144)) (bMap W.drew.heap.size) 5
  rw [World.size_alloc, hz] at h
  exact h
 rw [hz]
 have HBx := h_ hBx
 have HMm := h_ hMm
 clear hw1 hz hBx hMm
 refine hK.out _ _ (HX.out _ (But.of_below F1)) (fun hHeld => ?_)
 clear hK K
 try simp only [Act.put, zA, zB, zC]
 refine wpAnyH_ready (rs := [2]) (by kernel_rfl) (by simp) (.cons rfl (fun K hK => ?_) .nil)
 go_simp
 have h1 := HIn.out w1 F1
 refine (look_any b a c (W.heap.size + 1) W.heap.size (w.heap.size + 1) ex0 w1 h1.1 hc hc47 h1.2.1 h1.2.2 HBx.out (by have := HS2.out; omega) HMm.out).mono ?_
 clear h1
 rintro e w2 ⟨hbut, ⟨y, hy, rfl, hey⟩ | ⟨rfl, hn⟩⟩
 rotate_left
 ·rw [gives_def]
  have hbl : Below w.heap.size w w2 := (HB0.out.trans (F1.mono HB0.out.size)).trans (hbut.below (Nat.le_succ _) (Nat.le_trans HB0.out.size F1.size))
  exact ⟨rfl, hbl, by rw [HTd.out, hn]; rfl⟩
 have hbl : Below w.heap.size w w2 := (HB0.out.trans (F1.mono HB0.out.size)).trans (hbut.below (Nat.le_succ _) (Nat.le_trans HB0.out.size F1.size))
 have HBl := h_ hbl
 have HY := h_ hy
 have HEy := h_ hey
 have FB : But (w.heap.size + 1) W w2 := (But.of_below F1).trans hbut
 clear hbut hy hey hbl
 refine hK.out _ _ (HX.out _ FB) (fun hHeld => ?_)
 clear hK K
 try simp only [Act.put, zA, zB, zC]
 clear hHeld
 refine wpAnyH_done (by kernel_rfl) ?_ _
 obtain ⟨_, A, C, hrow, hC, hpa⟩ := HEy.out
 have HRow := h_ hrow
 have HPa := h_ hpa
 have HCx := h_ hC
 clear hrow hpa hC F0 F1 FB
 have r0 := HRow.out.1 0 _ rfl
 have fr0 := HRow.out.2 0
 have r1 := HRow.out.1 1 _ rfl
 have fr1 := HRow.out.2 1
 have r2 := HRow.out.1 2 _ rfl
 have fr2 := HRow.out.2 2
 have r3 := HRow.out.1 3 _ rfl
 have fr3 := HRow.out.2 3
 have r4 := HRow.out.1 4 _ rfl
 have fr4 := HRow.out.2 4
 have r5 := HRow.out.1 5 _ rfl
 have fr5 := HRow.out.2 5
 have r6 := HRow.out.1 6 _ rfl
 have fr6 := HRow.out.2 6
 go_wp2_with fail
 change bodyPost _ _ _ _ _ (put7 w2 (w.heap.size + 1) (.int .u32 y.n) (.int .u32 y.m) (.int .u64 y.g) (.int .u8 y.l) (.int .u8 y.c) (.bool y.b) (.slice A y.xs.length C))
 have hrow2 := put7_row HRow.out (.int .u32 y.n) (.int .u32 y.m) (.int .u64 y.g) (.int .u8 y.l) (.int .u8 y.c) (.bool y.b) (.slice A y.xs.length C)
 have hbk : Below w.heap.size w (put7 w2 (w.heap.size + 1) (.int .u32 y.n) (.int .u32 y.m) (.int .u64 y.g) (.int .u8 y.l) (.int .u8 y.c) (.bool y.b) (.slice A y.xs.length C)) := put7_on HBl.out (Nat.le_succ _) (.int .u32 y.n) (.int .u32 y.m) (.int .u64 y.g) (.int .u8 y.l) (.int .u8 y.c) (.bool y.b) (.slice A y.xs.length C)
 have hnx : NewX w (put7 w2 (w.heap.size + 1) (.int .u32 y.n) (.int .u32 y.m) (.int .u64 y.g) (.int .u8 y.l) (.int .u8 y.c) (.bool y.b) (.slice A y.xs.length C)) A y.xs := by
  have h9 : PathAt (put7 w2 (w.heap.size + 1) (.int .u32 y.n) (.int .u32 y.m) (.int .u64 y.g) (.int .u8 y.l) (.int .u8 y.c) (.bool y.b) (.slice A y.xs.length C)) (w.heap.size + 1) A y.xs := by unfold put7; exact (((((((HPa.out.set _).set _).set _).set _).set _).set _).set _)
  exact h9.newer (Nat.le_succ _)
 generalize put7 w2 (w.heap.size + 1) (.int .u32 y.n) (.int .u32 y.m) (.int .u64 y.g) (.int .u8 y.l) (.int .u8 y.c) (.bool y.b) (.slice A y.xs.length C) = w30 at *
 have k0 := hrow2.1 0 _ rfl
 have k1 := hrow2.1 1 _ rfl
 have k2 := hrow2.1 2 _ rfl
 have k3 := hrow2.1 3 _ rfl
 have k4 := hrow2.1 4 _ rfl
 have k5 := hrow2.1 5 _ rfl
 have k6 := hrow2.1 6 _ rfl
 refine bodyPost_ret (v := .agg #[.int .u32 y.n, .int .u32 y.m, .int .u64 y.g, .int .u8 y.l, .int .u8 y.c, .bool y.b, .slice A y.xs.length C]) (by simp [results, Tryz.results52, go_sem, k0, k1, k2, k3, k4, k5, k6]) rfl ⟨hbk, ?_⟩
 rw [HTd.out, HY.out]
 exact ⟨A, C, rfl, HCx.out, hnx⟩

theorem bassert_errno (v : Value) (w : World) : (Instr.typeAssert (.iface 28 v) 20 28 false).run Tryz.prog w = .ok v w := by
 simp [Instr.typeAssert, run_underlying Tryz.underlying28]

theorem catchX_gives (p : Addr) (x c : Int) (w : World) (hc : w.cell? p = some (.int .i64 x)) (hz : w.frozen? p = false) :
  CallsD Tryz.prog 83 #[.pointer (some p)] (.panicking [{ v := .iface 28 (.int .i64 c), recovered := false }]) w fun e u' w' =>
   e = .returned (.tuple #[]) ∧ u' = .panicking [{ v := .iface 28 (.int .i64 c), recovered := true }] ∧ w' = w.setCell p (.int .i64 c) := by
 refine callsD_of_wpS Tryz.func83 rfl fun c₀ cs hu => ?_
 apply wpS_seq
 apply wpS_region
 simp [wpOpsS, go_sem, recoverD, hu, Tryz.ntmps83, Exit.thenS]
 refine wpS_of_wp ?_
 change Code.wp _ _ _ { tmps := #[.pointer (some p), .iface 28 (.int .i64 c), .iface 28 (.int .i64 c), undef, undef, undef, undef], defers := [] } _
 have has := bassert_errno (.int .i64 c)
 go_wp2_with fail
 cases c₀
 simp_all [bodyPostS, results, Tryz.results83]

theorem catchX_idle (p : Addr) (w : World) :
  CallsD Tryz.prog 83 #[.pointer (some p)] .returning w fun e u' w' => e = .returned (.tuple #[]) ∧ u' = .returning ∧ w' = w := by
 refine callsD_of_wpS Tryz.func83 rfl fun c₀ cs hu => ?_
 apply wpS_seq
 apply wpS_region
 simp [wpOpsS, go_sem, recoverD, hu, Tryz.ntmps83, Exit.thenS]
 refine wpS_of_wp ?_
 change Code.wp _ _ _ { tmps := #[.pointer (some p), .nilIface, .nilIface, undef, undef, undef, undef], defers := [] } _
 go_wp2_with fail
 cases c₀
 simp_all [bodyPostS, results, Tryz.results83]

theorem triedX_any (fc : Nat) (fs lb : Array Value) (r : Except Int Ex) (w : World) (hent : ∀ args w, (callFunc fc args).run Tryz.prog w = .ok (.enter fc args) w) (hR : ∀ w', Below w.heap.size w w' → Calls Tryz.prog fc (fs ++ lb) w' (RdEx w' r)) :
  Calls Tryz.prog 43 #[.func (.func fc) fs lb] w (TrEx w r) := by
 have hmf : ∀ (fn : Fn) (first cap : Array Value) (w : World), (Instr.makeFunc fn first cap).run Tryz.prog w = .ok (.func fn first cap) w := fun _ _ _ _ => rfl
 obtain ⟨W, hW⟩ : ∃ W, W = (w.alloc (.cells #[.int .u32 0, .int .u32 0, .int .u64 0, .int .u8 0, .int .u8 0, .bool false, .slice none 0 0] 46)).alloc (.cells #[.int .i64 0] 28) := ⟨_, rfl⟩
 have hbW : Below w.heap.size w W := by rw [hW]; exact below_al (below_al bR _) _
 have hsW : W.heap.size = w.heap.size + 2 := by rw [hW]; simp
 have HRx : Hid (RowB W w.heap.size [.int .u32 0, .int .u32 0, .int .u64 0, .int .u8 0, .int .u8 0, .bool false, .slice none 0 0]) := by
  rw [hW]
  exact (RowB.new w [.int .u32 0, .int .u32 0, .int .u64 0, .int .u8 0, .int .u8 0, .bool false, .slice none 0 0] 46).on (below_al bR _) (by simp)
 have HRe : Hid (RowB W (w.heap.size + 1) [.int .i64 0]) := by
  have h := RowB.new (w.alloc (.cells #[.int .u32 0, .int .u32 0, .int .u64 0, .int .u8 0, .int .u8 0, .bool false, .slice none 0 0] 46)) [.int .i64 0] 28
  rw [World.size_alloc] at h
  rw [hW]
  exact h
 have HB := h_ hbW
 have HW := h_ hW
 have HSW := h_ hsW
 have HR := h_ (hR W hbW)
 clear hW hbW hR hsW
 go_enter_defers Tryz.func43, Tryz.ntmps43
 go_wp2_with fail
 rw [← HW.out]
 refine HR.out.mono ?_
 rintro e w1 ⟨hb1, hm⟩
 have hs2 := HSW.out
 have hx1 := HRx.out.on hb1 (by omega)
 have he1 := HRe.out.on hb1 (by omega)
 have HX1 := h_ hx1
 have HE1 := h_ he1
 have HB1 := h_ (HB.out.trans (hb1.mono HB.out.size))
 have ec : w1.cell? ⟨w.heap.size + 1, 0, none⟩ = some (.int .i64 0) := he1.1 0 _ rfl
 have ef := he1.2 0
 clear hb1 hs2 hx1 he1
 cases r with
 | error q =>
  have hm : e = gives q := hm
  subst hm
  rw [gives_def]
  go_wp2_with fail
  refine leaves_cons (f := 83) (args := #[.pointer (some ⟨w.heap.size + 1, 0, none⟩)]) (by simp) (by simp [go_sem]) ?_
  refine (catchX_gives ⟨w.heap.size + 1, 0, none⟩ 0 q w1 ec ef).mono ?_
  rintro e u' w'' ⟨rfl, rfl, rfl⟩
  have hrow := HX1.out.other (c := w.heap.size + 1) (i := 0) (Nat.succ_ne_self _) (.int .i64 q)
  have k99 : (w1.setCell ⟨w.heap.size + 1, 0, none⟩ (.int .i64 q)).cell? ⟨w.heap.size + 1, 0, none⟩ = some (.int .i64 q) := World.cell?_setCell_same _ _ _ ec
  have hP : TrEx w (.error q) (.returned (.tuple #[.agg #[.int .u32 0, .int .u32 0, .int .u64 0, .int .u8 0, .int .u8 0, .bool false, .slice none 0 0], .int .i64 q])) (w1.setCell ⟨w.heap.size + 1, 0, none⟩ (.int .i64 q)) := ⟨HB1.out.setCell (p := ⟨w.heap.size + 1, 0, none⟩) (Nat.le_succ _) _, rfl⟩
  generalize w1.setCell ⟨w.heap.size + 1, 0, none⟩ (.int .i64 q) = w9 at *
  have k0 := hrow.1 0 _ rfl
  have k1 := hrow.1 1 _ rfl
  have k2 := hrow.1 2 _ rfl
  have k3 := hrow.1 3 _ rfl
  have k4 := hrow.1 4 _ rfl
  have k5 := hrow.1 5 _ rfl
  have k6 := hrow.1 6 _ rfl
  simp [Leaves, settle, results, Tryz.results43, go_sem, k0, k1, k2, k3, k4, k5, k6, k99]
  exact hP
 | ok y =>
  obtain ⟨A, C, rfl, hC, hnx⟩ := hm
  have r0 := HX1.out.1 0 _ rfl
  have fr0 := HX1.out.2 0
  have r1 := HX1.out.1 1 _ rfl
  have fr1 := HX1.out.2 1
  have r2 := HX1.out.1 2 _ rfl
  have fr2 := HX1.out.2 2
  have r3 := HX1.out.1 3 _ rfl
  have fr3 := HX1.out.2 3
  have r4 := HX1.out.1 4 _ rfl
  have fr4 := HX1.out.2 4
  have r5 := HX1.out.1 5 _ rfl
  have fr5 := HX1.out.2 5
  have r6 := HX1.out.1 6 _ rfl
  have fr6 := HX1.out.2 6
  go_wp2_with fail
  change bodyPostD _ _ _ _ _ ((put7 w1 w.heap.size (.int .u32 y.n) (.int .u32 y.m) (.int .u64 y.g) (.int .u8 y.l) (.int .u8 y.c) (.bool y.b) (.slice A y.xs.length C)).setCell ⟨w.heap.size + 1, 0, none⟩ (.int .i64 0))
  have e9 := (put7_other (w := w1) (g := w.heap.size) (show w.heap.size + 1 ≠ w.heap.size from Nat.succ_ne_self _) 0 (.int .u32 y.n) (.int .u32 y.m) (.int .u64 y.g) (.int .u8 y.l) (.int .u8 y.c) (.bool y.b) (.slice A y.xs.length C)).trans ec
  have hrow2 := put7_row HX1.out (.int .u32 y.n) (.int .u32 y.m) (.int .u64 y.g) (.int .u8 y.l) (.int .u8 y.c) (.bool y.b) (.slice A y.xs.length C)
  have hbk : Below w.heap.size w (put7 w1 w.heap.size (.int .u32 y.n) (.int .u32 y.m) (.int .u64 y.g) (.int .u8 y.l) (.int .u8 y.c) (.bool y.b) (.slice A y.xs.length C)) := put7_on HB1.out (Nat.le_refl _) (.int .u32 y.n) (.int .u32 y.m) (.int .u64 y.g) (.int .u8 y.l) (.int .u8 y.c) (.bool y.b) (.slice A y.xs.length C)
  have hnx2 : NewX W (put7 w1 w.heap.size (.int .u32 y.n) (.int .u32 y.m) (.int .u64 y.g) (.int .u8 y.l) (.int .u8 y.c) (.bool y.b) (.slice A y.xs.length C)) A y.xs := put7_new hnx (by have := HSW.out; omega) (.int .u32 y.n) (.int .u32 y.m) (.int .u64 y.g) (.int .u8 y.l) (.int .u8 y.c) (.bool y.b) (.slice A y.xs.length C)
  generalize put7 w1 w.heap.size (.int .u32 y.n) (.int .u32 y.m) (.int .u64 y.g) (.int .u8 y.l) (.int .u8 y.c) (.bool y.b) (.slice A y.xs.length C) = w3 at *
  have hrow3 := hrow2.other (c := w.heap.size + 1) (i := 0) (Nat.succ_ne_self _) (.int .i64 0)
  have k99 : (w3.setCell ⟨w.heap.size + 1, 0, none⟩ (.int .i64 0)).cell? ⟨w.heap.size + 1, 0, none⟩ = some (.int .i64 0) := World.cell?_setCell_same _ _ _ e9
  have hP : TrEx w (.ok y) (.returned (.tuple #[.agg #[.int .u32 y.n, .int .u32 y.m, .int .u64 y.g, .int .u8 y.l, .int .u8 y.c, .bool y.b, .slice A y.xs.length C], .int .i64 0])) (w3.setCell ⟨w.heap.size + 1, 0, none⟩ (.int .i64 0)) := ⟨hbk.setCell (p := ⟨w.heap.size + 1, 0, none⟩) (Nat.le_succ _) _, A, C, rfl, hC, (hnx2.set (by have := HSW.out; omega) _).low HB.out.size⟩
  refine leaves_cons (f := 83) (args := #[.pointer (some ⟨w.heap.size + 1, 0, none⟩)]) (by simp) (by simp [go_sem]) ?_
  refine (catchX_idle ⟨w.heap.size + 1, 0, none⟩ _).mono ?_
  rintro e u' w'' ⟨rfl, rfl, rfl⟩
  generalize w3.setCell ⟨w.heap.size + 1, 0, none⟩ (.int .i64 0) = w9 at *
  have k0 := hrow3.1 0 _ rfl
  have k1 := hrow3.1 1 _ rfl
  have k2 := hrow3.1 2 _ rfl
  have k3 := hrow3.1 3 _ rfl
  have k4 := hrow3.1 4 _ rfl
  have k5 := hrow3.1 5 _ rfl
  have k6 := hrow3.1 6 _ rfl
  simp [Leaves, settle, results, Tryz.results43, go_sem, k0, k1, k2, k3, k4, k5, k6, k99]
  exact hP

def rightB (b : Bl) : Bool := (lookE ex0 b).isSome

theorem bright_any (b : Bl) (a : Option Addr) (c : Nat) (w : World) (hr : RdB w w.heap.size a b.d) (hc : b.d.length ≤ c) (hc47 : b.d.length ≤ 140737488355328) (ht : TabW w) :
  Calls Tryz.prog 23 #[.agg #[.int .u64 b.t, .int .u64 b.n, .int .i64 b.s, .slice a b.d.length c]] w fun e w' => e = .returned (.bool (rightB b)) ∧ Below w.heap.size w w' := by
 have hmf : ∀ (fn : Fn) (first cap : Array Value) (w : World), (Instr.makeFunc fn first cap).run Tryz.prog w = .ok (.func fn first cap) w := fun _ _ _ _ => rfl
 obtain ⟨W, hW⟩ : ∃ W, W = w.alloc (.cells #[.int .u64 b.t, .int .u64 b.n, .int .i64 b.s, .slice a b.d.length c] 65) := ⟨_, rfl⟩
 have HB0 : Hid (Below w.heap.size w W) := by rw [hW]; exact below_al bR _
 obtain ⟨x0, x1, x2, x3⟩ := bbox (b := b) (a := a) (c := c) (Below.refl (w.alloc (.cells #[.int .u64 b.t, .int .u64 b.n, .int .i64 b.s, .slice a b.d.length c] 65)).heap.size _)
 have HK := h_ (triedX_any 52 #[.agg #[.int .u64 b.t, .int .u64 b.n, .int .i64 b.s, .slice a b.d.length c]] #[] (toldB b) W (enters_of Tryz.func52 (by kernel_rfl) rfl) (fun w' h => by
  have h2 := below_on HB0.out h
  have h3 := told_any b a c w' ((hr.below h2).mono h2.size) hc hc47 (ht.on h2)
  simpa using h3))
 have HW := h_ hW
 clear hW hr ht
 go_enter Tryz.func23, Tryz.ntmps23
 go_wp2_with fail
 clear x0 x1 x2 x3
 rw [← HW.out]
 refine HK.out.mono ?_
 rintro e w1 ⟨hb1, hm⟩
 have HB1 := h_ (HB0.out.trans (hb1.mono HB0.out.size))
 clear hb1
 cases hl : lookE ex0 b with
 | none =>
  have hm : e = .returned (.tuple #[.agg #[.int .u32 0, .int .u32 0, .int .u64 0, .int .u8 0, .int .u8 0, .bool false, .slice none 0 0], .int .i64 160]) := by
   unfold toldB at hm
   rw [hl] at hm
   exact hm
  subst hm
  have HRi : Hid (rightB b = false) := by rw [Hid, rightB, hl]; rfl
  clear hl
  go_wp2_with fail
  go_ret
  exact ⟨by rw [HRi.out]; rfl, below_al HB1.out _⟩
 | some y =>
  have hm : ∃ A C, e = .returned (.tuple #[.agg #[.int .u32 y.n, .int .u32 y.m, .int .u64 y.g, .int .u8 y.l, .int .u8 y.c, .bool y.b, .slice A y.xs.length C], .int .i64 0]) ∧ y.xs.length ≤ C ∧ NewX W w1 A y.xs := by
   unfold toldB at hm
   rw [hl] at hm
   exact hm
  obtain ⟨A, C, rfl, _, _⟩ := hm
  have HRi : Hid (rightB b = true) := by rw [Hid, rightB, hl]; rfl
  clear hl
  go_wp2_with fail
  go_ret
  exact ⟨by rw [HRi.out]; rfl, below_al HB1.out _⟩

end Go.Proofs.YtiahakbkagipkaaGreatDoor
