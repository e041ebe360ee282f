/- Package disk: the questions, what is told. -/
import Derived.Test.YtekeooeapiodmaaZMapI
import Derived.Deep.QuietTactic
import Derived.BigQuiet
namespace Go.Proofs.Ytekeooeapiodmaa
open Go Go.RowKit Go.Shelf
set_option linter.unusedSimpArgs false
set_option linter.unusedVariables false
set_option maxRecDepth 100000

attribute [local go_sem] Oper.semAt_some

/-- What unless answers. -/
def unE (is : Bool) (e : Int) : Int := if is = true then 0 else e
theorem unless_any (is : Bool) (e : Int) (w : World) : Calls Try.prog 60 #[.bool is, .int .i64 e] w fun x w' => x = .returned (.int .i64 (unE is e)) ∧ w = w' := by
  cases is <;>
  · go_enter Try.func60, Try.ntmps60
    go_wp2_with fail
    go_ret
    exact ⟨rfl, rfl⟩

/-- A pointer at a disk of n sectors; of none: nil, or one that New didn't make. -/
def DkN (w : World) (v : Value) (n : Nat) : Prop := (v = .pointer none ∧ n = 0) ∨ ∃ p, v = .pointer (some ⟨p, 0, none⟩) ∧ w.cell? ⟨p, 0, none⟩ = some (.int .i64 n) ∧ p < w.heap.size

theorem DkN.on {w w' : World} {v : Value} {n : Nat} (h : DkN w v n) (hb : Below w.heap.size w w') : DkN w' v n := by
  rcases h with h | ⟨p, rfl, hc, hp⟩
  · exact .inl h
  · exact .inr ⟨p, rfl, (hb.cell (p := ⟨p, 0, none⟩) hp).trans hc, Nat.lt_of_lt_of_le hp hb.size⟩

theorem dnone_any (v : Value) (n : Nat) (w : World) (h : DkN w v n) : Calls Try.prog 46 #[v] w fun x w' => x = .returned (.bool (n == 0)) ∧ w = w' := by
  rcases h with ⟨rfl, rfl⟩ | ⟨p, rfl, hc, hp⟩
  · go_enter Try.func46, Try.ntmps46
    go_wp2_with fail
    go_ret
    exact ⟨rfl, rfl⟩
  · rcases Nat.eq_zero_or_pos n with rfl | h0
    · go_enter Try.func46, Try.ntmps46
      go_wp2_with fail
      go_ret
      exact ⟨rfl, rfl⟩
    · have h1 : ((n : Int) == 0) = false := by simp; omega
      have HN : Hid ((n == 0) = false) := by rw [Hid]; simp; omega
      clear h0
      go_enter Try.func46, Try.ntmps46
      go_wp2_with fail
      go_ret
      exact ⟨by rw [HN.out]; rfl, rfl⟩

theorem dthere_any (v : Value) (n : Nat) (w : World) (h : DkN w v n) : Calls Try.prog 31 #[v] w fun x w' => x = .returned (.int .i64 (unE (!(n == 0)) 1)) ∧ w = w' := by
  have HH := Lib.hid h
  have HN := Lib.hid (dnone_any v n w h)
  clear h
  go_enter Try.func31, Try.ntmps31
  go_wp2_with fail
  refine HN.out.mono ?_
  rintro e w' ⟨rfl, rfl⟩
  generalize hq : (n == 0) = q
  have HQ := Lib.hid hq
  clear hq
  go_wp2_with fail
  refine (unless_any _ _ _).mono ?_
  rintro e w' ⟨rfl, rfl⟩
  go_wp2_with fail
  go_ret
  exact ⟨by rw [HQ.out]; rfl, rfl⟩

theorem dworks_any' (p : Nat) (l : Int) (w : World) (hc : w.cell? ⟨p, 4, none⟩ = some (.int .i64 l)) : Calls Try.prog 50 #[.pointer (some ⟨p, 0, none⟩)] w fun x w' => x = .returned (.int .i64 (unE (l != 0) 190)) ∧ w = w' := by
  go_enter Try.func50, Try.ntmps50
  go_wp2_with fail
  generalize hq : (l != 0) = q
  have HQ := Lib.hid hq
  clear hq
  refine (unless_any _ _ _).mono ?_
  rintro e w' ⟨rfl, rfl⟩
  go_wp2_with fail
  go_ret
  exact ⟨by rw [HQ.out]; rfl, rfl⟩

/-- Is there a sector of that number? -/
def hasS (n : Nat) (k : Int) : Bool := decide (0 ≤ k) && decide (k < (n : Int))
theorem dhas_any (n : Nat) (k : Int) (w : World) : Calls Try.prog 67 #[.int .i64 n, .int .i64 k] w fun x w' => x = .returned (.bool (hasS n k)) ∧ w = w' := by
  by_cases h : 0 ≤ k
  · have h1 : decide (0 ≤ k) = true := by simpa using h
    have HH : Hid (hasS n k = decide (k < (n : Int))) := by rw [Hid, hasS, h1]; rfl
    clear h
    go_enter Try.func67, Try.ntmps67
    go_wp2_with fail
    go_ret
    exact ⟨by rw [HH.out]; rfl, rfl⟩
  · have h1 : decide (0 ≤ k) = false := by simpa using h
    have HH : Hid (hasS n k = false) := by rw [Hid, hasS, h1]; rfl
    clear h
    go_enter Try.func67, Try.ntmps67
    go_wp2_with fail
    go_ret
    exact ⟨by rw [HH.out]; rfl, rfl⟩

theorem told_no1 (e : Int) (he : e ≠ 0) (v : Value) (w : World) : Calls Try.prog 25 #[.int .i64 e, v] w fun x w' => x = .returned (.tuple #[.pointer none, .int .i64 e]) ∧ w = w' := by
  have h1 : (e != 0) = true := by simpa using he
  clear he
  go_enter Try.func25, Try.ntmps25
  go_wp2_with fail
  go_ret2
  exact ⟨rfl, rfl⟩
theorem told_yes1 (g : Nat) (fs lb : Array Value) (w : World) (R : Ending → World → Prop) (hent : ∀ args w, (callFunc g args).run Try.prog w = .ok (.enter g args) w)
    (h : Calls Try.prog g (fs ++ lb) w fun e w' => ∃ v, e = .returned v ∧ R (.returned (.tuple #[v, .int .i64 0])) w') : Calls Try.prog 25 #[.int .i64 0, .func (.func g) fs lb] w R := by
  have HC := Lib.hid h
  clear h
  go_enter Try.func25, Try.ntmps25
  go_wp2_with fail
  refine HC.out.mono ?_
  rintro e w1 ⟨v, rfl, hR⟩
  have HR := Lib.hid hR
  clear hR
  go_wp2_with fail
  exact HR.out
theorem told_yes2 (g : Nat) (fs lb : Array Value) (w : World) (R : Ending → World → Prop) (hent : ∀ args w, (callFunc g args).run Try.prog w = .ok (.enter g args) w)
    (h : Calls Try.prog g (fs ++ lb) w fun e w' => ∃ v, e = .returned v ∧ R (.returned (.tuple #[v, .int .i64 0])) w') : Calls Try.prog 30 #[.int .i64 0, .func (.func g) fs lb] w R := by
  have HC := Lib.hid h
  clear h
  go_enter Try.func30, Try.ntmps30
  go_wp2_with fail
  refine HC.out.mono ?_
  rintro e w1 ⟨v, rfl, hR⟩
  have HR := Lib.hid hR
  clear hR
  go_wp2_with fail
  exact HR.out
theorem told_yes3 (g : Nat) (fs lb : Array Value) (w : World) (R : Ending → World → Prop) (hent : ∀ args w, (callFunc g args).run Try.prog w = .ok (.enter g args) w)
    (h : Calls Try.prog g (fs ++ lb) w fun e w' => ∃ v, e = .returned v ∧ R (.returned (.tuple #[v, .int .i64 0])) w') : Calls Try.prog 38 #[.int .i64 0, .func (.func g) fs lb] w R := by
  have HC := Lib.hid h
  clear h
  go_enter Try.func38, Try.ntmps38
  go_wp2_with fail
  refine HC.out.mono ?_
  rintro e w1 ⟨v, rfl, hR⟩
  have HR := Lib.hid hR
  clear hR
  go_wp2_with fail
  exact HR.out

theorem told_no4 (e : Int) (he : e ≠ 0) (v : Value) (w : World) : Calls Try.prog 55 #[.int .i64 e, v] w fun x w' => x = .returned (.tuple #[.slice none 0 0, .int .i64 e]) ∧ w = w' := by
  have h1 : (e != 0) = true := by simpa using he
  clear he
  go_enter Try.func55, Try.ntmps55
  go_wp2_with fail
  go_ret2
  exact ⟨rfl, rfl⟩
theorem told_yes4 (g : Nat) (fs lb : Array Value) (w : World) (R : Ending → World → Prop) (hent : ∀ args w, (callFunc g args).run Try.prog w = .ok (.enter g args) w)
    (h : Calls Try.prog g (fs ++ lb) w fun e w' => ∃ v, e = .returned v ∧ R (.returned (.tuple #[v, .int .i64 0])) w') : Calls Try.prog 55 #[.int .i64 0, .func (.func g) fs lb] w R := by
  have HC := Lib.hid h
  clear h
  go_enter Try.func55, Try.ntmps55
  go_wp2_with fail
  refine HC.out.mono ?_
  rintro e w1 ⟨v, rfl, hR⟩
  have HR := Lib.hid hR
  clear hR
  go_wp2_with fail
  exact HR.out

/-- The question whether a disk has a sector. -/
theorem dwithin_any (q : Option Addr) (k : Int) (w : World) : Calls Try.prog 49 #[.pointer q, .int .i64 k] w fun x w' => x = .returned (.func (.func 66) #[] #[.pointer (some ⟨w.heap.size, 0, none⟩), .pointer (some ⟨w.heap.size + 1, 0, none⟩)]) ∧ w' = (w.alloc (.cells #[.pointer q] 23)).alloc (.cells #[.int .i64 k] 3) := by
  have hmf : ∀ (fn : Fn) (first cap : Array Value) (w : World), (Instr.makeFunc fn first cap).run Try.prog w = .ok (.func fn first cap) w := fun _ _ _ _ => rfl
  go_enter Try.func49, Try.ntmps49
  go_wp2_with fail
  go_ret
  exact ⟨rfl, rfl⟩

theorem dwithin1_any (p a b n : Nat) (k : Int) (w : World) (hc : w.cell? ⟨p, 0, none⟩ = some (.int .i64 n)) (ha : w.cell? ⟨a, 0, none⟩ = some (.pointer (some ⟨p, 0, none⟩))) (hb : w.cell? ⟨b, 0, none⟩ = some (.int .i64 k)) :
    Calls Try.prog 66 #[.pointer (some ⟨a, 0, none⟩), .pointer (some ⟨b, 0, none⟩)] w fun x w' => x = .returned (.int .i64 (unE (hasS n k) 4)) ∧ Below w.heap.size w w' := by
  go_enter Try.func66, Try.ntmps66
  go_wp2_with fail
  go_quiet (first | (go_at_call 67; exact Calls.quiet_of_same ((dhas_any n k _).mono fun _ _ h => ⟨h.1, h.2.symm⟩)) | (go_at_call 60; exact Calls.quiet_of_same ((unless_any (hasS n k) 4 _).mono fun _ _ h => ⟨h.1, h.2.symm⟩)))
  go_wp2_with fail
  go_ret
  exact ⟨rfl, below_dr (Below.refl _ _) _⟩

/-- The question whether bytes are as many as a sector has. -/
theorem dwhole_any (A : Option Addr) (n c : Nat) (w : World) : Calls Try.prog 48 #[.slice A n c] w fun x w' => x = .returned (.func (.func 65) #[] #[.pointer (some ⟨w.heap.size, 0, none⟩)]) ∧ w' = w.alloc (.cells #[.slice A n c] 57) := by
  have hmf : ∀ (fn : Fn) (first cap : Array Value) (w : World), (Instr.makeFunc fn first cap).run Try.prog w = .ok (.func fn first cap) w := fun _ _ _ _ => rfl
  go_enter Try.func48, Try.ntmps48
  go_wp2_with fail
  go_ret
  exact ⟨rfl, rfl⟩

theorem dwhole1_any (b n c : Nat) (A : Option Addr) (w : World) (hb : w.cell? ⟨b, 0, none⟩ = some (.slice A n c)) :
    Calls Try.prog 65 #[.pointer (some ⟨b, 0, none⟩)] w fun x w' => x = .returned (.int .i64 (unE (((n : Int) == 64)) 2)) ∧ w = w' := by
  go_enter Try.func65, Try.ntmps65
  go_wp2_with fail
  generalize hq : ((n : Int) == 64) = q
  have HQ := Lib.hid hq
  clear hq
  refine (unless_any _ _ _).mono ?_
  rintro e w' ⟨rfl, rfl⟩
  go_wp2_with fail
  go_ret
  exact ⟨by rw [HQ.out]; rfl, rfl⟩

/-- The question whether a disk may have so many sectors. -/
theorem dbounded_any (k : Int) (w : World) : Calls Try.prog 27 #[.int .i64 k] w fun x w' => x = .returned (.func (.func 59) #[] #[.pointer (some ⟨w.heap.size, 0, none⟩)]) ∧ w' = w.alloc (.cells #[.int .i64 k] 3) := by
  have hmf : ∀ (fn : Fn) (first cap : Array Value) (w : World), (Instr.makeFunc fn first cap).run Try.prog w = .ok (.func fn first cap) w := fun _ _ _ _ => rfl
  go_enter Try.func27, Try.ntmps27
  go_wp2_with fail
  go_ret
  exact ⟨rfl, rfl⟩

def bndS (k : Int) : Bool := decide (1 ≤ k) && decide (k ≤ 4096)
theorem dbounded1_any (b : Nat) (k : Int) (w : World) (hb : w.cell? ⟨b, 0, none⟩ = some (.int .i64 k)) :
    Calls Try.prog 59 #[.pointer (some ⟨b, 0, none⟩)] w fun x w' => x = .returned (.int .i64 (unE (bndS k) 2)) ∧ w = w' := by
  by_cases h : 1 ≤ k
  · have h1 : decide (1 ≤ k) = true := by simpa using h
    have HH : Hid (bndS k = decide (k ≤ 4096)) := by rw [Hid, bndS, h1]; rfl
    clear h
    go_enter Try.func59, Try.ntmps59
    go_wp2_with fail
    generalize hq : decide (k ≤ 4096) = q
    have HQ := Lib.hid hq
    clear hq
    refine (unless_any _ _ _).mono ?_
    rintro e w' ⟨rfl, rfl⟩
    go_wp2_with fail
    go_ret
    exact ⟨by rw [HH.out, HQ.out]; rfl, rfl⟩
  · have h1 : decide (1 ≤ k) = false := by simpa using h
    have HH : Hid (bndS k = false) := by rw [Hid, bndS, h1]; rfl
    clear h
    go_enter Try.func59, Try.ntmps59
    go_wp2_with fail
    refine (unless_any _ _ _).mono ?_
    rintro e w' ⟨rfl, rfl⟩
    go_wp2_with fail
    go_ret
    exact ⟨by rw [HH.out]; rfl, rfl⟩

end Go.Proofs.Ytekeooeapiodmaa

