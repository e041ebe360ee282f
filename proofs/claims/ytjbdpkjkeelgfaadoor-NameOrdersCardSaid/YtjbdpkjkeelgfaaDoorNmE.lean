/- Package name reads an endpoint's text. -/
import Derived.Test.YtjbdpkjkeelgfaaDoorNmD
namespace Go.Proofs.YtjbdpkjkeelgfaaDoor
open Go Go.RowKit Go.Shelf
set_option linter.unusedSimpArgs false
set_option linter.unusedVariables false

/-- Behind the library's variables. -/
def Up (R : Nat) : Prop := 0 < R ∧ 1 < R ∧ 2 < R

theorem gn0 : Tryd.prog.globalNamed "internal/strconv.uint64pow10" = some 0 := by kernel_rfl
theorem gn1 : Tryd.prog.globalNamed "strconv.ErrSyntax" = some 1 := by kernel_rfl
theorem gn2 : Tryd.prog.globalNamed "strconv.ErrRange" = some 2 := by kernel_rfl

theorem var_lt {P : Program} {w : World} {name : String} {cs : Array Value} {g : Nat} (h : w.var? P name = some cs) (hg : P.globalNamed name = some g) : g < w.heap.size := by
  unfold World.var? at h
  simp only [hg, Option.bind_some] at h
  cases hc : w.heap[g]? with
  | none => simp [hc] at h
  | some o => exact (Array.getElem?_eq_some_iff.1 hc).1

theorem var_keep {P : Program} {w w' : World} {name : String} {cs : Array Value} {g : Nat} (h : w.var? P name = some cs) (hg : P.globalNamed name = some g) (hk : w'.heap[g]? = w.heap[g]?) : w'.var? P name = some cs := by
  unfold World.var? at h ⊢
  simp only [hg, Option.bind_some] at h ⊢
  rw [hk]
  exact h

theorem TabN.up {w : World} {R : Nat} (h : TabN w) (hR : w.heap.size ≤ R) : Up R := by
  obtain ⟨h1, ⟨t2, p2, h2⟩, ⟨t3, p3, h3⟩⟩ := h
  exact ⟨Nat.lt_of_lt_of_le (var_lt h1 gn0) hR, Nat.lt_of_lt_of_le (var_lt h2 gn1) hR, Nat.lt_of_lt_of_le (var_lt h3 gn2) hR⟩

theorem TabN.bt {w w' : World} {R : Nat} (h : TabN w) (hb : Bt R w w') (hR : Up R) : TabN w' := by
  obtain ⟨h1, ⟨t2, p2, h2⟩, ⟨t3, p3, h3⟩⟩ := h
  obtain ⟨r0, r1, r2⟩ := hR
  exact ⟨var_keep h1 gn0 (hb.block _ (var_lt h1 gn0) (Nat.ne_of_lt r0)), ⟨t2, p2, var_keep h2 gn1 (hb.block _ (var_lt h2 gn1) (Nat.ne_of_lt r1))⟩, ⟨t3, p3, var_keep h3 gn2 (hb.block _ (var_lt h3 gn2) (Nat.ne_of_lt r2))⟩⟩

theorem until_yes {R : Nat} {c : UInt8} {s a b : List UInt8} (hc : c.toNat < 128) (hs : s.length ≤ 140737488355328) (h : cutL c s = some (a, b)) (w : World) (ht : TS w R s) :
    Calls Tryd.prog 71 #[.pointer (some ⟨R, 0, none⟩), .int .i32 (c.toNat : Int)] w fun e w' => e = .returned (.string ⟨a.toArray⟩) ∧ Bt R w w' ∧ TS w' R b :=
  (until_any R c hc s hs w ht).mono fun e w' ⟨h1, h2⟩ => by rw [h] at h2; exact ⟨h2.1, h1, h2.2⟩

theorem until_no {R : Nat} {c : UInt8} {s : List UInt8} (hc : c.toNat < 128) (hs : s.length ≤ 140737488355328) (h : cutL c s = none) (w : World) (ht : TS w R s) :
    Calls Tryd.prog 71 #[.pointer (some ⟨R, 0, none⟩), .int .i32 (c.toNat : Int)] w fun e w' => e = gives 130 ∧ Bt R w w' :=
  (until_any R c hc s hs w ht).mono fun e w' ⟨h1, h2⟩ => by rw [h] at h2; exact ⟨h2, h1⟩

theorem number_yes {s : List UInt8} {n : Nat} (hs : s.length ≤ 140737488355328) (h : numN s = some n) (w : World) (ht : TabN w) :
    Calls Tryd.prog 75 #[.string ⟨s.toArray⟩] w fun e w' => e = .returned (.int .u64 n) ∧ Below w.heap.size w w' :=
  (number_any s hs w ht).mono fun e w' ⟨h1, h2⟩ => by rw [h] at h2; exact ⟨h2, h1⟩

theorem number_no {s : List UInt8} (hs : s.length ≤ 140737488355328) (h : numN s = none) (w : World) (ht : TabN w) :
    Calls Tryd.prog 75 #[.string ⟨s.toArray⟩] w fun e w' => e = gives 130 ∧ Below w.heap.size w w' :=
  (number_any s hs w ht).mono fun e w' ⟨h1, h2⟩ => by rw [h] at h2; exact ⟨h2, h1⟩

theorem rest_any (R : Nat) (s : List UInt8) (w : World) (h : TS w R s) :
    Calls Tryd.prog 73 #[.pointer (some ⟨R, 0, none⟩)] w fun e w' => e = .returned (.string ⟨s.toArray⟩) ∧ Bt R w w' ∧ TS w' R [] := by
  have HT := Lib.hid h
  obtain ⟨h0, hf, hR⟩ := h
  obtain ⟨S, hS⟩ : ∃ S : ByteArray, S = ⟨s.toArray⟩ := ⟨_, rfl⟩
  rw [← hS] at h0 ⊢
  clear hS
  go_enter Tryd.func73, Tryd.ntmps73
  go_wp2
  go_ret
  exact ⟨rfl, Bt.set _ _, HT.out.set⟩

/-- A number that has room in 32 bits. -/
theorem short_yes (n : Nat) (h : n ≤ 4294967295) (w : World) : Calls Tryd.prog 88 #[.int .u64 n] w fun e w' => e = .returned (.int .u32 n) ∧ w' = w := by
  have h1 : (n : Int) ≤ 4294967295 := by omega
  have hw : IntKind.u32.wrap (n : Int) = (n : Int) := by rw [IntKind.wrap_u32]; omega
  go_enter Tryd.func88, Tryd.ntmps88
  go_wp2_with fail
  refine (need_yes _).mono ?_
  rintro e w3 ⟨rfl, rfl⟩
  go_wp2
  go_ret
  exact ⟨rfl, rfl⟩

theorem short_no (n : Nat) (h : ¬ n ≤ 4294967295) (w : World) : Calls Tryd.prog 88 #[.int .u64 n] w fun e w' => e = gives 130 ∧ w' = w := by
  have h1 : decide ((n : Int) ≤ 4294967295) = false := by simp; omega
  have h2 : ¬ (n : Int) ≤ 4294967295 := by omega
  have h3 : (4294967295 : Int) < (n : Int) := by omega
  go_enter Tryd.func88, Tryd.ntmps88
  go_wp2_with fail
  refine (need_no _).mono ?_
  rintro e w3 ⟨rfl, rfl⟩
  rw [gives_def]
  go_wp2_with fail
  exact ⟨rfl, rfl, rfl⟩

/-- May these two be an endpoint of a node? -/
def sv (n m : Nat) : Bool := decide (0 < n) && (decide (n ≤ 4294967295) && decide (m ≤ 4294967295))

theorem served_yes (n m : Nat) (h : sv n m = true) (w : World) : Calls Tryd.prog 74 #[.int .u64 n, .int .u64 m] w fun e w' => e = .returned (.agg #[.int .u32 n, .int .u32 m]) ∧ Below w.heap.size w w' := by
  simp [sv] at h
  obtain ⟨h0, h1, h2⟩ := h
  have hz : (0 : Int) < (n : Int) := by omega
  have HS1 := Lib.hid (fun w => short_yes n h1 w)
  have HS2 := Lib.hid (fun w => short_yes m h2 w)
  clear h1 h2
  go_enter Tryd.func74, Tryd.ntmps74
  go_wp2_with fail
  refine (need_yes _).mono ?_
  rintro e w3 ⟨rfl, rfl⟩
  go_wp2_with fail
  refine (HS1.out _).mono ?_
  rintro e w3 ⟨rfl, rfl⟩
  go_wp2_with fail
  refine (HS2.out _).mono ?_
  rintro e w3 ⟨rfl, rfl⟩
  go_wp2
  refine bodyPost_ret (v := .agg #[.int .u32 n, .int .u32 m]) (by simp [results, Tryd.results74, go_sem]) rfl ⟨rfl, ?_⟩
  exact (Below.refl _ _).alloc (Nat.le_refl _) _

theorem served_no (n m : Nat) (h : sv n m = false) (w : World) : Calls Tryd.prog 74 #[.int .u64 n, .int .u64 m] w fun e w' => e = gives 130 ∧ Below w.heap.size w w' := by
  by_cases h0 : 0 < n
  · have hz : (0 : Int) < (n : Int) := by omega
    by_cases h1 : n ≤ 4294967295
    · have h2 : ¬ m ≤ 4294967295 := by intro h2; simp [sv, h0, h1, h2] at h
      have HS1 := Lib.hid (fun w => short_yes n h1 w)
      have HS2 := Lib.hid (fun w => short_no m h2 w)
      clear h h1 h2
      go_enter Tryd.func74, Tryd.ntmps74
      go_wp2_with fail
      refine (need_yes _).mono ?_
      rintro e w3 ⟨rfl, rfl⟩
      go_wp2_with fail
      refine (HS1.out _).mono ?_
      rintro e w3 ⟨rfl, rfl⟩
      go_wp2_with fail
      refine (HS2.out _).mono ?_
      rintro e w3 ⟨rfl, rfl⟩
      rw [gives_def]
      go_wp2_with fail
      exact ⟨rfl, rfl, (Below.refl _ _).alloc (Nat.le_refl _) _⟩
    · have HS1 := Lib.hid (fun w => short_no n h1 w)
      clear h h1
      go_enter Tryd.func74, Tryd.ntmps74
      go_wp2_with fail
      refine (need_yes _).mono ?_
      rintro e w3 ⟨rfl, rfl⟩
      go_wp2_with fail
      refine (HS1.out _).mono ?_
      rintro e w3 ⟨rfl, rfl⟩
      rw [gives_def]
      go_wp2_with fail
      exact ⟨rfl, rfl, (Below.refl _ _).alloc (Nat.le_refl _) _⟩
  · obtain rfl : n = 0 := by omega
    clear h h0
    go_enter Tryd.func74, Tryd.ntmps74
    go_wp2_with fail
    refine (need_no _).mono ?_
    rintro e w3 ⟨rfl, rfl⟩
    rw [gives_def]
    go_wp2_with fail
    exact ⟨rfl, rfl, (Below.refl _ _).alloc (Nat.le_refl _) _⟩

end Go.Proofs.YtjbdpkjkeelgfaaDoor
