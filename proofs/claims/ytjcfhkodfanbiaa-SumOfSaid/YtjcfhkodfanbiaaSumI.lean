/- The chapter's rows of package sum. -/
import Derived.Test.YtjcfhkodfanbiaaSumH
namespace Go.Proofs.Ytjcfhkodfanbiaa
open Go.RowKit Go.Shelf

theorem lit9 : #[Value.int .u8 49, .int .u8 50, .int .u8 51, .int .u8 52, .int .u8 53, .int .u8 54, .int .u8 55, .int .u8 56, .int .u8 57] = (([49, 50, 51, 52, 53, 54, 55, 56, 57] : List UInt8).map encB).toArray := by rfl
theorem lit4 : #[Value.int .u8 49, .int .u8 50, .int .u8 51, .int .u8 52] = (([49, 50, 51, 52] : List UInt8).map encB).toArray := by rfl
theorem lit5 : #[Value.int .u8 53, .int .u8 54, .int .u8 55, .int .u8 56, .int .u8 57] = (([53, 54, 55, 56, 57] : List UInt8).map encB).toArray := by rfl
theorem litHi : #[Value.int .u8 104, .int .u8 105] = (([104, 105] : List UInt8).map encB).toArray := by rfl
theorem litAbc : #[Value.int .u8 97, .int .u8 98, .int .u8 99] = (([97, 98, 99] : List UInt8).map encB).toArray := by rfl

theorem rdP_lit1 (w : World) (t u : TypeId) (f1 : Nat × Nat) (C1 : Array Value) (p1 : List UInt8) (n1 c1 : Nat) (h1 : C1 = (p1.map encB).toArray) (e1 : n1 = p1.length) (l1 : n1 ≤ c1) :
    RdP ((w.alloc (.cells C1 t f1)).alloc (.cells #[.slice (some ⟨w.heap.size, 0, none⟩) n1 c1] u)) ((w.alloc (.cells C1 t f1)).alloc (.cells #[.slice (some ⟨w.heap.size, 0, none⟩) n1 c1] u)).heap.size (some ⟨w.heap.size + 1, 0, none⟩) [p1] := by
  subst e1
  have r1 := arg_lit w t C1 f1 p1 h1
  have h := rdP_one (w.alloc (.cells C1 t f1)) _ (Nat.le_refl _) u _ c1 p1 r1 l1
  simp only [World.size_alloc] at h ⊢
  exact h

theorem rdP_lit2 (w : World) (t u : TypeId) (f1 f2 : Nat × Nat) (C1 C2 : Array Value) (p1 p2 : List UInt8) (n1 n2 c1 c2 : Nat) (h1 : C1 = (p1.map encB).toArray) (h2 : C2 = (p2.map encB).toArray) (e1 : n1 = p1.length) (e2 : n2 = p2.length) (l1 : n1 ≤ c1) (l2 : n2 ≤ c2) :
    RdP (((w.alloc (.cells C1 t f1)).alloc (.cells C2 t f2)).alloc (.cells #[.slice (some ⟨w.heap.size, 0, none⟩) n1 c1, .slice (some ⟨w.heap.size + 1, 0, none⟩) n2 c2] u))
      (((w.alloc (.cells C1 t f1)).alloc (.cells C2 t f2)).alloc (.cells #[.slice (some ⟨w.heap.size, 0, none⟩) n1 c1, .slice (some ⟨w.heap.size + 1, 0, none⟩) n2 c2] u)).heap.size (some ⟨w.heap.size + 1 + 1, 0, none⟩) [p1, p2] := by
  subst e1 e2
  have r1 := arg_lit2 w t t C1 C2 f1 f2 p1 h1
  have r2 := arg_litB w (.cells C1 t f1) t C2 f2 p2 h2
  have h := rdP_pair ((w.alloc (.cells C1 t f1)).alloc (.cells C2 t f2)) _ (Nat.le_refl _) u _ _ c1 c2 p1 p2 r1 r2 l1 l2
  simp only [World.size_alloc] at h ⊢
  exact h

theorem sum9s : sumN 1 [49, 50, 51, 52, 53, 54, 55, 56, 57] = 36974 := by decide +kernel
theorem sum9l : sumN 2 [49, 50, 51, 52, 53, 54, 55, 56, 57] = 3808858755 := by decide +kernel
theorem openHi : openN 1 [104, 105] = none := by decide +kernel
theorem openAbc : openN 2 [97, 98, 99] = none := by decide +kernel
theorem sealHi : ([104, 105] ++ sumB 1 [104, 105]).length = 4 := by decide +kernel

theorem ofShort (a : Option Addr) (c : Nat) (w : World) (hr : RdP w w.heap.size a [[49, 50, 51, 52, 53, 54, 55, 56, 57]]) :
    Calls Try.prog 7 #[.int .i64 1, .slice a 1 c] w fun e w' => e = .returned (.tuple #[.int .u32 36974, .int .i64 0]) ∧ Below w.heap.size w w' := by
  have h := of_ok 1 (by decide) a 1 c [[49, 50, 51, 52, 53, 54, 55, 56, 57]] [49, 50, 51, 52, 53, 54, 55, 56, 57] rfl rfl w (by decide) (by decide) hr
  rw [sum9s] at h
  exact h

theorem ofLong (a : Option Addr) (c : Nat) (w : World) (hr : RdP w w.heap.size a [[49, 50, 51, 52], [53, 54, 55, 56, 57]]) :
    Calls Try.prog 7 #[.int .i64 2, .slice a 2 c] w fun e w' => e = .returned (.tuple #[.int .u32 3808858755, .int .i64 0]) ∧ Below w.heap.size w w' := by
  have h := of_ok 2 (by decide) a 2 c [[49, 50, 51, 52], [53, 54, 55, 56, 57]] [49, 50, 51, 52, 53, 54, 55, 56, 57] rfl rfl w (by decide) (by decide) hr
  rw [sum9l] at h
  exact h

theorem ofThree (w : World) : Calls Try.prog 7 #[.int .i64 3, .slice none 0 0] w fun e w' => e = .returned (.tuple #[.int .u32 0, .int .i64 2]) ∧ Below w.heap.size w w' :=
  of_no 3 rfl none 0 0 w

theorem width2 (w : World) : Calls Try.prog 8 #[.int .i64 2] w fun e w' => e = .returned (.tuple #[.int .i64 4, .int .i64 0]) ∧ Below w.heap.size w w' :=
  width_ok 2 (by decide) w

theorem sealsHi (a : Option Addr) (c : Nat) (w : World) (hc : 2 ≤ c) (hr : RdB w w.heap.size a [104, 105]) :
    Calls Try.prog 13 #[.int .i64 1, .slice a 2 c] w fun e w' => ∃ A C, e = .returned (.tuple #[.slice A 4 C, .int .i64 0]) ∧ RdB w' w'.heap.size A ([104, 105] ++ sumB 1 [104, 105]) ∧ Below w.heap.size w w' := by
  refine (seal_ok 1 (by decide) a 2 c [104, 105] rfl w (by decide) hc hr).mono ?_
  rintro e w' ⟨v, rfl, ho, hb⟩
  obtain ⟨A, C, rfl, _, hra, _⟩ := ho.bytes
  rw [sealHi]
  exact ⟨A, C, rfl, hra, hb⟩

theorem opensHi (a : Option Addr) (c : Nat) (w : World) (hr : RdB w w.heap.size a ([104, 105] ++ sumB 1 [104, 105])) :
    Calls Try.prog 14 #[.int .i64 1, .slice a 4 c] w fun e w' => ∃ A C, e = .returned (.tuple #[.slice A 2 C, .int .i64 0]) ∧ RdB w' w'.heap.size A [104, 105] ∧ Below w.heap.size w w' := by
  refine (open_any 1 (by decide) a 4 c _ sealHi.symm w (by rw [sealHi]; decide) hr).mono ?_
  rintro e w' ⟨⟨h, _⟩ | ⟨p, h, A, C, rfl, hra, _⟩, hb⟩
  · rw [openN_seal] at h
    cases h
  · rw [openN_seal] at h
    injection h with h
    subst h
    exact ⟨A, C, rfl, hra, hb⟩

theorem opensNone (k : Nat) (hk : k ≤ 2) (a : Option Addr) (n c : Nat) (ss : List UInt8) (hn : n = ss.length) (w : World) (hlen : ss.length ≤ 140737488355328) (ho : openN k ss = none) (hr : RdB w w.heap.size a ss) :
    Calls Try.prog 14 #[.int .i64 k, .slice a n c] w fun e w' => e = .returned (.tuple #[.slice none 0 0, .int .i64 110]) ∧ Below w.heap.size w w' := by
  refine (open_any k hk a n c ss hn w hlen hr).mono ?_
  rintro e w' ⟨⟨_, rfl⟩ | ⟨p, h, _⟩, hb⟩
  · exact ⟨rfl, hb⟩
  · rw [ho] at h
    cases h

theorem opensBare (a : Option Addr) (c : Nat) (w : World) (hr : RdB w w.heap.size a [104, 105]) :
    Calls Try.prog 14 #[.int .i64 1, .slice a 2 c] w fun e w' => e = .returned (.tuple #[.slice none 0 0, .int .i64 110]) ∧ Below w.heap.size w w' :=
  opensNone 1 (by decide) a 2 c [104, 105] rfl w (by decide) openHi hr

theorem opensAbc (a : Option Addr) (c : Nat) (w : World) (hr : RdB w w.heap.size a [97, 98, 99]) :
    Calls Try.prog 14 #[.int .i64 2, .slice a 3 c] w fun e w' => e = .returned (.tuple #[.slice none 0 0, .int .i64 110]) ∧ Below w.heap.size w w' :=
  opensNone 2 (by decide) a 3 c [97, 98, 99] rfl w (by decide) openAbc hr

set_option maxRecDepth 100000 in
set_option maxHeartbeats 4000000 in
theorem works_any (w : World) :
    Calls Try.prog 6 #[] w fun e w' => e = .returned (.bool true) ∧ Below w.heap.size w w' := by
  have kc := fun (w : World) (C : Array Value) (n c : Nat) => Lib.run_convert_bytes_const (P := Try.prog) w 23 5 C n c Try.underlying23 Try.underlying5
  have kc1 := fun (w : World) (o : Obj) (C : Array Value) (n c : Nat) => Joins.run_convert_bytes_const_at (P := Try.prog) (w.alloc o) 23 5 C n c (w.heap.size + 1) (by simp) Try.underlying23 Try.underlying5
  go_enter Try.func6, Try.ntmps6
  go_wp2_with fail
  refine (ofShort _ _ _ (rdP_lit1 w 5 23 (9, 10) _ _ 9 9 lit9 rfl (Nat.le_refl _))).mono ?_
  rintro e w1 ⟨rfl, hb1⟩
  go_wp2_with fail
  refine (ofLong _ _ _ (rdP_lit2 w1 5 23 (4, 5) (5, 6) _ _ _ _ 4 5 4 5 lit4 lit5 rfl rfl (Nat.le_refl _) (Nat.le_refl _))).mono ?_
  rintro e w2 ⟨rfl, hb2⟩
  go_wp2_with fail
  refine (ofThree _).mono ?_
  rintro e w3 ⟨rfl, hb3⟩
  go_wp2_with fail
  refine (width2 _).mono ?_
  rintro e w4 ⟨rfl, hb4⟩
  go_wp2_with fail
  refine (sealsHi _ _ _ (by decide) (arg_lit w4 5 _ (2, 3) _ litHi)).mono ?_
  rintro e w5 ⟨A5, C5, rfl, hr5, hb5⟩
  have HR5 := Lib.hid hr5
  clear hr5
  go_wp2_with fail
  refine (opensHi _ _ _ HR5.out).mono ?_
  rintro e w6 ⟨A6, C6, rfl, hr6, hb6⟩
  have HR6 := Lib.hid hr6
  clear hr6
  go_wp2_with fail
  refine (opensBare _ _ _ (arg_lit w6 5 _ (2, 3) _ litHi)).mono ?_
  rintro e w7 ⟨rfl, hb7⟩
  go_wp2_with fail
  refine (opensAbc _ _ _ (arg_lit w7 5 _ (3, 4) _ litAbc)).mono ?_
  rintro e w8 ⟨rfl, hb8⟩
  have B68 : Below w6.heap.size w6 w8 := below_on (below_al (below_on (below_al (Below.refl _ _) _) hb7) _) hb8
  have k6 := (HR6.out.below B68).text (P := Try.prog) 23 9 5 2 C6 rfl Try.underlying23 Try.underlying5 Try.underlying9
  have B4 : Below w.heap.size w w4 := below_on (below_on (below_on (below_al (below_al (below_al (below_on (below_al (below_al (Below.refl _ _) _) _) hb1) _) _) _) hb2) hb3) hb4
  have B6 := below_on (below_on (below_al B4 _) hb5) hb6
  have H8 := Lib.hid (below_on B6 B68)
  clear hb1 hb2 hb3 hb4 hb5 hb6 hb7 hb8 B4 B6 B68
  go_wp2_with (go_at_call 10; refine (num_any _ _).mono ?_; rintro e w' ⟨rfl, rfl⟩)
  go_ret
  exact ⟨rfl, H8.out⟩

end Go.Proofs.Ytjcfhkodfanbiaa
