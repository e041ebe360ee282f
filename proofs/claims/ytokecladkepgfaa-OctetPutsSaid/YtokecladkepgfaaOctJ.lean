/- The chapter's rows hold ('works'), in whatever world. -/
import Derived.Test.YtokecladkepgfaaOctI
import Derived.Lib.SlBytesConst
import Derived.Lib.SmallJoins
namespace Go.Proofs.Ytokecladkepgfaa
open Go.RowKit Go.Shelf

theorem put258 (w : World) : Calls Try.prog 8 #[.int .u64 258, .int .i64 2] w fun e w' => ∃ a c, e = .returned (.tuple #[.slice a 2 c, .int .i64 0]) ∧ RdB w' w'.heap.size a [1, 2] ∧ Below w.heap.size w w' := by
  refine (put_ok 2 258 w rfl ⟨by decide, by decide⟩ rfl).mono ?_
  rintro e w' ⟨v, rfl, ⟨a, c, rfl, _, hr, _⟩, hb⟩
  have e1 : beB 2 258 = [1, 2] := by decide
  rw [e1] at hr
  exact ⟨a, c, by rw [e1]; rfl, hr, hb⟩

theorem put256 (w : World) : Calls Try.prog 8 #[.int .u64 256, .int .i64 1] w fun e w' => e = .returned (.tuple #[.slice none 0 0, .int .i64 4]) ∧ Below w.heap.size w w' :=
  put_range 1 256 w rfl ⟨by decide, by decide⟩ rfl

theorem put13 (w : World) : Calls Try.prog 8 #[.int .u64 1, .int .i64 3] w fun e w' => e = .returned (.tuple #[.slice none 0 0, .int .i64 2]) ∧ Below w.heap.size w w' :=
  put_arg 3 1 w rfl

/-- A literal's bytes. -/
theorem rdB_lit (w : World) (t : TypeId) (C : Array Value) (fr : Nat × Nat) (bs : List UInt8) (hC : C = (bs.map encB).toArray) : RdB (w.alloc (.cells C t fr)) (w.heap.size + 1) (some ⟨w.heap.size, 0, none⟩) bs := by
  refine .inr ⟨w.heap.size, 0, rfl, by omega, fun j hj => ?_⟩
  rw [Nat.zero_add, World.cell?_alloc_mark, hC]
  have := encB_at bs j hj
  simpa using this

theorem lit12 : #[Value.int .u8 1, .int .u8 2] = (([1, 2] : List UInt8).map encB).toArray := by rfl
theorem lit97 : #[Value.int .u8 97] = (([97] : List UInt8).map encB).toArray := by rfl
theorem lit98 : #[Value.int .u8 97, .int .u8 98] = (([97, 98] : List UInt8).map encB).toArray := by rfl
theorem lit99 : #[Value.int .u8 98, .int .u8 99] = (([98, 99] : List UInt8).map encB).toArray := by rfl
theorem litabc : #[Value.int .u8 97, .int .u8 98, .int .u8 99] = (([97, 98, 99] : List UInt8).map encB).toArray := by rfl
theorem litabcd : #[Value.int .u8 97, .int .u8 98, .int .u8 99, .int .u8 100] = (([97, 98, 99, 100] : List UInt8).map encB).toArray := by rfl
theorem lit100 : #[Value.int .u8 100] = (([100] : List UInt8).map encB).toArray := by rfl

/-- A literal's bytes, as an argument that is laid last, or last but one. -/
theorem arg_lit (w : World) (t : TypeId) (C : Array Value) (fr : Nat × Nat) (bs : List UInt8) (hC : C = (bs.map encB).toArray) :
    RdB (w.alloc (.cells C t fr)) (w.alloc (.cells C t fr)).heap.size (some ⟨w.heap.size, 0, none⟩) bs := by
  have := rdB_lit w t C fr bs hC
  rwa [World.size_alloc]

theorem arg_lit2 (w : World) (t u : TypeId) (C D : Array Value) (fr gr : Nat × Nat) (bs : List UInt8) (hC : C = (bs.map encB).toArray) :
    RdB ((w.alloc (.cells C t fr)).alloc (.cells D u gr)) ((w.alloc (.cells C t fr)).alloc (.cells D u gr)).heap.size (some ⟨w.heap.size, 0, none⟩) bs :=
  ((arg_lit w t C fr bs hC).below ((Below.refl _ _).alloc (Nat.le_refl _) _)).mono (by simp)

theorem arg_litB (w : World) (o : Obj) (t : TypeId) (C : Array Value) (fr : Nat × Nat) (bs : List UInt8) (hC : C = (bs.map encB).toArray) :
    RdB ((w.alloc o).alloc (.cells C t fr)) ((w.alloc o).alloc (.cells C t fr)).heap.size (some ⟨w.heap.size + 1, 0, none⟩) bs := by
  have := arg_lit (w.alloc o) t C fr bs hC
  simp only [World.size_alloc] at this ⊢
  exact this

theorem get12 (a : Option Addr) (c : Nat) (w : World) (hr : RdB w w.heap.size a [1, 2]) : Calls Try.prog 14 #[.slice a 2 c] w fun e w' => e = .returned (.tuple #[.int .u64 258, .int .i64 0]) ∧ Below w.heap.size w w' :=
  get_ok a c [1, 2] w rfl hr

theorem splitAbcd (a1 a2 : Option Addr) (c1 c2 : Nat) (w : World) (hr : RdB w w.heap.size a1 [97, 98, 99, 100]) (hz : RdI w w.heap.size a2 [1, 3]) :
    Calls Try.prog 21 #[.slice a1 4 c1, .slice a2 2 c2] w fun e w' => ∃ A c, e = .returned (.tuple #[.slice A 3 c, .int .i64 0]) ∧ RdP w' w'.heap.size A [[97], [98, 99], [100]] ∧ Below w.heap.size w w' := by
  refine (split_any a1 a2 c1 c2 [97, 98, 99, 100] [1, 3] w (by decide) (by decide) hr hz).mono ?_
  have e1 : cutAt [97, 98, 99, 100] 0 [1, 3] = some [[97], [98, 99], [100]] := by decide
  rintro e w' ⟨⟨h, _⟩ | ⟨ps, v, vs, h, rfl, ho, hp⟩, hb⟩
  · rw [e1] at h
    cases h
  · rw [e1] at h
    injection h with h
    subst h
    obtain ⟨A, c, rfl, hr⟩ := rdP_own ho hp
    exact ⟨A, c, rfl, hr, hb⟩

theorem splitAb (a1 a2 : Option Addr) (c1 c2 : Nat) (w : World) (hr : RdB w w.heap.size a1 [97, 98]) (hz : RdI w w.heap.size a2 [2, 1]) :
    Calls Try.prog 21 #[.slice a1 2 c1, .slice a2 2 c2] w fun e w' => e = .returned (.tuple #[.slice none 0 0, .int .i64 4]) ∧ Below w.heap.size w w' := by
  refine (split_any a1 a2 c1 c2 [97, 98] [2, 1] w (by decide) (by decide) hr hz).mono ?_
  have e1 : cutAt [97, 98] 0 [2, 1] = none := by decide
  rintro e w' ⟨⟨_, rfl⟩ | ⟨ps, v, vs, h, _⟩, hb⟩
  · exact ⟨rfl, hb⟩
  · rw [e1] at h
    cases h

/-- A literal's integers. -/
theorem rdI_lit (w : World) (t : TypeId) (C : Array Value) (zs : List Int) (hC : C = (zs.map (Value.int .i64)).toArray) : RdI (w.alloc (.cells C t)) (w.heap.size + 1) (some ⟨w.heap.size, 0, none⟩) zs := by
  refine .inr ⟨w.heap.size, 0, rfl, by omega, fun j hj => ?_⟩
  rw [Nat.zero_add, World.cell?_alloc_mark, hC]
  simp [List.getElem?_eq_getElem hj]

theorem argI_lit2 (w : World) (o : Obj) (t : TypeId) (C : Array Value) (zs : List Int) (hC : C = (zs.map (Value.int .i64)).toArray) :
    RdI ((w.alloc o).alloc (.cells C t)) ((w.alloc o).alloc (.cells C t)).heap.size (some ⟨w.heap.size + 1, 0, none⟩) zs := by
  have := rdI_lit (w.alloc o) t C zs hC
  simp only [World.size_alloc] at this ⊢
  exact this

/-- The pieces that the rows' own answer is made of. -/
theorem rdP_lit3 (w : World) (t u : TypeId) (f1 f2 f3 : Nat × Nat) (C1 C2 C3 : Array Value) (p1 p2 p3 : List UInt8) (n1 n2 n3 c1 c2 c3 : Nat)
    (h1 : C1 = (p1.map encB).toArray) (h2 : C2 = (p2.map encB).toArray) (h3 : C3 = (p3.map encB).toArray) (e1 : n1 = p1.length) (e2 : n2 = p2.length) (e3 : n3 = p3.length) (l1 : n1 ≤ c1) (l2 : n2 ≤ c2) (l3 : n3 ≤ c3) :
    RdP ((((w.alloc (.cells C1 t f1)).alloc (.cells C2 t f2)).alloc (.cells C3 t f3)).alloc (.cells #[.slice (some ⟨w.heap.size, 0, none⟩) n1 c1, .slice (some ⟨w.heap.size + 1, 0, none⟩) n2 c2, .slice (some ⟨w.heap.size + 1 + 1, 0, none⟩) n3 c3] u))
      (w.heap.size + 4) (some ⟨w.heap.size + 1 + 1 + 1, 0, none⟩) [p1, p2, p3] := by
  subst e1 e2 e3
  refine .inr ⟨w.heap.size + 1 + 1 + 1, 0, rfl, by omega, fun j hj => ?_⟩
  have hcell : ((((w.alloc (.cells C1 t f1)).alloc (.cells C2 t f2)).alloc (.cells C3 t f3)).alloc (.cells #[.slice (some ⟨w.heap.size, 0, none⟩) p1.length c1, .slice (some ⟨w.heap.size + 1, 0, none⟩) p2.length c2, .slice (some ⟨w.heap.size + 1 + 1, 0, none⟩) p3.length c3] u)).cell? ⟨w.heap.size + 1 + 1 + 1, 0 + j, none⟩ =
      #[Value.slice (some ⟨w.heap.size, 0, none⟩) p1.length c1, .slice (some ⟨w.heap.size + 1, 0, none⟩) p2.length c2, .slice (some ⟨w.heap.size + 1 + 1, 0, none⟩) p3.length c3][j]? := by
    have := World.cell?_alloc_mark (((w.alloc (.cells C1 t f1)).alloc (.cells C2 t f2)).alloc (.cells C3 t f3)) #[Value.slice (some ⟨w.heap.size, 0, none⟩) p1.length c1, .slice (some ⟨w.heap.size + 1, 0, none⟩) p2.length c2, .slice (some ⟨w.heap.size + 1 + 1, 0, none⟩) p3.length c3] u (0, 0) j
    simpa using this
  have r1 := rdB_lit w t C1 f1 p1 h1
  have r2 := rdB_lit (w.alloc (.cells C1 t f1)) t C2 f2 p2 h2
  have r3 := rdB_lit ((w.alloc (.cells C1 t f1)).alloc (.cells C2 t f2)) t C3 f3 p3 h3
  simp only [World.size_alloc] at r2 r3
  rw [hcell]
  simp at hj
  have hj3 : j = 0 ∨ j = 1 ∨ j = 2 := by omega
  rcases hj3 with rfl | rfl | rfl
  · exact ⟨_, _, rfl, l1, (r1.below ((((Below.refl _ _).alloc (by simp) _).alloc (by simp) _).alloc (by simp) _)).mono (by omega)⟩
  · exact ⟨_, _, rfl, l2, (r2.below (((Below.refl _ _).alloc (by simp) _).alloc (by simp) _)).mono (by omega)⟩
  · exact ⟨_, _, rfl, l3, (r3.below ((Below.refl _ _).alloc (by simp) _)).mono (by omega)⟩

theorem beginsAbc (a1 a2 : Option Addr) (c1 c2 : Nat) (w : World) (h1 : RdB w w.heap.size a1 [97, 98, 99]) (h2 : RdB w w.heap.size a2 [97, 98]) :
    Calls Try.prog 19 #[.slice a1 3 c1, .slice a2 2 c2] w fun e w' => e = .returned (.bool true) ∧ Below w.heap.size w w' :=
  begins_any a1 a2 c1 c2 [97, 98, 99] [97, 98] w h1 h2 (by decide) (by decide)

theorem least256 (w : World) : Calls Try.prog 11 #[.int .u64 256] w fun e w' => e = .returned (.int .i64 2) ∧ Below w.heap.size w w' :=
  least_any 256 w ⟨by decide, by decide⟩

set_option maxRecDepth 100000 in
set_option maxHeartbeats 4000000 in
theorem works_any (w : World) :
    Calls Try.prog 13 #[] w fun e w' => e = .returned (.bool true) ∧ Below w.heap.size w w' := by
  have kc := fun (w : World) (C : Array Value) (n c : Nat) => Lib.run_convert_bytes_const (P := Try.prog) w 23 5 C n c Try.underlying23 Try.underlying5
  have kc1 := fun (w : World) (o : Obj) (C : Array Value) (n c : Nat) => Joins.run_convert_bytes_const_at (P := Try.prog) (w.alloc o) 23 5 C n c (w.heap.size + 1) (by simp) Try.underlying23 Try.underlying5
  have kc2 := fun (w : World) (o o' : Obj) (C : Array Value) (n c : Nat) => Joins.run_convert_bytes_const_at (P := Try.prog) ((w.alloc o).alloc o') 23 5 C n c (w.heap.size + 1 + 1) (by simp) Try.underlying23 Try.underlying5
  go_enter Try.func13, Try.ntmps13
  go_wp2_with fail
  refine (put258 _).mono ?_
  rintro e w1 ⟨a, c, rfl, hra, hb1⟩
  go_wp2_with fail
  refine (put256 _).mono ?_
  rintro e w2 ⟨rfl, hb2⟩
  go_wp2_with fail
  refine (put13 _).mono ?_
  rintro e w3 ⟨rfl, hb3⟩
  go_wp2_with fail
  refine (get12 _ _ _ (arg_lit w3 5 _ (0, 0) _ lit12)).mono ?_
  rintro e w4 ⟨rfl, hb4⟩
  go_wp2_with fail
  have q4 := arg_lit2 w4 5 3 _ #[.int .i64 1, .int .i64 3] (4, 5) (0, 0) _ litabcd
  have i4 := argI_lit2 w4 (.cells #[Value.int .u8 97, .int .u8 98, .int .u8 99, .int .u8 100] 5 (4, 5)) 3 #[.int .i64 1, .int .i64 3] [1, 3] rfl
  refine (splitAbcd _ _ _ _ _ q4 i4).mono ?_
  rintro e w5 ⟨A, c', rfl, hpp, hb5⟩
  clear q4 i4
  go_wp2_with fail
  have q5 := arg_lit2 w5 5 3 _ #[.int .i64 2, .int .i64 1] (2, 3) (0, 0) _ lit98
  have i5 := argI_lit2 w5 (.cells #[Value.int .u8 97, .int .u8 98] 5 (2, 3)) 3 #[.int .i64 2, .int .i64 1] [2, 1] rfl
  refine (splitAb _ _ _ _ _ q5 i5).mono ?_
  rintro e w6 ⟨rfl, hb6⟩
  clear q5 i5
  have B16 : Below w1.heap.size w1 w6 := below_on (below_al (below_al (below_on (below_al (below_al (below_on (below_al (below_on hb2 hb3) _) hb4) _) _) hb5) _) _) hb6
  have B56 : Below w5.heap.size w5 w6 := below_on (below_al (below_al (Below.refl _ _) _) _) hb6
  have B06 := below_on hb1 B16
  have k1 := (hra.below B16).text (P := Try.prog) 23 9 5 2 c rfl Try.underlying23 Try.underlying5 Try.underlying9
  have hpp6 := (hpp.below B56).mono B56.size
  have H6 := Lib.hid B06
  clear hb1 hb2 hb3 hb4 hb5 hb6 B16 B56 B06 hra hpp
  go_wp2_with (go_at_call 10; refine (num_any _ _).mono ?_; rintro e w' ⟨rfl, rfl⟩)
  refine (least256 _).mono ?_
  rintro e w7 ⟨rfl, hb7⟩
  go_wp2_with fail
  have hpp7 := (hpp6.below hb7).mono hb7.size
  have hq := rdP_lit3 w7 5 23 (1, 2) (2, 3) (1, 2) _ _ _ _ _ _ 1 2 1 1 2 1 lit97 lit99 lit100 rfl rfl rfl (Nat.le_refl _) (Nat.le_refl _) (Nat.le_refl _)
  have hB7 : Below w7.heap.size w7 ((((w7.alloc (.cells #[.int .u8 97] 5 (1, 2))).alloc (.cells #[.int .u8 98, .int .u8 99] 5 (2, 3))).alloc (.cells #[.int .u8 100] 5 (1, 2))).alloc
      (.cells #[.slice (some ⟨w7.heap.size, 0, none⟩) 1 1, .slice (some ⟨w7.heap.size + 1, 0, none⟩) 2 2, .slice (some ⟨w7.heap.size + 1 + 1, 0, none⟩) 1 1] 23)) := below_al (below_al (below_al (below_al (Below.refl _ _) _) _) _) _
  refine (same_any _ _ _ _ [[97], [98, 99], [100]] [[97], [98, 99], [100]] _ (by decide) (by decide) (w7.heap.size + 4) ((hpp7.below hB7).mono (by omega)) hq).mono ?_
  rintro e w8 ⟨rfl, hm⟩
  have hb8 : Below w7.heap.size w7 w8 := by
    obtain ⟨m, rfl⟩ := hm
    exact below_dr hB7 m
  clear hq hpp7 hpp6 k1 hm hB7
  go_wp2_with (go_at_call 10; refine (num_any _ _).mono ?_; rintro e w' ⟨rfl, rfl⟩)
  have q8 := arg_lit2 w8 5 5 _ #[.int .u8 97, .int .u8 98] (3, 4) (2, 3) _ litabc
  have p8 := arg_litB w8 (.cells #[Value.int .u8 97, .int .u8 98, .int .u8 99] 5 (3, 4)) 5 _ (2, 3) _ lit98
  refine (beginsAbc _ _ _ _ _ q8 p8).mono ?_
  rintro e w9 ⟨rfl, hb9⟩
  clear q8 p8
  go_wp2
  go_ret
  exact ⟨rfl, below_on (below_al (below_al (below_on (below_on H6.out hb7) hb8) _) _) hb9⟩

#print axioms works_any

end Go.Proofs.Ytokecladkepgfaa
