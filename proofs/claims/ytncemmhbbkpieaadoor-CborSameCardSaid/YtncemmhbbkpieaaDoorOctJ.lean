/- The chapter's rows hold ('works'), in whatever world. -/
import Derived.Test.YtncemmhbbkpieaaDoorOctI
import Derived.Lib.SlBytesConst
import Derived.Lib.SmallJoins
namespace Go.Proofs.YtncemmhbbkpieaaDoor
open Go.RowKit Go.Shelf

theorem put258 (w : World) : Calls Tryd.prog 61 #[.int .u64 258, .int .i64 2] w fun e w' => ∃ a c, e = .returned (.tuple #[.slice a 2 c, .int .i64 0]) ∧ RdB w' w'.heap.size a [1, 2] ∧ Below w.heap.size w w' := by
  refine (put_ok 2 258 w rfl ⟨by decide, by decide⟩ rfl).mono ?_
  rintro e w' ⟨v, rfl, ⟨a, c, rfl, _, hr, _⟩, hb⟩
  have e1 : beB 2 258 = [1, 2] := by decide
  rw [e1] at hr
  exact ⟨a, c, by rw [e1]; rfl, hr, hb⟩

theorem put256 (w : World) : Calls Tryd.prog 61 #[.int .u64 256, .int .i64 1] w fun e w' => e = .returned (.tuple #[.slice none 0 0, .int .i64 4]) ∧ Below w.heap.size w w' :=
  put_range 1 256 w rfl ⟨by decide, by decide⟩ rfl

theorem put13 (w : World) : Calls Tryd.prog 61 #[.int .u64 1, .int .i64 3] w fun e w' => e = .returned (.tuple #[.slice none 0 0, .int .i64 2]) ∧ Below w.heap.size w w' :=
  put_arg 3 1 w rfl

/-- A literal's bytes. -/
theorem rdB_lit (w : World) (t : TypeId) (C : Array Value) (fr : Nat × Nat) (bs : List UInt8) (hC : C = (bs.map encB).toArray) : RdB (w.alloc (.cells C t fr)) (w.heap.size + 1) (some ⟨w.heap.size, 0, none⟩) bs := by
  refine .inr ⟨w.heap.size, 0, rfl, by omega, fun j hj => ?_⟩
  rw [Nat.zero_add, World.cell?_alloc_mark, hC]
  have := encB_at bs j hj
  simpa using this

theorem lit12 : #[Value.int .u8 1, .int .u8 2] = (([1, 2] : List UInt8).map encB).toArray := by rfl
theorem lit97 : #[Value.int .u8 97] = (([97] : List UInt8).map encB).toArray := by rfl
theorem lit98 : #[Value.int .u8 97, .int .u8 98] = (([97, 98] : List UInt8).map encB).toArray := by rfl
theorem lit99 : #[Value.int .u8 98, .int .u8 99] = (([98, 99] : List UInt8).map encB).toArray := by rfl
theorem litabc : #[Value.int .u8 97, .int .u8 98, .int .u8 99] = (([97, 98, 99] : List UInt8).map encB).toArray := by rfl
theorem litabcd : #[Value.int .u8 97, .int .u8 98, .int .u8 99, .int .u8 100] = (([97, 98, 99, 100] : List UInt8).map encB).toArray := by rfl
theorem lit100 : #[Value.int .u8 100] = (([100] : List UInt8).map encB).toArray := by rfl

/-- A literal's bytes, as an argument that is laid last, or last but one. -/
theorem arg_lit (w : World) (t : TypeId) (C : Array Value) (fr : Nat × Nat) (bs : List UInt8) (hC : C = (bs.map encB).toArray) :
    RdB (w.alloc (.cells C t fr)) (w.alloc (.cells C t fr)).heap.size (some ⟨w.heap.size, 0, none⟩) bs := by
  have := rdB_lit w t C fr bs hC
  rwa [World.size_alloc]

theorem arg_lit2 (w : World) (t u : TypeId) (C D : Array Value) (fr gr : Nat × Nat) (bs : List UInt8) (hC : C = (bs.map encB).toArray) :
    RdB ((w.alloc (.cells C t fr)).alloc (.cells D u gr)) ((w.alloc (.cells C t fr)).alloc (.cells D u gr)).heap.size (some ⟨w.heap.size, 0, none⟩) bs :=
  ((arg_lit w t C fr bs hC).below ((Below.refl _ _).alloc (Nat.le_refl _) _)).mono (by simp)

theorem arg_litB (w : World) (o : Obj) (t : TypeId) (C : Array Value) (fr : Nat × Nat) (bs : List UInt8) (hC : C = (bs.map encB).toArray) :
    RdB ((w.alloc o).alloc (.cells C t fr)) ((w.alloc o).alloc (.cells C t fr)).heap.size (some ⟨w.heap.size + 1, 0, none⟩) bs := by
  have := arg_lit (w.alloc o) t C fr bs hC
  simp only [World.size_alloc] at this ⊢
  exact this

theorem get12 (a : Option Addr) (c : Nat) (w : World) (hr : RdB w w.heap.size a [1, 2]) : Calls Tryd.prog 54 #[.slice a 2 c] w fun e w' => e = .returned (.tuple #[.int .u64 258, .int .i64 0]) ∧ Below w.heap.size w w' :=
  get_ok a c [1, 2] w rfl hr

/-- A literal's integers. -/
theorem rdI_lit (w : World) (t : TypeId) (C : Array Value) (zs : List Int) (hC : C = (zs.map (Value.int .i64)).toArray) : RdI (w.alloc (.cells C t)) (w.heap.size + 1) (some ⟨w.heap.size, 0, none⟩) zs := by
  refine .inr ⟨w.heap.size, 0, rfl, by omega, fun j hj => ?_⟩
  rw [Nat.zero_add, World.cell?_alloc_mark, hC]
  simp [List.getElem?_eq_getElem hj]

theorem argI_lit2 (w : World) (o : Obj) (t : TypeId) (C : Array Value) (zs : List Int) (hC : C = (zs.map (Value.int .i64)).toArray) :
    RdI ((w.alloc o).alloc (.cells C t)) ((w.alloc o).alloc (.cells C t)).heap.size (some ⟨w.heap.size + 1, 0, none⟩) zs := by
  have := rdI_lit (w.alloc o) t C zs hC
  simp only [World.size_alloc] at this ⊢
  exact this

/-- The pieces that the rows' own answer is made of. -/
theorem rdP_lit3 (w : World) (t u : TypeId) (f1 f2 f3 : Nat × Nat) (C1 C2 C3 : Array Value) (p1 p2 p3 : List UInt8) (n1 n2 n3 c1 c2 c3 : Nat)
    (h1 : C1 = (p1.map encB).toArray) (h2 : C2 = (p2.map encB).toArray) (h3 : C3 = (p3.map encB).toArray) (e1 : n1 = p1.length) (e2 : n2 = p2.length) (e3 : n3 = p3.length) (l1 : n1 ≤ c1) (l2 : n2 ≤ c2) (l3 : n3 ≤ c3) :
    RdP ((((w.alloc (.cells C1 t f1)).alloc (.cells C2 t f2)).alloc (.cells C3 t f3)).alloc (.cells #[.slice (some ⟨w.heap.size, 0, none⟩) n1 c1, .slice (some ⟨w.heap.size + 1, 0, none⟩) n2 c2, .slice (some ⟨w.heap.size + 1 + 1, 0, none⟩) n3 c3] u))
      (w.heap.size + 4) (some ⟨w.heap.size + 1 + 1 + 1, 0, none⟩) [p1, p2, p3] := by
  subst e1 e2 e3
  refine .inr ⟨w.heap.size + 1 + 1 + 1, 0, rfl, by omega, fun j hj => ?_⟩
  have hcell : ((((w.alloc (.cells C1 t f1)).alloc (.cells C2 t f2)).alloc (.cells C3 t f3)).alloc (.cells #[.slice (some ⟨w.heap.size, 0, none⟩) p1.length c1, .slice (some ⟨w.heap.size + 1, 0, none⟩) p2.length c2, .slice (some ⟨w.heap.size + 1 + 1, 0, none⟩) p3.length c3] u)).cell? ⟨w.heap.size + 1 + 1 + 1, 0 + j, none⟩ =
      #[Value.slice (some ⟨w.heap.size, 0, none⟩) p1.length c1, .slice (some ⟨w.heap.size + 1, 0, none⟩) p2.length c2, .slice (some ⟨w.heap.size + 1 + 1, 0, none⟩) p3.length c3][j]? := by
    have := World.cell?_alloc_mark (((w.alloc (.cells C1 t f1)).alloc (.cells C2 t f2)).alloc (.cells C3 t f3)) #[Value.slice (some ⟨w.heap.size, 0, none⟩) p1.length c1, .slice (some ⟨w.heap.size + 1, 0, none⟩) p2.length c2, .slice (some ⟨w.heap.size + 1 + 1, 0, none⟩) p3.length c3] u (0, 0) j
    simpa using this
  have r1 := rdB_lit w t C1 f1 p1 h1
  have r2 := rdB_lit (w.alloc (.cells C1 t f1)) t C2 f2 p2 h2
  have r3 := rdB_lit ((w.alloc (.cells C1 t f1)).alloc (.cells C2 t f2)) t C3 f3 p3 h3
  simp only [World.size_alloc] at r2 r3
  rw [hcell]
  simp at hj
  have hj3 : j = 0 ∨ j = 1 ∨ j = 2 := by omega
  rcases hj3 with rfl | rfl | rfl
  · exact ⟨_, _, rfl, l1, (r1.below ((((Below.refl _ _).alloc (by simp) _).alloc (by simp) _).alloc (by simp) _)).mono (by omega)⟩
  · exact ⟨_, _, rfl, l2, (r2.below (((Below.refl _ _).alloc (by simp) _).alloc (by simp) _)).mono (by omega)⟩
  · exact ⟨_, _, rfl, l3, (r3.below ((Below.refl _ _).alloc (by simp) _)).mono (by omega)⟩

theorem beginsAbc (a1 a2 : Option Addr) (c1 c2 : Nat) (w : World) (h1 : RdB w w.heap.size a1 [97, 98, 99]) (h2 : RdB w w.heap.size a2 [97, 98]) :
    Calls Tryd.prog 55 #[.slice a1 3 c1, .slice a2 2 c2] w fun e w' => e = .returned (.bool true) ∧ Below w.heap.size w w' :=
  begins_any a1 a2 c1 c2 [97, 98, 99] [97, 98] w h1 h2 (by decide) (by decide)

theorem least256 (w : World) : Calls Tryd.prog 60 #[.int .u64 256] w fun e w' => e = .returned (.int .i64 2) ∧ Below w.heap.size w w' :=
  least_any 256 w ⟨by decide, by decide⟩

end Go.Proofs.YtncemmhbbkpieaaDoor
