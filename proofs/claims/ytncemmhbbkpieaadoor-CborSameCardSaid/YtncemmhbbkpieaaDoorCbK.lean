/- Package cbor's reader: what is left, what is taken. -/
import Derived.Test.YtncemmhbbkpieaaDoorCbJ
namespace Go.Proofs.YtncemmhbbkpieaaDoor
open Go.RowKit Go.Shelf

/-- All lies as it lay but block R, and what is new. -/
structure But (R : Nat) (w w' : World) : Prop where
  os : w'.os = w.os
  tape : w'.tape = w.tape
  output : w'.output = w.output
  size : w.heap.size ≤ w'.heap.size
  block : ∀ k, k < w.heap.size → k ≠ R → w'.heap[k]? = w.heap[k]?

theorem But.refl (R : Nat) (w : World) : But R w w := ⟨rfl, rfl, rfl, Nat.le_refl _, fun _ _ _ => rfl⟩

theorem But.trans {R : Nat} {a b c : World} (h : But R a b) (k : But R b c) : But R a c :=
  ⟨k.os.trans h.os, k.tape.trans h.tape, k.output.trans h.output, Nat.le_trans h.size k.size, fun i hi hne => (k.block i (Nat.lt_of_lt_of_le hi h.size) hne).trans (h.block i hi hne)⟩

theorem But.of_below {R : Nat} {w w' : World} (h : Below w.heap.size w w') : But R w w' := ⟨h.os, h.tape, h.output, h.size, fun k hk _ => h.block k hk⟩

theorem But.set {R o : Nat} (w : World) (v : Value) : But R w (w.setCell ⟨R, o, none⟩ v) :=
  ⟨rfl, rfl, rfl, by rw [World.size_setCell]; exact Nat.le_refl _, fun k _ hne => Below.heap_setCell w _ _ k hne⟩

theorem But.below {R B : Nat} {w w' : World} (h : But R w w') (hR : B ≤ R) (hB : B ≤ w.heap.size) : Below B w w' :=
  ⟨h.os, h.tape, h.output, h.size, fun k hk => h.block k (Nat.lt_of_lt_of_le hk hB) (by omega)⟩

theorem But.cell {R b o : Nat} {w w' : World} (h : But R w w') (hb : b < w.heap.size) (hne : b ≠ R) : w'.cell? ⟨b, o, none⟩ = w.cell? ⟨b, o, none⟩ :=
  World.cell?_of_block (w := w) (h.block b hb hne)

theorem But.frozen {R b o : Nat} {w w' : World} (h : But R w w') (hb : b < w.heap.size) (hne : b ≠ R) : w'.frozen? ⟨b, o, none⟩ = w.frozen? ⟨b, o, none⟩ :=
  World.frozen?_of_block (w := w) (h.block b hb hne)

/-- A reader in block R: what is left of its bytes, which lie below B. -/
def RS (w : World) (R B : Nat) (bs : List UInt8) : Prop :=
  ∃ a c, w.cell? ⟨R, 0, none⟩ = some (.slice a bs.length c) ∧ bs.length ≤ c ∧ bs.length ≤ 140737488355328 ∧ RdB w B a bs ∧ w.frozen? ⟨R, 0, none⟩ = false ∧ R < w.heap.size ∧ B ≤ R

theorem RS.on {w w' : World} {R B : Nat} {bs : List UInt8} (h : RS w R B bs) (hb : Below w.heap.size w w') : RS w' R B bs := by
  obtain ⟨a, c, h1, h2, h3, h4, h5, h6, h7⟩ := h
  exact ⟨a, c, (hb.cell (p := ⟨R, 0, none⟩) h6).trans h1, h2, h3, h4.below (hb.mono (by omega)), (hb.frozen (p := ⟨R, 0, none⟩) h6).trans h5, Nat.lt_of_lt_of_le h6 hb.size, h7⟩

/-- A reader gives up. -/
def gives (c : Int) : Ending := .panicked [{ v := .iface 29 (.int .i64 c), recovered := false }]

theorem run_cutL (a : Option Addr) (n cap l : Nat) (h1 : l ≤ n) (w : World) :
    (Instr.slice 55 (.slice a n cap) (some (.int .u64 (l : Int))) none none).run Tryd.prog w = .ok (.slice (subA a l cap) (n - l) (cap - l)) w := by
  have ht' : Tryd.prog.underlying 55 = some (.slice (Tryd.prog.elem 55)) := by kernel_rfl
  have he : Tryd.prog.elem 55 = 5 := by kernel_rfl
  rw [run_slice_l w 55 a n cap ht' .u64 l (by omega) (by omega), he, size_u8]
  simp [Result.andThen, sliced, subA]

theorem run_cutH (a : Option Addr) (n cap h : Nat) (h1 : h ≤ cap) (w : World) :
    (Instr.slice 55 (.slice a n cap) none (some (.int .u64 (h : Int))) none).run Tryd.prog w = .ok (.slice a h cap) w := by
  have ht' : Tryd.prog.underlying 55 = some (.slice (Tryd.prog.elem 55)) := by kernel_rfl
  have he : Tryd.prog.elem 55 = 5 := by kernel_rfl
  rw [run_slice_h w 55 a n cap ht' .u64 h (by omega) (by omega), he, size_u8]
  have e0 : ∀ x : Addr, x.add 0 = x := fun x => by simp [Addr.add]
  have e1 : (fun x : Addr => x.add 0) = id := funext e0
  simp [Result.andThen, sliced, e1]

/-- What is taken, and what is left behind it. -/
def TakeP (w : World) (R B : Nat) (bs : List UInt8) (n : Nat) (e : Ending) (w' : World) : Prop :=
  But R w w' ∧ ((n ≤ bs.length ∧ ∃ a c, e = .returned (.slice a n c) ∧ n ≤ c ∧ RdB w' B a (bs.take n) ∧ RS w' R B (bs.drop n)) ∨ (bs.length < n ∧ e = gives 121))

theorem gives_def (c : Int) : gives c = .panicked [{ v := .iface 29 (.int .i64 c), recovered := false }] := rfl

set_option maxRecDepth 100000 in
set_option maxHeartbeats 2000000 in
theorem take_any (R B : Nat) (bs : List UInt8) (n : Nat) (w : World) (h : RS w R B bs) (hn : n < 18446744073709551616) :
    Calls Tryd.prog 33 #[.pointer (some ⟨R, 0, none⟩), .int .u64 n] w (TakeP w R B bs n) := by
  obtain ⟨a, c, hc0, hc, hc47, hr, hf, hR, hB⟩ := h
  have HR := Lib.hid hr
  have hw0 := wrapLen hc47
  clear hr
  by_cases hle : n ≤ bs.length
  · have k1 := run_cutL a bs.length c n hle
    have k2 := run_cutH a bs.length c n (Nat.le_trans hle hc)
    have hgt : decide ((bs.length : Int) < (n : Int)) = false := by simp; omega
    go_enter Tryd.func33, Tryd.ntmps33
    go_wp2_with fail
    go_ret
    have hb : Below B w (w.setCell ⟨R, 0, none⟩ (.slice (subA a n c) (bs.length - n) (c - n))) := (Below.refl _ _).setCell hB _
    refine ⟨But.set w _, .inl ⟨hle, a, c, rfl, by omega, (HR.out.take n).below hb, subA a n c, c - n, ?_, ?_, by rw [List.length_drop]; omega, ?_, ?_, by rw [World.size_setCell]; exact hR, hB⟩⟩
    · rw [World.cell?_setCell_same _ _ _ hc0, List.length_drop]
    · rw [List.length_drop]
      omega
    · have := HR.out.cut n c (bs.length - n) (by omega)
      rw [List.take_of_length_le (by rw [List.length_drop]; exact Nat.le_refl _)] at this
      exact this.below hb
    · rw [World.frozen?_setCell]
      exact hf
  · have hgt : decide ((bs.length : Int) < (n : Int)) = true := by simp; omega
    go_enter Tryd.func33, Tryd.ntmps33
    go_wp2_with fail
    exact ⟨rfl, But.refl _ _, .inr ⟨by omega, rfl⟩⟩

end Go.Proofs.YtncemmhbbkpieaaDoor
