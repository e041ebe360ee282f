/- How calls of a table, sights that came in are opened. -/
import Derived.Test.YtdnjoohicbdmiaaSeJ
import Derived.Test.YtdnjoohicbdmiaaNmOi
namespace Go.Proofs.Ytdnjoohicbdmiaa
open Go.ChangeShapes Go.WideShapes Go.ChangeAt Go.RowKit

set_option maxRecDepth 100000

theorem seOwn : ownKnob Try.prog.godebug = none := by kernel_rfl
theorem seLaid : laidOutB Try.prog = true := by kernel_rfl

section
variable {H : Type} {enc : TypeId × Value → H} {W : World}

theorem sight_cells {fuel : Nat} {cs : List Value} {x : DataW H × List MemPlace} (h : DataW.trod enc Try.prog W 0 (fun _ => true) true fuel 42 cs = some x) : ∃ a : Sg, cs = a.cells := by
  obtain ⟨xs, n, rfl, hx, hlen, hn, hf⟩ := DataW.trod_struct Try.underlying42 h
  have c6 : Try.prog.cellsOf 42 = 6 := by kernel_rfl
  rw [c6] at hlen
  match cs, hlen with
  | [c0, c1, c2, c3, c4, c5], _ =>
  match xs, hn with
  | [x0, x1, x2], _ =>
  have u0 : Try.prog.cellsOf 40 = 4 := by kernel_rfl
  have u1 : Try.prog.cellsOf 4 = 1 := by kernel_rfl
  have u2 : Try.prog.cellsOf 5 = 1 := by kernel_rfl
  have f0 : DataW.trod enc Try.prog W 0 (fun _ => true) true n 40 [c0, c1, c2, c3] = some x0 := by have h := hf 0 _ rfl; simpa [u0] using h
  have f1 : DataW.trod enc Try.prog W 0 (fun _ => true) true n 4 [c4] = some x1 := by have h := hf 1 _ rfl; simpa [u0, u1] using h
  have f2 : DataW.trod enc Try.prog W 0 (fun _ => true) true n 5 [c5] = some x2 := by have h := hf 2 _ rfl; simpa [u0, u1, u2] using h
  obtain ⟨a, e0⟩ := iname_cells f0
  obtain ⟨b, e1, _⟩ := DataW.trod_bool Try.underlying4 f1
  obtain ⟨q, e2, _, k2⟩ := DataW.trod_int Try.underlying5 f2
  simp only [Nm.cells, List.cons.injEq, and_true] at e0 e1 e2
  obtain ⟨rfl, rfl, rfl, rfl⟩ := e0
  subst e1 e2
  exact ⟨⟨a, b, q⟩, rfl⟩
theorem act_cells {fuel : Nat} {cs : List Value} {x : DataW H × List MemPlace} (h : DataW.trod enc Try.prog W 0 (fun _ => true) true fuel 44 cs = some x) : ∃ a : SAct, cs = a.cells := by
  obtain ⟨xs, n, rfl, hx, hlen, hn, hf⟩ := DataW.trod_struct Try.underlying44 h
  have c8 : Try.prog.cellsOf 44 = 8 := by kernel_rfl
  rw [c8] at hlen
  match cs, hlen with
  | [c0, c1, c2, c3, c4, c5, c6, c7], _ =>
  match xs, hn with
  | [x0, x1, x2], _ =>
  have u0 : Try.prog.cellsOf 3 = 1 := by kernel_rfl
  have u1 : Try.prog.cellsOf 42 = 6 := by kernel_rfl
  have u2 : Try.prog.cellsOf 38 = 1 := by kernel_rfl
  have f0 : DataW.trod enc Try.prog W 0 (fun _ => true) true n 3 [c0] = some x0 := by have h := hf 0 _ rfl; simpa [u0] using h
  have f1 : DataW.trod enc Try.prog W 0 (fun _ => true) true n 42 [c1, c2, c3, c4, c5, c6] = some x1 := by have h := hf 1 _ rfl; simpa [u0, u1] using h
  have f2 : DataW.trod enc Try.prog W 0 (fun _ => true) true n 38 [c7] = some x2 := by have h := hf 2 _ rfl; simpa [u0, u1, u2] using h
  obtain ⟨m, e0, _, k0⟩ := DataW.trod_int Try.underlying3 f0
  obtain ⟨a, e1⟩ := sight_cells f1
  obtain ⟨q, e2, _, k2⟩ := DataW.trod_int Try.underlying38 f2
  simp only [Sg.cells, List.cons.injEq, and_true] at e0 e1 e2
  obtain ⟨rfl, rfl, rfl, rfl, rfl, rfl⟩ := e1
  subst e0 e2
  exact ⟨⟨m, a, q⟩, rfl⟩
theorem open_acts {base : Nat} {v : Value} {d : DataW H} {p : List MemPlace} (hv : Value.okWide Try.prog W .any base 22 v)
    (hd : DataW.Trod enc Try.prog W 0 (fun _ => true) true 22 v d p) : ∃ a c xs, v = .slice a (List.length xs) c ∧ RdV W a (flatSA xs) :=
  open_rows 44 22 8 SAct.cells saZ (by decide) (fun a => rfl) Try.underlying22 (by kernel_rfl) act_cells hv hd

end
end Go.Proofs.Ytdnjoohicbdmiaa
