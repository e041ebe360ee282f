/- How calls that come in are opened: a slice of them, two in an array. -/
import Derived.Test.YtekeooeapiodmaaZDkO0
import Derived.Test.YtekeooeapiodmaaZDkM2
namespace Go.Proofs.Ytekeooeapiodmaa
open Go.ChangeShapes Go.WideShapes Go.ChangeAt Go.RowKit

set_option maxRecDepth 100000

section
variable {H : Type} {enc : TypeId × Value → H} {W : World}

theorem wf_i64 {n : Int} (h : (Lit.int .i64 n).wf = true) : -9223372036854775808 ≤ n ∧ n < 9223372036854775808 := by
  simp [Lit.wf, IntKind.min, IntKind.max, IntKind.signed, IntKind.bits] at h
  omega

/-- A call's cells. -/
theorem act_cells {fuel : Nat} {cs : List Value} {x : DataW H × List MemPlace} (h : DataW.trod enc Try.prog W 0 (fun _ => true) true fuel 40 cs = some x) : ∃ a : AcT, cs = a.cells ∧ a.fit W W.heap.size := by
  obtain ⟨xs, n, rfl, rfl, hlen, hn, hg⟩ := DataW.trod_struct Try.underlying40 h
  have c5 : Try.prog.cellsOf 40 = 5 := by kernel_rfl
  rw [c5] at hlen
  match cs, hlen with
  | [c0, c1, c2, c3, c4], _ =>
  match xs, hn with
  | [x0, x1, x2, x3, x4], _ =>
  have u0 : Try.prog.cellsOf 3 = 1 := by kernel_rfl
  have u1 : Try.prog.cellsOf 5 = 1 := by kernel_rfl
  have u2 : Try.prog.cellsOf 38 = 1 := by kernel_rfl
  have f0 : DataW.trod enc Try.prog W 0 (fun _ => true) true n 3 [c0] = some x0 := by have h := hg 0 _ rfl; simpa [u0] using h
  have f1 : DataW.trod enc Try.prog W 0 (fun _ => true) true n 3 [c1] = some x1 := by have h := hg 1 _ rfl; simpa [u0] using h
  have f2 : DataW.trod enc Try.prog W 0 (fun _ => true) true n 3 [c2] = some x2 := by have h := hg 2 _ rfl; simpa [u0] using h
  have f3 : DataW.trod enc Try.prog W 0 (fun _ => true) true n 5 [c3] = some x3 := by have h := hg 3 _ rfl; simpa [u1] using h
  have f4 : DataW.trod enc Try.prog W 0 (fun _ => true) true n 38 [c4] = some x4 := by have h := hg 4 _ rfl; simpa [u2] using h
  obtain ⟨k0, e0, _, w0⟩ := DataW.trod_int Try.underlying3 f0
  obtain ⟨k1, e1, _, w1⟩ := DataW.trod_int Try.underlying3 f1
  obtain ⟨k2, e2, _, w2⟩ := DataW.trod_int Try.underlying3 f2
  obtain ⟨k3, e3, _, w3⟩ := DataW.trod_int Try.underlying5 f3
  obtain ⟨a, c, bs, rfl, hb⟩ := truthsF (d := x4.1) (p := x4.2) f4
  simp only [List.cons.injEq, and_true] at e0 e1 e2 e3
  subst e0 e1 e2 e3
  obtain ⟨b, rfl⟩ := wf_b8 w3
  exact ⟨⟨k0, k1, k2, b, a, c, bs⟩, rfl, wf_i64 w1, wf_i64 w2, hb⟩

theorem open_acts {base : Nat} {v : Value} {d : DataW H} {p : List MemPlace} (hv : Value.okWide Try.prog W .any base 22 v)
    (hd : DataW.Trod enc Try.prog W 0 (fun _ => true) true 22 v d p) : ∃ a c xs, v = .slice a (List.length xs) c ∧ xs.length ≤ 9223372036854775807 ∧ RdAc W W.heap.size a xs := by
  obtain ⟨a0, len0, cap0, rfl⟩ := okWide_slice Try.underlying22 hv
  obtain ⟨fuel, hf⟩ := hd
  have hf : DataW.trod enc Try.prog W 0 (fun _ => true) true fuel 22 [.slice a0 len0 cap0] = some (d, p) := by simpa [Value.cells] using hf
  have c5 : Try.prog.cellsOf 40 = 5 := by kernel_rfl
  rcases DataW.trod_slice Try.underlying22 hf with ⟨e4, _⟩ | ⟨A, len, cap, elems, rest, n', rfl, e4, hx, _, hl, hle, hel, hat, _, _⟩
  · simp at e4
    obtain ⟨rfl, rfl, rfl⟩ := e4
    exact ⟨none, 0, [], rfl, by simp, .inl rfl⟩
  · simp at e4
    obtain ⟨rfl, rfl, rfl⟩ := e4
    rw [c5] at hat
    have hA : 0 < len0 → A.spot = none ∧ A.block < W.heap.size := by
      intro h0
      have h := hat 0 h0
      rw [List.getElem?_eq_getElem (by omega), Option.bind_eq_some_iff] at h
      obtain ⟨csi, hcs, _⟩ := h
      exact cells_first (by simpa using hcs) (by decide)
    have hex : ∀ i, ∃ x : AcT, i < len0 → (∀ j v, x.cells[j]? = some v → W.cell? ⟨A.block, A.off + i * 5 + j, none⟩ = some v) ∧ x.fit W W.heap.size := by
      intro i
      by_cases hi : i < len0
      · have h := hat i hi
        rw [List.getElem?_eq_getElem (by omega), Option.bind_eq_some_iff] at h
        obtain ⟨csi, hcs, ht⟩ := h
        obtain ⟨x, rfl, hfit⟩ := act_cells ht
        exact ⟨x, fun _ => ⟨cells_at (hA (by omega)).1 hcs, hfit⟩⟩
      · exact ⟨⟨0, 0, 0, 0, none, 0, []⟩, fun h => absurd h hi⟩
    let f : Nat → AcT := fun i => (hex i).choose
    have hfs := fun i => (hex i).choose_spec
    have hll : ((List.range len0).map f).length = len0 := by simp
    refine ⟨some A, cap0, (List.range len0).map f, by rw [hll], by rw [hll]; simp only [maxLen] at hle; omega, ?_⟩
    by_cases hl0 : len0 = 0
    · exact .inl (List.eq_nil_of_length_eq_zero (by rw [hll]; exact hl0))
    · obtain ⟨hsp, hbl⟩ := hA (by omega)
      obtain ⟨b, off, spot⟩ := A
      simp only at hsp
      subst hsp
      refine .inr ⟨b, off, rfl, hbl, fun i x hx => ?_⟩
      have hi : i < len0 := by have := (List.getElem?_eq_some_iff.1 hx).1; rw [hll] at this; exact this
      have e : x = f i := by simpa [hi] using hx.symm
      subst e
      exact hfs i hi
theorem open_two {base : Nat} {v : Value} {d : DataW H} {p : List MemPlace} (hv : Value.okWide Try.prog W .any base 43 v)
    (hd : DataW.Trod enc Try.prog W 0 (fun _ => true) true 43 v d p) : ∃ x y : AcT, v = .agg (x.cells ++ y.cells).toArray ∧ x.fit W W.heap.size ∧ y.fit W W.heap.size := by
  have hu := Try.underlying43
  have c10 : Try.prog.cellsOf 43 = 10 := by kernel_rfl
  have c5 : Try.prog.cellsOf 40 = 5 := by kernel_rfl
  simp only [Value.okWide, hu] at hv
  obtain ⟨cs, rfl, hsz, _⟩ := hv
  rw [c10] at hsz
  obtain ⟨cs⟩ := cs
  simp only [List.size_toArray] at hsz
  match cs, hsz with
  | [q0, q1, q2, q3, q4, q5, q6, q7, q8, q9], _ =>
    obtain ⟨fuel, hf⟩ := hd
    obtain ⟨xs, m, rfl, _, _, hl, hx⟩ := DataW.trod_array hu hf
    simp only [c5, Value.cells] at hx
    have e0 := hx 0 (by omega)
    have e1 := hx 1 (by omega)
    rw [List.getElem?_eq_getElem (by omega)] at e0 e1
    obtain ⟨x, ex, hx1⟩ := act_cells e0
    obtain ⟨y, ey, hy1⟩ := act_cells e1
    refine ⟨x, y, ?_, hx1, hy1⟩
    rw [← ex, ← ey]
    rfl
end
end Go.Proofs.Ytekeooeapiodmaa

