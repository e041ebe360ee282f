/- Package disk: Same. -/
import Derived.Test.YtekeooeapiodmaaZDkM
import Derived.Stop.BytesEq
namespace Go.Proofs.Ytekeooeapiodmaa
open Go Go.RowKit Go.Shelf
set_option linter.unusedSimpArgs false
set_option linter.unusedVariables false
set_option maxRecDepth 100000

attribute [local go_sem] Oper.semAt_some

theorem sec_eq (s t : List UInt8) (hs : s.length = 64) (ht : t.length = 64) (d : Nat) (w : World) : (Op.equalIn (d + 2) 86 (secV s) (secV t)).run Try.prog w = .ok (s == t) w :=
  run_equalIn_bytes w d 86 5 64 Try.underlying86 Try.underlying5 (fun _ => rfl) s t hs ht

theorem sec_agg (w : World) : (isAgg 86).run Try.prog w = .ok true w := by
  unfold isAgg
  rw [Sem.run_bind, run_underlying Try.underlying86 w]
  rfl
theorem sec_size (w : World) : (sizeOf 86).run Try.prog w = .ok 64 w := by
  have hi : (Try.prog.info? 86).map (·.size) = some 64 := by kernel_rfl
  cases hq : Try.prog.info? 86 with
  | none => simp [hq] at hi
  | some i =>
    have : i.size = 64 := by simpa [hq] using hi
    simp [sizeOf, typeInfo, hq, this]
theorem wr_part1 (z : Int × List UInt8) (hz : z.2.length = 64) (w : World) : (part 86 (wrL z).toArray 1).run Try.prog w = .ok (secV z.2) w := by
  unfold part
  rw [Sem.run_bind, sec_agg]
  simp only [Result.andThen_ok, if_true]
  rw [Sem.run_bind, sec_size]
  simp only [Result.andThen_ok]
  have he : (wrL z).toArray.extract 1 (1 + 64) = (z.2.map encB).toArray := by
    apply Array.ext'
    simp only [List.extract_toArray, List.extract_eq_take_drop, wrL, List.drop_succ_cons, List.drop_zero]
    rw [List.take_of_length_le (by rw [List.length_map, hz]; omega)]
  rw [he]
  rfl

theorem wr_part0 (z : Int × List UInt8) (w : World) : (part 3 (wrL z).toArray 0).run Try.prog w = .ok (.int .i64 z.1) w := by
  have hi : (isAgg 3).run Try.prog w = .ok false w := by
    unfold isAgg
    rw [Sem.run_bind, run_underlying Try.underlying3 w]
    rfl
  unfold part
  rw [Sem.run_bind, hi]
  simp only [Result.andThen_ok, Bool.false_eq_true, if_false, wrL]
  rfl
theorem wr_fields : ∃ f1 f2, (Try.prog.fieldsOf 88).toList = [f1, f2] ∧ f1.name ≠ "_" ∧ f1.type = 3 ∧ f1.offset = 0 ∧ f2.name ≠ "_" ∧ f2.type = 86 ∧ f2.offset = 1 := by
  have hf : (Try.prog.fieldsOf 88).toList.map (fun f => (f.name != "_", f.type, f.offset)) = [(true, 3, 0), (true, 86, 1)] := by kernel_rfl
  generalize (Try.prog.fieldsOf 88).toList = fs at hf
  obtain ⟨f1, f2, rfl⟩ : ∃ f1 f2, fs = [f1, f2] := by
    rcases fs with _ | ⟨f1, _ | ⟨f2, _ | ⟨f3, r⟩⟩⟩
    · simp at hf
    · simp at hf
    · exact ⟨_, _, rfl⟩
    · simp at hf
  simp only [List.map_cons, List.map_nil, List.cons.injEq, Prod.mk.injEq, and_true] at hf
  obtain ⟨⟨a1, a2, a3⟩, a4, a5, a6⟩ := hf
  exact ⟨f1, f2, rfl, by simpa using a1, a2, a3, by simpa using a4, a5, a6⟩
theorem wr_struct : Try.prog.underlying 88 = some (.struct (Try.prog.fieldsOf 88)) := by kernel_rfl
theorem wr_held : Try.prog.stoodInHeld 88 = false := by kernel_rfl
theorem pair_beq (x y : Int × List UInt8) : (x == y) = ((x.1 == y.1) && (x.2 == y.2)) := rfl

theorem wr_eq' (d : Nat) (x y : Int × List UInt8) (hx : x.2.length = 64) (hy : y.2.length = 64) (w : World) : (Op.equalIn (d + 3) 88 (wrV x) (wrV y)).run Try.prog w = .ok (x == y) w := by
  unfold wrV
  rw [run_equalIn_agg w (d + 2) 88 _ _ wr_struct wr_held]
  obtain ⟨f1, f2, hf, a1, a2, a3, a4, a5, a6⟩ := wr_fields
  rw [hf]
  have e1 := run_equalIn_int (P := Try.prog) w (d + 1) 3 .i64 .i64 x.1 y.1 Try.underlying3
  have e2 := sec_eq x.2 y.2 hx hy d w
  have p1 := wr_part1 x hx w
  have p2 := wr_part1 y hy w
  have p3 := wr_part0 x w
  have p4 := wr_part0 y w
  rw [pair_beq]
  unfold Op.eqFields
  rw [if_pos a1, a2, a3, Sem.run_bind, p3]
  simp only [Result.andThen_ok]
  rw [Sem.run_bind, p4]
  simp only [Result.andThen_ok]
  rw [Sem.run_bind, e1]
  simp only [Result.andThen_ok]
  cases (x.1 == y.1)
  · rfl
  · simp only [Bool.not_true, Bool.false_eq_true, if_false, Bool.true_and]
    unfold Op.eqFields
    rw [if_pos a4, a5, a6, Sem.run_bind, p1]
    simp only [Result.andThen_ok]
    rw [Sem.run_bind, p2]
    simp only [Result.andThen_ok]
    rw [Sem.run_bind, e2]
    simp only [Result.andThen_ok]
    cases (x.2 == y.2)
    · rfl
    · rfl
theorem wr_eq (x y : Int × List UInt8) (hx : x.2.length = 64) (hy : y.2.length = 64) (w : World) : (Op.equalIn 10000 88 (wrV x) (wrV y)).run Try.prog w = .ok (x == y) w := wr_eq' 9997 x y hx hy w

end Go.Proofs.Ytekeooeapiodmaa

