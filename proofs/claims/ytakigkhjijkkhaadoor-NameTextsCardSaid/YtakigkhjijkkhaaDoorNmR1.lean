/- The document's Cut, ToNumber. -/
import Derived.Test.YtakigkhjijkkhaaDoorNmD
import Derived.Deep.QuietTactic
import Derived.BigQuiet
namespace Go.Proofs.YtakigkhjijkkhaaDoor
open Go Go.RowKit Go.Shelf
set_option linter.unusedSimpArgs false
set_option linter.unusedVariables false

theorem run_at (s : List UInt8) (hs : s.length ≤ 140737488355328) (k : Nat) (hk : k < s.length) (w : World) : (Instr.index 9 (.string ⟨s.toArray⟩) (.int .i64 (k : Int))).run Tryd.prog w = .ok (.int .u8 ((s[k]'hk).toNat : Int)) w := by
  have hsz : (⟨s.toArray⟩ : ByteArray).size = s.length := by simp [ByteArray.size]
  have hg : ∀ j (hj : j < (⟨s.toArray⟩ : ByteArray).size) (h2 : j < s.length), (⟨s.toArray⟩ : ByteArray)[j]'hj = s[j]'h2 := fun j hj h2 => by
    show (s.toArray)[j]'_ = _
    simp
  rw [run_index_string w 9 _ .i64 (k : Int) Tryd.underlying9, dif_pos ⟨by omega, by rw [hsz]; omega⟩, hg _ _ (by simpa using hk)]
  simp

/-- What Cut answers. -/
def CutP (c : UInt8) (s : List UInt8) (w : World) (e : Ending) (w' : World) : Prop :=
  e = .returned (.tuple #[.string ⟨(cutD c s).1.toArray⟩, .string ⟨(cutD c s).2.1.toArray⟩, .bool (cutD c s).2.2]) ∧ Below w.heap.size w w'

theorem cutP_yes {c : UInt8} {s a b : List UInt8} {w w' : World} (h : cutL c s = some (a, b)) (hb : Below w.heap.size w w') : CutP c s w (.returned (.tuple #[.string ⟨a.toArray⟩, .string ⟨b.toArray⟩, .bool true])) w' := by
  unfold CutP cutD
  rw [h]
  exact ⟨rfl, hb⟩
theorem cutP_no {c : UInt8} {s : List UInt8} {w w' : World} (h : cutL c s = none) (hb : Below w.heap.size w w') : CutP c s w (.returned (.tuple #[.string ⟨s.toArray⟩, .string ⟨#[]⟩, .bool false])) w' := by
  unfold CutP cutD
  rw [h]
  exact ⟨rfl, hb⟩

set_option maxRecDepth 100000 in
set_option maxHeartbeats 2000000 in
theorem cut_any (c : UInt8) (s : List UInt8) (hs : s.length ≤ 140737488355328) (w : World) :
    Calls Tryd.prog 55 #[.string ⟨s.toArray⟩, .int .u8 (c.toNat : Int)] w (CutP c s w) := by
  have hsz : (⟨s.toArray⟩ : ByteArray).size = s.length := by simp [ByteArray.size]
  have HFr := Lib.hid (run_from s hs)
  have HTo := Lib.hid (run_to s hs)
  have HAt := Lib.hid (run_at s hs)
  go_enter Tryd.func55, Tryd.ntmps55
  go_wp2
  go_loop [7] (fun i => ∃ k : Nat, k ≤ s.length ∧ i = .int .i64 k ∧ Hid (c ∉ s.take k)) (fun i => s.length - (intOf i).toNat)
  case atStart => exact ⟨0, Nat.zero_le _, rfl, by simp [Hid]⟩
  case round =>
    obtain ⟨k, hk, rfl, HN⟩ := hrel
    by_cases hlt : k < s.length
    · have hix := HAt.out k hlt
      obtain ⟨b, hb⟩ : ∃ b, b = s[k]'hlt := ⟨_, rfl⟩
      have hbs : s[k]? = some b := by rw [hb, List.getElem?_eq_getElem hlt]
      have HBS := Lib.hid hbs
      rw [← hb] at hix
      clear hb hbs
      by_cases he : b = c
      · subst he
        have k1 : ∀ w, (Instr.slice 9 (.string ⟨s.toArray⟩) (some (.int .i64 ((k : Int) + 1))) none none).run Tryd.prog w = .ok (.string ⟨(s.drop (k + 1)).toArray⟩) w := by simpa using HFr.out (k + 1) (by omega)
        have k2 := HTo.out k (by omega)
        have hwk : IntKind.i64.wrap ((k : Int) + 1) = (k : Int) + 1 := by rw [IntKind.wrap_i64]; omega
        go_wp2_with fail
        go_quiet (fail)
        go_wp2
        go_ret3
        exact cutP_yes (cut_here HN.out HBS.out) (below_dr (Below.refl _ _) nq)
      · have hne : ((b.toNat : Int) == (c.toNat : Int)) = false := by
          simp only [beq_eq_false_iff_ne, ne_eq]
          intro h
          exact he (UInt8.toNat_inj.1 (by omega))
        have hne' : ¬ (b.toNat : Int) = (c.toNat : Int) := fun h => he (UInt8.toNat_inj.1 (by omega))
        have hne2 : ¬ b.toNat = c.toNat := fun h => he (UInt8.toNat_inj.1 h)
        have HHE := Lib.hid he
        clear he
        go_wp2_with fail
        go_round
        case rel => exact ⟨k + 1, by omega, by go_num, take_more HN.out (fun j hj => by
          obtain rfl : j = 0 := by omega
          rw [Nat.add_zero, HBS.out]
          exact fun h => HHE.out (Option.some.inj h))⟩
        case measure => simp [intOf]; omega
    · go_wp2
      go_ret3
      exact cutP_no (cut_never HN.out (by omega)) (Below.refl _ _)

theorem dval_lt : ∀ l : List UInt8, (∀ c ∈ l.reverse, isDg c = true) → dval l.reverse < 10 ^ l.length
  | [], _ => by decide
  | c :: r, h => by
    have ih := dval_lt r (fun d hd => h d (by rw [List.reverse_cons]; exact List.mem_append_left _ hd))
    have hc := isDg_eq (h c (by simp))
    rw [List.reverse_cons, dval_snoc, List.length_cons, Nat.pow_succ]
    omega

theorem dval_lt' {l : List UInt8} (h : ∀ c ∈ l, isDg c = true) (k : Nat) (hk : l.length ≤ k) : dval l < 10 ^ k := by
  have := dval_lt l.reverse (by simpa using h)
  simp only [List.reverse_reverse, List.length_reverse] at this
  exact Nat.lt_of_lt_of_le this (Nat.pow_le_pow_right (by decide) hk)

/-- What ToNumber answers. -/
def ToP (s : List UInt8) (bound : Nat) (w : World) (e : Ending) (w' : World) : Prop :=
  e = .returned (.tuple #[.int .u64 ((tnum s bound).getD 0), .bool (tnum s bound).isSome]) ∧ w' = w

theorem toP_no {s : List UInt8} {bound : Nat} {w : World} (h : tnum s bound = none) : ToP s bound w (.returned (.tuple #[.int .u64 0, .bool false])) w := by
  unfold ToP
  rw [h]
  exact ⟨rfl, rfl⟩
theorem toP_yes {s : List UInt8} {bound n : Nat} {w : World} (h : tnum s bound = some n) : ToP s bound w (.returned (.tuple #[.int .u64 n, .bool true])) w := by
  unfold ToP
  rw [h]
  exact ⟨rfl, rfl⟩

set_option maxRecDepth 100000 in
set_option maxHeartbeats 4000000 in
theorem toNumber_any (s : List UInt8) (hs : s.length ≤ 140737488355328) (bound : Nat) (hb : bound < 18446744073709551616) (w : World) :
    Calls Tryd.prog 56 #[.string ⟨s.toArray⟩, .int .u64 bound] w (ToP s bound w) := by
  have hsz : (⟨s.toArray⟩ : ByteArray).size = s.length := by simp [ByteArray.size]
  have HAt := Lib.hid (run_at s hs)
  by_cases h0 : s = []
  · subst h0
    have HN : Hid (tnum [] bound = none) := by simp [Hid, tnum]
    clear hsz
    go_enter Tryd.func56, Tryd.ntmps56
    go_wp2
    go_ret2
    exact toP_no HN.out
  have he : (s == []) = false := by simpa using h0
  have he2 : s.isEmpty = false := by simpa using h0
  have hpos : 0 < s.length := List.length_pos_iff.2 h0
  have hi0 : ∀ w, (Instr.index 9 (.string ⟨s.toArray⟩) (.int .i64 0)).run Tryd.prog w = .ok (.int .u8 ((s[0]'hpos).toNat : Int)) w := fun w => HAt.out 0 hpos w
  by_cases h19 : 19 < s.length
  · have HN : Hid (tnum s bound = none) := by rw [Hid, tnum, if_pos (.inr (.inl h19))]
    have h19' : (19 : Int) < (s.length : Int) := by omega
    go_enter Tryd.func56, Tryd.ntmps56
    go_wp2
    go_ret2
    exact toP_no HN.out
  have hle : decide ((19 : Int) < (s.length : Int)) = false := by simp; omega
  have hle2 : ¬ (19 : Int) < (s.length : Int) := by omega
  have hle3 : (s.length : Int) ≤ 19 := by omega
  obtain ⟨b0, hb0⟩ : ∃ b, b = s[0]'hpos := ⟨_, rfl⟩
  rw [← hb0] at hi0
  have hhd : s.head? = some b0 := by rw [hb0, List.head?_eq_getElem?, List.getElem?_eq_getElem hpos]
  have HHD := Lib.hid hhd
  clear hb0 hhd
  by_cases hz : 1 < s.length ∧ b0 = 48
  · obtain ⟨h1, rfl⟩ := hz
    have HN : Hid (tnum s bound = none) := by rw [Hid, tnum, if_pos (.inr (.inr ⟨h1, HHD.out⟩))]
    have h1' : (1 : Int) < (s.length : Int) := by omega
    have hi1 : ∀ w, (Instr.index 9 (.string ⟨s.toArray⟩) (.int .i64 0)).run Tryd.prog w = .ok (.int .u8 48) w := hi0
    clear hi0 hle hle2
    go_enter Tryd.func56, Tryd.ntmps56
    go_wp2
    go_ret2
    exact toP_no HN.out
  have HT : Hid (tnum s bound = if s.all isDg then (if dval s ≤ bound then some (dval s) else none) else none) := by
    rw [Hid, tnum, if_neg]
    simp only [not_or]
    refine ⟨h0, h19, fun h => hz ⟨h.1, ?_⟩⟩
    have := HHD.out.symm.trans h.2
    simpa using this
  have hz' : (1 : Int) < (s.length : Int) ∧ ((b0.toNat : Int) == 48) = false ∨ decide ((1 : Int) < (s.length : Int)) = false ∧ ¬ (1 : Int) < (s.length : Int) := by
    by_cases h1 : 1 < s.length
    · refine .inl ⟨by omega, ?_⟩
      simp only [beq_eq_false_iff_ne, ne_eq]
      intro h
      have e48 : (48 : UInt8).toNat = 48 := rfl
      exact hz ⟨h1, UInt8.toNat_inj.1 (by omega)⟩
    · exact .inr ⟨by simp; omega, by omega⟩
  have hl19 : s.length ≤ 19 := by omega
  clear hz h0 h19 hpos
  rcases hz' with ⟨h1, h2⟩ | ⟨h1, h2⟩
  all_goals
    go_enter Tryd.func56, Tryd.ntmps56
    go_wp2
    go_loop [6, 7] (fun v i => ∃ k : Nat, k ≤ s.length ∧ i = .int .i64 k ∧ v = .int .u64 (dval (s.take k)) ∧ Hid (∀ c ∈ s.take k, isDg c = true)) (fun _ i => s.length - (intOf i).toNat)
    case atStart => exact ⟨0, Nat.zero_le _, rfl, by simp [dval], by simp [Hid]⟩
    case round =>
      obtain ⟨k, hk, rfl, rfl, HD⟩ := hrel
      by_cases hlt : k < s.length
      · have hix := HAt.out k hlt
        have hts : s.take (k + 1) = s.take k ++ [s[k]'hlt] := by
          rw [List.take_add_one, List.getElem?_eq_getElem hlt]
          rfl
        have hmem : s[k]'hlt ∈ s := List.getElem_mem hlt
        obtain ⟨b, hb⟩ : ∃ b, b = s[k]'hlt := ⟨_, rfl⟩
        rw [← hb] at hix hts hmem
        have HTS := Lib.hid hts
        obtain ⟨x, hx⟩ : ∃ x, x = dval (s.take k) := ⟨_, rfl⟩
        have hxl : x < 10 ^ 18 := by rw [hx]; exact dval_lt' HD.out 18 (by rw [List.length_take]; omega)
        have e18 : (10 : Nat) ^ 18 = 1000000000000000000 := by decide
        rw [e18] at hxl
        rw [← hx]
        have HX := Lib.hid hx
        have hb256 : b.toNat < 256 := b.toNat_lt
        clear hb hts hx e18
        by_cases hd : isDg b = true
        · have hd2 := isDg_eq hd
          have g1 : ((b.toNat : Int) < 48) = False := by simp; omega
          have g2 : ¬ (b.toNat : Int) < 48 := by omega
          have g3 : ¬ (57 : Int) < (b.toNat : Int) := by omega
          have g4 : (48 : Int) ≤ (b.toNat : Int) := by omega
          have g5 : (b.toNat : Int) ≤ 57 := by omega
          have HDb := Lib.hid hd
          clear hd hd2 g1 hmem
          go_wp2_with fail
          go_round
          case rel =>
            refine ⟨k + 1, by omega, by go_num, ?_, ?_⟩
            · rw [HTS.out, dval_snoc, ← HX.out]
              go_num
            · intro c hc
              rw [HTS.out] at hc
              rcases List.mem_append.1 hc with hc | hc
              · exact HD.out c hc
              · rw [List.mem_singleton] at hc
                rw [hc]
                exact HDb.out
          case measure => simp [intOf]; omega
        · have HN : Hid (tnum s bound = none) := by
            rw [Hid, HT.out, if_neg]
            intro h
            exact hd (List.all_eq_true.1 h b hmem)
          have hlo : (b.toNat : Int) < 48 ∨ (¬ (b.toNat : Int) < 48 ∧ (57 : Int) < (b.toNat : Int)) := by
            simp [isDg] at hd
            omega
          clear hd hmem
          rcases hlo with hlo | ⟨hlo, hhi⟩
          · go_wp2_with fail
            go_ret2
            exact toP_no HN.out
          · go_wp2_with fail
            go_ret2
            exact toP_no HN.out
      · obtain rfl : k = s.length := by omega
        rw [List.take_length] at *
        have HA : Hid (s.all isDg = true) := by simpa [Hid] using HD.out
        obtain ⟨x, hx⟩ : ∃ x, x = dval s := ⟨_, rfl⟩
        have HX := Lib.hid hx
        rw [← hx]
        clear hx
        by_cases hbd : x ≤ bound
        · have hbd' : ¬ (bound : Int) < (x : Int) := by omega
          have hbd2 : ¬ bound < x := by omega
          have HN : Hid (tnum s bound = some x) := by rw [Hid, HT.out, if_pos HA.out, ← HX.out, if_pos hbd]
          clear hbd
          go_wp2_with fail
          go_ret2
          exact toP_yes HN.out
        · have hbd' : (bound : Int) < (x : Int) := by omega
          have HN : Hid (tnum s bound = none) := by rw [Hid, HT.out, if_pos HA.out, ← HX.out, if_neg hbd]
          clear hbd
          go_wp2_with fail
          go_ret2
          exact toP_no HN.out

end Go.Proofs.YtakigkhjijkkhaaDoor
