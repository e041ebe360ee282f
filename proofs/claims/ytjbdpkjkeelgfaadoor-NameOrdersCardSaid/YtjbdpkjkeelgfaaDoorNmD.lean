/- Package name's text that is still to be read: until, rest; served, endpoint. -/
import Derived.Test.YtjbdpkjkeelgfaaDoorNmB
import Derived.Test.YtjbdpkjkeelgfaaDoorNmC
import Derived.Laws.RangeAny
import Derived.Lib.OthersKept
import Derived.Deep.RegionHeld3
namespace Go.Proofs.YtjbdpkjkeelgfaaDoor
open Go Go.RowKit Go.Shelf
set_option linter.unusedSimpArgs false
set_option linter.unusedVariables false

/-- All lies as it lay but block R, and what is new. -/
structure Bt (R : Nat) (w w' : World) : Prop where
  os : w'.os = w.os
  tape : w'.tape = w.tape
  output : w'.output = w.output
  size : w.heap.size ≤ w'.heap.size
  block : ∀ k, k < w.heap.size → k ≠ R → w'.heap[k]? = w.heap[k]?

theorem Bt.refl (R : Nat) (w : World) : Bt R w w := ⟨rfl, rfl, rfl, Nat.le_refl _, fun _ _ _ => rfl⟩
theorem Bt.trans {R : Nat} {a b c : World} (h : Bt R a b) (k : Bt R b c) : Bt R a c :=
  ⟨k.os.trans h.os, k.tape.trans h.tape, k.output.trans h.output, Nat.le_trans h.size k.size, fun i hi hne => (k.block i (Nat.lt_of_lt_of_le hi h.size) hne).trans (h.block i hi hne)⟩
theorem Bt.of_below {R : Nat} {w w' : World} (h : Below w.heap.size w w') : Bt R w w' := ⟨h.os, h.tape, h.output, h.size, fun k hk _ => h.block k hk⟩
theorem Bt.set {R o : Nat} (w : World) (v : Value) : Bt R w (w.setCell ⟨R, o, none⟩ v) :=
  ⟨rfl, rfl, rfl, by rw [World.size_setCell]; exact Nat.le_refl _, fun k _ hne => Below.heap_setCell w _ _ k hne⟩
theorem Bt.below {R B : Nat} {w w' : World} (h : Bt R w w') (hR : B ≤ R) (hB : B ≤ w.heap.size) : Below B w w' :=
  ⟨h.os, h.tape, h.output, h.size, fun k hk => h.block k (Nat.lt_of_lt_of_le hk hB) (by omega)⟩
theorem Bt.cell {R b o : Nat} {w w' : World} (h : Bt R w w') (hb : b < w.heap.size) (hne : b ≠ R) : w'.cell? ⟨b, o, none⟩ = w.cell? ⟨b, o, none⟩ :=
  World.cell?_of_block (w := w) (h.block b hb hne)
theorem Bt.frozen {R b o : Nat} {w w' : World} (h : Bt R w w') (hb : b < w.heap.size) (hne : b ≠ R) : w'.frozen? ⟨b, o, none⟩ = w.frozen? ⟨b, o, none⟩ :=
  World.frozen?_of_block (w := w) (h.block b hb hne)

/-- A text in block R. -/
def TS (w : World) (R : Nat) (s : List UInt8) : Prop := w.cell? ⟨R, 0, none⟩ = some (.string ⟨s.toArray⟩) ∧ w.frozen? ⟨R, 0, none⟩ = false ∧ R < w.heap.size

theorem TS.on {w w' : World} {R : Nat} {s : List UInt8} (h : TS w R s) (hb : Below w.heap.size w w') : TS w' R s :=
  ⟨(hb.cell (p := ⟨R, 0, none⟩) h.2.2).trans h.1, (hb.frozen (p := ⟨R, 0, none⟩) h.2.2).trans h.2.1, Nat.lt_of_lt_of_le h.2.2 hb.size⟩

theorem TS.set {w : World} {R : Nat} {s t : List UInt8} (h : TS w R s) : TS (w.setCell ⟨R, 0, none⟩ (.string ⟨t.toArray⟩)) R t :=
  ⟨World.cell?_setCell_same _ _ _ h.1, by rw [World.frozen?_setCell]; exact h.2.1, by rw [World.size_setCell]; exact h.2.2⟩

/-- Of a rune of many bytes each byte is above the plain ones. -/
theorem decode_wide (s : ByteArray) (pos : Nat) (h : pos < s.size) (ha : 128 ≤ (s[pos]'h).toNat) : ∀ k, k < (Utf8.decode s pos).2 → pos + k < s.size ∧ 128 ≤ (s.get! (pos + k)).toNat := by
  have hn : ¬ (s[pos]'h).toNat < 128 := by omega
  have e0 := get_at s pos h
  have h0 : pos + 0 < s.size ∧ 128 ≤ (s.get! (pos + 0)).toNat := ⟨by omega, by rw [e0]; omega⟩
  simp only [Utf8.decode, e0, hn, if_false]
  intro k hk
  have hc : ∀ j, (decide (pos + j < s.size) && (s.get! (pos + j)).toNat / 64 == 2) = true → pos + j < s.size ∧ 128 ≤ (s.get! (pos + j)).toNat := fun j hj => by
    simp only [Bool.and_eq_true, decide_eq_true_eq, beq_iff_eq] at hj
    omega
  rcases Nat.eq_zero_or_pos k with rfl | hk0
  · exact h0
  · repeat' split at hk
    all_goals (first | (exfalso; simp at hk; omega) | skip)
    all_goals simp only [Bool.and_eq_true] at *
    · have h1 := hc 1 (by simp_all)
      obtain rfl : k = 1 := by omega
      exact h1
    · have h1 := hc 1 (by simp_all)
      have h2 := hc 2 (by simp_all)
      rcases (show k = 1 ∨ k = 2 by omega) with rfl | rfl
      · exact h1
      · exact h2
    · have h1 := hc 1 (by simp_all)
      have h2 := hc 2 (by simp_all)
      have h3 := hc 3 (by simp_all)
      rcases (show k = 1 ∨ k = 2 ∨ k = 3 by omega) with rfl | rfl | rfl
      · exact h1
      · exact h2
      · exact h3

theorem take_more {c : UInt8} {l : List UInt8} {p n : Nat} (h : c ∉ l.take p) (hn : ∀ k, k < n → l[p + k]? ≠ some c) : c ∉ l.take (p + n) := fun hc => by
  rw [List.mem_iff_getElem?] at hc
  obtain ⟨i, hi⟩ := hc
  rw [List.getElem?_take] at hi
  split at hi
  · by_cases hp : i < p
    · exact h (List.mem_iff_getElem?.2 ⟨i, by rw [List.getElem?_take, if_pos hp]; exact hi⟩)
    · exact hn (i - p) (by omega) (by rw [show p + (i - p) = i by omega]; exact hi)
  · cases hi

theorem cut_here {c : UInt8} {l : List UInt8} {p : Nat} (h : c ∉ l.take p) (hp : l[p]? = some c) : cutL c l = some (l.take p, l.drop (p + 1)) := by
  refine cutL_iff.2 ⟨?_, h⟩
  obtain ⟨hlt, e⟩ := List.getElem?_eq_some_iff.1 hp
  have := (List.take_append_drop p l).symm
  rw [List.drop_eq_getElem_cons hlt, e] at this
  exact this

theorem cut_never {c : UInt8} {l : List UInt8} {p : Nat} (h : c ∉ l.take p) (hp : l.length ≤ p) : cutL c l = none := by
  rw [List.take_of_length_le hp] at h
  exact cutL_none.2 h

/-- What until answers. -/
def UntilP (w : World) (R : Nat) (c : UInt8) (s : List UInt8) (e : Ending) (w' : World) : Prop :=
  Bt R w w' ∧ match cutL c s with
    | some (a, b) => e = .returned (.string ⟨a.toArray⟩) ∧ TS w' R b
    | none => e = gives 130

theorem untilP_no {w w' : World} {R : Nat} {c : UInt8} {s : List UInt8} (hb : Bt R w w') (h : cutL c s = none) : UntilP w R c s (gives 130) w' := ⟨hb, by rw [h]⟩
theorem untilP_yes {w w' : World} {R : Nat} {c : UInt8} {s a b : List UInt8} (hb : Bt R w w') (h : cutL c s = some (a, b)) (ht : TS w' R b) : UntilP w R c s (.returned (.string ⟨a.toArray⟩)) w' := ⟨hb, by rw [h]; exact ⟨rfl, ht⟩⟩

theorem run_from (s : List UInt8) (hs : s.length ≤ 140737488355328) (p : Nat) (hp : p ≤ s.length) (w : World) : (Instr.slice 9 (.string ⟨s.toArray⟩) (some (.int .i64 (p : Int))) none none).run Tryd.prog w = .ok (.string ⟨(s.drop p).toArray⟩) w := by
  have hsz : (⟨s.toArray⟩ : ByteArray).size = s.length := by simp [ByteArray.size]
  rw [run_slice_string_from_if w 9 _ .i64 (p : Int) Tryd.underlying9, if_pos (by rw [hsz]; omega)]
  have e : (⟨s.toArray⟩ : ByteArray).extract ((p : Int).toNat) (⟨s.toArray⟩ : ByteArray).size = ⟨(s.drop p).toArray⟩ := by
    apply ByteArray.ext
    rw [ByteArray.data_extract]
    apply Array.toList_inj.1
    rw [Array.toList_extract]
    simp [hsz]
    rw [List.take_of_length_le (by simp)]
  rw [e]

theorem run_to (s : List UInt8) (hs : s.length ≤ 140737488355328) (p : Nat) (hp : p ≤ s.length) (w : World) : (Instr.slice 9 (.string ⟨s.toArray⟩) none (some (.int .i64 (p : Int))) none).run Tryd.prog w = .ok (.string ⟨(s.take p).toArray⟩) w := by
  have hsz : (⟨s.toArray⟩ : ByteArray).size = s.length := by simp [ByteArray.size]
  rw [run_slice_string_to_if w 9 _ .i64 (p : Int) Tryd.underlying9, if_pos (by rw [hsz]; omega)]
  have e : (⟨s.toArray⟩ : ByteArray).extract 0 ((p : Int).toNat) = ⟨(s.take p).toArray⟩ := by
    apply ByteArray.ext
    rw [ByteArray.data_extract]
    apply Array.toList_inj.1
    rw [Array.toList_extract]
    simp
  rw [e]

theorem runeLen_one (c : UInt8) (hc : c.toNat < 128) (w : World) : Calls Tryd.prog 87 #[.int .i32 (c.toNat : Int)] w fun e w' => e = .returned (.int .i64 1) ∧ w' = w := by
  have h0 : ¬ (c.toNat : Int) < 0 := by omega
  have h1 : (c.toNat : Int) ≤ 127 := by omega
  go_enter Tryd.func87, Tryd.ntmps87
  go_wp2
  all_goals first | (go_ret; exact ⟨rfl, rfl⟩) | (exfalso; omega)

set_option maxRecDepth 100000 in
set_option maxHeartbeats 2000000 in
theorem until_any (R : Nat) (c : UInt8) (hc : c.toNat < 128) (s : List UInt8) (hs : s.length ≤ 140737488355328) (w : World) (h : TS w R s) :
    Calls Tryd.prog 71 #[.pointer (some ⟨R, 0, none⟩), .int .i32 (c.toNat : Int)] w (UntilP w R c s) := by
  have HTS := Lib.hid h
  obtain ⟨h0, hf0, hR⟩ := h
  have HFr := Lib.hid (run_from s hs)
  have HTo := Lib.hid (run_to s hs)
  obtain ⟨S, hS⟩ : ∃ S : ByteArray, S = ⟨s.toArray⟩ := ⟨_, rfl⟩
  have hsz : S.size = s.length := by rw [hS]; simp [ByteArray.size]
  have hat : ∀ i (hi : i < S.size) (h2 : i < s.length), S[i]'hi = s[i]'h2 := fun i hi h2 => by
    subst hS
    show (s.toArray)[i]'_ = _
    simp
  have hgt : ∀ i (hi : i < s.length), S.get! i = s[i]'hi := fun i hi => by
    have := get_at S i (by rw [hsz]; exact hi)
    rw [Nat.add_zero] at this
    rw [this, hat i _ hi]
  rw [← hS] at h0 HFr HTo
  have HS := Lib.hid hS
  have HSZ := Lib.hid hsz
  have HAT := Lib.hid hat
  have HGT := Lib.hid hgt
  clear hS hsz hat hgt
  have hc1 : (c.toNat : Int) ≤ 127 := by omega
  go_enter Tryd.func71, Tryd.ntmps71
  go_wp2
  go_loopw [6] (fun _ wr => ∃ pos, pos ≤ S.size ∧ wr = w.iter S pos ∧ Hid (c ∉ s.take pos)) (fun _ wr => S.size - wr.iterPos w.heap.size)
  case atStart => exact ⟨0, Nat.zero_le _, rfl, by simp [Hid]⟩
  case round =>
    obtain ⟨pos, hpos, rfl, HN⟩ := hrel
    have hm0 : (w.iter S pos).iterPos w.heap.size = pos := World.iterPos_iter w S pos
    by_cases hp : pos < S.size
    · have hps : pos < s.length := by have := HSZ.out; omega
      have hnx : ∀ ty, (Instr.next (.pointer (some ⟨w.heap.size, 0, none⟩)) true ty).run Tryd.prog (w.iter S pos) = _ := fun ty => run_next_any w S pos ty hp
      obtain ⟨b, hb⟩ : ∃ b, b = S[pos]'hp := ⟨_, rfl⟩
      have hbs : s[pos]? = some b := by rw [hb, HAT.out pos hp hps, List.getElem?_eq_getElem hps]
      have HBS := Lib.hid hbs
      have HB := Lib.hid hb
      clear hbs
      by_cases hlow : b.toNat < 128
      · have hd := decode_ascii S pos hp (by rw [← hb]; exact hlow)
        rw [hd, ← hb] at hnx
        clear hd hb
        by_cases he : b = c
        · subst he
          have c0 : (w.iter S (pos + 1)).cell? ⟨R, 0, none⟩ = some (.string S) := (World.cell?_alloc_lt _ _ _ hR).trans h0
          have f0 : (w.iter S (pos + 1)).frozen? ⟨R, 0, none⟩ = false := (World.frozen?_alloc_old _ _ _ (Nat.ne_of_lt hR)).trans hf0
          have k1 : ∀ w, (Instr.slice 9 (.string S) (some (.int .i64 ((pos : Int) + 1))) none none).run Tryd.prog w = .ok (.string ⟨(s.drop (pos + 1)).toArray⟩) w := by simpa using HFr.out (pos + 1) (by omega)
          have k2 := HTo.out pos (by omega)
          have HRL := Lib.hid (fun w => runeLen_one b hc w)
          have HBe : Hid (Below w.heap.size w (w.iter S (pos + 1))) := below_al (Below.refl _ _) _
          generalize w.iter S (pos + 1) = wi at *
          go_wp2_with fail
          refine (HRL.out _).mono ?_
          rintro e w' ⟨rfl, rfl⟩
          go_wp2
          go_ret
          refine untilP_yes ((Bt.of_below HBe.out).trans (Bt.set _ _)) (cut_here HN.out HBS.out) ?_
          exact (TS.set (s := s) (t := s.drop (pos + 1)) ⟨by rw [← HS.out]; exact c0, f0, Nat.lt_of_lt_of_le hR HBe.out.size⟩)
        · have hne : ((b.toNat : Int) == (c.toNat : Int)) = false := by
            simp only [beq_eq_false_iff_ne, ne_eq]
            intro h
            exact he (UInt8.toNat_inj.1 (by omega))
          have hne' : ¬ (b.toNat : Int) = (c.toNat : Int) := fun h => he (UInt8.toNat_inj.1 (by omega))
          have hne2 : ¬ b.toNat = c.toNat := fun h => he (UInt8.toNat_inj.1 h)
          have HHE := Lib.hid he
          clear he
          go_wp2_with fail
          go_roundw
          case rel => exact ⟨pos + 1, by omega, rfl, take_more HN.out (fun k hk => by
            obtain rfl : k = 0 := by omega
            rw [Nat.add_zero, HBS.out]
            exact fun h => HHE.out (Option.some.inj h))⟩
          case measure =>
            rw [hm0, World.iterPos_iter]
            omega
      · have hhi := decode_high S pos hp (by rw [← hb]; omega)
        have hwide := decode_wide S pos hp (by rw [← hb]; omega)
        have hle := decode_le S pos
        obtain ⟨rn, hrn⟩ : ∃ r, r = (Utf8.decode S pos).1 := ⟨_, rfl⟩
        obtain ⟨wd, hwd⟩ : ∃ n, n = (Utf8.decode S pos).2 := ⟨_, rfl⟩
        rw [← hrn, ← hwd] at hnx
        rw [← hrn] at hhi hle
        rw [← hwd] at hhi hwide
        have hr1 : 128 ≤ rn := hhi.1
        have hr2 : 1 ≤ wd := hhi.2
        have HW := Lib.hid hwide
        have hne : ((rn : Int) == (c.toNat : Int)) = false := by
          simp only [beq_eq_false_iff_ne, ne_eq]
          omega
        have hne' : ¬ (rn : Int) = (c.toNat : Int) := by omega
        have hne2 : ¬ rn = c.toNat := by omega
        have hend : pos + wd ≤ S.size := by have := hwide (wd - 1) (by omega); omega
        clear hrn hwd hhi hwide hb
        go_wp2_with fail
        go_roundw
        case rel => exact ⟨pos + wd, hend, rfl, take_more HN.out (fun k hk hcc => by
          have hq := HW.out k hk
          rw [HGT.out _ (by have := HSZ.out; omega)] at hq
          rw [List.getElem?_eq_getElem (by have := HSZ.out; omega)] at hcc
          have := Option.some.inj hcc
          rw [this] at hq
          omega)⟩
        case measure =>
          rw [hm0, World.iterPos_iter]
          omega
    · have hnx : ∀ ty, (Instr.next (.pointer (some ⟨w.heap.size, 0, none⟩)) true ty).run Tryd.prog (w.iter S pos) = .ok (.tuple #[.bool false]) (w.iter S pos) := fun ty => Lib.run_next_end_at _ _ S pos ty (World.iter_heap w S pos) hp
      go_wp2_with fail
      exact ⟨rfl, untilP_no (Bt.of_below (below_al (Below.refl _ _) _)) (cut_never HN.out (by have := HSZ.out; omega))⟩

end Go.Proofs.YtjbdpkjkeelgfaaDoor
