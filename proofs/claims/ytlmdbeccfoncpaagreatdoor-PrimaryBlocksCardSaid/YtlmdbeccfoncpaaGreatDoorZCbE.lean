/- strings.HasPrefix; package cbor's Runes. -/
import Derived.Test.YtlmdbeccfoncpaaGreatDoorZJf
import Derived.Test.YtlmdbeccfoncpaaGreatDoorZKv
import Derived.Test.YtlmdbeccfoncpaaGreatDoorZCbD
namespace Go.Proofs.YtlmdbeccfoncpaaGreatDoor
open Go.RowKit Go.Shelf

set_option maxHeartbeats 1000000 in
theorem hasPrefixI_any (s p : ByteArray) (w : World) :
    Calls Tryz.prog 155 #[.string s, .string p] w fun e w' => e = .returned (.bool (Lib.hasPrefix s.data.toList p.data.toList)) ∧ w' = w := by
  rw [← Lib.hasPrefix_of_take, ← Lib.size_eq, ← Lib.size_eq]
  go_enter Tryz.func155, Tryz.ntmps155
  go_wp2
  · rename_i h
    go_ret
    refine ⟨?_, rfl⟩
    show Ending.returned (Value.bool ((s.extract 0 p.size).toList == p.toList)) = _
    rw [Lib.extract_toList, Lib.toList_data]
    simp [h]
  · rename_i h
    go_ret
    refine ⟨?_, rfl⟩
    show Ending.returned (Value.bool false) = _
    simp [h]

set_option maxHeartbeats 1000000 in
theorem hasPrefix_any (s p : ByteArray) (w : World) :
    Calls Tryz.prog 146 #[.string s, .string p] w fun e w' => e = .returned (.bool (Lib.hasPrefix s.data.toList p.data.toList)) ∧ w' = w := by
  go_enter Tryz.func146, Tryz.ntmps146
  go_wp2_with (go_at_call 155; refine (hasPrefixI_any _ _ _).mono ?_; rintro e w' ⟨rfl, hw⟩; rw [hw])
  go_ret
  exact ⟨rfl, rfl⟩

theorem tail_list (s : ByteArray) (pos : Nat) : (s.extract pos s.size).data.toList = s.data.toList.drop pos := by
  have hl : s.data.toList.length = s.size := Array.length_toList
  rw [ByteArray.data_extract, Array.toList_extract]
  show (s.data.toList.drop pos).take (s.size - pos) = _
  exact List.take_of_length_le (by rw [List.length_drop, hl]; exact Nat.le_refl _)

def RunesP (l : List UInt8) (w : World) (e : Ending) (w' : World) : Prop := e = .returned (.tuple #[.int .i64 (runesL l).1, .bool (runesL l).2]) ∧ Below w.heap.size w w'

theorem runesL_len (l : List UInt8) : (runesL l).1 ≤ l.length := by
  unfold runesL
  generalize hf : l.length = f
  have : l.length ≤ f := by omega
  clear hf
  induction f generalizing l with
  | zero => simp [runesF]
  | succ f ih =>
    simp only [runesF]
    split
    · simp
    · have := ih (l.drop (max 1 (rl l))) (by rw [List.length_drop]; omega)
      simp
      omega

/-- Where the walk stands: so many bytes are behind, so many runes; each of them right? -/
def RunesI (l : List UInt8) (pos m : Nat) (ok : Bool) : Prop :=
  pos ≤ l.length ∧ m + (runesL (l.drop pos)).1 = (runesL l).1 ∧ (ok && (runesL (l.drop pos)).2) = (runesL l).2

theorem RunesI.step {l : List UInt8} {pos m : Nat} {ok : Bool} (h : RunesI l pos m ok) (hp : pos < l.length) (hr : rl (l.drop pos) ≤ l.length - pos) :
    RunesI l (pos + max 1 (rl (l.drop pos))) (m + 1) (ok && decide (rl (l.drop pos) ≠ 0)) := by
  obtain ⟨h1, h2, h3⟩ := h
  have hs := runesL_step (l.drop pos) (by rw [ne_eq, List.drop_eq_nil_iff]; omega)
  rw [List.drop_drop] at hs
  rw [hs] at h2 h3
  refine ⟨by omega, by simp only at h2; omega, ?_⟩
  rw [Bool.and_assoc]
  exact h3

theorem rl_le (l : List UInt8) (hne : l ≠ []) : rl l ≤ l.length := by
  have hl : 0 < l.length := List.length_pos_iff.2 hne
  unfold rl
  have h4 : (lead (bt l 0)).1 ≤ 4 := by
    unfold lead
    repeat' split
    all_goals simp
  generalize lead (bt l 0) = q at *
  obtain ⟨n, lo, hi⟩ := q
  simp only at h4 ⊢
  split
  · omega
  · split
    · rename_i h
      simp [inB] at h
      omega
    · omega

theorem pre_call (s : ByteArray) (pos : Nat) (q : Bool) (h : pre (s.data.toList.drop pos) = q) (w : World) :
    Calls Tryz.prog 146 #[.string (s.extract pos s.size), .string ⟨#[239, 191, 189]⟩] w fun e w' => e = .returned (.bool q) ∧ w' = w := by
  have h1 := hasPrefix_any (s.extract pos s.size) ⟨#[239, 191, 189]⟩ w
  rw [tail_list] at h1
  subst h
  exact h1

set_option maxRecDepth 100000 in
set_option maxHeartbeats 2000000 in
theorem runes_any (s : ByteArray) (w : World) (hs : s.size ≤ 140737488355328) :
    Calls Tryz.prog 130 #[.string s] w (RunesP s.data.toList w) := by
  have HS : Hid (s.data.toList.length = s.size) := Array.length_toList
  go_enter Tryz.func130, Tryz.ntmps130
  go_wp2_with fail
  go_loopw [4, 5] (fun n r wr => ∃ (pos m : Nat) (ok : Bool), wr = w.iter s pos ∧ n = .int .i64 m ∧ r = .bool ok ∧ Hid (RunesI s.data.toList pos m ok)) (fun _ _ w' => s.size - w'.iterPos w.heap.size)
  case atStart => exact ⟨0, 0, true, rfl, rfl, rfl, by simp [Hid, RunesI]⟩
  case round =>
    obtain ⟨pos, m, ok, rfl, rfl, rfl, HI⟩ := hrel
    have hpos := HI.out.1
    rw [HS.out] at hpos
    have hm : m ≤ s.size := by
      have := HI.out.2.1
      have := runesL_len s.data.toList
      rw [HS.out] at this
      omega
    by_cases hp : pos < s.size
    · have hnx : ∀ ty, (Instr.next (.pointer (some ⟨w.heap.size, 0, none⟩)) true ty).run Tryz.prog (w.iter s pos) = _ := fun ty => run_next_any w s pos ty hp
      have hd := decode_rl s pos hp
      have hne : s.data.toList.drop pos ≠ [] := by
        rw [ne_eq, List.drop_eq_nil_iff, HS.out]
        omega
      have hrl := rl_le _ hne
      rw [List.length_drop, HS.out] at hrl
      have HN : Hid (RunesI s.data.toList (pos + max 1 (rl (s.data.toList.drop pos))) (m + 1) (ok && decide (rl (s.data.toList.drop pos) ≠ 0))) :=
        HI.out.step (by rw [HS.out]; exact hp) (by rw [HS.out]; exact hrl)
      obtain ⟨c, wd, hdec⟩ : ∃ c wd, Utf8.decode s pos = (c, wd) := ⟨_, _, rfl⟩
      have HDec := Lib.hid hdec
      have hcle := decode_le s pos
      rw [hdec] at hd hnx hcle
      clear hdec hne
      simp only at hd hnx hcle
      by_cases hr : rl (s.data.toList.drop pos) = 0
      · obtain ⟨he, hpre⟩ := hd.1 hr
        rw [hr] at HN
        injection he with e1 e2
        subst e1 e2
        have HP := Lib.hid (pre_call s pos false hpre)
        clear hpre hr hd
        go_wp2_with (go_at_call 146; refine (HP.out _).mono ?_; rintro e w' ⟨rfl, rfl⟩)
        go_roundw
        case rel => exact ⟨_, _, _, rfl, by go_num, rfl, by simpa using HN⟩
        case measure =>
          simp
          omega
      · obtain ⟨he, hpre⟩ := hd.2 hr
        subst he
        have HN' : Hid (RunesI s.data.toList (pos + rl (s.data.toList.drop pos)) (m + 1) ok) := by
          have h1 : max 1 (rl (s.data.toList.drop pos)) = rl (s.data.toList.drop pos) := by omega
          have h2 := HN.out
          rw [h1] at h2
          simpa [Hid, hr] using h2
        have hr0 : 0 < rl (s.data.toList.drop pos) := by omega
        clear HN hd hr
        by_cases hc : c = 65533
        · subst hc
          have HP := Lib.hid (pre_call s pos true (hpre rfl))
          clear hpre
          go_wp2_with (go_at_call 146; refine (HP.out _).mono ?_; rintro e w' ⟨rfl, rfl⟩)
          go_roundw
          case rel => exact ⟨_, _, _, rfl, by go_num, rfl, HN'⟩
          case measure =>
            simp
            omega
        · have hc' : ((c : Int) == 65533) = false := by simp; omega
          clear hpre
          go_wp2_with fail
          go_roundw
          case rel => exact ⟨_, _, _, rfl, by go_num, rfl, HN'⟩
          case measure =>
            simp
            omega
    · have hnx : ∀ ty, (Instr.next (.pointer (some ⟨w.heap.size, 0, none⟩)) true ty).run Tryz.prog (w.iter s pos) = _ := fun ty => run_next_end w s pos ty hp
      have HE : Hid (m = (runesL s.data.toList).1 ∧ ok = (runesL s.data.toList).2) := by
        have h1 := HI.out
        have h2 : s.data.toList.drop pos = [] := by
          rw [List.drop_eq_nil_iff, HS.out]
          omega
        rw [RunesI, h2] at h1
        simpa [Hid, runesL, runesF_nil] using h1.2
      go_wp2_with fail
      go_ret2
      exact ⟨by rw [HE.out.1, HE.out.2]; rfl, (Below.refl _ _).alloc (Nat.le_refl _) _⟩

end Go.Proofs.YtlmdbeccfoncpaaGreatDoor
