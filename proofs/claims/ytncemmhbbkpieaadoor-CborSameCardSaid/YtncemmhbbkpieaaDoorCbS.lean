/- What the statement's rows call: plain items, deep bytes. -/
import Derived.Test.YtncemmhbbkpieaaDoorCbR
import Derived.Test.YtncemmhbbkpieaaDoorCbQ
namespace Go.Proofs.YtncemmhbbkpieaaDoor
open Go.RowKit Go.Shelf
set_option linter.unusedSimpArgs false

theorem cnum_any (x : Int) (w : World) : Calls Tryd.prog 10 #[.int .i64 x] w fun e w' => e = .returned (.int .i64 x) ∧ w' = w := by
  go_enter Tryd.func10, Tryd.ntmps10
  go_wp2_with fail
  go_ret
  exact ⟨rfl, rfl⟩

theorem rUint_any (n : Int) (w : World) : Calls Tryd.prog 16 #[.int .u64 n] w fun e w' => e = .returned (.agg #[.int .i64 1, .int .u64 n, .slice none 0 0, .string ⟨#[]⟩, .slice none 0 0]) ∧ Below w.heap.size w w' := by
  go_enter Tryd.func16, Tryd.ntmps16
  go_wp2_with fail
  exact bodyPost_ret (v := .agg #[.int .i64 1, .int .u64 n, .slice none 0 0, .string ⟨#[]⟩, .slice none 0 0]) (by simp [results, Tryd.results16, go_sem]) rfl ⟨rfl, below_al (Below.refl _ _) _⟩

theorem rOctets_any (a : Option Addr) (n c : Nat) (w : World) : Calls Tryd.prog 18 #[.slice a n c] w fun e w' => e = .returned (.agg #[.int .i64 2, .int .u64 0, .slice a n c, .string ⟨#[]⟩, .slice none 0 0]) ∧ Below w.heap.size w w' := by
  go_enter Tryd.func18, Tryd.ntmps18
  go_wp2_with fail
  exact bodyPost_ret (v := .agg #[.int .i64 2, .int .u64 0, .slice a n c, .string ⟨#[]⟩, .slice none 0 0]) (by simp [results, Tryd.results18, go_sem]) rfl ⟨rfl, below_al (Below.refl _ _) _⟩

theorem rText_any (s : ByteArray) (w : World) : Calls Tryd.prog 19 #[.string s] w fun e w' => e = .returned (.agg #[.int .i64 3, .int .u64 0, .slice none 0 0, .string s, .slice none 0 0]) ∧ Below w.heap.size w w' := by
  go_enter Tryd.func19, Tryd.ntmps19
  go_wp2_with fail
  exact bodyPost_ret (v := .agg #[.int .i64 3, .int .u64 0, .slice none 0 0, .string s, .slice none 0 0]) (by simp [results, Tryd.results19, go_sem]) rfl ⟨rfl, below_al (Below.refl _ _) _⟩

theorem rList_any (a : Option Addr) (n c : Nat) (w : World) : Calls Tryd.prog 17 #[.slice a n c] w fun e w' => e = .returned (.agg #[.int .i64 4, .int .u64 0, .slice none 0 0, .string ⟨#[]⟩, .slice a n c]) ∧ Below w.heap.size w w' := by
  go_enter Tryd.func17, Tryd.ntmps17
  go_wp2_with fail
  exact bodyPost_ret (v := .agg #[.int .i64 4, .int .u64 0, .slice none 0 0, .string ⟨#[]⟩, .slice a n c]) (by simp [results, Tryd.results17, go_sem]) rfl ⟨rfl, below_al (Below.refl _ _) _⟩

theorem rBool_any (w : World) : Calls Tryd.prog 20 #[.bool true] w fun e w' => e = .returned (.agg #[.int .i64 5, .int .u64 1, .slice none 0 0, .string ⟨#[]⟩, .slice none 0 0]) ∧ Below w.heap.size w w' := by
  go_enter Tryd.func20, Tryd.ntmps20
  go_wp2_with fail
  exact bodyPost_ret (v := .agg #[.int .i64 5, .int .u64 1, .slice none 0 0, .string ⟨#[]⟩, .slice none 0 0]) (by simp [results, Tryd.results20, go_sem]) rfl ⟨rfl, below_al (Below.refl _ _) _⟩

def deepB (n : Nat) : List UInt8 := List.replicate n 129 ++ [0]

def DeepP (w : World) (n : Nat) (e : Ending) (w' : World) : Prop := ∃ v, e = .returned v ∧ OwnV w' w.heap.size 5 v ((deepB n).map encB) ∧ Below w.heap.size w w'

set_option maxRecDepth 100000 in
set_option maxHeartbeats 2000000 in
theorem deep_any (n : Nat) (hn : n ≤ 1000) (w : World) : Calls Tryd.prog 21 #[.int .i64 n] w (DeepP w n) := by
  go_enter Tryd.func21, Tryd.ntmps21
  go_wp2_with fail
  go_loopw [3, 4] (fun v i wr => ∃ j : Nat, j ≤ n ∧ i = .int .i64 j ∧ Hid (OwnV wr w.heap.size 5 v ((List.replicate j (129 : UInt8)).map encB) ∧ Below w.heap.size w wr)) (fun _ i _ => n - (intOf i).toNat)
  case atStart => exact ⟨0, Nat.zero_le _, rfl, OwnV.nil _ _ _, Below.refl _ _⟩
  case round =>
    obtain ⟨j, hj, rfl, HI⟩ := hrel
    by_cases hlt : j < n
    · have ho := HI.out.1.alloc (.cells #[.int .u8 129] 5)
      have HO := Lib.hid ho
      have hs := src_one wr (.int .u8 129) 5
      have HSr := Lib.hid hs
      have hsz := HI.out.2.size
      clear ho hs
      go_wp2_with (at_builtin; refine wpList_app _ rfl _ _ 22 rfl w.heap.size 5 (.int .u8 0) 1 Tryd.underlying22 info_u8 rfl _ _ rfl HO.out _ _ _ _ rfl rfl HSr.out (by simp [Value.oneCell']) (by simp [maxLen]; omega) (by simp; omega) (by simp; omega) ?_; intro v' w2 hp; have HP := Lib.hid hp; clear hp)
      go_roundw
      case rel =>
        refine ⟨j + 1, by omega, by go_num, ?_, (below_al HI.out.2 _).trans (HP.out.below HO.out (by simp; omega))⟩
        have h1 := HP.out.1
        rw [List.replicate_succ', List.map_append]
        exact h1
      case measure => simp [intOf]; omega
    · obtain rfl : j = n := by omega
      have ho := HI.out.1.alloc (.cells #[.int .u8 0] 5)
      have HO := Lib.hid ho
      have hs := src_one wr (.int .u8 0) 5
      have HSr := Lib.hid hs
      have hsz := HI.out.2.size
      clear ho hs
      go_wp2_with (at_builtin; refine wpList_app _ rfl _ _ 22 rfl w.heap.size 5 (.int .u8 0) 1 Tryd.underlying22 info_u8 rfl _ _ rfl HO.out _ _ _ _ rfl rfl HSr.out (by simp [Value.oneCell']) (by simp [maxLen]; omega) (by simp; omega) (by simp; omega) ?_; intro v' w2 hp; have HP := Lib.hid hp; clear hp)
      go_ret
      refine ⟨v', rfl, ?_, (below_al HI.out.2 _).trans (HP.out.below HO.out (by simp; omega))⟩
      have h1 := HP.out.1
      rw [deepB, List.map_append]
      exact h1

end Go.Proofs.YtncemmhbbkpieaaDoor
