/- slices.Clone of bytes; package octet's Each. -/
import Derived.Test.YtjcfhkodfanbiaaOctF
import Derived.Test.YtjcfhkodfanbiaaOwn
namespace Go.Proofs.Ytjcfhkodfanbiaa
open Go.RowKit Go.Shelf

theorem info_u8 : (Try.prog.info? 5).map (fun i => (i.zero, i.size, i.bytes)) = some (some (.int .u8 0), 1, 1) := by kernel_rfl
theorem info_bytes : (Try.prog.info? 23).map (fun i => (i.zero, i.size, i.bytes)) = some (some (.slice none 0 0), 1, 24) := by kernel_rfl

/-- What a copy of bytes is. -/
def CloneP (w : World) (bs : List UInt8) (e : Ending) (w' : World) : Prop :=
  ∃ v, e = .returned v ∧ OwnV w' w.heap.size 5 v (bs.map encB) ∧ Below w.heap.size w w'

set_option maxRecDepth 100000 in
set_option maxHeartbeats 1000000 in
theorem clone_any (a : Option Addr) (c : Nat) (bs : List UInt8) (w : World) (hlen : bs.length ≤ 140737488355328) (hr : RdB w w.heap.size a bs) :
    Calls Try.prog 29 #[.slice a bs.length c] w (CloneP w bs) := by
  rcases a with _ | ad
  · obtain rfl : bs = [] := by
      rcases hr with h | ⟨b, o, h, _⟩
      · exact h
      · cases h
    have heq := fun w : World => Lib.run_eql_slice_nil (P := Try.prog) w 23 5 none 0 c 0 0 Try.underlying23
    go_enter Try.func29, Try.ntmps29
    go_wp2
    go_ret
    exact ⟨_, rfl, OwnV.nil _ _ _, Below.refl _ _⟩
  · have heq := fun w : World => Lib.run_eql_slice_nil (P := Try.prog) w 23 5 (some ad) bs.length c 0 0 Try.underlying23
    have hs := (hr.src).alloc (.cells #[] 5)
    have ho := OwnV.lit w w.heap.size 5 #[] (Nat.le_refl _) (by decide)
    have h1 := Lib.hid (encB_one bs)
    have hL1 : Hid (([] : List Value).length + (bs.map encB).length ≤ maxLen) := by simp [Hid, maxLen]; omega
    have hL2 : Hid ((([] : List Value).length + (bs.map encB).length) * 1 ≤ 140737488355328) := by simp [Hid]; omega
    clear hr
    go_enter Try.func29, Try.ntmps29
    go_wp2_with (at_builtin; refine wpList_app _ rfl _ _ 23 rfl w.heap.size 5 (.int .u8 0) 1 Try.underlying23 info_u8 rfl _ _ rfl ho _ _ _ _ rfl (List.length_map _) hs h1.out hL1.out hL2.out (by simp) ?_; intro v' w1 hp)
    go_ret
    exact ⟨v', rfl, hp.1, ((Below.refl _ _).alloc (Nat.le_refl _) _).grown hp.2.1 (by simp) (fun r e => by cases e; exact Nat.le_refl _)⟩

end Go.Proofs.Ytjcfhkodfanbiaa
