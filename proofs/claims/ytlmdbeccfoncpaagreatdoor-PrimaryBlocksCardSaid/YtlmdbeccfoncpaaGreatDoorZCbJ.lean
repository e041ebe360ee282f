/- Package cbor's Encode and Check. -/
import Derived.Test.YtlmdbeccfoncpaaGreatDoorZCbI
namespace Go.Proofs.YtlmdbeccfoncpaaGreatDoor
open Go.RowKit Go.Shelf

/-- Why an item has no bytes (0: it has). -/
def It.err (x : It) : Nat := if x.right = true then (if 8 < x.depth then 120 else if 65536 < x.bytes.length then 3 else 0) else 2

def EncP (w : World) (x : It) (e : Ending) (w' : World) : Prop :=
  Below w.heap.size w w' ∧ ((x.err ≠ 0 ∧ e = .returned (.tuple #[.slice none 0 0, .int .i64 x.err])) ∨
    (x.err = 0 ∧ ∃ u, e = .returned (.tuple #[u, .int .i64 0]) ∧ OwnV w' w.heap.size 5 u (x.bytes.map encB)))

theorem WS.new (w : World) : WS ((w.alloc (.map kMap 6)).alloc (.cells #[.map (some w.heap.size), .slice none 0 0, .int .i64 0, .bool false] 120)) (w.heap.size + 1) w.heap.size [] 0 (.slice none 0 0) where
  lt := by simp
  map := by
    rw [Below.heap_alloc _ _ _ (by simp)]
    exact map_at w kMap 6
  c0 := by simp
  c1 := by simp
  c2 := by simp
  c3 := by simp
  fz := fun j => by simp
  own := fun _ => OwnV.nil _ _ _

set_option maxRecDepth 100000 in
set_option maxHeartbeats 4000000 in
theorem encode_any (x : It) (v : Value) (w : World) (hv : ItV w w.heap.size v x) (ht : TabW w) (hd : x.depth ≤ 60000) :
    Calls Tryz.prog 53 #[v] w (EncP w x) := by
  obtain ⟨a, c, A, C, rfl⟩ := hv.form
  have HV := Lib.hid hv
  have HT := Lib.hid ht
  have h2 := ht.1.1
  have B0 := below_al (Below.refl w.heap.size w) (.cells #[.int .i64 x.k, .int .u64 x.n, .slice a x.b.length c, .string ⟨x.s.toArray⟩, .slice A x.l.length C] 84)
  clear hv ht
  go_enter Tryz.func53, Tryz.ntmps53
  go_wp2_with fail
  refine (kinds_any _).mono ?_
  rintro e w1 ⟨rfl, rfl⟩
  have B2 := below_al (below_al B0 (.map kMap 6)) (.cells #[.map (some (w.heap.size + 1)), .slice none 0 0, .int .i64 0, .bool false] 120)
  have hws := WS.new (w.alloc (.cells #[.int .i64 x.k, .int .u64 x.n, .slice a x.b.length c, .string ⟨x.s.toArray⟩, .slice A x.l.length C] 84))
  rw [World.size_alloc] at hws
  have HWS := Lib.hid hws
  clear hws
  go_wp2_with fail
  refine (write_any x _ (fun _ => False) (w.heap.size + 1 + 1) (w.heap.size + 1) 0 0 [] (.slice none 0 0) _ ?_ HWS.out (fun _ _ _ h => h) (fun h => h) (fun _ h => h.elim) (HT.out.on B2) (by omega) (by omega) (by omega)).mono ?_
  · exact ItV.mono (by omega) x (ItV.below B2 x HV.out)
  rintro e w4 ⟨_, hb4, hcase⟩
  have B4 := B2.trans (hb4.mono (by omega))
  clear hb4 B2 B0
  rcases hcase with ⟨hr, rfl, u, hw4, _⟩ | ⟨hr, rfl⟩
  · rw [List.nil_append] at hw4
    have hde : max 0 (0 + x.depth) = x.depth := by omega
    rw [hde] at hw4
    have hc1 := hw4.c1
    have hc2 := hw4.c2
    have hc3 := hw4.c3
    have HW4 := Lib.hid hw4
    have HR := Lib.hid hr
    clear hw4 hr hde
    by_cases hd8 : 8 < x.depth
    · have HE : Hid (x.err = 120) := by rw [Hid, It.err, HR.out, if_pos rfl, if_pos hd8]
      go_wp2_with fail
      go_ret2
      exact ⟨B4, .inl ⟨by rw [HE.out]; decide, by rw [HE.out]; rfl⟩⟩
    · by_cases hlo : 65536 < x.bytes.length
      · have HE : Hid (x.err = 3) := by rw [Hid, It.err, HR.out, if_pos rfl, if_neg hd8, if_pos hlo]
        rw [decide_eq_true hlo] at hc3
        clear hlo
        go_wp2_with fail
        go_ret2
        exact ⟨B4, .inl ⟨by rw [HE.out]; decide, by rw [HE.out]; rfl⟩⟩
      · have HE : Hid (x.err = 0) := by rw [Hid, It.err, HR.out, if_pos rfl, if_neg hd8, if_neg hlo]
        have ho := HW4.out.own (by omega)
        obtain ⟨ua, uc, rfl, _⟩ := ho.bytes
        have HO := Lib.hid ho
        rw [decide_eq_false hlo] at hc3
        clear hlo ho
        go_wp2_with fail
        go_ret2
        exact ⟨B4, .inr ⟨HE.out, _, rfl, HO.out.base (by omega)⟩⟩
  · have HE : Hid (x.err = 2) := by rw [Hid, It.err, hr, if_neg (by decide)]
    clear hr
    go_wp2_with fail
    go_ret2
    exact ⟨B4, .inl ⟨by rw [HE.out]; decide, by rw [HE.out]; rfl⟩⟩

end Go.Proofs.YtlmdbeccfoncpaaGreatDoor
