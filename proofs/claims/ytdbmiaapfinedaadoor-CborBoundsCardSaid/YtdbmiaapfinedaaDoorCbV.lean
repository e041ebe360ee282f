/- CborBounds, walked. -/
import Derived.Test.YtdbmiaapfinedaaDoorCbT
import Derived.Test.YtdbmiaapfinedaaDoorCbU
import Derived.Lib.AppendZerosOnto
namespace Go.Proofs.YtdbmiaapfinedaaDoor
open Go.RowKit Go.Shelf
set_option linter.unusedSimpArgs false

theorem itV_itZ (w : World) (a : Option Addr) (n c : Nat) (hr : RdB w w.heap.size a (zeros n)) (hc : n ≤ c) (hn : n ≤ 1000000) :
    ItV w w.heap.size (.agg #[.int .i64 2, .int .u64 0, .slice a n c, .string ⟨#[]⟩, .slice none 0 0]) (itZ n) := by
  rw [itZ, ItV]
  exact ⟨none, ⟨a, c, 0, by rw [zeros_length]; rfl, ⟨by rw [zeros_length]; exact hc, Nat.le_refl _⟩, hr, ⟨by decide, by decide⟩, by decide, by rw [zeros_length]; simp only [Sz]; omega, by simp [Sz], by simp [Sz]⟩, .inl rfl⟩

/-- Zero bytes, made. -/
theorem rdB_zeros (w : World) (n : Nat) (t : TypeId) : RdB (w.alloc (.cells (madeCells #[.int .u8 0] n) t)) (w.alloc (.cells (madeCells #[.int .u8 0] n) t)).heap.size (some ⟨w.heap.size, 0, none⟩) (zeros n) := by
  refine .inr ⟨w.heap.size, 0, rfl, by simp, fun j hj => ?_⟩
  rw [zeros_length] at hj
  have h := (World.rowIs_made w (.int .u8 0) n t).cell hj
  rw [Nat.zero_add, h]
  simp [byteAt, zeros, List.getElem?_replicate, hj]

theorem next_cap (k : Nat) (h : 4 ≤ k) : Builtin.nextslicecap (3 + k) 3 = 3 + k := by
  unfold Builtin.nextslicecap
  simp
  omega

set_option maxHeartbeats 1000000 in
/-- Three bytes, and zeros behind them. -/
theorem run_zeros (w : World) (b0 b1 b2 : UInt8) (k : Nat) (h : 4 ≤ k) (hk : k ≤ 1000000) (blk : Nat) (hc : ∀ i u, [encB b0, encB b1, encB b2][i]? = some u → w.cell? ⟨blk, i, none⟩ = some u) (ty : TypeId) :
    ∃ v w', (Builtin.append_ #[24, 3] ty #[.slice (some ⟨blk, 0, none⟩) 3 3, .int .i64 k]).run Tryd.prog w = .ok v w' ∧
      (∃ A C, v = .slice A (3 + k) C ∧ 3 + k ≤ C ∧ RdB w' w'.heap.size A ([b0, b1, b2] ++ zeros k)) ∧ Below w.heap.size w w' := by
  obtain ⟨i0, hi, hz0, hz1, hz2⟩ := info_parts info_u8
  have hold : (Builtin.firstCells i0.size 3 (.slice (some ⟨blk, 0, none⟩) 3 3)).run Tryd.prog w.drew = .ok ([encB b0, encB b1, encB b2] : List Value).toArray w.drew := by
    rw [hz1]
    exact run_firstCells_some (w := w.drew) 1 3 ⟨blk, 0, none⟩ 3 3 _ rfl fun j v hj => by
      rw [mk_addr_add, Nat.zero_add]
      exact hc j v hj
  have hr := Lib.run_append_grow_zeros (P := Tryd.prog) w 24 3 ty 5 i0 (.int .u8 0) .i64 .i64 Tryd.underlying24 Tryd.underlying3 hi hz0 (some ⟨blk, 0, none⟩) 3 3 [encB b0, encB b1, encB b2] hold k (by omega) (by omega) (by omega) (by omega) (by rw [hz2]; omega) (by rw [hz2, next_cap k h]; omega)
  have hcap := grownCap_ge w (3 + k) 3 5
  refine ⟨_, _, hr, ⟨_, _, rfl, hcap, ?_⟩, below_al (Below.refl _ _).drew _⟩
  refine .inr ⟨w.heap.size, 0, rfl, by rw [World.size_alloc]; exact Nat.lt_succ_self _, fun j hj => ?_⟩
  have hm := World.cell?_alloc_mark w.drew ([encB b0, encB b1, encB b2].toArray ++ Builtin.zeroCells (Value.int .u8 0).cells k ++ Builtin.zeroCells (Value.int .u8 0).cells (grownCap w (3 + k) 3 5 - (3 + k))) 5 (0, 0) (0 + j)
  refine hm.trans ?_
  rw [List.length_append, zeros_length] at hj
  have hj' : j < 3 + k := hj
  have hz : (Builtin.zeroCells (Value.int .u8 0).cells k).size = k := by rw [size_zeroCells]; show k * 1 = k; omega
  rw [Nat.zero_add, Array.getElem?_append_left (by rw [Array.size_append, hz]; exact hj')]
  by_cases h3 : j < 3
  · rw [Array.getElem?_append_left (by simpa using h3)]
    have : j = 0 ∨ j = 1 ∨ j = 2 := by omega
    rcases this with rfl | rfl | rfl <;> simp [encB, byteAt]
  · have h3' : 3 ≤ j := by omega
    have hj3 : j - 3 < k := by omega
    rw [Array.getElem?_append_right (by simpa using h3')]
    have hb : byteAt ([b0, b1, b2] ++ zeros k) j = 0 := by
      have hz3 : (zeros k)[j - 3]? = some 0 := by rw [zeros, List.getElem?_replicate, if_pos hj3]
      simp only [byteAt]
      rw [List.getElem?_append_right (by simpa using h3')]
      show (((zeros k)[j - 3]?.getD 0).toNat : Int) = 0
      rw [hz3]
      rfl
    rw [hb]
    show (Builtin.zeroCells #[.int .u8 0] k)[j - 3]? = _
    simp [Builtin.zeroCells, hj3, Nat.mod_one]

theorem three_cells (k : Nat) (hk : k < 65536) (w : World) (t : TypeId) : ∀ i u, [encB 89, encB (UInt8.ofNat (k / 256)), encB (UInt8.ofNat k)][i]? = some u →
    (w.alloc (.cells #[.int .u8 89, .int .u8 ((k : Int) / 256), .int .u8 ((k : Int) % 256)] t)).cell? ⟨w.heap.size, i, none⟩ = some u := by
  intro i u hu
  have e1 : Value.int .u8 ((k : Int) / 256) = encB (UInt8.ofNat (k / 256)) := by
    rw [← byte_enc (k / 256) (by omega)]
    congr 1
  have e2 : Value.int .u8 ((k : Int) % 256) = encB (UInt8.ofNat k) := by
    have : UInt8.ofNat k = UInt8.ofNat (k % 256) := by
      apply UInt8.toNat_inj.1
      simp
    rw [this, ← byte_enc (k % 256) (by omega)]
    congr 1
  rw [World.cell?_alloc_mark, e1, e2]
  have : i < 3 := by
    have := (List.getElem?_eq_some_iff.1 hu).1
    simpa using this
  have h3 : i = 0 ∨ i = 1 ∨ i = 2 := by omega
  rcases h3 with rfl | rfl | rfl <;> simpa [encB] using hu

set_option maxRecDepth 100000 in
set_option maxHeartbeats 4000000 in
theorem walk_bounds (x : Int) (w : World) (ht : TabW w) (hx : -9223372036854775808 ≤ x ∧ x ≤ 9223372036854775807) :
    Calls Tryd.prog 5 #[.int .i64 x] w fun e w' => e = .returned (.bool true) ∧ Below w.heap.size w w' := by
  have HT := Lib.hid ht
  clear ht
  by_cases h1 : x < -2
  · go_enter Tryd.func5, Tryd.ntmps5
    go_wp2_with fail
    refine (cworks_any _ HT.out).mono ?_
    rintro e w1 ⟨rfl, hb1⟩
    go_wp2_with fail
    go_ret
    exact ⟨rfl, hb1⟩
  by_cases h2 : 2 < x
  · go_enter Tryd.func5, Tryd.ntmps5
    go_wp2_with fail
    refine (cworks_any _ HT.out).mono ?_
    rintro e w1 ⟨rfl, hb1⟩
    go_wp2_with fail
    go_ret
    exact ⟨rfl, hb1⟩
  obtain ⟨k, hk⟩ : ∃ k : Nat, 65536 + x = (k : Int) + 3 := ⟨(65533 + x).toNat, by omega⟩
  have hk1 : 65531 ≤ k := by omega
  have hk2 : k ≤ 65535 := by omega
  have hmk := fun w : World => run_make_row' (P := Tryd.prog) 24 5 (.int .u8 0) 1 Tryd.underlying24 info_u8 rfl .i64 .i64 k (by omega) (by omega) w
  have hhl : (headB 2 k).length = 3 := by rw [head2_mid k (by omega) (by omega)]; rfl
  have herr := itZ_err k
  rw [hhl] at herr
  have HErr := Lib.hid herr
  have hdec := decode_itZ k (by omega) (by omega)
  have HDec := Lib.hid hdec
  have hbyt := itZ_bytes k
  have HByt := Lib.hid hbyt
  have HHL := Lib.hid hhl
  clear herr hdec hbyt hhl
  go_enter Tryd.func5, Tryd.ntmps5
  go_wp2_with fail
  refine (rOctets_any _ k k _).mono ?_
  rintro e w1 ⟨rfl, hb1⟩
  have B1 := Lib.hid (below_on (below_al (Below.refl w.heap.size w) _) hb1)
  have V1 := Lib.hid ((itV_itZ _ _ k k (rdB_zeros w k 5) (Nat.le_refl _) (by omega)).on hb1)
  clear hb1
  by_cases hx0 : 0 < x
  · go_wp2_with fail
    refine (encode_any (itZ k) _ _ (V1.out.on (below_al (Below.refl _ _) _)) (HT.out.on (below_al B1.out _)) (by simp [itZ, It.depth, It.depth.depthL])).mono ?_
    rintro e w2 ⟨hb2, hor⟩
    have hor' : e = .returned (.tuple #[.slice none 0 0, .int .i64 3]) := by
      rcases hor with ⟨_, rfl⟩ | ⟨h0, _⟩
      · rw [HErr.out, if_pos (by omega)]
        rfl
      · rw [HErr.out, if_pos (by omega)] at h0
        cases h0
    subst hor'
    clear hor
    have B2 := Lib.hid (below_on (below_al B1.out _) hb2)
    clear hb2
    obtain ⟨v3, w3, hrun, ⟨A3, C3, rfl, hC3, hr3⟩, hb3⟩ := run_zeros (w2.alloc (.cells #[.int .u8 89, .int .u8 ((k : Int) / 256), .int .u8 ((k : Int) % 256)] 5)) 89 (UInt8.ofNat (k / 256)) (UInt8.ofNat k) k (by omega) (by omega) w2.heap.size (three_cells k (by omega) w2 _) 24
    have HRUN := Lib.hid hrun
    have B3 := Lib.hid (below_on (below_al B2.out _) hb3)
    have hr3' : RdB w3 w3.heap.size A3 (headB 2 k ++ zeros k) := by rw [head2_mid k (by omega) (by omega)]; exact hr3
    have R3 := Lib.hid hr3'
    have hl3 : 3 + k = (headB 2 k ++ zeros k).length := by rw [List.length_append, HHL.out, zeros_length]
    have HL3 := Lib.hid hl3
    clear hrun hb3 hr3 hr3' hl3
    go_wp2_with (at_builtin; refine Lib.wpList_append_run _ rfl _ _ 24 3 rfl _ _ rfl rfl _ _ HRUN.out ?_)
    refine (decodesNo (headB 2 k ++ zeros k) 3 (by rw [HDec.out, if_pos (by omega)]) A3 _ C3 HL3.out w3 R3.out hC3 (by rw [← HL3.out]; omega) (HT.out.on B3.out)).mono ?_
    rintro e w4 ⟨rfl, hb4⟩
    have B4 := Lib.hid (below_on B3.out hb4)
    clear hb4
    go_wp2_with (go_at_call 12; refine (cnum_any _ _).mono ?_; rintro e w' ⟨rfl, rfl⟩)
    refine (cworks_any _ (HT.out.on (below_al B4.out _))).mono ?_
    rintro e w5 ⟨rfl, hb5⟩
    have B5 := Lib.hid (below_on (below_al B4.out _) hb5)
    clear hb5
    go_wp2_with fail
    go_ret
    exact ⟨rfl, B5.out⟩
  · go_wp2_with fail
    refine (encode_any (itZ k) _ _ (V1.out.on (below_al (Below.refl _ _) _)) (HT.out.on (below_al B1.out _)) (by simp [itZ, It.depth, It.depth.depthL])).mono ?_
    rintro e w2 ⟨hb2, ⟨hne, _⟩ | ⟨_, u, rfl, ho⟩⟩
    · exact absurd (by rw [HErr.out, if_neg (by omega)]) hne
    obtain ⟨A2, C2, rfl, _, _, _⟩ := ho.bytes
    have hl2 : (itZ k).bytes.length = k + 3 := by rw [HByt.out, List.length_append, HHL.out, zeros_length]; omega
    rw [hl2]
    have B2 := Lib.hid (below_on (below_al B1.out _) hb2)
    clear hb2 ho hl2
    obtain ⟨v3, w3, hrun, ⟨A3, C3, rfl, hC3, hr3⟩, hb3⟩ := run_zeros (w2.alloc (.cells #[.int .u8 89, .int .u8 ((k : Int) / 256), .int .u8 ((k : Int) % 256)] 5)) 89 (UInt8.ofNat (k / 256)) (UInt8.ofNat k) k (by omega) (by omega) w2.heap.size (three_cells k (by omega) w2 _) 24
    have HRUN := Lib.hid hrun
    have B3 := Lib.hid (below_on (below_al B2.out _) hb3)
    have hr3' : RdB w3 w3.heap.size A3 (headB 2 k ++ zeros k) := by rw [head2_mid k (by omega) (by omega)]; exact hr3
    have R3 := Lib.hid hr3'
    have hl3 : 3 + k = (headB 2 k ++ zeros k).length := by rw [List.length_append, HHL.out, zeros_length]
    have HL3 := Lib.hid hl3
    clear hrun hb3 hr3 hr3' hl3
    go_wp2_with (at_builtin; refine Lib.wpList_append_run _ rfl _ _ 24 3 rfl _ _ rfl rfl _ _ HRUN.out ?_)
    refine (decodesYes (headB 2 k ++ zeros k) (itZ k) (by rw [HDec.out, if_neg (by omega)]) A3 _ C3 HL3.out w3 R3.out hC3 (by rw [← HL3.out]; omega) (HT.out.on B3.out)).mono ?_
    rintro e w4 ⟨v0, v1, v2, v3, v4, rfl, ⟨a', c', A', C', rfl, rfl, rfl, rfl, rfl⟩, _, hb4⟩
    have B4 := Lib.hid (below_on B3.out hb4)
    clear hb4
    go_wp2_with (go_at_call 12; refine (cnum_any _ _).mono ?_; rintro e w' ⟨rfl, rfl⟩)
    refine (cworks_any _ (HT.out.on (below_al B4.out _))).mono ?_
    rintro e w5 ⟨rfl, hb5⟩
    have B5 := Lib.hid (below_on (below_al B4.out _) hb5)
    clear hb5
    go_wp2_with fail
    go_ret
    exact ⟨rfl, B5.out⟩

end Go.Proofs.YtdbmiaapfinedaaDoor
