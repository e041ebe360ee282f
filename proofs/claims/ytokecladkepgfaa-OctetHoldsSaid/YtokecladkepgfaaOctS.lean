/- The walk of OctetHolds: whatever number, bytes, two places. -/
import Derived.Test.YtokecladkepgfaaOctK
import Derived.Test.YtokecladkepgfaaOctP
import Derived.Deep.RegionHeld3
namespace Go.Proofs.Ytokecladkepgfaa
open Go.RowKit Go.Shelf

/-- What is known of the least width. -/
theorem least_facts (n : Int) : ∃ W : Nat, leastOf n = (W : Int) ∧ isW W = true ∧ fits W n = true ∧ (isW ((W : Int) / 2) = false ∨ (isW ((W : Int) / 2) = true ∧ fits ((W : Int) / 2) n = false)) := by
  unfold leastOf firstW
  cases h1 : fits 1 n
  · cases h2 : fits 2 n
    · cases h4 : fits 4 n
      · have h8 : fits 8 n = true := by simp [fits]
        exact ⟨8, by simp [h8], rfl, h8, .inr ⟨rfl, h4⟩⟩
      · exact ⟨4, by simp, rfl, h4, .inr ⟨rfl, h2⟩⟩
    · exact ⟨2, by simp, rfl, h2, .inr ⟨rfl, h1⟩⟩
  · exact ⟨1, by simp, rfl, h1, .inl rfl⟩

theorem put_less (x n : Int) (w : World) (hn : U64 n) (h : isW x = false ∨ (isW x = true ∧ fits x n = false)) :
    Calls Try.prog 8 #[.int .u64 n, .int .i64 x] w fun e w' => ∃ g : Int, e = .returned (.tuple #[.slice none 0 0, .int .i64 g]) ∧ (g == 0) = false ∧ Below w.heap.size w w' := by
  rcases h with h | ⟨h, hf⟩
  · refine (put_arg x n w h).mono ?_
    rintro e w' ⟨rfl, hb⟩
    exact ⟨2, rfl, rfl, hb⟩
  · refine (put_range x n w h hn hf).mono ?_
    rintro e w' ⟨rfl, hb⟩
    exact ⟨4, rfl, rfl, hb⟩

theorem least_nat (W : Nat) (n : Int) (w : World) (hn : U64 n) (hW : leastOf n = (W : Int)) : Calls Try.prog 11 #[.int .u64 n] w fun e w' => e = .returned (.int .i64 W) ∧ Below w.heap.size w w' := by
  have h := least_any n w hn
  rwa [hW] at h

theorem put_beB (W : Nat) (n : Int) (w : World) (hx : isW W = true) (hn : U64 n) (hf : fits W n = true) :
    Calls Try.prog 8 #[.int .u64 n, .int .i64 W] w fun e w' => ∃ a c, e = .returned (.tuple #[.slice a (beB W n).length c, .int .i64 0]) ∧ (beB W n).length ≤ c ∧ RdB w' w'.heap.size a (beB W n) ∧ Below w.heap.size w w' := by
  refine (put_ok W n w hx hn hf).mono ?_
  rintro e w' ⟨v, rfl, ⟨a, c, rfl, hc, hr, _⟩, hb⟩
  exact ⟨a, c, rfl, hc, hr, hb⟩

theorem begins_self (x b : List UInt8) : begins (x ++ b) x = true := by
  rw [begins_iff]
  intro j hj
  exact ⟨by simp; omega, by simp [byteAt, List.getElem?_append_left hj]⟩

theorem rdP_pair (w : World) (B : Nat) (hB : B ≤ w.heap.size) (t : TypeId) (a1 a2 : Option Addr) (c1 c2 : Nat) (p1 p2 : List UInt8) (h1 : RdB w B a1 p1) (h2 : RdB w B a2 p2) (l1 : p1.length ≤ c1) (l2 : p2.length ≤ c2) :
    RdP (w.alloc (.cells #[.slice a1 p1.length c1, .slice a2 p2.length c2] t)) (w.alloc (.cells #[.slice a1 p1.length c1, .slice a2 p2.length c2] t)).heap.size (some ⟨w.heap.size, 0, none⟩) [p1, p2] := by
  refine .inr ⟨w.heap.size, 0, rfl, by simp, fun j hj => ?_⟩
  have hb : Below B w (w.alloc (.cells #[.slice a1 p1.length c1, .slice a2 p2.length c2] t)) := (Below.refl _ _).alloc hB _
  rw [Nat.zero_add, World.cell?_alloc_mark]
  simp at hj
  have hj2 : j = 0 ∨ j = 1 := by omega
  rcases hj2 with rfl | rfl
  · exact ⟨a1, c1, rfl, l1, (h1.below hb).mono (by simp; omega)⟩
  · exact ⟨a2, c2, rfl, l2, (h2.below hb).mono (by simp; omega)⟩

theorem join_bytes (a : Option Addr) (n c : Nat) (ps : List (List UInt8)) (bs : List UInt8) (w : World) (hn : n = ps.length) (hl : ps.length ≤ 100) (hbs : ps.flatten = bs) (ht : bs.length ≤ 100000) (hr : RdP w w.heap.size a ps) :
    Calls Try.prog 24 #[.slice a n c] w fun e w' => ∃ A c', e = .returned (.slice A bs.length c') ∧ RdB w' w'.heap.size A bs ∧ Below w.heap.size w w' := by
  subst hn hbs
  refine (join_any a c ps w (by omega) (by omega) hr).mono ?_
  rintro e w' ⟨v, rfl, ho, hb⟩
  obtain ⟨A, c', rfl, _, hr', _⟩ := ho.bytes
  exact ⟨A, c', rfl, hr', hb⟩

theorem begins_yes (a1 a2 : Option Addr) (n1 c1 c2 : Nat) (x b : List UInt8) (w : World) (hn1 : n1 = (x ++ b).length) (h1 : RdB w w.heap.size a1 (x ++ b)) (h2 : RdB w w.heap.size a2 x) (hl : (x ++ b).length ≤ 100000) :
    Calls Try.prog 19 #[.slice a1 n1 c1, .slice a2 x.length c2] w fun e w' => e = .returned (.bool true) ∧ Below w.heap.size w w' := by
  subst hn1
  have h := begins_any a1 a2 c1 c2 (x ++ b) x w h1 h2 (by omega) (by simp at hl; omega)
  rwa [begins_self] at h

theorem cut_two (bs : List UInt8) (t0 t1 : Int) (ps : List (List UInt8)) (h : cutAt bs 0 [t0, t1] = some ps) :
    ∃ p0 p1 p2, ps = [p0, p1, p2] ∧ (p0.length : Int) = t0 ∧ (p0.length : Int) + (p1.length : Int) = t1 ∧ p0 ++ (p1 ++ p2) = bs := by
  simp only [cutAt] at h
  split at h
  · cases h
  · rename_i h0
    split at h
    · cases h
    · rename_i h1
      simp only [Option.map_some, Option.some.injEq] at h
      subst h
      obtain ⟨u, rfl⟩ : ∃ u : Nat, t0 = (u : Int) := ⟨t0.toNat, by omega⟩
      obtain ⟨v, rfl⟩ : ∃ v : Nat, t1 = (v : Int) := ⟨t1.toNat, by omega⟩
      simp only [Int.toNat_natCast, Nat.sub_zero, List.drop_zero] at *
      refine ⟨_, _, _, rfl, by simp; omega, by simp; omega, ?_⟩
      have e1 : (bs.drop u).drop (v - u) = bs.drop v := by rw [List.drop_drop]; congr 1; omega
      rw [← e1, List.take_append_drop, List.take_append_drop]

def Split2P (w : World) (bs : List UInt8) (t0 t1 : Int) (e : Ending) (w' : World) : Prop :=
  (e = .returned (.tuple #[.slice none 0 0, .int .i64 4]) ∨
   ∃ p0 p1 p2 b o c A0 c0 A1 c1, e = .returned (.tuple #[.slice (some ⟨b, o, none⟩) 3 c, .int .i64 0]) ∧ b < w'.heap.size ∧ w'.cell? ⟨b, o, none⟩ = some (.slice A0 p0.length c0) ∧ w'.cell? ⟨b, o + 1, none⟩ = some (.slice A1 p1.length c1) ∧
     RdP w' w'.heap.size (some ⟨b, o, none⟩) [p0, p1, p2] ∧ (p0.length : Int) = t0 ∧ (p0.length : Int) + (p1.length : Int) = t1 ∧ p0 ++ (p1 ++ p2) = bs) ∧ Below w.heap.size w w'

theorem split2 (ab : Option Addr) (cb : Nat) (bs : List UInt8) (t0 t1 : Int) (w : World) (a2 : Option Addr) (c2 : Nat) (hl : bs.length ≤ 2000) (hr : RdB w w.heap.size ab bs) (hz : RdI w w.heap.size a2 [t0, t1]) :
    Calls Try.prog 21 #[.slice ab bs.length cb, .slice a2 2 c2] w (Split2P w bs t0 t1) := by
  refine (split_any ab a2 cb c2 bs [t0, t1] w (by omega) (by simp) hr hz).mono ?_
  rintro e w' ⟨⟨_, rfl⟩ | ⟨ps, v, vs, h, rfl, ho, hp⟩, hb⟩
  · exact ⟨.inl rfl, hb⟩
  · obtain ⟨p0, p1, p2, rfl, h0, h1, h2⟩ := cut_two bs t0 t1 ps h
    obtain ⟨A, c, rfl, hr'⟩ := rdP_own ho hp
    have hr2 := hr'
    rcases hr2 with h | ⟨b, o, rfl, hlt, hc⟩
    · simp at h
    · obtain ⟨A0, c0, hx0, _, _⟩ := hc 0 (by simp)
      obtain ⟨A1, c1, hx1, _, _⟩ := hc 1 (by simp)
      exact ⟨.inr ⟨p0, p1, p2, b, o, c, A0, c0, A1, c1, rfl, hlt, hx0, hx1, hr', h0, h1, h2⟩, hb⟩

/-- What the last statement reads, in a later world. -/
theorem held_later {W W' : World} {B b o H : Nat} {v0 v1 u0 u1 : Value} {ab : Option Addr} {cb : Nat} {bs : List UInt8} {ps : List (List UInt8)}
    (h : ((W.cell? ⟨b, o, none⟩ = some v0 ∧ W.cell? ⟨b, o + 1, none⟩ = some v1 ∧ W.cell? ⟨H, 0, none⟩ = some u0 ∧ W.cell? ⟨H, 1, none⟩ = some u1) ∧ (convert 23 9 (.slice ab bs.length cb)).run Try.prog W = .ok (.string ⟨bs.toArray⟩) W) ∧
      (RdP W B (some ⟨b, o, none⟩) ps ∧ RdB W B ab bs ∧ B ≤ W.heap.size)) (hb : Below W.heap.size W W') :
    ((W'.cell? ⟨b, o, none⟩ = some v0 ∧ W'.cell? ⟨b, o + 1, none⟩ = some v1 ∧ W'.cell? ⟨H, 0, none⟩ = some u0 ∧ W'.cell? ⟨H, 1, none⟩ = some u1) ∧ (convert 23 9 (.slice ab bs.length cb)).run Try.prog W' = .ok (.string ⟨bs.toArray⟩) W') ∧
      (RdP W' B (some ⟨b, o, none⟩) ps ∧ RdB W' B ab bs ∧ B ≤ W'.heap.size) := by
  obtain ⟨⟨⟨h0, h1, h2, h3⟩, _⟩, hp, hr, hB⟩ := h
  have l0 := World.block_lt_of_cell? W _ h0
  have l2 := World.block_lt_of_cell? W _ h2
  have hr' := hr.below (hb.mono hB)
  exact ⟨⟨⟨(hb.cell l0).trans h0, (hb.cell (p := ⟨b, o + 1, none⟩) l0).trans h1, (hb.cell l2).trans h2, (hb.cell (p := ⟨H, 1, none⟩) l2).trans h3⟩,
    hr'.text (P := Try.prog) 23 9 5 _ cb rfl Try.underlying23 Try.underlying5 Try.underlying9⟩, hp.below (hb.mono hB), hr', Nat.le_trans hB hb.size⟩

set_option maxRecDepth 100000 in
set_option maxHeartbeats 4000000 in
theorem walk_holds (n t0 t1 : Int) (ab : Option Addr) (cb : Nat) (bs : List UInt8) (w : World) (hn : U64 n) (hlen : bs.length ≤ cb) (hr : RdB w w.heap.size ab bs) :
    Calls Try.prog 7 #[.int .u64 n, .slice ab bs.length cb, .agg #[.int .i64 t0, .int .i64 t1]] w fun e w' => e = .returned (.bool true) ∧ Below w.heap.size w w' := by
  obtain ⟨W, hW, hx, hf, hless⟩ := least_facts n
  have HN := Lib.hid hn
  have HW := Lib.hid hW
  have HX := Lib.hid hx
  have HF := Lib.hid hf
  have HL := Lib.hid hless
  have HR := Lib.hid hr
  have hW8 : (W : Int) ≤ 8 := by have := isW_cases hx; omega
  clear hn hW hx hf hless hr
  by_cases hbig : 2000 < bs.length
  · have hbig' : (2000 : Int) < (bs.length : Int) := by omega
    go_enter Try.func7, Try.ntmps7
    go_wp2_with fail
    refine (works_any _).mono ?_
    rintro e w1 ⟨rfl, hb1⟩
    go_wp2
    go_ret
    exact ⟨rfl, below_on (below_al (Below.refl _ _) _) hb1⟩
  · have hbig' : ¬ (2000 : Int) < (bs.length : Int) := by omega
    go_enter Try.func7, Try.ntmps7
    go_wp2_with fail
    refine (least_nat W n _ HN.out HW.out).mono ?_
    rintro e w1 ⟨rfl, hb1⟩
    go_wp2_with fail
    refine (put_beB W n _ HX.out HN.out HF.out).mono ?_
    rintro e w2 ⟨ax, cx, rfl, hcx, hrx, hb2⟩
    have HRX := Lib.hid hrx
    clear hrx
    go_wp2_with fail
    refine (get_put ax cx W n _ HX.out HN.out HF.out HRX.out).mono ?_
    rintro e w3 ⟨rfl, hb3⟩
    go_wp2_with fail
    refine (put_less _ n _ HN.out HL.out).mono ?_
    rintro e w4 ⟨g, rfl, hg, hb4⟩
    go_wp2_with (go_at_call 10; refine (num_any _ _).mono ?_; rintro e w' ⟨rfl, rfl⟩)
    have B4 : Below w.heap.size w w4 := below_on (below_on (below_on (below_on (below_al (Below.refl _ _) _) hb1) hb2) hb3) hb4
    have B24 : Below w2.heap.size w2 w4 := below_on hb3 hb4
    have Bbox := below_on (below_on (below_on hb1 hb2) hb3) hb4
    obtain ⟨hq0, hq1⟩ := cells_box2 Bbox
    have HXL : Hid ((beB W n).length ≤ 8) := by simp only [Hid, beB_length]; omega
    have HP := Lib.hid (rdP_pair w4 w4.heap.size (Nat.le_refl _) 23 ax ab cx cb (beB W n) bs ((HRX.out.below B24).mono B24.size) ((HR.out.below B4).mono B4.size) hcx hlen)
    refine (join_bytes _ 2 2 [beB W n, bs] (beB W n ++ bs) _ rfl (by simp) (by simp) (by have := HXL.out; simp; omega) HP.out).mono ?_
    rintro e w5 ⟨A5, c5, rfl, hr5, hb5⟩
    have HR5 := Lib.hid hr5
    clear hr5
    have B45 : Below w4.heap.size w4 w5 := below_on (below_al (Below.refl _ _) _) hb5
    go_wp2_with fail
    refine (begins_yes A5 ax _ c5 cx (beB W n) bs _ (by simp) HR5.out ((HRX.out.below (below_on B24 B45)).mono (below_on B24 B45).size) (by have := HXL.out; simp; omega)).mono ?_
    rintro e w6 ⟨rfl, hb6⟩
    have B46 := below_on B45 hb6
    have B6 := below_on B4 B46
    have Bb6 := below_on Bbox B46
    have hq0' := (cells_box2 Bb6).1
    have hq1' := (cells_box2 Bb6).2
    clear hq0 hq1 HP
    go_wp2_with fail
    have hzz : RdI (w6.alloc (.cells #[.int .i64 t0, .int .i64 t1] 3)) (w6.alloc (.cells #[.int .i64 t0, .int .i64 t1] 3)).heap.size (some ⟨w6.heap.size, 0, none⟩) [t0, t1] := by
      rw [World.size_alloc]
      exact rdI_lit w6 3 _ [t0, t1] rfl
    have HZ := Lib.hid hzz
    clear hzz
    refine (split2 ab cb bs t0 t1 _ _ 2 (by omega) ((HR.out.below (below_al B6 _)).mono (below_al B6 _).size) HZ.out).mono ?_
    rintro e w7 ⟨rfl | ⟨p0, p1, p2, b, o, c, A0, c0, A1, c1, rfl, hbl, hx0, hx1, hrp, hl0, hl1, hcat⟩, hb7⟩
    · go_wp2_with (go_at_call 10; refine (num_any _ _).mono ?_; rintro e w' ⟨rfl, rfl⟩)
      refine (works_any _).mono ?_
      rintro e w8 ⟨rfl, hb8⟩
      go_wp2
      go_ret
      exact ⟨rfl, below_on (below_on (below_al B6 _) hb7) hb8⟩
    · subst hl0 hl1
      have HRP := Lib.hid hrp
      have hpl : p0.length + p1.length ≤ 2000 := by
        have := congrArg List.length hcat
        simp at this
        omega
      have HC := Lib.hid hcat
      have B7 := below_on (below_al B6 _) hb7
      have Bb7 := below_on (below_al Bb6 _) hb7
      have hy0 := (cells_box2 Bb7).1
      have hy1 := (cells_box2 Bb7).2
      clear hrp hcat hq0' hq1' hb1 hb2 hb3 hb4 hb5 hb6 B4 B24 Bbox B45 B46 B6 hg Bb6
      go_wp2_with (go_at_call 10; refine (num_any _ _).mono ?_; rintro e w' ⟨rfl, rfl⟩)
      have hrb := (HR.out.below B7).mono B7.size
      have kb := hrb.text (P := Try.prog) 23 9 5 _ cb rfl Try.underlying23 Try.underlying5 Try.underlying9
      have HS := Lib.hid (show ((w7.cell? ⟨b, o, none⟩ = some (.slice A0 p0.length c0) ∧ w7.cell? ⟨b, o + 1, none⟩ = some (.slice A1 p1.length c1) ∧ w7.cell? ⟨w.heap.size, 0, none⟩ = some (.int .i64 (p0.length : Int)) ∧ w7.cell? ⟨w.heap.size, 1, none⟩ = some (.int .i64 ((p0.length : Int) + (p1.length : Int)))) ∧
        (convert 23 9 (.slice ab bs.length cb)).run Try.prog w7 = .ok (.string ⟨bs.toArray⟩) w7) ∧ (RdP w7 w7.heap.size (some ⟨b, o, none⟩) [p0, p1, p2] ∧ RdB w7 w7.heap.size ab bs ∧ w7.heap.size ≤ w7.heap.size) from ⟨⟨⟨hx0, hx1, hy0, hy1⟩, kb⟩, HRP.out, hrb, Nat.le_refl _⟩)
      clear hrb
      have HJ := Lib.hid (join_bytes (some ⟨b, o, none⟩) 3 c [p0, p1, p2] bs w7.drew rfl (by simp) (by rw [← HC.out]; simp) (by omega) HRP.out)
      have hwr : IntKind.i64.wrap ((p0.length : Int) + (p1.length : Int)) = (p0.length : Int) + (p1.length : Int) := IntWalk.i64_in _ (by omega)
      go_region_held (fun w' => ((w'.cell? ⟨b, o, none⟩ = some (.slice A0 p0.length c0) ∧ w'.cell? ⟨b, o + 1, none⟩ = some (.slice A1 p1.length c1) ∧ w'.cell? ⟨w.heap.size, 0, none⟩ = some (.int .i64 (p0.length : Int)) ∧ w'.cell? ⟨w.heap.size, 1, none⟩ = some (.int .i64 ((p0.length : Int) + (p1.length : Int)))) ∧
        (convert 23 9 (.slice ab bs.length cb)).run Try.prog w' = .ok (.string ⟨bs.toArray⟩) w') ∧ (RdP w' w7.heap.size (some ⟨b, o, none⟩) [p0, p1, p2] ∧ RdB w' w7.heap.size ab bs ∧ w7.heap.size ≤ w'.heap.size))
        (first | exact held_later HS.out (Below.refl _ _).drew | exact held_later (held_later HS.out (Below.refl _ _).drew) hbj | exact held_later (held_later (held_later HS.out (Below.refl _ _).drew) hbj) hbw)
        (first
          | (go_at_call 24; refine HJ.out.mono ?_; rintro e W1 ⟨Aj, cj, rfl, hrj, hbj⟩; have kj := hrj.text (P := Try.prog) 23 9 5 _ cj rfl Try.underlying23 Try.underlying5 Try.underlying9; clear hrj)
          | (go_at_call 13; refine (works_any _).mono ?_; rintro e W2 ⟨rfl, hbw⟩))
      first | go_wp2 | skip
      go_ret
      exact ⟨rfl, below_on (below_on B7.drew hbj) hbw⟩

end Go.Proofs.Ytokecladkepgfaa
