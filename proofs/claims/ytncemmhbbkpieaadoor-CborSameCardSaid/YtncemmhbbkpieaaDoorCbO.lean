/- Package cbor's item, First and Decode. -/
import Derived.Test.YtncemmhbbkpieaaDoorCbN
import Derived.Recover
namespace Go.Proofs.YtncemmhbbkpieaaDoor
open Go.RowKit Go.Shelf

/-- The boxes of a closure: the reader's address, how many lists it lies in. -/
def Boxes (w : World) (R g q : Nat) : Prop := w.cell? ⟨g, 0, none⟩ = some (.pointer (some ⟨R, 0, none⟩)) ∧ w.cell? ⟨g + 1, 0, none⟩ = some (.int .i64 q) ∧ g + 1 < w.heap.size ∧ R < g

theorem Boxes.on {w w' : World} {R g q : Nat} (h : Boxes w R g q) (hb : But R w w') : Boxes w' R g q :=
  ⟨(hb.cell (by have := h.2.2.1; omega) (by have := h.2.2.2; omega)).trans h.1, (hb.cell h.2.2.1 (by have := h.2.2.2; omega)).trans h.2.1, Nat.lt_of_lt_of_le h.2.2.1 hb.size, h.2.2.2⟩

theorem zero_cells {R : Nat} {w w1 : World} {t : TypeId} (hb : But R (w.alloc (.cells #[.int .i64 0, .int .u64 0, .slice none 0 0, .string ⟨#[]⟩, .slice none 0 0] t)) w1) (hR : R < w.heap.size) :
    (w1.cell? ⟨w.heap.size, 0, none⟩ = some (.int .i64 0) ∧ w1.cell? ⟨w.heap.size, 1, none⟩ = some (.int .u64 0) ∧ w1.cell? ⟨w.heap.size, 2, none⟩ = some (.slice none 0 0) ∧ w1.cell? ⟨w.heap.size, 3, none⟩ = some (.string ⟨#[]⟩) ∧ w1.cell? ⟨w.heap.size, 4, none⟩ = some (.slice none 0 0)) ∧
      ∀ i, w1.frozen? ⟨w.heap.size, i, none⟩ = false := by
  have hc : ∀ i, w1.cell? ⟨w.heap.size, i, none⟩ = (w.alloc (.cells #[.int .i64 0, .int .u64 0, .slice none 0 0, .string ⟨#[]⟩, .slice none 0 0] t)).cell? ⟨w.heap.size, i, none⟩ := fun i => hb.cell (by simp) (by omega)
  exact ⟨⟨(hc 0).trans (by simp), (hc 1).trans (by simp), (hc 2).trans (by simp), (hc 3).trans (by simp), (hc 4).trans (by simp)⟩, fun i => (hb.frozen (by simp) (by omega)).trans (by simp)⟩

theorem rdP3_put5 {R B : Nat} {w w0 w1 : World} {v0 v1 v2 v3 v4 : Value} {x : It} {r : List UInt8} (g : Nat) (h0 : But R w w0) (hb : But R w0 w1) (hg : w.heap.size ≤ g) (hg0 : g < w0.heap.size) (hR : R < w.heap.size)
    (hx : ItS w1 (newB w0 w1) (.agg #[v0, v1, v2, v3, v4]) x) (hs : RS w1 R B r) : RdP3 w R B (.ok (x, r)) (.returned (.agg #[v0, v1, v2, v3, v4])) (put5 w1 g v0 v1 v2 v3 v4) := by
  have hBR : B ≤ R := by
    obtain ⟨_, _, _, _, _, _, _, _, h7⟩ := hs
    exact h7
  refine ⟨(h0.trans hb).put5 hg _ _ _ _ _, _, rfl, ?_, hs.put5 (by omega) (by omega) _ _ _ _ _⟩
  have hk : KeepB (newB w0 w1) w1 (put5 w1 g v0 v1 v2 v3 v4) := fun b hbb => put5_block w1 g v0 v1 v2 v3 v4 b (by have := hbb.1; omega)
  exact (ItS.keep hk x hx).more fun b hbb => ⟨Nat.le_trans h0.size hbb.1, by rw [put5_size]; exact hbb.2⟩

/-- What is promised of item, at a depth. -/
def ItemAt (R B k : Nat) : Prop := ∀ (bs : List UInt8) (w : World), RS w R B bs → TabW w → bs.length ≤ 1000000 →
  Calls Tryd.prog 24 #[.pointer (some ⟨R, 0, none⟩), .int .i64 ((8 - k : Nat) : Int)] w (RdP3 w R B (itemN k bs))

set_option maxRecDepth 100000 in
set_option maxHeartbeats 4000000 in
theorem itemC_any (R B k : Nat) (hk : k < 8) (hi : ItemAt R B k) (bs : List UInt8) (w : World) (hS : RS w R B bs) (ht : TabW w) (hbs : bs.length ≤ 1000000) (g : Nat) (hx : Boxes w R g (8 - (k + 1))) :
    Calls Tryd.prog 36 #[.pointer (some ⟨g, 0, none⟩), .pointer (some ⟨g + 1, 0, none⟩)] w (RdP3 w R B (itemN k bs)) := by
  have HS := Lib.hid hS
  have HT := Lib.hid ht
  have HI := Lib.hid hi
  have hB0 := below_al (Below.refl w.heap.size w) (.cells #[.int .i64 0, .int .u64 0, .slice none 0 0, .string ⟨#[]⟩, .slice none 0 0] 28)
  obtain ⟨x1, x2, x3, x4⟩ := hx.on (But.of_below hB0)
  clear hS ht hi hx
  obtain ⟨q, hq⟩ : ∃ q, q = 8 - (k + 1) := ⟨_, rfl⟩
  rw [← hq] at x2
  have hq7 : q ≤ 7 := by omega
  have HE : Hid (((8 - k : Nat) : Int) = (q : Int) + 1) := by simp only [Hid]; omega
  clear hq
  go_enter Tryd.func36, Tryd.ntmps36
  go_wp2_with fail
  have hc := HI.out bs _ (HS.out.on hB0) (HT.out.on hB0) hbs
  rw [HE.out] at hc
  have HC := Lib.hid hc
  clear hc
  refine HC.out.mono ?_
  rintro e w1 ⟨hb1, hm⟩
  have hRw : R < w.heap.size := by
    obtain ⟨_, _, _, _, _, _, _, h6, _⟩ := HS.out
    exact h6
  obtain ⟨⟨z0, z1, z2, z3, z4⟩, zf⟩ := zero_cells hb1 hRw
  have HB1 := Lib.hid hb1
  clear hb1
  cases hit : itemN k bs with
  | error c =>
    rw [hit] at hm
    have hm : e = gives c := hm
    subst hm
    rw [gives_def]
    go_wp2_with fail
    exact ⟨rfl, (But.of_below hB0).trans HB1.out, rfl⟩
  | ok p =>
    obtain ⟨x, r⟩ := p
    rw [hit] at hm
    obtain ⟨v, rfl, hx, hs1⟩ := hm
    obtain ⟨a', c', A', C', rfl⟩ := hx.form
    have HX := Lib.hid hx
    have HS1 := Lib.hid hs1
    have HIT := Lib.hid hit
    clear hx hs1 hit
    go_wp2_with fail
    change bodyPost _ _ _ _ _ (put5 w1 w.heap.size (.int .i64 x.k) (.int .u64 x.n) (.slice a' x.b.length c') (.string ⟨x.s.toArray⟩) (.slice A' x.l.length C'))
    obtain ⟨c0, c1, c2, c3, c4⟩ := put5_cells z0 z1 z2 z3 z4 (.int .i64 x.k) (.int .u64 x.n) (.slice a' x.b.length c') (.string ⟨x.s.toArray⟩) (.slice A' x.l.length C')
    rw [HIT.out]
    have hP := rdP3_put5 w.heap.size (But.of_below hB0) HB1.out (Nat.le_refl _) (by simp) hRw HX.out HS1.out
    generalize put5 w1 w.heap.size (.int .i64 x.k) (.int .u64 x.n) (.slice a' x.b.length c') (.string ⟨x.s.toArray⟩) (.slice A' x.l.length C') = w3 at *
    exact bodyPost_ret (v := .agg #[.int .i64 x.k, .int .u64 x.n, .slice a' x.b.length c', .string ⟨x.s.toArray⟩, .slice A' x.l.length C']) (by simp [results, Tryd.results36, go_sem, c0, c1, c2, c3, c4]) rfl hP

section
variable {k m : Nat} {n : Int} {bs r : List UInt8}
theorem itemN_none (h : headN bs = none) : itemN (k + 1) bs = .error 121 := by simp only [itemN, h]
theorem itemN_uint (h : headN bs = some (0, n, r)) : itemN (k + 1) bs = .ok (.mk 1 n [] [] [], r) := by simp only [itemN, h]; rfl
theorem itemN_bytes (h : headN bs = some (2, n, r)) (hl : n.toNat ≤ r.length) : itemN (k + 1) bs = .ok (.mk 2 0 (r.take n.toNat) [] [], r.drop n.toNat) := by
  simp only [itemN, h]
  rw [if_neg (by decide), if_pos trivial, if_pos hl]
theorem itemN_bytesE (h : headN bs = some (2, n, r)) (hl : ¬ n.toNat ≤ r.length) : itemN (k + 1) bs = .error 121 := by
  simp only [itemN, h]
  rw [if_neg (by decide), if_pos trivial, if_neg hl]
theorem itemN_text (h : headN bs = some (3, n, r)) : itemN (k + 1) bs = textN n r := by simp only [itemN, h]; rfl
theorem itemN_listE {e : Nat} (h : headN bs = some (4, n, r)) (hL : listN (itemN k) n.toNat r = .error e) : itemN (k + 1) bs = .error e := by
  simp only [itemN, h, hL]
  rfl
theorem itemN_list {l : List It} {r' : List UInt8} (h : headN bs = some (4, n, r)) (hL : listN (itemN k) n.toNat r = .ok (l, r')) : itemN (k + 1) bs = .ok (.mk 4 0 [] [] l, r') := by
  simp only [itemN, h, hL]
  rfl
theorem itemN_bare (h : headN bs = some (7, n, r)) : itemN (k + 1) bs = bareN n r := by simp only [itemN, h]; rfl
theorem itemN_else (h : headN bs = some (m, n, r)) (h0 : m ≠ 0) (h2 : m ≠ 2) (h3 : m ≠ 3) (h4 : m ≠ 4) (h7 : m ≠ 7) : itemN (k + 1) bs = .error 121 := by
  simp only [itemN, h]
  rw [if_neg h0, if_neg h2, if_neg h3, if_neg h4, if_neg h7]
end

theorem RdBS.own {w0 w1 w : World} {a : Option Addr} {bs : List UInt8} (h : RdB w w.heap.size a bs) (hA : ∀ p, a = some p → w1.heap.size ≤ p.block ∧ p.block < w.heap.size) (h0 : w0.heap.size ≤ w1.heap.size) : RdBS w (newB w0 w) a bs := by
  rcases h with h | ⟨b, o, rfl, hlt, hc⟩
  · exact .inl h
  · exact .inr ⟨b, o, rfl, ⟨Nat.le_trans h0 (hA _ rfl).1, hlt⟩, hc⟩

theorem listN_count {g : List UInt8 → Except Nat (It × List UInt8)} (hg : ∀ r x r1, g r = .ok (x, r1) → r1.length < r.length) : ∀ (c : Nat) (r : List UInt8) (l : List It) (r2 : List UInt8), listN g c r = .ok (l, r2) → l.length + r2.length ≤ r.length
  | 0, r, l, r2, h => by
    simp only [listN] at h
    injection h with h
    injection h with h1 h
    rw [← h, ← h1]
    simp
  | c + 1, r, l, r2, h => by
    simp only [listN] at h
    cases h1 : g r with
    | error e => simp [h1] at h
    | ok p =>
      obtain ⟨x, r1⟩ := p
      simp only [h1] at h
      cases h2 : listN g c r1 with
      | error e => simp [h2] at h
      | ok q =>
        obtain ⟨l', r2'⟩ := q
        simp only [h2] at h
        injection h with h
        injection h with h3 h
        subst h h3
        have := hg r x r1 h1
        have := listN_count hg c r1 l' r2' h2
        simp
        omega

set_option maxRecDepth 100000 in
set_option maxHeartbeats 8000000 in
theorem item_any (R B : Nat) (hB2 : 2 ≤ B) : ∀ k, k ≤ 8 → ItemAt R B k := by
  intro k
  induction k with
  | zero =>
    intro _ bs w hS ht hbs
    have hB0 := below_al (below_al (below_al (Below.refl w.heap.size w) (.cells #[.pointer (some ⟨R, 0, none⟩)] 67)) (.cells #[.int .i64 8] 3)) (.cells #[.int .i64 0, .int .u64 0, .slice none 0 0, .string ⟨#[]⟩, .slice none 0 0] 28)
    clear hS ht hbs
    show Calls _ _ #[_, .int .i64 8] _ _
    go_enter Tryd.func24, Tryd.ntmps24
    go_wp2_with fail
    exact ⟨rfl, But.of_below hB0, rfl⟩
  | succ k ih =>
    intro hk bs w hS ht hbs
    have IH := Lib.hid (ih (by omega))
    have HS := Lib.hid hS
    have HT := Lib.hid ht
    have hRw : R < w.heap.size ∧ B ≤ R := by
      obtain ⟨_, _, _, _, _, _, _, h6, h7⟩ := hS
      exact ⟨h6, h7⟩
    obtain ⟨q, hq⟩ : ∃ q, q = 8 - (k + 1) := ⟨_, rfl⟩
    rw [← hq]
    have hq7 : q ≤ 7 := by omega
    have HQ := Lib.hid hq
    have hB0 := below_al (below_al (below_al (Below.refl w.heap.size w) (.cells #[.pointer (some ⟨R, 0, none⟩)] 67)) (.cells #[.int .i64 q] 3)) (.cells #[.int .i64 0, .int .u64 0, .slice none 0 0, .string ⟨#[]⟩, .slice none 0 0] 28)
    clear hS ht ih hq
    go_enter Tryd.func24, Tryd.ntmps24
    go_wp2_with fail
    refine (rhead_any R B bs _ (HS.out.on hB0) (HT.out.on hB0) hB2).mono ?_
    rintro e w1 ⟨hb1, ⟨m, n, r, hh, rfl, hs1⟩ | ⟨hh, rfl⟩⟩
    · obtain ⟨hnu, hm8⟩ := headN_u64 hh
      obtain ⟨N, rfl⟩ := Int.eq_ofNat_of_zero_le hnu.1
      have hN := hnu.2
      have hrl := headN_less hh
      have HH := Lib.hid hh
      have ZC : Hid (∀ w', But R (((w.alloc (.cells #[.pointer (some ⟨R, 0, none⟩)] 67)).alloc (.cells #[.int .i64 q] 3)).alloc (.cells #[.int .i64 0, .int .u64 0, .slice none 0 0, .string ⟨#[]⟩, .slice none 0 0] 28)) w' → (w'.cell? ⟨w.heap.size + 1 + 1, 0, none⟩ = some (.int .i64 0) ∧ w'.cell? ⟨w.heap.size + 1 + 1, 1, none⟩ = some (.int .u64 0) ∧ w'.cell? ⟨w.heap.size + 1 + 1, 2, none⟩ = some (.slice none 0 0) ∧ w'.cell? ⟨w.heap.size + 1 + 1, 3, none⟩ = some (.string ⟨#[]⟩) ∧ w'.cell? ⟨w.heap.size + 1 + 1, 4, none⟩ = some (.slice none 0 0)) ∧
          ∀ i, w'.frozen? ⟨w.heap.size + 1 + 1, i, none⟩ = false) := by
        intro w' hb
        have hz := zero_cells (w := (w.alloc (.cells #[.pointer (some ⟨R, 0, none⟩)] 67)).alloc (.cells #[.int .i64 q] 3)) hb (by simp; omega)
        simp only [World.size_alloc] at hz
        exact hz
      have y0 : w1.cell? ⟨w.heap.size, 0, none⟩ = some (.pointer (some ⟨R, 0, none⟩)) := by
        rw [hb1.cell (b := w.heap.size) (o := 0) (by simp <;> omega) (by omega), World.cell?_alloc_lt _ _ _ (by simp <;> omega), World.cell?_alloc_lt _ _ _ (by simp), World.cell?_alloc_mark]
        rfl
      have y1 : w1.cell? ⟨w.heap.size + 1, 0, none⟩ = some (.int .i64 q) := by
        rw [hb1.cell (b := w.heap.size + 1) (o := 0) (by simp) (by omega), World.cell?_alloc_lt _ _ _ (by simp), ← World.size_alloc w (.cells #[.pointer (some ⟨R, 0, none⟩)] 67), World.cell?_alloc_mark]
        rfl
      have hsz1 : w.heap.size + 3 ≤ w1.heap.size := by
        have := hb1.size
        simp at this
        omega
      have HB1 := Lib.hid hb1
      have HS1 := Lib.hid hs1
      have hbR : Hid (RdB w1 B none ([] : List UInt8)) := .inl rfl
      clear hb1 hs1 hh hbR
      by_cases m0 : m = 0
      · subst m0
        obtain ⟨⟨z0, z1, z2, z3, z4⟩, zf⟩ := ZC.out w1 HB1.out
        go_wp2_with fail
        change bodyPost _ _ _ _ _ (put5 w1 (w.heap.size + 1 + 1) (.int .i64 1) (.int .u64 N) (.slice none 0 0) (.string ⟨#[]⟩) (.slice none 0 0))
        obtain ⟨c0, c1, c2, c3, c4⟩ := put5_cells z0 z1 z2 z3 z4 (.int .i64 1) (.int .u64 N) (.slice none 0 0) (.string ⟨#[]⟩) (.slice none 0 0)
        have hP := rdP3_put5 (w.heap.size + 1 + 1) (But.of_below hB0) HB1.out (by omega) (by simp) hRw.1 (itS_plain w1 _ 1 N [] (by decide) hnu (Nat.zero_le _)) HS1.out
        rw [itemN_uint HH.out]
        generalize put5 w1 (w.heap.size + 1 + 1) (.int .i64 1) (.int .u64 N) (.slice none 0 0) (.string ⟨#[]⟩) (.slice none 0 0) = w9 at *
        exact bodyPost_ret (v := .agg #[.int .i64 1, .int .u64 N, .slice none 0 0, .string ⟨#[]⟩, .slice none 0 0]) (by simp [results, Tryd.results24, go_sem, c0, c1, c2, c3, c4]) rfl hP

      by_cases m2 : m = 2
      · subst m2
        go_wp2_with fail
        refine (take_at R B r N N rfl w1 HS1.out (by omega)).mono ?_
        rintro e w2 ⟨hb2, ⟨hl2, a2, c2, rfl, hc2, hr2, hs2⟩ | ⟨hl2, rfl⟩⟩
        · have HB2 := Lib.hid (HB1.out.trans hb2)
          have HS2 := Lib.hid hs2
          have hsz2 : w1.heap.size ≤ w2.heap.size := hb2.size
          have hRB := Lib.hid (hr2.mono (show B ≤ w2.heap.size by omega))
          have hrl47 : r.length ≤ 1000000 := by omega
          have HLn : Hid (N = (r.take N).length) := by rw [Hid, List.length_take]; omega
          clear hb2 hs2 hr2
          go_wp2_with fail
          refine (bclone_any a2 N c2 (r.take N) HLn.out w2 (by rw [← HLn.out]; omega) hRB.out).mono ?_
          rintro e w3 ⟨v, rfl, ho, hb3⟩
          obtain ⟨A, C, rfl, hC, hra, hA⟩ := ho.bytes
          have HB3 := Lib.hid (HB2.out.trans (But.of_below hb3))
          obtain ⟨⟨z0, z1, z2, z3, z4⟩, zf⟩ := ZC.out w3 HB3.out
          have HS3 := Lib.hid (HS2.out.on hb3)
          have hsW : (((w.alloc (.cells #[.pointer (some ⟨R, 0, none⟩)] 67)).alloc (.cells #[.int .i64 q] 3)).alloc (.cells #[.int .i64 0, .int .u64 0, .slice none 0 0, .string ⟨#[]⟩, .slice none 0 0] 28)).heap.size ≤ w2.heap.size := HB2.out.size
          have hx0 : (ItS w3 (newB (((w.alloc (.cells #[.pointer (some ⟨R, 0, none⟩)] 67)).alloc (.cells #[.int .i64 q] 3)).alloc (.cells #[.int .i64 0, .int .u64 0, .slice none 0 0, .string ⟨#[]⟩, .slice none 0 0] 28)) w3) (.agg #[.int .i64 2, .int .u64 0, .slice A (r.take N).length C, .string ⟨#[]⟩, .slice none 0 0]) (.mk 2 0 (r.take N) [] [])) := by
            simp only [ItS]
            exact ⟨none, ⟨A, C, 0, rfl, ⟨hC, Nat.le_refl _⟩, RdBS.own hra hA hsW, ⟨by decide, by decide⟩, by decide, by rw [← HLn.out]; simp only [Sz]; omega, Nat.zero_le _, Nat.zero_le _⟩, .inl trivial⟩
          rw [← HLn.out] at hx0
          have HX := Lib.hid hx0
          clear hx0
          clear ho hra hA hb3
          go_wp2_with fail
          change bodyPost _ _ _ _ _ (put5 w3 (w.heap.size + 1 + 1) (.int .i64 2) (.int .u64 0) (.slice A N C) (.string ⟨#[]⟩) (.slice none 0 0))
          obtain ⟨c0, c1, c2, c3, c4⟩ := put5_cells z0 z1 z2 z3 z4 (.int .i64 2) (.int .u64 0) (.slice A N C) (.string ⟨#[]⟩) (.slice none 0 0)
          have hP := rdP3_put5 (w.heap.size + 1 + 1) (But.of_below hB0) HB3.out (by omega) (by simp) hRw.1 HX.out HS3.out
          rw [itemN_bytes HH.out (by rw [Int.toNat_natCast]; exact hl2), Int.toNat_natCast]
          generalize put5 w3 (w.heap.size + 1 + 1) (.int .i64 2) (.int .u64 0) (.slice A N C) (.string ⟨#[]⟩) (.slice none 0 0) = w9 at *
          exact bodyPost_ret (v := .agg #[.int .i64 2, .int .u64 0, .slice A N C, .string ⟨#[]⟩, .slice none 0 0]) (by simp [results, Tryd.results24, go_sem, c0, c1, c2, c3, c4]) rfl hP
        · have HB2 := Lib.hid (HB1.out.trans hb2)
          clear hb2
          rw [gives_def]
          go_wp2_with fail
          refine ⟨rfl, (But.of_below hB0).trans HB2.out, ?_⟩
          rw [itemN_bytesE HH.out (by rw [Int.toNat_natCast]; omega)]
          rfl
      by_cases m3 : m = 3
      · subst m3
        go_wp2_with fail
        refine (text_any R B r N hnu w1 HS1.out).mono ?_
        rintro e w2 ⟨hb2, hm⟩
        have hsz2 : w1.heap.size ≤ w2.heap.size := hb2.size
        have HB2 := Lib.hid hb2
        clear hb2
        cases htx : textN N r with
        | error c =>
          rw [htx] at hm
          have hm : e = gives c := hm
          subst hm
          have HTX := Lib.hid htx
          clear htx
          rw [gives_def]
          go_wp2_with fail
          refine ⟨rfl, (But.of_below hB0).trans (HB1.out.trans HB2.out), ?_⟩
          rw [itemN_text HH.out, HTX.out]
          rfl
        | ok p =>
          obtain ⟨x, r'⟩ := p
          rw [htx] at hm
          obtain ⟨v, rfl, hx, hs2⟩ := hm
          obtain ⟨a', c', A', C', rfl⟩ := hx.form
          have HX := Lib.hid hx
          have HS2 := Lib.hid hs2
          have HTX := Lib.hid htx
          obtain ⟨⟨z0, z1, z2, z3, z4⟩, zf⟩ := ZC.out w2 (HB1.out.trans HB2.out)
          clear hx hs2 htx
          go_wp2_with fail
          change bodyPost _ _ _ _ _ (put5 w2 (w.heap.size + 1 + 1) (.int .i64 x.k) (.int .u64 x.n) (.slice a' x.b.length c') (.string ⟨x.s.toArray⟩) (.slice A' x.l.length C'))
          obtain ⟨c0, c1, c2, c3, c4⟩ := put5_cells z0 z1 z2 z3 z4 (.int .i64 x.k) (.int .u64 x.n) (.slice a' x.b.length c') (.string ⟨x.s.toArray⟩) (.slice A' x.l.length C')
          have hP := rdP3_put5 (w.heap.size + 1 + 1) ((But.of_below hB0).trans HB1.out) HB2.out (by omega) (by omega) hRw.1 HX.out HS2.out
          rw [itemN_text HH.out, HTX.out]
          generalize put5 w2 (w.heap.size + 1 + 1) (.int .i64 x.k) (.int .u64 x.n) (.slice a' x.b.length c') (.string ⟨x.s.toArray⟩) (.slice A' x.l.length C') = w9 at *
          exact bodyPost_ret (v := .agg #[.int .i64 x.k, .int .u64 x.n, .slice a' x.b.length c', .string ⟨x.s.toArray⟩, .slice A' x.l.length C']) (by simp [results, Tryd.results24, go_sem, c0, c1, c2, c3, c4]) rfl hP
      by_cases m4 : m = 4
      · subst m4
        have hmf : ∀ (fn : Fn) (first cap : Array Value) (w : World), (Instr.makeFunc fn first cap).run Tryd.prog w = .ok (.func fn first cap) w := fun _ _ _ _ => rfl
        have hbx : Boxes w1 R w.heap.size (8 - (k + 1)) := ⟨y0, by rw [← HQ.out]; exact y1, by omega, hRw.1⟩
        have HBX := Lib.hid hbx
        have hrl47 : r.length ≤ 1000000 := by omega
        clear hbx y0 y1
        go_wp2_with fail
        refine (listed_any R B (itemN k) (itemN_less k) N (by omega) r hrl47 36 #[.pointer (some ⟨w.heap.size, 0, none⟩), .pointer (some ⟨w.heap.size + 1, 0, none⟩)] w1 HS1.out (enters_of Tryd.func36 (by kernel_rfl) rfl) (fun r' wr hbu hrs hln => ?_)).mono ?_
        · exact itemC_any R B k (by omega) IH.out r' wr hrs (HT.out.below ((((But.of_below hB0).trans HB1.out).trans hbu).below hRw.2 (by omega)) hB2) (by omega) w.heap.size (HBX.out.on hbu)
        rintro e w2 ⟨hb2, hm⟩
        have hsz2 : w1.heap.size ≤ w2.heap.size := hb2.size
        have HB2 := Lib.hid hb2
        clear hb2
        cases hls : listN (itemN k) N r with
        | error c =>
          rw [hls] at hm
          have hm : e = gives c := hm
          subst hm
          have HLS := Lib.hid hls
          clear hls
          rw [gives_def]
          go_wp2_with fail
          refine ⟨rfl, (But.of_below hB0).trans (HB1.out.trans HB2.out), ?_⟩
          rw [itemN_listE HH.out (by rw [Int.toNat_natCast]; exact HLS.out)]
          rfl
        | ok p =>
          obtain ⟨l, r'⟩ := p
          rw [hls] at hm
          obtain ⟨A, C, rfl, hlC, hl, hs2⟩ := hm
          have hcnt := listN_count (itemN_less k) N r l r' hls
          have HS2 := Lib.hid hs2
          have HLS := Lib.hid hls
          have HX : Hid (ItS w2 (newB w1 w2) (.agg #[.int .i64 4, .int .u64 0, .slice none 0 0, .string ⟨#[]⟩, .slice A l.length C]) (.mk 4 0 [] [] l)) := by
            simp only [Hid, ItS]
            exact ⟨A, ⟨none, 0, C, rfl, ⟨Nat.le_refl _, hlC⟩, .inl rfl, ⟨by decide, by decide⟩, by decide, Nat.zero_le _, Nat.zero_le _, by simp only [Sz]; omega⟩, hl⟩
          obtain ⟨⟨z0, z1, z2, z3, z4⟩, zf⟩ := ZC.out w2 (HB1.out.trans HB2.out)
          clear hl hs2 hls
          go_wp2_with fail
          change bodyPost _ _ _ _ _ (put5 w2 (w.heap.size + 1 + 1) (.int .i64 4) (.int .u64 0) (.slice none 0 0) (.string ⟨#[]⟩) (.slice A l.length C))
          obtain ⟨c0, c1, c2, c3, c4⟩ := put5_cells z0 z1 z2 z3 z4 (.int .i64 4) (.int .u64 0) (.slice none 0 0) (.string ⟨#[]⟩) (.slice A l.length C)
          have hP := rdP3_put5 (w.heap.size + 1 + 1) ((But.of_below hB0).trans HB1.out) HB2.out (by omega) (by omega) hRw.1 HX.out HS2.out
          rw [itemN_list HH.out (by rw [Int.toNat_natCast]; exact HLS.out)]
          generalize put5 w2 (w.heap.size + 1 + 1) (.int .i64 4) (.int .u64 0) (.slice none 0 0) (.string ⟨#[]⟩) (.slice A l.length C) = w9 at *
          exact bodyPost_ret (v := .agg #[.int .i64 4, .int .u64 0, .slice none 0 0, .string ⟨#[]⟩, .slice A l.length C]) (by simp [results, Tryd.results24, go_sem, c0, c1, c2, c3, c4]) rfl hP
      by_cases m7 : m = 7
      · subst m7
        go_wp2_with fail
        refine (bare_any N hnu w1).mono ?_
        rintro e w2 ⟨hb2, ⟨hn, rfl⟩ | ⟨hn, rfl⟩ | ⟨hn, rfl⟩⟩
        · have HB2 := Lib.hid hb2
          obtain ⟨⟨z0, z1, z2, z3, z4⟩, zf⟩ := ZC.out w2 (HB1.out.trans (But.of_below HB2.out))
          have HS2 := Lib.hid (HS1.out.on HB2.out)
          have HBn : Hid (bareN N r = .ok (.mk 5 ((N : Int) - 20) [] [] [], r)) := if_pos hn
          have hu2 : U64 ((N : Int) - 20) := ⟨by omega, by omega⟩
          clear hb2 hn
          unfold itemV
          go_wp2_with fail
          change bodyPost _ _ _ _ _ (put5 w2 (w.heap.size + 1 + 1) (.int .i64 5) (.int .u64 ((N : Int) - 20)) (.slice none 0 0) (.string ⟨#[]⟩) (.slice none 0 0))
          obtain ⟨c0, c1, c2, c3, c4⟩ := put5_cells z0 z1 z2 z3 z4 (.int .i64 5) (.int .u64 ((N : Int) - 20)) (.slice none 0 0) (.string ⟨#[]⟩) (.slice none 0 0)
          have hP := rdP3_put5 (w.heap.size + 1 + 1) ((But.of_below hB0).trans HB1.out) (But.of_below HB2.out) (by omega) (by omega) hRw.1 (itS_plain w2 _ 5 ((N : Int) - 20) [] (by decide) hu2 (Nat.zero_le _)) HS2.out
          rw [itemN_bare HH.out, HBn.out]
          generalize put5 w2 (w.heap.size + 1 + 1) (.int .i64 5) (.int .u64 ((N : Int) - 20)) (.slice none 0 0) (.string ⟨#[]⟩) (.slice none 0 0) = w9 at *
          exact bodyPost_ret (v := .agg #[.int .i64 5, .int .u64 ((N : Int) - 20), .slice none 0 0, .string ⟨#[]⟩, .slice none 0 0]) (by simp [results, Tryd.results24, go_sem, c0, c1, c2, c3, c4]) rfl hP
        · have HB2 := Lib.hid hb2
          obtain ⟨⟨z0, z1, z2, z3, z4⟩, zf⟩ := ZC.out w2 (HB1.out.trans (But.of_below HB2.out))
          have HS2 := Lib.hid (HS1.out.on HB2.out)
          have HBn : Hid (bareN N r = .ok (.mk 6 0 [] [] [], r)) := by
            rw [Hid, bareN, if_neg (by omega), if_pos hn]
          clear hb2 hn
          unfold itemV
          go_wp2_with fail
          change bodyPost _ _ _ _ _ (put5 w2 (w.heap.size + 1 + 1) (.int .i64 6) (.int .u64 0) (.slice none 0 0) (.string ⟨#[]⟩) (.slice none 0 0))
          obtain ⟨c0, c1, c2, c3, c4⟩ := put5_cells z0 z1 z2 z3 z4 (.int .i64 6) (.int .u64 0) (.slice none 0 0) (.string ⟨#[]⟩) (.slice none 0 0)
          have hP := rdP3_put5 (w.heap.size + 1 + 1) ((But.of_below hB0).trans HB1.out) (But.of_below HB2.out) (by omega) (by omega) hRw.1 (itS_plain w2 _ 6 0 [] (by decide) ⟨by decide, by decide⟩ (Nat.zero_le _)) HS2.out
          rw [itemN_bare HH.out, HBn.out]
          generalize put5 w2 (w.heap.size + 1 + 1) (.int .i64 6) (.int .u64 0) (.slice none 0 0) (.string ⟨#[]⟩) (.slice none 0 0) = w9 at *
          exact bodyPost_ret (v := .agg #[.int .i64 6, .int .u64 0, .slice none 0 0, .string ⟨#[]⟩, .slice none 0 0]) (by simp [results, Tryd.results24, go_sem, c0, c1, c2, c3, c4]) rfl hP
        · have HB2 := Lib.hid hb2
          have HBn : Hid (bareN N r = .error 121) := by
            rw [Hid, bareN, if_neg (by omega), if_neg hn.2.2]
          clear hb2 hn
          rw [gives_def]
          go_wp2_with fail
          refine ⟨rfl, (But.of_below hB0).trans (HB1.out.trans (But.of_below HB2.out)), ?_⟩
          rw [itemN_bare HH.out, HBn.out]
          rfl
      have f0 : ((m : Int) == 0) = false := by simp; omega
      have f2 : ((m : Int) == 2) = false := by simp; omega
      have f3 : ((m : Int) == 3) = false := by simp; omega
      have f4 : ((m : Int) == 4) = false := by simp; omega
      have f7 : ((m : Int) == 7) = false := by simp; omega
      go_wp2_with fail
      refine ⟨rfl, (But.of_below hB0).trans HB1.out, ?_⟩
      rw [itemN_else HH.out m0 m2 m3 m4 m7]
      rfl
    · have HB1 := Lib.hid hb1
      have HH := Lib.hid hh
      clear hb1 hh
      rw [gives_def]
      go_wp2_with fail
      refine ⟨rfl, (But.of_below hB0).trans HB1.out, ?_⟩
      rw [itemN_none HH.out]
      rfl

end Go.Proofs.YtncemmhbbkpieaaDoor
