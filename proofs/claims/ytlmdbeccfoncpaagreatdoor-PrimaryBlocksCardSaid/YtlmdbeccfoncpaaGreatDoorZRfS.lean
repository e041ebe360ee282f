/- The document's answer for a list's bytes, whose last item are the sum's bytes. -/
import Derived.Test.YtlmdbeccfoncpaaGreatDoorZPmE
import Derived.Test.YtlmdbeccfoncpaaGreatDoorZPmF
import Derived.Test.YtlmdbeccfoncpaaGreatDoorZMa
import Derived.Test.YtlmdbeccfoncpaaGreatDoorZCbR1
import Derived.Test.YtlmdbeccfoncpaaGreatDoorZKk
namespace Go.Proofs.YtlmdbeccfoncpaaGreatDoor
open Go Go.RowKit Go.Shelf
set_option linter.unusedSimpArgs false
set_option linter.unusedVariables false
set_option maxRecDepth 100000

attribute [local go_sem] Oper.semAt_some

/-- A list's bytes with a sum. -/
def sealN (k : Nat) (l : List It) : List UInt8 :=
  if wdN k = 0 then (itLs l).bytes else (itLs (l ++ [.mk 2 0 (sumB k (itLs (l ++ [.mk 2 0 (List.replicate (wdN k) 0) [] []])).bytes) [] []])).bytes

theorem refOctets_any (a : Option Addr) (n c : Nat) (w : World) : Calls Tryz.prog 67 #[.slice a n c] w fun e w' => e = .returned (.agg #[.int .i64 2, .int .u64 0, .slice a n c, .string ⟨#[]⟩, .slice none 0 0]) ∧ Below w.heap.size w w' := by
  go_enter Tryz.func67, Tryz.ntmps67
  go_wp2
  exact bodyPost_ret (v := .agg #[.int .i64 2, .int .u64 0, .slice a n c, .string ⟨#[]⟩, .slice none 0 0]) (by simp [results, Tryz.results67, go_sem]) rfl ⟨rfl, below_al (Below.refl _ _) _⟩

theorem ListO.lit0 {w wr : World} (hb : Below w.heap.size w wr) : ListO w (wr.alloc (.cells #[] 84)) (.slice (some ⟨wr.heap.size, 0, none⟩) 0 0) [] :=
  ⟨below_al hb _, [], ⟨rfl, .inr ⟨wr.heap.size, 0, #[], rfl, hb.size, World.alloc_heap_new wr _, ⟨Nat.le_refl _, by decide, rfl, rfl⟩⟩⟩, rfl⟩

theorem refPutK2 (k : Nat) (h1 : 1 ≤ k) (h2 : k ≤ 2) (bs : List UInt8) (n m : Int) (hn : n = (sumN k bs : Int)) (hm : m = (wdN k : Int)) (w : World) :
    Calls Tryz.prog 69 #[.int .u64 n, .int .i64 m] w fun e w' => ∃ A C, e = .returned (.tuple #[.slice A (sumB k bs).length C, .int .i64 0]) ∧ (sumB k bs).length ≤ C ∧ RdB w' w'.heap.size A (sumB k bs) ∧ Below w.heap.size w w' := by
  subst hn hm
  have hle := sumN_le (k := k) bs
  have hk : k = 1 ∨ k = 2 := by omega
  rcases hk with rfl | rfl
  · have h1 : sumN 1 bs ≤ 65535 := hle
    refine (refPut_yes 2 _ w rfl (by unfold U64; omega) (by simp [fits]; omega)).mono ?_
    rintro e w' ⟨v, rfl, ⟨A, C, rfl, hc, hr, _⟩, hb⟩
    exact ⟨A, C, rfl, hc, hr, hb⟩
  · have h1 : sumN 2 bs ≤ 4294967295 := hle
    refine (refPut_yes 4 _ w rfl (by unfold U64; omega) (by simp [fits]; omega)).mono ?_
    rintro e w' ⟨v, rfl, ⟨A, C, rfl, hc, hr, _⟩, hb⟩
    exact ⟨A, C, rfl, hc, hr, hb⟩

/-- A slice of items that lies anywhere: what an append of it wants. -/
def SrcI (w : World) (A : Option Addr) (l : List It) : Prop := ∃ ys, LI w (newB (bare w) w) ys l ∧ (l = [] ∨ ∃ g o, A = some ⟨g, o, none⟩ ∧ g < w.heap.size ∧ ∀ j u, ys[j]? = some u → w.cell? ⟨g, o + j, none⟩ = some u)

theorem SrcI.get {w w' : World} {A : Option Addr} {l : List It} {v : Value} (h : SrcI w A l) (hb : Below w.heap.size w w') (hv : ∀ r, v.ownBlock = some r → w.heap.size ≤ r) :
    ∃ ys, LI w' (newBut (bare w) w' v) ys l ∧ (l = [] ∨ ∃ ad, A = some ad ∧ ∀ j u, ys[j]? = some u → w'.cell? (ad.add j) = some u) := by
  obtain ⟨ys, hy, hc⟩ := h
  refine ⟨ys, LI.more (S := newB (bare w) w) (fun b q => ⟨⟨q.1, Nat.lt_of_lt_of_le q.2 hb.size⟩, fun h => ?_⟩) (LI.keep (S := newB (bare w) w) (fun b q => hb.block b q.2) hy), hc.imp id ?_⟩
  · rintro ⟨g, o, rfl, hg, hc⟩
    exact ⟨⟨g, o, none⟩, rfl, fun j u hu => by
      rw [mk_addr_add]
      exact (hb.cell (p := ⟨g, o + j, none⟩) hg).trans (hc j u hu)⟩
  · have := hv b h
    have := q.2
    omega

/-- A list of one item of bytes, just laid: what an append of it wants. -/
theorem one_get {w0 w : World} {a : Option Addr} {c : Nat} {bs : List UInt8} {v : Value} (hc : bs.length ≤ c) (hs : bs.length ≤ 140737488355328) (hr : RdB w w.heap.size a bs) (hne : ∀ r, v.ownBlock = some r → (∀ q, a = some q → q.block ≠ r) ∧ r < w.heap.size) (t : TypeId) :
    ∃ ys, LI (w.alloc (.cells #[.int .i64 2, .int .u64 0, .slice a bs.length c, .string ⟨#[]⟩, .slice none 0 0] t)) (newBut (bare w0) (w.alloc (.cells #[.int .i64 2, .int .u64 0, .slice a bs.length c, .string ⟨#[]⟩, .slice none 0 0] t)) v) ys [.mk 2 0 bs [] []] ∧
      (([.mk 2 0 bs [] []] : List It) = [] ∨ ∃ ad, (some (⟨w.heap.size, 0, none⟩ : Addr)) = some ad ∧ ∀ j u, ys[j]? = some u → (w.alloc (.cells #[.int .i64 2, .int .u64 0, .slice a bs.length c, .string ⟨#[]⟩, .slice none 0 0] t)).cell? (ad.add j) = some u) := by
  refine ⟨[.int .i64 2, .int .u64 0, .slice a bs.length c, .string ⟨#[]⟩, .slice none 0 0], LI.one ?_, .inr ⟨_, rfl, fun j u hu => ?_⟩⟩
  · simp only [ItS]
    refine ⟨none, ⟨a, c, 0, rfl, ⟨hc, Nat.le_refl _⟩, ?_, ⟨by decide, by decide⟩, ⟨by decide, by decide⟩, hs, Nat.zero_le _, Nat.zero_le _⟩, .inl trivial⟩
    have hr2 := hr.below (below_al (Below.refl w.heap.size w) (.cells #[.int .i64 2, .int .u64 0, .slice a bs.length c, .string ⟨#[]⟩, .slice none 0 0] t))
    rcases hr2 with h | ⟨b, o, e, hlt, hc⟩
    · exact .inl h
    · refine .inr ⟨b, o, e, ⟨⟨Nat.zero_le _, by simp; omega⟩, fun h => ?_⟩, hc⟩
      exact (hne b h).1 _ e rfl
  · rw [mk_addr_add, Nat.zero_add, box_at (Below.refl _ _) j]
    simpa using hu

theorem own_lt {w wr : World} {v : Value} {l : List It} (h : ListO w wr v l) : ∀ r, v.ownBlock = some r → r < wr.heap.size := fun r q => by
  obtain ⟨_, xs, hown, _⟩ := h
  exact (World.ownsRow.lt hown r q).2

/-- The run of an append onto such a list, and what else it leaves. -/
theorem listO_run2 {w wr w1 : World} {v : Value} {l : List It} (h : ListO w wr v l) (hb1 : Below wr.heap.size wr w1) (A : Option Addr) (m : List It) (c : Nat) (hlen : l.length + m.length ≤ 1000000)
    (hy : ∃ ys, LI w1 (newBut w w1 v) ys m ∧ (m = [] ∨ ∃ ad, A = some ad ∧ ∀ j u, ys[j]? = some u → w1.cell? (ad.add j) = some u)) (hnil : A = none → m = []) :
    ∃ v' w2, (Builtin.append_ #[70, 70] 70 #[v, .slice A m.length c]).run Tryz.prog w1 = .ok v' w2 ∧ ListO w w2 v' (l ++ m) ∧ w1.grownBy w2 v.ownBlock ∧ (v'.ownBlock = v.ownBlock ∨ v'.ownBlock = some w1.heap.size) := by
  obtain ⟨hb, xs, hown, hls⟩ := h
  obtain ⟨ys, hyl, hyc⟩ := hy
  obtain ⟨i, hi, hz, hsz, hby⟩ := info_parts info_itm
  have hown1 : w1.ownsRow w.heap.size 84 5 v l.length xs := by
    obtain ⟨h1, h2⟩ := hown
    refine ⟨h1, h2.imp id ?_⟩
    rintro ⟨g, cap, cur, hv, hg0, hg, r⟩
    exact ⟨g, cap, cur, hv, hg0, (hb1.block g (Array.getElem?_eq_some_iff.1 hg).1).trans hg, r⟩
  rcases A with _ | ad
  · obtain rfl := hnil rfl
    have hrun : (Builtin.append_ #[70, 70] 70 #[v, .slice none 0 c]).run Tryz.prog w1 = .ok v w1 := by
      rcases hown1.2 with ⟨rfl, _⟩ | ⟨g, cap, cur, rfl, _, _, hn, _⟩
      · simp [Builtin.append_, run_underlying Tryz.underlying70, sizeOf, typeInfo, hi, Builtin.lenOf, Builtin.firstCells]
      · simp [Builtin.append_, run_underlying Tryz.underlying70, sizeOf, typeInfo, hi, Builtin.lenOf, Builtin.firstCells, hn, storeCells]
    have hy0 : ys = [] := hyl
    subst hy0
    exact ⟨v, w1, hrun, ListO.app hb hown hls hb1 hyl (by simpa using hown1) (World.grownBy.refl _ _) (.inl rfl), World.grownBy.refl _ _, .inl rfl⟩
  · have hcells : ∀ j u, ys[j]? = some u → w1.cell? (ad.add j) = some u := by
      rcases hyc with rfl | ⟨ad', e, h⟩
      · have hy0 : ys = [] := hyl
        subst hy0
        intro j u hu
        simp at hu
      · cases e
        exact h
    obtain ⟨v', w2, hrun, h2, h3, _, h5⟩ := run_append_own_at (P := Tryz.prog) w1 w.heap.size 70 70 84 i _ 5 80 Tryz.underlying70 hi hz hsz hby rfl (by decide) v l.length xs hown1 ad m.length c ys (hyl.length) hcells hyl.oneCell (by unfold maxLen; omega) (by omega) (by have := hb.size; have := hb1.size; omega)
    exact ⟨v', w2, hrun, ListO.app hb hown hls hb1 hyl h2 h3 h5, h3, h5⟩

set_option maxHeartbeats 8000000 in
theorem refSealed_any (k : Nat) (hk : k ≤ 2) (A : Option Addr) (C : Nat) (l : List It) (w : World) (hlen : l.length ≤ 1000) (hit : ItV w w.heap.size (listV A l.length C) (itLs l)) (hsrc : SrcI w A l) (hnil : A = none → l = [])
    (hr0 : (itLs l).right = true) (hr : ∀ bs, (itLs (l ++ [.mk 2 0 bs [] []])).right = true) (hb0 : (itLs l).bytes.length ≤ 1000000) (hb : ∀ bs, bs.length = wdN k → (itLs (l ++ [.mk 2 0 bs [] []])).bytes.length ≤ 1000000) :
    Calls Tryz.prog 40 #[.slice A l.length C, .int .i64 k] w (JoinP w (sealN k l)) := by
  have HIt := Lib.hid hit
  have HSr := Lib.hid hsrc
  have HNil := Lib.hid hnil
  have HR := Lib.hid hr
  have HR0 := Lib.hid hr0
  have HLb := Lib.hid hb
  have HLb0 := Lib.hid hb0
  have HK := Lib.hid hk
  obtain ⟨n, hn⟩ : ∃ n, n = l.length := ⟨_, rfl⟩
  have hn1 : n ≤ 1000 := by omega
  rw [← hn]
  have HN := Lib.hid hn
  clear hit hsrc hnil hr hr0 hb hb0 hlen hn
  by_cases hk0 : k = 0
  · have HZ : Hid (sealN k l = (itLs l).bytes) := if_pos (by rw [hk0]; rfl)
    have d0 : ((k : Int) == 0) = true := by rw [hk0]; rfl
    clear hk0 hk
    go_enter Tryz.func40, Tryz.ntmps40
    go_wp2_with fail
    refine (refList_any _ _ _ _).mono ?_
    rintro e w1 ⟨rfl, hb1⟩
    have HI1 := Lib.hid (HIt.out.on hb1)
    have HB1 := Lib.hid hb1
    clear hb1
    go_wp2_with fail
    have hkb := refBytes_any (itLs l) (listV A l.length C) w1 HR0.out (Nat.le_trans HLb0.out (by decide)) HI1.out
    rw [← HN.out] at hkb
    unfold listV at hkb
    refine hkb.mono ?_
    rintro e w2 ⟨u, rfl, hown, hb2⟩
    have HOw : Hid (OwnV w2 w.heap.size 5 u ((itLs l).bytes.map encB)) := ⟨hown.1, hown.2.imp id fun ⟨g, cap, cur, e, h0, r⟩ => ⟨g, cap, cur, e, Nat.le_trans HB1.out.size h0, r⟩⟩
    have HB2 := Lib.hid (below_on HB1.out hb2)
    clear hown hb2 hkb
    go_wp2_with fail
    go_ret
    exact ⟨u, rfl, by rw [HZ.out]; exact HOw.out, HB2.out⟩
  · have hk12 : 1 ≤ k := by omega
    have hwd1 : ¬ wdN k = 0 := by
      have : k = 1 ∨ k = 2 := by omega
      rcases this with rfl | rfl <;> decide
    obtain ⟨sB, hsB⟩ : ∃ sB, sB = sumB k (itLs (l ++ [.mk 2 0 (List.replicate (wdN k) 0) [] []])).bytes := ⟨_, rfl⟩
    have HZ : Hid (sealN k l = (itLs (l ++ [.mk 2 0 sB [] []])).bytes) := by rw [hsB]; exact if_neg hwd1
    have hsl : sB.length = wdN k := by rw [hsB]; exact sumB_length _ _
    have d0 : ((k : Int) == 0) = false := by simp; omega
    have HSB := Lib.hid hsB
    have HSL := Lib.hid hsl
    have HK1 := Lib.hid hk12
    have hwd4 : wdN k ≤ 4 := wdN_le k
    have hmk := fun w => mk_zero (wdN k) hwd4 w
    have HWd1 : Hid (1 ≤ wdN k) := Nat.pos_of_ne_zero hwd1
    have HWi := Lib.hid (fun w => refWidth_any k HK.out w)
    clear hk0 hk hwd1 hsB hsl hk12
    generalize hwdE : wdN k = wd at *
    have HWd : Hid ((wd : Int) = (wdN k : Int)) := by rw [hwdE]; exact rfl
    clear hwdE
    go_enter Tryz.func40, Tryz.ntmps40
    -- the first list, and its bytes
    obtain ⟨w1, hw1⟩ : ∃ w1, w1 = w.alloc (.cells #[] 84) := ⟨_, rfl⟩
    have hb1 : Below w.heap.size w w1 := by rw [hw1]; exact below_al (Below.refl _ _) _
    have hl0 : ListO (bare w) w1 (.slice (some ⟨w.heap.size, 0, none⟩) 0 0) [] := by rw [hw1]; exact ListO.lit0 (bare_below w)
    obtain ⟨v2, w2, hrun2, hlo2, hgr2, hv2⟩ := listO_run2 hl0 (Below.refl _ _) A l C (by simp; have := HN.out; omega) (HSr.out.get hb1 (fun r h => by have h' : some w.heap.size = some r := h; injection h' with h'; omega)) HNil.out
    rw [← HN.out] at hrun2
    rw [List.nil_append] at hlo2
    have hb2 : Below w.heap.size w w2 := hb1.grown hgr2 hb1.size (fun r h => by have h' : some w.heap.size = some r := h; injection h' with h'; omega)
    have HV2 : Hid (∀ r, v2.ownBlock = some r → w.heap.size ≤ r) := fun r h => by
      rcases hv2 with h1 | h1
      · rw [h1] at h
        have h' : some w.heap.size = some r := h
        injection h' with h'
        omega
      · rw [h1] at h
        injection h with h
        have := hb1.size
        omega
    have HB2 := Lib.hid hb2
    have HRun2 := Lib.hid hrun2
    have HLo2 := Lib.hid hlo2
    rw [hw1] at HRun2
    clear hw1 hb1 hl0 hrun2 hlo2 hgr2 hv2 hb2
    go_wp2_with (at_builtin; refine wpList_run (by rfl) _ _ _ _ (by rfl) _ _ _ _ (by rfl) (by rfl) HRun2.out ?_)
    refine (HWi.out _).mono ?_
    rintro e wx ⟨rfl, rfl⟩
    go_wp2_with fail
    obtain ⟨w3, hw3⟩ : ∃ w3, w3 = w2.alloc (.cells (madeCells #[.int .u8 0] wd) 5) := ⟨_, rfl⟩
    have hb3 : Below w2.heap.size w2 w3 := by rw [hw3]; exact below_al (Below.refl _ _) _
    have HRz : Hid (RdB w3 w3.heap.size (some ⟨w2.heap.size, 0, none⟩) (List.replicate wd 0)) := by rw [hw3]; exact rd_zero w2 wd
    have HB3 := Lib.hid hb3
    have HS3 : Hid (w3.heap.size = w2.heap.size + 1) := by rw [hw3]; simp [Hid]
    rw [← hw3]
    clear hw3 hb3
    refine (refOctets_any _ _ _ _).mono ?_
    rintro e w4 ⟨rfl, hb4⟩
    have hR4 : RdB w4 w4.heap.size (some ⟨w2.heap.size, 0, none⟩) (List.replicate wd 0) := (HRz.out.below hb4).mono hb4.size
    have hget := one_get (w0 := w) (w := w4) (v := v2) (bs := List.replicate wd 0) (c := wd) (by simp) (by simp; omega) hR4 (fun r h => by
      have h1 := own_lt HLo2.out r h
      have h2 := HS3.out
      have h3 := hb4.size
      refine ⟨fun q hq => ?_, by omega⟩
      injection hq with hq
      rw [← hq]
      show w2.heap.size ≠ r
      omega) 84
    rw [List.length_replicate] at hget
    have hb45 := below_al (below_on HB3.out hb4) (.cells #[.int .i64 2, .int .u64 0, .slice (some ⟨w2.heap.size, 0, none⟩) wd wd, .string ⟨#[]⟩, .slice none 0 0] 84)
    obtain ⟨v6, w6, hrun6, hlo6, hgr6, hv6⟩ := listO_run2 HLo2.out hb45 (some ⟨w4.heap.size, 0, none⟩) [.mk 2 0 (List.replicate wd 0) [] []] 1 (by simp; have := HN.out; omega) hget (fun h => by cases h)
    have hb6 : Below w.heap.size w w6 := (below_on HB2.out hb45).grown hgr6 (below_on HB2.out hb45).size (fun r h => HV2.out r h)
    have HB6 := Lib.hid hb6
    have HRun6 := Lib.hid hrun6
    have HLo6 := Lib.hid hlo6
    clear hget hb45 hrun6 hlo6 hgr6 hv6 hb6 hR4 hb4
    go_wp2_with (at_builtin; refine wpList_run (by rfl) _ _ _ _ (by rfl) _ _ _ _ (by rfl) (by rfl) HRun6.out ?_)
    obtain ⟨A6, C6, rfl, hit6⟩ := HLo6.out.item (by simp; have := HN.out; omega)
    obtain ⟨lz, hlz⟩ : ∃ lz, lz = l ++ [.mk 2 0 (List.replicate wd 0) [] []] := ⟨_, rfl⟩
    obtain ⟨m6, hm6⟩ : ∃ m6, m6 = lz.length := ⟨_, rfl⟩
    rw [← hlz, ← hm6] at hit6 ⊢
    have HI6 : Hid (ItV w6 w6.heap.size (listV A6 m6 C6) (itLs lz)) := ItS.itV (fun b q => q.2) _ hit6
    have HRz6 : Hid ((itLs lz).right = true) := by rw [hlz]; exact HR.out _
    have HLz6 : Hid ((itLs lz).bytes.length ≤ 1000000) := by rw [hlz]; exact HLb.out _ (by simp)
    have HLZ := Lib.hid hlz
    have HM6 := Lib.hid hm6
    clear hit6 hlz hm6
    go_wp2_with fail
    refine (refList_any _ _ _ _).mono ?_
    rintro e w7 ⟨rfl, hb7⟩
    have HI7 := Lib.hid (HI6.out.on hb7)
    have HB7 := Lib.hid (below_on HB6.out hb7)
    clear hb7
    go_wp2_with fail
    have hkb := refBytes_any (itLs lz) (listV A6 m6 C6) w7 HRz6.out (Nat.le_trans HLz6.out (by decide)) HI7.out
    unfold listV at hkb
    refine hkb.mono ?_
    rintro e w8 ⟨u, rfl, hown, hb8⟩
    obtain ⟨a9, c9, rfl, _, hrd9, _⟩ := hown.bytes
    have HB8 := Lib.hid (below_on HB7.out hb8)
    have HRd9 := Lib.hid hrd9
    obtain ⟨bz, hbz⟩ : ∃ bz, bz = (itLs lz).bytes := ⟨_, rfl⟩
    have HLz : Hid (bz.length ≤ 1000000) := by rw [hbz]; exact HLz6.out
    have HBz := Lib.hid hbz
    rw [← hbz] at HRd9 ⊢
    obtain ⟨nz, hnz⟩ : ∃ nz, nz = bz.length := ⟨_, rfl⟩
    rw [← hnz]
    have HNz := Lib.hid hnz
    have HSB2 : Hid (sB = sumB k bz) := by rw [hbz, HLZ.out]; exact HSB.out
    clear hkb hown hb8 hrd9 hbz hnz
    go_wp2_with fail

    refine (refOf_any k HK.out a9 nz c9 bz HNz.out w8 (by have := HLz.out; omega) HRd9.out).mono ?_
    rintro e wq ⟨rfl, hbq⟩
    have HBq := Lib.hid (below_on HB8.out hbq)
    obtain ⟨sn, hsn⟩ : ∃ sn, sn = sumN k bz := ⟨_, rfl⟩
    have hsum : IntKind.u64.wrap (sn : Int) = (sn : Int) := by
      have h1 := sumN_le (k := k) bz
      have h2 : onN k ≤ 4294967295 := by
        have h3 := HK1.out
        have h4 := HK.out
        have h5 : k = 1 ∨ k = 2 := by omega
        rcases h5 with rfl | rfl <;> decide
      rw [IntKind.wrap_u64]
      omega
    rw [← hsn]
    have HSn := Lib.hid hsn
    clear hbq hsn
    go_wp2_with fail
    refine (HWi.out _).mono ?_
    rintro e wx ⟨rfl, rfl⟩
    go_wp2_with fail
    refine (refPutK2 k HK1.out HK.out bz (sn : Int) (wd : Int) (by rw [HSn.out]) HWd.out wq).mono ?_
    rintro e wp ⟨aS, cS, rfl, hcS, hrS, hbp⟩
    have hls : (sumB k bz).length = wd := by rw [← HSB2.out]; exact HSL.out
    rw [hls] at hcS ⊢
    rw [← HSB2.out] at hrS
    have HRS := Lib.hid hrS
    have HBp := Lib.hid (below_on HBq.out hbp)
    have HCS : Hid (wd ≤ cS) := hcS
    have HAS : Hid (∀ q, aS = some q → q.block < wp.heap.size) := fun q hq => by
      rcases hrS with h | ⟨b, o, e, hlt, _⟩
      · have hl2 := HSL.out
        rw [h] at hl2
        have h1 := HWd1.out
        simp at hl2
        omega
      · rw [hq] at e
        injection e with e
        rw [e]
        exact hlt
    clear hbp hrS hls hsum hcS
    obtain ⟨wa, hwa⟩ : ∃ wa, wa = wp.alloc (.cells #[] 84) := ⟨_, rfl⟩
    have hba : Below wp.heap.size wp wa := by rw [hwa]; exact below_al (Below.refl _ _) _
    have hla0 : ListO (bare wp) wa (.slice (some ⟨wp.heap.size, 0, none⟩) 0 0) [] := by rw [hwa]; exact ListO.lit0 (bare_below wp)
    have hsp := HBp.out.size
    obtain ⟨vb, wb, hrunb, hlob, hgrb, hvb⟩ := listO_run2 hla0 (Below.refl _ _) A l C (by simp; have := HN.out; omega) (HSr.out.get (below_on HBp.out hba) (fun r h => by have h' : some wp.heap.size = some r := h; injection h' with h'; omega)) HNil.out
    rw [← HN.out] at hrunb
    rw [List.nil_append] at hlob
    have hbb : Below wp.heap.size wp wb := hba.grown hgrb hba.size (fun r h => by have h' : some wp.heap.size = some r := h; injection h' with h'; omega)
    have HVb : Hid (∀ r, vb.ownBlock = some r → wp.heap.size ≤ r) := fun r h => by
      rcases hvb with h1 | h1
      · rw [h1] at h
        have h' : some wp.heap.size = some r := h
        injection h' with h'
        omega
      · rw [h1] at h
        injection h with h
        have := hba.size
        omega
    have HBb := Lib.hid hbb
    have HRunb := Lib.hid hrunb
    have HLob := Lib.hid hlob
    rw [hwa] at HRunb
    clear hwa hba hla0 hrunb hlob hgrb hvb hbb hsp
    go_wp2_with (at_builtin; refine wpList_run (by rfl) _ _ _ _ (by rfl) _ _ _ _ (by rfl) (by rfl) HRunb.out ?_)
    refine (refOctets_any _ _ _ _).mono ?_
    rintro e wc ⟨rfl, hbc⟩
    have hRc : RdB wc wc.heap.size aS sB := (HRS.out.below (below_on HBb.out hbc)).mono (below_on HBb.out hbc).size
    have hget := one_get (w0 := wp) (w := wc) (v := vb) (bs := sB) (c := cS) (by have := HCS.out; have := HSL.out; omega) (by have := HSL.out; omega) hRc (fun r h => by
      have h1 := own_lt HLob.out r h
      have h2 := HVb.out r h
      have h3 := hbc.size
      exact ⟨fun q hq => by have := HAS.out q hq; omega, by omega⟩) 84
    rw [HSL.out] at hget
    have hbcd := below_al hbc (.cells #[.int .i64 2, .int .u64 0, .slice aS wd cS, .string ⟨#[]⟩, .slice none 0 0] 84)
    obtain ⟨ve, we, hrune, hloe, hgre, hve⟩ := listO_run2 HLob.out hbcd (some ⟨wc.heap.size, 0, none⟩) [.mk 2 0 sB [] []] 1 (by simp; have := HN.out; omega) hget (fun h => by cases h)
    have hbe : Below wp.heap.size wp we := (below_on HBb.out hbcd).grown hgre (below_on HBb.out hbcd).size (fun r h => HVb.out r h)
    have HBe := Lib.hid (below_on HBp.out hbe)
    have HRune := Lib.hid hrune
    have HLoe := Lib.hid hloe
    clear hget hbcd hrune hloe hgre hve hbe hRc hbc
    go_wp2_with (at_builtin; refine wpList_run (by rfl) _ _ _ _ (by rfl) _ _ _ _ (by rfl) (by rfl) HRune.out ?_)
    obtain ⟨Af, Cf, rfl, hitf⟩ := HLoe.out.item (by simp; have := HN.out; omega)
    obtain ⟨lf, hlf⟩ : ∃ lf, lf = l ++ [.mk 2 0 sB [] []] := ⟨_, rfl⟩
    obtain ⟨mf, hmf⟩ : ∃ mf, mf = lf.length := ⟨_, rfl⟩
    rw [← hlf, ← hmf] at hitf ⊢
    have HIf : Hid (ItV we we.heap.size (listV Af mf Cf) (itLs lf)) := ItS.itV (fun b q => q.2) _ hitf
    have HRf : Hid ((itLs lf).right = true) := by rw [hlf]; exact HR.out _
    have HLf : Hid ((itLs lf).bytes.length ≤ 1000000) := by rw [hlf]; exact HLb.out _ HSL.out
    have HZf : Hid (sealN k l = (itLs lf).bytes) := by rw [hlf]; exact HZ.out
    clear hitf hlf hmf
    go_wp2_with fail
    refine (refList_any _ _ _ _).mono ?_
    rintro e wg ⟨rfl, hbg⟩
    have HIg := Lib.hid (HIf.out.on hbg)
    have HBg := Lib.hid (below_on HBe.out hbg)
    clear hbg
    go_wp2_with fail
    have hkb := refBytes_any (itLs lf) (listV Af mf Cf) wg HRf.out (Nat.le_trans HLf.out (by decide)) HIg.out
    unfold listV at hkb
    refine hkb.mono ?_
    rintro e wh ⟨u, rfl, hown, hbh⟩
    have HOw : Hid (OwnV wh w.heap.size 5 u ((itLs lf).bytes.map encB)) := ⟨hown.1, hown.2.imp id fun ⟨g, cap, cur, e, h0, r⟩ => ⟨g, cap, cur, e, Nat.le_trans HBg.out.size h0, r⟩⟩
    have HBh := Lib.hid (below_on HBg.out hbh)
    clear hown hbh hkb
    go_wp2_with fail
    go_ret
    exact ⟨u, rfl, by rw [HZf.out]; exact HOw.out, HBh.out⟩
end Go.Proofs.YtlmdbeccfoncpaaGreatDoor
