/- A primary's bytes. -/
import Derived.Test.YtlmdbeccfoncpaaGreatDoorZPmD
namespace Go.Proofs.YtlmdbeccfoncpaaGreatDoor
open Go Go.RowKit Go.Shelf
set_option linter.unusedSimpArgs false
set_option linter.unusedVariables false
set_option maxRecDepth 100000

/-- A primary's item, with bytes as its sum where it has one. -/
def itO (p : Pm) (wd : Nat) (bs : List UInt8) : It := itLs (itsP p ++ if wd = 0 then [] else [.mk 2 0 bs [] []])

/-- What else an append onto such a list leaves. -/
theorem listO_grown {w0 wr w1 w2 : World} {v v' : Value} {l m : List It} {S : Nat → Prop} {ys : List Value} (h : ListO w0 wr v l) (hb1 : Below wr.heap.size wr w1) (ad : Addr) (c : Nat) (hlen : l.length + m.length ≤ 1000000) (hyl : LI w1 S ys m)
    (hyc : ∀ j u, ys[j]? = some u → w1.cell? (ad.add j) = some u) (hrun : (Builtin.append_ #[70, 70] 70 #[v, .slice (some ad) m.length c]).run Tryz.prog w1 = .ok v' w2) : w1.grownBy w2 v.ownBlock := by
  obtain ⟨hb, xs, hown, hls⟩ := h
  obtain ⟨i, hi, hz, hsz, hby⟩ := info_parts info_itm
  have hown1 : w1.ownsRow w0.heap.size 84 5 v l.length xs := own_below hown hb1
  obtain ⟨v2, w3, hrun2, _, h3, _⟩ := run_append_own_at (P := Tryz.prog) w1 w0.heap.size 70 70 84 i _ 5 80 Tryz.underlying70 hi hz hsz hby rfl (by decide) v l.length xs hown1 ad m.length c ys (hyl.length) hyc hyl.oneCell (by unfold maxLen; omega) (by omega) (by have := hb.size; have := hb1.size; omega)
  rw [hrun2] at hrun
  injection hrun with e1 e2
  rw [← e2]
  exact h3

/-- Any world's blocks, as new ones. -/
def bare (w : World) : World := { w with heap := #[] }
theorem bare_below (w : World) : Below (bare w).heap.size (bare w) w := ⟨rfl, rfl, rfl, Nat.zero_le _, fun k hk => by simp [bare] at hk⟩

theorem itS_bytes {w : World} {a : Option Addr} {c : Nat} {bs : List UInt8} (hc : bs.length ≤ c) (hs : bs.length ≤ 140737488355328) (hr : RdB w w.heap.size a bs) : ItS w (newB (bare w) w) (.agg #[.int .i64 2, .int .u64 0, .slice a bs.length c, .string ⟨#[]⟩, .slice none 0 0]) (.mk 2 0 bs [] []) := by
  simp only [ItS]
  refine ⟨none, ⟨a, c, 0, rfl, ⟨hc, Nat.le_refl _⟩, ?_, ⟨by decide, by decide⟩, ⟨by decide, by decide⟩, hs, Nat.zero_le _, Nat.zero_le _⟩, .inl trivial⟩
  rcases hr with h | ⟨b, o, e, hlt, hc⟩
  · exact .inl h
  · exact .inr ⟨b, o, e, ⟨Nat.zero_le _, hlt⟩, hc⟩

set_option maxHeartbeats 8000000 in
theorem plLay_any (p : Pm) (hp : p.fine) (wd B D : Nat) (a : Option Addr) (c : Nat) (bs : List UInt8) (w : World) (hX : (w.cell? ⟨B, 0, none⟩ = some (.int .u32 p.f) ∧ w.cell? ⟨B, 1, none⟩ = some (.int .i64 p.s) ∧ w.cell? ⟨B, 2, none⟩ = some (.int .u32 p.tn) ∧ w.cell? ⟨B, 3, none⟩ = some (.int .u32 p.tm) ∧ w.cell? ⟨B, 4, none⟩ = some (.int .u32 p.sn) ∧ w.cell? ⟨B, 5, none⟩ = some (.int .u32 p.sm) ∧ w.cell? ⟨B, 6, none⟩ = some (.int .u32 p.rn) ∧ w.cell? ⟨B, 7, none⟩ = some (.int .u32 p.rm) ∧ w.cell? ⟨B, 8, none⟩ = some (.int .u64 p.t) ∧ w.cell? ⟨B, 9, none⟩ = some (.int .u32 p.q) ∧ w.cell? ⟨B, 10, none⟩ = some (.int .u64 p.l)) ∧ w.cell? ⟨D, 0, none⟩ = some (.int .i64 (wd : Nat))) (hc : bs.length ≤ c) (hs : bs.length ≤ 1000) (hr : RdB w w.heap.size a bs) (ht : TabW w)
    (he : (itO p wd bs).err = 0) (hd : (itO p wd bs).depth ≤ 60000) :
    Calls Tryz.prog 49 #[.slice a bs.length c, .pointer (some ⟨B, 0, none⟩), .pointer (some ⟨D, 0, none⟩)] w fun e w' => ∃ u, e = .returned u ∧ OwnV w' w.heap.size 5 u ((itO p wd bs).bytes.map encB) ∧ Below w.heap.size w w' := by
  have hB : B < w.heap.size := World.block_lt_of_cell? w _ hX.1.1
  have hD : D < w.heap.size := World.block_lt_of_cell? w _ hX.2
  have HX : Hid (∀ w', Below w.heap.size w w' → (w'.cell? ⟨B, 0, none⟩ = some (.int .u32 p.f) ∧ w'.cell? ⟨B, 1, none⟩ = some (.int .i64 p.s) ∧ w'.cell? ⟨B, 2, none⟩ = some (.int .u32 p.tn) ∧ w'.cell? ⟨B, 3, none⟩ = some (.int .u32 p.tm) ∧ w'.cell? ⟨B, 4, none⟩ = some (.int .u32 p.sn) ∧ w'.cell? ⟨B, 5, none⟩ = some (.int .u32 p.sm) ∧ w'.cell? ⟨B, 6, none⟩ = some (.int .u32 p.rn) ∧ w'.cell? ⟨B, 7, none⟩ = some (.int .u32 p.rm) ∧ w'.cell? ⟨B, 8, none⟩ = some (.int .u64 p.t) ∧ w'.cell? ⟨B, 9, none⟩ = some (.int .u32 p.q) ∧ w'.cell? ⟨B, 10, none⟩ = some (.int .u64 p.l)) ∧ w'.cell? ⟨D, 0, none⟩ = some (.int .i64 (wd : Nat))) := fun w' h => by
    obtain ⟨⟨x0, x1, x2, x3, x4, x5, x6, x7, x8, x9, x10⟩, y0⟩ := hX
    exact ⟨⟨(h.cell (p := ⟨B, 0, none⟩) hB).trans x0, (h.cell (p := ⟨B, 1, none⟩) hB).trans x1, (h.cell (p := ⟨B, 2, none⟩) hB).trans x2, (h.cell (p := ⟨B, 3, none⟩) hB).trans x3, (h.cell (p := ⟨B, 4, none⟩) hB).trans x4, (h.cell (p := ⟨B, 5, none⟩) hB).trans x5, (h.cell (p := ⟨B, 6, none⟩) hB).trans x6, (h.cell (p := ⟨B, 7, none⟩) hB).trans x7, (h.cell (p := ⟨B, 8, none⟩) hB).trans x8, (h.cell (p := ⟨B, 9, none⟩) hB).trans x9, (h.cell (p := ⟨B, 10, none⟩) hB).trans x10⟩, (h.cell (p := ⟨D, 0, none⟩) hD).trans y0⟩
  have HT : Hid (∀ w', Below w.heap.size w w' → TabW w') := fun w' h => ht.on h
  have HS : Hid (ItS w (newB (bare w) w) (.agg #[.int .i64 2, .int .u64 0, .slice a bs.length c, .string ⟨#[]⟩, .slice none 0 0]) (.mk 2 0 bs [] [])) := itS_bytes hc (by omega) hr
  have HE := Lib.hid he
  have HD := Lib.hid hd
  have HBw : Hid (Below (bare w).heap.size (bare w) w) := bare_below w
  have HPl := Lib.hid (fun w => parts_any w)
  have HLd := Lib.hid (fun w => laid_any p hp w)
  have hitp : (itsP p).length = 8 := rfl
  have HIo : Hid (itO p wd bs = itLs (itsP p ++ if wd = 0 then [] else [.mk 2 0 bs [] []])) := rfl
  clear he hd hr ht hX
  obtain ⟨l, hl⟩ : ∃ l, l = itsP p := ⟨_, rfl⟩
  rw [← hl] at HIo hitp HLd
  clear hl
  go_enter Tryz.func49, Tryz.ntmps49
  go_wp2_with fail
  have F : Below w.heap.size w w.drew := (Below.refl _ _).drew
  refine wp_region_held_drew (S := fun w' => (w'.cell? ⟨B, 0, none⟩ = some (.int .u32 p.f) ∧ w'.cell? ⟨B, 1, none⟩ = some (.int .i64 p.s) ∧ w'.cell? ⟨B, 2, none⟩ = some (.int .u32 p.tn) ∧ w'.cell? ⟨B, 3, none⟩ = some (.int .u32 p.tm) ∧ w'.cell? ⟨B, 4, none⟩ = some (.int .u32 p.sn) ∧ w'.cell? ⟨B, 5, none⟩ = some (.int .u32 p.sm) ∧ w'.cell? ⟨B, 6, none⟩ = some (.int .u32 p.rn) ∧ w'.cell? ⟨B, 7, none⟩ = some (.int .u32 p.rm) ∧ w'.cell? ⟨B, 8, none⟩ = some (.int .u64 p.t) ∧ w'.cell? ⟨B, 9, none⟩ = some (.int .u32 p.q) ∧ w'.cell? ⟨B, 10, none⟩ = some (.int .u64 p.l)) ∧ w'.cell? ⟨D, 0, none⟩ = some (.int .i64 (wd : Nat))) (by kernel_rfl) (HX.out _ F) (fun hHeld => ?_)
  refine take_listed (i := 0) (v := ?_) rfl (by kernel_rfl) (by kernel_rfl) (by kernel_rfl) (fun _ _ _ h => h) (Or.inl ⟨by rfl, ?_⟩) (by assumption) ?_
  rotate_left
  · intro w hSw
    (try dsimp only at hSw)
    go_simp
    all_goals with_reducible rfl
  simp only [Act.put, List.setIfInBounds_toArray, List.set_cons_zero, List.set_cons_succ]
  refine wpAnyH_ready (rs := [1]) (by kernel_rfl) (by simp) ?_
  refine AllReadyH.cons rfl (fun K hK => ?_) AllReadyH.nil
  go_simp
  refine (HPl.out _).mono ?_
  rintro e wz ⟨rfl, hb⟩
  replace F := below_on F hb
  clear hb
  refine hK.out _ _ (HX.out _ F) (fun hHeld => ?_)
  clear hK K
  try simp only [Act.put, List.setIfInBounds_toArray, List.set_cons_zero, List.set_cons_succ]
  refine wpAnyH_ready (rs := [2]) (by kernel_rfl) (by simp) ?_
  refine AllReadyH.cons rfl (fun K hK => ?_) AllReadyH.nil
  go_simp
  refine (HLd.out _).mono ?_
  rintro e w1 ⟨v, rfl, hlo⟩
  have hvo : ∀ r, v.ownBlock = some r → w.heap.size ≤ r := fun r q => by
    obtain ⟨_, xs, hown, _⟩ := hlo
    exact Nat.le_trans F.size (World.ownsRow.lt hown r q).1
  have HVo := Lib.hid hvo
  have HLO := Lib.hid (hlo.low (HBw.out.trans (F.mono HBw.out.size)))
  replace F := below_on F hlo.1
  clear hlo hvo
  refine hK.out _ _ (HX.out _ F) (fun hHeld => ?_)
  clear hK K
  try simp only [Act.put, List.setIfInBounds_toArray, List.set_cons_zero, List.set_cons_succ]
  refine take_listed (i := 3) (v := ?_) rfl (by kernel_rfl) (by kernel_rfl) (by kernel_rfl) (fun _ _ _ h => h) (Or.inl ⟨by rfl, ?_⟩) (by assumption) ?_
  rotate_left
  · intro w hSw
    (try dsimp only at hSw)
    go_simp
    all_goals with_reducible rfl
  simp only [Act.put, List.setIfInBounds_toArray, List.set_cons_zero, List.set_cons_succ]
  clear hHeld
  refine wpAnyH_done (by kernel_rfl) ?_ _
  have HB1 := Lib.hid F
  clear F
  obtain ⟨_, y0⟩ := HX.out w1 HB1.out
  by_cases hw : wd = 0
  · have hlt : ¬ (0 : Int) < (wd : Nat) := by omega
    have HLf : Hid (itO p wd bs = itLs l) := by
      show itO p wd bs = itLs l
      rw [HIo.out, if_pos hw, List.append_nil]
    obtain ⟨lf, hlf⟩ : ∃ lf, lf = l := ⟨_, rfl⟩
    rw [← hlf] at HLO HLf hitp
    have HLi := HLO
    have HBl := HB1
    obtain ⟨wl, hwl⟩ : ∃ wl, wl = w1 := ⟨_, rfl⟩
    subst hwl
    clear hlf
    go_upto_region 4 with fail
    clear y0 hlt hw
    obtain ⟨A4, C4, rfl, hit4⟩ := HLi.out.item (by omega)
    rw [hitp] at hit4 ⊢
    have HIt : Hid (ItV wl wl.heap.size (listV A4 8 C4) (itLs lf)) := ItS.itV (fun b q => q.2) _ hit4
    clear hit4
    go_wp2_with fail
    refine (pmList_any _ _ _ _).mono ?_
    rintro e w5 ⟨rfl, hb5⟩
    have HIt5 : Hid (ItV w5 w5.heap.size (listV A4 8 C4) (itLs lf)) := HIt.out.on hb5
    have HB5 := Lib.hid (below_on HBl.out hb5)
    clear hb5
    go_wp2_with fail
    have hdep := HD.out
    rw [HLf.out] at hdep
    have henc := encode_any (itLs lf) (listV A4 8 C4) w5 HIt5.out (HT.out w5 HB5.out) hdep
    unfold listV at henc
    refine henc.mono ?_
    rintro e w6 ⟨hb6, ⟨hbad, _⟩ | ⟨_, u, rfl, hown⟩⟩
    · rw [← HLf.out] at hbad
      exact absurd HE.out hbad
    have HOw : Hid (OwnV w6 w.heap.size 5 u ((itLs lf).bytes.map encB)) := ⟨hown.1, hown.2.imp id fun ⟨g, cap, cur, e, h0, r⟩ => ⟨g, cap, cur, e, Nat.le_trans HB5.out.size h0, r⟩⟩
    have HB6 := Lib.hid (below_on HB5.out hb6)
    clear hown hb6 henc
    go_wp2_with fail
    go_ret
    exact ⟨u, rfl, by rw [HLf.out]; exact HOw.out, HB6.out⟩
  · have hlt : (0 : Int) < (wd : Nat) := by omega
    have HLf0 : Hid (itO p wd bs = itLs (l ++ [.mk 2 0 bs [] []])) := by
      show itO p wd bs = itLs (l ++ [.mk 2 0 bs [] []])
      rw [HIo.out, if_neg hw]
    go_wp2_with fail
    clear y0 hlt hw
    refine (pmBytes_any _ _ _ _).mono ?_
    rintro e w2 ⟨rfl, hb2⟩
    have HB2 := Lib.hid (below_on HB1.out hb2)
    have hy : LI (w2.alloc (.cells #[.int .i64 2, .int .u64 0, .slice a bs.length c, .string ⟨#[]⟩, .slice none 0 0] 84)) (newBut (bare w) (w2.alloc (.cells #[.int .i64 2, .int .u64 0, .slice a bs.length c, .string ⟨#[]⟩, .slice none 0 0] 84)) v) [.int .i64 2, .int .u64 0, .slice a bs.length c, .string ⟨#[]⟩, .slice none 0 0] [.mk 2 0 bs [] []] := by
      refine LI.one (ItS.more (S := newB (bare w) w) (fun b q => ⟨⟨q.1, ?_⟩, fun h => ?_⟩) _ (ItS.keep (S := newB (bare w) w) (fun b q => ?_) _ HS.out))
      · exact (below_al HB2.out _).block b q.2
      · have := q.2
        have := HB2.out.size
        simp
        omega
      · have := HVo.out b h
        have := q.2
        omega
    obtain ⟨v', w3, hrun, hlo3⟩ := listO_run HLO.out (below_al hb2 (.cells #[.int .i64 2, .int .u64 0, .slice a bs.length c, .string ⟨#[]⟩, .slice none 0 0] 84)) (some ⟨w2.heap.size, 0, none⟩) [.mk 2 0 bs [] []] 1 (by simp; omega)
      ⟨_, hy, .inr ⟨_, rfl, fun j u hu => by
        rw [mk_addr_add, Nat.zero_add, box_at (Below.refl _ _) j]
        simpa using hu⟩⟩ (fun e => by cases e)
    have HRun := Lib.hid hrun
    have HLO3 := Lib.hid hlo3
    have hb3 : Below w.heap.size w w3 := (below_al HB2.out _).grown (listO_grown HLO.out (below_al hb2 _) _ 1 (by simp; omega) hy (fun j u hu => by
      rw [mk_addr_add, Nat.zero_add, box_at (Below.refl _ _) j]
      simpa using hu) hrun) (below_al HB2.out _).size (fun r q => HVo.out r q)
    have HB3 := Lib.hid hb3
    clear hrun hlo3 hy hb2 hb3
    go_wp2_with (at_builtin; refine wpList_run (by rfl) _ _ _ _ (by rfl) _ _ _ _ (by rfl) (by rfl) HRun.out ?_)
    obtain ⟨lf, hlf⟩ : ∃ lf, lf = l ++ [.mk 2 0 bs [] []] := ⟨_, rfl⟩
    have hll : lf.length = 9 := by rw [hlf]; simp [hitp]
    rw [← hlf] at HLO3 HLf0
    have HLi := HLO3
    have HLf := HLf0
    have HBl := HB3
    obtain ⟨wl, hwl⟩ : ∃ wl, wl = w3 := ⟨_, rfl⟩
    subst hwl
    clear hlf
    obtain ⟨A4, C4, rfl, hit4⟩ := HLi.out.item (by omega)
    rw [hll] at hit4 ⊢
    have HIt : Hid (ItV wl wl.heap.size (listV A4 9 C4) (itLs lf)) := ItS.itV (fun b q => q.2) _ hit4
    clear hit4
    go_wp2_with fail
    refine (pmList_any _ _ _ _).mono ?_
    rintro e w5 ⟨rfl, hb5⟩
    have HIt5 : Hid (ItV w5 w5.heap.size (listV A4 9 C4) (itLs lf)) := HIt.out.on hb5
    have HB5 := Lib.hid (below_on HBl.out hb5)
    clear hb5
    go_wp2_with fail
    have hdep := HD.out
    rw [HLf.out] at hdep
    have henc := encode_any (itLs lf) (listV A4 9 C4) w5 HIt5.out (HT.out w5 HB5.out) hdep
    unfold listV at henc
    refine henc.mono ?_
    rintro e w6 ⟨hb6, ⟨hbad, _⟩ | ⟨_, u, rfl, hown⟩⟩
    · rw [← HLf.out] at hbad
      exact absurd HE.out hbad
    have HOw : Hid (OwnV w6 w.heap.size 5 u ((itLs lf).bytes.map encB)) := ⟨hown.1, hown.2.imp id fun ⟨g, cap, cur, e, h0, r⟩ => ⟨g, cap, cur, e, Nat.le_trans HB5.out.size h0, r⟩⟩
    have HB6 := Lib.hid (below_on HB5.out hb6)
    clear hown hb6 henc
    go_wp2_with fail
    go_ret
    exact ⟨u, rfl, by rw [HLf.out]; exact HOw.out, HB6.out⟩

end Go.Proofs.YtlmdbeccfoncpaaGreatDoor
