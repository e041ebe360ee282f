/- The document's answer for Split: pieces, each in memory of its own. -/
import Derived.Test.YtokecladkepgfaaOctI
namespace Go.Proofs.Ytokecladkepgfaa
open Go.RowKit Go.Shelf

/-- Rows of elements of two types are two rows. -/
theorem OwnV.apart {w : World} {b1 b2 : Nat} {e1 e2 : TypeId} {v1 v2 : Value} {xs1 xs2 : List Value} (he : e1 ≠ e2) (h1 : OwnV w b1 e1 v1 xs1) (h2 : OwnV w b2 e2 v2 xs2) : v1.ownBlock = none ∨ v1.ownBlock ≠ v2.ownBlock := by
  rcases h1.2 with ⟨rfl, _⟩ | ⟨g, cap, cur, rfl, _, hg, _⟩
  · exact .inl rfl
  · refine .inr fun e => ?_
    rcases h2.2 with ⟨rfl, _⟩ | ⟨g2, cap2, cur2, rfl, _, hg2, _⟩
    · simp [Value.ownBlock] at e
    · simp [Value.ownBlock] at e
      subst e
      rw [hg] at hg2
      simp at hg2
      exact he hg2.2

/-- Pieces, each in memory of its own. -/
def OPcs (w : World) (B0 : Nat) (vs : List Value) (ps : List (List UInt8)) : Prop :=
  vs.length = ps.length ∧ ∀ j, j < ps.length → OwnV w B0 5 (vs[j]?.getD undef) ((ps[j]?.getD []).map encB)

theorem OPcs.nil (w : World) (B0 : Nat) : OPcs w B0 [] [] := ⟨rfl, fun j hj => absurd hj (Nat.not_lt_zero j)⟩

theorem OPcs.snoc {w : World} {B0 : Nat} {vs : List Value} {ps : List (List UInt8)} {v : Value} {p : List UInt8} (h : OPcs w B0 vs ps) (hp : OwnV w B0 5 v (p.map encB)) : OPcs w B0 (vs ++ [v]) (ps ++ [p]) := by
  refine ⟨by simp [h.1], fun j hj => ?_⟩
  simp at hj
  by_cases e : j < ps.length
  · rw [List.getElem?_append_left (by rw [h.1]; exact e), List.getElem?_append_left e]
    exact h.2 j e
  · obtain rfl : j = ps.length := by omega
    rw [List.getElem?_append_right (by rw [h.1]; exact Nat.le_refl _), List.getElem?_append_right (Nat.le_refl _), h.1]
    simpa using hp

theorem OPcs.alloc {w : World} {B0 : Nat} {vs : List Value} {ps : List (List UInt8)} (h : OPcs w B0 vs ps) (o : Obj) : OPcs (w.alloc o) B0 vs ps := ⟨h.1, fun j hj => (h.2 j hj).alloc o⟩

/-- Through a change of a row of another type, or of a row that is new. -/
theorem OPcs.kept {w w' : World} {B0 : Nat} {vs : List Value} {ps : List (List UInt8)} {row : Option Nat} (h : OPcs w B0 vs ps) (hg : w.grownBy w' row)
    (hne : ∀ v xs, OwnV w B0 5 v xs → v.ownBlock = none ∨ v.ownBlock ≠ row) : OPcs w' B0 vs ps := ⟨h.1, fun j hj => (h.2 j hj).kept hg (hne _ _ (h.2 j hj))⟩

theorem OPcs.pcs {w : World} {B0 : Nat} {vs : List Value} {ps : List (List UInt8)} (h : OPcs w B0 vs ps) : Pcs w B0 w.heap.size vs ps := by
  refine ⟨h.1, fun j hj => ?_⟩
  obtain ⟨A, c, hv, hc, hr, ha⟩ := (h.2 j hj).bytes
  exact ⟨A, c, hv, hc, hr, ha⟩

/-- What lay ahead of a new row lies as it lay when that one grows. -/
theorem row_kept {wr w2 : World} {B0 : Nat} {e : TypeId} {v : Value} {vs : List Value} {o : Obj} (hov : OwnV wr B0 e v vs) (g1 : (wr.alloc o).grownBy w2 (Value.slice (some ⟨wr.heap.size, 0, none⟩) 0 0).ownBlock) : OwnV w2 B0 e v vs :=
  (hov.alloc o).kept g1 (.inr fun e => by
    have := (hov.row wr.heap.size (by rw [e]; rfl)).2
    omega)

/-- One piece more: the piece's own row is made, then the row of pieces grows. -/
theorem piece_more {wr w2 w4 : World} {B0 : Nat} {v v1 v' : Value} {vs : List Value} {ps : List (List UInt8)} {p : List UInt8} (hB : B0 ≤ wr.heap.size) (hov : OwnV wr B0 23 v vs) (hpc : OPcs wr B0 vs ps)
    (hp1 : AppPost (wr.alloc (.cells #[] 5)) wr.heap.size 5 (.slice (some ⟨wr.heap.size, 0, none⟩) 0 0) [] (p.map encB) v1 w2)
    (hp2 : AppPost (w2.alloc (.cells #[v1] 23)) B0 23 v vs [v1] v' w4) :
    OwnV w4 B0 23 v' (vs ++ [v1]) ∧ OPcs w4 B0 (vs ++ [v1]) (ps ++ [p]) ∧ Below B0 wr w4 := by
  obtain ⟨h1, g1, _⟩ := hp1
  obtain ⟨h2, g2, _⟩ := hp2
  rw [List.nil_append] at h1
  have hov2 : OwnV w2 B0 23 v vs := (hov.alloc (.cells #[] 5)).kept g1 (.inr fun e => by
    have := (hov.row wr.heap.size (by rw [e]; rfl)).2
    omega)
  have hpc1 : OPcs w2 B0 vs ps := ⟨hpc.1, fun j hj => ((hpc.2 j hj).alloc (.cells #[] 5)).kept g1 (.inr fun e => by
    have := ((hpc.2 j hj).row wr.heap.size (by rw [e]; rfl)).2
    omega)⟩
  have hpc2 : OPcs w2 B0 (vs ++ [v1]) (ps ++ [p]) := hpc1.snoc (h1.base hB)
  refine ⟨h2, (hpc2.alloc (.cells #[v1] 23)).kept g2 (fun u xs hu => hu.apart (by decide) (hov2.alloc _)), ?_⟩
  have b1 := (((Below.refl B0 wr).alloc hB (.cells #[] 5)).grown g1 (by simp; omega) (fun r e => by cases e; exact hB)).alloc (Nat.le_trans hB (Nat.le_trans (by simp) g1.size)) (.cells #[v1] 23)
  exact b1.grown g2 (Nat.le_trans hB (by simpa using b1.size)) (fun r e => (hov2.row r e).1)

set_option maxRecDepth 100000 in
set_option maxHeartbeats 4000000 in
theorem refSplit_any (a1 a2 : Option Addr) (c1 c2 : Nat) (bs : List UInt8) (zs : List Int) (w : World) (hlen : bs.length ≤ 140737488351232) (hc : bs.length ≤ c1) (hlz : zs.length ≤ 1000000) (hr : RdB w w.heap.size a1 bs) (hz : RdI w w.heap.size a2 zs) :
    Calls Try.prog 22 #[.slice a1 bs.length c1, .slice a2 zs.length c2] w (SplitP w bs zs) := by
  have hl0 := Lib.hid (leftCut_start bs zs)
  have HR := Lib.hid hr
  have HZ := Lib.hid hz
  clear hr hz
  go_enter Try.func22, Try.ntmps22
  go_wp2
  go_loopw [6, 7, 8] (fun f v i wr => ∃ (k fr : Nat) (vs : List Value) (ps : List (List UInt8)), k ≤ zs.length ∧ i = .int .i64 k ∧ f = .int .i64 fr ∧ fr ≤ bs.length ∧ Hid (OwnV wr w.heap.size 23 v vs) ∧ Hid (vs.length = k) ∧
      Hid (OPcs wr w.heap.size vs ps) ∧ Hid (LeftCut bs zs k fr ps) ∧ Below w.heap.size w wr) (fun _ _ i _ => zs.length - (intOf i).toNat)
  case atStart => exact ⟨0, 0, [], [], Nat.zero_le _, rfl, rfl, Nat.zero_le _, OwnV.nil _ _ _, rfl, OPcs.nil _ _, hl0.out, Below.refl _ _⟩
  case round =>
    obtain ⟨k, fr, vs, ps, hk, rfl, rfl, hfr, hov, HV, hpc, HL, hbw⟩ := hrel
    have hsz := hbw.size
    by_cases hlt : k < zs.length
    · rcases HZ.out.below hbw with rfl | ⟨g, o, rfl, hg, hcs⟩
      · simp at hlt
      have hcx := hcs k hlt
      clear hcs
      obtain ⟨t, ht⟩ : ∃ t, t = zs[k]?.getD 0 := ⟨_, rfl⟩
      rw [← ht] at hcx
      have HT := Lib.hid ht
      clear ht
      by_cases hlow : t < (fr : Int)
      · go_wp2
        go_ret2
        exact ⟨.inl ⟨leftCut_no HL.out hlt (.inl (by rw [← HT.out]; exact hlow)), rfl⟩, hbw⟩
      · by_cases hhi : (bs.length : Int) < t
        · go_wp2
          go_ret2
          exact ⟨.inl ⟨leftCut_no HL.out hlt (.inr (by rw [← HT.out]; exact hhi)), rfl⟩, hbw⟩
        · obtain ⟨u, rfl⟩ : ∃ u : Nat, t = (u : Int) := ⟨t.toNat, by omega⟩
          have hfu : fr ≤ u := by omega
          have hub : u ≤ bs.length := by omega
          have hcx2 := (World.cell?_alloc_lt wr (.cells #[] 5) ⟨g, o + k, none⟩ (World.block_lt_of_cell? wr _ hcx)).trans hcx
          have hsl := fun w : World => run_cut2 (P := Try.prog) 23 5 Try.underlying23 size_u8 a1 bs.length c1 fr u hfu (by omega) w
          have hpl2 : ((bs.drop fr).take (u - fr)).length = u - fr := by simp; omega
          have hpl : Hid ((((bs.drop fr).take (u - fr)).map encB).length = u - fr) := by simp [Hid]; omega
          have hsrc := Lib.hid ((((HR.out.below hbw).cut fr c1 (u - fr) (by omega)).src).alloc (.cells #[] 5))
          have ho1 := Lib.hid (OwnV.lit wr wr.heap.size 5 #[] (Nat.le_refl _) (by decide))
          have hL1 : Hid (([] : List Value).length + (((bs.drop fr).take (u - fr)).map encB).length ≤ maxLen) := by simp only [Hid, hpl.out]; simp [maxLen]; omega
          have hL2 : Hid ((([] : List Value).length + (((bs.drop fr).take (u - fr)).map encB).length) * 1 ≤ 140737488355328) := by simp only [Hid, hpl.out]; simp; omega
          go_wp2_with (first
            | (at_builtin; refine wpList_app _ rfl (.tmp 31) (.tmp 38) 23 rfl wr.heap.size 5 (.int .u8 0) 1 Try.underlying23 info_u8 rfl _ _ rfl ho1.out _ _ _ _ rfl hpl.out hsrc.out (encB_one _) hL1.out hL2.out (by simp) ?_; intro v1 w2 hp; have hp0 := hp.1; rw [List.toList_toArray, List.nil_append] at hp0; obtain ⟨A1, C1, rfl, _, _, _⟩ := hp0.bytes; rw [hpl2] at hp)
            | (at_builtin; refine wpList_app _ rfl (.tmp 30) (.tmp 40) 44 rfl w.heap.size 23 (.slice none 0 0) 24 Try.underlying44 info_bytes rfl _ _ rfl ((row_kept hov.out hp.2.1).alloc _) _ _ _ _ rfl rfl (src_one _ _ _) (by simp [Value.oneCell']) (by have := HV.out; simp [maxLen]; omega) (by have := HV.out; simp; omega) (by have := hp.2.1.size; simp at this; simp; omega) ?_; intro v2 w4 hp2; obtain ⟨q1, q2, q3⟩ := piece_more hsz hov.out hpc.out hp hp2; have hcx4 := (q3.cell (p := ⟨g, o + k, none⟩) hg).trans hcx))
          go_roundw
          case rel => exact ⟨k + 1, u, _, _, by omega, by go_num, rfl, hub, q1, by simp only [Hid]; rw [List.length_append, HV.out]; rfl, q2, leftCut_step HL.out hlt HT.out.symm hfu hub, hbw.trans q3⟩
          case measure => simp [intOf]; omega
    · obtain rfl : k = zs.length := by omega
      have hsl := fun w : World => run_cut1 (P := Try.prog) 23 5 Try.underlying23 size_u8 a1 bs.length c1 fr hfr w
      have hpl2 : (bs.drop fr).length = bs.length - fr := by simp
      have hpl : Hid (((bs.drop fr).map encB).length = bs.length - fr) := by simp [Hid]
      have hrd := (HR.out.below hbw).cut fr c1 (bs.length - fr) (by omega)
      rw [List.take_of_length_le (by simp)] at hrd
      have hsrc := Lib.hid ((hrd.src).alloc (.cells #[] 5))
      clear hrd
      have ho1 := Lib.hid (OwnV.lit wr wr.heap.size 5 #[] (Nat.le_refl _) (by decide))
      have hL1 : Hid (([] : List Value).length + ((bs.drop fr).map encB).length ≤ maxLen) := by simp only [Hid, hpl.out]; simp [maxLen]; omega
      have hL2 : Hid ((([] : List Value).length + ((bs.drop fr).map encB).length) * 1 ≤ 140737488355328) := by simp only [Hid, hpl.out]; simp; omega
      go_wp2_with (first
        | (at_builtin; refine wpList_app _ rfl (.tmp 47) (.tmp 50) 23 rfl wr.heap.size 5 (.int .u8 0) 1 Try.underlying23 info_u8 rfl _ _ rfl ho1.out _ _ _ _ rfl hpl.out hsrc.out (encB_one _) hL1.out hL2.out (by simp) ?_; intro v1 w2 hp; have hp0 := hp.1; rw [List.toList_toArray, List.nil_append] at hp0; obtain ⟨A1, C1, rfl, _, _, _⟩ := hp0.bytes; rw [hpl2] at hp)
        | (at_builtin; refine wpList_app _ rfl (.tmp 46) (.tmp 52) 44 rfl w.heap.size 23 (.slice none 0 0) 24 Try.underlying44 info_bytes rfl _ _ rfl ((row_kept hov.out hp.2.1).alloc _) _ _ _ _ rfl rfl (src_one _ _ _) (by simp [Value.oneCell']) (by have := HV.out; simp [maxLen]; omega) (by have := HV.out; simp; omega) (by have := hp.2.1.size; simp at this; simp; omega) ?_; intro v2 w4 hp2))
      obtain ⟨q1, q2, q3⟩ := piece_more hsz hov.out hpc.out hp hp2
      go_ret2
      exact ⟨.inr ⟨_, v2, _, leftCut_end HL.out, rfl, q1, q2.pcs⟩, hbw.trans q3⟩

end Go.Proofs.Ytokecladkepgfaa
