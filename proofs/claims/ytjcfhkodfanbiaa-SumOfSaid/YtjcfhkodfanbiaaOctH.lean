/- Package octet's Split. -/
import Derived.Test.YtjcfhkodfanbiaaOctG
namespace Go.Proofs.Ytjcfhkodfanbiaa
open Go.RowKit Go.Shelf

/-- A slice at a reads as these integers. -/
def RdI (w : World) (B : Nat) (a : Option Addr) (zs : List Int) : Prop :=
  zs = [] ∨ ∃ b o, a = some ⟨b, o, none⟩ ∧ b < B ∧ ∀ j, j < zs.length → w.cell? ⟨b, o + j, none⟩ = some (.int .i64 (zs[j]?.getD 0))

theorem RdI.below {w w' : World} {B : Nat} {a : Option Addr} {zs : List Int} (h : RdI w B a zs) (hb : Below B w w') : RdI w' B a zs := by
  rcases h with h | ⟨b, o, e, hlt, hc⟩
  · exact .inl h
  · exact .inr ⟨b, o, e, hlt, fun j hj => (hb.cell (p := ⟨b, o + j, none⟩) hlt).trans (hc j hj)⟩

theorem RdI.mono {w : World} {B B' : Nat} {a : Option Addr} {zs : List Int} (h : RdI w B a zs) (hB : B ≤ B') : RdI w B' a zs := by
  rcases h with h | ⟨b, o, e, hlt, hc⟩
  · exact .inl h
  · exact .inr ⟨b, o, e, by omega, hc⟩

/-- The pieces of bytes from f on, cut at these places; none: it can't be cut there. -/
def cutAt (bs : List UInt8) : Nat → List Int → Option (List (List UInt8))
  | f, [] => some [bs.drop f]
  | f, t :: ts => if t < (f : Int) ∨ (bs.length : Int) < t then none else (cutAt bs t.toNat ts).map (((bs.drop f).take (t.toNat - f)) :: ·)

/-- What is left to do, k places being done. -/
def LeftCut (bs : List UInt8) (zs : List Int) (k f : Nat) (ps : List (List UInt8)) : Prop :=
  cutAt bs 0 zs = (cutAt bs f (zs.drop k)).map (ps ++ ·)

theorem leftCut_start (bs : List UInt8) (zs : List Int) : LeftCut bs zs 0 0 [] := by
  unfold LeftCut
  cases h : cutAt bs 0 zs <;> simp [h]

theorem drop_step {α : Type} (l : List α) (k : Nat) (h : k < l.length) : l.drop k = l[k] :: l.drop (k + 1) := List.drop_eq_getElem_cons h

theorem leftCut_no {bs : List UInt8} {zs : List Int} {k f : Nat} {ps : List (List UInt8)} (h : LeftCut bs zs k f ps) (hk : k < zs.length) (hbad : zs[k]?.getD 0 < (f : Int) ∨ (bs.length : Int) < zs[k]?.getD 0) : cutAt bs 0 zs = none := by
  unfold LeftCut at h
  rw [drop_step zs k hk] at h
  rw [List.getElem?_eq_getElem hk, Option.getD_some] at hbad
  rw [h, cutAt, if_pos hbad]
  rfl

theorem leftCut_step {bs : List UInt8} {zs : List Int} {k f t : Nat} {ps : List (List UInt8)} (h : LeftCut bs zs k f ps) (hk : k < zs.length) (ht : zs[k]?.getD 0 = (t : Int)) (h1 : f ≤ t) (h2 : t ≤ bs.length) :
    LeftCut bs zs (k + 1) t (ps ++ [(bs.drop f).take (t - f)]) := by
  unfold LeftCut at h ⊢
  rw [drop_step zs k hk] at h
  rw [List.getElem?_eq_getElem hk, Option.getD_some] at ht
  rw [h, cutAt, ht, if_neg (by omega), Int.toNat_natCast]
  cases cutAt bs t (zs.drop (k + 1)) <;> simp

theorem leftCut_end {bs : List UInt8} {zs : List Int} {f : Nat} {ps : List (List UInt8)} (h : LeftCut bs zs zs.length f ps) : cutAt bs 0 zs = some (ps ++ [bs.drop f]) := by
  unfold LeftCut at h
  rw [h, List.drop_length, cutAt]
  rfl

/-- What Split answers. -/
def SplitP (w : World) (bs : List UInt8) (zs : List Int) (e : Ending) (w' : World) : Prop :=
  ((cutAt bs 0 zs = none ∧ e = .returned (.tuple #[.slice none 0 0, .int .i64 4])) ∨
   ∃ ps v vs, cutAt bs 0 zs = some ps ∧ e = .returned (.tuple #[v, .int .i64 0]) ∧ OwnV w' w.heap.size 23 v vs ∧ Pcs w' w.heap.size w'.heap.size vs ps) ∧ Below w.heap.size w w'

theorem size_u8 (w : World) : (Go.sizeOf 5).run Try.prog w = .ok 1 w := by kernel_rfl

set_option maxRecDepth 100000 in
set_option maxHeartbeats 2000000 in
theorem split_any (a1 a2 : Option Addr) (c1 c2 : Nat) (bs : List UInt8) (zs : List Int) (w : World) (hlen : bs.length ≤ 140737488355328) (hlz : zs.length ≤ 1000000) (hr : RdB w w.heap.size a1 bs) (hz : RdI w w.heap.size a2 zs) :
    Calls Try.prog 22 #[.slice a1 bs.length c1, .slice a2 zs.length c2] w (SplitP w bs zs) := by
  have hmk := fun w : World => run_make0 (P := Try.prog) 22 23 (.slice none 0 0) 24 Try.underlying22 info_bytes rfl (zs.length + 1) (by omega) (by omega) w
  have ec : ((zs.length + 1 : Nat) : Int) = (zs.length : Int) + 1 := by omega
  rw [ec] at hmk
  clear ec
  have HC := Lib.hid (clone_any a1 c1 bs w hlen hr)
  clear hr
  go_enter Try.func22, Try.ntmps22
  go_wp2
  refine wp_scope_on 0 rfl ?_
  go_wp2_with fail
  refine HC.out.mono ?_
  rintro e w1 ⟨v, rfl, ho, hb1⟩
  obtain ⟨a, c, rfl, hc, hr, ha⟩ := ho.bytes
  clear ho
  go_wp2
  have hl0 := leftCut_start bs zs
  go_loopw [7, 8, 19] (fun f v i wr => ∃ (k fr : Nat) (vs : List Value) (ps : List (List UInt8)), k ≤ zs.length ∧ i = .int .i64 k ∧ f = .int .i64 fr ∧ fr ≤ bs.length ∧ OwnV wr w1.heap.size 23 v vs ∧ vs.length = k ∧
      Pcs wr w.heap.size w1.heap.size vs ps ∧ LeftCut bs zs k fr ps ∧ Below w1.heap.size w1 wr) (fun _ _ i _ => zs.length - (intOf i).toNat)
  case atStart =>
    exact ⟨0, 0, [], [], Nat.zero_le _, rfl, rfl, Nat.zero_le _, OwnV.made _ _ _ _ _ (Nat.le_refl _) (by simp [maxLen]; omega), rfl, Pcs.nil _ _ _, hl0, (Below.refl _ _).alloc (Nat.le_refl _) _⟩
  case round =>
    obtain ⟨k, fr, vs, ps, hk, rfl, rfl, hfr, hov, hvl, hpc, hlc, hbw⟩ := hrel
    clear hl0
    have HL := Lib.hid hlc
    clear hlc
    have HV := Lib.hid hvl
    clear hvl
    by_cases hlt : k < zs.length
    · have hzw := hz.below (hb1.trans (hbw.mono hb1.size))
      rcases hzw with rfl | ⟨g, o, rfl, hg, hcs⟩
      · simp at hlt
      have hcx := hcs k hlt
      clear hcs
      obtain ⟨t, ht⟩ : ∃ t, t = zs[k]?.getD 0 := ⟨_, rfl⟩
      rw [← ht] at hcx
      have HT := Lib.hid ht
      clear ht
      by_cases hlow : t < (fr : Int)
      · go_wp2
        go_step3
        refine ⟨rfl, ?_⟩
        show Code.wp _ _ _ _ _
        go_wp2
        rw [Exit.noGoto_ret]
        go_ret2
        exact ⟨.inl ⟨leftCut_no HL.out hlt (.inl (by rw [← HT.out]; exact hlow)), rfl⟩, hb1.trans (hbw.mono hb1.size)⟩
      · by_cases hhi : (bs.length : Int) < t
        · go_wp2
          go_step3
          refine ⟨rfl, ?_⟩
          show Code.wp _ _ _ _ _
          go_wp2
          rw [Exit.noGoto_ret]
          go_ret2
          exact ⟨.inl ⟨leftCut_no HL.out hlt (.inr (by rw [← HT.out]; exact hhi)), rfl⟩, hb1.trans (hbw.mono hb1.size)⟩
        · obtain ⟨u, rfl⟩ : ∃ u : Nat, t = (u : Int) := ⟨t.toNat, by omega⟩
          have hfu : fr ≤ u := by omega
          have hub : u ≤ bs.length := by omega
          have hsl := fun w : World => run_cut3 (P := Try.prog) 23 5 Try.underlying23 size_u8 a bs.length c fr u u hfu (Nat.le_refl _) (by omega) w
          have hov1 := hov.alloc (.cells #[.slice (subA a fr u) (u - fr) (u - fr)] 23)
          have hsrc : Src (wr.alloc (.cells #[.slice (subA a fr u) (u - fr) (u - fr)] 23)) (some ⟨wr.heap.size, 0, none⟩) [.slice (subA a fr u) (u - fr) (u - fr)] := src_one _ _ _
          have hL1 : Hid (vs.length + ([.slice (subA a fr u) (u - fr) (u - fr)] : List Value).length ≤ maxLen) := by
            have := HV.out
            simp [Hid, maxLen]
            omega
          have hL2 : Hid ((vs.length + ([.slice (subA a fr u) (u - fr) (u - fr)] : List Value).length) * 24 ≤ 140737488355328) := by
            have := HV.out
            simp [Hid]
            omega
          have hsz := hbw.size
          go_wp2_with (at_builtin; refine wpList_app _ rfl _ _ 22 rfl w1.heap.size 23 (.slice none 0 0) 24 Try.underlying22 info_bytes rfl _ _ rfl hov1 _ _ _ _ rfl rfl hsrc (by simp [Value.oneCell']) hL1.out hL2.out (by simp; omega) ?_; intro v' w2 hp)
          go_roundw
          case rel =>
            have hbx : Below w1.heap.size wr w2 := ((Below.refl _ _).alloc hsz _).trans (hp.below hov1 (by simp; omega))
            have hby := hbw.trans hbx
            have hpl : ((bs.drop fr).take (u - fr)).length = u - fr := by simp; omega
            refine ⟨k + 1, u, _, _, by omega, by go_num, rfl, hub, hp.1, by rw [List.length_append, HV.out]; rfl, (hpc.below hbx).snoc ⟨subA a fr u, u - fr, by rw [hpl], by rw [hpl]; exact Nat.le_refl _, (hr.below hby).cut fr u (u - fr) (by omega), ?_⟩, leftCut_step HL.out hlt HT.out.symm hfu hub, hby⟩
            intro q hq
            obtain ⟨p, hp', hpb⟩ := subA_block hq
            rw [hpb]
            exact ha p hp'
          case measure => simp [intOf]; omega
    · obtain rfl : k = zs.length := by omega
      have hsl := fun w : World => run_cut1 (P := Try.prog) 23 5 Try.underlying23 size_u8 a bs.length c fr hfr w
      have hov1 := hov.alloc (.cells #[.slice (subA a fr c) (bs.length - fr) (c - fr)] 23)
      have hsrc : Src (wr.alloc (.cells #[.slice (subA a fr c) (bs.length - fr) (c - fr)] 23)) (some ⟨wr.heap.size, 0, none⟩) [.slice (subA a fr c) (bs.length - fr) (c - fr)] := src_one _ _ _
      have hL1 : Hid (vs.length + ([.slice (subA a fr c) (bs.length - fr) (c - fr)] : List Value).length ≤ maxLen) := by
        have := HV.out
        simp [Hid, maxLen]
        omega
      have hL2 : Hid ((vs.length + ([.slice (subA a fr c) (bs.length - fr) (c - fr)] : List Value).length) * 24 ≤ 140737488355328) := by
        have := HV.out
        simp [Hid]
        omega
      have hsz := hbw.size
      go_wp2_with (at_builtin; refine wpList_app _ rfl _ _ 22 rfl w1.heap.size 23 (.slice none 0 0) 24 Try.underlying22 info_bytes rfl _ _ rfl hov1 _ _ _ _ rfl rfl hsrc (by simp [Value.oneCell']) hL1.out hL2.out (by simp; omega) ?_; intro v' w2 hp)
      simp only [Exit.jump]
      go_ret2
      have hbx : Below w1.heap.size wr w2 := ((Below.refl _ _).alloc hsz _).trans (hp.below hov1 (by simp; omega))
      have hby := hbw.trans hbx
      have hpl : (bs.drop fr).length = bs.length - fr := by simp
      refine ⟨.inr ⟨_, v', _, leftCut_end HL.out, rfl, hp.1.base hb1.size, ((hpc.below hbx).snoc ⟨subA a fr c, c - fr, by rw [hpl], by rw [hpl]; omega, ?_, ?_⟩).mono hby.size⟩, hb1.trans (hby.mono hb1.size)⟩
      · have := (hr.below hby).cut fr c (bs.length - fr) (by omega)
        rwa [List.take_of_length_le (by rw [hpl]; exact Nat.le_refl _)] at this
      · intro q hq
        obtain ⟨p, hp', hpb⟩ := subA_block hq
        rw [hpb]
        exact ha p hp'

end Go.Proofs.Ytjcfhkodfanbiaa
