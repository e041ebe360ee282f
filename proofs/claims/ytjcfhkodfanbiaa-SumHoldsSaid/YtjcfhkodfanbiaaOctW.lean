/- Package octet's Split once more: where the pieces lie. -/
import Derived.Test.YtjcfhkodfanbiaaOctV
namespace Go.Proofs.Ytjcfhkodfanbiaa
open Go.RowKit Go.Shelf

/-- The cells of a block of bytes: cap of them, the first L hold bytes. -/
def CloneB (w : World) (g cap L : Nat) : Prop :=
  (∀ j, j < cap → (w.cell? ⟨g, j, none⟩).isSome = true ∧ w.frozen? ⟨g, j, none⟩ = false) ∧ ∀ j, j < L → ∃ x, 0 ≤ x ∧ x < 256 ∧ w.cell? ⟨g, j, none⟩ = some (.int .u8 x)

/-- A cut of a slice at a, of length L and capacity c. -/
def PieceI (a : Option Addr) (c L : Nat) (v : Value) : Prop := ∃ l m n k, v = .slice (subA a l m) n k ∧ k = m - l ∧ n ≤ k ∧ l + n ≤ L ∧ l + k ≤ c

/-- A piece of the block g. -/
def PieceIn (g cap L : Nat) (v : Value) : Prop := ∃ A n k, v = .slice A n k ∧ n ≤ k ∧ (k = 0 ∨ ∃ o, A = some ⟨g, o, none⟩ ∧ o + n ≤ L ∧ o + k ≤ cap)

theorem pieceI_snoc {a : Option Addr} {c L : Nat} {vs : List Value} {v : Value} (h : ∀ j, j < vs.length → PieceI a c L (vs[j]?.getD undef)) (hv : PieceI a c L v) : ∀ j, j < (vs ++ [v]).length → PieceI a c L ((vs ++ [v])[j]?.getD undef) := by
  intro j hj
  simp at hj
  by_cases e : j < vs.length
  · rw [List.getElem?_append_left e]
    exact h j e
  · obtain rfl : j = vs.length := by omega
    rw [List.getElem?_append_right (Nat.le_refl _)]
    simpa using hv

/-- What is told of the row of pieces, and of the block that they lie in. -/
def RowL (w w' : World) (L : Nat) (v : Value) (vs : List Value) : Prop :=
  ∃ g cap, OwnV w' w.heap.size 23 v vs ∧ w.heap.size ≤ g ∧ v.ownBlock ≠ some g ∧ CloneB w' g cap L ∧ ∀ j, j < vs.length → PieceIn g cap L (vs[j]?.getD undef)

/-- What Split answers, and where it lies. -/
def SplitL (w : World) (bs : List UInt8) (zs : List Int) (e : Ending) (w' : World) : Prop :=
  ((cutAt bs 0 zs = none ∧ e = .returned (.tuple #[.slice none 0 0, .int .i64 4])) ∨
   ∃ ps v vs, cutAt bs 0 zs = some ps ∧ e = .returned (.tuple #[v, .int .i64 0]) ∧ RowL w w' bs.length v vs ∧ Pcs w' w.heap.size w'.heap.size vs ps) ∧ Below w.heap.size w w'

theorem CloneB.same {w w' : World} {g cap L : Nat} (h : CloneB w g cap L) (he : w'.heap[g]? = w.heap[g]?) : CloneB w' g cap L := by
  have e1 : ∀ j, w'.cell? ⟨g, j, none⟩ = w.cell? ⟨g, j, none⟩ := fun j => World.cell?_of_block (a := ⟨g, j, none⟩) he
  have e2 : ∀ j, w'.frozen? ⟨g, j, none⟩ = w.frozen? ⟨g, j, none⟩ := fun j => by simp only [World.frozen?, he]
  refine ⟨fun j hj => ?_, fun j hj => ?_⟩
  · rw [e1, e2]
    exact h.1 j hj
  · rw [e1]
    exact h.2 j hj

theorem clone_cells {w : World} {base L c : Nat} {a : Option Addr} {bs : List UInt8} (h : OwnV w base 5 (.slice a L c) (bs.map encB)) :
    (a = none ∧ c = 0 ∧ bs = []) ∨ ∃ g, a = some ⟨g, 0, none⟩ ∧ base ≤ g ∧ g < w.heap.size ∧ CloneB w g c bs.length := by
  rcases h.2 with ⟨hv, h0⟩ | ⟨g, cap, cur, hv, hb, hg, hn, hm, hs, ht⟩
  · injection hv with e1 e2 e3
    exact .inl ⟨e1, e3, List.eq_nil_of_length_eq_zero (by simpa using h0)⟩
  · injection hv with e1 e2 e3
    subst e1 e3
    refine .inr ⟨g, rfl, hb, (Array.getElem?_eq_some_iff.1 hg).1, fun j hj => ?_, fun j hj => ?_⟩
    · have h1 : w.cell? ⟨g, j, none⟩ = cur[j]? := by simp [World.cell?, hg]
      rw [h1, Array.getElem?_eq_getElem (by omega)]
      exact ⟨rfl, by simp [World.frozen?, hg]⟩
    · rcases h.form with ⟨hx, _⟩ | ⟨g2, cap2, hv2, _, _, _, _, hc, _⟩
      · cases hx
      · injection hv2 with e1 _ _
        simp only [Option.some.injEq, Addr.mk.injEq] at e1
        obtain ⟨rfl, _⟩ := e1
        refine ⟨byteAt bs j, byteAt_lo bs j, byteAt_hi bs j, ?_⟩
        rw [hc j (by simpa using hj), encB_at bs j hj]

theorem splitI_end {w w1 w2 : World} {c : Nat} {a : Option Addr} {bs : List UInt8} {v' : Value} {vs : List Value}
    (hcl : (a = none ∧ c = 0 ∧ bs = []) ∨ ∃ g, a = some ⟨g, 0, none⟩ ∧ w.heap.size ≤ g ∧ g < w1.heap.size ∧ CloneB w1 g c bs.length) (hp : OwnV w2 w1.heap.size 23 v' vs) (hs : w.heap.size ≤ w1.heap.size) (hby : Below w1.heap.size w1 w2)
    (hI : ∀ j, j < vs.length → PieceI a c bs.length (vs[j]?.getD undef)) : RowL w w2 bs.length v' vs := by
  rcases hcl with ⟨rfl, rfl, rfl⟩ | ⟨g, rfl, hg, hgl, hcb⟩
  · refine ⟨w2.heap.size, 0, hp.base hs, Nat.le_trans hs hby.size, fun e => ?_, ⟨fun j hj => absurd hj (Nat.not_lt_zero j), fun j hj => absurd hj (Nat.not_lt_zero j)⟩, fun j hj => ?_⟩
    · have := (hp.row _ e).2
      omega
    · obtain ⟨l, m, n, k, hv, h1, h2, h3, h4⟩ := hI j hj
      exact ⟨_, n, k, hv, h2, .inl (by omega)⟩
  · refine ⟨g, c, hp.base hs, hg, fun e => ?_, hcb.same (hby.block g hgl), fun j hj => ?_⟩
    · have := (hp.row _ e).1
      omega
    · obtain ⟨l, m, n, k, hv, h1, h2, h3, h4⟩ := hI j hj
      refine ⟨_, n, k, hv, h2, ?_⟩
      by_cases e : m = l
      · exact .inl (by omega)
      · refine .inr ⟨l, ?_, h3, h4⟩
        simp only [subA, if_neg e, Option.map_some, mk_addr_add]
        simp

set_option maxRecDepth 100000 in
set_option maxHeartbeats 2000000 in
theorem split_lies (a1 a2 : Option Addr) (c1 c2 : Nat) (bs : List UInt8) (zs : List Int) (w : World) (hlen : bs.length ≤ 140737488355328) (hlz : zs.length ≤ 1000000) (hr : RdB w w.heap.size a1 bs) (hz : RdI w w.heap.size a2 zs) :
    Calls Try.prog 22 #[.slice a1 bs.length c1, .slice a2 zs.length c2] w (SplitL w bs zs) := by
  have hmk := fun w : World => run_make0 (P := Try.prog) 22 23 (.slice none 0 0) 24 Try.underlying22 info_bytes rfl (zs.length + 1) (by omega) (by omega) w
  have ec : ((zs.length + 1 : Nat) : Int) = (zs.length : Int) + 1 := by omega
  rw [ec] at hmk
  clear ec
  have HC := Lib.hid (clone_any a1 c1 bs w hlen hr)
  clear hr
  go_enter Try.func22, Try.ntmps22
  go_wp2
  refine wp_scope_on 0 rfl ?_
  go_wp2_with fail
  refine HC.out.mono ?_
  rintro e w1 ⟨v, rfl, ho, hb1⟩
  obtain ⟨a, c, rfl, hc, hr, ha⟩ := ho.bytes
  have HO := Lib.hid ho
  clear ho
  go_wp2
  have hl0 := leftCut_start bs zs
  go_loopw [7, 8, 19] (fun f v i wr => ∃ (k fr : Nat) (vs : List Value) (ps : List (List UInt8)), k ≤ zs.length ∧ i = .int .i64 k ∧ f = .int .i64 fr ∧ fr ≤ bs.length ∧ OwnV wr w1.heap.size 23 v vs ∧ vs.length = k ∧
      Pcs wr w.heap.size w1.heap.size vs ps ∧ LeftCut bs zs k fr ps ∧ Below w1.heap.size w1 wr ∧ Hid (∀ j, j < vs.length → PieceI a c bs.length (vs[j]?.getD undef))) (fun _ _ i _ => zs.length - (intOf i).toNat)
  case atStart =>
    exact ⟨0, 0, [], [], Nat.zero_le _, rfl, rfl, Nat.zero_le _, OwnV.made _ _ _ _ _ (Nat.le_refl _) (by simp [maxLen]; omega), rfl, Pcs.nil _ _ _, hl0, (Below.refl _ _).alloc (Nat.le_refl _) _, fun j hj => absurd hj (Nat.not_lt_zero j)⟩
  case round =>
    obtain ⟨k, fr, vs, ps, hk, rfl, rfl, hfr, hov, hvl, hpc, hlc, hbw, HI⟩ := hrel
    clear hl0
    have HL := Lib.hid hlc
    clear hlc
    have HV := Lib.hid hvl
    clear hvl
    by_cases hlt : k < zs.length
    · have hzw := hz.below (hb1.trans (hbw.mono hb1.size))
      rcases hzw with rfl | ⟨g, o, rfl, hg, hcs⟩
      · simp at hlt
      have hcx := hcs k hlt
      clear hcs
      obtain ⟨t, ht⟩ : ∃ t, t = zs[k]?.getD 0 := ⟨_, rfl⟩
      rw [← ht] at hcx
      have HT := Lib.hid ht
      clear ht
      by_cases hlow : t < (fr : Int)
      · go_wp2
        go_step3
        refine ⟨rfl, ?_⟩
        show Code.wp _ _ _ _ _
        go_wp2
        rw [Exit.noGoto_ret]
        go_ret2
        exact ⟨.inl ⟨leftCut_no HL.out hlt (.inl (by rw [← HT.out]; exact hlow)), rfl⟩, hb1.trans (hbw.mono hb1.size)⟩
      · by_cases hhi : (bs.length : Int) < t
        · go_wp2
          go_step3
          refine ⟨rfl, ?_⟩
          show Code.wp _ _ _ _ _
          go_wp2
          rw [Exit.noGoto_ret]
          go_ret2
          exact ⟨.inl ⟨leftCut_no HL.out hlt (.inr (by rw [← HT.out]; exact hhi)), rfl⟩, hb1.trans (hbw.mono hb1.size)⟩
        · obtain ⟨u, rfl⟩ : ∃ u : Nat, t = (u : Int) := ⟨t.toNat, by omega⟩
          have hfu : fr ≤ u := by omega
          have hub : u ≤ bs.length := by omega
          have hsl := fun w : World => run_cut3 (P := Try.prog) 23 5 Try.underlying23 size_u8 a bs.length c fr u u hfu (Nat.le_refl _) (by omega) w
          have hov1 := hov.alloc (.cells #[.slice (subA a fr u) (u - fr) (u - fr)] 23)
          have hsrc : Src (wr.alloc (.cells #[.slice (subA a fr u) (u - fr) (u - fr)] 23)) (some ⟨wr.heap.size, 0, none⟩) [.slice (subA a fr u) (u - fr) (u - fr)] := src_one _ _ _
          have hL1 : Hid (vs.length + ([.slice (subA a fr u) (u - fr) (u - fr)] : List Value).length ≤ maxLen) := by
            have := HV.out
            simp [Hid, maxLen]
            omega
          have hL2 : Hid ((vs.length + ([.slice (subA a fr u) (u - fr) (u - fr)] : List Value).length) * 24 ≤ 140737488355328) := by
            have := HV.out
            simp [Hid]
            omega
          have hsz := hbw.size
          go_wp2_with (at_builtin; refine wpList_app _ rfl _ _ 22 rfl w1.heap.size 23 (.slice none 0 0) 24 Try.underlying22 info_bytes rfl _ _ rfl hov1 _ _ _ _ rfl rfl hsrc (by simp [Value.oneCell']) hL1.out hL2.out (by simp; omega) ?_; intro v' w2 hp)
          go_roundw
          case rel =>
            have hbx : Below w1.heap.size wr w2 := ((Below.refl _ _).alloc hsz _).trans (hp.below hov1 (by simp; omega))
            have hby := hbw.trans hbx
            have hpl : ((bs.drop fr).take (u - fr)).length = u - fr := by simp; omega
            refine ⟨k + 1, u, _, _, by omega, by go_num, rfl, hub, hp.1, by rw [List.length_append, HV.out]; rfl, (hpc.below hbx).snoc ⟨subA a fr u, u - fr, by rw [hpl], by rw [hpl]; exact Nat.le_refl _, (hr.below hby).cut fr u (u - fr) (by omega), ?_⟩, leftCut_step HL.out hlt HT.out.symm hfu hub, hby, pieceI_snoc HI.out ⟨fr, u, u - fr, u - fr, rfl, rfl, Nat.le_refl _, by omega, by omega⟩⟩
            intro q hq
            obtain ⟨p, hp', hpb⟩ := subA_block hq
            rw [hpb]
            exact ha p hp'
          case measure => simp [intOf]; omega
    · obtain rfl : k = zs.length := by omega
      have hsl := fun w : World => run_cut1 (P := Try.prog) 23 5 Try.underlying23 size_u8 a bs.length c fr hfr w
      have hov1 := hov.alloc (.cells #[.slice (subA a fr c) (bs.length - fr) (c - fr)] 23)
      have hsrc : Src (wr.alloc (.cells #[.slice (subA a fr c) (bs.length - fr) (c - fr)] 23)) (some ⟨wr.heap.size, 0, none⟩) [.slice (subA a fr c) (bs.length - fr) (c - fr)] := src_one _ _ _
      have hL1 : Hid (vs.length + ([.slice (subA a fr c) (bs.length - fr) (c - fr)] : List Value).length ≤ maxLen) := by
        have := HV.out
        simp [Hid, maxLen]
        omega
      have hL2 : Hid ((vs.length + ([.slice (subA a fr c) (bs.length - fr) (c - fr)] : List Value).length) * 24 ≤ 140737488355328) := by
        have := HV.out
        simp [Hid]
        omega
      have hsz := hbw.size
      go_wp2_with (at_builtin; refine wpList_app _ rfl _ _ 22 rfl w1.heap.size 23 (.slice none 0 0) 24 Try.underlying22 info_bytes rfl _ _ rfl hov1 _ _ _ _ rfl rfl hsrc (by simp [Value.oneCell']) hL1.out hL2.out (by simp; omega) ?_; intro v' w2 hp)
      simp only [Exit.jump]
      go_ret2
      have hbx : Below w1.heap.size wr w2 := ((Below.refl _ _).alloc hsz _).trans (hp.below hov1 (by simp; omega))
      have hby := hbw.trans hbx
      have hpl : (bs.drop fr).length = bs.length - fr := by simp
      have hcl := clone_cells HO.out
      have hpc' := ((hpc.below hbx).snoc (p := bs.drop fr) ⟨subA a fr c, c - fr, by rw [hpl], by rw [hpl]; omega, by
        have := (hr.below hby).cut fr c (bs.length - fr) (by omega)
        rwa [List.take_of_length_le (by rw [hpl]; exact Nat.le_refl _)] at this, by
        intro q hq
        obtain ⟨p, hp', hpb⟩ := subA_block hq
        rw [hpb]
        exact ha p hp'⟩).mono hby.size
      refine ⟨.inr ⟨_, v', _, leftCut_end HL.out, rfl, splitI_end hcl hp.1 hb1.size hby (pieceI_snoc HI.out ⟨fr, c, bs.length - fr, c - fr, rfl, rfl, by omega, by omega, by omega⟩), hpc'⟩, hb1.trans (hby.mono hb1.size)⟩

end Go.Proofs.Ytjcfhkodfanbiaa
