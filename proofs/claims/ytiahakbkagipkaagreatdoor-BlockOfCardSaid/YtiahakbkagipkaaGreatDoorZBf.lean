/- Joined texts. -/
import Derived.Test.YtiahakbkagipkaaGreatDoorZBe
set_option maxHeartbeats 16000000
set_option linter.unusedSimpArgs false
set_option linter.unusedVariables false
set_option maxRecDepth 100000
namespace Go.Proofs.YtiahakbkagipkaaGreatDoor
open Go Go.RowKit Go.Shelf

attribute [local go_sem] Oper.semAt_some

def StL (W wi : World) (P : Nat) (l : List Bl) : Prop := W.heap.size ≤ wi.heap.size ∧ ButL W.heap.size P W wi ∧ ∃ v, wi.cell? ⟨P, 0, none⟩ = some v ∧ wi.frozen? ⟨P, 0, none⟩ = false ∧ LsB W wi v l

theorem badd_st {W wi w1 : World} {P K : Nat} {l : List Bl} {b : Bl} {v : Value} {k : Int} (hs : StL W wi P l) (hPW : P < W.heap.size) (hb : Below wi.heap.size wi w1) (hat : BkAt wi w1 b v) (hK : w1.cell? ⟨K, 0, none⟩ = some (.int .i64 k)) (hlen : l.length ≤ 1000) :
  Calls Tryz.prog 71 #[v, .pointer (some ⟨P, 0, none⟩), .pointer (some ⟨K, 0, none⟩)] w1 fun e w' => e = .returned (.tuple #[]) ∧ StL W w' P (l ++ [⟨b.t, 2 + l.length, k, b.d⟩]) := by
 obtain ⟨h0, hbl, u, hP, hf, hl⟩ := hs
 obtain ⟨a, c, rfl, hc, hc47, hr⟩ := hat
 have hPi : P < wi.heap.size := Nat.lt_of_lt_of_le hPW h0
 refine (badd_any P K ⟨b, a, c⟩ W w1 u l k ((hb.cell (p := ⟨P, 0, none⟩) hPi).trans hP) ((hb.frozen (p := ⟨P, 0, none⟩) hPi).trans hf) hPW hK (Nat.le_trans h0 hb.size) (hl.on hb.size fun j _ hj => hb.block j hj) ⟨hc, hc47, hr.more fun j hj => ⟨⟨Nat.le_trans h0 hj.1, hj.2⟩, fun e => by have := (hl.own j e).2; have := hj.1; omega⟩⟩ hlen).mono ?_
 rintro e w' ⟨rfl, v', h1, h2, h3, h4⟩
 exact ⟨rfl, Nat.le_trans (Nat.le_trans h0 hb.size) h4.size, (hbl.trans (ButL.of_below (hb.mono h0) hb.size)).trans h4, v', h1, h2, h3⟩

theorem LsB.low {w0 w1 w : World} {v : Value} {l : List Bl} (h : LsB w1 w v l) (h0 : w0.heap.size ≤ w1.heap.size) : LsB w0 w v l := by
 obtain ⟨xs, hl, ho, hx⟩ := h
 refine ⟨xs, hl, ⟨ho.1, ?_⟩, fun x q => ⟨(hx x q).1, (hx x q).2.1, (hx x q).2.2.more fun j hj => ⟨⟨Nat.le_trans h0 hj.1.1, hj.1.2⟩, hj.2⟩⟩⟩
 rcases ho.2 with hn | ⟨g, cap, cur, rfl, hb, hg, rest⟩
 ·exact .inl hn
 ·exact .inr ⟨g, cap, cur, rfl, Nat.le_trans h0 hb, hg, rest⟩

structure Ex.fit (x : Ex) : Prop where
 n : x.n ≤ 4294967295
 m : x.m ≤ 4294967295
 g : x.g < 18446744073709551616
 l : x.l ≤ 255
 c : x.c ≤ 255
 xs : x.xs.length ≤ 800000

def addE (t : Nat) (r : Except Int It) (k : Int) (l : List Bl) : Except Int (List Bl) := match r with
 | .error c => .error c
 | .ok x => .ok (l ++ [⟨t, 2 + l.length, k, dataO x⟩])
def noEnd (n m : Nat) : Bool := decide (n = 0) && decide (m = 0)
def blocksE (x : Ex) (k : Int) : Except Int (List Bl) :=
 match (if noEnd x.n x.m = true then .ok [] else addE 6 (endR x.n x.m) k []) with
 | .error c => .error c
 | .ok l => match addE 7 (ageR x.g) k l with
  | .error c => .error c
  | .ok l => match addE 10 (hopR x.l x.c) k l with
   | .error c => .error c
   | .ok l => addE 200 (pathR x.b x.xs) k l

theorem endR_depth (n m : Nat) : ∀ y, endR n m = .ok y → y.depth ≤ 60000 := by
 intro y h
 unfold endR at h
 split at h
 ·cases h
 ·injection h with h
  subst h
  have : (itE n m).depth ≤ 60000 := by
   unfold itE
   split <;> simp [itLs, itU, It.depth, It.depth.depthL]
  exact this
theorem ageR_depth (g : Nat) : ∀ y, ageR g = .ok y → y.depth ≤ 60000 := by
 intro y h
 unfold ageR at h
 split at h
 ·injection h with h
  subst h
  simp [itU, It.depth, It.depth.depthL]
 ·cases h
theorem hopR_depth (p q : Nat) : ∀ y, hopR p q = .ok y → y.depth ≤ 60000 := by
 intro y h
 injection h with h
 subst h
 simp [itLs, itU, It.depth, It.depth.depthL]
theorem pathR_depth (bk : Bool) (xs : List Cr) : ∀ y, pathR bk xs = .ok y → y.depth ≤ 60000 := by
 intro y h
 unfold pathR at h
 split at h
 ·injection h with h
  subst h
  exact itP_depth _ _
 ·cases h

def BlsR (w : World) (r : Except Int (List Bl)) (e : Ending) (w' : World) : Prop :=
 Below w.heap.size w w' ∧ match r with
  | .ok l => ∃ v, e = .returned v ∧ LsB w w' v l
  | .error c => e = gives c

theorem blocks_any (x : Ex) (A : Option Addr) (C : Nat) (k : Int) (hx : x.fit) (w : World) (hr : RdX w w.heap.size A x.xs) (hC : x.xs.length ≤ C) (ht : TabW w) :
  Calls Tryz.prog 34 #[.agg #[.int .u32 x.n, .int .u32 x.m, .int .u64 x.g, .int .u8 x.l, .int .u8 x.c, .bool x.b, .slice A x.xs.length C], .int .i64 k] w (BlsR w (blocksE x k)) := by
 obtain ⟨n, m, g, p, q, bk, xs⟩ := x
 simp only at hr hC ⊢
 obtain ⟨W, hW⟩ : ∃ W, W = ((w.alloc (.cells #[.int .u32 n, .int .u32 m, .int .u64 g, .int .u8 p, .int .u8 q, .bool bk, .slice A xs.length C] 46)).alloc (.cells #[.int .i64 k] 23)).alloc (.cells #[.slice none 0 0] 47) := ⟨_, rfl⟩
 have HB0 : Hid (Below w.heap.size w W) := by rw [hW]; exact below_al (below_al (below_al bR _) _) _
 have hsW : W.heap.size = w.heap.size + 3 := by rw [hW]; simp
 have hE : RowB W w.heap.size [.int .u32 n, .int .u32 m, .int .u64 g, .int .u8 p, .int .u8 q, .bool bk, .slice A xs.length C] := by
  have h := ((RowB.new w [.int .u32 n, .int .u32 m, .int .u64 g, .int .u8 p, .int .u8 q, .bool bk, .slice A xs.length C] 46).on (below_al bR (.cells #[.int .i64 k] 23)) (by simp)).on (below_al bR (.cells #[.slice none 0 0] 47)) (by simp; omega)
  rw [hW]
  exact h
 have hK : RowB W (w.heap.size + 1) [.int .i64 k] := by
  have h := (RowB.new (w.alloc (.cells #[.int .u32 n, .int .u32 m, .int .u64 g, .int .u8 p, .int .u8 q, .bool bk, .slice A xs.length C] 46)) [.int .i64 k] 23).on (below_al bR (.cells #[.slice none 0 0] 47)) (by simp)
  rw [hW]
  simpa only [World.size_alloc] using h
 have hP : RowB W (w.heap.size + 1 + 1) [.slice none 0 0] := by
  have h := RowB.new ((w.alloc (.cells #[.int .u32 n, .int .u32 m, .int .u64 g, .int .u8 p, .int .u8 q, .bool bk, .slice A xs.length C] 46)).alloc (.cells #[.int .i64 k] 23)) [.slice none 0 0] 47
  rw [hW]
  simpa only [World.size_alloc] using h
 have HSt0 : Hid (StL W W (w.heap.size + 1 + 1) []) := ⟨Nat.le_refl _, ButL.refl _ _ _, _, hP.1 0 _ rfl, hP.2 0, LsB.nil _ _⟩
 have HF : Hid (∀ w', ButL W.heap.size (w.heap.size + 1 + 1) W w' → Below w.heap.size w w') := fun w' h => HB0.out.trans (h.below (by omega) (by omega))
 have HX : Hid (∀ w', ButL W.heap.size (w.heap.size + 1 + 1) W w' → (w'.cell? ⟨w.heap.size, 0, none⟩ = some (.int .u32 n) ∧ w'.cell? ⟨w.heap.size, 1, none⟩ = some (.int .u32 m) ∧ w'.cell? ⟨w.heap.size, 2, none⟩ = some (.int .u64 g) ∧ w'.cell? ⟨w.heap.size, 3, none⟩ = some (.int .u8 p) ∧ w'.cell? ⟨w.heap.size, 4, none⟩ = some (.int .u8 q) ∧ w'.cell? ⟨w.heap.size, 5, none⟩ = some (.bool bk) ∧ w'.cell? ⟨w.heap.size, 6, none⟩ = some (.slice A xs.length C))) := fun w' h => ⟨(h.cell (by omega) (by omega)).trans (hE.1 0 _ rfl), (h.cell (by omega) (by omega)).trans (hE.1 1 _ rfl), (h.cell (by omega) (by omega)).trans (hE.1 2 _ rfl), (h.cell (by omega) (by omega)).trans (hE.1 3 _ rfl), (h.cell (by omega) (by omega)).trans (hE.1 4 _ rfl), (h.cell (by omega) (by omega)).trans (hE.1 5 _ rfl), (h.cell (by omega) (by omega)).trans (hE.1 6 _ rfl)⟩
 have HK : Hid (∀ w', ButL W.heap.size (w.heap.size + 1 + 1) W w' → w'.cell? ⟨w.heap.size + 1, 0, none⟩ = some (.int .i64 k)) := fun w' h => (h.cell (by omega) (by omega)).trans (hK.1 0 _ rfl)
 have HT : Hid (∀ w', Below w.heap.size w w' → TabW w') := fun w' h => ht.on h
 have HRx : Hid (∀ w', Below w.heap.size w w' → RdX w' w'.heap.size A xs) := fun w' h => hr.on h
 have HSW := h_ hsW
 have HW := h_ hW
 have HFit := h_ hx
 have HBl : Hid (blocksE ⟨n, m, g, p, q, bk, xs⟩ k = match (if noEnd n m = true then .ok [] else addE 6 (endR n m) k []) with
  | .error c => .error c
  | .ok l => match addE 7 (ageR g) k l with
   | .error c => .error c
   | .ok l => match addE 10 (hopR p q) k l with
    | .error c => .error c
    | .ok l => addE 200 (pathR bk xs) k l) := rfl
 have HNo : Hid (noEnd n m = (decide (n = 0) && decide (m = 0))) := rfl
 obtain ⟨x0, x1, x2, x3, x4, x5, x6⟩ := HX.out W (ButL.refl _ _ _)
 rw [HW.out] at x0 x1 x2 x3 x4 x5 x6
 clear hW hsW hE hK hP hx hr ht
 have HC := h_ hC
 clear hC
 by_cases h1 : n = 0 ∧ m = 0
 ·obtain ⟨rfl, rfl⟩ := h1
  have hz : ((0 : Nat) : Int) = 0 := rfl
  have hw0 := HW.out
  rw [hz] at hw0
  replace HW := h_ hw0
  clear hz hw0
  have HL0 : Hid ((if noEnd 0 0 = true then Except.ok [] else addE 6 (endR 0 0) k []) = (Except.ok [] : Except Int (List Bl))) := rfl
  go_enter Tryz.func34, Tryz.ntmps34
  go_wp2_with fail
  clear x0 x1 x2 x3 x4 x5 x6
  rw [← HW.out]
  refine (madeU_any g 7 (ageR g) W (HT.out W (HF.out W HSt0.out.2.1)) (ageR_depth g) (fun w' hb => ageO_any g HFit.out.g w')).mono ?_
  rintro e v1 ⟨hb, hm⟩
  have hf1 := below_on (HF.out W HSt0.out.2.1) hb
  have hbl := HSt0.out.2.1.trans (ButL.of_below (hb.mono HSt0.out.1) hb.size)
  cases hr : ageR g with
  | error c =>
   have h := HBl.out
   rw [HL0.out] at h
   simp only [hr, addE] at h
   have HD := h_ h
   rw [hr] at hm
   have hm : e = gives c := hm
   subst hm
   rw [gives_def]
   have HFi := h_ hf1
   clear hb hf1 hbl hr h
   go_wp2_with fail
   refine ⟨by first | trivial | rfl, HFi.out, ?_⟩
   rw [HD.out]
   rfl
  | ok y1 =>
   have h := HBl.out
   rw [HL0.out] at h
   simp only [hr, addE] at h
   replace HBl := h_ h
   rw [hr] at hm
   obtain ⟨u1, rfl, hat⟩ := hm
   have HAdd := h_ (badd_st HSt0.out (by have := HSW.out; omega) hb hat (HK.out v1 hbl) (by simp))
   obtain ⟨a1, c1, rfl, _⟩ := hat
   clear hb hf1 hbl hr h
   go_wp2_with fail
   refine HAdd.out.mono ?_
   rintro e w1 ⟨rfl, hs⟩
   have HS1 := h_ hs
   obtain ⟨x0, x1, x2, x3, x4, x5, x6⟩ := HX.out w1 hs.2.1
   clear hs HAdd
   go_wp2_with fail
   clear x0 x1 x2 x3 x4 x5 x6
   refine (madeH_any p q 10 (hopR p q) w1 (HT.out w1 (HF.out w1 HS1.out.2.1)) (hopR_depth p q) (fun w' hb => hopO_any p q HFit.out.l HFit.out.c w')).mono ?_
   rintro e v2 ⟨hb, hm⟩
   have hf2 := below_on (HF.out w1 HS1.out.2.1) hb
   have hbl := HS1.out.2.1.trans (ButL.of_below (hb.mono HS1.out.1) hb.size)
   cases hr : hopR p q with
   | error c =>
    have h := HBl.out
    simp only [hr, addE] at h
    have HD := h_ h
    rw [hr] at hm
    have hm : e = gives c := hm
    subst hm
    rw [gives_def]
    have HFi := h_ hf2
    clear hb hf2 hbl hr h
    go_wp2_with fail
    refine ⟨by first | trivial | rfl, HFi.out, ?_⟩
    rw [HD.out]
    rfl
   | ok y2 =>
    have h := HBl.out
    simp only [hr, addE] at h
    replace HBl := h_ h
    rw [hr] at hm
    obtain ⟨u2, rfl, hat⟩ := hm
    have HAdd := h_ (badd_st HS1.out (by have := HSW.out; omega) hb hat (HK.out v2 hbl) (by simp))
    obtain ⟨a2, c2, rfl, _⟩ := hat
    clear hb hf2 hbl hr h
    go_wp2_with fail
    refine HAdd.out.mono ?_
    rintro e w2 ⟨rfl, hs⟩
    have HS2 := h_ hs
    obtain ⟨x0, x1, x2, x3, x4, x5, x6⟩ := HX.out w2 hs.2.1
    clear hs HAdd
    go_wp2_with fail
    clear x0 x1 x2 x3 x4 x5 x6
    refine (madeP_any bk A xs.length C 200 (pathR bk xs) w2 (HT.out w2 (HF.out w2 HS2.out.2.1)) (pathR_depth bk xs) (fun w' hb => pathO_any bk A C xs w' HFit.out.xs (HRx.out w' (below_on (HF.out w2 HS2.out.2.1) hb)))).mono ?_
    rintro e v3 ⟨hb, hm⟩
    have hf3 := below_on (HF.out w2 HS2.out.2.1) hb
    have hbl := HS2.out.2.1.trans (ButL.of_below (hb.mono HS2.out.1) hb.size)
    cases hr : pathR bk xs with
    | error c =>
     have h := HBl.out
     simp only [hr, addE] at h
     have HD := h_ h
     rw [hr] at hm
     have hm : e = gives c := hm
     subst hm
     rw [gives_def]
     have HFi := h_ hf3
     clear hb hf3 hbl hr h
     go_wp2_with fail
     refine ⟨by first | trivial | rfl, HFi.out, ?_⟩
     rw [HD.out]
     rfl
    | ok y3 =>
     have h := HBl.out
     simp only [hr, addE] at h
     replace HBl := h_ h
     rw [hr] at hm
     obtain ⟨u3, rfl, hat⟩ := hm
     have HAdd := h_ (badd_st HS2.out (by have := HSW.out; omega) hb hat (HK.out v3 hbl) (by simp))
     obtain ⟨a3, c3, rfl, _⟩ := hat
     clear hb hf3 hbl hr h
     go_wp2_with fail
     refine HAdd.out.mono ?_
     rintro e w3 ⟨rfl, hs⟩
     have HS3 := h_ hs
     obtain ⟨_, hbl, v, hPc, _, hls⟩ := hs
     obtain ⟨A9, C9, rfl, _⟩ := hls.slice
     have HFi := h_ (HF.out w3 hbl)
     have HLs := h_ (hls.low HB0.out.size)
     clear HAdd hbl hls
     go_wp2_with fail
     go_ret
     refine ⟨HFi.out, ?_⟩
     rw [HBl.out]
     exact ⟨_, rfl, HLs.out⟩
 have HL0 : Hid ((if noEnd n m = true then Except.ok [] else addE 6 (endR n m) k []) = addE 6 (endR n m) k []) := by
  rw [Hid, if_neg]
  intro h
  simp [noEnd] at h
  exact h1 h
 by_cases h2 : n = 0
 ·subst h2
  have h3 : ¬ m = 0 := fun h => h1 ⟨rfl, h⟩
  have hz : ((0 : Nat) : Int) = 0 := rfl
  have hw0 := HW.out
  rw [hz] at hw0
  replace HW := h_ hw0
  clear h1 hz hw0
  go_enter Tryz.func34, Tryz.ntmps34
  go_wp2_with fail
  clear x0 x1 x2 x3 x4 x5 x6
  rw [← HW.out]
  refine (madeE_any 0 m 6 (endR 0 m) W (HT.out W (HF.out W HSt0.out.2.1)) (endR_depth 0 m) (fun w' hb => endO_any 0 m HFit.out.n HFit.out.m w')).mono ?_
  rintro e v1 ⟨hb, hm⟩
  have hf1 := below_on (HF.out W HSt0.out.2.1) hb
  have hbl := HSt0.out.2.1.trans (ButL.of_below (hb.mono HSt0.out.1) hb.size)
  cases hr : endR 0 m with
  | error c =>
   have h := HBl.out
   rw [HL0.out] at h
   simp only [hr, addE] at h
   have HD := h_ h
   rw [hr] at hm
   have hm : e = gives c := hm
   subst hm
   rw [gives_def]
   have HFi := h_ hf1
   clear hb hf1 hbl hr h
   go_wp2_with fail
   refine ⟨by first | trivial | rfl, HFi.out, ?_⟩
   rw [HD.out]
   rfl
  | ok y1 =>
   have h := HBl.out
   rw [HL0.out] at h
   simp only [hr, addE] at h
   replace HBl := h_ h
   rw [hr] at hm
   obtain ⟨u1, rfl, hat⟩ := hm
   have HAdd := h_ (badd_st HSt0.out (by have := HSW.out; omega) hb hat (HK.out v1 hbl) (by simp))
   obtain ⟨a1, c1, rfl, _⟩ := hat
   clear hb hf1 hbl hr h
   go_wp2_with fail
   refine HAdd.out.mono ?_
   rintro e w1 ⟨rfl, hs⟩
   have HS1 := h_ hs
   obtain ⟨x0, x1, x2, x3, x4, x5, x6⟩ := HX.out w1 hs.2.1
   clear hs HAdd
   go_wp2_with fail
   clear x0 x1 x2 x3 x4 x5 x6
   refine (madeU_any g 7 (ageR g) w1 (HT.out w1 (HF.out w1 HS1.out.2.1)) (ageR_depth g) (fun w' hb => ageO_any g HFit.out.g w')).mono ?_
   rintro e v2 ⟨hb, hm⟩
   have hf2 := below_on (HF.out w1 HS1.out.2.1) hb
   have hbl := HS1.out.2.1.trans (ButL.of_below (hb.mono HS1.out.1) hb.size)
   cases hr : ageR g with
   | error c =>
    have h := HBl.out
    simp only [hr, addE] at h
    have HD := h_ h
    rw [hr] at hm
    have hm : e = gives c := hm
    subst hm
    rw [gives_def]
    have HFi := h_ hf2
    clear hb hf2 hbl hr h
    go_wp2_with fail
    refine ⟨by first | trivial | rfl, HFi.out, ?_⟩
    rw [HD.out]
    rfl
   | ok y2 =>
    have h := HBl.out
    simp only [hr, addE] at h
    replace HBl := h_ h
    rw [hr] at hm
    obtain ⟨u2, rfl, hat⟩ := hm
    have HAdd := h_ (badd_st HS1.out (by have := HSW.out; omega) hb hat (HK.out v2 hbl) (by simp))
    obtain ⟨a2, c2, rfl, _⟩ := hat
    clear hb hf2 hbl hr h
    go_wp2_with fail
    refine HAdd.out.mono ?_
    rintro e w2 ⟨rfl, hs⟩
    have HS2 := h_ hs
    obtain ⟨x0, x1, x2, x3, x4, x5, x6⟩ := HX.out w2 hs.2.1
    clear hs HAdd
    go_wp2_with fail
    clear x0 x1 x2 x3 x4 x5 x6
    refine (madeH_any p q 10 (hopR p q) w2 (HT.out w2 (HF.out w2 HS2.out.2.1)) (hopR_depth p q) (fun w' hb => hopO_any p q HFit.out.l HFit.out.c w')).mono ?_
    rintro e v3 ⟨hb, hm⟩
    have hf3 := below_on (HF.out w2 HS2.out.2.1) hb
    have hbl := HS2.out.2.1.trans (ButL.of_below (hb.mono HS2.out.1) hb.size)
    cases hr : hopR p q with
    | error c =>
     have h := HBl.out
     simp only [hr, addE] at h
     have HD := h_ h
     rw [hr] at hm
     have hm : e = gives c := hm
     subst hm
     rw [gives_def]
     have HFi := h_ hf3
     clear hb hf3 hbl hr h
     go_wp2_with fail
     refine ⟨by first | trivial | rfl, HFi.out, ?_⟩
     rw [HD.out]
     rfl
    | ok y3 =>
     have h := HBl.out
     simp only [hr, addE] at h
     replace HBl := h_ h
     rw [hr] at hm
     obtain ⟨u3, rfl, hat⟩ := hm
     have HAdd := h_ (badd_st HS2.out (by have := HSW.out; omega) hb hat (HK.out v3 hbl) (by simp))
     obtain ⟨a3, c3, rfl, _⟩ := hat
     clear hb hf3 hbl hr h
     go_wp2_with fail
     refine HAdd.out.mono ?_
     rintro e w3 ⟨rfl, hs⟩
     have HS3 := h_ hs
     obtain ⟨x0, x1, x2, x3, x4, x5, x6⟩ := HX.out w3 hs.2.1
     clear hs HAdd
     go_wp2_with fail
     clear x0 x1 x2 x3 x4 x5 x6
     refine (madeP_any bk A xs.length C 200 (pathR bk xs) w3 (HT.out w3 (HF.out w3 HS3.out.2.1)) (pathR_depth bk xs) (fun w' hb => pathO_any bk A C xs w' HFit.out.xs (HRx.out w' (below_on (HF.out w3 HS3.out.2.1) hb)))).mono ?_
     rintro e v4 ⟨hb, hm⟩
     have hf4 := below_on (HF.out w3 HS3.out.2.1) hb
     have hbl := HS3.out.2.1.trans (ButL.of_below (hb.mono HS3.out.1) hb.size)
     cases hr : pathR bk xs with
     | error c =>
      have h := HBl.out
      simp only [hr, addE] at h
      have HD := h_ h
      rw [hr] at hm
      have hm : e = gives c := hm
      subst hm
      rw [gives_def]
      have HFi := h_ hf4
      clear hb hf4 hbl hr h
      go_wp2_with fail
      refine ⟨by first | trivial | rfl, HFi.out, ?_⟩
      rw [HD.out]
      rfl
     | ok y4 =>
      have h := HBl.out
      simp only [hr, addE] at h
      replace HBl := h_ h
      rw [hr] at hm
      obtain ⟨u4, rfl, hat⟩ := hm
      have HAdd := h_ (badd_st HS3.out (by have := HSW.out; omega) hb hat (HK.out v4 hbl) (by simp))
      obtain ⟨a4, c4, rfl, _⟩ := hat
      clear hb hf4 hbl hr h
      go_wp2_with fail
      refine HAdd.out.mono ?_
      rintro e w4 ⟨rfl, hs⟩
      have HS4 := h_ hs
      obtain ⟨_, hbl, v, hPc, _, hls⟩ := hs
      obtain ⟨A9, C9, rfl, _⟩ := hls.slice
      have HFi := h_ (HF.out w4 hbl)
      have HLs := h_ (hls.low HB0.out.size)
      clear HAdd hbl hls
      go_wp2_with fail
      go_ret
      refine ⟨HFi.out, ?_⟩
      rw [HBl.out]
      exact ⟨_, rfl, HLs.out⟩
 clear h1
 go_enter Tryz.func34, Tryz.ntmps34
 go_wp2_with fail
 clear x0 x1 x2 x3 x4 x5 x6
 rw [← HW.out]
 refine (madeE_any n m 6 (endR n m) W (HT.out W (HF.out W HSt0.out.2.1)) (endR_depth n m) (fun w' hb => endO_any n m HFit.out.n HFit.out.m w')).mono ?_
 rintro e v1 ⟨hb, hm⟩
 have hf1 := below_on (HF.out W HSt0.out.2.1) hb
 have hbl := HSt0.out.2.1.trans (ButL.of_below (hb.mono HSt0.out.1) hb.size)
 cases hr : endR n m with
 | error c =>
  have h := HBl.out
  rw [HL0.out] at h
  simp only [hr, addE] at h
  have HD := h_ h
  rw [hr] at hm
  have hm : e = gives c := hm
  subst hm
  rw [gives_def]
  have HFi := h_ hf1
  clear hb hf1 hbl hr h
  go_wp2_with fail
  refine ⟨by first | trivial | rfl, HFi.out, ?_⟩
  rw [HD.out]
  rfl
 | ok y1 =>
  have h := HBl.out
  rw [HL0.out] at h
  simp only [hr, addE] at h
  replace HBl := h_ h
  rw [hr] at hm
  obtain ⟨u1, rfl, hat⟩ := hm
  have HAdd := h_ (badd_st HSt0.out (by have := HSW.out; omega) hb hat (HK.out v1 hbl) (by simp))
  obtain ⟨a1, c1, rfl, _⟩ := hat
  clear hb hf1 hbl hr h
  go_wp2_with fail
  refine HAdd.out.mono ?_
  rintro e w1 ⟨rfl, hs⟩
  have HS1 := h_ hs
  obtain ⟨x0, x1, x2, x3, x4, x5, x6⟩ := HX.out w1 hs.2.1
  clear hs HAdd
  go_wp2_with fail
  clear x0 x1 x2 x3 x4 x5 x6
  refine (madeU_any g 7 (ageR g) w1 (HT.out w1 (HF.out w1 HS1.out.2.1)) (ageR_depth g) (fun w' hb => ageO_any g HFit.out.g w')).mono ?_
  rintro e v2 ⟨hb, hm⟩
  have hf2 := below_on (HF.out w1 HS1.out.2.1) hb
  have hbl := HS1.out.2.1.trans (ButL.of_below (hb.mono HS1.out.1) hb.size)
  cases hr : ageR g with
  | error c =>
   have h := HBl.out
   simp only [hr, addE] at h
   have HD := h_ h
   rw [hr] at hm
   have hm : e = gives c := hm
   subst hm
   rw [gives_def]
   have HFi := h_ hf2
   clear hb hf2 hbl hr h
   go_wp2_with fail
   refine ⟨by first | trivial | rfl, HFi.out, ?_⟩
   rw [HD.out]
   rfl
  | ok y2 =>
   have h := HBl.out
   simp only [hr, addE] at h
   replace HBl := h_ h
   rw [hr] at hm
   obtain ⟨u2, rfl, hat⟩ := hm
   have HAdd := h_ (badd_st HS1.out (by have := HSW.out; omega) hb hat (HK.out v2 hbl) (by simp))
   obtain ⟨a2, c2, rfl, _⟩ := hat
   clear hb hf2 hbl hr h
   go_wp2_with fail
   refine HAdd.out.mono ?_
   rintro e w2 ⟨rfl, hs⟩
   have HS2 := h_ hs
   obtain ⟨x0, x1, x2, x3, x4, x5, x6⟩ := HX.out w2 hs.2.1
   clear hs HAdd
   go_wp2_with fail
   clear x0 x1 x2 x3 x4 x5 x6
   refine (madeH_any p q 10 (hopR p q) w2 (HT.out w2 (HF.out w2 HS2.out.2.1)) (hopR_depth p q) (fun w' hb => hopO_any p q HFit.out.l HFit.out.c w')).mono ?_
   rintro e v3 ⟨hb, hm⟩
   have hf3 := below_on (HF.out w2 HS2.out.2.1) hb
   have hbl := HS2.out.2.1.trans (ButL.of_below (hb.mono HS2.out.1) hb.size)
   cases hr : hopR p q with
   | error c =>
    have h := HBl.out
    simp only [hr, addE] at h
    have HD := h_ h
    rw [hr] at hm
    have hm : e = gives c := hm
    subst hm
    rw [gives_def]
    have HFi := h_ hf3
    clear hb hf3 hbl hr h
    go_wp2_with fail
    refine ⟨by first | trivial | rfl, HFi.out, ?_⟩
    rw [HD.out]
    rfl
   | ok y3 =>
    have h := HBl.out
    simp only [hr, addE] at h
    replace HBl := h_ h
    rw [hr] at hm
    obtain ⟨u3, rfl, hat⟩ := hm
    have HAdd := h_ (badd_st HS2.out (by have := HSW.out; omega) hb hat (HK.out v3 hbl) (by simp))
    obtain ⟨a3, c3, rfl, _⟩ := hat
    clear hb hf3 hbl hr h
    go_wp2_with fail
    refine HAdd.out.mono ?_
    rintro e w3 ⟨rfl, hs⟩
    have HS3 := h_ hs
    obtain ⟨x0, x1, x2, x3, x4, x5, x6⟩ := HX.out w3 hs.2.1
    clear hs HAdd
    go_wp2_with fail
    clear x0 x1 x2 x3 x4 x5 x6
    refine (madeP_any bk A xs.length C 200 (pathR bk xs) w3 (HT.out w3 (HF.out w3 HS3.out.2.1)) (pathR_depth bk xs) (fun w' hb => pathO_any bk A C xs w' HFit.out.xs (HRx.out w' (below_on (HF.out w3 HS3.out.2.1) hb)))).mono ?_
    rintro e v4 ⟨hb, hm⟩
    have hf4 := below_on (HF.out w3 HS3.out.2.1) hb
    have hbl := HS3.out.2.1.trans (ButL.of_below (hb.mono HS3.out.1) hb.size)
    cases hr : pathR bk xs with
    | error c =>
     have h := HBl.out
     simp only [hr, addE] at h
     have HD := h_ h
     rw [hr] at hm
     have hm : e = gives c := hm
     subst hm
     rw [gives_def]
     have HFi := h_ hf4
     clear hb hf4 hbl hr h
     go_wp2_with fail
     refine ⟨by first | trivial | rfl, HFi.out, ?_⟩
     rw [HD.out]
     rfl
    | ok y4 =>
     have h := HBl.out
     simp only [hr, addE] at h
     replace HBl := h_ h
     rw [hr] at hm
     obtain ⟨u4, rfl, hat⟩ := hm
     have HAdd := h_ (badd_st HS3.out (by have := HSW.out; omega) hb hat (HK.out v4 hbl) (by simp))
     obtain ⟨a4, c4, rfl, _⟩ := hat
     clear hb hf4 hbl hr h
     go_wp2_with fail
     refine HAdd.out.mono ?_
     rintro e w4 ⟨rfl, hs⟩
     have HS4 := h_ hs
     obtain ⟨_, hbl, v, hPc, _, hls⟩ := hs
     obtain ⟨A9, C9, rfl, _⟩ := hls.slice
     have HFi := h_ (HF.out w4 hbl)
     have HLs := h_ (hls.low HB0.out.size)
     clear HAdd hbl hls
     go_wp2_with fail
     go_ret
     refine ⟨HFi.out, ?_⟩
     rw [HBl.out]
     exact ⟨_, rfl, HLs.out⟩

attribute [local go_sem] Oper.semAt_some

def TrBls (w : World) (r : Except Int (List Bl)) (e : Ending) (w' : World) : Prop :=
 Below w.heap.size w w' ∧ match r with
  | .ok l => ∃ v, e = .returned (.tuple #[v, .int .i64 0]) ∧ LsB w w' v l
  | .error c => e = .returned (.tuple #[.slice none 0 0, .int .i64 c])

theorem catchL_gives (p : Addr) (x c : Int) (w : World) (hc : w.cell? p = some (.int .i64 x)) (hz : w.frozen? p = false) :
  CallsD Tryz.prog 70 #[.pointer (some p)] (.panicking [{ v := .iface 28 (.int .i64 c), recovered := false }]) w fun e u' w' =>
   e = .returned (.tuple #[]) ∧ u' = .panicking [{ v := .iface 28 (.int .i64 c), recovered := true }] ∧ w' = w.setCell p (.int .i64 c) := by
 refine callsD_of_wpS Tryz.func70 rfl fun c₀ cs hu => ?_
 apply wpS_seq
 apply wpS_region
 simp [wpOpsS, go_sem, recoverD, hu, Tryz.ntmps70, Exit.thenS]
 refine wpS_of_wp ?_
 change Code.wp _ _ _ { tmps := #[.pointer (some p), .iface 28 (.int .i64 c), .iface 28 (.int .i64 c), undef, undef, undef, undef], defers := [] } _
 have has := bassert_errno (.int .i64 c)
 go_wp2_with fail
 cases c₀
 simp_all [bodyPostS, results, Tryz.results70]

theorem catchL_idle (p : Addr) (w : World) :
  CallsD Tryz.prog 70 #[.pointer (some p)] .returning w fun e u' w' => e = .returned (.tuple #[]) ∧ u' = .returning ∧ w' = w := by
 refine callsD_of_wpS Tryz.func70 rfl fun c₀ cs hu => ?_
 apply wpS_seq
 apply wpS_region
 simp [wpOpsS, go_sem, recoverD, hu, Tryz.ntmps70, Exit.thenS]
 refine wpS_of_wp ?_
 change Code.wp _ _ _ { tmps := #[.pointer (some p), .nilIface, .nilIface, undef, undef, undef, undef], defers := [] } _
 go_wp2_with fail
 cases c₀
 simp_all [bodyPostS, results, Tryz.results70]

theorem triedL_any (fc : Nat) (fs lb : Array Value) (r : Except Int (List Bl)) (w : World) (hent : ∀ args w, (callFunc fc args).run Tryz.prog w = .ok (.enter fc args) w) (hR : ∀ w', Below w.heap.size w w' → Calls Tryz.prog fc (fs ++ lb) w' (BlsR w' r)) :
  Calls Tryz.prog 32 #[.func (.func fc) fs lb] w (TrBls w r) := by
 have hmf : ∀ (fn : Fn) (first cap : Array Value) (w : World), (Instr.makeFunc fn first cap).run Tryz.prog w = .ok (.func fn first cap) w := fun _ _ _ _ => rfl
 obtain ⟨W, hW⟩ : ∃ W, W = w.alloc (.cells #[.int .i64 0] 28) := ⟨_, rfl⟩
 have hbW : Below w.heap.size w W := by rw [hW]; exact below_al bR _
 have hsW : W.heap.size = w.heap.size + 1 := by rw [hW]; simp
 have HRe : Hid (RowB W w.heap.size [.int .i64 0]) := by
  rw [hW]
  exact RowB.new w [.int .i64 0] 28
 have HB := h_ hbW
 have HW := h_ hW
 have HSW := h_ hsW
 have HR := h_ (hR W hbW)
 clear hW hbW hR hsW
 go_enter_defers Tryz.func32, Tryz.ntmps32
 go_wp2_with fail
 rw [← HW.out]
 refine HR.out.mono ?_
 rintro e w1 ⟨hb1, hm⟩
 have hs2 := HSW.out
 have he1 := HRe.out.on hb1 (by omega)
 have HB1 := h_ (HB.out.trans (hb1.mono HB.out.size))
 have ec : w1.cell? ⟨w.heap.size, 0, none⟩ = some (.int .i64 0) := he1.1 0 _ rfl
 have ef := he1.2 0
 clear hb1 hs2 he1
 cases r with
 | error q =>
  have hm : e = gives q := hm
  subst hm
  rw [gives_def]
  go_wp2_with fail
  refine leaves_cons (f := 70) (args := #[.pointer (some ⟨w.heap.size, 0, none⟩)]) (by simp) (by simp [go_sem]) ?_
  refine (catchL_gives ⟨w.heap.size, 0, none⟩ 0 q w1 ec ef).mono ?_
  rintro e u' w'' ⟨rfl, rfl, rfl⟩
  have k99 : (w1.setCell ⟨w.heap.size, 0, none⟩ (.int .i64 q)).cell? ⟨w.heap.size, 0, none⟩ = some (.int .i64 q) := World.cell?_setCell_same _ _ _ ec
  have hP : TrBls w (.error q) (.returned (.tuple #[.slice none 0 0, .int .i64 q])) (w1.setCell ⟨w.heap.size, 0, none⟩ (.int .i64 q)) := ⟨HB1.out.setCell (p := ⟨w.heap.size, 0, none⟩) (Nat.le_refl _) _, rfl⟩
  generalize w1.setCell ⟨w.heap.size, 0, none⟩ (.int .i64 q) = w9 at *
  simp [Leaves, settle, results, Tryz.results32, go_sem, k99]
  exact hP
 | ok l =>
  have hm : ∃ v, e = .returned v ∧ LsB W w1 v l := hm
  obtain ⟨v, rfl, hls⟩ := hm
  obtain ⟨A9, C9, rfl, _⟩ := hls.slice
  go_wp2_with fail
  try change bodyPostD _ _ _ _ _ (w1.setCell ⟨w.heap.size, 0, none⟩ (.int .i64 0))
  have k99 : (w1.setCell ⟨w.heap.size, 0, none⟩ (.int .i64 0)).cell? ⟨w.heap.size, 0, none⟩ = some (.int .i64 0) := World.cell?_setCell_same _ _ _ ec
  have hls2 : LsB w (w1.setCell ⟨w.heap.size, 0, none⟩ (.int .i64 0)) (.slice A9 l.length C9) l := (hls.on (by rw [World.size_setCell]; exact Nat.le_refl _) fun j hj _ => Below.heap_setCell w1 _ _ j (by show j ≠ w.heap.size; have := HSW.out; omega)).low HB.out.size
  have hP : TrBls w (.ok l) (.returned (.tuple #[.slice A9 l.length C9, .int .i64 0])) (w1.setCell ⟨w.heap.size, 0, none⟩ (.int .i64 0)) := ⟨HB1.out.setCell (p := ⟨w.heap.size, 0, none⟩) (Nat.le_refl _) _, _, rfl, hls2⟩
  refine leaves_cons (f := 70) (args := #[.pointer (some ⟨w.heap.size, 0, none⟩)]) (by simp) (by simp [go_sem]) ?_
  refine (catchL_idle ⟨w.heap.size, 0, none⟩ _).mono ?_
  rintro e u' w'' ⟨rfl, rfl, rfl⟩
  generalize w1.setCell ⟨w.heap.size, 0, none⟩ (.int .i64 0) = w9 at *
  simp [Leaves, settle, results, Tryz.results32, go_sem, k99]
  exact hP

theorem extras1_any (X K : Nat) (x : Ex) (A : Option Addr) (C : Nat) (k : Int) (hx : x.fit) (w : World) (hX : (w.cell? ⟨X, 0, none⟩ = some (.int .u32 x.n) ∧ w.cell? ⟨X, 1, none⟩ = some (.int .u32 x.m) ∧ w.cell? ⟨X, 2, none⟩ = some (.int .u64 x.g) ∧ w.cell? ⟨X, 3, none⟩ = some (.int .u8 x.l) ∧ w.cell? ⟨X, 4, none⟩ = some (.int .u8 x.c) ∧ w.cell? ⟨X, 5, none⟩ = some (.bool x.b) ∧ w.cell? ⟨X, 6, none⟩ = some (.slice A x.xs.length C))) (hK : w.cell? ⟨K, 0, none⟩ = some (.int .i64 k)) (hr : RdX w w.heap.size A x.xs) (hC : x.xs.length ≤ C) (ht : TabW w) :
  Calls Tryz.prog 33 #[.pointer (some ⟨X, 0, none⟩), .pointer (some ⟨K, 0, none⟩)] w (BlsR w (blocksE x k)) := by
 have HK := h_ (blocks_any x A C k hx w hr hC ht)
 obtain ⟨x0, x1, x2, x3, x4, x5, x6⟩ := hX
 clear hr hC ht hx
 generalize blocksE x k = r at *
 go_enter Tryz.func33, Tryz.ntmps33
 go_wp2_with fail
 clear x0 x1 x2 x3 x4 x5 x6 hK
 refine HK.out.mono ?_
 rintro e w1 ⟨hb1, hm⟩
 have HB1 := h_ hb1
 clear hb1
 cases r with
 | error q =>
  have hm : e = gives q := hm
  subst hm
  rw [gives_def]
  go_wp2_with fail
  exact ⟨by first | trivial | rfl, HB1.out, rfl⟩
 | ok l =>
  have hm : ∃ v, e = .returned v ∧ LsB w w1 v l := hm
  obtain ⟨v, rfl, hls⟩ := hm
  have HLs := h_ hls
  clear hls
  go_wp2_with fail
  go_ret
  exact ⟨HB1.out, _, rfl, HLs.out⟩

def extrasE (x : Ex) (k : Int) : Except Int (List Bl) := if isK k = true then blocksE x k else .error 2

theorem extras_any (x : Ex) (A : Option Addr) (C : Nat) (k : Int) (hx : x.fit) (w : World) (hr : RdX w w.heap.size A x.xs) (hC : x.xs.length ≤ C) (ht : TabW w) :
  Calls Tryz.prog 14 #[.agg #[.int .u32 x.n, .int .u32 x.m, .int .u64 x.g, .int .u8 x.l, .int .u8 x.c, .bool x.b, .slice A x.xs.length C], .int .i64 k] w (TrBls w (extrasE x k)) := by
 have hmf : ∀ (fn : Fn) (first cap : Array Value) (w : World), (Instr.makeFunc fn first cap).run Tryz.prog w = .ok (.func fn first cap) w := fun _ _ _ _ => rfl
 obtain ⟨W, hW⟩ : ∃ W, W = (w.alloc (.cells #[.int .u32 x.n, .int .u32 x.m, .int .u64 x.g, .int .u8 x.l, .int .u8 x.c, .bool x.b, .slice A x.xs.length C] 46)).alloc (.cells #[.int .i64 k] 23) := ⟨_, rfl⟩
 have HB0 : Hid (Below w.heap.size w W) := by rw [hW]; exact below_al (below_al bR _) _
 have hsW : W.heap.size = w.heap.size + 2 := by rw [hW]; simp
 have hE : RowB W w.heap.size [.int .u32 x.n, .int .u32 x.m, .int .u64 x.g, .int .u8 x.l, .int .u8 x.c, .bool x.b, .slice A x.xs.length C] := by
  have h := (RowB.new w [.int .u32 x.n, .int .u32 x.m, .int .u64 x.g, .int .u8 x.l, .int .u8 x.c, .bool x.b, .slice A x.xs.length C] 46).on (below_al bR (.cells #[.int .i64 k] 23)) (by simp)
  rw [hW]
  exact h
 have hK : RowB W (w.heap.size + 1) [.int .i64 k] := by
  have h := RowB.new (w.alloc (.cells #[.int .u32 x.n, .int .u32 x.m, .int .u64 x.g, .int .u8 x.l, .int .u8 x.c, .bool x.b, .slice A x.xs.length C] 46)) [.int .i64 k] 23
  rw [hW]
  simpa only [World.size_alloc] using h
 have HT := h_ (fun w' (hb : Below W.heap.size W w') => triedL_any 33 #[] #[.pointer (some ⟨w.heap.size, 0, none⟩), .pointer (some ⟨w.heap.size + 1, 0, none⟩)] (blocksE x k) w' (enters_of Tryz.func33 (by kernel_rfl) rfl) (fun w2 hb2 => by
  have hbb := below_on hb hb2
  have h := extras1_any w.heap.size (w.heap.size + 1) x A C k hx w2 ⟨(hE.on hbb (by omega)).1 0 _ rfl, (hE.on hbb (by omega)).1 1 _ rfl, (hE.on hbb (by omega)).1 2 _ rfl, (hE.on hbb (by omega)).1 3 _ rfl, (hE.on hbb (by omega)).1 4 _ rfl, (hE.on hbb (by omega)).1 5 _ rfl, (hE.on hbb (by omega)).1 6 _ rfl⟩ ((hK.on hbb (by omega)).1 0 _ rfl) (hr.on (below_on HB0.out hbb)) hC (ht.on (below_on HB0.out hbb))
  simpa using h))
 have HEx : Hid (extrasE x k = if isK k = true then blocksE x k else .error 2) := rfl
 have HW := h_ hW
 have HSW := h_ hsW
 clear hW hsW hE hK hx hr hC ht
 generalize extrasE x k = r at *
 generalize blocksE x k = r2 at *
 by_cases hk : isK k = true
 ·have HR : Hid (r = r2) := by rw [Hid, HEx.out, if_pos hk]
  obtain ⟨j, hj, hkj⟩ := isK_nat hk
  have HWd : Hid (∀ w, Calls Tryz.prog 31 #[.int .i64 k] w fun e w' => e = .returned (.tuple #[.int .i64 (wdN j), .int .i64 0]) ∧ Below w.heap.size w w') := fun w => by
   have := width_ok j hj w
   rw [← hkj] at this
   exact this
  generalize wdN j = wd at *
  clear hj hkj
  clear hk HEx
  go_enter Tryz.func14, Tryz.ntmps14
  go_wp2_with fail
  rw [← HW.out]
  refine (HWd.out W).mono ?_
  rintro e w1 ⟨rfl, hb1⟩
  have HB1 := h_ hb1
  clear hb1
  go_wp2_with fail
  refine (HT.out w1 HB1.out).mono ?_
  rintro e w2 ⟨hb2, hm⟩
  have HB2 := h_ (below_on (below_on HB0.out HB1.out) hb2)
  clear hb2
  cases r2 with
  | error q =>
   have hm : e = .returned (.tuple #[.slice none 0 0, .int .i64 q]) := hm
   subst hm
   go_wp2_with fail
   go_ret2
   exact ⟨HB2.out, by rw [HR.out]; rfl⟩
  | ok l =>
   have hm : ∃ v, e = .returned (.tuple #[v, .int .i64 0]) ∧ LsB w1 w2 v l := hm
   obtain ⟨v, rfl, hls⟩ := hm
   have HLs := h_ (hls.low (below_on HB0.out HB1.out).size)
   clear hls
   go_wp2_with fail
   go_ret2
   exact ⟨HB2.out, by rw [HR.out]; exact ⟨_, rfl, HLs.out⟩⟩
 ·have HR : Hid (r = .error 2) := by rw [Hid, HEx.out, if_neg hk]
  have HWd := h_ (fun w => width_no k (by simpa using hk) w)
  clear hk HEx
  go_enter Tryz.func14, Tryz.ntmps14
  go_wp2_with fail
  rw [← HW.out]
  refine (HWd.out W).mono ?_
  rintro e w1 ⟨rfl, hb1⟩
  have HB1 := h_ (below_on HB0.out hb1)
  clear hb1
  go_wp2_with fail
  go_ret2
  exact ⟨HB1.out, by rw [HR.out]; rfl⟩

attribute [local go_sem] Oper.semAt_some

def sameB (x y : Bl) : Bool := decide (x.t = y.t) && (decide (x.n = y.n) && (decide (x.s = y.s) && (x.d == y.d)))

theorem sameB_iff (x y : Bl) : sameB x y = true ↔ x = y := by
 obtain ⟨t, n, s, d⟩ := x
 obtain ⟨t', n', s', d'⟩ := y
 simp [sameB]

theorem bsame_any (x y : Bl) (a1 a2 : Option Addr) (c1 c2 : Nat) (w : World) (h1 : RdB w w.heap.size a1 x.d) (h2 : RdB w w.heap.size a2 y.d) :
  Calls Tryz.prog 89 #[.agg #[.int .u64 x.t, .int .u64 x.n, .int .i64 x.s, .slice a1 x.d.length c1], .agg #[.int .u64 y.t, .int .u64 y.n, .int .i64 y.s, .slice a2 y.d.length c2]] w fun e w' => e = .returned (.bool (sameB x y)) ∧ Below w.heap.size w w' := by
 obtain ⟨W, hW⟩ : ∃ W, W = (w.alloc (.cells #[.int .u64 x.t, .int .u64 x.n, .int .i64 x.s, .slice a1 x.d.length c1] 26)).alloc (.cells #[.int .u64 y.t, .int .u64 y.n, .int .i64 y.s, .slice a2 y.d.length c2] 26) := ⟨_, rfl⟩
 have HB0 : Hid (Below w.heap.size w W) := by rw [hW]; exact below_al (below_al bR _) _
 have HEq := h_ (equal_any a1 a2 x.d.length y.d.length c1 c2 x.d y.d rfl rfl W w.heap.size (h1.below HB0.out) (h2.below HB0.out))
 have HD : Hid (sameB x y = (decide (x.t = y.t) && (decide (x.n = y.n) && (decide (x.s = y.s) && (x.d == y.d))))) := rfl
 have e1 : ((x.t : Int) == (y.t : Int)) = decide (x.t = y.t) := by rw [Bool.eq_iff_iff]; simp [Int.ofNat_inj]
 have e2 : ((x.n : Int) == (y.n : Int)) = decide (x.n = y.n) := by rw [Bool.eq_iff_iff]; simp [Int.ofNat_inj]
 have e3 : (x.s == y.s) = decide (x.s = y.s) := by rw [Bool.eq_iff_iff]; simp
 have HW := h_ hW
 generalize decide (x.t = y.t) = q1 at *
 generalize decide (x.n = y.n) = q2 at *
 generalize decide (x.s = y.s) = q3 at *
 generalize (x.d == y.d) = q4 at *
 generalize sameB x y = r at *
 clear hW h1 h2
 cases q1
 ·clear HEq
  go_enter Tryz.func89, Tryz.ntmps89
  go_wp2_with fail
  rw [← HW.out]
  go_ret
  exact ⟨by rw [HD.out]; rfl, HB0.out⟩
 cases q2
 ·clear HEq
  go_enter Tryz.func89, Tryz.ntmps89
  go_wp2_with fail
  rw [← HW.out]
  go_ret
  exact ⟨by rw [HD.out]; rfl, HB0.out⟩
 cases q3
 ·clear HEq
  go_enter Tryz.func89, Tryz.ntmps89
  go_wp2_with fail
  rw [← HW.out]
  go_ret
  exact ⟨by rw [HD.out]; rfl, HB0.out⟩
 go_enter Tryz.func89, Tryz.ntmps89
 go_wp2_with fail
 rw [← HW.out]
 refine HEq.out.mono ?_
 rintro e w1 ⟨rfl, rfl⟩
 go_wp2_with fail
 go_ret
 exact ⟨by rw [HD.out]; rfl, HB0.out⟩

theorem gath1_any (x y : Bl) (a1 a2 : Option Addr) (c1 c2 : Nat) (w : World) (h1 : RdB w w.heap.size a1 x.d) (h2 : RdB w w.heap.size a2 y.d) :
  Calls Tryz.prog 88 #[.agg #[.int .u64 x.t, .int .u64 x.n, .int .i64 x.s, .slice a1 x.d.length c1], .agg #[.int .u64 y.t, .int .u64 y.n, .int .i64 y.s, .slice a2 y.d.length c2]] w fun e w' => e = .returned (.bool (sameB x ⟨y.t, y.n, x.s, y.d⟩)) ∧ Below w.heap.size w w' := by
 obtain ⟨W, hW⟩ : ∃ W, W = (w.alloc (.cells #[.int .u64 x.t, .int .u64 x.n, .int .i64 x.s, .slice a1 x.d.length c1] 26)).alloc (.cells #[.int .u64 y.t, .int .u64 y.n, .int .i64 x.s, .slice a2 y.d.length c2] 26) := ⟨_, rfl⟩
 have HB0 : Hid (Below w.heap.size w W) := by rw [hW]; exact below_al (below_al bR _) _
 have HS := h_ (bsame_any x ⟨y.t, y.n, x.s, y.d⟩ a1 a2 c1 c2 W ((h1.below HB0.out).mono HB0.out.size) ((h2.below HB0.out).mono HB0.out.size))
 have HW := h_ hW
 clear hW h1 h2
 generalize sameB x ⟨y.t, y.n, x.s, y.d⟩ = r at *
 go_enter Tryz.func88, Tryz.ntmps88
 go_wp2_with fail
 rw [← HW.out]
 refine HS.out.mono ?_
 rintro e w1 ⟨rfl, hb⟩
 have HB1 := h_ (below_on HB0.out hb)
 clear hb
 go_wp2_with fail
 go_ret
 exact ⟨rfl, HB1.out⟩

end Go.Proofs.YtiahakbkagipkaaGreatDoor
