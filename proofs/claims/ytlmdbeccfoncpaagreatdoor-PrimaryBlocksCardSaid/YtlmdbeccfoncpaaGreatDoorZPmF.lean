/- A primary's bytes; Encode. -/
import Derived.Test.YtlmdbeccfoncpaaGreatDoorZPmE
namespace Go.Proofs.YtlmdbeccfoncpaaGreatDoor
open Go Go.RowKit Go.Shelf
set_option linter.unusedSimpArgs false
set_option linter.unusedVariables false
set_option maxRecDepth 100000

theorem mk_zero (wd : Nat) (h : wd ≤ 4) (w : World) : (Instr.makeSlice 29 (.int .i64 (wd : Nat)) (.int .i64 (wd : Nat))).run Tryz.prog w = .ok (.slice (some ⟨w.heap.size, 0, none⟩) wd wd) (w.alloc (.cells (madeCells #[.int .u8 0] wd) 5)) :=
  run_make_row' (P := Tryz.prog) 29 5 (.int .u8 0) 1 Tryz.underlying29 (by kernel_rfl) rfl .i64 .i64 wd (by omega) (by omega) w

theorem rd_zero (w : World) (wd : Nat) : RdB (w.alloc (.cells (madeCells #[.int .u8 0] wd) 5)) (w.alloc (.cells (madeCells #[.int .u8 0] wd) 5)).heap.size (some ⟨w.heap.size, 0, none⟩) (List.replicate wd 0) := by
  refine .inr ⟨w.heap.size, 0, rfl, by simp, fun j hj => ?_⟩
  rw [Nat.zero_add, World.cell?_alloc_mark]
  simp only [List.length_replicate] at hj
  have h : (madeCells #[Value.int .u8 0] wd)[j]? = some (.int .u8 0) := by
    rw [← Array.getElem?_toList, toList_madeCells_one]
    simp [hj]
  rw [h]
  simp [byteAt, List.getElem?_replicate, hj]

/-- A primary's bytes. -/
def zeroB (p : Pm) (k : Nat) : List UInt8 := (itO p (wdN k) (List.replicate (wdN k) 0)).bytes
def encP (p : Pm) (k : Nat) : List UInt8 := (itO p (wdN k) (sumB k (zeroB p k))).bytes

theorem err_len {x : It} (h : x.err = 0) : x.bytes.length ≤ 65536 := by
  unfold It.err at h
  split at h
  · split at h
    · cases h
    · split at h
      · cases h
      · omega
  · cases h

set_option maxHeartbeats 8000000 in
theorem pbytes_any (p : Pm) (hp : p.fine) (k : Nat) (hk : k ≤ 2) (hps : p.s = (k : Int)) (he : ∀ bs, bs.length = wdN k → (itO p (wdN k) bs).err = 0) (hd : ∀ bs, (itO p (wdN k) bs).depth ≤ 60000) (w : World) (ht : TabW w) :
    Calls Tryz.prog 25 #[.agg #[.int .u32 p.f, .int .i64 p.s, .int .u32 p.tn, .int .u32 p.tm, .int .u32 p.sn, .int .u32 p.sm, .int .u32 p.rn, .int .u32 p.rm, .int .u64 p.t, .int .u32 p.q, .int .u64 p.l]] w fun e w' => ∃ u, e = .returned u ∧ OwnV w' w.heap.size 5 u ((encP p k).map encB) ∧ Below w.heap.size w w' := by
  obtain ⟨W, hW⟩ : ∃ W, W = w.alloc (.cells #[.int .u32 p.f, .int .i64 p.s, .int .u32 p.tn, .int .u32 p.tm, .int .u32 p.sn, .int .u32 p.sm, .int .u32 p.rn, .int .u32 p.rm, .int .u64 p.t, .int .u32 p.q, .int .u64 p.l] 59) := ⟨_, rfl⟩
  have HB0 : Hid (Below w.heap.size w W) := by rw [hW]; exact below_al (Below.refl _ _) _
  have HX : Hid (∀ w', Below W.heap.size W w' → (w'.cell? ⟨w.heap.size, 0, none⟩ = some (.int .u32 p.f) ∧ w'.cell? ⟨w.heap.size, 1, none⟩ = some (.int .i64 p.s) ∧ w'.cell? ⟨w.heap.size, 2, none⟩ = some (.int .u32 p.tn) ∧ w'.cell? ⟨w.heap.size, 3, none⟩ = some (.int .u32 p.tm) ∧ w'.cell? ⟨w.heap.size, 4, none⟩ = some (.int .u32 p.sn) ∧ w'.cell? ⟨w.heap.size, 5, none⟩ = some (.int .u32 p.sm) ∧ w'.cell? ⟨w.heap.size, 6, none⟩ = some (.int .u32 p.rn) ∧ w'.cell? ⟨w.heap.size, 7, none⟩ = some (.int .u32 p.rm) ∧ w'.cell? ⟨w.heap.size, 8, none⟩ = some (.int .u64 p.t) ∧ w'.cell? ⟨w.heap.size, 9, none⟩ = some (.int .u32 p.q) ∧ w'.cell? ⟨w.heap.size, 10, none⟩ = some (.int .u64 p.l))) := fun w' h => by
    rw [hW] at h
    exact pbox h
  have HT : Hid (∀ w', Below W.heap.size W w' → TabW w') := fun w' h => (ht.on HB0.out).on h
  have HWd := Lib.hid (fun w => width_ok k hk w)
  have hmk := fun w => mk_zero (wdN k) (wdN_le k) w
  have HZb : Hid (zeroB p k = (itO p (wdN k) (List.replicate (wdN k) 0)).bytes) := rfl
  have HEn : Hid (encP p k = (itO p (wdN k) (sumB k (zeroB p k))).bytes) := rfl
  have HSl : Hid (∀ bs, (sumB k bs).length = wdN k) := fun bs => sumB_length k bs
  have HE := Lib.hid he
  have HD := Lib.hid hd
  have hwd4 : wdN k ≤ 4 := wdN_le k
  have hzl : (zeroB p k).length ≤ 65536 := err_len (he _ (by simp))
  have HPut := Lib.hid (fun n m hn hm w => putK_any k hk (zeroB p k) n m hn hm w)
  have HOf : Hid (∀ (a : Addr) (w : World), RdP w w.heap.size (some a) [zeroB p k] → Calls Tryz.prog 55 #[.int .i64 (k : Nat), .slice (some a) 1 1] w fun e w' => e = .returned (.tuple #[.int .u32 (sumN k (zeroB p k)), .int .i64 0]) ∧ Below w.heap.size w w') := fun a w hr => of_ok k hk (some a) 1 1 [zeroB p k] (zeroB p k) rfl (by simp) w (by simp) (by omega) hr
  have hsn : sumN k (zeroB p k) < 4294967296 := Nat.lt_of_le_of_lt (sumN_le _) (onN_lt hk)
  have hwr : IntKind.u64.wrap (sumN k (zeroB p k) : Int) = (sumN k (zeroB p k) : Int) := by
    simp only [IntKind.wrap_u64]
    omega
  have HK := Lib.hid hps
  have HPS : Hid (p.s = (k : Int)) := hps
  obtain ⟨wd, hwd⟩ : ∃ wd, wd = wdN k := ⟨_, rfl⟩
  rw [← hwd] at HWd hmk HZb HEn HSl HE HD hwd4 HPut
  obtain ⟨zb, hzb⟩ : ∃ zb, zb = zeroB p k := ⟨_, rfl⟩
  rw [← hzb] at HZb HEn hzl HPut HOf hwr
  obtain ⟨sn, hsne⟩ : ∃ sn, sn = sumN k zb := ⟨_, rfl⟩
  have HSn : Hid (sn = sumN k zb) := hsne
  rw [← hzb] at hsn
  rw [← hsne] at hwr hsn
  have HW := Lib.hid hW
  have hsv : p.s = (k : Int) := hps
  clear hW ht he hd hwd hzb hsne hps
  rw [hsv] at HX HW ⊢
  obtain ⟨x0, x1, x2, x3, x4, x5, x6, x7, x8, x9, x10⟩ := HX.out W (Below.refl _ _)
  go_enter Tryz.func25, Tryz.ntmps25
  go_wp2_with fail
  rw [← HW.out]
  refine (HWd.out W).mono ?_
  rintro e w1 ⟨rfl, hb⟩
  obtain ⟨W1, hW1⟩ : ∃ V, V = w1.alloc (.cells #[.int .i64 (wd : Nat)] 3) := ⟨_, rfl⟩
  have HB1 : Hid (Below W.heap.size W W1) := by rw [hW1]; exact below_al hb _
  have HXX : Hid (∀ w', Below W1.heap.size W1 w' → (w'.cell? ⟨w.heap.size, 0, none⟩ = some (.int .u32 p.f) ∧ w'.cell? ⟨w.heap.size, 1, none⟩ = some (.int .i64 (k : Nat)) ∧ w'.cell? ⟨w.heap.size, 2, none⟩ = some (.int .u32 p.tn) ∧ w'.cell? ⟨w.heap.size, 3, none⟩ = some (.int .u32 p.tm) ∧ w'.cell? ⟨w.heap.size, 4, none⟩ = some (.int .u32 p.sn) ∧ w'.cell? ⟨w.heap.size, 5, none⟩ = some (.int .u32 p.sm) ∧ w'.cell? ⟨w.heap.size, 6, none⟩ = some (.int .u32 p.rn) ∧ w'.cell? ⟨w.heap.size, 7, none⟩ = some (.int .u32 p.rm) ∧ w'.cell? ⟨w.heap.size, 8, none⟩ = some (.int .u64 p.t) ∧ w'.cell? ⟨w.heap.size, 9, none⟩ = some (.int .u32 p.q) ∧ w'.cell? ⟨w.heap.size, 10, none⟩ = some (.int .u64 p.l)) ∧ w'.cell? ⟨w1.heap.size, 0, none⟩ = some (.int .i64 (wd : Nat))) := fun w' h => ⟨HX.out w' (below_on HB1.out h), by
    rw [hW1] at h
    exact box_at h 0⟩
  have HLay : Hid (∀ w' (a : Option Addr) (c : Nat) (bs : List UInt8), Below W1.heap.size W1 w' → bs.length = wd → wd ≤ c → RdB w' w'.heap.size a bs → Calls Tryz.prog 49 #[.slice a wd c, .pointer (some ⟨w.heap.size, 0, none⟩), .pointer (some ⟨w1.heap.size, 0, none⟩)] w' fun e w'' => ∃ u, e = .returned u ∧ OwnV w'' w'.heap.size 5 u ((itO p wd bs).bytes.map encB) ∧ Below w'.heap.size w' w'') := fun w' a c bs h hl hc hr => by
    have h1 := plLay_any p hp wd w.heap.size w1.heap.size a c bs w' (by rw [HPS.out]; exact HXX.out w' h) (by omega) (by omega) hr (HT.out w' (below_on HB1.out h)) (HE.out bs hl) (HD.out bs)
    rw [hl] at h1
    exact h1
  have HW1 := Lib.hid hW1
  clear x0 x1 x2 x3 x4 x5 x6 x7 x8 x9 x10 hb hp
  go_upto_region 2 with fail
  rw [← hW1]
  clear hW1
  go_wp2_with fail
  have F : Below W1.heap.size W1 W1.drew := (Below.refl _ _).drew
  refine wp_region_held_drew (S := fun w' => (w'.cell? ⟨w.heap.size, 0, none⟩ = some (.int .u32 p.f) ∧ w'.cell? ⟨w.heap.size, 1, none⟩ = some (.int .i64 (k : Nat)) ∧ w'.cell? ⟨w.heap.size, 2, none⟩ = some (.int .u32 p.tn) ∧ w'.cell? ⟨w.heap.size, 3, none⟩ = some (.int .u32 p.tm) ∧ w'.cell? ⟨w.heap.size, 4, none⟩ = some (.int .u32 p.sn) ∧ w'.cell? ⟨w.heap.size, 5, none⟩ = some (.int .u32 p.sm) ∧ w'.cell? ⟨w.heap.size, 6, none⟩ = some (.int .u32 p.rn) ∧ w'.cell? ⟨w.heap.size, 7, none⟩ = some (.int .u32 p.rm) ∧ w'.cell? ⟨w.heap.size, 8, none⟩ = some (.int .u64 p.t) ∧ w'.cell? ⟨w.heap.size, 9, none⟩ = some (.int .u32 p.q) ∧ w'.cell? ⟨w.heap.size, 10, none⟩ = some (.int .u64 p.l)) ∧ w'.cell? ⟨w1.heap.size, 0, none⟩ = some (.int .i64 (wd : Nat))) (by kernel_rfl) (HXX.out _ F) (fun hHeld => ?_)
  refine take_listed (i := 0) (v := ?_) rfl (by kernel_rfl) (by kernel_rfl) (by kernel_rfl) (fun _ _ _ h => h) (Or.inl ⟨by rfl, ?_⟩) (by assumption) ?_
  rotate_left
  · intro w hSw
    (try dsimp only at hSw)
    go_simp
    all_goals with_reducible rfl
  simp only [Act.put, List.setIfInBounds_toArray, List.set_cons_zero, List.set_cons_succ]
  refine take_listed (i := 1) (v := ?_) rfl (by kernel_rfl) (by kernel_rfl) (by kernel_rfl) (fun _ _ _ h => h) (Or.inl ⟨by rfl, ?_⟩) (by assumption) ?_
  rotate_left
  · intro w hSw
    (try dsimp only at hSw)
    go_simp
    all_goals with_reducible rfl
  simp only [Act.put, List.setIfInBounds_toArray, List.set_cons_zero, List.set_cons_succ]
  refine take_listed (i := 2) (v := ?_) rfl (by kernel_rfl) (by kernel_rfl) (by kernel_rfl) (fun _ _ _ h => h) (Or.inl ⟨by rfl, ?_⟩) (by assumption) ?_
  rotate_left
  · intro w hSw
    (try dsimp only at hSw)
    go_simp
    all_goals with_reducible rfl
  simp only [Act.put, List.setIfInBounds_toArray, List.set_cons_zero, List.set_cons_succ]
  refine take_listed (i := 3) (v := ?_) rfl (by kernel_rfl) (by kernel_rfl) (by kernel_rfl) (fun _ _ _ h => h) (Or.inl ⟨by rfl, ?_⟩) (by assumption) ?_
  rotate_left
  · intro w hSw
    (try dsimp only at hSw)
    go_simp
    all_goals with_reducible rfl
  simp only [Act.put, List.setIfInBounds_toArray, List.set_cons_zero, List.set_cons_succ]
  refine take_listed (i := 4) (v := ?_) rfl (by kernel_rfl) (by kernel_rfl) (by kernel_rfl) (fun _ _ _ h => h) (Or.inl ⟨by rfl, ?_⟩) (by assumption) ?_
  rotate_left
  · intro w hSw
    (try dsimp only at hSw)
    go_simp
    all_goals with_reducible rfl
  simp only [Act.put, List.setIfInBounds_toArray, List.set_cons_zero, List.set_cons_succ]
  refine wpAnyH_ready (rs := [5]) (by kernel_rfl) (by simp) ?_
  refine AllReadyH.cons rfl (fun K hK => ?_) AllReadyH.nil
  go_simp
  refine hK.out _ _ (HXX.out _ (below_dr (below_al (Below.refl _ _) (.cells (madeCells #[.int .u8 0] wd) 5)) 1)) (fun hHeld => ?_)
  clear hK K
  try simp only [Act.put, List.setIfInBounds_toArray, List.set_cons_zero, List.set_cons_succ]
  refine wpAnyH_ready (rs := [6]) (by kernel_rfl) (by simp) ?_
  refine AllReadyH.cons rfl (fun K hK => ?_) AllReadyH.nil
  go_simp
  refine (HLay.out _ _ _ (List.replicate wd 0) (below_dr (below_al (Below.refl _ _) (.cells (madeCells #[.int .u8 0] wd) 5)) 1) (by simp) (Nat.le_refl _) (rd_zero W1 wd)).mono ?_
  rintro e w2 ⟨u, rfl, hown, hb⟩
  obtain ⟨a2, c2, rfl, hc2, hrb, _⟩ := hown.bytes
  rw [← HZb.out] at hc2 hrb ⊢
  replace F := below_on (below_dr (below_al (Below.refl _ _) (.cells (madeCells #[.int .u8 0] wd) 5)) 1) hb
  clear hb hown
  refine hK.out _ _ (HXX.out _ F) (fun hHeld => ?_)
  clear hK K
  try simp only [Act.put, List.setIfInBounds_toArray, List.set_cons_zero, List.set_cons_succ]
  refine wpAnyH_ready (rs := [7]) (by kernel_rfl) (by simp) ?_
  refine AllReadyH.cons rfl (fun K hK => ?_) AllReadyH.nil
  go_simp
  replace F := below_al F (.cells #[.slice a2 zb.length c2] 29)
  refine hK.out _ _ (HXX.out _ F) (fun hHeld => ?_)
  clear hK K
  try simp only [Act.put, List.setIfInBounds_toArray, List.set_cons_zero, List.set_cons_succ]
  refine wpAnyH_ready (rs := [8]) (by kernel_rfl) (by simp) ?_
  refine AllReadyH.cons rfl (fun K hK => ?_) AllReadyH.nil
  go_simp
  refine (HOf.out _ _ (srdP_one w2 w2.heap.size (Nat.le_refl _) 29 a2 c2 zb hrb hc2)).mono ?_
  rintro e w3 ⟨rfl, hb⟩
  rw [← HSn.out]
  replace F := below_on F hb
  clear hb hrb hc2
  refine hK.out _ _ (HXX.out _ F) (fun hHeld => ?_)
  clear hK K
  try simp only [Act.put, List.setIfInBounds_toArray, List.set_cons_zero, List.set_cons_succ]
  refine take_listed (i := 9) (v := ?_) rfl (by kernel_rfl) (by kernel_rfl) (by kernel_rfl) (fun _ _ _ h => h) (Or.inl ⟨by rfl, ?_⟩) (by assumption) ?_
  rotate_left
  · intro w hSw
    (try dsimp only at hSw)
    go_simp
    all_goals with_reducible rfl
  simp only [Act.put, List.setIfInBounds_toArray, List.set_cons_zero, List.set_cons_succ]
  refine take_listed (i := 10) (v := ?_) rfl (by kernel_rfl) (by kernel_rfl) (by kernel_rfl) (fun _ _ _ h => h) (Or.inl ⟨by rfl, ?_⟩) (by assumption) ?_
  rotate_left
  · intro w hSw
    (try dsimp only at hSw)
    go_simp
    all_goals with_reducible rfl
  simp only [Act.put, List.setIfInBounds_toArray, List.set_cons_zero, List.set_cons_succ]
  refine take_listed (i := 11) (v := ?_) rfl (by kernel_rfl) (by kernel_rfl) (by kernel_rfl) (fun _ _ _ h => h) (Or.inl ⟨by rfl, ?_⟩) (by assumption) ?_
  rotate_left
  · intro w hSw
    (try dsimp only at hSw)
    go_simp
    all_goals with_reducible rfl
  simp only [Act.put, List.setIfInBounds_toArray, List.set_cons_zero, List.set_cons_succ]
  refine take_listed (i := 12) (v := ?_) rfl (by kernel_rfl) (by kernel_rfl) (by kernel_rfl) (fun _ _ _ h => h) (Or.inl ⟨by rfl, ?_⟩) (by assumption) ?_
  rotate_left
  · intro w hSw
    (try dsimp only at hSw)
    go_simp
    all_goals with_reducible rfl
  simp only [Act.put, List.setIfInBounds_toArray, List.set_cons_zero, List.set_cons_succ]
  refine take_listed (i := 13) (v := ?_) rfl (by kernel_rfl) (by kernel_rfl) (by kernel_rfl) (fun _ _ _ h => h) (Or.inl ⟨by rfl, ?_⟩) (by assumption) ?_
  rotate_left
  · intro w hSw
    (try dsimp only at hSw)
    go_simp
    all_goals with_reducible rfl
  simp only [Act.put, List.setIfInBounds_toArray, List.set_cons_zero, List.set_cons_succ]
  clear hHeld
  refine wpAnyH_done (by kernel_rfl) ?_ _
  have HB3 := Lib.hid F
  clear F
  obtain ⟨⟨x0, x1, x2, x3, x4, x5, x6, x7, x8, x9, x10⟩, y0⟩ := HXX.out w3 HB3.out
  go_wp2_with fail
  refine (HPut.out _ _ (by rw [← HSn.out]) rfl w3).mono ?_
  rintro e w4 ⟨A4, C4, g4, rfl, hC4, hr4, hb⟩
  have HB4 := Lib.hid (below_on HB3.out hb)
  clear hb x0 x1 x2 x3 x4 x5 x6 x7 x8 x9 x10 y0
  rw [HSl.out] at hC4 ⊢
  go_wp2_with fail
  refine (HLay.out w4 A4 C4 _ HB4.out (HSl.out zb) hC4 hr4).mono ?_
  rintro e w5 ⟨u, rfl, hown, hb⟩
  have HB5 := Lib.hid (below_on HB4.out hb)
  have HOw : Hid (OwnV w5 w.heap.size 5 u ((encP p k).map encB)) := by
    rw [Hid, HEn.out]
    exact ⟨hown.1, hown.2.imp id fun ⟨g, cap, cur, e, h0, r⟩ => ⟨g, cap, cur, e, Nat.le_trans (Nat.le_trans HB0.out.size (Nat.le_trans HB1.out.size HB4.out.size)) h0, r⟩⟩
  clear hown hb hr4 hC4
  go_wp2_with fail
  go_ret
  exact ⟨u, rfl, HOw.out, HB0.out.trans ((below_on HB1.out HB5.out).mono HB0.out.size)⟩

/-- What may be is fine. -/
theorem fine_of {p : Pm} (hp : p.ok) (h : p.right = true) : p.fine ∧ ∃ k : Nat, k ≤ 2 ∧ p.s = (k : Int) := by
  unfold Pm.right at h
  simp only [Bool.and_eq_true, nmOk, rpOk, decide_eq_true_eq] at h
  obtain ⟨h1, h2, h3, ⟨h4, h5⟩, h6, h7⟩ := h
  obtain ⟨k, hk, hks⟩ := isK_nat h2
  exact ⟨⟨hp, ⟨by omega, by omega⟩, .inl h3, .inl h4, h6⟩, k, hk, hks⟩

/-- What Encode answers. -/
def EncPm (p : Pm) (w : World) (e : Ending) (w' : World) : Prop :=
  Below w.heap.size w w' ∧ ((p.right = true ∧ ∃ u, e = .returned (.tuple #[u, .int .i64 0]) ∧ OwnV w' w.heap.size 5 u ((encP p p.s.toNat).map encB)) ∨ (p.right = false ∧ e = .returned (.tuple #[.slice none 0 0, .int .i64 2])))

set_option maxHeartbeats 4000000 in
theorem prEncode_any (p : Pm) (hp : p.ok) (he : ∀ k : Nat, p.right = true → p.s = k → ∀ bs, bs.length = wdN k → (itO p (wdN k) bs).err = 0) (hd : ∀ (k : Nat) bs, (itO p (wdN k) bs).depth ≤ 60000) (w : World) (ht : TabW w) :
    Calls Tryz.prog 6 #[.agg #[.int .u32 p.f, .int .i64 p.s, .int .u32 p.tn, .int .u32 p.tm, .int .u32 p.sn, .int .u32 p.sm, .int .u32 p.rn, .int .u32 p.rm, .int .u64 p.t, .int .u32 p.q, .int .u64 p.l]] w (EncPm p w) := by
  obtain ⟨W, hW⟩ : ∃ W, W = w.alloc (.cells #[.int .u32 p.f, .int .i64 p.s, .int .u32 p.tn, .int .u32 p.tm, .int .u32 p.sn, .int .u32 p.sm, .int .u32 p.rn, .int .u32 p.rm, .int .u64 p.t, .int .u32 p.q, .int .u64 p.l] 28) := ⟨_, rfl⟩
  have HB0 : Hid (Below w.heap.size w W) := by rw [hW]; exact below_al (Below.refl _ _) _
  have HX : Hid (∀ w', Below W.heap.size W w' → (w'.cell? ⟨w.heap.size, 0, none⟩ = some (.int .u32 p.f) ∧ w'.cell? ⟨w.heap.size, 1, none⟩ = some (.int .i64 p.s) ∧ w'.cell? ⟨w.heap.size, 2, none⟩ = some (.int .u32 p.tn) ∧ w'.cell? ⟨w.heap.size, 3, none⟩ = some (.int .u32 p.tm) ∧ w'.cell? ⟨w.heap.size, 4, none⟩ = some (.int .u32 p.sn) ∧ w'.cell? ⟨w.heap.size, 5, none⟩ = some (.int .u32 p.sm) ∧ w'.cell? ⟨w.heap.size, 6, none⟩ = some (.int .u32 p.rn) ∧ w'.cell? ⟨w.heap.size, 7, none⟩ = some (.int .u32 p.rm) ∧ w'.cell? ⟨w.heap.size, 8, none⟩ = some (.int .u64 p.t) ∧ w'.cell? ⟨w.heap.size, 9, none⟩ = some (.int .u32 p.q) ∧ w'.cell? ⟨w.heap.size, 10, none⟩ = some (.int .u64 p.l))) := fun w' h => by
    rw [hW] at h
    exact pbox h
  have HT : Hid (∀ w', Below W.heap.size W w' → TabW w') := fun w' h => (ht.on HB0.out).on h
  have HCk := Lib.hid (fun w => prcheck_any p hp w)
  have HBy : Hid (p.right = true → ∀ w', Below W.heap.size W w' → Calls Tryz.prog 25 #[.agg #[.int .u32 p.f, .int .i64 p.s, .int .u32 p.tn, .int .u32 p.tm, .int .u32 p.sn, .int .u32 p.sm, .int .u32 p.rn, .int .u32 p.rm, .int .u64 p.t, .int .u32 p.q, .int .u64 p.l]] w' fun e w'' => ∃ u, e = .returned u ∧ OwnV w'' w'.heap.size 5 u ((encP p p.s.toNat).map encB) ∧ Below w'.heap.size w' w'') := fun hr w' h => by
    obtain ⟨hf, k, hk, hks⟩ := fine_of hp hr
    have e1 : p.s.toNat = k := by omega
    rw [e1]
    exact pbytes_any p hf k hk hks (he k hr hks) (hd k) w' (HT.out w' h)
  have HER : Hid (p.er = if p.right = true then 0 else 2) := rfl
  unfold EncPm
  have HW := Lib.hid hW
  clear hW ht he hd
  obtain ⟨q, hq⟩ : ∃ q, q = p.right := ⟨_, rfl⟩
  rw [← hq] at HBy HER ⊢
  clear hq
  generalize p.er = r at *
  obtain ⟨x0, x1, x2, x3, x4, x5, x6, x7, x8, x9, x10⟩ := HX.out W (Below.refl _ _)
  cases q
  · have hr2 : r = 2 := HER.out
    subst hr2
    go_enter Tryz.func6, Tryz.ntmps6
    go_wp2_with fail
    rw [← HW.out]
    refine (HCk.out W).mono ?_
    rintro e w1 ⟨rfl, hb⟩
    have HB1 := Lib.hid hb
    clear hb x0 x1 x2 x3 x4 x5 x6 x7 x8 x9 x10
    go_wp2_with fail
    go_ret2
    exact ⟨HB0.out.trans (HB1.out.mono HB0.out.size), .inr ⟨by simp, rfl⟩⟩
  · have hr2 : r = 0 := HER.out
    subst hr2
    go_enter Tryz.func6, Tryz.ntmps6
    go_wp2_with fail
    rw [← HW.out]
    refine (HCk.out W).mono ?_
    rintro e w1 ⟨rfl, hb⟩
    have HB1 := Lib.hid hb
    clear hb x0 x1 x2 x3 x4 x5 x6 x7 x8 x9 x10
    obtain ⟨x0, x1, x2, x3, x4, x5, x6, x7, x8, x9, x10⟩ := HX.out w1 HB1.out
    go_wp2_with fail
    refine (HBy.out (by first | trivial | rfl) w1 HB1.out).mono ?_
    rintro e w2 ⟨u, rfl, hown, hb⟩
    have HB2 := Lib.hid (below_on HB1.out hb)
    have HOw : Hid (OwnV w2 w.heap.size 5 u ((encP p p.s.toNat).map encB)) :=
      ⟨hown.1, hown.2.imp id fun ⟨g, cap, cur, e, h0, r⟩ => ⟨g, cap, cur, e, Nat.le_trans (Nat.le_trans HB0.out.size HB1.out.size) h0, r⟩⟩
    clear hb hown x0 x1 x2 x3 x4 x5 x6 x7 x8 x9 x10
    go_wp2_with fail
    go_ret2
    exact ⟨HB0.out.trans (HB2.out.mono HB0.out.size), .inl ⟨by first | trivial | rfl, u, rfl, HOw.out⟩⟩

end Go.Proofs.YtlmdbeccfoncpaaGreatDoor
