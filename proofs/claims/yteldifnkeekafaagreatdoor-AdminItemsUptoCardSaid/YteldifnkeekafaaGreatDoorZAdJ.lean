/- Package admin: Encode, Check, Decode, Report. -/
import Derived.Test.YteldifnkeekafaaGreatDoorZAdI
set_option maxHeartbeats 8000000
set_option linter.unusedSimpArgs false
set_option linter.unusedVariables false
set_option maxRecDepth 100000
namespace Go.Proofs.YteldifnkeekafaaGreatDoor
open Go Go.RowKit Go.Shelf

attribute [local go_sem] Oper.semAt_some

theorem ditN (n m t q : Nat) (h : 0 < n) : (itN n m t q).right = true ∧ (itN n m t q).bytes.length ≤ 100 ∧ (itN n m t q).depth ≤ 4 := by
 have hh := fun a b => (head_length a b).2
 have h1 := hh 4 (3 : Nat)
 have h2 := hh 4 (2 : Nat)
 have h3 := hh 0 (2 : Nat)
 have h4 := hh 0 n
 have h5 := hh 0 m
 have h6 := hh 0 t
 have h7 := hh 0 q
 have e : itE n m = itLs [itU 2, itLs [itU n, itU m]] := by rw [itE, if_neg (by omega)]
 refine ⟨?_, ?_, depth_itN n m t q⟩
 ·rw [itN, e]
  simp [itLs, itU, It.right, rightL, rightN]
 ·rw [itN, e]
  simp [itLs, itU, It.bytes, bytesL, ownB1, ownB4] at *
  omega

theorem dlist_small : ∀ l : List It, (∀ y ∈ l, y.right = true ∧ y.bytes.length ≤ 100 ∧ y.depth ≤ 4) → rightL l = true ∧ (bytesL l).length ≤ 100 * l.length ∧ It.depth.depthL l ≤ 4
 | [], _ => by simp [rightL, bytesL, It.depth.depthL]
 | y :: r, h => by
  obtain ⟨h1, h2, h3⟩ := h y (by simp)
  obtain ⟨g1, g2, g3⟩ := dlist_small r fun z hz => h z (List.mem_cons_of_mem _ hz)
  refine ⟨by simp [rightL, h1, g1], ?_, ?_⟩
  ·simp only [bytesL, List.length_append, List.length_cons]
   omega
  ·simp only [It.depth.depthL]
   omega
theorem dlist_err (l : List It) (hl : l.length ≤ 6) (h : ∀ y ∈ l, y.right = true ∧ y.bytes.length ≤ 100 ∧ y.depth ≤ 4) : (itLs l).err = 0 := by
 obtain ⟨h1, h2, h3⟩ := dlist_small l h
 have g := (head_length 4 (l.length : Nat)).2
 have e1 : (itLs l).right = true := by simp [itLs, It.right, rightN, h1]
 have e2 : (itLs l).depth ≤ 8 := by
  simp only [itLs, It.depth]
  omega
 have e3 : (itLs l).bytes.length ≤ 65536 := by
  simp only [itLs, It.bytes, ownB4, List.length_append]
  omega
 rw [It.err, if_pos e1, if_neg (by omega), if_neg (by omega)]

theorem boI_small (q : Bool) : (boI q).right = true ∧ (boI q).bytes.length ≤ 100 ∧ (boI q).depth ≤ 4 := by
 have g := (head_length 7 (20 + boN q)).2
 refine ⟨by cases q <;> simp [boI, boN, It.right, rightL, rightN], ?_, by simp [boI, It.depth, It.depth.depthL]⟩
 simp [boI, It.bytes, bytesL, ownB5]
 omega
theorem itU_small (n : Int) : (itU n).right = true ∧ (itU n).bytes.length ≤ 100 ∧ (itU n).depth ≤ 4 := by
 have g := (head_length 0 n).2
 refine ⟨by simp [itU, It.right, rightL, rightN], ?_, by simp [itU, It.depth, It.depth.depthL]⟩
 simp [itU, It.bytes, bytesL, ownB1]
 omega

theorem name_may {r q : Rc} (hk : r.k = 1) (h : rdR (layR 1 r) = some q) : r.name.may = true := by
 cases hm : r.name.may with
 | true => rfl
 | false =>
  exfalso
  have e1 : r.name.it = .mk 0 0 [] [] [] := by rw [NmT.it, if_neg (by rw [hm]; decide)]
  have hw : IntKind.u64.wrap r.k = 1 := by rw [hk]; decide
  have e2 : layR 1 r = itLs [itU 1, .mk 0 0 [] [] [], itU (IntKind.u64.wrap r.wh), itU (IntKind.u64.wrap r.wy), itU r.at0] := by
   show itLs [itU (IntKind.u64.wrap r.k), r.name.it, itU (IntKind.u64.wrap r.wh), itU (IntKind.u64.wrap r.wy), itU r.at0] = _
   rw [hw, e1]
  have e3 : nmI (.mk 0 0 [] [] []) = none := rfl
  rw [e2] at h
  simp [rdR, itLs, itU, tkU, rdKind, rdReport, tkN, It.l, It.k, It.n, e3] at h

theorem itemR_err {r : Rc} {x : It} (h : itemR r = some x) : x.err = 0 ∧ rdR x = some r := by
 unfold itemR at h
 split at h
 ·rename_i hk
  split at h
  ·rename_i hr
   injection h with h
   rw [h] at hr
   refine ⟨?_, hr⟩
   obtain ⟨n, hn, hn1, hn5⟩ : ∃ n : Nat, r.k.toNat = n ∧ 1 ≤ n ∧ n ≤ 5 := ⟨_, rfl, by omega, by omega⟩
   rw [hn] at h
   rw [← h]
   rcases (show n = 1 ∨ n = 2 ∨ n = 3 ∨ n = 4 ∨ n = 5 by omega) with rfl | rfl | rfl | rfl | rfl
   ·have hN := name_may (r := r) (by omega) (by rw [h]; exact hr)
    have e1 : r.name.it = itN r.n r.m r.t r.q := by rw [NmT.it, if_pos hN]; rfl
    have hn0 := (NmT.may_iff.1 hN).1
    show (itLs [itU (IntKind.u64.wrap r.k), r.name.it, itU (IntKind.u64.wrap r.wh), itU (IntKind.u64.wrap r.wy), itU r.at0]).err = 0
    refine dlist_err _ (by simp) ?_
    intro y hy
    simp only [List.mem_cons, List.not_mem_nil, or_false] at hy
    rcases hy with rfl | rfl | rfl | rfl | rfl
    ·exact itU_small _
    ·rw [e1]
     exact ditN _ _ _ _ hn0
    ·exact itU_small _
    ·exact itU_small _
    ·exact itU_small _
   ·show (itLs [itU (IntKind.u64.wrap r.k), itU r.no, itU r.nd, itU r.rg]).err = 0
    refine dlist_err _ (by simp) ?_
    intro y hy
    simp only [List.mem_cons, List.not_mem_nil, or_false] at hy
    rcases hy with rfl | rfl | rfl | rfl
    ·exact itU_small _
    ·exact itU_small _
    ·exact itU_small _
    ·exact itU_small _
   ·show (itLs [itU (IntKind.u64.wrap r.k), itU r.no, itU r.nd, itU r.rg, boI r.ys, itU r.un]).err = 0
    refine dlist_err _ (by simp) ?_
    intro y hy
    simp only [List.mem_cons, List.not_mem_nil, or_false] at hy
    rcases hy with rfl | rfl | rfl | rfl | rfl | rfl
    ·exact itU_small _
    ·exact itU_small _
    ·exact itU_small _
    ·exact itU_small _
    ·exact boI_small _
    ·exact itU_small _
   ·show (itLs [itU (IntKind.u64.wrap r.k), itU r.nd, itU r.fr, itU r.un, itU r.lv]).err = 0
    refine dlist_err _ (by simp) ?_
    intro y hy
    simp only [List.mem_cons, List.not_mem_nil, or_false] at hy
    rcases hy with rfl | rfl | rfl | rfl | rfl
    ·exact itU_small _
    ·exact itU_small _
    ·exact itU_small _
    ·exact itU_small _
    ·exact itU_small _
   ·show (itLs [itU (IntKind.u64.wrap r.k), itU r.nd, itU r.rg, itU r.no, boI r.ys]).err = 0
    refine dlist_err _ (by simp) ?_
    intro y hy
    simp only [List.mem_cons, List.not_mem_nil, or_false] at hy
    rcases hy with rfl | rfl | rfl | rfl | rfl
    ·exact itU_small _
    ·exact itU_small _
    ·exact itU_small _
    ·exact itU_small _
    ·exact boI_small _
  ·cases h
 ·cases h

def EncRc (w : World) (r : Rc) (e : Ending) (w' : World) : Prop := Below w.heap.size w w' ∧ ((∃ x u, itemR r = some x ∧ e = .returned (.tuple #[u, .int .i64 0]) ∧ OwnV w' w.heap.size 5 u (x.bytes.map encB)) ∨ (itemR r = none ∧ e = .returned (.tuple #[.slice none 0 0, .int .i64 2])))

theorem dEncode_any (r : Rc) (hok : r.ok) (w : World) (ht : TabW w) : Calls Tryz.prog 10 #[.agg #[.int .i64 r.k, .int .u32 r.n, .int .u32 r.m, .int .u64 r.t, .int .u32 r.q, .int .i64 r.wh, .int .i64 r.wy, .int .u64 r.at0, .int .u64 r.no, .int .u32 r.nd, .int .u32 r.rg, .bool r.ys, .int .u64 r.fr, .int .u64 r.un, .int .u8 r.lv]] w (EncRc w r) := by
 have hmf : ∀ (fn : Fn) (first cap : Array Value) (w : World), (Instr.makeFunc fn first cap).run Tryz.prog w = .ok (.func fn first cap) w := fun _ _ _ _ => rfl
 obtain ⟨W, hW⟩ : ∃ W, W = w.alloc (.cells #[.int .i64 r.k, .int .u32 r.n, .int .u32 r.m, .int .u64 r.t, .int .u32 r.q, .int .i64 r.wh, .int .i64 r.wy, .int .u64 r.at0, .int .u64 r.no, .int .u32 r.nd, .int .u32 r.rg, .bool r.ys, .int .u64 r.fr, .int .u64 r.un, .int .u8 r.lv] 32) := ⟨_, rfl⟩
 have hb : Below w.heap.size w W := by rw [hW]; exact below_al bR _
 have hR : RowB W w.heap.size [.int .i64 r.k, .int .u32 r.n, .int .u32 r.m, .int .u64 r.t, .int .u32 r.q, .int .i64 r.wh, .int .i64 r.wy, .int .u64 r.at0, .int .u64 r.no, .int .u32 r.nd, .int .u32 r.rg, .bool r.ys, .int .u64 r.fr, .int .u64 r.un, .int .u8 r.lv] := by rw [hW]; exact RowB.new w _ _
 have hs : w.heap.size < W.heap.size := by rw [hW]; simp
 have HT := h_ (dtriedI_any 23 #[] #[.pointer (some ⟨w.heap.size, 0, none⟩)] (itemR r) W (enters_of Tryz.func23 (by kernel_rfl) rfl) (fun w' h => by
  have h2 := dencode1_any w.heap.size r hok w' (hR.on h hs) (Nat.lt_of_lt_of_le hs h.size)
  simpa using h2))
 have HTb : Hid (∀ w', Below w.heap.size w w' → TabW w') := fun w' h => ht.on h
 have HB0 := h_ hb
 have HW := h_ hW
 clear hW hb hR hs ht hok
 go_enter Tryz.func10, Tryz.ntmps10
 go_wp2_with fail
 rw [← HW.out]
 refine HT.out.mono ?_
 rintro e w1 ⟨hb, ⟨x, a, c, A, C, hr, rfl, hit⟩ | ⟨hr, rfl⟩⟩
 rotate_left
 ·have HB : Hid (Below w.heap.size w (w1.alloc (.cells #[.int .i64 0, .int .u64 0, .slice none 0 0, .string ⟨#[]⟩, .slice none 0 0] 45))) := below_al (below_on HB0.out hb) _
  have HE := h_ hr
  clear hb hr
  go_wp2_with fail
  exact bodyPost_ret (v := .tuple #[.slice none 0 0, .int .i64 2]) (by simp [results, Tryz.results10, go_sem]) rfl ⟨HB.out, .inr ⟨HE.out, rfl⟩⟩
 obtain ⟨w2, hw2⟩ : ∃ w2, w2 = w1.alloc (.cells #[.int .i64 x.k, .int .u64 x.n, .slice a x.b.length c, .string ⟨x.s.toArray⟩, .slice A x.l.length C] 45) := ⟨_, rfl⟩
 have hb2 : Below w1.heap.size w1 w2 := by rw [hw2]; exact below_al bR _
 have HB2 : Hid (Below w.heap.size w w2) := below_on HB0.out (below_on hb hb2)
 have hq : RowB w2 w1.heap.size [.int .i64 x.k, .int .u64 x.n, .slice a x.b.length c, .string ⟨x.s.toArray⟩, .slice A x.l.length C] := by rw [hw2]; exact RowB.new w1 _ _
 have he := itemR_err hr
 have hdp : x.depth ≤ 60000 := by
  have h := he.1
  rw [It.err] at h
  split at h
  ·split at h
   ·cases h
   ·omega
  ·cases h
 have HEn := h_ (encode_any x _ w2 ((hit.new_on hb2).new_itV) (HTb.out w2 HB2.out) hdp)
 have HE := h_ hr
 have HEr := h_ he.1
 obtain ⟨y0, y1, y2, y3, y4⟩ := r5 hq
 have HW2 := h_ hw2
 rw [hw2] at y0 y1 y2 y3 y4
 clear hb hb2 hq he hdp hr hit hw2
 go_wp2_with fail
 rw [← HW2.out]
 clear y0 y1 y2 y3 y4
 refine HEn.out.mono ?_
 rintro e w3 ⟨hb3, ⟨h0, _⟩ | ⟨_, u, rfl, ho⟩⟩
 ·exact absurd HEr.out h0
 have HB3 := h_ (below_on HB2.out hb3)
 have HO : Hid (OwnV w3 w.heap.size 5 u (x.bytes.map encB)) := ⟨ho.1, ho.2.imp id fun ⟨g, cap, cur, e, h, rest⟩ => ⟨g, cap, cur, e, Nat.le_trans HB2.out.size h, rest⟩⟩
 obtain ⟨a9, c9, rfl, _⟩ := ho.bytes
 clear hb3 ho
 go_wp2_with fail
 exact bodyPost_ret (v := .tuple #[.slice a9 x.bytes.length c9, .int .i64 0]) (by simp [results, Tryz.results10, go_sem]) rfl ⟨HB3.out, .inl ⟨x, _, HE.out, rfl, HO.out⟩⟩

def chkRc (r : Rc) : Int := if (itemR r).isSome = true then 0 else 2
theorem dCheck_any (r : Rc) (hok : r.ok) (w : World) (ht : TabW w) : Calls Tryz.prog 33 #[.agg #[.int .i64 r.k, .int .u32 r.n, .int .u32 r.m, .int .u64 r.t, .int .u32 r.q, .int .i64 r.wh, .int .i64 r.wy, .int .u64 r.at0, .int .u64 r.no, .int .u32 r.nd, .int .u32 r.rg, .bool r.ys, .int .u64 r.fr, .int .u64 r.un, .int .u8 r.lv]] w fun e w' => e = .returned (.int .i64 (chkRc r)) ∧ Below w.heap.size w w' := by
 obtain ⟨W, hW⟩ : ∃ W, W = w.alloc (.cells #[.int .i64 r.k, .int .u32 r.n, .int .u32 r.m, .int .u64 r.t, .int .u32 r.q, .int .i64 r.wh, .int .i64 r.wy, .int .u64 r.at0, .int .u64 r.no, .int .u32 r.nd, .int .u32 r.rg, .bool r.ys, .int .u64 r.fr, .int .u64 r.un, .int .u8 r.lv] 32) := ⟨_, rfl⟩
 have hb : Below w.heap.size w W := by rw [hW]; exact below_al bR _
 have hR : RowB W w.heap.size [.int .i64 r.k, .int .u32 r.n, .int .u32 r.m, .int .u64 r.t, .int .u32 r.q, .int .i64 r.wh, .int .i64 r.wy, .int .u64 r.at0, .int .u64 r.no, .int .u32 r.nd, .int .u32 r.rg, .bool r.ys, .int .u64 r.fr, .int .u64 r.un, .int .u8 r.lv] := by rw [hW]; exact RowB.new w _ _
 have HE := h_ (dEncode_any r hok W (ht.on hb))
 have HB0 := h_ hb
 have HW := h_ hW
 obtain ⟨x0, x1, x2, x3, x4, x5, x6, x7, x8, x9, x10, x11, x12, x13, x14⟩ := r15 hR
 rw [hW] at x0 x1 x2 x3 x4 x5 x6 x7 x8 x9 x10 x11 x12 x13 x14
 clear hW hb hR ht hok
 go_enter Tryz.func33, Tryz.ntmps33
 go_wp2_with fail
 rw [← HW.out]
 clear x0 x1 x2 x3 x4 x5 x6 x7 x8 x9 x10 x11 x12 x13 x14
 refine HE.out.mono ?_
 rintro e w1 ⟨hb, ⟨x, u, hr, rfl, ho⟩ | ⟨hr, rfl⟩⟩
 ·have HB := h_ (below_on HB0.out hb)
  have HC : Hid (chkRc r = 0) := by rw [Hid, chkRc, hr]; rfl
  obtain ⟨a9, c9, rfl, _⟩ := ho.bytes
  clear hb hr ho
  go_wp2_with fail
  go_ret
  exact ⟨by rw [HC.out]; rfl, HB.out⟩
 ·have HB := h_ (below_on HB0.out hb)
  have HC : Hid (chkRc r = 2) := by rw [Hid, chkRc, hr]; rfl
  clear hb hr
  go_wp2_with fail
  go_ret
  exact ⟨by rw [HC.out]; rfl, HB.out⟩

def rdRcB (bs : List UInt8) : Except Int Rc := match decodeN bs with
 | .error c => .error c
 | .ok x => match rdR x with
  | some q => .ok q
  | none => .error 180
theorem rdRcB_err {bs : List UInt8} {c : Nat} (h : decodeN bs = .error c) : rdRcB bs = .error c := by rw [rdRcB, h]
theorem rdRcB_some {bs : List UInt8} {x : It} {q : Rc} (h : decodeN bs = .ok x) (hr : rdR x = some q) : rdRcB bs = .ok q := by rw [rdRcB, h]; simp only [hr]
theorem rdRcB_none {bs : List UInt8} {x : It} (h : decodeN bs = .ok x) (hr : rdR x = none) : rdRcB bs = .error 180 := by rw [rdRcB, h]; simp only [hr]
theorem ddepth_list : ∀ {l : List It} {y : It}, y ∈ l → y.depth ≤ It.depth.depthL l
 | z :: r, y, h => by
  simp only [It.depth.depthL]
  rcases List.mem_cons.1 h with rfl | h
  ·omega
  ·have := ddepth_list h
   omega
theorem ddepth_mem {x y : It} (h : y ∈ x.l) : y.depth ≤ x.depth := by
 obtain ⟨k, n, b, s, l⟩ := x
 have h1 : y.depth ≤ It.depth.depthL l := ddepth_list h
 simp only [It.depth]
 omega
theorem ddecode_depth {bs : List UInt8} {x : It} (h : decodeN bs = .ok x) : ∀ y ∈ x.l, y.depth ≤ 60000 := by
 have he : x.err = 0 := by
  unfold decodeN at h
  split at h
  ·cases h
  ·rename_i y m hf
   split at h
   ·cases h
   ·injection h with h
    subst h
    exact (firstN_back hf).1
 have hd : x.depth ≤ 60000 := by
  rw [It.err] at he
  split at he
  ·split at he
   ·cases he
   ·omega
  ·cases he
 intro y hy
 have := ddepth_mem hy
 omega

def DecRc (w : World) (bs : List UInt8) (e : Ending) (w' : World) : Prop := Below w.heap.size w w' ∧ match rdRcB bs with
 | .ok q => e = .returned (.tuple #[.agg #[.int .i64 q.k, .int .u32 q.n, .int .u32 q.m, .int .u64 q.t, .int .u32 q.q, .int .i64 q.wh, .int .i64 q.wy, .int .u64 q.at0, .int .u64 q.no, .int .u32 q.nd, .int .u32 q.rg, .bool q.ys, .int .u64 q.fr, .int .u64 q.un, .int .u8 q.lv], .int .i64 0])
 | .error c => e = .returned (.tuple #[.agg #[.int .i64 0, .int .u32 0, .int .u32 0, .int .u64 0, .int .u32 0, .int .i64 0, .int .i64 0, .int .u64 0, .int .u64 0, .int .u32 0, .int .u32 0, .bool false, .int .u64 0, .int .u64 0, .int .u8 0], .int .i64 c])

theorem dDecode_any (a : Option Addr) (n c : Nat) (bs : List UInt8) (hn : n = bs.length) (w : World) (hr : RdB w w.heap.size a bs) (hc : n ≤ c) (hc47 : bs.length ≤ 140737488355328) (ht : TabW w) : Calls Tryz.prog 7 #[.slice a n c] w (DecRc w bs) := by
 have hmf : ∀ (fn : Fn) (first cap : Array Value) (w : World), (Instr.makeFunc fn first cap).run Tryz.prog w = .ok (.func fn first cap) w := fun _ _ _ _ => rfl
 obtain ⟨W, hW⟩ : ∃ W, W = w.alloc (.cells #[.int .i64 0, .int .u32 0, .int .u32 0, .int .u64 0, .int .u32 0, .int .i64 0, .int .i64 0, .int .u64 0, .int .u64 0, .int .u32 0, .int .u32 0, .bool false, .int .u64 0, .int .u64 0, .int .u8 0] 32) := ⟨_, rfl⟩
 have hb : Below w.heap.size w W := by rw [hW]; exact below_al bR _
 have HR0 : Hid (RowB W w.heap.size [.int .i64 0, .int .u32 0, .int .u32 0, .int .u64 0, .int .u32 0, .int .i64 0, .int .i64 0, .int .u64 0, .int .u64 0, .int .u32 0, .int .u32 0, .bool false, .int .u64 0, .int .u64 0, .int .u8 0]) := by rw [hW]; exact RowB.new w _ _
 have HS0 : Hid (w.heap.size < W.heap.size) := by rw [Hid, hW]; simp
 have HD := h_ (decode_any a n c bs hn W ((hr.below hb).mono hb.size) hc hc47 (ht.on hb))
 have HB0 := h_ hb
 have HW := h_ hW
 clear hW hb hr hc hc47 ht hn
 go_enter Tryz.func7, Tryz.ntmps7
 go_wp2_with fail
 rw [← HW.out]
 refine HD.out.mono ?_
 rintro e w1 ⟨hb1, hm⟩
 cases hit : decodeN bs with
 | error q =>
  rw [hit] at hm
  have hm : e = .returned (.tuple #[itemV 0 0 [], .int .i64 q]) := hm
  subst hm
  have hq := decodeN_err hit
  have hq0 : ((q : Int) != 0) = true := by simp; omega
  have HE := h_ (rdRcB_err hit)
  obtain ⟨w2, hw2⟩ : ∃ w2, w2 = w1.alloc (.cells #[.int .i64 0, .int .u64 0, .slice none 0 0, .string ⟨#[]⟩, .slice none 0 0] 45) := ⟨_, rfl⟩
  have hb2 : Below w1.heap.size w1 w2 := by rw [hw2]; exact below_al bR _
  have HB2 : Hid (Below w.heap.size w w2) := below_on HB0.out (below_on hb1 hb2)
  have HR2 := h_ (HR0.out.on (below_on hb1 hb2) HS0.out)
  have HW2 := h_ hw2
  clear hb1 hb2 hit hq hw2
  unfold itemV
  go_upto_region 3 with fail
  rw [← HW2.out]
  obtain ⟨r0, r1, r2, r3, r4, r5, r6, r7, r8, r9, r10, r11, r12, r13, r14⟩ := r15 HR2.out
  obtain ⟨f0, f1, f2, f3, f4, f5, f6, f7, f8, f9, f10, f11, f12, f13, f14⟩ := f15 HR2.out
  go_wp2_with fail
  change bodyPost _ _ _ _ _ (putL w2 w.heap.size 0 [.int .i64 0, .int .u32 0, .int .u32 0, .int .u64 0, .int .u32 0, .int .i64 0, .int .i64 0, .int .u64 0, .int .u64 0, .int .u32 0, .int .u32 0, .bool false, .int .u64 0, .int .u64 0, .int .u8 0])
  have hrow : RowB (putL w2 w.heap.size 0 [.int .i64 0, .int .u32 0, .int .u32 0, .int .u64 0, .int .u32 0, .int .i64 0, .int .i64 0, .int .u64 0, .int .u64 0, .int .u32 0, .int .u32 0, .bool false, .int .u64 0, .int .u64 0, .int .u8 0]) w.heap.size [.int .i64 0, .int .u32 0, .int .u32 0, .int .u64 0, .int .u32 0, .int .i64 0, .int .i64 0, .int .u64 0, .int .u64 0, .int .u32 0, .int .u32 0, .bool false, .int .u64 0, .int .u64 0, .int .u8 0] := putL_row _ _ 0 _ HR2.out
  have hbk : Below w.heap.size w (putL w2 w.heap.size 0 [.int .i64 0, .int .u32 0, .int .u32 0, .int .u64 0, .int .u32 0, .int .i64 0, .int .i64 0, .int .u64 0, .int .u64 0, .int .u32 0, .int .u32 0, .bool false, .int .u64 0, .int .u64 0, .int .u8 0]) := putL_bel (Nat.le_refl _) _ 0 _ HB2.out
  generalize putL w2 w.heap.size 0 [.int .i64 0, .int .u32 0, .int .u32 0, .int .u64 0, .int .u32 0, .int .i64 0, .int .i64 0, .int .u64 0, .int .u64 0, .int .u32 0, .int .u32 0, .bool false, .int .u64 0, .int .u64 0, .int .u8 0] = w30 at *
  obtain ⟨k0, k1, k2, k3, k4, k5, k6, k7, k8, k9, k10, k11, k12, k13, k14⟩ := r15 hrow
  exact bodyPost_ret (v := .tuple #[.agg #[.int .i64 0, .int .u32 0, .int .u32 0, .int .u64 0, .int .u32 0, .int .i64 0, .int .i64 0, .int .u64 0, .int .u64 0, .int .u32 0, .int .u32 0, .bool false, .int .u64 0, .int .u64 0, .int .u8 0], .int .i64 q]) (by simp [results, Tryz.results7, go_sem, k0, k1, k2, k3, k4, k5, k6, k7, k8, k9, k10, k11, k12, k13, k14]) rfl ⟨hbk, by rw [HE.out]⟩
 | ok x =>
  rw [hit] at hm
  obtain ⟨v, rfl, hx⟩ := hm
  obtain ⟨a, c, A, C, rfl⟩ := hx.form
  obtain ⟨w2, hw2⟩ : ∃ w2, w2 = w1.alloc (.cells #[.int .i64 x.k, .int .u64 x.n, .slice a x.b.length c, .string ⟨x.s.toArray⟩, .slice A x.l.length C] 45) := ⟨_, rfl⟩
  have hb2 : Below w1.heap.size w1 w2 := by rw [hw2]; exact below_al bR _
  have hs2 : w1.heap.size < w2.heap.size := by rw [hw2]; simp
  have hq : RowB w2 w1.heap.size [.int .i64 x.k, .int .u64 x.n, .slice a x.b.length c, .string ⟨x.s.toArray⟩, .slice A x.l.length C] := by rw [hw2]; exact RowB.new w1 _ _
  have hv : ItV w2 w2.heap.size (.agg #[.int .i64 x.k, .int .u64 x.n, .slice a x.b.length c, .string ⟨x.s.toArray⟩, .slice A x.l.length C]) x := (hx.new_on hb2).new_itV
  have HB2 : Hid (Below w.heap.size w w2) := below_on HB0.out (below_on hb1 hb2)
  have HR2 := h_ (HR0.out.on (below_on hb1 hb2) HS0.out)
  have HS2 : Hid (w.heap.size < w2.heap.size) := Nat.lt_of_lt_of_le HS0.out (below_on hb1 hb2).size
  have HT := h_ (dtriedR_any 19 #[] #[.pointer (some ⟨w1.heap.size, 0, none⟩)] (rdR x) w2 (enters_of Tryz.func19 (by kernel_rfl) rfl) (fun w' h => by
   have h2 := ddecode1_any w1.heap.size x a A c C w' (ddecode_depth hit) (hv.on h) (hq.on h hs2) (Nat.lt_of_lt_of_le hs2 h.size)
   simpa using h2))
  have HIt := h_ hit
  have HW2 := h_ hw2
  clear hb1 hb2 hs2 hq hv hx hit hw2
  go_wp2_with fail
  rw [← HW2.out]
  refine HT.out.mono ?_
  rintro e w3 ⟨hb3, ⟨q, hr, rfl⟩ | ⟨hr, rfl⟩⟩
  ·have HE := h_ (rdRcB_some HIt.out hr)
   have HB3 := h_ (below_on HB2.out hb3)
   have HR3 := h_ (HR2.out.on hb3 HS2.out)
   clear hb3 hr
   obtain ⟨r0, r1, r2, r3, r4, r5, r6, r7, r8, r9, r10, r11, r12, r13, r14⟩ := r15 HR3.out
   obtain ⟨f0, f1, f2, f3, f4, f5, f6, f7, f8, f9, f10, f11, f12, f13, f14⟩ := f15 HR3.out
   go_wp2_with fail
   change bodyPost _ _ _ _ _ (putL w3 w.heap.size 0 [.int .i64 q.k, .int .u32 q.n, .int .u32 q.m, .int .u64 q.t, .int .u32 q.q, .int .i64 q.wh, .int .i64 q.wy, .int .u64 q.at0, .int .u64 q.no, .int .u32 q.nd, .int .u32 q.rg, .bool q.ys, .int .u64 q.fr, .int .u64 q.un, .int .u8 q.lv])
   have hrow : RowB (putL w3 w.heap.size 0 [.int .i64 q.k, .int .u32 q.n, .int .u32 q.m, .int .u64 q.t, .int .u32 q.q, .int .i64 q.wh, .int .i64 q.wy, .int .u64 q.at0, .int .u64 q.no, .int .u32 q.nd, .int .u32 q.rg, .bool q.ys, .int .u64 q.fr, .int .u64 q.un, .int .u8 q.lv]) w.heap.size [.int .i64 q.k, .int .u32 q.n, .int .u32 q.m, .int .u64 q.t, .int .u32 q.q, .int .i64 q.wh, .int .i64 q.wy, .int .u64 q.at0, .int .u64 q.no, .int .u32 q.nd, .int .u32 q.rg, .bool q.ys, .int .u64 q.fr, .int .u64 q.un, .int .u8 q.lv] := putL_row _ _ 0 _ HR3.out
   have hbk : Below w.heap.size w (putL w3 w.heap.size 0 [.int .i64 q.k, .int .u32 q.n, .int .u32 q.m, .int .u64 q.t, .int .u32 q.q, .int .i64 q.wh, .int .i64 q.wy, .int .u64 q.at0, .int .u64 q.no, .int .u32 q.nd, .int .u32 q.rg, .bool q.ys, .int .u64 q.fr, .int .u64 q.un, .int .u8 q.lv]) := putL_bel (Nat.le_refl _) _ 0 _ HB3.out
   generalize putL w3 w.heap.size 0 [.int .i64 q.k, .int .u32 q.n, .int .u32 q.m, .int .u64 q.t, .int .u32 q.q, .int .i64 q.wh, .int .i64 q.wy, .int .u64 q.at0, .int .u64 q.no, .int .u32 q.nd, .int .u32 q.rg, .bool q.ys, .int .u64 q.fr, .int .u64 q.un, .int .u8 q.lv] = w30 at *
   obtain ⟨k0, k1, k2, k3, k4, k5, k6, k7, k8, k9, k10, k11, k12, k13, k14⟩ := r15 hrow
   exact bodyPost_ret (v := .tuple #[.agg #[.int .i64 q.k, .int .u32 q.n, .int .u32 q.m, .int .u64 q.t, .int .u32 q.q, .int .i64 q.wh, .int .i64 q.wy, .int .u64 q.at0, .int .u64 q.no, .int .u32 q.nd, .int .u32 q.rg, .bool q.ys, .int .u64 q.fr, .int .u64 q.un, .int .u8 q.lv], .int .i64 0]) (by simp [results, Tryz.results7, go_sem, k0, k1, k2, k3, k4, k5, k6, k7, k8, k9, k10, k11, k12, k13, k14]) rfl ⟨hbk, by rw [HE.out]⟩
  ·have HE := h_ (rdRcB_none HIt.out hr)
   have HB3 := h_ (below_on HB2.out hb3)
   have HR3 := h_ (HR2.out.on hb3 HS2.out)
   clear hb3 hr
   obtain ⟨r0, r1, r2, r3, r4, r5, r6, r7, r8, r9, r10, r11, r12, r13, r14⟩ := r15 HR3.out
   obtain ⟨f0, f1, f2, f3, f4, f5, f6, f7, f8, f9, f10, f11, f12, f13, f14⟩ := f15 HR3.out
   go_wp2_with fail
   change bodyPost _ _ _ _ _ (putL w3 w.heap.size 0 [.int .i64 0, .int .u32 0, .int .u32 0, .int .u64 0, .int .u32 0, .int .i64 0, .int .i64 0, .int .u64 0, .int .u64 0, .int .u32 0, .int .u32 0, .bool false, .int .u64 0, .int .u64 0, .int .u8 0])
   have hrow : RowB (putL w3 w.heap.size 0 [.int .i64 0, .int .u32 0, .int .u32 0, .int .u64 0, .int .u32 0, .int .i64 0, .int .i64 0, .int .u64 0, .int .u64 0, .int .u32 0, .int .u32 0, .bool false, .int .u64 0, .int .u64 0, .int .u8 0]) w.heap.size [.int .i64 0, .int .u32 0, .int .u32 0, .int .u64 0, .int .u32 0, .int .i64 0, .int .i64 0, .int .u64 0, .int .u64 0, .int .u32 0, .int .u32 0, .bool false, .int .u64 0, .int .u64 0, .int .u8 0] := putL_row _ _ 0 _ HR3.out
   have hbk : Below w.heap.size w (putL w3 w.heap.size 0 [.int .i64 0, .int .u32 0, .int .u32 0, .int .u64 0, .int .u32 0, .int .i64 0, .int .i64 0, .int .u64 0, .int .u64 0, .int .u32 0, .int .u32 0, .bool false, .int .u64 0, .int .u64 0, .int .u8 0]) := putL_bel (Nat.le_refl _) _ 0 _ HB3.out
   generalize putL w3 w.heap.size 0 [.int .i64 0, .int .u32 0, .int .u32 0, .int .u64 0, .int .u32 0, .int .i64 0, .int .i64 0, .int .u64 0, .int .u64 0, .int .u32 0, .int .u32 0, .bool false, .int .u64 0, .int .u64 0, .int .u8 0] = w30 at *
   obtain ⟨k0, k1, k2, k3, k4, k5, k6, k7, k8, k9, k10, k11, k12, k13, k14⟩ := r15 hrow
   exact bodyPost_ret (v := .tuple #[.agg #[.int .i64 0, .int .u32 0, .int .u32 0, .int .u64 0, .int .u32 0, .int .i64 0, .int .i64 0, .int .u64 0, .int .u64 0, .int .u32 0, .int .u32 0, .bool false, .int .u64 0, .int .u64 0, .int .u8 0], .int .i64 180]) (by simp [results, Tryz.results7, go_sem, k0, k1, k2, k3, k4, k5, k6, k7, k8, k9, k10, k11, k12, k13, k14]) rfl ⟨hbk, by rw [HE.out]⟩

end Go.Proofs.YteldifnkeekafaaGreatDoor

