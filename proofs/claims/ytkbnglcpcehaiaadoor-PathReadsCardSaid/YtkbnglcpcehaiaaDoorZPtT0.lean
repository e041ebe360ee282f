/- The document's Of of paths. -/
import Derived.Test.YtkbnglcpcehaiaaDoorZPtS
import Derived.Test.YtkbnglcpcehaiaaDoorZShR
namespace Go.Proofs.YtkbnglcpcehaiaaDoor
open Go Go.RowKit Go.Shelf
set_option linter.unusedSimpArgs false
set_option linter.unusedVariables false
set_option maxRecDepth 100000

/-- A path's item's kind and parts. -/
theorem itP_k (b : Bool) (zs : List Cr) : (itP b zs).k = 4 ∧ (itP b zs).l = itB b :: zs.map itX := ⟨rfl, rfl⟩

theorem isP_form {x : It} (h : isP x = true) : ∃ b zs, rightX zs = true ∧ x = itP b zs := by
  unfold isP at h
  rw [Bool.and_eq_true] at h
  exact ⟨_, _, h.1, ((It.same_iff _ _).1 h.2).symm⟩

theorem no_path {x : It} (h : ∀ b zs, rightX zs = true → x = itP b zs → False) : isP x = false := by
  cases hp : isP x with
  | false => rfl
  | true =>
    obtain ⟨b, zs, h1, h2⟩ := isP_form hp
    exact (h b zs h1 h2).elim

/-- A crossing's item, as the document looks at it. -/
def okR (y : It) : Prop := shapeB y [1, 5] = true ∧ ∀ p q, y.l = [p, q] → p.n ≤ 4294967295

theorem okR_itX (z : Cr) : okR (itX z) := by
  refine ⟨rfl, fun p q h => ?_⟩
  have e : (itX z).l = [itU z.1.toNat, itB z.2] := rfl
  rw [e] at h
  injection h with h1 h2
  rw [← h1]
  have := z.1.toNat_lt
  show ((z.1.toNat : Nat) : Int) ≤ 4294967295
  omega

theorem okR_at {b : Bool} {zs : List Cr} {x y : It} {j : Nat} (h : x = itP b zs) (hj : x.l[j + 1]? = some y) : okR y := by
  subst h
  rw [(itP_k b zs).2, List.getElem?_cons_succ, List.getElem?_map] at hj
  obtain ⟨z, _, rfl⟩ := Option.map_eq_some_iff.1 hj
  exact okR_itX z

theorem shapeB_two {y : It} (h : shapeB y [1, 5] = true) : ∃ p q, y.l = [p, q] ∧ p.k = 1 ∧ q.k = 5 := by
  have h1 := (shapeB_iff.1 h).2
  match hy : y.l, h1 with
  | [p, q], h1 =>
    simp only [List.map_cons, List.map_nil, List.cons.injEq, and_true] at h1
    exact ⟨p, q, rfl, h1.1, h1.2⟩
  | [], h1 => simp at h1
  | [_], h1 => simp at h1
  | _ :: _ :: _ :: _, h1 => simp at h1

theorem crG_okR {y p q : It} (h : shapeB y [1, 5] = true) (hl : y.l = [p, q]) : crG y = (UInt32.ofNat p.n.toNat, q.n == 1) := by
  refine crG_yes ?_ hl
  obtain ⟨p', q', e, h1, h2⟩ := shapeB_two h
  rw [hl] at e
  injection e with e1 e2
  injection e2 with e2 _
  rw [hl]
  unfold shX
  simp only [e1, e2, h1, h2]
  rfl

theorem tail_path {b : Bool} {zs : List Cr} {x : It} (h : x = itP b zs) : (x.l.drop 1).map crG = zs := by
  subst h
  rw [(itP_k b zs).2]
  simp only [List.drop_succ_cons, List.drop_zero, List.map_map]
  have e3 : (crG ∘ itX) = id := funext itX_back
  rw [e3, List.map_id]

theorem head_path {b : Bool} {zs : List Cr} {x hd : It} {tl : List It} (h : x = itP b zs) (hl : x.l = hd :: tl) : (hd.n == 1) = b ∧ hd.k = 5 ∧ tl.map crG = zs := by
  have h2 := tail_path h
  rw [hl] at h2
  subst h
  rw [(itP_k b zs).2] at hl
  injection hl with h1 _
  rw [← h1]
  refine ⟨by cases b <;> rfl, rfl, h2⟩

theorem own_below {w w' : World} {B : Nat} {e : TypeId} {k : Nat} {v : Value} {n : Nat} {xs : List Value} (h : w.ownsRow B e k v n xs) (hb : Below w.heap.size w w') : w'.ownsRow B e k v n xs :=
  ⟨h.1, h.2.imp id fun ⟨g, cap, cur, e, h0, hg, r⟩ => ⟨g, cap, cur, e, h0, (hb.block g (Array.getElem?_eq_some_iff.1 hg).1).trans hg, r⟩⟩

/-- What the document's Of answers. -/
def ROfP (w : World) (x : It) (e : Ending) (w' : World) : Prop :=
  Below w.heap.size w w' ∧ ((∃ b zs, rightX zs = true ∧ x = itP b zs ∧ ∃ A C, e = .returned (.tuple #[.agg #[.bool b, .slice A zs.length C], .bool true]) ∧ zs.length ≤ C ∧ RdX w' w'.heap.size A zs) ∨
    (isP x = false ∧ e = .returned (.tuple #[.agg #[.bool false, .slice none 0 0], .bool false])))

/-- What the loop of Of holds: j crossings are read. -/
def RfI (W wr : World) (P : Nat) (gb : Bool) (tl : List It) (j : Nat) : Prop :=
  Below W.heap.size W wr ∧ ∃ v, (wr.cell? ⟨P, 0, none⟩ = some (.bool gb) ∧ wr.cell? ⟨P, 1, none⟩ = some v ∧ wr.frozen? ⟨P, 1, none⟩ = false) ∧ wr.ownsRow (W.heap.size + 1) 27 2 v ((tl.take j).map crG).length (flatX ((tl.take j).map crG)) ∧ ∀ i y, i < j → tl[i]? = some y → okR y

theorem own_new (w : World) (B : Nat) : w.ownsRow B 27 2 (.slice none 0 0) ([] : List Cr).length (flatX []) := World.ownsRow_nil _ _ _ _

set_option maxHeartbeats 16000000 in
theorem refPOf_any (x : It) (v : Value) (w : World) (hv : ItV w w.heap.size v x) (h100 : x.l.length ≤ 1000) : Calls Tryd.prog 22 #[v] w (ROfP w x) := by
  obtain ⟨a, c, A, C, rfl⟩ := hv.form
  obtain ⟨W, hW⟩ : ∃ W, W = (w.alloc (.cells #[.int .i64 x.k, .int .u64 x.n, .slice a x.b.length c, .string ⟨x.s.toArray⟩, .slice A x.l.length C] 45)).alloc (.cells #[.bool false, .slice none 0 0] 24) := ⟨_, rfl⟩
  have HB0 : Hid (Below w.heap.size w W) := by rw [hW]; exact below_al (below_al (Below.refl _ _) _) _
  have HX : Hid (∀ w', Below W.heap.size W w' → (w'.cell? ⟨w.heap.size, 0, none⟩ = some (.int .i64 x.k) ∧ w'.cell? ⟨w.heap.size, 1, none⟩ = some (.int .u64 x.n) ∧ w'.cell? ⟨w.heap.size, 2, none⟩ = some (.slice a x.b.length c) ∧ w'.cell? ⟨w.heap.size, 3, none⟩ = some (.string ⟨x.s.toArray⟩) ∧ w'.cell? ⟨w.heap.size, 4, none⟩ = some (.slice A x.l.length C)) ∧ (w'.cell? ⟨w.heap.size + 1, 0, none⟩ = some (.bool false) ∧ w'.cell? ⟨w.heap.size + 1, 1, none⟩ = some (.slice none 0 0) ∧ w'.frozen? ⟨w.heap.size + 1, 0, none⟩ = false ∧ w'.frozen? ⟨w.heap.size + 1, 1, none⟩ = false)) := fun w' h => by
    rw [hW] at h
    have h1 := below_on (below_al (Below.refl _ (w.alloc (.cells #[.int .i64 x.k, .int .u64 x.n, .slice a x.b.length c, .string ⟨x.s.toArray⟩, .slice A x.l.length C] 45))) (.cells #[.bool false, .slice none 0 0] 24)) h
    have q1 := box_at h 0
    have q2 := box_at h 1
    have f1 := frozen_at h 0
    have f2 := frozen_at h 1
    rw [World.size_alloc] at q1 q2 f1 f2
    exact ⟨⟨box_at h1 0, box_at h1 1, box_at h1 2, box_at h1 3, box_at h1 4⟩, q1, q2, f1, f2⟩
  have HV : Hid (∀ w', Below W.heap.size W w' → ItV w' w'.heap.size (.agg #[.int .i64 x.k, .int .u64 x.n, .slice a x.b.length c, .string ⟨x.s.toArray⟩, .slice A x.l.length C]) x) := fun w' h => (hv.on HB0.out).on h
  obtain ⟨hC, hlist⟩ := hv.list
  have hWs : W.heap.size = w.heap.size + 1 + 1 := by rw [hW]; simp
  have HWs := Lib.hid hWs
  have HL := Lib.hid hlist
  have HW := Lib.hid hW
  clear hW hv hlist hWs
  obtain ⟨⟨x0, x1, x2, x3, x4⟩, b0, b1, f0, f1⟩ := HX.out W (Below.refl _ _)
  by_cases hk : x.k = 4
  rotate_left
  · have h1n : (x.k != 4) = true := by simpa using hk
    have h1' : (x.k == 4) = false := by simpa using hk
    have HNo : Hid (isP x = false) := no_path fun b zs _ h => hk (by rw [h]; rfl)
    clear hk
    go_enter Tryd.func22, Tryd.ntmps22
    go_upto_region 1 with fail
    rw [← HW.out]
    go_wp2_with fail
    have s2 := set2_cells b0 b1 (.bool false) (.slice none 0 0)
    refine bodyPost_ret (v := .tuple #[.agg #[.bool false, .slice none 0 0], .bool false]) (by obtain ⟨s2, s3⟩ := s2; simp [results, Tryd.results22, go_sem, s2, s3]) rfl ⟨?_, .inr ⟨HNo.out, rfl⟩⟩
    exact (HB0.out.setCell (by show w.heap.size ≤ w.heap.size + 1; omega) _).setCell (by show w.heap.size ≤ w.heap.size + 1; omega) _
  have h1n : (x.k != 4) = false := by simpa using hk
  have h1' : (x.k == 4) = true := by simpa using hk
  have HK4 := Lib.hid hk
  by_cases hn : x.l.length = 0
  · have e0 : ((x.l.length : Int) == 0) = true := by rw [hn]; rfl
    have HNo : Hid (isP x = false) := no_path fun b zs _ h => by rw [h] at hn; simp [itP_k] at hn
    clear hn hk
    go_enter Tryd.func22, Tryd.ntmps22
    go_upto_region 1 with fail
    rw [← HW.out]
    go_wp2_with fail
    have s2 := set2_cells b0 b1 (.bool false) (.slice none 0 0)
    refine bodyPost_ret (v := .tuple #[.agg #[.bool false, .slice none 0 0], .bool false]) (by obtain ⟨s2, s3⟩ := s2; simp [results, Tryd.results22, go_sem, s2, s3]) rfl ⟨?_, .inr ⟨HNo.out, rfl⟩⟩
    exact (HB0.out.setCell (by show w.heap.size ≤ w.heap.size + 1; omega) _).setCell (by show w.heap.size ≤ w.heap.size + 1; omega) _
  obtain ⟨g, o, rfl, hg, hlL⟩ : ∃ g o, A = some ⟨g, o, none⟩ ∧ g < w.heap.size ∧ ItL w w.heap.size g o x.l := by
    rcases HL.out with h | h
    · rw [h] at hn; simp at hn
    · exact h
  obtain ⟨hd, tl, hx⟩ : ∃ hd tl, x.l = hd :: tl := by
    cases h : x.l with
    | nil => rw [h] at hn; simp at hn
    | cons p q => exact ⟨p, q, rfl⟩
  have hlen : x.l.length = tl.length + 1 := by rw [hx]; simp
  have e0 : ((x.l.length : Int) == 0) = false := by simp only [beq_eq_false_iff_ne]; omega
  have hpos : (0 : Int) < (x.l.length : Int) := by omega
  have HHd : Hid (∀ w', Below W.heap.size W w' → w'.cell? ⟨g, o, none⟩ = some (.int .i64 hd.k) ∧ w'.cell? ⟨g, o + 1, none⟩ = some (.int .u64 hd.n)) := fun w' h => by
    obtain ⟨_, _, _, _, _, c0, c1, _⟩ := hlL.get (i := 0) (x := hd) (by rw [hx]; rfl) (HB0.out.trans (h.mono HB0.out.size)) hg
    exact ⟨by simpa using c0, by simpa using c1⟩
  have HLl : Hid (x.l = hd :: tl) := hx
  have HIt : Hid (∀ k y, x.l[k]? = some y → ∃ a c A C, ItV w w.heap.size (.agg #[.int .i64 y.k, .int .u64 y.n, .slice a y.b.length c, .string ⟨y.s.toArray⟩, .slice A y.l.length C]) y ∧ ∀ w', Below w.heap.size w w' → (w'.cell? ⟨g, o + k * 5, none⟩ = some (.int .i64 y.k) ∧ w'.cell? ⟨g, o + k * 5 + 1, none⟩ = some (.int .u64 y.n) ∧ w'.cell? ⟨g, o + k * 5 + 2, none⟩ = some (.slice a y.b.length c) ∧ w'.cell? ⟨g, o + k * 5 + 3, none⟩ = some (.string ⟨y.s.toArray⟩) ∧ w'.cell? ⟨g, o + k * 5 + 4, none⟩ = some (.slice A y.l.length C))) := fun k y hy => by
    obtain ⟨a, c, A, C, h0, h1, h2, h3, h4, h5⟩ := hlL.get (i := k) (x := y) hy (Below.refl _ w) hg
    exact ⟨a, c, A, C, h0, fun w' h => ⟨(h.cell (p := ⟨g, _, none⟩) hg).trans h1, (h.cell (p := ⟨g, _, none⟩) hg).trans h2, (h.cell (p := ⟨g, _, none⟩) hg).trans h3, (h.cell (p := ⟨g, _, none⟩) hg).trans h4, (h.cell (p := ⟨g, _, none⟩) hg).trans h5⟩⟩
  obtain ⟨k0, k1⟩ := HHd.out W (Below.refl _ _)
  by_cases h5 : hd.k = 5
  rotate_left
  · have h5n : (hd.k != 5) = true := by simpa using h5
    have h5' : (hd.k == 5) = false := by simpa using h5
    have HNo : Hid (isP x = false) := no_path fun b zs _ h => h5 (head_path h hx).2.1
    clear h5 hx hn hlL hlen hk
    go_enter Tryd.func22, Tryd.ntmps22
    go_upto_region 1 with fail
    rw [← HW.out]
    go_wp2_with fail
    have s2 := set2_cells b0 b1 (.bool false) (.slice none 0 0)
    refine bodyPost_ret (v := .tuple #[.agg #[.bool false, .slice none 0 0], .bool false]) (by obtain ⟨s2, s3⟩ := s2; simp [results, Tryd.results22, go_sem, s2, s3]) rfl ⟨?_, .inr ⟨HNo.out, rfl⟩⟩
    exact (HB0.out.setCell (by show w.heap.size ≤ w.heap.size + 1; omega) _).setCell (by show w.heap.size ≤ w.heap.size + 1; omega) _
  have h5n : (hd.k != 5) = false := by simpa using h5
  have h5' : (hd.k == 5) = true := by simpa using h5
  have HK : Hid (x.k = 4 ∧ hd.k = 5) := ⟨hk, h5⟩
  have HLen := Lib.hid hlen
  clear hx hn hlL hlen hk h5
  go_enter Tryd.func22, Tryd.ntmps22
  go_upto_region 1 with fail
  rw [← HW.out]
  clear b0 b1 f0 f1 x0 x1 x2 x3 x4
  obtain ⟨⟨x0, x1, x2, x3, x4⟩, b0, b1, f0, f1⟩ := HX.out W (Below.refl _ _)
  go_upto_region 4 with fail
  obtain ⟨gb, hgb⟩ : ∃ gb, gb = (hd.n == 1) := ⟨_, rfl⟩
  rw [← hgb]
  have HGb := Lib.hid hgb
  obtain ⟨V, hV⟩ : ∃ V, V = W.alloc (.cells #[.bool gb, .slice none 0 0] 24) := ⟨_, rfl⟩
  rw [← hV]
  have HI0 : Hid (RfI W V W.heap.size gb tl 0) := by
    rw [hV]
    have h := box_at (Below.refl (W.alloc (.cells #[.bool gb, .slice none 0 0] 24)).heap.size (W.alloc (.cells #[.bool gb, .slice none 0 0] 24)))
    have f := frozen_at (Below.refl (W.alloc (.cells #[.bool gb, .slice none 0 0] 24)).heap.size (W.alloc (.cells #[.bool gb, .slice none 0 0] 24))) 1
    exact ⟨below_al (Below.refl _ _) _, .slice none 0 0, ⟨h 0, h 1, f⟩, own_new _ _, fun i y hi _ => absurd hi (Nat.not_lt_zero _)⟩
  clear hgb hV x0 x1 x2 x3 x4 b0 b1 f0 f1 k0 k1 e0 h5n h5' hpos
  go_wp2_with fail
  go_loopw [5] (fun i wr => ∃ k : Nat, 1 ≤ k ∧ k ≤ tl.length + 1 ∧ i = .int .i64 k ∧ Hid (RfI W wr W.heap.size gb tl (k - 1))) (fun i _ => tl.length + 2 - (intOf i).toNat)
  case atStart => exact ⟨1, Nat.le_refl _, by omega, rfl, HI0⟩
  case round =>
    obtain ⟨k, hk1, hk, rfl, HI⟩ := hrel
    clear HI0
    obtain ⟨⟨x0, x1, x2, x3, x4⟩, b0, b1, f0, f1⟩ := HX.out wr HI.out.1
    by_cases hlt : k < tl.length + 1
    · have hltx : k < x.l.length := by have := HLen.out; omega
      have hltI : (k : Int) < (x.l.length : Int) := by omega
      obtain ⟨y, hy⟩ : ∃ y, x.l[k]? = some y := ⟨_, List.getElem?_eq_getElem hltx⟩
      obtain ⟨ay, cy, Ay, Cy, hvy, hcy⟩ := HIt.out k y hy
      have HTk : Hid (tl[k - 1]? = some y) := by
        have h := hy
        rw [HLl.out] at h
        obtain ⟨j, rfl⟩ : ∃ j, k = j + 1 := ⟨k - 1, by omega⟩
        show tl[j + 1 - 1]? = some y
        simpa using h
      have HY := Lib.hid hy
      obtain ⟨c0, c1, c2, c3, c4⟩ := hcy wr (HB0.out.trans (HI.out.1.mono HB0.out.size))
      have HCy := Lib.hid hcy
      obtain ⟨hCy, hly⟩ := hvy.list
      obtain ⟨_, hlenY⟩ := hvy.parts
      have HVy := Lib.hid hvy
      have HLy := Lib.hid hly
      clear hcy hy hvy hly
      go_wp2_with fail
      obtain ⟨Wr, hWr⟩ : ∃ V, V = wr.alloc (.cells #[.int .i64 1, .int .i64 5] 3) := ⟨_, rfl⟩
      have HBr : Hid (Below wr.heap.size wr Wr) := by rw [hWr]; exact below_al (Below.refl _ _) _
      have HKs : Hid (RdK Wr wr.heap.size [1, 5]) := by
        rw [hWr]
        refine ⟨by simp, fun j hj => ?_⟩
        rcases (show j = 0 ∨ j = 1 by simp at hj; omega) with rfl | rfl
        · exact box_at (Below.refl _ _) 0
        · exact box_at (Below.refl _ _) 1
      have HVr : Hid (ItV Wr Wr.heap.size (.agg #[.int .i64 y.k, .int .u64 y.n, .slice ay y.b.length cy, .string ⟨y.s.toArray⟩, .slice Ay y.l.length Cy]) y) := (HVy.out.on HB0.out).on HI.out.1 |>.on HBr.out
      rw [← hWr]
      clear hWr x0 x1 x2 x3 x4 b0 b1 f0 f1 c0 c1 c2 c3 c4
      refine (shape_ref y _ wr.heap.size 2 2 [1, 5] rfl (by decide) Wr HVr.out HKs.out).mono ?_
      rintro e w1 ⟨rfl, hb⟩
      have HB1 : Hid (Below wr.heap.size wr w1) := below_on HBr.out hb
      clear hb
      obtain ⟨sh, hsh⟩ : ∃ sh, sh = shapeB y [1, 5] := ⟨_, rfl⟩
      rw [← hsh]
      cases sh
      · have HNo : Hid (isP x = false) := no_path fun b zs _ h => by
          obtain ⟨j, hj⟩ : ∃ j, k = j + 1 := ⟨k - 1, by omega⟩
          have h1 := okR_at (j := j) h (by rw [← hj]; exact HY.out)
          rw [h1.1] at hsh
          cases hsh
        clear hsh
        obtain ⟨_, b0, b1, f0, f1⟩ := HX.out _ (HI.out.1.trans (HB1.out.mono HI.out.1.size))
        have HBz : Hid (Below W.heap.size W _) := (HI.out.1.trans (HB1.out.mono HI.out.1.size))
        go_wp2_with fail
        have s2 := set2_cells b0 b1 (.bool false) (.slice none 0 0)
        refine bodyPost_ret (v := .tuple #[.agg #[.bool false, .slice none 0 0], .bool false]) (by obtain ⟨s2, s3⟩ := s2; simp [results, Tryd.results22, go_sem, s2, s3]) rfl ⟨?_, .inr ⟨HNo.out, rfl⟩⟩
        exact HB0.out.trans (((HBz.out.mono HB0.out.size).setCell (by simp) _).setCell (by simp) _)
      · obtain ⟨p, q, hpq, hp1, hq5⟩ := shapeB_two hsh.symm
        have hl2 : y.l.length = 2 := by rw [hpq]; rfl
        obtain ⟨g2, o2, rfl, hg2, hL2⟩ : ∃ g o, Ay = some ⟨g, o, none⟩ ∧ g < w.heap.size ∧ ItL w w.heap.size g o y.l := by
          rcases HLy.out with h | h
          · rw [h] at hpq; cases hpq
          · exact h
        have HBase : Hid (∀ w', Below (W.heap.size + 1) wr w' → Below w.heap.size w w') := fun w' h => HB0.out.trans ((HI.out.1.mono HB0.out.size).trans (h.mono (by have := HB0.out.size; omega)))
        have HPq : Hid (∀ w', Below (W.heap.size + 1) wr w' → w'.cell? ⟨g2, o2 + 1, none⟩ = some (.int .u64 p.n) ∧ w'.cell? ⟨g2, o2 + 5 + 1, none⟩ = some (.int .u64 q.n)) := fun w' h => by
          obtain ⟨_, _, _, _, _, _, c1, _⟩ := hL2.get (i := 0) (x := p) (by rw [hpq]; rfl) (HBase.out w' h) hg2
          obtain ⟨_, _, _, _, _, _, c6, _⟩ := hL2.get (i := 1) (x := q) (by rw [hpq]; rfl) (HBase.out w' h) hg2
          exact ⟨by simpa using c1, by simpa using c6⟩
        obtain ⟨_, _, _, _, hvp, _⟩ := hL2.get (i := 0) (x := p) (by rw [hpq]; rfl) (Below.refl _ w) hg2
        have hup := hvp.parts.1
        have HZ : Hid (crG y = (UInt32.ofNat p.n.toNat, q.n == 1)) := crG_okR hsh.symm hpq
        have HShy : Hid (shapeB y [1, 5] = true ∧ y.l = [p, q]) := ⟨hsh.symm, hpq⟩
        have HUp := Lib.hid hup
        have HF1 : Hid (Below (W.heap.size + 1) wr w1) := HB1.out.mono (by have h1 := HI.out.2; obtain ⟨v, ⟨h2, _⟩, _⟩ := h1; exact World.block_lt_of_cell? _ _ h2)
        have HXb : Hid (∀ w', Below (W.heap.size + 1) wr w' → w'.cell? ⟨w.heap.size, 4, none⟩ = some (.slice (some ⟨g, o, none⟩) x.l.length C)) := fun w' h => (HX.out w' (HI.out.1.trans (h.mono (by omega)))).1.2.2.2.2
        have HYb : Hid (∀ w', Below (W.heap.size + 1) wr w' → w'.cell? ⟨g, o + k * 5 + 4, none⟩ = some (.slice (some ⟨g2, o2, none⟩) 2 Cy)) := fun w' h => by
          have h4 := (HCy.out w' (HBase.out w' h)).2.2.2.2
          rw [hl2] at h4
          exact h4
        clear hsh hpq hp1 hq5 hL2 hvp hup hCy hlenY hl2
        have x4 := HXb.out w1 HF1.out
        have y4 := HYb.out w1 HF1.out
        obtain ⟨z1, z2⟩ := HPq.out w1 HF1.out
        by_cases hbig : 4294967295 < p.n
        · have HNo : Hid (isP x = false) := no_path fun b zs _ h => by
            obtain ⟨j, hj⟩ : ∃ j, k = j + 1 := ⟨k - 1, by omega⟩
            have h1 := okR_at (j := j) h (by rw [← hj]; exact HY.out)
            have h2 := h1.2 p q HShy.out.2
            omega
          obtain ⟨_, b0, b1, f0, f1⟩ := HX.out _ (HI.out.1.trans (HB1.out.mono HI.out.1.size))
          have HBz : Hid (Below W.heap.size W _) := (HI.out.1.trans (HB1.out.mono HI.out.1.size))
          go_wp2_with fail
          have s2 := set2_cells b0 b1 (.bool false) (.slice none 0 0)
          refine bodyPost_ret (v := .tuple #[.agg #[.bool false, .slice none 0 0], .bool false]) (by obtain ⟨s2, s3⟩ := s2; simp [results, Tryd.results22, go_sem, s2, s3]) rfl ⟨?_, .inr ⟨HNo.out, rfl⟩⟩
          exact HB0.out.trans (((HBz.out.mono HB0.out.size).setCell (by simp) _).setCell (by simp) _)
        · have hbig' : ¬ 4294967295 < p.n := hbig
          obtain ⟨_, v, ⟨v0, v1, v2⟩, hown, hall⟩ := HI.out
          obtain ⟨A5, C5, rfl, hC5, _, _⟩ := own_rd hown
          have HOwn := Lib.hid hown
          have HAll := Lib.hid hall
          have hPl := World.block_lt_of_cell? _ _ v0
          have hwrap : IntKind.u32.wrap p.n = ((UInt32.ofNat p.n.toNat).toNat : Int) := by
            have hu1 : (UInt32.ofNat p.n.toNat).toNat = p.n.toNat % 4294967296 := by simp
            rw [hu1]
            have h1 := HUp.out.1
            have h2 := HUp.out.2
            simp [IntKind.wrap, IntKind.signed, IntKind.bits]
            omega
          have HPb : Hid (∀ w', Below (W.heap.size + 1) wr w' → (w'.cell? ⟨W.heap.size, 0, none⟩ = some (.bool gb) ∧ w'.cell? ⟨W.heap.size, 1, none⟩ = some (.slice A5 ((tl.take (k - 1)).map crG).length C5) ∧ w'.frozen? ⟨W.heap.size, 1, none⟩ = false)) := fun w' h =>
            ⟨(h.cell (p := ⟨W.heap.size, 0, none⟩) (by simp)).trans v0, (h.cell (p := ⟨W.heap.size, 1, none⟩) (by simp)).trans v1, (h.frozen (p := ⟨W.heap.size, 1, none⟩) (by simp)).trans v2⟩
          have HELD : Hid (∀ w', Below (W.heap.size + 1) wr w' → w'.cell? ⟨w.heap.size, 4, none⟩ = some (.slice (some ⟨g, o, none⟩) x.l.length C) ∧ (w'.cell? ⟨W.heap.size, 0, none⟩ = some (.bool gb) ∧ w'.cell? ⟨W.heap.size, 1, none⟩ = some (.slice A5 ((tl.take (k - 1)).map crG).length C5)) ∧ w'.cell? ⟨g, o + k * 5 + 4, none⟩ = some (.slice (some ⟨g2, o2, none⟩) 2 Cy) ∧ (w'.cell? ⟨g2, o2 + 1, none⟩ = some (.int .u64 p.n) ∧ w'.cell? ⟨g2, o2 + 5 + 1, none⟩ = some (.int .u64 q.n))) := fun w' h =>
            ⟨HXb.out w' h, ⟨(HPb.out w' h).1, (HPb.out w' h).2.1⟩, HYb.out w' h, HPq.out w' h⟩
          have hzl : ((tl.take (k - 1)).map crG).length ≤ 2000 := by
            simp only [List.length_map, List.length_take]
            have := HLen.out
            omega
          obtain ⟨zs, hzs⟩ : ∃ zs, zs = (tl.take (k - 1)).map crG := ⟨_, rfl⟩
          rw [← hzs] at HOwn HPb HELD hzl
          have HZs := Lib.hid hzs
          obtain ⟨z, hz⟩ : ∃ z : Cr, z = (UInt32.ofNat p.n.toNat, q.n == 1) := ⟨_, rfl⟩
          have hz1 : (UInt32.ofNat p.n.toNat).toNat = z.1.toNat := by rw [hz]
          have hz2 : (q.n == 1) = z.2 := by rw [hz]
          rw [hz1] at hwrap
          have HZz : Hid (crG y = z) := by rw [hz]; exact HZ.out
          have HWr : Hid (Below W.heap.size W wr) := HI.out.1
          clear hall hown hzs hz hz1 v0 v1 v2 HZ HI
          have hn1 : (4294967295 < p.n) = False := by simp; omega
          have F : Below (W.heap.size + 1) wr w1 := HF1.out
          have hP1 : W.heap.size + 1 ≤ w1.heap.size := Nat.le_trans hPl HB1.out.size
          obtain ⟨v0, v1, v2⟩ := HPb.out w1 F
          go_wp2_with fail
          clear x4 y4 z1 z2 v0 v1 v2
          refine wp_region_T (fun w' => w'.cell? ⟨w.heap.size, 4, none⟩ = some (.slice (some ⟨g, o, none⟩) x.l.length C) ∧ (w'.cell? ⟨W.heap.size, 0, none⟩ = some (.bool gb) ∧ w'.cell? ⟨W.heap.size, 1, none⟩ = some (.slice A5 zs.length C5)) ∧ w'.cell? ⟨g, o + k * 5 + 4, none⟩ = some (.slice (some ⟨g2, o2, none⟩) 2 Cy) ∧ (w'.cell? ⟨g2, o2 + 1, none⟩ = some (.int .u64 p.n) ∧ w'.cell? ⟨g2, o2 + 5 + 1, none⟩ = some (.int .u64 q.n))) 25 (by kernel_rfl) ?_
          refine wpAnyT_take (i := 0) (v := ?_) rfl (by kernel_rfl) (by kernel_rfl) (by kernel_rfl) (by kernel_rfl) (fun _ _ _ h => h) (Or.inl ⟨by rfl, ?_⟩) (HELD.out _ F.drew) ?_
          rotate_left
          · intro w hSw
            (try dsimp only at hSw)
            go_simp
            all_goals with_reducible rfl
          simp only [Act.put, List.setIfInBounds_toArray, List.set_cons_zero, List.set_cons_succ]
          refine wpAnyT_take (i := 1) (v := ?_) rfl (by kernel_rfl) (by kernel_rfl) (by kernel_rfl) (by kernel_rfl) (fun _ _ _ h => h) (Or.inl ⟨by rfl, ?_⟩) (HELD.out _ F.drew) ?_
          rotate_left
          · intro w hSw
            (try dsimp only at hSw)
            go_simp
            all_goals with_reducible rfl
          simp only [Act.put, List.setIfInBounds_toArray, List.set_cons_zero, List.set_cons_succ]
          refine wpAnyT_take (i := 2) (v := ?_) rfl (by kernel_rfl) (by kernel_rfl) (by kernel_rfl) (by kernel_rfl) (fun _ _ _ h => h) (Or.inl ⟨by rfl, ?_⟩) (HELD.out _ F.drew) ?_
          rotate_left
          · intro w hSw
            (try dsimp only at hSw)
            go_simp
            all_goals with_reducible rfl
          simp only [Act.put, List.setIfInBounds_toArray, List.set_cons_zero, List.set_cons_succ]
          refine wpAnyT_take (i := 3) (v := ?_) rfl (by kernel_rfl) (by kernel_rfl) (by kernel_rfl) (by kernel_rfl) (fun _ _ _ h => h) (Or.inl ⟨by rfl, ?_⟩) (HELD.out _ F.drew) ?_
          rotate_left
          · intro w hSw
            (try dsimp only at hSw)
            go_simp
            all_goals with_reducible rfl
          simp only [Act.put, List.setIfInBounds_toArray, List.set_cons_zero, List.set_cons_succ]
          refine wpAnyT_take (i := 4) (v := ?_) rfl (by kernel_rfl) (by kernel_rfl) (by kernel_rfl) (by kernel_rfl) (fun _ _ _ h => h) (Or.inl ⟨by rfl, ?_⟩) (HELD.out _ F.drew) ?_
          rotate_left
          · intro w hSw
            (try dsimp only at hSw)
            go_simp
            all_goals with_reducible rfl
          simp only [Act.put, List.setIfInBounds_toArray, List.set_cons_zero, List.set_cons_succ]
          refine wpAnyT_take (i := 5) (v := ?_) rfl (by kernel_rfl) (by kernel_rfl) (by kernel_rfl) (by kernel_rfl) (fun _ _ _ h => h) (Or.inl ⟨by rfl, ?_⟩) (HELD.out _ F.drew) ?_
          rotate_left
          · intro w hSw
            (try dsimp only at hSw)
            go_simp
            all_goals with_reducible rfl
          simp only [Act.put, List.setIfInBounds_toArray, List.set_cons_zero, List.set_cons_succ]
          refine wpAnyT_take (i := 6) (v := ?_) rfl (by kernel_rfl) (by kernel_rfl) (by kernel_rfl) (by kernel_rfl) (fun _ _ _ h => h) (Or.inl ⟨by rfl, ?_⟩) (HELD.out _ F.drew) ?_
          rotate_left
          · intro w hSw
            (try dsimp only at hSw)
            go_simp
            all_goals with_reducible rfl
          simp only [Act.put, List.setIfInBounds_toArray, List.set_cons_zero, List.set_cons_succ]
          refine wpAnyT_take (i := 7) (v := ?_) rfl (by kernel_rfl) (by kernel_rfl) (by kernel_rfl) (by kernel_rfl) (fun _ _ _ h => h) (Or.inl ⟨by rfl, ?_⟩) (HELD.out _ F.drew) ?_
          rotate_left
          · intro w hSw
            (try dsimp only at hSw)
            go_simp
            all_goals with_reducible rfl
          simp only [Act.put, List.setIfInBounds_toArray, List.set_cons_zero, List.set_cons_succ]
          refine wpAnyT_take (i := 8) (v := ?_) rfl (by kernel_rfl) (by kernel_rfl) (by kernel_rfl) (by kernel_rfl) (fun _ _ _ h => h) (Or.inl ⟨by rfl, ?_⟩) (HELD.out _ F.drew) ?_
          rotate_left
          · intro w hSw
            (try dsimp only at hSw)
            go_simp
            all_goals with_reducible rfl
          simp only [Act.put, List.setIfInBounds_toArray, List.set_cons_zero, List.set_cons_succ]
          refine wpAnyT_take (i := 9) (v := ?_) rfl (by kernel_rfl) (by kernel_rfl) (by kernel_rfl) (by kernel_rfl) (fun _ _ _ h => h) (Or.inl ⟨by rfl, ?_⟩) (HELD.out _ F.drew) ?_
          rotate_left
          · intro w hSw
            (try dsimp only at hSw)
            go_simp
            all_goals with_reducible rfl
          simp only [Act.put, List.setIfInBounds_toArray, List.set_cons_zero, List.set_cons_succ]
          refine wpAnyT_take (i := 10) (v := ?_) rfl (by kernel_rfl) (by kernel_rfl) (by kernel_rfl) (by kernel_rfl) (fun _ _ _ h => h) (Or.inl ⟨by rfl, ?_⟩) (HELD.out _ F.drew) ?_
          rotate_left
          · intro w hSw
            (try dsimp only at hSw)
            go_simp
            all_goals with_reducible rfl
          simp only [Act.put, List.setIfInBounds_toArray, List.set_cons_zero, List.set_cons_succ]
          refine wpAnyT_take (i := 11) (v := ?_) rfl (by kernel_rfl) (by kernel_rfl) (by kernel_rfl) (by kernel_rfl) (fun _ _ _ h => h) (Or.inl ⟨by rfl, ?_⟩) (HELD.out _ F.drew) ?_
          rotate_left
          · intro w hSw
            (try dsimp only at hSw)
            go_simp
            all_goals with_reducible rfl
          simp only [Act.put, List.setIfInBounds_toArray, List.set_cons_zero, List.set_cons_succ]
          refine wpAnyT_take (i := 12) (v := ?_) rfl (by kernel_rfl) (by kernel_rfl) (by kernel_rfl) (by kernel_rfl) (fun _ _ _ h => h) (Or.inl ⟨by rfl, ?_⟩) (HELD.out _ F.drew) ?_
          rotate_left
          · intro w hSw
            (try dsimp only at hSw)
            go_simp
            all_goals with_reducible rfl
          simp only [Act.put, List.setIfInBounds_toArray, List.set_cons_zero, List.set_cons_succ]
          refine wpAnyT_take (i := 13) (v := ?_) rfl (by kernel_rfl) (by kernel_rfl) (by kernel_rfl) (by kernel_rfl) (fun _ _ _ h => h) (Or.inl ⟨by rfl, ?_⟩) (HELD.out _ F.drew) ?_
          rotate_left
          · intro w hSw
            (try dsimp only at hSw)
            go_simp
            all_goals with_reducible rfl
          simp only [Act.put, List.setIfInBounds_toArray, List.set_cons_zero, List.set_cons_succ]
          refine wpAnyT_take (i := 14) (v := ?_) rfl (by kernel_rfl) (by kernel_rfl) (by kernel_rfl) (by kernel_rfl) (fun _ _ _ h => h) (Or.inl ⟨by rfl, ?_⟩) (HELD.out _ F.drew) ?_
          rotate_left
          · intro w hSw
            (try dsimp only at hSw)
            go_simp
            all_goals with_reducible rfl
          simp only [Act.put, List.setIfInBounds_toArray, List.set_cons_zero, List.set_cons_succ]
          refine wpAnyT_take (i := 15) (v := ?_) rfl (by kernel_rfl) (by kernel_rfl) (by kernel_rfl) (by kernel_rfl) (fun _ _ _ h => h) (Or.inl ⟨by rfl, ?_⟩) (HELD.out _ F.drew) ?_
          rotate_left
          · intro w hSw
            (try dsimp only at hSw)
            go_simp
            all_goals with_reducible rfl
          simp only [Act.put, List.setIfInBounds_toArray, List.set_cons_zero, List.set_cons_succ]
          refine wpAnyT_take (i := 16) (v := ?_) rfl (by kernel_rfl) (by kernel_rfl) (by kernel_rfl) (by kernel_rfl) (fun _ _ _ h => h) (Or.inl ⟨by rfl, ?_⟩) (HELD.out _ F.drew) ?_
          rotate_left
          · intro w hSw
            (try dsimp only at hSw)
            go_simp
            all_goals with_reducible rfl
          simp only [Act.put, List.setIfInBounds_toArray, List.set_cons_zero, List.set_cons_succ]
          refine wpAnyT_take (i := 17) (v := ?_) rfl (by kernel_rfl) (by kernel_rfl) (by kernel_rfl) (by kernel_rfl) (fun _ _ _ h => h) (Or.inl ⟨by rfl, ?_⟩) (HELD.out _ F.drew) ?_
          rotate_left
          · intro w hSw
            (try dsimp only at hSw)
            go_simp
            all_goals with_reducible rfl
          simp only [Act.put, List.setIfInBounds_toArray, List.set_cons_zero, List.set_cons_succ]
          refine wpAnyT_take (i := 18) (v := ?_) rfl (by kernel_rfl) (by kernel_rfl) (by kernel_rfl) (by kernel_rfl) (fun _ _ _ h => h) (Or.inl ⟨by rfl, ?_⟩) (HELD.out _ F.drew) ?_
          rotate_left
          · intro w hSw
            (try dsimp only at hSw)
            go_simp
            all_goals with_reducible rfl
          simp only [Act.put, List.setIfInBounds_toArray, List.set_cons_zero, List.set_cons_succ]
          refine wpAnyT_take (i := 19) (v := ?_) rfl (by kernel_rfl) (by kernel_rfl) (by kernel_rfl) (by kernel_rfl) (fun _ _ _ h => h) (Or.inl ⟨by rfl, ?_⟩) (HELD.out _ F.drew) ?_
          rotate_left
          · intro w hSw
            (try dsimp only at hSw)
            go_simp
            all_goals with_reducible rfl
          simp only [Act.put, List.setIfInBounds_toArray, List.set_cons_zero, List.set_cons_succ]
          refine wpAnyT_take (i := 20) (v := ?_) rfl (by kernel_rfl) (by kernel_rfl) (by kernel_rfl) (by kernel_rfl) (fun _ _ _ h => h) (Or.inl ⟨by rfl, ?_⟩) (HELD.out _ F.drew) ?_
          rotate_left
          · intro w hSw
            (try dsimp only at hSw)
            go_simp
            all_goals with_reducible rfl
          simp only [Act.put, List.setIfInBounds_toArray, List.set_cons_zero, List.set_cons_succ]
          refine wpAnyT_take (i := 21) (v := ?_) rfl (by kernel_rfl) (by kernel_rfl) (by kernel_rfl) (by kernel_rfl) (fun _ _ _ h => h) (Or.inl ⟨by rfl, ?_⟩) (HELD.out _ F.drew) ?_
          rotate_left
          · intro w hSw
            (try dsimp only at hSw)
            go_simp
            all_goals with_reducible rfl
          simp only [Act.put, List.setIfInBounds_toArray, List.set_cons_zero, List.set_cons_succ]
          refine wpAnyT_take (i := 22) (v := ?_) rfl (by kernel_rfl) (by kernel_rfl) (by kernel_rfl) (by kernel_rfl) (fun _ _ _ h => h) (Or.inl ⟨by rfl, ?_⟩) (HELD.out _ F.drew) ?_
          rotate_left
          · intro w hSw
            (try dsimp only at hSw)
            go_simp
            all_goals with_reducible rfl
          simp only [Act.put, List.setIfInBounds_toArray, List.set_cons_zero, List.set_cons_succ]
          refine wpAnyT_one (i := 23) (by kernel_rfl) rfl (fun K hK => ?_)
          go_simp
          refine hK.out _ _ (fun _ => (HELD.out _ ((F.alloc hP1 (.cells #[.int .u32 z.1.toNat, .bool z.2] 27)).drew))) ?_
          clear hK K
          try simp only [Act.put, List.setIfInBounds_toArray, List.set_cons_zero, List.set_cons_succ]
          refine wpAnyT_one (i := 24) (by kernel_rfl) rfl (fun K hK => ?_)
          obtain ⟨v', w4, hrun, hown4, hgr, _⟩ := appX2 (w1.alloc (.cells #[.int .u32 z.1.toNat, .bool z.2] 27)).drew (W.heap.size + 1) (.slice A5 zs.length C5) zs ((own_below HOwn.out HB1.out).alloc _) (Nat.le_trans hP1 (Nat.le_of_lt (by simp [World.drew]))) (some ⟨w1.heap.size, 0, none⟩) 1 (w1.alloc (.cells #[.int .u32 z.1.toNat, .bool z.2] 27)).drew.heap.size [z] (rd_new w1 z) (by simp; omega)
          obtain ⟨A6, n6, C6, rfl⟩ : ∃ A6 n6 C6, v' = .slice A6 n6 C6 := by
            obtain ⟨A6, C6, e, _⟩ := own_rd hown4
            exact ⟨A6, _, C6, e⟩
          have hbl : ∀ r, (Value.slice A5 zs.length C5).ownBlock = some r → W.heap.size + 1 ≤ r := fun r e => (World.ownsRow.lt HOwn.out r e).1
          replace F := ((F.alloc hP1 (.cells #[.int .u32 z.1.toNat, .bool z.2] 27)).drew).grown hgr (Nat.le_trans hP1 (Nat.le_of_lt (by simp [World.drew]))) hbl
          have HRun := Lib.hid hrun
          have HOwn4 := Lib.hid hown4
          clear hrun hown4 hgr hbl
          refine step_runX (by rfl) _ _ _ _ (by rfl) _ _ _ _ (by rfl) (by rfl) HRun.out ?_
          refine hK.out _ _ (fun _ => (HELD.out _ F)) ?_
          clear hK K
          try simp only [Act.put, List.setIfInBounds_toArray, List.set_cons_zero, List.set_cons_succ]
          refine wpAnyT_one (i := 25) (by kernel_rfl) rfl (fun K hK => ?_)
          go_simp
          refine hK.out _ _ (fun h => absurd h (by decide)) ?_
          clear hK K
          try simp only [Act.put, List.setIfInBounds_toArray, List.set_cons_zero, List.set_cons_succ]
          refine wpAnyT_one (i := 26) (by kernel_rfl) rfl (fun K hK => ?_)
          obtain ⟨u0, u1, u2⟩ := HPb.out w4 F
          go_simp
          refine hK.out _ _ (fun h => absurd h (by decide)) ?_
          clear hK K
          try simp only [Act.put, List.setIfInBounds_toArray, List.set_cons_zero, List.set_cons_succ]
          refine wpAnyT_done (by kernel_rfl) ?_ _
          go_wp2_with fail
          go_roundw
          case rel =>
            refine ⟨k + 1, by omega, by omega, by go_num, ?_⟩
            obtain ⟨u0, u1, u2⟩ := HPb.out w4 F
            have e1 : tl.take (k + 1 - 1) = tl.take (k - 1) ++ [y] := by
              obtain ⟨j, rfl⟩ : ∃ j, k = j + 1 := ⟨k - 1, by omega⟩
              have h := HTk.out
              simp only [Nat.add_sub_cancel] at h ⊢
              rw [List.take_add_one, h]
              rfl
            have e2 : (tl.take (k + 1 - 1)).map crG = zs ++ [z] := by rw [e1, List.map_append, ← HZs.out, List.map_cons, List.map_nil, HZz.out]
            unfold RfI
            rw [e2]
            refine ⟨(HWr.out.trans (F.mono (Nat.le_succ _))).setCell (Nat.le_refl _) _, .slice A6 n6 C6, ⟨?_, World.cell?_setCell_same _ _ _ u1, ?_⟩, ownsRow_setCell_below HOwn4.out (by simp) _, fun i y' hi hy' => ?_⟩
            · rw [World.cell?_setCell_other _ _ _ _ (by simp)]
              exact u0
            · rw [World.frozen?_setCell]
              exact u2
            · by_cases hik : i < k - 1
              · exact HAll.out i y' hik hy'
              · obtain rfl : i = k - 1 := by omega
                rw [HTk.out] at hy'
                injection hy' with hy'
                subst hy'
                refine ⟨HShy.out.1, fun p' q' h => ?_⟩
                rw [HShy.out.2] at h
                injection h with h1 _
                rw [← h1]
                omega
          case measure => simp [intOf]; omega
    · have hke : k - 1 = tl.length := by omega
      have hkI : ¬ (k : Int) < (x.l.length : Int) := by have := HLen.out; omega
      have hi := HI.out
      unfold RfI at hi
      rw [hke, List.take_length] at hi
      obtain ⟨hW1, v, ⟨v0, v1, v2⟩, hown, hall⟩ := hi
      obtain ⟨A5, C5, rfl, hC5, hrd, hg5⟩ := own_rd hown
      obtain ⟨zs, hzs⟩ : ∃ zs, zs = tl.map crG := ⟨_, rfl⟩
      rw [← hzs] at hC5 hrd hg5 v1
      have HWr := Lib.hid hW1
      have HRd := Lib.hid hrd
      have HG5 := Lib.hid hg5
      have HZs := Lib.hid hzs
      have hPl := World.block_lt_of_cell? _ _ v0
      have hzl : zs.length ≤ 2000 := by
        rw [hzs, List.length_map]
        have := HLen.out
        omega
      have HPc : Hid (∀ w', Below wr.heap.size wr w' → (w'.cell? ⟨W.heap.size, 0, none⟩ = some (.bool gb) ∧ w'.cell? ⟨W.heap.size, 1, none⟩ = some (.slice A5 zs.length C5))) := fun w' h => ⟨(h.cell (p := ⟨W.heap.size, 0, none⟩) hPl).trans v0, (h.cell (p := ⟨W.heap.size, 1, none⟩) hPl).trans v1⟩
      have HELD : Hid (∀ w', Below wr.heap.size wr w' → (w'.cell? ⟨w.heap.size, 0, none⟩ = some (.int .i64 x.k) ∧ w'.cell? ⟨w.heap.size, 1, none⟩ = some (.int .u64 x.n) ∧ w'.cell? ⟨w.heap.size, 2, none⟩ = some (.slice a x.b.length c) ∧ w'.cell? ⟨w.heap.size, 3, none⟩ = some (.string ⟨x.s.toArray⟩) ∧ w'.cell? ⟨w.heap.size, 4, none⟩ = some (.slice (some ⟨g, o, none⟩) x.l.length C)) ∧ (w'.cell? ⟨W.heap.size, 0, none⟩ = some (.bool gb) ∧ w'.cell? ⟨W.heap.size, 1, none⟩ = some (.slice A5 zs.length C5))) := fun w' h => ⟨(HX.out w' (HWr.out.trans (h.mono HWr.out.size))).1, HPc.out w' h⟩
      have HVx : Hid (∀ w', Below wr.heap.size wr w' → ItV w' w'.heap.size (.agg #[.int .i64 x.k, .int .u64 x.n, .slice a x.b.length c, .string ⟨x.s.toArray⟩, .slice (some ⟨g, o, none⟩) x.l.length C]) x) := fun w' h => HV.out w' (HWr.out.trans (h.mono HWr.out.size))
      have HRr : Hid (∀ w', Below wr.heap.size wr w' → Calls Tryd.prog 12 #[.agg #[.bool gb, .slice A5 zs.length C5]] w' fun e w'' => e = .returned (.bool (rightX zs)) ∧ Below w'.heap.size w' w'') := fun w' h => refRight_any gb A5 C5 zs w' (by omega) hC5 (HRd.out.on h)
      have HRi : Hid (∀ w', Below wr.heap.size wr w' → Calls Tryd.prog 21 #[.agg #[.bool gb, .slice A5 zs.length C5]] w' fun e w'' => Below w'.heap.size w' w'' ∧ ∃ v, e = .returned v ∧ ItV w'' w''.heap.size v (itP gb zs)) := fun w' h => by
        refine (refPItem_any gb A5 C5 zs w' (by omega) (HRd.out.on h)).mono ?_
        rintro e w'' ⟨hb, v, rfl, hv⟩
        exact ⟨hb, v, rfl, hv.new_itV⟩
      have HC5 := Lib.hid hC5
      obtain ⟨r, hr⟩ : ∃ r, r = rightX zs := ⟨_, rfl⟩
      rw [← hr] at HRr
      clear hW1 hown hall hrd hg5 hzs hC5 v0 v1 v2 HI hke x0 x1 x2 x3 x4 b0 b1 f0 f1
      obtain ⟨⟨x0, x1, x2, x3, x4⟩, v0, v1⟩ := HELD.out wr (Below.refl _ _)
      cases r
      · have HNo : Hid (isP x = false) := no_path fun b zs' h1 h2 => by
          have h3 := (head_path h2 HLl.out).2.2
          rw [← HZs.out] at h3
          rw [h3, h1] at hr
          cases hr
        clear hr
        go_wp2_with fail
        have F : Below wr.heap.size wr wr.drew := (Below.refl _ _).drew
        clear x0 x1 x2 x3 x4 v0 v1
        refine wp_region_held_drew (S := fun w' => (w'.cell? ⟨w.heap.size, 0, none⟩ = some (.int .i64 x.k) ∧ w'.cell? ⟨w.heap.size, 1, none⟩ = some (.int .u64 x.n) ∧ w'.cell? ⟨w.heap.size, 2, none⟩ = some (.slice a x.b.length c) ∧ w'.cell? ⟨w.heap.size, 3, none⟩ = some (.string ⟨x.s.toArray⟩) ∧ w'.cell? ⟨w.heap.size, 4, none⟩ = some (.slice (some ⟨g, o, none⟩) x.l.length C)) ∧ (w'.cell? ⟨W.heap.size, 0, none⟩ = some (.bool gb) ∧ w'.cell? ⟨W.heap.size, 1, none⟩ = some (.slice A5 zs.length C5))) (by kernel_rfl) (HELD.out _ F) (fun hHeld => ?_)
        refine take_listed (i := 0) (v := ?_) rfl (by kernel_rfl) (by kernel_rfl) (by kernel_rfl) (fun _ _ _ h => h) (Or.inl ⟨by rfl, ?_⟩) (by assumption) ?_
        rotate_left
        · intro w hSw
          (try dsimp only at hSw)
          go_simp
          all_goals with_reducible rfl
        simp only [Act.put, List.setIfInBounds_toArray, List.set_cons_zero, List.set_cons_succ]
        refine wpAnyH_ready (rs := [1]) (by kernel_rfl) (by simp) ?_
        refine AllReadyH.cons rfl (fun K hK => ?_) AllReadyH.nil
        go_simp
        refine (HRr.out _ F).mono ?_
        rintro e wz ⟨rfl, hb⟩
        replace F := below_on F hb
        clear hb
        refine hK.out _ _ (HELD.out _ F) (fun hHeld => ?_)
        clear hK K
        try simp only [Act.put, List.setIfInBounds_toArray, List.set_cons_zero, List.set_cons_succ]
        refine take_listed (i := 2) (v := ?_) rfl (by kernel_rfl) (by kernel_rfl) (by kernel_rfl) (fun _ _ _ h => h) (Or.inl ⟨by rfl, ?_⟩) (by assumption) ?_
        rotate_left
        · intro w hSw
          (try dsimp only at hSw)
          go_simp
          all_goals with_reducible rfl
        simp only [Act.put, List.setIfInBounds_toArray, List.set_cons_zero, List.set_cons_succ]
        refine take_listed (i := 3) (v := ?_) rfl (by kernel_rfl) (by kernel_rfl) (by kernel_rfl) (fun _ _ _ h => h) (Or.inl ⟨by rfl, ?_⟩) (by assumption) ?_
        rotate_left
        · intro w hSw
          (try dsimp only at hSw)
          go_simp
          all_goals with_reducible rfl
        simp only [Act.put, List.setIfInBounds_toArray, List.set_cons_zero, List.set_cons_succ]
        refine take_listed (i := 4) (v := undef) rfl (by kernel_rfl) (by kernel_rfl) (by kernel_rfl) (fun _ _ _ h => h) (Or.inr ⟨by rfl, rfl⟩) (by assumption) ?_
        simp only [Act.put, List.setIfInBounds_toArray, List.set_cons_zero, List.set_cons_succ]
        refine take_listed (i := 5) (v := undef) rfl (by kernel_rfl) (by kernel_rfl) (by kernel_rfl) (fun _ _ _ h => h) (Or.inr ⟨by rfl, rfl⟩) (by assumption) ?_
        simp only [Act.put, List.setIfInBounds_toArray, List.set_cons_zero, List.set_cons_succ]
        refine take_listed (i := 6) (v := undef) rfl (by kernel_rfl) (by kernel_rfl) (by kernel_rfl) (fun _ _ _ h => h) (Or.inr ⟨by rfl, rfl⟩) (by assumption) ?_
        simp only [Act.put, List.setIfInBounds_toArray, List.set_cons_zero, List.set_cons_succ]
        refine take_listed (i := 7) (v := undef) rfl (by kernel_rfl) (by kernel_rfl) (by kernel_rfl) (fun _ _ _ h => h) (Or.inr ⟨by rfl, rfl⟩) (by assumption) ?_
        simp only [Act.put, List.setIfInBounds_toArray, List.set_cons_zero, List.set_cons_succ]
        refine take_listed (i := 8) (v := undef) rfl (by kernel_rfl) (by kernel_rfl) (by kernel_rfl) (fun _ _ _ h => h) (Or.inr ⟨by rfl, rfl⟩) (by assumption) ?_
        simp only [Act.put, List.setIfInBounds_toArray, List.set_cons_zero, List.set_cons_succ]
        refine take_listed (i := 9) (v := ?_) rfl (by kernel_rfl) (by kernel_rfl) (by kernel_rfl) (fun _ _ _ h => h) (Or.inl ⟨by rfl, ?_⟩) (by assumption) ?_
        rotate_left
        · intro w hSw
          (try dsimp only at hSw)
          go_simp
          all_goals with_reducible rfl
        simp only [Act.put, List.setIfInBounds_toArray, List.set_cons_zero, List.set_cons_succ]
        clear hHeld
        refine wpAnyH_done (by kernel_rfl) ?_ _
        have HF := Lib.hid F
        clear F
        obtain ⟨_, b0, b1, f0, f1⟩ := HX.out _ (HWr.out.trans (HF.out.mono HWr.out.size))
        have HBz : Hid (Below W.heap.size W _) := (HWr.out.trans (HF.out.mono HWr.out.size))
        go_wp2_with fail
        have s2 := set2_cells b0 b1 (.bool false) (.slice none 0 0)
        refine bodyPost_ret (v := .tuple #[.agg #[.bool false, .slice none 0 0], .bool false]) (by obtain ⟨s2, s3⟩ := s2; simp [results, Tryd.results22, go_sem, s2, s3]) rfl ⟨?_, .inr ⟨HNo.out, rfl⟩⟩
        exact HB0.out.trans (((HBz.out.mono HB0.out.size).setCell (by simp) _).setCell (by simp) _)
      · have HRx : Hid (rightX zs = true) := hr.symm
        clear hr
        obtain ⟨s, hs⟩ : ∃ s, s = x.same (itP gb zs) := ⟨_, rfl⟩
        have HSm : Hid (∀ w' v, Below wr.heap.size wr w' → ItV w' w'.heap.size v (itP gb zs) → Calls Tryd.prog 19 #[.agg #[.int .i64 x.k, .int .u64 x.n, .slice a x.b.length c, .string ⟨x.s.toArray⟩, .slice (some ⟨g, o, none⟩) x.l.length C], v] w' fun e w'' => e = .returned (.bool s) ∧ Below w'.heap.size w' w'') := fun w' v h hv => by
          rw [hs]
          exact refSame_any x (itP gb zs) _ v w' (HVx.out w' h) hv
        have HSs := Lib.hid hs
        clear hs
        go_wp2_with fail
        have F : Below wr.heap.size wr wr.drew := (Below.refl _ _).drew
        clear x0 x1 x2 x3 x4 v0 v1
        refine wp_region_held_drew (S := fun w' => (w'.cell? ⟨w.heap.size, 0, none⟩ = some (.int .i64 x.k) ∧ w'.cell? ⟨w.heap.size, 1, none⟩ = some (.int .u64 x.n) ∧ w'.cell? ⟨w.heap.size, 2, none⟩ = some (.slice a x.b.length c) ∧ w'.cell? ⟨w.heap.size, 3, none⟩ = some (.string ⟨x.s.toArray⟩) ∧ w'.cell? ⟨w.heap.size, 4, none⟩ = some (.slice (some ⟨g, o, none⟩) x.l.length C)) ∧ (w'.cell? ⟨W.heap.size, 0, none⟩ = some (.bool gb) ∧ w'.cell? ⟨W.heap.size, 1, none⟩ = some (.slice A5 zs.length C5))) (by kernel_rfl) (HELD.out _ F) (fun hHeld => ?_)
        refine take_listed (i := 0) (v := ?_) rfl (by kernel_rfl) (by kernel_rfl) (by kernel_rfl) (fun _ _ _ h => h) (Or.inl ⟨by rfl, ?_⟩) (by assumption) ?_
        rotate_left
        · intro w hSw
          (try dsimp only at hSw)
          go_simp
          all_goals with_reducible rfl
        simp only [Act.put, List.setIfInBounds_toArray, List.set_cons_zero, List.set_cons_succ]
        refine wpAnyH_ready (rs := [1]) (by kernel_rfl) (by simp) ?_
        refine AllReadyH.cons rfl (fun K hK => ?_) AllReadyH.nil
        go_simp
        refine (HRr.out _ F).mono ?_
        rintro e wz ⟨rfl, hb⟩
        replace F := below_on F hb
        clear hb
        refine hK.out _ _ (HELD.out _ F) (fun hHeld => ?_)
        clear hK K
        try simp only [Act.put, List.setIfInBounds_toArray, List.set_cons_zero, List.set_cons_succ]
        refine take_listed (i := 2) (v := ?_) rfl (by kernel_rfl) (by kernel_rfl) (by kernel_rfl) (fun _ _ _ h => h) (Or.inl ⟨by rfl, ?_⟩) (by assumption) ?_
        rotate_left
        · intro w hSw
          (try dsimp only at hSw)
          go_simp
          all_goals with_reducible rfl
        simp only [Act.put, List.setIfInBounds_toArray, List.set_cons_zero, List.set_cons_succ]
        refine take_listed (i := 3) (v := ?_) rfl (by kernel_rfl) (by kernel_rfl) (by kernel_rfl) (fun _ _ _ h => h) (Or.inl ⟨by rfl, ?_⟩) (by assumption) ?_
        rotate_left
        · intro w hSw
          (try dsimp only at hSw)
          go_simp
          all_goals with_reducible rfl
        simp only [Act.put, List.setIfInBounds_toArray, List.set_cons_zero, List.set_cons_succ]
        refine take_listed (i := 4) (v := ?_) rfl (by kernel_rfl) (by kernel_rfl) (by kernel_rfl) (fun _ _ _ h => h) (Or.inl ⟨by rfl, ?_⟩) (by assumption) ?_
        rotate_left
        · intro w hSw
          (try dsimp only at hSw)
          go_simp
          all_goals with_reducible rfl
        simp only [Act.put, List.setIfInBounds_toArray, List.set_cons_zero, List.set_cons_succ]
        refine take_listed (i := 5) (v := ?_) rfl (by kernel_rfl) (by kernel_rfl) (by kernel_rfl) (fun _ _ _ h => h) (Or.inl ⟨by rfl, ?_⟩) (by assumption) ?_
        rotate_left
        · intro w hSw
          (try dsimp only at hSw)
          go_simp
          all_goals with_reducible rfl
        simp only [Act.put, List.setIfInBounds_toArray, List.set_cons_zero, List.set_cons_succ]
        refine wpAnyH_ready (rs := [6]) (by kernel_rfl) (by simp) ?_
        refine AllReadyH.cons rfl (fun K hK => ?_) AllReadyH.nil
        go_simp
        refine (HRi.out _ F).mono ?_
        rintro e wz ⟨hb, v, rfl, hv⟩
        replace F := below_on F hb
        clear hb
        obtain ⟨a6, c6, A6, C6, rfl⟩ := hv.form
        refine hK.out _ _ (HELD.out _ F) (fun hHeld => ?_)
        clear hK K
        try simp only [Act.put, List.setIfInBounds_toArray, List.set_cons_zero, List.set_cons_succ]
        refine wpAnyH_ready (rs := [7]) (by kernel_rfl) (by simp) ?_
        refine AllReadyH.cons rfl (fun K hK => ?_) AllReadyH.nil
        go_simp
        refine (HSm.out _ _ F hv).mono ?_
        rintro e wz ⟨rfl, hb⟩
        replace F := below_on F hb
        clear hb
        refine hK.out _ _ (HELD.out _ F) (fun hHeld => ?_)
        clear hK K
        try simp only [Act.put, List.setIfInBounds_toArray, List.set_cons_zero, List.set_cons_succ]
        refine take_listed (i := 8) (v := ?_) rfl (by kernel_rfl) (by kernel_rfl) (by kernel_rfl) (fun _ _ _ h => h) (Or.inl ⟨by rfl, ?_⟩) (by assumption) ?_
        rotate_left
        · intro w hSw
          (try dsimp only at hSw)
          go_simp
          all_goals with_reducible rfl
        simp only [Act.put, List.setIfInBounds_toArray, List.set_cons_zero, List.set_cons_succ]
        refine take_listed (i := 9) (v := ?_) rfl (by kernel_rfl) (by kernel_rfl) (by kernel_rfl) (fun _ _ _ h => h) (Or.inl ⟨by rfl, ?_⟩) (by assumption) ?_
        rotate_left
        · intro w hSw
          (try dsimp only at hSw)
          go_simp
          all_goals with_reducible rfl
        simp only [Act.put, List.setIfInBounds_toArray, List.set_cons_zero, List.set_cons_succ]
        clear hHeld
        refine wpAnyH_done (by kernel_rfl) ?_ _
        have HF := Lib.hid F
        clear F hv
        cases s
        · have HNo : Hid (isP x = false) := no_path fun b zs' h1 h2 => by
            obtain ⟨h3, _, h4⟩ := head_path h2 HLl.out
            have h5 := HSs.out
            rw [HZs.out, h4, HGb.out, h3, ← h2, same_self] at h5
            cases h5
          obtain ⟨_, b0, b1, f0, f1⟩ := HX.out _ (HWr.out.trans (HF.out.mono HWr.out.size))
          have HBz : Hid (Below W.heap.size W _) := (HWr.out.trans (HF.out.mono HWr.out.size))
          go_wp2_with fail
          have s2 := set2_cells b0 b1 (.bool false) (.slice none 0 0)
          refine bodyPost_ret (v := .tuple #[.agg #[.bool false, .slice none 0 0], .bool false]) (by obtain ⟨s2, s3⟩ := s2; simp [results, Tryd.results22, go_sem, s2, s3]) rfl ⟨?_, .inr ⟨HNo.out, rfl⟩⟩
          exact HB0.out.trans (((HBz.out.mono HB0.out.size).setCell (by simp) _).setCell (by simp) _)
        · have hxe : x = itP gb zs := (It.same_iff _ _).1 HSs.out.symm
          have HXe := Lib.hid hxe
          clear hxe
          obtain ⟨_, b0, b1, f0, f1⟩ := HX.out _ (HWr.out.trans (HF.out.mono HWr.out.size))
          obtain ⟨_, v0, v1⟩ := HELD.out _ HF.out
          have HBz : Hid (Below W.heap.size W _) := HWr.out.trans (HF.out.mono HWr.out.size)
          have HRz : Hid (RdX _ _ A5 zs) := HRd.out.on HF.out
          go_wp2_with fail
          have s2 := set2_cells b0 b1 (.bool gb) (.slice A5 zs.length C5)
          refine bodyPost_ret (v := .tuple #[.agg #[.bool gb, .slice A5 zs.length C5], .bool true]) (by obtain ⟨s2, s3⟩ := s2; simp [results, Tryd.results22, go_sem, s2, s3]) rfl ⟨?_, .inl ⟨gb, zs, HRx.out, HXe.out, A5, C5, rfl, HC5.out, ?_⟩⟩
          · exact HB0.out.trans (((HBz.out.mono HB0.out.size).setCell (by simp) _).setCell (by simp) _)
          · rcases HG5.out with h | ⟨g5, rfl, _, hg5⟩
            · exact .inl h
            · rcases HRz.out with h | ⟨b, o', e, hlt', hc⟩
              · exact .inl h
              · cases e
                have hne : g5 ≠ w.heap.size + 1 := by have := HWs.out; omega
                refine .inr ⟨g5, 0, rfl, by rw [World.size_setCell, World.size_setCell]; exact hlt', fun j hj => ?_⟩
                exact ((hc j hj).kept (Below.heap_setCell _ _ _ _ hne)).kept (Below.heap_setCell _ _ _ _ hne)

end Go.Proofs.YtkbnglcpcehaiaaDoor
