/- What is read goes into new memory: items in blocks of a set; package cbor's text, bare, bytes.Clone. -/
import Derived.Test.YtncemmhbbkpieaaDoorCbL
namespace Go.Proofs.YtncemmhbbkpieaaDoor
open Go.RowKit Go.Shelf

/-- Bytes in a block of S. -/
def RdBS (w : World) (S : Nat → Prop) (a : Option Addr) (bs : List UInt8) : Prop :=
  bs = [] ∨ ∃ b o, a = some ⟨b, o, none⟩ ∧ S b ∧ ∀ j, j < bs.length → w.cell? ⟨b, o + j, none⟩ = some (.int .u8 (byteAt bs j))

theorem RdBS.keep {w w' : World} {S : Nat → Prop} {a : Option Addr} {bs : List UInt8} (h : RdBS w S a bs) (hk : KeepB S w w') : RdBS w' S a bs := by
  rcases h with h | ⟨b, o, e, hs, hc⟩
  · exact .inl h
  · exact .inr ⟨b, o, e, hs, fun j hj => (keep_cell hk hs).trans (hc j hj)⟩

theorem RdBS.more {w : World} {S T : Nat → Prop} {a : Option Addr} {bs : List UInt8} (h : RdBS w S a bs) (hST : ∀ b, S b → T b) : RdBS w T a bs := by
  rcases h with h | ⟨b, o, e, hs, hc⟩
  · exact .inl h
  · exact .inr ⟨b, o, e, hST b hs, hc⟩

theorem RdBS.rdB {w : World} {S : Nat → Prop} {B : Nat} {a : Option Addr} {bs : List UInt8} (h : RdBS w S a bs) (hS : ∀ b, S b → b < B) : RdB w B a bs := by
  rcases h with h | ⟨b, o, e, hs, hc⟩
  · exact .inl h
  · exact .inr ⟨b, o, e, hS b hs, hc⟩

/-- An item's value, its list apart, its bytes in S. -/
def ItPS (w : World) (S : Nat → Prop) (v : Value) (k n : Int) (b s : List UInt8) (m : Nat) (A : Option Addr) : Prop :=
  ∃ a c C, v = .agg #[.int .i64 k, .int .u64 n, .slice a b.length c, .string ⟨s.toArray⟩, .slice A m C] ∧ (b.length ≤ c ∧ m ≤ C) ∧ RdBS w S a b ∧ U64 n ∧ (-9223372036854775808 ≤ k ∧ k < 9223372036854775808) ∧ Sz b.length ∧ Sz s.length ∧ Sz m

mutual
/-- A value reads as an item, in blocks of S. -/
def ItS (w : World) (S : Nat → Prop) (v : Value) : It → Prop
  | .mk k n b s l => ∃ A, ItPS w S v k n b s l.length A ∧ (l = [] ∨ ∃ g o, A = some ⟨g, o, none⟩ ∧ S g ∧ ItSL w S g o l)
def ItSL (w : World) (S : Nat → Prop) (g : Nat) (o : Nat) : List It → Prop
  | [] => True
  | x :: xs => (∃ v, At5 w g o v ∧ ItS w S v x) ∧ ItSL w S g (o + 5) xs
end

theorem At5.keep {w w' : World} {S : Nat → Prop} {g o : Nat} {v : Value} (h : At5 w g o v) (hk : KeepB S w w') (hg : S g) : At5 w' g o v := by
  obtain ⟨v0, v1, v2, v3, v4, rfl, h0, h1, h2, h3, h4⟩ := h
  exact ⟨v0, v1, v2, v3, v4, rfl, (keep_cell hk hg).trans h0, (keep_cell hk hg).trans h1, (keep_cell hk hg).trans h2, (keep_cell hk hg).trans h3, (keep_cell hk hg).trans h4⟩

mutual
theorem ItS.keep {w w' : World} {S : Nat → Prop} (hk : KeepB S w w') : ∀ (x : It) {v : Value}, ItS w S v x → ItS w' S v x
  | .mk k n b s l, v, h => by
    simp only [ItS] at h ⊢
    obtain ⟨A, ⟨a, c, C, h1, h2, h3, r⟩, hl⟩ := h
    refine ⟨A, ⟨a, c, C, h1, h2, h3.keep hk, r⟩, hl.imp id ?_⟩
    rintro ⟨g, o, rfl, hg, hl⟩
    exact ⟨g, o, rfl, hg, ItSL.keep hk hg l hl⟩
theorem ItSL.keep {w w' : World} {S : Nat → Prop} (hk : KeepB S w w') {g : Nat} (hg : S g) : ∀ (l : List It) {o : Nat}, ItSL w S g o l → ItSL w' S g o l
  | [], _, _ => by simp only [ItSL]
  | x :: xs, o, h => by
    simp only [ItSL] at h ⊢
    obtain ⟨⟨v, h5, hv⟩, hr⟩ := h
    exact ⟨⟨v, h5.keep hk hg, ItS.keep hk x hv⟩, ItSL.keep hk hg xs hr⟩
end

mutual
theorem ItS.more {w : World} {S T : Nat → Prop} (hST : ∀ b, S b → T b) : ∀ (x : It) {v : Value}, ItS w S v x → ItS w T v x
  | .mk k n b s l, v, h => by
    simp only [ItS] at h ⊢
    obtain ⟨A, ⟨a, c, C, h1, h2, h3, r⟩, hl⟩ := h
    refine ⟨A, ⟨a, c, C, h1, h2, h3.more hST, r⟩, hl.imp id ?_⟩
    rintro ⟨g, o, rfl, hg, hl⟩
    exact ⟨g, o, rfl, hST g hg, ItSL.more hST l hl⟩
theorem ItSL.more {w : World} {S T : Nat → Prop} (hST : ∀ b, S b → T b) {g : Nat} : ∀ (l : List It) {o : Nat}, ItSL w S g o l → ItSL w T g o l
  | [], _, _ => by simp only [ItSL]
  | x :: xs, o, h => by
    simp only [ItSL] at h ⊢
    obtain ⟨⟨v, h5, hv⟩, hr⟩ := h
    exact ⟨⟨v, h5, ItS.more hST x hv⟩, ItSL.more hST xs hr⟩
end

mutual
theorem ItS.itV {w : World} {S : Nat → Prop} {B : Nat} (hS : ∀ b, S b → b < B) : ∀ (x : It) {v : Value}, ItS w S v x → ItV w B v x
  | .mk k n b s l, v, h => by
    simp only [ItS] at h
    simp only [ItV]
    obtain ⟨A, ⟨a, c, C, h1, h2, h3, r⟩, hl⟩ := h
    refine ⟨A, ⟨a, c, C, h1, h2, h3.rdB hS, r⟩, hl.imp id ?_⟩
    rintro ⟨g, o, rfl, hg, hl⟩
    exact ⟨g, o, rfl, hS g hg, ItSL.itL hS l hl⟩
theorem ItSL.itL {w : World} {S : Nat → Prop} {B : Nat} (hS : ∀ b, S b → b < B) {g : Nat} : ∀ (l : List It) {o : Nat}, ItSL w S g o l → ItL w B g o l
  | [], _, _ => by simp only [ItL]
  | x :: xs, o, h => by
    simp only [ItSL] at h
    simp only [ItL]
    obtain ⟨⟨v, h5, hv⟩, hr⟩ := h
    exact ⟨⟨v, h5, ItS.itV hS x hv⟩, ItSL.itL hS xs hr⟩
end

/-- New memory. -/
def newB (w w' : World) (b : Nat) : Prop := w.heap.size ≤ b ∧ b < w'.heap.size

theorem itS_plain (w : World) (S : Nat → Prop) (k n : Int) (s : List UInt8) (hk : -9223372036854775808 ≤ k ∧ k < 9223372036854775808) (hn : U64 n) (hs : Sz s.length) :
    ItS w S (.agg #[.int .i64 k, .int .u64 n, .slice none 0 0, .string ⟨s.toArray⟩, .slice none 0 0]) (.mk k n [] s []) := by
  simp only [ItS]
  exact ⟨none, ⟨none, 0, 0, rfl, ⟨Nat.le_refl _, Nat.le_refl _⟩, .inl rfl, hn, hk, Nat.zero_le _, hs, Nat.zero_le _⟩, .inl trivial⟩

set_option maxRecDepth 100000 in
set_option maxHeartbeats 2000000 in
/-- bytes.Clone: bytes that are another slice's. -/
theorem bclone_any (a : Option Addr) (n c : Nat) (bs : List UInt8) (hn : n = bs.length) (w : World) (hlen : bs.length ≤ 140737488355328) (hr : RdB w w.heap.size a bs) :
    Calls Tryd.prog 32 #[.slice a n c] w fun e w' => ∃ v, e = .returned v ∧ OwnV w' w.heap.size 5 v (bs.map encB) ∧ Below w.heap.size w w' := by
  subst hn
  rcases a with _ | ad
  · obtain rfl : bs = [] := by
      rcases hr with h | ⟨b, o, h, _⟩
      · exact h
      · cases h
    have heq := fun w : World => Lib.run_eql_slice_nil (P := Tryd.prog) w 22 5 none 0 c 0 0 Tryd.underlying22
    go_enter Tryd.func32, Tryd.ntmps32
    go_wp2
    go_ret
    exact ⟨_, rfl, OwnV.nil _ _ _, Below.refl _ _⟩
  · have heq := fun w : World => Lib.run_eql_slice_nil (P := Tryd.prog) w 22 5 (some ad) bs.length c 0 0 Tryd.underlying22
    have hs := (hr.src).alloc (.cells #[] 5)
    have ho := OwnV.lit w w.heap.size 5 #[] (Nat.le_refl _) (by decide)
    have h1 := Lib.hid (encB_one bs)
    have hL1 : Hid (([] : List Value).length + (bs.map encB).length ≤ maxLen) := by simp [Hid, maxLen]; omega
    have hL2 : Hid ((([] : List Value).length + (bs.map encB).length) * 1 ≤ 140737488355328) := by simp [Hid]; omega
    clear hr
    go_enter Tryd.func32, Tryd.ntmps32
    go_wp2_with (at_builtin; refine wpList_app _ rfl _ _ 22 rfl w.heap.size 5 (.int .u8 0) 1 Tryd.underlying22 info_u8 rfl _ _ rfl ho _ _ _ _ rfl (List.length_map _) hs h1.out hL1.out hL2.out (by simp) ?_; intro v' w1 hp)
    go_ret
    exact ⟨v', rfl, hp.1, ((Below.refl _ _).alloc (Nat.le_refl _) _).grown hp.2.1 (by simp) (fun r e => by cases e; exact Nat.le_refl _)⟩

/-- What a reader of an item answers: it, or why not. -/
def RdP3 (w : World) (R B : Nat) (o : Except Nat (It × List UInt8)) (e : Ending) (w' : World) : Prop :=
  But R w w' ∧ match o with
    | .error c => e = gives c
    | .ok (x, r) => ∃ v, e = .returned v ∧ ItS w' (newB w w') v x ∧ RS w' R B r

/-- A text of so many bytes. -/
def textN (n : Int) (r : List UInt8) : Except Nat (It × List UInt8) :=
  if n.toNat ≤ r.length then (if (runesL (r.take n.toNat)).2 = true then .ok (.mk 3 0 [] (r.take n.toNat) [], r.drop n.toNat) else .error 121) else .error 121

/-- An item that is a head alone. -/
def bareN (n : Int) (r : List UInt8) : Except Nat (It × List UInt8) :=
  if n = 20 ∨ n = 21 then .ok (.mk 5 (n - 20) [] [] [], r) else if n = 22 then .ok (.mk 6 0 [] [] [], r) else .error 121

/-- A struct of five cells, stored. -/
def put5 (w : World) (g : Nat) (v0 v1 v2 v3 v4 : Value) : World :=
  ((((w.setCell ⟨g, 0, none⟩ v0).setCell ⟨g, 1, none⟩ v1).setCell ⟨g, 2, none⟩ v2).setCell ⟨g, 3, none⟩ v3).setCell ⟨g, 4, none⟩ v4

theorem put5_cells {w : World} {g : Nat} {u0 u1 u2 u3 u4 : Value} (h0 : w.cell? ⟨g, 0, none⟩ = some u0) (h1 : w.cell? ⟨g, 1, none⟩ = some u1) (h2 : w.cell? ⟨g, 2, none⟩ = some u2) (h3 : w.cell? ⟨g, 3, none⟩ = some u3) (h4 : w.cell? ⟨g, 4, none⟩ = some u4) (v0 v1 v2 v3 v4 : Value) :
    (put5 w g v0 v1 v2 v3 v4).cell? ⟨g, 0, none⟩ = some v0 ∧ (put5 w g v0 v1 v2 v3 v4).cell? ⟨g, 1, none⟩ = some v1 ∧ (put5 w g v0 v1 v2 v3 v4).cell? ⟨g, 2, none⟩ = some v2 ∧ (put5 w g v0 v1 v2 v3 v4).cell? ⟨g, 3, none⟩ = some v3 ∧ (put5 w g v0 v1 v2 v3 v4).cell? ⟨g, 4, none⟩ = some v4 := by
  unfold put5
  refine ⟨?_, ?_, ?_, ?_, ?_⟩
  · rw [World.cell?_setCell_other _ _ _ _ (by simp), World.cell?_setCell_other _ _ _ _ (by simp), World.cell?_setCell_other _ _ _ _ (by simp), World.cell?_setCell_other _ _ _ _ (by simp), World.cell?_setCell_same _ _ _ h0]
  · rw [World.cell?_setCell_other _ _ _ _ (by simp), World.cell?_setCell_other _ _ _ _ (by simp), World.cell?_setCell_other _ _ _ _ (by simp), World.cell?_setCell_same (u := u1)]
    rw [World.cell?_setCell_other _ _ _ _ (by simp), h1]
  · rw [World.cell?_setCell_other _ _ _ _ (by simp), World.cell?_setCell_other _ _ _ _ (by simp), World.cell?_setCell_same (u := u2)]
    rw [World.cell?_setCell_other _ _ _ _ (by simp), World.cell?_setCell_other _ _ _ _ (by simp), h2]
  · rw [World.cell?_setCell_other _ _ _ _ (by simp), World.cell?_setCell_same (u := u3)]
    rw [World.cell?_setCell_other _ _ _ _ (by simp), World.cell?_setCell_other _ _ _ _ (by simp), World.cell?_setCell_other _ _ _ _ (by simp), h3]
  · rw [World.cell?_setCell_same (u := u4)]
    rw [World.cell?_setCell_other _ _ _ _ (by simp), World.cell?_setCell_other _ _ _ _ (by simp), World.cell?_setCell_other _ _ _ _ (by simp), World.cell?_setCell_other _ _ _ _ (by simp), h4]

theorem put5_size (w : World) (g : Nat) (v0 v1 v2 v3 v4 : Value) : (put5 w g v0 v1 v2 v3 v4).heap.size = w.heap.size := by
  unfold put5
  simp only [World.size_setCell]

theorem put5_block (w : World) (g : Nat) (v0 v1 v2 v3 v4 : Value) (k : Nat) (hk : k ≠ g) : (put5 w g v0 v1 v2 v3 v4).heap[k]? = w.heap[k]? := by
  unfold put5
  rw [Below.heap_setCell _ _ _ k hk, Below.heap_setCell _ _ _ k hk, Below.heap_setCell _ _ _ k hk, Below.heap_setCell _ _ _ k hk, Below.heap_setCell _ _ _ k hk]

theorem put5_below (w : World) (g B : Nat) (hB : B ≤ g) (v0 v1 v2 v3 v4 : Value) : Below B w (put5 w g v0 v1 v2 v3 v4) := by
  unfold put5
  exact (((((Below.refl B w).setCell hB v0).setCell hB v1).setCell hB v2).setCell hB v3).setCell hB v4

theorem But.put5 {R g : Nat} {w0 w : World} (h : But R w0 w) (hg : w0.heap.size ≤ g) (v0 v1 v2 v3 v4 : Value) : But R w0 (Go.Proofs.YtncemmhbbkpieaaDoor.put5 w g v0 v1 v2 v3 v4) :=
  have hb := put5_below w g g (Nat.le_refl _) v0 v1 v2 v3 v4
  ⟨hb.os.trans h.os, hb.tape.trans h.tape, hb.output.trans h.output, Nat.le_trans h.size hb.size, fun k hk hne => (put5_block w g v0 v1 v2 v3 v4 k (by omega)).trans (h.block k hk hne)⟩

theorem RS.other {R B : Nat} {w w' : World} {bs : List UInt8} (h : RS w R B bs) (hb : Below B w w') (hR : w'.heap[R]? = w.heap[R]?) : RS w' R B bs := by
  obtain ⟨a, c, h1, h2, h3, h4, h5, h6, h7⟩ := h
  exact ⟨a, c, (World.cell?_of_block (w := w) hR).trans h1, h2, h3, h4.below hb, (World.frozen?_of_block (w := w) hR).trans h5, Nat.lt_of_lt_of_le h6 hb.size, h7⟩

theorem RS.put5 {R B g : Nat} {w : World} {bs : List UInt8} (h : RS w R B bs) (hg : g ≠ R) (hB : B ≤ g) (v0 v1 v2 v3 v4 : Value) : RS (Go.Proofs.YtncemmhbbkpieaaDoor.put5 w g v0 v1 v2 v3 v4) R B bs :=
  h.other (put5_below w g B hB v0 v1 v2 v3 v4) (put5_block w g v0 v1 v2 v3 v4 R (Ne.symm hg))

def itemV (k n : Int) (s : List UInt8) : Value := .agg #[.int .i64 k, .int .u64 n, .slice none 0 0, .string ⟨s.toArray⟩, .slice none 0 0]

def BareP (w : World) (n : Int) (e : Ending) (w' : World) : Prop := Below w.heap.size w w' ∧
  (((n = 20 ∨ n = 21) ∧ e = .returned (itemV 5 (n - 20) [])) ∨ (n = 22 ∧ e = .returned (itemV 6 0 [])) ∨ ((n ≠ 20 ∧ n ≠ 21 ∧ n ≠ 22) ∧ e = gives 121))

set_option maxRecDepth 100000 in
set_option maxHeartbeats 2000000 in
theorem bare_any (n : Int) (hn : U64 n) (w : World) : Calls Tryd.prog 37 #[.int .u64 n] w (BareP w n) := by
  have h0 := hn.1
  have h1 := hn.2
  by_cases e0 : n = 20
  · subst e0
    go_enter Tryd.func37, Tryd.ntmps37
    go_wp2_with fail
    exact bodyPost_ret (v := itemV 5 0 []) (by simp [results, Tryd.results37, go_sem, itemV]) rfl ⟨(below_al (Below.refl _ _) _), .inl ⟨.inl rfl, rfl⟩⟩
  by_cases e1 : n = 21
  · subst e1
    go_enter Tryd.func37, Tryd.ntmps37
    go_wp2_with fail
    exact bodyPost_ret (v := itemV 5 1 []) (by simp [results, Tryd.results37, go_sem, itemV]) rfl ⟨(below_al (Below.refl _ _) _), .inl ⟨.inr rfl, rfl⟩⟩
  by_cases e2 : n = 22
  · subst e2
    go_enter Tryd.func37, Tryd.ntmps37
    go_wp2_with fail
    exact bodyPost_ret (v := itemV 6 0 []) (by simp [results, Tryd.results37, go_sem, itemV]) rfl ⟨(below_al (Below.refl _ _) _), .inr (.inl ⟨rfl, rfl⟩)⟩
  have f0 : ((n : Int) == 20) = false := by simpa using e0
  have f1 : ((n : Int) == 21) = false := by simpa using e1
  have f2 : ((n : Int) == 22) = false := by simpa using e2
  go_enter Tryd.func37, Tryd.ntmps37
  go_wp2_with fail
  exact ⟨rfl, below_al (Below.refl _ _) _, .inr (.inr ⟨⟨e0, e1, e2⟩, rfl⟩)⟩

set_option maxRecDepth 100000 in
set_option maxHeartbeats 2000000 in
theorem text_any (R B : Nat) (bs : List UInt8) (n : Int) (hn : U64 n) (w : World) (h : RS w R B bs) :
    Calls Tryd.prog 34 #[.pointer (some ⟨R, 0, none⟩), .int .u64 n] w (RdP3 w R B (textN n bs)) := by
  obtain ⟨k, rfl⟩ := Int.eq_ofNat_of_zero_le hn.1
  have hk := hn.2
  have HRS := Lib.hid h
  have hbl : bs.length ≤ 140737488355328 := by
    obtain ⟨a, c, _, h2, h3, _⟩ := h
    omega
  have hR : R < w.heap.size := by
    obtain ⟨a, c, _, _, _, _, _, h6, _⟩ := h
    exact h6
  clear h hn
  have hz : Below w.heap.size w (w.alloc (.cells #[.int .i64 0, .int .u64 0, .slice none 0 0, .string ⟨#[]⟩, .slice none 0 0] 28)) := below_al (Below.refl _ _) _
  go_enter Tryd.func34, Tryd.ntmps34
  go_wp2_with fail
  refine (take_any R B bs k _ (HRS.out.on hz) (by omega)).mono ?_
  rintro e w1 ⟨hb1, ⟨hl, a1, c1, rfl, hc1, hr1, hs1⟩ | ⟨hl, rfl⟩⟩
  · have hlt : k = (bs.take k).length := by rw [List.length_take]; omega
    have k1 := hr1.text (P := Tryd.prog) 22 9 5 k c1 hlt Tryd.underlying22 Tryd.underlying5 Tryd.underlying9
    have HB1 := Lib.hid hb1
    have HS1 := Lib.hid hs1
    have hkl : (bs.take k).length ≤ 140737488355328 := by omega
    obtain ⟨q, hq⟩ : ∃ q, q = (runesL (bs.take k)).2 := ⟨_, rfl⟩
    have HQ := Lib.hid hq
    clear hb1 hs1 hr1 hlt hq
    go_wp2_with fail
    refine (runes_any ⟨(bs.take k).toArray⟩ w1 hkl).mono ?_
    rintro e w2 ⟨rfl, hb2⟩
    have hdd : (⟨(bs.take k).toArray⟩ : ByteArray).data.toList = bs.take k := rfl
    rw [hdd, ← HQ.out]
    have hsz1 := HB1.out.size
    rw [World.size_alloc] at hsz1
    have hcell : ∀ i, w2.cell? ⟨w.heap.size, i, none⟩ = (w.alloc (.cells #[.int .i64 0, .int .u64 0, .slice none 0 0, .string ⟨#[]⟩, .slice none 0 0] 28)).cell? ⟨w.heap.size, i, none⟩ := fun i =>
      (hb2.cell (p := ⟨w.heap.size, i, none⟩) (show w.heap.size < w1.heap.size by omega)).trans (HB1.out.cell (by simp) (by omega))
    have x0 := (hcell 0).trans (show _ = some (.int .i64 0) by simp)
    have x1 := (hcell 1).trans (show _ = some (.int .u64 0) by simp)
    have x2 := (hcell 2).trans (show _ = some (.slice none 0 0) by simp)
    have x3 := (hcell 3).trans (show _ = some (.string ⟨#[]⟩) by simp)
    have x4 := (hcell 4).trans (show _ = some (.slice none 0 0) by simp)
    have hf : ∀ i, w2.frozen? ⟨w.heap.size, i, none⟩ = false := fun i =>
      (hb2.frozen (p := ⟨w.heap.size, i, none⟩) (show w.heap.size < w1.heap.size by omega)).trans ((HB1.out.frozen (by simp) (by omega)).trans (by simp))
    have HB2 : Hid (But R w w2) := (But.of_below hz).trans (HB1.out.trans (But.of_below hb2))
    have HS2 := Lib.hid (HS1.out.on hb2)
    have hsz2 := hb2.size
    clear hdd hcell hb2
    cases q
    · go_wp2_with fail
      refine ⟨rfl, HB2.out, ?_⟩
      simp only [textN, Int.toNat_natCast, hl, if_true, ← HQ.out]
      rfl
    · go_wp2_with fail
      change bodyPost _ _ _ _ _ (put5 w2 w.heap.size (.int .i64 3) (.int .u64 0) (.slice none 0 0) (.string ⟨(bs.take k).toArray⟩) (.slice none 0 0))
      obtain ⟨c0, c1', c2, c3, c4⟩ := put5_cells x0 x1 x2 x3 x4 (.int .i64 3) (.int .u64 0) (.slice none 0 0) (.string ⟨(bs.take k).toArray⟩) (.slice none 0 0)
      have HB3 := HB2.out.put5 (Nat.le_refl _) (.int .i64 3) (.int .u64 0) (.slice none 0 0) (.string ⟨(bs.take k).toArray⟩) (.slice none 0 0)
      have HS3 := HS2.out.put5 (g := w.heap.size) (by omega) (by obtain ⟨_, _, _, _, _, _, _, _, h7⟩ := HS2.out; omega) (.int .i64 3) (.int .u64 0) (.slice none 0 0) (.string ⟨(bs.take k).toArray⟩) (.slice none 0 0)
      generalize put5 w2 w.heap.size (.int .i64 3) (.int .u64 0) (.slice none 0 0) (.string ⟨(bs.take k).toArray⟩) (.slice none 0 0) = w3 at *
      refine bodyPost_ret (v := itemV 3 0 (bs.take k)) (by simp [results, Tryd.results34, go_sem, itemV, c0, c1', c2, c3, c4]) rfl ⟨HB3, ?_⟩
      simp only [textN, Int.toNat_natCast, hl, if_true, ← HQ.out]
      exact ⟨_, rfl, itS_plain _ _ 3 0 _ (by decide) ⟨by decide, by decide⟩ hkl, HS3⟩
  · have HB1 := Lib.hid hb1
    clear hb1
    rw [gives_def]
    go_wp2_with fail
    refine ⟨rfl, (But.of_below hz).trans HB1.out, ?_⟩
    have : ¬ k ≤ bs.length := by omega
    simp only [textN, Int.toNat_natCast, this, if_false]
    rfl

end Go.Proofs.YtncemmhbbkpieaaDoor
