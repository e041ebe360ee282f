/- Joined texts. -/
import Derived.Test.YtiahakbkagipkaaGreatDoorZBg
import Derived.Test.YtiahakbkagipkaaGreatDoorZKq
set_option linter.unusedSimpArgs false
set_option linter.unusedVariables false
set_option maxRecDepth 100000
namespace Go.Proofs.YtiahakbkagipkaaGreatDoor
open Go Go.RowKit Go.Shelf

theorem berr_of {x : It} (h : x.right = true) (hd : x.depth ≤ 8) (hl : x.bytes.length ≤ 65536) : x.err = 0 := by
 rw [It.err, if_pos h, if_neg (by omega), if_neg (by omega)]

theorem decode_dataO {x : It} (he : x.err = 0) (hf : x.fit) : decodeN (dataO x) = .ok x := by
 have hl := berr_len he
 have h := firstN_of x [] he hf (by rw [List.append_nil]; exact hl)
 rw [List.append_nil] at h
 rw [dataO, if_pos he, decodeN, h]
 simp

theorem bitX_back (x : Cr) : crG (itX x) = x := by
 obtain ⟨g, b⟩ := x
 have h : shX (itX (g, b)).l = true := rfl
 rw [crG_yes (x := itX (g, b)) (y := itU g.toNat) (z := itB b) h rfl]
 have e1 : UInt32.ofNat ((itU g.toNat).n.toNat) = g := by
  show UInt32.ofNat (((g.toNat : Nat) : Int).toNat) = g
  rw [Int.toNat_natCast]
  exact UInt32.ofNat_toNat
 have e2 : ((itB b).n == 1) = b := by cases b <;> rfl
 rw [e1, e2]

theorem bguP_back (bk : Bool) (xs : List Cr) (h : xs.length ≤ 64) : guP (itP bk xs) = (bk, xs) := by
 have hl : (itP bk xs).l = itB bk :: xs.map itX := rfl
 unfold guP
 rw [hl, if_neg (by simp; omega)]
 have e2 : ((itB bk).n == 1) = bk := by cases bk <;> rfl
 simp only [List.drop_succ_cons, List.drop_zero, List.map_map, e2, Prod.mk.injEq, true_and]
 have e3 : (crG ∘ itX) = id := funext bitX_back
 rw [e3, List.map_id]

theorem bisP_back (bk : Bool) (xs : List Cr) (h : rightX xs = true) : isP (itP bk xs) = true ∧ guP (itP bk xs) = (bk, xs) := by
 have h64 : xs.length ≤ 64 := by
  unfold rightX at h
  simp only [Bool.and_eq_true, decide_eq_true_eq] at h
  exact h.1
 have h1 := bguP_back bk xs h64
 refine ⟨?_, h1⟩
 unfold isP
 rw [h1, h, same_self]
 rfl

def preK (b : Bl) (k : Nat) : List UInt8 :=
 if wdN k = 0 then headB 4 (4 : Nat) ++ bytesL (itsB b) else headB 4 (5 : Nat) ++ (bytesL (itsB b) ++ headB 2 (wdN k))

theorem itB2_bytes (b : Bl) (k : Nat) (bs : List UInt8) (hb : bs.length = wdN k) : (itB2 b (wdN k) bs).bytes = preK b k ++ bs := by
 unfold itB2 preK
 by_cases h : wdN k = 0
 ·rw [if_pos h, if_pos h]
  have h0 : bs = [] := List.eq_nil_of_length_eq_zero (by omega)
  subst h0
  simp [itLs, It.bytes, ownB4, itsB]
 ·rw [if_neg h, if_neg h]
  simp [itLs, It.bytes, ownB4, bytesL_app, bytesL, ownB2, hb, itsB]

theorem zeroK_eq (b : Bl) (k : Nat) : (zeroK b k).bytes = preK b k ++ List.replicate (wdN k) 0 := itB2_bytes b k _ (by simp)
theorem encK_eq (b : Bl) (k : Nat) : encK b k = preK b k ++ sumB k (zeroK b k).bytes := by
 rw [encK, zeroK_eq]
 simp
theorem encK_it (b : Bl) (k : Nat) : encK b k = (itB2 b (wdN k) (sumB k (zeroK b k).bytes)).bytes := by
 rw [encK_eq, itB2_bytes b k _ (sumB_length k _)]
theorem encK_len (b : Bl) (k : Nat) : (encK b k).length = (zeroK b k).bytes.length := by
 rw [encK_eq, zeroK_eq, List.length_append, List.length_append, sumB_length]
 simp

theorem itB2_right (b : Bl) (wd : Nat) (bs : List UInt8) : (itB2 b wd bs).right = true := by
 unfold itB2 itsB
 split <;> simp [itLs, itU, It.right, rightL, rightN]
theorem itB2_depth8 (b : Bl) (wd : Nat) (bs : List UInt8) : (itB2 b wd bs).depth ≤ 8 := by
 unfold itB2 itsB
 split <;> simp [itLs, itU, It.depth, It.depth.depthL] <;> omega
theorem itB2_fit (b : Bl) (hb : b.ok) (hs : 0 ≤ b.s ∧ b.s ≤ 2) (hd : b.d.length ≤ 65536) (wd : Nat) (bs : List UInt8) (hbs : bs.length ≤ 65536) : (itB2 b wd bs).fit := by
 have h1 := hb.t
 have h2 := hb.n
 unfold itB2 itsB
 split <;> simp [itLs, itU, It.fit, fitL, U64] <;> omega

theorem zeroK_err {b : Bl} {k : Nat} : (zeroK b k).err = 0 ↔ (zeroK b k).bytes.length ≤ 65536 := by
 constructor
 ·exact berr_len
 ·intro h
  exact berr_of (itB2_right _ _ _) (itB2_depth8 _ _ _) h

theorem preK_data (b : Bl) (k : Nat) : b.d.length ≤ (preK b k).length := by
 unfold preK itsB
 split <;> simp [itLs, itU, It.bytes, bytesL, ownB1, ownB2] <;> omega

theorem decodeN_encK {b : Bl} (hb : b.ok) (hr : rightB b = true) (he : (zeroK b b.s.toNat).err = 0) : decodeN (encK b b.s.toNat) = .ok (itB2 b (wdN b.s.toNat) (sumB b.s.toNat (zeroK b b.s.toNat).bytes)) := by
 obtain ⟨k, hk, hks⟩ := rightB_k hr
 have e1 : b.s.toNat = k := by omega
 rw [e1] at he ⊢
 have hl := zeroK_err.1 he
 have hlen := encK_len b k
 have hd : b.d.length ≤ 65536 := by
  have := preK_data b k
  rw [zeroK_eq, List.length_append] at hl
  omega
 have hw : wdN k ≤ 4 := wdN_le k
 have he2 : (itB2 b (wdN k) (sumB k (zeroK b k).bytes)).err = 0 := berr_of (itB2_right _ _ _) (itB2_depth8 _ _ _) (by rw [← encK_it]; omega)
 have h := decode_dataO he2 (itB2_fit b hb ⟨by omega, by omega⟩ hd _ _ (by rw [sumB_length]; omega))
 rw [dataO, if_pos he2, ← encK_it] at h
 exact h

theorem rdBk_encK {b : Bl} (hb : b.ok) (hr : rightB b = true) (bs : List UInt8) (hbs : bs.length = wdN b.s.toNat) : rdBk (itB2 b (wdN b.s.toNat) bs) = some b := by
 obtain ⟨k, hk, hks⟩ := rightB_k hr
 have e1 : b.s.toNat = k := by omega
 rw [e1] at hbs ⊢
 obtain ⟨r, hl, hbh⟩ : ∃ r, (itB2 b (wdN k) bs).l = itU b.t :: itU b.n :: itU b.s :: .mk 2 0 b.d [] [] :: r ∧ bhK b.s r = true := by
  unfold itB2 itsB
  by_cases h : wdN k = 0
  ·have hk0 : k = 0 := by
     have h3 : k = 0 ∨ k = 1 ∨ k = 2 := by omega
     rcases h3 with rfl | rfl | rfl
     ·rfl
     ·cases h
     ·cases h
   rw [if_pos h]
   exact ⟨[], rfl, by simp [bhK, hks, hk0]⟩
  ·rw [if_neg h]
   refine ⟨[.mk 2 0 bs [] []], rfl, ?_⟩
   have hk0 : b.s ≠ 0 := by
    intro hz
    have : k = 0 := by omega
    rw [this] at h
    exact h rfl
   rw [bhK_one hk0]
   rfl
 rw [rdBk_four hl]
 have hn : ∀ g : Nat, nuP (itU g) = some g := fun g => by simp [nuP, itU, It.k, It.n]
 have hs : nuP (itU b.s) = some k := by rw [hks]; exact hn k
 have hw : IntKind.i64.wrap (k : Int) = b.s := by
  rw [hks]
  simp [IntKind.wrap, IntKind.bits, IntKind.signed]
  omega
 have hby : byP (.mk 2 0 b.d [] []) = some b.d := rfl
 unfold rdY
 rw [hn, hn, hby, hs]
 simp only [Option.bind_some]
 rw [hw, rdK, if_pos ⟨hr, hbh⟩]

theorem rdByB_enc {b : Bl} (hb : b.ok) (hr : rightB b = true) (he : (zeroK b b.s.toNat).err = 0) : rdByB (encK b b.s.toNat) = .ok b := by
 rw [rdByB_some (decodeN_encK hb hr he) (rdBk_encK hb hr _ (sumB_length _ _)), if_pos]
 rw [ownK, if_pos he]

end Go.Proofs.YtiahakbkagipkaaGreatDoor
