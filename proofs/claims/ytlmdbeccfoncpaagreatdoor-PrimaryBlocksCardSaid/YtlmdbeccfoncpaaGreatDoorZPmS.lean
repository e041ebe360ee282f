/- A primary's item: it may be, it is read as it; with a sum, one bit that is another one is told. -/
import Derived.Test.YtlmdbeccfoncpaaGreatDoorZPmF
import Derived.Test.YtlmdbeccfoncpaaGreatDoorZKm
import Derived.Test.YtlmdbeccfoncpaaGreatDoorZKq
import Derived.Test.YtlmdbeccfoncpaaGreatDoorZKr
import Derived.Test.YtlmdbeccfoncpaaGreatDoorZPmQ
namespace Go.Proofs.YtlmdbeccfoncpaaGreatDoor
open Go Go.RowKit Go.Shelf
set_option linter.unusedSimpArgs false
set_option linter.unusedVariables false
set_option maxRecDepth 100000

theorem itE_right (n m : Nat) : (itE n m).right = true := by
  unfold itE
  split <;> simp [itLs, itU, It.right, rightL, rightN]

theorem itE_fit (n m : Nat) (hn : n ≤ 4294967295) (hm : m ≤ 4294967295) : (itE n m).fit := by
  unfold itE
  split
  · simp [itLs, itU, It.fit, fitL, U64]
  · simp [itLs, itU, It.fit, fitL, U64]
    omega

theorem itE_len (n m : Nat) : (itE n m).bytes.length ≤ 60 := by
  have h := fun a b => (head_length a b).2
  unfold itE
  split
  · have h1 := h 4 (2 : Nat)
    have h2 := h 0 1
    have h3 := h 0 0
    simp [itLs, itU, It.bytes, bytesL, ownB1, ownB4] at *
    omega
  · have h1 := h 4 (2 : Nat)
    have h2 := h 0 2
    have h3 := h 0 n
    have h4 := h 0 m
    simp [itLs, itU, It.bytes, bytesL, ownB1, ownB4] at *
    omega

theorem itO_right (p : Pm) (wd : Nat) (bs : List UInt8) : (itO p wd bs).right = true := by
  have h1 := itE_right p.tn p.tm
  have h2 := itE_right p.sn p.sm
  have h3 := itE_right p.rn p.rm
  unfold itO itsP
  split <;> simp [itLs, itU, It.right, rightL, rightN, h1, h2, h3]

theorem itO_depth (p : Pm) (wd : Nat) (bs : List UInt8) : (itO p wd bs).depth ≤ 8 := by
  have h1 := depth_itE p.tn p.tm
  have h2 := depth_itE p.sn p.sm
  have h3 := depth_itE p.rn p.rm
  unfold itO itsP
  split <;> simp [itLs, itU, It.depth, It.depth.depthL] <;> omega

theorem itO_fit (p : Pm) (hp : p.ok) (hs : 0 ≤ p.s ∧ p.s ≤ 2) (wd : Nat) (bs : List UInt8) (hb : bs.length ≤ 4) : (itO p wd bs).fit := by
  have h1 := itE_fit p.tn p.tm hp.tn hp.tm
  have h2 := itE_fit p.sn p.sm hp.sn hp.sm
  have h3 := itE_fit p.rn p.rm hp.rn hp.rm
  obtain ⟨g1, g2, g3, g4, g5, g6, g7, g8, g9, g10⟩ := hp
  unfold itO itsP
  split <;> simp [itLs, itU, It.fit, fitL, h1, h2, h3, U64] <;> omega

/-- What stands ahead of the sum's bytes. -/
def preB (p : Pm) (k : Nat) : List UInt8 :=
  if wdN k = 0 then headB 4 (8 : Nat) ++ bytesL (itsP p) else headB 4 (9 : Nat) ++ (bytesL (itsP p) ++ headB 2 (wdN k))

theorem bytesL_append (a b : List It) : bytesL (a ++ b) = bytesL a ++ bytesL b := by
  induction a with
  | nil => simp [bytesL]
  | cons x xs ih => simp [bytesL, ih]

theorem itO_bytes (p : Pm) (k : Nat) (bs : List UInt8) (hb : bs.length = wdN k) : (itO p (wdN k) bs).bytes = preB p k ++ bs := by
  unfold itO preB
  by_cases h : wdN k = 0
  · rw [if_pos h, if_pos h]
    have h0 : bs = [] := List.eq_nil_of_length_eq_zero (by omega)
    subst h0
    simp [itLs, It.bytes, ownB4, itsP]
  · rw [if_neg h, if_neg h]
    simp [itLs, It.bytes, ownB4, bytesL_append, bytesL, ownB2, hb, itsP]

theorem preB_len (p : Pm) (k : Nat) : (preB p k).length ≤ 400 := by
  have h := fun a b => (head_length a b).2
  have e1 := itE_len p.tn p.tm
  have e2 := itE_len p.sn p.sm
  have e3 := itE_len p.rn p.rm
  have a1 := h 0 7
  have a2 := h 0 p.f
  have a3 := h 0 p.s
  have a4 := h 4 (2 : Nat)
  have a5 := h 0 p.t
  have a6 := h 0 p.q
  have a7 := h 0 p.l
  have b1 := h 4 (8 : Nat)
  have b2 := h 4 (9 : Nat)
  have b3 := h 2 (wdN k)
  unfold preB itsP
  split <;> simp [itLs, itU, It.bytes, bytesL, ownB1, ownB4] at * <;> omega

theorem wdN_le4 (k : Nat) : wdN k ≤ 4 := by
  unfold wdN
  split <;> (try split) <;> omega

theorem itO_err (p : Pm) (k : Nat) (bs : List UInt8) (hb : bs.length = wdN k) : (itO p (wdN k) bs).err = 0 := by
  have h1 := itO_depth p (wdN k) bs
  have h2 := preB_len p k
  have h3 := wdN_le4 k
  have h4 : (itO p (wdN k) bs).bytes.length ≤ 404 := by
    rw [itO_bytes p k bs hb, List.length_append]
    omega
  rw [It.err, if_pos (itO_right p _ bs), if_neg (by omega), if_neg (by omega)]

theorem zeroB_eq (p : Pm) (k : Nat) : zeroB p k = preB p k ++ List.replicate (wdN k) 0 := itO_bytes p k _ (by simp)
theorem encP_eq (p : Pm) (k : Nat) : encP p k = preB p k ++ sumB k (zeroB p k) := itO_bytes p k _ (sumB_length k _)

theorem encP_len (p : Pm) (k : Nat) : (encP p k).length = (preB p k).length + wdN k := by rw [encP_eq, List.length_append, sumB_length]

/-- A primary's bytes are read as its item. -/
theorem decodeN_enc (p : Pm) (hp : p.ok) (k : Nat) (hs : 0 ≤ p.s ∧ p.s ≤ 2) : decodeN (encP p k) = .ok (itO p (wdN k) (sumB k (zeroB p k))) := by
  have hb := sumB_length k (zeroB p k)
  have h3 := wdN_le4 k
  have h4 := preB_len p k
  have hl := encP_len p k
  have h := firstN_of (itO p (wdN k) (sumB k (zeroB p k))) [] (itO_err p k _ hb) (itO_fit p hp hs _ _ (by omega)) (by
    show ((encP p k) ++ []).length ≤ 65536
    rw [List.append_nil]
    omega)
  rw [List.append_nil] at h
  have h' : firstN (encP p k) = .ok (itO p (wdN k) (sumB k (zeroB p k)), (encP p k).length) := h
  rw [decodeN, h']
  simp

end Go.Proofs.YtlmdbeccfoncpaaGreatDoor
