/- Package octet's Split. -/
import Derived.Test.YtncemmhbbkpieaaDoorOctG
namespace Go.Proofs.YtncemmhbbkpieaaDoor
open Go.RowKit Go.Shelf

/-- A slice at a reads as these integers. -/
def RdI (w : World) (B : Nat) (a : Option Addr) (zs : List Int) : Prop :=
  zs = [] ∨ ∃ b o, a = some ⟨b, o, none⟩ ∧ b < B ∧ ∀ j, j < zs.length → w.cell? ⟨b, o + j, none⟩ = some (.int .i64 (zs[j]?.getD 0))

theorem RdI.below {w w' : World} {B : Nat} {a : Option Addr} {zs : List Int} (h : RdI w B a zs) (hb : Below B w w') : RdI w' B a zs := by
  rcases h with h | ⟨b, o, e, hlt, hc⟩
  · exact .inl h
  · exact .inr ⟨b, o, e, hlt, fun j hj => (hb.cell (p := ⟨b, o + j, none⟩) hlt).trans (hc j hj)⟩

theorem RdI.mono {w : World} {B B' : Nat} {a : Option Addr} {zs : List Int} (h : RdI w B a zs) (hB : B ≤ B') : RdI w B' a zs := by
  rcases h with h | ⟨b, o, e, hlt, hc⟩
  · exact .inl h
  · exact .inr ⟨b, o, e, by omega, hc⟩

/-- The pieces of bytes from f on, cut at these places; none: it can't be cut there. -/
def cutAt (bs : List UInt8) : Nat → List Int → Option (List (List UInt8))
  | f, [] => some [bs.drop f]
  | f, t :: ts => if t < (f : Int) ∨ (bs.length : Int) < t then none else (cutAt bs t.toNat ts).map (((bs.drop f).take (t.toNat - f)) :: ·)

/-- What is left to do, k places being done. -/
def LeftCut (bs : List UInt8) (zs : List Int) (k f : Nat) (ps : List (List UInt8)) : Prop :=
  cutAt bs 0 zs = (cutAt bs f (zs.drop k)).map (ps ++ ·)

theorem leftCut_start (bs : List UInt8) (zs : List Int) : LeftCut bs zs 0 0 [] := by
  unfold LeftCut
  cases h : cutAt bs 0 zs <;> simp [h]

theorem drop_step {α : Type} (l : List α) (k : Nat) (h : k < l.length) : l.drop k = l[k] :: l.drop (k + 1) := List.drop_eq_getElem_cons h

theorem leftCut_no {bs : List UInt8} {zs : List Int} {k f : Nat} {ps : List (List UInt8)} (h : LeftCut bs zs k f ps) (hk : k < zs.length) (hbad : zs[k]?.getD 0 < (f : Int) ∨ (bs.length : Int) < zs[k]?.getD 0) : cutAt bs 0 zs = none := by
  unfold LeftCut at h
  rw [drop_step zs k hk] at h
  rw [List.getElem?_eq_getElem hk, Option.getD_some] at hbad
  rw [h, cutAt, if_pos hbad]
  rfl

theorem leftCut_step {bs : List UInt8} {zs : List Int} {k f t : Nat} {ps : List (List UInt8)} (h : LeftCut bs zs k f ps) (hk : k < zs.length) (ht : zs[k]?.getD 0 = (t : Int)) (h1 : f ≤ t) (h2 : t ≤ bs.length) :
    LeftCut bs zs (k + 1) t (ps ++ [(bs.drop f).take (t - f)]) := by
  unfold LeftCut at h ⊢
  rw [drop_step zs k hk] at h
  rw [List.getElem?_eq_getElem hk, Option.getD_some] at ht
  rw [h, cutAt, ht, if_neg (by omega), Int.toNat_natCast]
  cases cutAt bs t (zs.drop (k + 1)) <;> simp

theorem leftCut_end {bs : List UInt8} {zs : List Int} {f : Nat} {ps : List (List UInt8)} (h : LeftCut bs zs zs.length f ps) : cutAt bs 0 zs = some (ps ++ [bs.drop f]) := by
  unfold LeftCut at h
  rw [h, List.drop_length, cutAt]
  rfl

/-- What Split answers. -/
def SplitP (w : World) (bs : List UInt8) (zs : List Int) (e : Ending) (w' : World) : Prop :=
  ((cutAt bs 0 zs = none ∧ e = .returned (.tuple #[.slice none 0 0, .int .i64 4])) ∨
   ∃ ps v vs, cutAt bs 0 zs = some ps ∧ e = .returned (.tuple #[v, .int .i64 0]) ∧ OwnV w' w.heap.size 22 v vs ∧ Pcs w' w.heap.size w'.heap.size vs ps) ∧ Below w.heap.size w w'

theorem size_u8 (w : World) : (Go.sizeOf 5).run Tryd.prog w = .ok 1 w := by kernel_rfl

end Go.Proofs.YtncemmhbbkpieaaDoor
