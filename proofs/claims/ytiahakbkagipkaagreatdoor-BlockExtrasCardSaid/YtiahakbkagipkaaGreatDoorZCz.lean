/- Joined texts. -/
import Derived.Test.YtiahakbkagipkaaGreatDoorZKp
import Derived.Test.YtiahakbkagipkaaGreatDoorZKq
import Derived.Test.YtiahakbkagipkaaGreatDoorZCa
import Derived.Deep.QuietTactic
import Derived.BigQuiet
import Derived.IntWalk
import Derived.Test.YtiahakbkagipkaaGreatDoorZKv
set_option linter.unusedSimpArgs false
set_option linter.unusedVariables false
namespace Go.Proofs.YtiahakbkagipkaaGreatDoor
open Go.RowKit Go.Shelf

theorem ofNat_toNat {k : Nat} (h : k < 256) : (UInt8.ofNat k).toNat = k := by
 rw [UInt8.toNat_ofNat']
 omega

def Box5 (W : World) (b : Nat) (v0 v1 v2 v3 v4 : Value) : Prop :=
 W.cell? ⟨b, 0, none⟩ = some v0 ∧ W.cell? ⟨b, 1, none⟩ = some v1 ∧ W.cell? ⟨b, 2, none⟩ = some v2 ∧ W.cell? ⟨b, 3, none⟩ = some v3 ∧ W.cell? ⟨b, 4, none⟩ = some v4

theorem Box5.later {W W' : World} {b B : Nat} {v0 v1 v2 v3 v4 : Value} (h : Box5 W b v0 v1 v2 v3 v4) (hb : Below B W W') (hlt : b < B) : Box5 W' b v0 v1 v2 v3 v4 :=
 ⟨(hb.cell (p := ⟨b, 0, none⟩) hlt).trans h.1, (hb.cell (p := ⟨b, 1, none⟩) hlt).trans h.2.1, (hb.cell (p := ⟨b, 2, none⟩) hlt).trans h.2.2.1, (hb.cell (p := ⟨b, 3, none⟩) hlt).trans h.2.2.2.1, (hb.cell (p := ⟨b, 4, none⟩) hlt).trans h.2.2.2.2⟩

theorem row_step {w wr w1 w2 : World} {R j : Nat} {v v' v0 v1 v2 v3 v4 : Value} {xs : List Value} {l : List It} {x : It} {t : TypeId}
  (hb : But R w wr) (hown : wr.ownsRow w.heap.size 83 5 v j xs) (hls : LS wr (newButs w wr v) xs l)
  (hRs : R < w.heap.size) (hb1 : But R wr w1) (hx : ItS w1 (newB wr w1) (.agg #[v0, v1, v2, v3, v4]) x)
  (h2 : w2.ownsRow w.heap.size 83 5 v' (j + 1) (xs ++ [v0, v1, v2, v3, v4])) (h3 : (w1.alloc (.cells #[v0, v1, v2, v3, v4] t)).grownBy w2 v.ownBlock)
  (h5 : v'.ownBlock = v.ownBlock ∨ v'.ownBlock = some (w1.alloc (.cells #[v0, v1, v2, v3, v4] t)).heap.size) : But R w w2 ∧ LS w2 (newButs w w2 v') (xs ++ [v0, v1, v2, v3, v4]) (l ++ [x]) := by
 have hrow := World.ownsRow.lt hown
 have hsz := hb.size
 have hsz1 := hb1.size
 have hA : (w1.alloc (.cells #[v0, v1, v2, v3, v4] t)).heap.size = w1.heap.size + 1 := World.size_alloc _ _
 have hB2 : Below w.heap.size (w1.alloc (.cells #[v0, v1, v2, v3, v4] t)) w2 := bR.grown h3 (by omega) (fun k hk => (hrow k hk).1)
 have hB1 : Below w1.heap.size w1 (w1.alloc (.cells #[v0, v1, v2, v3, v4] t)) := below_al bR _
 have hB12 : Below w.heap.size w1 w2 := (hB1.mono (by omega)).trans hB2
 have hsz2 := hB2.size
 have hkeep : ∀ S : Nat → Prop, (∀ b, S b → b < w1.heap.size) → (∀ r, v.ownBlock = some r → ¬ S r) → KeepB S w1 w2 := fun S hS hne =>
  KeepB.grown (S := S) (fun b hb => hB1.block b (hS b hb)) (fun b hb => by have := hS b hb; omega) h3 hne
 have k1 : KeepB (newButs w wr v) w1 w2 := hkeep _ (fun b hb => Nat.lt_of_lt_of_le hb.1.2 hsz1) (fun r hr hs => hs.2 hr)
 have k0 : KeepB (newButs w wr v) wr w2 := fun b hb => (k1 b hb).trans (hb1.block b hb.1.2 (by have := hb.1.1; omega))
 have k2 : KeepB (newB wr w1) w1 w2 := hkeep _ (fun b hb => hb.2) (fun r hr hs => by have := (hrow r hr).2; have := hs.1; omega)
 have hT : ∀ b, newB wr w1 b → newButs w w2 v' b := fun b hb => ⟨⟨by have := hb.1; omega, by have := hb.2; omega⟩, fun q => by
  rcases h5 with h5 | h5
  ·rw [h5] at q
   have := (hrow b q).2
   have := hb.1
   omega
  ·rw [h5, hA] at q
   injection q with q
   have := hb.2
   omega⟩
 have hS : ∀ b, newButs w wr v b → newButs w w2 v' b := fun b hb => ⟨⟨hb.1.1, by have := hb.1.2; omega⟩, fun q => by
  rcases h5 with h5 | h5
  ·rw [h5] at q
   exact hb.2 q
  ·rw [h5, hA] at q
   injection q with q
   have := hb.1.2
   omega⟩
 exact ⟨(hb.trans hb1).low hB12, LS.snoc ((hx.keep k2).more hT) ((hls.keep k0).more hS)⟩

def ListJ (g : List UInt8 → Except Nat (It × List UInt8)) (N : Nat) (bs r0 : List UInt8) (w : World) (G j p : Nat) (v : Value) (wr : World) : Prop :=
 But G w wr ∧ (Box5 wr G (.int .i64 4) (.int .u64 0) (.slice none 0 0) (.string ⟨#[]⟩) v ∧ ∀ i, wr.frozen? ⟨G, i, none⟩ = false) ∧ ∃ xs l r, p ≤ bs.length ∧ bs.drop p = r ∧ wr.ownsRow w.heap.size 83 5 v j xs ∧ LS wr (newButs w wr v) xs l ∧ l.length = j ∧ listN g N r0 = behind l (listN g (N - j) r) ∧ r.length + j ≤ r0.length

theorem ListJ.step {k N G j p m : Nat} {bs r0 r' : List UInt8} {W0 wr w2 W2 w4 : World} {v v' v0 v1 v2 v3 v4 : Value} {xs : List Value} {l : List It} {x : It} {t : TypeId}
  (hG : G < W0.heap.size) (hj : j < N) (hb : But G W0 wr) (hbox : Box5 wr G (.int .i64 4) (.int .u64 0) (.slice none 0 0) (.string ⟨#[]⟩) v ∧ ∀ i, wr.frozen? ⟨G, i, none⟩ = false)
  (hp : p ≤ bs.length) (hown : wr.ownsRow W0.heap.size 83 5 v j xs) (hls : LS wr (newButs W0 wr v) xs l) (hll : l.length = j) (hcon : listN (itemN k) N r0 = behind l (listN (itemN k) (N - j) (bs.drop p))) (hrj : (bs.drop p).length + j ≤ r0.length)
  (hit : itemN k (bs.drop p) = .ok (x, r')) (hm : m = (bs.drop p).length - r'.length) (hb2 : Below wr.heap.size wr w2) (hx : ItS w2 (newB wr w2) (.agg #[v0, v1, v2, v3, v4]) x) (hW2 : W2 = w2.alloc (.cells #[v0, v1, v2, v3, v4] t))
  (h2 : w4.ownsRow W0.heap.size 83 5 v' (j + 1) (xs ++ [v0, v1, v2, v3, v4])) (h3 : (W2.alloc (.cells #[v0, v1, v2, v3, v4] t)).grownBy w4 v.ownBlock)
  (h5 : v'.ownBlock = v.ownBlock ∨ v'.ownBlock = some (W2.alloc (.cells #[v0, v1, v2, v3, v4] t)).heap.size) :
  Hid (ListJ (itemN k) N bs r0 W0 G (j + 1) (p + m) v' (w4.setCell ⟨G, 4, none⟩ v')) ∧ (w4.cell? ⟨G, 4, none⟩ = some v ∧ w4.frozen? ⟨G, 4, none⟩ = false) ∧ p + m ≤ bs.length := by
 have hbk := (itemN_back k _ x r' hit).2.2
 have hless := itemN_less k _ _ _ hit
 have hsz := hb.size
 have hsz2 := hb2.size
 have hrow := World.ownsRow.lt hown
 have hb2' : Below wr.heap.size wr W2 := by rw [hW2]; exact below_al hb2 _
 have hxk : ItS W2 (newB wr W2) (.agg #[v0, v1, v2, v3, v4]) x := by
  have hk : KeepB (newB wr w2) w2 W2 := fun b hbb => by
   rw [hW2]
   exact (below_al (Below.refl w2.heap.size w2) _).block b hbb.2
  exact (ItS.keep hk x hx).more fun b hbb => ⟨hbb.1, by rw [hW2, World.size_alloc]; have := hbb.2; omega⟩
 obtain ⟨q1, q2⟩ := row_step hb hown hls hG (But.of_below hb2') hxk h2 h3 h5
 have hszW : W2.heap.size = w2.heap.size + 1 := by rw [hW2]; exact World.size_alloc _ _
 have hbz : Below W0.heap.size wr w4 := (below_al hb2' (.cells #[v0, v1, v2, v3, v4] t)).mono (by omega) |>.trans (bR.grown h3 (by rw [World.size_alloc]; omega) (fun k hk => (hrow k hk).1))
 have hbox4 := hbox.1.later hbz hG
 have hfr4 : ∀ i, w4.frozen? ⟨G, i, none⟩ = false := fun i => (hbz.frozen (p := ⟨G, i, none⟩) hG).trans (hbox.2 i)
 have hln : (bs.drop p).length = bs.length - p := List.length_drop
 have hpm : p + m ≤ bs.length := by omega
 refine ⟨?_, ⟨hbox4.2.2.2.2, hfr4 4⟩, hpm⟩
 have hset : But G w4 (w4.setCell ⟨G, 4, none⟩ v') := But.set w4 v'
 have hkS : KeepB (newButs W0 w4 v') w4 (w4.setCell ⟨G, 4, none⟩ v') := fun b hbb => Below.heap_setCell _ _ _ b (by have := hbb.1.1; show b ≠ G; omega)
 refine ⟨q1.trans hset, ⟨⟨?_, ?_, ?_, ?_, ?_⟩, fun i => by rw [World.frozen?_setCell]; exact hfr4 i⟩, xs ++ [v0, v1, v2, v3, v4], l ++ [x], r', hpm, ?_, ownsRow_but h2 hset hG, ?_, by simp [hll], ?_, by omega⟩
 ·rw [World.cell?_setCell_other _ _ _ _ (by simp)]; exact hbox4.1
 ·rw [World.cell?_setCell_other _ _ _ _ (by simp)]; exact hbox4.2.1
 ·rw [World.cell?_setCell_other _ _ _ _ (by simp)]; exact hbox4.2.2.1
 ·rw [World.cell?_setCell_other _ _ _ _ (by simp)]; exact hbox4.2.2.2.1
 ·exact World.cell?_setCell_same _ _ _ hbox4.2.2.2.2
 ·rw [← List.drop_drop, hm]
  have e : (bs.drop p).length - r'.length = x.bytes.length := by
   have := congrArg List.length hbk
   simp only [List.length_append] at this
   omega
  rw [e]
  conv => lhs; rw [hbk]
  simp
 ·exact (q2.keep hkS).more fun b hbb => ⟨⟨hbb.1.1, by rw [World.size_setCell]; exact hbb.1.2⟩, hbb.2⟩
 ·rw [hcon, show N - j = (N - (j + 1)) + 1 by omega, behind_step (itemN k) l _ _ r' x hit]

end Go.Proofs.YtiahakbkagipkaaGreatDoor
