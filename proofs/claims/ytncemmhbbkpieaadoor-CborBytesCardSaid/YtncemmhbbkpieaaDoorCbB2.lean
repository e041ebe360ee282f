/- The document's answer of layer 3, read: first. -/
import Derived.Test.YtncemmhbbkpieaaDoorCbB1
import Derived.Test.YtncemmhbbkpieaaDoorCbBx
namespace Go.Proofs.YtncemmhbbkpieaaDoor
open Go.RowKit Go.Shelf
set_option linter.unusedSimpArgs false
set_option linter.unusedVariables false

def RdFirstP (w : World) (k : Nat) (bs : List UInt8) (e : Ending) (w' : World) : Prop :=
  Below w.heap.size w w' ∧ match itemN k bs with
    | .error c => e = .returned (.tuple #[itemV 0 0 [], .int .i64 0, .int .i64 c])
    | .ok (x, r) => ∃ v, e = .returned (.tuple #[v, .int .i64 ((bs.length - r.length : Nat) : Int), .int .i64 0]) ∧ ItS w' (newB w w') v x

theorem rdFirst_err {w w1 : World} {k c : Nat} {bs : List UInt8} (hB : Below w.heap.size w w1) (h : itemN k bs = .error c) :
    RdFirstP w k bs (.returned (.tuple #[itemV 0 0 [], .int .i64 0, .int .i64 c])) (put5 w1 w.heap.size (.int .i64 0) (.int .u64 0) (.slice none 0 0) (.string ⟨#[]⟩) (.slice none 0 0)) := by
  refine ⟨hB.trans (put5_below w1 w.heap.size w.heap.size (Nat.le_refl _) _ _ _ _ _), ?_⟩
  rw [h]

theorem rdFirst_ok {w w0 w1 : World} {k : Nat} {bs r : List UInt8} {x : It} {v0 v1 v2 v3 v4 : Value} {N : Int} (hB : Below w.heap.size w w1) (h0 : w.heap.size < w0.heap.size) (h : itemN k bs = .ok (x, r)) (hx : ItS w1 (newB w0 w1) (.agg #[v0, v1, v2, v3, v4]) x)
    (hN : N = ((bs.length - r.length : Nat) : Int)) : RdFirstP w k bs (.returned (.tuple #[.agg #[v0, v1, v2, v3, v4], .int .i64 N, .int .i64 0])) (put5 w1 w.heap.size v0 v1 v2 v3 v4) := by
  refine ⟨hB.trans (put5_below w1 w.heap.size w.heap.size (Nat.le_refl _) _ _ _ _ _), ?_⟩
  rw [h]
  refine ⟨_, by rw [hN], ?_⟩
  have hk : KeepB (newB w0 w1) w1 (put5 w1 w.heap.size v0 v1 v2 v3 v4) := fun b hbb => put5_block w1 w.heap.size v0 v1 v2 v3 v4 b (by have := hbb.1; omega)
  exact (ItS.keep hk x hx).more fun b hbb => ⟨by have := hbb.1; omega, by rw [put5_size]; exact hbb.2⟩

/-- The result's box, in a later world. -/
theorem box0_later {w w1 : World} (hb : Below (w.heap.size + 1) (w.alloc (.cells #[.int .i64 0, .int .u64 0, .slice none 0 0, .string ⟨#[]⟩, .slice none 0 0] 28)) w1) :
    (w1.cell? ⟨w.heap.size, 0, none⟩ = some (.int .i64 0) ∧ w1.cell? ⟨w.heap.size, 1, none⟩ = some (.int .u64 0) ∧ w1.cell? ⟨w.heap.size, 2, none⟩ = some (.slice none 0 0) ∧ w1.cell? ⟨w.heap.size, 3, none⟩ = some (.string ⟨#[]⟩) ∧ w1.cell? ⟨w.heap.size, 4, none⟩ = some (.slice none 0 0)) ∧
      ∀ i, w1.frozen? ⟨w.heap.size, i, none⟩ = false := by
  have hc : ∀ i, w1.cell? ⟨w.heap.size, i, none⟩ = (w.alloc (.cells #[.int .i64 0, .int .u64 0, .slice none 0 0, .string ⟨#[]⟩, .slice none 0 0] 28)).cell? ⟨w.heap.size, i, none⟩ := fun i => hb.cell (p := ⟨w.heap.size, i, none⟩) (by simp)
  exact ⟨⟨(hc 0).trans (by simp), (hc 1).trans (by simp), (hc 2).trans (by simp), (hc 3).trans (by simp), (hc 4).trans (by simp)⟩, fun i => (hb.frozen (p := ⟨w.heap.size, i, none⟩) (by simp)).trans (by simp)⟩

/-- One item more, onto the row: what the rows hold. -/
theorem row_step {w wr w1 w2 : World} {R j : Nat} {v v' v0 v1 v2 v3 v4 : Value} {xs : List Value} {l : List It} {x : It} {t : TypeId}
    (hb : But R w wr) (hown : wr.ownsRow w.heap.size 28 5 v j xs) (hls : LS wr (newButs w wr v) xs l)
    (hRs : R < w.heap.size) (hb1 : But R wr w1) (hx : ItS w1 (newB wr w1) (.agg #[v0, v1, v2, v3, v4]) x)
    (h2 : w2.ownsRow w.heap.size 28 5 v' (j + 1) (xs ++ [v0, v1, v2, v3, v4])) (h3 : (w1.alloc (.cells #[v0, v1, v2, v3, v4] t)).grownBy w2 v.ownBlock)
    (h5 : v'.ownBlock = v.ownBlock ∨ v'.ownBlock = some (w1.alloc (.cells #[v0, v1, v2, v3, v4] t)).heap.size) : But R w w2 ∧ LS w2 (newButs w w2 v') (xs ++ [v0, v1, v2, v3, v4]) (l ++ [x]) := by
  have hrow := World.ownsRow.lt hown
  have hsz := hb.size
  have hsz1 := hb1.size
  have hA : (w1.alloc (.cells #[v0, v1, v2, v3, v4] t)).heap.size = w1.heap.size + 1 := World.size_alloc _ _
  have hB2 : Below w.heap.size (w1.alloc (.cells #[v0, v1, v2, v3, v4] t)) w2 := (Below.refl _ _).grown h3 (by omega) (fun k hk => (hrow k hk).1)
  have hB1 : Below w1.heap.size w1 (w1.alloc (.cells #[v0, v1, v2, v3, v4] t)) := below_al (Below.refl _ _) _
  have hB12 : Below w.heap.size w1 w2 := (hB1.mono (by omega)).trans hB2
  have hsz2 := hB2.size
  have hkeep : ∀ S : Nat → Prop, (∀ b, S b → b < w1.heap.size) → (∀ r, v.ownBlock = some r → ¬ S r) → KeepB S w1 w2 := fun S hS hne =>
    KeepB.grown (S := S) (fun b hb => hB1.block b (hS b hb)) (fun b hb => by have := hS b hb; omega) h3 hne
  have k1 : KeepB (newButs w wr v) w1 w2 := hkeep _ (fun b hb => Nat.lt_of_lt_of_le hb.1.2 hsz1) (fun r hr hs => hs.2 hr)
  have k0 : KeepB (newButs w wr v) wr w2 := fun b hb => (k1 b hb).trans (hb1.block b hb.1.2 (by have := hb.1.1; omega))
  have k2 : KeepB (newB wr w1) w1 w2 := hkeep _ (fun b hb => hb.2) (fun r hr hs => by have := (hrow r hr).2; have := hs.1; omega)
  have hT : ∀ b, newB wr w1 b → newButs w w2 v' b := fun b hb => ⟨⟨by have := hb.1; omega, by have := hb.2; omega⟩, fun q => by
    rcases h5 with h5 | h5
    · rw [h5] at q
      have := (hrow b q).2
      have := hb.1
      omega
    · rw [h5, hA] at q
      injection q with q
      have := hb.2
      omega⟩
  have hS : ∀ b, newButs w wr v b → newButs w w2 v' b := fun b hb => ⟨⟨hb.1.1, by have := hb.1.2; omega⟩, fun q => by
    rcases h5 with h5 | h5
    · rw [h5] at q
      exact hb.2 q
    · rw [h5, hA] at q
      injection q with q
      have := hb.1.2
      omega⟩
  exact ⟨(hb.trans hb1).low hB12, LS.snoc ((hx.keep k2).more hT) ((hls.keep k0).more hS)⟩

/-- Where the walk over a list stands: G is the list's own box. -/
def ListJ (g : List UInt8 → Except Nat (It × List UInt8)) (N : Nat) (bs r0 : List UInt8) (w : World) (G j p : Nat) (v : Value) (wr : World) : Prop :=
  But G w wr ∧ (Box5 wr G (.int .i64 4) (.int .u64 0) (.slice none 0 0) (.string ⟨#[]⟩) v ∧ ∀ i, wr.frozen? ⟨G, i, none⟩ = false) ∧ ∃ xs l r, p ≤ bs.length ∧ bs.drop p = r ∧ wr.ownsRow w.heap.size 28 5 v j xs ∧ LS wr (newButs w wr v) xs l ∧ l.length = j ∧ listN g N r0 = behind l (listN g (N - j) r) ∧ r.length + j ≤ r0.length

/-- One item more: where the walk stands then. -/
theorem ListJ.step {k N G j p m : Nat} {bs r0 r' : List UInt8} {W0 wr w2 W2 w4 : World} {v v' v0 v1 v2 v3 v4 : Value} {xs : List Value} {l : List It} {x : It} {t : TypeId}
    (hG : G < W0.heap.size) (hj : j < N) (hb : But G W0 wr) (hbox : Box5 wr G (.int .i64 4) (.int .u64 0) (.slice none 0 0) (.string ⟨#[]⟩) v ∧ ∀ i, wr.frozen? ⟨G, i, none⟩ = false)
    (hp : p ≤ bs.length) (hown : wr.ownsRow W0.heap.size 28 5 v j xs) (hls : LS wr (newButs W0 wr v) xs l) (hll : l.length = j) (hcon : listN (itemN k) N r0 = behind l (listN (itemN k) (N - j) (bs.drop p))) (hrj : (bs.drop p).length + j ≤ r0.length)
    (hit : itemN k (bs.drop p) = .ok (x, r')) (hm : m = (bs.drop p).length - r'.length) (hb2 : Below wr.heap.size wr w2) (hx : ItS w2 (newB wr w2) (.agg #[v0, v1, v2, v3, v4]) x) (hW2 : W2 = w2.alloc (.cells #[v0, v1, v2, v3, v4] t))
    (h2 : w4.ownsRow W0.heap.size 28 5 v' (j + 1) (xs ++ [v0, v1, v2, v3, v4])) (h3 : (W2.alloc (.cells #[v0, v1, v2, v3, v4] t)).grownBy w4 v.ownBlock)
    (h5 : v'.ownBlock = v.ownBlock ∨ v'.ownBlock = some (W2.alloc (.cells #[v0, v1, v2, v3, v4] t)).heap.size) :
    Hid (ListJ (itemN k) N bs r0 W0 G (j + 1) (p + m) v' (w4.setCell ⟨G, 4, none⟩ v')) ∧ (w4.cell? ⟨G, 4, none⟩ = some v ∧ w4.frozen? ⟨G, 4, none⟩ = false) ∧ p + m ≤ bs.length := by
  have hbk := (itemN_back k _ x r' hit).2.2
  have hless := itemN_less k _ _ _ hit
  have hsz := hb.size
  have hsz2 := hb2.size
  have hrow := World.ownsRow.lt hown
  have hb2' : Below wr.heap.size wr W2 := by rw [hW2]; exact below_al hb2 _
  have hxk : ItS W2 (newB wr W2) (.agg #[v0, v1, v2, v3, v4]) x := by
    have hk : KeepB (newB wr w2) w2 W2 := fun b hbb => by
      rw [hW2]
      exact (below_al (Below.refl w2.heap.size w2) _).block b hbb.2
    exact (ItS.keep hk x hx).more fun b hbb => ⟨hbb.1, by rw [hW2, World.size_alloc]; have := hbb.2; omega⟩
  obtain ⟨q1, q2⟩ := row_step hb hown hls hG (But.of_below hb2') hxk h2 h3 h5
  have hszW : W2.heap.size = w2.heap.size + 1 := by rw [hW2]; exact World.size_alloc _ _
  have hbz : Below W0.heap.size wr w4 := (below_al hb2' (.cells #[v0, v1, v2, v3, v4] t)).mono (by omega) |>.trans ((Below.refl _ _).grown h3 (by rw [World.size_alloc]; omega) (fun k hk => (hrow k hk).1))
  have hbox4 := hbox.1.later hbz hG
  have hfr4 : ∀ i, w4.frozen? ⟨G, i, none⟩ = false := fun i => (hbz.frozen (p := ⟨G, i, none⟩) hG).trans (hbox.2 i)
  have hln : (bs.drop p).length = bs.length - p := List.length_drop
  have hpm : p + m ≤ bs.length := by omega
  refine ⟨?_, ⟨hbox4.2.2.2.2, hfr4 4⟩, hpm⟩
  have hset : But G w4 (w4.setCell ⟨G, 4, none⟩ v') := But.set w4 v'
  have hkS : KeepB (newButs W0 w4 v') w4 (w4.setCell ⟨G, 4, none⟩ v') := fun b hbb => Below.heap_setCell _ _ _ b (by have := hbb.1.1; show b ≠ G; omega)
  refine ⟨q1.trans hset, ⟨⟨?_, ?_, ?_, ?_, ?_⟩, fun i => by rw [World.frozen?_setCell]; exact hfr4 i⟩, xs ++ [v0, v1, v2, v3, v4], l ++ [x], r', hpm, ?_, ownsRow_but h2 hset hG, ?_, by simp [hll], ?_, by omega⟩
  · rw [World.cell?_setCell_other _ _ _ _ (by simp)]; exact hbox4.1
  · rw [World.cell?_setCell_other _ _ _ _ (by simp)]; exact hbox4.2.1
  · rw [World.cell?_setCell_other _ _ _ _ (by simp)]; exact hbox4.2.2.1
  · rw [World.cell?_setCell_other _ _ _ _ (by simp)]; exact hbox4.2.2.2.1
  · exact World.cell?_setCell_same _ _ _ hbox4.2.2.2.2
  · rw [← List.drop_drop, hm]
    have e : (bs.drop p).length - r'.length = x.bytes.length := by
      have := congrArg List.length hbk
      simp only [List.length_append] at this
      omega
    rw [e]
    conv => lhs; rw [hbk]
    simp
  · exact (q2.keep hkS).more fun b hbb => ⟨⟨hbb.1.1, by rw [World.size_setCell]; exact hbb.1.2⟩, hbb.2⟩
  · rw [hcon, show N - j = (N - (j + 1)) + 1 by omega, behind_step (itemN k) l _ _ r' x hit]

theorem headN_drop {bs r : List UInt8} {m : Nat} {n : Int} (h : headN bs = some (m, n, r)) : bs.length - r.length ≤ bs.length ∧ 1 ≤ bs.length - r.length ∧ bs.drop (bs.length - r.length) = r := by
  have h1 := headN_back h
  have h2 := headN_less h
  refine ⟨by omega, by omega, ?_⟩
  have e : bs.length - r.length = (headB m n).length := by rw [h1]; simp
  rw [e]
  conv => lhs; rw [h1]
  simp

/-- A byte of 244 to 246 alone has a head of 7 whose number is 20 to 22. -/
theorem headN_bare {f : UInt8} {r r1 : List UInt8} {n : Int} (h : headN (f :: r) = some (7, n, r1)) (hf : ¬ (244 ≤ f.toNat ∧ f.toNat ≤ 246)) : bareN n r1 = .error 121 := by
  have hu := (headN_u64 h).1
  have h1 := headN_back h
  unfold bareN
  by_cases hn : n < 24
  · rw [headB_small 7 n hn] at h1
    have h2 : f = UInt8.ofNat (32 * 7 + n.toNat) := by
      have := congrArg List.head? h1
      simpa using this
    have h3 : f.toNat = 224 + n.toNat := by
      rw [h2, ofNat_toNat (by have := hu.1; omega)]
    have := hu.1
    rw [if_neg (by omega), if_neg (by omega)]
  · rw [if_neg (by omega), if_neg (by omega)]

theorem headN_f7 {f : UInt8} {r : List UInt8} (h : 244 ≤ f.toNat ∧ f.toNat ≤ 246) : headN (f :: r) = some (7, ((f.toNat - 224 : Nat) : Int), r) := by
  have h1 : f.toNat % 32 < 24 := by omega
  simp only [headN, h1, if_true]
  rw [show f.toNat / 32 = 7 by omega, show f.toNat % 32 = f.toNat - 224 by omega]

def RdFirstAt (k : Nat) : Prop := ∀ (a : Option Addr) (n c : Nat) (bs : List UInt8) (w : World), n = bs.length → n ≤ c → bs.length ≤ 1000000 → RdB w w.heap.size a bs →
  Calls Tryd.prog 25 #[.slice a n c, .int .i64 ((8 - k : Nat) : Int)] w (RdFirstP w k bs)

set_option maxRecDepth 100000 in
set_option maxHeartbeats 4000000 in
theorem rdFirst_zero : RdFirstAt 0 := by
  intro a n c bs w hn hc hl hr
  clear hr hn hl hc
  show Calls _ _ #[_, .int .i64 8] _ _
  go_enter Tryd.func25, Tryd.ntmps25
  go_wp2_with fail
  exact bodyPost_ret (v := .tuple #[itemV 0 0 [], .int .i64 0, .int .i64 120]) (by simp [results, Tryd.results25, go_sem, itemV]) rfl ⟨below_al (Below.refl _ _) _, rfl⟩

set_option maxRecDepth 100000 in
set_option maxHeartbeats 4000000 in
theorem rdFirst_f7 (k : Nat) (hk : k < 8) (a : Option Addr) (n c : Nat) (f : UInt8) (r : List UInt8) (w : World) (hn : n = (f :: r).length) (hr : RdB w w.heap.size a (f :: r)) (h : 244 ≤ f.toNat ∧ f.toNat ≤ 246) :
    Calls Tryd.prog 25 #[.slice a n c, .int .i64 ((8 - (k + 1) : Nat) : Int)] w (RdFirstP w (k + 1) (f :: r)) := by
  obtain ⟨b, o, rfl, hb, hc⟩ := hr.cell0
  have HI : Hid (itemN (k + 1) (f :: r) = bareN ((f.toNat - 224 : Nat) : Int) r) := itemN_bare (headN_f7 h)
  have HL : Hid (((f :: r).length - r.length : Nat) = 1) := by simp [Hid]
  obtain ⟨x, hx⟩ : ∃ x, x = f.toNat := ⟨_, rfl⟩
  rw [← hx] at hc h HI
  obtain ⟨q, hq⟩ : ∃ q, q = 8 - (k + 1) := ⟨_, rfl⟩
  rw [← hq]
  have hq7 : q ≤ 7 := by omega
  have hn1 : 0 < n := by rw [hn]; simp
  have hx3 : x = 244 ∨ x = 245 ∨ x = 246 := by omega
  clear hn hx hr hq h hk
  rcases hx3 with rfl | rfl | rfl
  · have HP : Hid (itemN (k + 1) (f :: r) = .ok (.mk 5 0 [] [] [], r)) := by rw [Hid, HI.out]; rfl
    clear HI
    go_enter Tryd.func25, Tryd.ntmps25
    go_wp2_with fail
    refine bodyPost_ret (v := .tuple #[itemV 5 0 [], .int .i64 1, .int .i64 0]) (by simp [results, Tryd.results25, go_sem, itemV]) rfl ⟨below_al (Below.refl _ _) _, ?_⟩
    rw [HP.out]
    exact ⟨_, by rw [HL.out]; rfl, itS_plain _ _ 5 0 [] (by decide) ⟨by decide, by decide⟩ (Nat.zero_le _)⟩
  · have HP : Hid (itemN (k + 1) (f :: r) = .ok (.mk 5 1 [] [] [], r)) := by rw [Hid, HI.out]; rfl
    clear HI
    go_enter Tryd.func25, Tryd.ntmps25
    go_wp2_with fail
    refine bodyPost_ret (v := .tuple #[itemV 5 1 [], .int .i64 1, .int .i64 0]) (by simp [results, Tryd.results25, go_sem, itemV]) rfl ⟨below_al (Below.refl _ _) _, ?_⟩
    rw [HP.out]
    exact ⟨_, by rw [HL.out]; rfl, itS_plain _ _ 5 1 [] (by decide) ⟨by decide, by decide⟩ (Nat.zero_le _)⟩
  · have HP : Hid (itemN (k + 1) (f :: r) = .ok (.mk 6 0 [] [] [], r)) := by rw [Hid, HI.out]; rfl
    clear HI
    go_enter Tryd.func25, Tryd.ntmps25
    go_wp2_with fail
    refine bodyPost_ret (v := .tuple #[itemV 6 0 [], .int .i64 1, .int .i64 0]) (by simp [results, Tryd.results25, go_sem, itemV]) rfl ⟨below_al (Below.refl _ _) _, ?_⟩
    rw [HP.out]
    exact ⟨_, by rw [HL.out]; rfl, itS_plain _ _ 6 0 [] (by decide) ⟨by decide, by decide⟩ (Nat.zero_le _)⟩

end Go.Proofs.YtncemmhbbkpieaaDoor
