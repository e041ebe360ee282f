/- Joined texts. -/
import Derived.Test.YtkbnglcpcehaiaaDoorZJa
import Derived.Maps.AppendAt
import Derived.OwnWalk
import Derived.StillTailTactics
namespace Go.Proofs.YtkbnglcpcehaiaaDoor
open Go.RowKit Go.Shelf

/-- An item: its kind, its number, its bytes, its text, its items. -/
inductive It where
  | mk (k : Int) (n : Int) (b s : List UInt8) (l : List It)

def It.k : It → Int | .mk k _ _ _ _ => k
def It.n : It → Int | .mk _ n _ _ _ => n
def It.b : It → List UInt8 | .mk _ _ b _ _ => b
def It.s : It → List UInt8 | .mk _ _ _ s _ => s
def It.l : It → List It | .mk _ _ _ _ l => l

/-- Five cells that are a struct's. -/
def At5 (w : World) (g o : Nat) (v : Value) : Prop :=
  ∃ v0 v1 v2 v3 v4, v = .agg #[v0, v1, v2, v3, v4] ∧ w.cell? ⟨g, o, none⟩ = some v0 ∧ w.cell? ⟨g, o + 1, none⟩ = some v1 ∧ w.cell? ⟨g, o + 2, none⟩ = some v2 ∧ w.cell? ⟨g, o + 3, none⟩ = some v3 ∧ w.cell? ⟨g, o + 4, none⟩ = some v4

def Sz (n : Nat) : Prop := n ≤ 140737488355328

/-- The shape of an item's value, its list apart. -/
def ItP (w : World) (B : Nat) (v : Value) (k n : Int) (b s : List UInt8) (m : Nat) (A : Option Addr) : Prop :=
  ∃ a c C, v = .agg #[.int .i64 k, .int .u64 n, .slice a b.length c, .string ⟨s.toArray⟩, .slice A m C] ∧ (b.length ≤ c ∧ m ≤ C) ∧ RdB w B a b ∧ U64 n ∧ (-9223372036854775808 ≤ k ∧ k < 9223372036854775808) ∧ Sz b.length ∧ Sz s.length ∧ Sz m

mutual
/-- A value reads as an item, in blocks below B. -/
def ItV (w : World) (B : Nat) (v : Value) : It → Prop
  | .mk k n b s l => ∃ A, ItP w B v k n b s l.length A ∧ (l = [] ∨ ∃ g o, A = some ⟨g, o, none⟩ ∧ g < B ∧ ItL w B g o l)
/-- The cells from an offset on read as items. -/
def ItL (w : World) (B g : Nat) (o : Nat) : List It → Prop
  | [] => True
  | x :: xs => (∃ v, At5 w g o v ∧ ItV w B v x) ∧ ItL w B g (o + 5) xs
end

theorem At5.below {w w' : World} {B g o : Nat} {v : Value} (h : At5 w g o v) (hb : Below B w w') (hg : g < B) : At5 w' g o v := by
  obtain ⟨v0, v1, v2, v3, v4, rfl, h0, h1, h2, h3, h4⟩ := h
  exact ⟨v0, v1, v2, v3, v4, rfl, (hb.cell (p := ⟨g, o, none⟩) hg).trans h0, (hb.cell (p := ⟨g, o + 1, none⟩) hg).trans h1, (hb.cell (p := ⟨g, o + 2, none⟩) hg).trans h2, (hb.cell (p := ⟨g, o + 3, none⟩) hg).trans h3, (hb.cell (p := ⟨g, o + 4, none⟩) hg).trans h4⟩

theorem ItP.below {w w' : World} {B m : Nat} {v : Value} {k n : Int} {b s : List UInt8} {A : Option Addr} (h : ItP w B v k n b s m A) (hb : Below B w w') : ItP w' B v k n b s m A := by
  obtain ⟨a, c, C, h1, h2, h3, r⟩ := h
  exact ⟨a, c, C, h1, h2, h3.below hb, r⟩

theorem ItP.mono {w : World} {B B' m : Nat} {v : Value} {k n : Int} {b s : List UInt8} {A : Option Addr} (h : ItP w B v k n b s m A) (hb : B ≤ B') : ItP w B' v k n b s m A := by
  obtain ⟨a, c, C, h1, h2, h3, r⟩ := h
  exact ⟨a, c, C, h1, h2, h3.mono hb, r⟩

mutual
theorem ItV.below {w w' : World} {B : Nat} (hb : Below B w w') : ∀ (x : It) {v : Value}, ItV w B v x → ItV w' B v x
  | .mk k n b s l, v, h => by
    simp only [ItV] at h ⊢
    obtain ⟨A, hp, hl⟩ := h
    refine ⟨A, hp.below hb, hl.imp id ?_⟩
    rintro ⟨g, o, rfl, hg, hl⟩
    exact ⟨g, o, rfl, hg, ItL.below hb hg l hl⟩
theorem ItL.below {w w' : World} {B g : Nat} (hb : Below B w w') (hg : g < B) : ∀ (l : List It) {o : Nat}, ItL w B g o l → ItL w' B g o l
  | [], _, _ => by simp only [ItL]
  | x :: xs, o, h => by
    simp only [ItL] at h ⊢
    obtain ⟨⟨v, h5, hv⟩, hr⟩ := h
    exact ⟨⟨v, h5.below hb hg, ItV.below hb x hv⟩, ItL.below hb hg xs hr⟩
end

mutual
theorem ItV.mono {w : World} {B B' : Nat} (hb : B ≤ B') : ∀ (x : It) {v : Value}, ItV w B v x → ItV w B' v x
  | .mk k n b s l, v, h => by
    simp only [ItV] at h ⊢
    obtain ⟨A, hp, hl⟩ := h
    refine ⟨A, hp.mono hb, hl.imp id ?_⟩
    rintro ⟨g, o, rfl, hg, hl⟩
    exact ⟨g, o, rfl, Nat.lt_of_lt_of_le hg hb, ItL.mono hb l hl⟩
theorem ItL.mono {w : World} {B B' g : Nat} (hb : B ≤ B') : ∀ (l : List It) {o : Nat}, ItL w B g o l → ItL w B' g o l
  | [], _, _ => by simp only [ItL]
  | x :: xs, o, h => by
    simp only [ItL] at h ⊢
    obtain ⟨⟨v, h5, hv⟩, hr⟩ := h
    exact ⟨⟨v, h5, ItV.mono hb x hv⟩, ItL.mono hb xs hr⟩
end

/-- Later, in one step: what lay below is as it was. -/
theorem ItV.on {w w' : World} {x : It} {v : Value} (h : ItV w w.heap.size v x) (hb : Below w.heap.size w w') : ItV w' w'.heap.size v x :=
  ItV.mono hb.size x (ItV.below hb x h)

/-- The item at a place. -/
theorem ItL.at {w : World} {B g : Nat} : ∀ {l : List It} {o i : Nat} {x : It}, ItL w B g o l → l[i]? = some x → ∃ v, At5 w g (o + i * 5) v ∧ ItV w B v x
  | [], _, i, _, _, hi => by simp at hi
  | y :: ys, o, 0, x, h, hi => by
    simp only [ItL] at h
    simp at hi
    subst hi
    simpa using h.1
  | y :: ys, o, i + 1, x, h, hi => by
    simp only [ItL] at h
    have := ItL.at h.2 (i := i) (x := x) (by simpa using hi)
    rw [show o + (i + 1) * 5 = o + 5 + i * 5 by omega]
    exact this

theorem ItV.form {w : World} {B : Nat} {v : Value} {x : It} (h : ItV w B v x) : ∃ a c A C, v = .agg #[.int .i64 x.k, .int .u64 x.n, .slice a x.b.length c, .string ⟨x.s.toArray⟩, .slice A x.l.length C] := by
  obtain ⟨k, n, b, s, l⟩ := x
  simp only [ItV] at h
  obtain ⟨A, ⟨a, c, C, rfl, _⟩, _⟩ := h
  exact ⟨a, c, A, C, rfl⟩

/-- The item at a place, its cells told one by one, in a later world. -/
theorem ItL.get {w w' : World} {B g : Nat} {l : List It} {o i : Nat} {x : It} (h : ItL w B g o l) (hi : l[i]? = some x) (hb : Below B w w') (hg : g < B) :
    ∃ a c A C, ItV w' B (.agg #[.int .i64 x.k, .int .u64 x.n, .slice a x.b.length c, .string ⟨x.s.toArray⟩, .slice A x.l.length C]) x ∧
      w'.cell? ⟨g, o + i * 5, none⟩ = some (.int .i64 x.k) ∧ w'.cell? ⟨g, o + i * 5 + 1, none⟩ = some (.int .u64 x.n) ∧ w'.cell? ⟨g, o + i * 5 + 2, none⟩ = some (.slice a x.b.length c) ∧
      w'.cell? ⟨g, o + i * 5 + 3, none⟩ = some (.string ⟨x.s.toArray⟩) ∧ w'.cell? ⟨g, o + i * 5 + 4, none⟩ = some (.slice A x.l.length C) := by
  obtain ⟨v, h5, hv⟩ := ItL.at h hi
  have h5 := h5.below hb hg
  have hv := ItV.below hb x hv
  obtain ⟨a, c, A, C, rfl⟩ := hv.form
  obtain ⟨v0, v1, v2, v3, v4, e, h0, h1, h2, h3, h4⟩ := h5
  injection e with e
  have e' : [Value.int .i64 x.k, .int .u64 x.n, .slice a x.b.length c, .string ⟨x.s.toArray⟩, .slice A x.l.length C] = [v0, v1, v2, v3, v4] := congrArg Array.toList e
  simp only [List.cons.injEq, and_true] at e'
  obtain ⟨rfl, rfl, rfl, rfl, rfl⟩ := e'
  exact ⟨a, c, A, C, hv, h0, h1, h2, h3, h4⟩

mutual
theorem It.ind {P : It → Prop} (h : ∀ k n b s l, (∀ y ∈ l, P y) → P (.mk k n b s l)) : ∀ x, P x
  | .mk k n b s l => h k n b s l (It.indL h l)
theorem It.indL {P : It → Prop} (h : ∀ k n b s l, (∀ y ∈ l, P y) → P (.mk k n b s l)) : ∀ l : List It, ∀ y ∈ l, P y
  | [] => fun _ hy => nomatch hy
  | x :: xs => List.forall_mem_cons.2 ⟨It.ind h x, It.indL h xs⟩
end

/-- An item's depth. -/
def It.depth : It → Nat
  | .mk _ _ _ _ l => depthL l + 1
where
  depthL : List It → Nat
    | [] => 0
    | x :: xs => max x.depth (depthL xs)

theorem depthL_mem {l : List It} {x : It} (h : x ∈ l) : x.depth ≤ It.depth.depthL l := by
  induction l with
  | nil => cases h
  | cons y ys ih =>
    simp only [It.depth.depthL]
    rcases List.mem_cons.1 h with rfl | h
    · omega
    · have := ih h
      omega

theorem depthL_take (l : List It) (k : Nat) : It.depth.depthL (l.take k) ≤ It.depth.depthL l := by
  induction l generalizing k with
  | nil => simp [It.depth.depthL]
  | cons y ys ih =>
    cases k with
    | zero => simp [It.depth.depthL]
    | succ k =>
      have := ih k
      simp only [List.take_succ_cons, It.depth.depthL]
      omega

theorem depthL_step (l : List It) (k : Nat) (hk : k < l.length) : It.depth.depthL (l.take (k + 1)) = max (It.depth.depthL (l.take k)) l[k].depth := by
  induction l generalizing k with
  | nil => simp at hk
  | cons y ys ih =>
    cases k with
    | zero => simp [It.depth.depthL]
    | succ k =>
      simp only [List.take_succ_cons, It.depth.depthL, List.getElem_cons_succ]
      rw [ih k (by simpa using hk)]
      omega

end Go.Proofs.YtkbnglcpcehaiaaDoor

namespace Go.Proofs.YtkbnglcpcehaiaaDoor
open Go.RowKit Go.Shelf

theorem max_cast (a b : Nat) : (if a < b then (b : Int) else (a : Int)) = ((max a b : Nat) : Int) := by
  split <;> omega

end Go.Proofs.YtkbnglcpcehaiaaDoor

namespace Go.Proofs.YtkbnglcpcehaiaaDoor
open Go.RowKit Go.Shelf

theorem keep_cell {S : Nat → Prop} {w w' : World} (h : KeepB S w w') {b o : Nat} (hb : S b) : w'.cell? ⟨b, o, none⟩ = w.cell? ⟨b, o, none⟩ :=
  World.cell?_of_block (w := w) (h b hb)

/-- Bytes in a block of S. -/
def RdBS (w : World) (S : Nat → Prop) (a : Option Addr) (bs : List UInt8) : Prop :=
  bs = [] ∨ ∃ b o, a = some ⟨b, o, none⟩ ∧ S b ∧ ∀ j, j < bs.length → w.cell? ⟨b, o + j, none⟩ = some (.int .u8 (byteAt bs j))

theorem RdBS.keep {w w' : World} {S : Nat → Prop} {a : Option Addr} {bs : List UInt8} (h : RdBS w S a bs) (hk : KeepB S w w') : RdBS w' S a bs := by
  rcases h with h | ⟨b, o, e, hs, hc⟩
  · exact .inl h
  · exact .inr ⟨b, o, e, hs, fun j hj => (keep_cell hk hs).trans (hc j hj)⟩

theorem RdBS.more {w : World} {S T : Nat → Prop} {a : Option Addr} {bs : List UInt8} (h : RdBS w S a bs) (hST : ∀ b, S b → T b) : RdBS w T a bs := by
  rcases h with h | ⟨b, o, e, hs, hc⟩
  · exact .inl h
  · exact .inr ⟨b, o, e, hST b hs, hc⟩

theorem RdBS.rdB {w : World} {S : Nat → Prop} {B : Nat} {a : Option Addr} {bs : List UInt8} (h : RdBS w S a bs) (hS : ∀ b, S b → b < B) : RdB w B a bs := by
  rcases h with h | ⟨b, o, e, hs, hc⟩
  · exact .inl h
  · exact .inr ⟨b, o, e, hS b hs, hc⟩

/-- An item's value, its list apart, its bytes in S. -/
def ItPS (w : World) (S : Nat → Prop) (v : Value) (k n : Int) (b s : List UInt8) (m : Nat) (A : Option Addr) : Prop :=
  ∃ a c C, v = .agg #[.int .i64 k, .int .u64 n, .slice a b.length c, .string ⟨s.toArray⟩, .slice A m C] ∧ (b.length ≤ c ∧ m ≤ C) ∧ RdBS w S a b ∧ U64 n ∧ (-9223372036854775808 ≤ k ∧ k < 9223372036854775808) ∧ Sz b.length ∧ Sz s.length ∧ Sz m

mutual
/-- A value reads as an item, in blocks of S. -/
def ItS (w : World) (S : Nat → Prop) (v : Value) : It → Prop
  | .mk k n b s l => ∃ A, ItPS w S v k n b s l.length A ∧ (l = [] ∨ ∃ g o, A = some ⟨g, o, none⟩ ∧ S g ∧ ItSL w S g o l)
def ItSL (w : World) (S : Nat → Prop) (g : Nat) (o : Nat) : List It → Prop
  | [] => True
  | x :: xs => (∃ v, At5 w g o v ∧ ItS w S v x) ∧ ItSL w S g (o + 5) xs
end

theorem At5.keep {w w' : World} {S : Nat → Prop} {g o : Nat} {v : Value} (h : At5 w g o v) (hk : KeepB S w w') (hg : S g) : At5 w' g o v := by
  obtain ⟨v0, v1, v2, v3, v4, rfl, h0, h1, h2, h3, h4⟩ := h
  exact ⟨v0, v1, v2, v3, v4, rfl, (keep_cell hk hg).trans h0, (keep_cell hk hg).trans h1, (keep_cell hk hg).trans h2, (keep_cell hk hg).trans h3, (keep_cell hk hg).trans h4⟩

mutual
theorem ItS.keep {w w' : World} {S : Nat → Prop} (hk : KeepB S w w') : ∀ (x : It) {v : Value}, ItS w S v x → ItS w' S v x
  | .mk k n b s l, v, h => by
    simp only [ItS] at h ⊢
    obtain ⟨A, ⟨a, c, C, h1, h2, h3, r⟩, hl⟩ := h
    refine ⟨A, ⟨a, c, C, h1, h2, h3.keep hk, r⟩, hl.imp id ?_⟩
    rintro ⟨g, o, rfl, hg, hl⟩
    exact ⟨g, o, rfl, hg, ItSL.keep hk hg l hl⟩
theorem ItSL.keep {w w' : World} {S : Nat → Prop} (hk : KeepB S w w') {g : Nat} (hg : S g) : ∀ (l : List It) {o : Nat}, ItSL w S g o l → ItSL w' S g o l
  | [], _, _ => by simp only [ItSL]
  | x :: xs, o, h => by
    simp only [ItSL] at h ⊢
    obtain ⟨⟨v, h5, hv⟩, hr⟩ := h
    exact ⟨⟨v, h5.keep hk hg, ItS.keep hk x hv⟩, ItSL.keep hk hg xs hr⟩
end

mutual
theorem ItS.more {w : World} {S T : Nat → Prop} (hST : ∀ b, S b → T b) : ∀ (x : It) {v : Value}, ItS w S v x → ItS w T v x
  | .mk k n b s l, v, h => by
    simp only [ItS] at h ⊢
    obtain ⟨A, ⟨a, c, C, h1, h2, h3, r⟩, hl⟩ := h
    refine ⟨A, ⟨a, c, C, h1, h2, h3.more hST, r⟩, hl.imp id ?_⟩
    rintro ⟨g, o, rfl, hg, hl⟩
    exact ⟨g, o, rfl, hST g hg, ItSL.more hST l hl⟩
theorem ItSL.more {w : World} {S T : Nat → Prop} (hST : ∀ b, S b → T b) {g : Nat} : ∀ (l : List It) {o : Nat}, ItSL w S g o l → ItSL w T g o l
  | [], _, _ => by simp only [ItSL]
  | x :: xs, o, h => by
    simp only [ItSL] at h ⊢
    obtain ⟨⟨v, h5, hv⟩, hr⟩ := h
    exact ⟨⟨v, h5, ItS.more hST x hv⟩, ItSL.more hST xs hr⟩
end

mutual
theorem ItS.itV {w : World} {S : Nat → Prop} {B : Nat} (hS : ∀ b, S b → b < B) : ∀ (x : It) {v : Value}, ItS w S v x → ItV w B v x
  | .mk k n b s l, v, h => by
    simp only [ItS] at h
    simp only [ItV]
    obtain ⟨A, ⟨a, c, C, h1, h2, h3, r⟩, hl⟩ := h
    refine ⟨A, ⟨a, c, C, h1, h2, h3.rdB hS, r⟩, hl.imp id ?_⟩
    rintro ⟨g, o, rfl, hg, hl⟩
    exact ⟨g, o, rfl, hS g hg, ItSL.itL hS l hl⟩
theorem ItSL.itL {w : World} {S : Nat → Prop} {B : Nat} (hS : ∀ b, S b → b < B) {g : Nat} : ∀ (l : List It) {o : Nat}, ItSL w S g o l → ItL w B g o l
  | [], _, _ => by simp only [ItL]
  | x :: xs, o, h => by
    simp only [ItSL] at h
    simp only [ItL]
    obtain ⟨⟨v, h5, hv⟩, hr⟩ := h
    exact ⟨⟨v, h5, ItS.itV hS x hv⟩, ItSL.itL hS xs hr⟩
end

/-- New memory. -/
def newB (w w' : World) (b : Nat) : Prop := w.heap.size ≤ b ∧ b < w'.heap.size

theorem itS_plain (w : World) (S : Nat → Prop) (k n : Int) (s : List UInt8) (hk : -9223372036854775808 ≤ k ∧ k < 9223372036854775808) (hn : U64 n) (hs : Sz s.length) :
    ItS w S (.agg #[.int .i64 k, .int .u64 n, .slice none 0 0, .string ⟨s.toArray⟩, .slice none 0 0]) (.mk k n [] s []) := by
  simp only [ItS]
  exact ⟨none, ⟨none, 0, 0, rfl, ⟨Nat.le_refl _, Nat.le_refl _⟩, .inl rfl, hn, hk, Nat.zero_le _, hs, Nat.zero_le _⟩, .inl trivial⟩

/-- A number's item; a list's. -/
def itU (n : Int) : It := .mk 1 n [] [] []
def itLs (l : List It) : It := .mk 4 0 [] [] l
def uintV (n : Int) : Value := .agg #[.int .i64 1, .int .u64 n, .slice none 0 0, .string ⟨#[]⟩, .slice none 0 0]
def listV (a : Option Addr) (n c : Nat) : Value := .agg #[.int .i64 4, .int .u64 0, .slice none 0 0, .string ⟨#[]⟩, .slice a n c]

theorem itS_uint (w : World) (S : Nat → Prop) (n : Int) (hn : U64 n) : ItS w S (uintV n) (itU n) := itS_plain w S 1 n [] (by decide) hn (Nat.zero_le _)

theorem itS_list {w : World} {S : Nat → Prop} {g n c : Nat} {l : List It} (hn : n = l.length) (hc : n ≤ c) (hs : n ≤ 140737488355328) (hg : S g) (hl : ItSL w S g 0 l) : ItS w S (listV (some ⟨g, 0, none⟩) n c) (itLs l) := by
  subst hn
  unfold itLs listV
  simp only [ItS]
  exact ⟨some ⟨g, 0, none⟩, ⟨none, 0, c, rfl, ⟨Nat.le_refl _, hc⟩, .inl rfl, ⟨by decide, by decide⟩, by decide, Nat.zero_le _, Nat.zero_le _, hs⟩, .inr ⟨g, 0, rfl, hg, hl⟩⟩

theorem itS_two {w : World} {S : Nat → Prop} {g : Nat} {v u : Value} {x y : It} (hg : S g) (h0 : At5 w g 0 v) (h1 : At5 w g 5 u) (hv : ItS w S v x) (hu : ItS w S u y) : ItS w S (listV (some ⟨g, 0, none⟩) 2 2) (itLs [x, y]) :=
  itS_list rfl (Nat.le_refl _) (by decide) hg (by simp only [ItSL]; exact ⟨⟨v, h0, hv⟩, ⟨u, h1, hu⟩, trivial⟩)

theorem itS_three {w : World} {S : Nat → Prop} {g : Nat} {v u t : Value} {x y z : It} (hg : S g) (h0 : At5 w g 0 v) (h1 : At5 w g 5 u) (h2 : At5 w g 10 t) (hv : ItS w S v x) (hu : ItS w S u y) (ht : ItS w S t z) : ItS w S (listV (some ⟨g, 0, none⟩) 3 3) (itLs [x, y, z]) :=
  itS_list rfl (Nat.le_refl _) (by decide) hg (by simp only [ItSL]; exact ⟨⟨v, h0, hv⟩, ⟨u, h1, hu⟩, ⟨t, h2, ht⟩, trivial⟩)

/-- The value of an item, its five cells written out. -/
theorem ItS.form {w : World} {S : Nat → Prop} {v : Value} {x : It} (h : ItS w S v x) : ∃ a c A C, v = .agg #[.int .i64 x.k, .int .u64 x.n, .slice a x.b.length c, .string ⟨x.s.toArray⟩, .slice A x.l.length C] := by
  obtain ⟨k, n, b, s, l⟩ := x
  simp only [ItS] at h
  obtain ⟨A, ⟨a, c, C, rfl, _⟩, _⟩ := h
  exact ⟨a, c, A, C, rfl⟩

theorem keepNew_below {w0 w w' : World} (h : Below w.heap.size w w') : KeepB (newB w0 w) w w' := fun b hb => h.block b hb.2
theorem ItS.new_on {w0 w w' : World} {v : Value} {x : It} (h : ItS w (newB w0 w) v x) (hb : Below w.heap.size w w') : ItS w' (newB w0 w') v x :=
  ItS.more (fun _ q => ⟨q.1, Nat.lt_of_lt_of_le q.2 hb.size⟩) x (ItS.keep (keepNew_below hb) x h)
theorem ItS.new_itV {w0 w : World} {v : Value} {x : It} (h : ItS w (newB w0 w) v x) : ItV w w.heap.size v x := ItS.itV (fun _ q => q.2) x h

end Go.Proofs.YtkbnglcpcehaiaaDoor

namespace Go.Proofs.YtkbnglcpcehaiaaDoor
open Go Go.RowKit Go.Shelf
set_option linter.unusedSimpArgs false
set_option linter.unusedVariables false

/-- Cells that are items', five each. -/
def LI (w : World) (S : Nat → Prop) : List Value → List It → Prop
  | xs, [] => xs = []
  | xs, x :: l => ∃ v0 v1 v2 v3 v4 rest, xs = v0 :: v1 :: v2 :: v3 :: v4 :: rest ∧ ItS w S (.agg #[v0, v1, v2, v3, v4]) x ∧ LI w S rest l

theorem LI.keep {w w' : World} {S : Nat → Prop} (hk : KeepB S w w') : ∀ {l : List It} {xs : List Value}, LI w S xs l → LI w' S xs l
  | [], _, h => h
  | x :: l, xs, h => by
    obtain ⟨v0, v1, v2, v3, v4, rest, e, hx, hr⟩ := h
    exact ⟨v0, v1, v2, v3, v4, rest, e, hx.keep hk, LI.keep hk hr⟩

theorem LI.more {w : World} {S T : Nat → Prop} (hST : ∀ b, S b → T b) : ∀ {l : List It} {xs : List Value}, LI w S xs l → LI w T xs l
  | [], _, h => h
  | x :: l, xs, h => by
    obtain ⟨v0, v1, v2, v3, v4, rest, e, hx, hr⟩ := h
    exact ⟨v0, v1, v2, v3, v4, rest, e, hx.more hST, LI.more hST hr⟩

theorem LI.app {w : World} {S : Nat → Prop} {m : List It} {ys : List Value} (hm : LI w S ys m) : ∀ {l : List It} {xs : List Value}, LI w S xs l → LI w S (xs ++ ys) (l ++ m)
  | [], xs, h => by
    have h : xs = [] := h
    subst h
    exact hm
  | y :: l, xs, h => by
    obtain ⟨u0, u1, u2, u3, u4, rest, rfl, hy, hr⟩ := h
    exact ⟨u0, u1, u2, u3, u4, rest ++ ys, rfl, hy, LI.app hm hr⟩

theorem LI.one {w : World} {S : Nat → Prop} {x : It} {v0 v1 v2 v3 v4 : Value} (hx : ItS w S (.agg #[v0, v1, v2, v3, v4]) x) : LI w S [v0, v1, v2, v3, v4] [x] :=
  ⟨v0, v1, v2, v3, v4, [], rfl, hx, rfl⟩

theorem LI.itSL {w : World} {S : Nat → Prop} {g : Nat} : ∀ {l : List It} {xs : List Value} {o : Nat}, LI w S xs l → (∀ j u, xs[j]? = some u → w.cell? ⟨g, o + j, none⟩ = some u) → ItSL w S g o l
  | [], _, _, _, _ => by simp only [ItSL]
  | x :: l, xs, o, h, hc => by
    obtain ⟨v0, v1, v2, v3, v4, rest, rfl, hx, hr⟩ := h
    simp only [ItSL]
    refine ⟨⟨_, ⟨v0, v1, v2, v3, v4, rfl, hc 0 _ rfl, hc 1 _ rfl, hc 2 _ rfl, hc 3 _ rfl, hc 4 _ rfl⟩, hx⟩, LI.itSL hr fun j u hj => ?_⟩
    have := hc (j + 5) u (by simpa using hj)
    rw [show o + 5 + j = o + (j + 5) by omega]
    exact this

theorem LI.length {w : World} {S : Nat → Prop} : ∀ {l : List It} {xs : List Value}, LI w S xs l → xs.length = l.length * 5
  | [], xs, h => by
    have h : xs = [] := h
    subst h
    rfl
  | x :: l, xs, h => by
    obtain ⟨v0, v1, v2, v3, v4, rest, rfl, _, hr⟩ := h
    have := LI.length hr
    simp only [List.length_cons]
    omega

theorem ItS.oneCells {w : World} {S : Nat → Prop} {x : It} {v0 v1 v2 v3 v4 : Value} (h : ItS w S (.agg #[v0, v1, v2, v3, v4]) x) : ∀ u ∈ [v0, v1, v2, v3, v4], u.oneCell' = true := by
  obtain ⟨a, c, A, C, e⟩ := h.form
  have e' : [v0, v1, v2, v3, v4] = [Value.int .i64 x.k, .int .u64 x.n, .slice a x.b.length c, .string ⟨x.s.toArray⟩, .slice A x.l.length C] := congrArg (fun v => match v with | .agg l => l.toList | _ => []) e
  rw [e']
  intro u hu
  simp only [List.mem_cons, List.not_mem_nil, or_false] at hu
  rcases hu with rfl | rfl | rfl | rfl | rfl <;> rfl

theorem LI.oneCell {w : World} {S : Nat → Prop} : ∀ {l : List It} {xs : List Value}, LI w S xs l → ∀ u ∈ xs, u.oneCell' = true
  | [], xs, h => by
    have h : xs = [] := h
    subst h
    intro u hu
    cases hu
  | x :: l, xs, h => by
    obtain ⟨v0, v1, v2, v3, v4, rest, rfl, hx, hr⟩ := h
    intro u hu
    rcases List.mem_append.1 (show u ∈ [v0, v1, v2, v3, v4] ++ rest from hu) with h | h
    · exact hx.oneCells u h
    · exact LI.oneCell hr u h

theorem info_itm : (Tryd.prog.info? 45).map (fun i => (i.zero, i.size, i.bytes)) = some (some (.agg #[.int .i64 0, .int .u64 0, .slice none 0 0, .string ⟨#[]⟩, .slice none 0 0]), 5, 80) := by kernel_rfl

/-- What is new since w, the own row apart. -/
def newBut (w wr : World) (v : Value) (b : Nat) : Prop := newB w wr b ∧ v.ownBlock ≠ some b

/-- Items in a row of the call's own. -/
def ListO (w wr : World) (v : Value) (l : List It) : Prop := Below w.heap.size w wr ∧ ∃ xs, wr.ownsRow w.heap.size 45 5 v l.length xs ∧ LI wr (newBut w wr v) xs l

theorem ListO.nil {w wr : World} (h : Below w.heap.size w wr) : ListO w wr (.slice none 0 0) [] := ⟨h, [], World.ownsRow_nil _ _ _ _, rfl⟩

/-- What is appended, and what comes of it: ys lie in new memory since wr, in the block g (and elsewhere). -/
theorem ListO.app {w wr w1 w2 : World} {v v' : Value} {l m : List It} {xs ys : List Value} (hb : Below w.heap.size w wr) (hown : wr.ownsRow w.heap.size 45 5 v l.length xs) (hls : LI wr (newBut w wr v) xs l)
    (hb1 : Below wr.heap.size wr w1) (hy : LI w1 (newBut w w1 v) ys m) (h2 : w2.ownsRow w.heap.size 45 5 v' (l.length + m.length) (xs ++ ys)) (h3 : w1.grownBy w2 v.ownBlock) (h5 : v'.ownBlock = v.ownBlock ∨ v'.ownBlock = some w1.heap.size) :
    ListO w w2 v' (l ++ m) := by
  have hrow := World.ownsRow.lt hown
  have hsz := hb.size
  have hsz1 := hb1.size
  have hB2 : Below w.heap.size w1 w2 := (Below.refl _ _).grown h3 (by omega) (fun k hk => (hrow k hk).1)
  have hsz2 := hB2.size
  have hkeep : ∀ S : Nat → Prop, (∀ b, S b → b < w1.heap.size) → (∀ r, v.ownBlock = some r → ¬ S r) → KeepB S w1 w2 := fun S hS hne =>
    KeepB.grown (S := S) (fun b hb => rfl) hS h3 hne
  have k1 : KeepB (newBut w wr v) w1 w2 := hkeep _ (fun b hb => Nat.lt_of_lt_of_le hb.1.2 hsz1) (fun r hr hs => hs.2 hr)
  have k0 : KeepB (newBut w wr v) wr w2 := fun b hb => (k1 b hb).trans (hb1.block b hb.1.2)
  have k2 : KeepB (newBut w w1 v) w1 w2 := hkeep _ (fun b hb => hb.1.2) (fun r hr hs => hs.2 hr)
  have hT : ∀ b, newBut w w1 v b → newBut w w2 v' b := fun b hb => ⟨⟨hb.1.1, by have := hb.1.2; omega⟩, fun q => by
    rcases h5 with h5 | h5
    · rw [h5] at q
      exact hb.2 q
    · rw [h5] at q
      injection q with q
      have := hb.1.2
      omega⟩
  have hS : ∀ b, newBut w wr v b → newBut w w2 v' b := fun b hb => ⟨⟨hb.1.1, by have := hb.1.2; omega⟩, fun q => by
    rcases h5 with h5 | h5
    · rw [h5] at q
      exact hb.2 q
    · rw [h5] at q
      injection q with q
      have := hb.1.2
      omega⟩
  refine ⟨hb.trans ((hb1.mono hsz).trans hB2), xs ++ ys, ?_, LI.app ((hy.keep k2).more hT) ((hls.keep k0).more hS)⟩
  rw [List.length_append]
  exact h2

/-- What a list of the call's own is. -/
theorem ListO.form {w wr : World} {v : Value} {l : List It} (h : ListO w wr v l) :
    ∃ A C, v = .slice A l.length C ∧ l.length ≤ C ∧ (l = [] ∨ ∃ g, A = some ⟨g, 0, none⟩ ∧ newB w wr g ∧ ItSL wr (newB w wr) g 0 l) := by
  obtain ⟨hb, xs, hown, hls⟩ := h
  rcases hown.2 with ⟨rfl, h0⟩ | ⟨gg, cp, cur, rfl, hb0, hg, hn, hm, hs, htk⟩
  · obtain rfl : l = [] := List.eq_nil_of_length_eq_zero h0
    exact ⟨none, 0, rfl, Nat.le_refl _, .inl rfl⟩
  · have hlt := (Array.getElem?_eq_some_iff.1 hg).1
    refine ⟨some ⟨gg, 0, none⟩, cp, rfl, hn, .inr ⟨gg, rfl, ⟨hb0, hlt⟩, ?_⟩⟩
    refine ItSL.more (fun b hb => hb.1) l (LI.itSL hls fun i u hi => ?_)
    have h1 : wr.cell? ⟨gg, 0 + i, none⟩ = cur[i]? := by simp [World.cell?, hg]
    rw [h1]
    have hil : i < xs.length := (List.getElem?_eq_some_iff.1 hi).1
    rw [← htk, List.getElem?_take] at hi
    split at hi
    · simpa using hi
    · cases hi

/-- The list's own item. -/
theorem ListO.item {w wr : World} {v : Value} {l : List It} (h : ListO w wr v l) (hs : l.length ≤ 1000000) : ∃ A C, v = .slice A l.length C ∧ ItS wr (newB w wr) (listV A l.length C) (itLs l) := by
  obtain ⟨A, C, rfl, hc, hl⟩ := h.form
  refine ⟨A, C, rfl, ?_⟩
  unfold itLs listV
  simp only [ItS]
  refine ⟨A, ⟨none, 0, C, rfl, ⟨Nat.le_refl _, hc⟩, .inl rfl, ⟨by decide, by decide⟩, by decide, Nat.zero_le _, Nat.zero_le _, by unfold Sz; omega⟩, hl.imp id ?_⟩
  rintro ⟨g, e, hg, hl⟩
  exact ⟨g, 0, e, hg, hl⟩

/-- New since a later world: not the own row. -/
theorem ListO.newer {w wr w1 : World} {v : Value} {l : List It} (h : ListO w wr v l) : ∀ b, newB wr w1 b → newBut w w1 v b := fun b hb => by
  obtain ⟨hb0, xs, hown, _⟩ := h
  refine ⟨⟨Nat.le_trans hb0.size hb.1, hb.2⟩, fun q => ?_⟩
  have := ((World.ownsRow.lt hown) b q).2
  have := hb.1
  omega

/-- A list as a source, later. -/
theorem ListO.src {w wr w1 : World} {v : Value} {l : List It} (h : ListO w wr v l) (hb1 : Below wr.heap.size wr w1) : ∃ A C, v = .slice A l.length C ∧ l.length ≤ C ∧ (A = none → l = []) ∧
    ∃ ys, LI w1 (newB w wr) ys l ∧ (l = [] ∨ ∃ ad, A = some ad ∧ ∀ j u, ys[j]? = some u → w1.cell? (ad.add j) = some u) := by
  obtain ⟨hb, xs, hown, hls⟩ := h
  have hl1 : LI w1 (newB w wr) xs l := LI.more (fun b hb => hb.1) (hls.keep (fun b hb => hb1.block b hb.1.2))
  rcases hown.2 with ⟨rfl, h0⟩ | ⟨gg, cp, cur, rfl, hb0, hg, hn, hm, hs, htk⟩
  · obtain rfl : l = [] := List.eq_nil_of_length_eq_zero h0
    exact ⟨none, 0, rfl, Nat.le_refl _, fun _ => rfl, xs, hl1, .inl rfl⟩
  · have hlt := (Array.getElem?_eq_some_iff.1 hg).1
    refine ⟨some ⟨gg, 0, none⟩, cp, rfl, hn, fun e => (by cases e), xs, hl1, .inr ⟨_, rfl, fun j u hu => ?_⟩⟩
    rw [mk_addr_add, Nat.zero_add]
    have h1 : wr.cell? ⟨gg, j, none⟩ = cur[j]? := by simp [World.cell?, hg]
    rw [hb1.cell (p := ⟨gg, j, none⟩) hlt, h1]
    have hil : j < xs.length := (List.getElem?_eq_some_iff.1 hu).1
    rw [← htk, List.getElem?_take] at hu
    split at hu
    · simpa using hu
    · cases hu

/-- A row of one item. -/
theorem ListO.lit {w wr : World} {x : It} {v0 v1 v2 v3 v4 : Value} (hb : Below w.heap.size w wr) (hx : ItS wr (newB w wr) (.agg #[v0, v1, v2, v3, v4]) x) : ListO w (wr.alloc (.cells #[v0, v1, v2, v3, v4] 45)) (.slice (some ⟨wr.heap.size, 0, none⟩) 1 1) [x] := by
  refine ⟨below_al hb _, [v0, v1, v2, v3, v4], ⟨rfl, .inr ⟨wr.heap.size, 1, #[v0, v1, v2, v3, v4], rfl, hb.size, World.alloc_heap_new wr _, ⟨Nat.le_refl _, by decide, rfl, rfl⟩⟩⟩, LI.one ?_⟩
  refine ItS.more (fun b hb => ⟨⟨hb.1, ?_⟩, fun q => ?_⟩) _ (ItS.keep (keepNew_below (below_al (Below.refl _ _) _)) _ hx)
  · rw [World.size_alloc]
    have := hb.2
    omega
  · have q' : some wr.heap.size = some b := q
    injection q' with q'
    have := hb.2
    omega

/-- The run of an append onto such a list. -/
theorem listO_run {w wr w1 : World} {v : Value} {l : List It} (h : ListO w wr v l) (hb1 : Below wr.heap.size wr w1) (A : Option Addr) (m : List It) (c : Nat) (hlen : l.length + m.length ≤ 1000000)
    (hy : ∃ ys, LI w1 (newBut w w1 v) ys m ∧ (m = [] ∨ ∃ ad, A = some ad ∧ ∀ j u, ys[j]? = some u → w1.cell? (ad.add j) = some u)) (hnil : A = none → m = []) :
    ∃ v' w2, (Builtin.append_ #[43, 43] 43 #[v, .slice A m.length c]).run Tryd.prog w1 = .ok v' w2 ∧ ListO w w2 v' (l ++ m) := by
  obtain ⟨hb, xs, hown, hls⟩ := h
  obtain ⟨ys, hyl, hyc⟩ := hy
  obtain ⟨i, hi, hz, hsz, hby⟩ := info_parts info_itm
  have hown1 : w1.ownsRow w.heap.size 45 5 v l.length xs := by
    obtain ⟨h1, h2⟩ := hown
    refine ⟨h1, h2.imp id ?_⟩
    rintro ⟨g, cap, cur, hv, hg0, hg, r⟩
    exact ⟨g, cap, cur, hv, hg0, (hb1.block g (Array.getElem?_eq_some_iff.1 hg).1).trans hg, r⟩
  rcases A with _ | ad
  · obtain rfl := hnil rfl
    have hrun : (Builtin.append_ #[43, 43] 43 #[v, .slice none 0 c]).run Tryd.prog w1 = .ok v w1 := by
      rcases hown1.2 with ⟨rfl, _⟩ | ⟨g, cap, cur, rfl, _, _, hn, _⟩
      · simp [Builtin.append_, run_underlying Tryd.underlying43, sizeOf, typeInfo, hi, Builtin.lenOf, Builtin.firstCells]
      · simp [Builtin.append_, run_underlying Tryd.underlying43, sizeOf, typeInfo, hi, Builtin.lenOf, Builtin.firstCells, hn, storeCells]
    have hy0 : ys = [] := hyl
    subst hy0
    exact ⟨v, w1, hrun, ListO.app hb hown hls hb1 hyl (by simpa using hown1) (World.grownBy.refl _ _) (.inl rfl)⟩
  · have hcells : ∀ j u, ys[j]? = some u → w1.cell? (ad.add j) = some u := by
      rcases hyc with rfl | ⟨ad', e, h⟩
      · have hy0 : ys = [] := hyl
        subst hy0
        intro j u hu
        simp at hu
      · cases e
        exact h
    obtain ⟨v', w2, hrun, h2, h3, _, h5⟩ := run_append_own_at (P := Tryd.prog) w1 w.heap.size 43 43 45 i _ 5 80 Tryd.underlying43 hi hz hsz hby rfl (by decide) v l.length xs hown1 ad m.length c ys (hyl.length) hcells hyl.oneCell (by unfold maxLen; omega) (by omega) (by have := hb.size; have := hb1.size; omega)
    exact ⟨v', w2, hrun, ListO.app hb hown hls hb1 hyl h2 h3 h5⟩

end Go.Proofs.YtkbnglcpcehaiaaDoor

namespace Go.Proofs.YtkbnglcpcehaiaaDoor
open Go.RowKit Go.Shelf
set_option linter.unusedSimpArgs false

mutual
/-- The same items, part by part? -/
def It.same : It → It → Bool
  | .mk k n b s l, .mk k' n' b' s' l' => decide (k = k') && (decide (n = n') && (decide (b = b') && (decide (s = s') && sameL l l')))
def sameL : List It → List It → Bool
  | [], l => l.isEmpty
  | _ :: _, [] => false
  | x :: xs, y :: ys => x.same y && sameL xs ys
end

mutual
theorem It.same_iff : ∀ x y : It, x.same y = true ↔ x = y
  | .mk k n b s l, .mk k' n' b' s' l' => by
    simp only [It.same, Bool.and_eq_true, decide_eq_true_eq, sameL_iff l l', It.mk.injEq]
theorem sameL_iff : ∀ l m : List It, sameL l m = true ↔ l = m
  | [], m => by cases m <;> simp [sameL]
  | x :: xs, [] => by simp [sameL]
  | x :: xs, y :: ys => by simp only [sameL, Bool.and_eq_true, It.same_iff x y, sameL_iff xs ys, List.cons.injEq]
end

theorem sameL_len {l m : List It} (h : l.length ≠ m.length) : sameL l m = false := by
  cases hs : sameL l m with
  | false => rfl
  | true =>
    rw [(sameL_iff l m).1 hs] at h
    exact absurd rfl h

theorem sameL_step {l m : List It} {j : Nat} (hl : j < l.length) (hm : j < m.length) (h : sameL (l.take j) (m.take j) = true) : sameL (l.take (j + 1)) (m.take (j + 1)) = l[j].same m[j] := by
  have h1 := (sameL_iff _ _).1 h
  have e1 := List.take_succ_eq_append_getElem hl
  have e2 := List.take_succ_eq_append_getElem hm
  rw [Bool.eq_iff_iff, sameL_iff, It.same_iff, e1, e2, h1, List.append_right_inj]
  simp only [List.cons.injEq, and_true]

theorem sameL_no {l m : List It} {j : Nat} (hl : j < l.length) (hm : j < m.length) (h : l[j].same m[j] = false) : sameL l m = false := by
  cases hs : sameL l m with
  | false => rfl
  | true =>
    have e := (sameL_iff l m).1 hs
    subst e
    rw [(It.same_iff _ _).2 rfl] at h
    cases h

theorem same_self (x : It) : x.same x = true := (It.same_iff x x).2 rfl

set_option maxRecDepth 100000 in
set_option maxHeartbeats 8000000 in
theorem refSame_any : ∀ (x y : It) (v u : Value) (w : World), ItV w w.heap.size v x → ItV w w.heap.size u y →
    Calls Tryd.prog 19 #[v, u] w fun e w' => e = .returned (.bool (x.same y)) ∧ Below w.heap.size w w' := by
  refine It.ind fun k n b s l ih y v u w hv hu => ?_
  obtain ⟨k', n', b', s', l'⟩ := y
  simp only [ItV] at hv hu
  obtain ⟨A, ⟨a, c, C, rfl, ⟨hc, hC⟩, hrb, hn, hk, hsb, hss, hsl⟩, hl⟩ := hv
  obtain ⟨A', ⟨a', c', C', rfl, ⟨hc', hC'⟩, hrb', hn', hk', hsb', hss', hsl'⟩, hl'⟩ := hu
  simp only [Sz] at hsb hss hsl hsb' hss' hsl'
  have HL := Lib.hid hl
  have HL' := Lib.hid hl'
  have IH := Lib.hid ih
  have HRB := Lib.hid hrb
  have HRB' := Lib.hid hrb'
  clear hrb hrb' hl hl' hn hn' hk hk' ih
  by_cases q1 : ¬ k = k'
  · have q1' : ((k : Int) == k') = false := by simpa using q1
    have hB0 := below_al (below_al (Below.refl w.heap.size w) (.cells #[.int .i64 k, .int .u64 n, .slice a b.length c, .string ⟨s.toArray⟩, .slice A l.length C] 45)) (.cells #[.int .i64 k', .int .u64 n', .slice a' b'.length c', .string ⟨s'.toArray⟩, .slice A' l'.length C'] 45)
    have g1 := (HRB.out.below hB0).text (P := Tryd.prog) 42 9 5 b.length c rfl Tryd.underlying42 Tryd.underlying5 Tryd.underlying9
    have g2 := (HRB'.out.below hB0).text (P := Tryd.prog) 42 9 5 b'.length c' rfl Tryd.underlying42 Tryd.underlying5 Tryd.underlying9
    go_enter Tryd.func19, Tryd.ntmps19
    go_wp2_with fail
    go_ret
    exact ⟨by simp [It.same, q1], hB0⟩
  have q1 := Decidable.not_not.1 q1
  subst q1
  by_cases q2 : ¬ n = n'
  · have q2' : ((n : Int) == n') = false := by simpa using q2
    have hB0 := below_al (below_al (Below.refl w.heap.size w) (.cells #[.int .i64 k, .int .u64 n, .slice a b.length c, .string ⟨s.toArray⟩, .slice A l.length C] 45)) (.cells #[.int .i64 k, .int .u64 n', .slice a' b'.length c', .string ⟨s'.toArray⟩, .slice A' l'.length C'] 45)
    have g1 := (HRB.out.below hB0).text (P := Tryd.prog) 42 9 5 b.length c rfl Tryd.underlying42 Tryd.underlying5 Tryd.underlying9
    have g2 := (HRB'.out.below hB0).text (P := Tryd.prog) 42 9 5 b'.length c' rfl Tryd.underlying42 Tryd.underlying5 Tryd.underlying9
    go_enter Tryd.func19, Tryd.ntmps19
    go_wp2_with fail
    go_ret
    exact ⟨by simp [It.same, q2], hB0⟩
  have q2 := Decidable.not_not.1 q2
  subst q2
  by_cases q3 : ¬ b = b'
  · have q3' : (b == b') = false := by simpa using q3
    have hB0 := below_al (below_al (Below.refl w.heap.size w) (.cells #[.int .i64 k, .int .u64 n, .slice a b.length c, .string ⟨s.toArray⟩, .slice A l.length C] 45)) (.cells #[.int .i64 k, .int .u64 n, .slice a' b'.length c', .string ⟨s'.toArray⟩, .slice A' l'.length C'] 45)
    have g1 := (HRB.out.below hB0).text (P := Tryd.prog) 42 9 5 b.length c rfl Tryd.underlying42 Tryd.underlying5 Tryd.underlying9
    have g2 := (HRB'.out.below hB0).text (P := Tryd.prog) 42 9 5 b'.length c' rfl Tryd.underlying42 Tryd.underlying5 Tryd.underlying9
    go_enter Tryd.func19, Tryd.ntmps19
    go_wp2_with fail
    go_ret
    exact ⟨by simp [It.same, q3], hB0⟩
  have q3 := Decidable.not_not.1 q3
  subst q3
  by_cases q4 : ¬ s = s'
  · have q4' : (s == s') = false := by simpa using q4
    have hB0 := below_al (below_al (Below.refl w.heap.size w) (.cells #[.int .i64 k, .int .u64 n, .slice a b.length c, .string ⟨s.toArray⟩, .slice A l.length C] 45)) (.cells #[.int .i64 k, .int .u64 n, .slice a' b.length c', .string ⟨s'.toArray⟩, .slice A' l'.length C'] 45)
    have g1 := (HRB.out.below hB0).text (P := Tryd.prog) 42 9 5 b.length c rfl Tryd.underlying42 Tryd.underlying5 Tryd.underlying9
    have g2 := (HRB'.out.below hB0).text (P := Tryd.prog) 42 9 5 b.length c' rfl Tryd.underlying42 Tryd.underlying5 Tryd.underlying9
    go_enter Tryd.func19, Tryd.ntmps19
    go_wp2_with fail
    go_ret
    exact ⟨by simp [It.same, q4], hB0⟩
  have q4 := Decidable.not_not.1 q4
  subst q4
  by_cases q5 : ¬ l.length = l'.length
  · have q5' : ((l.length : Int) == (l'.length : Int)) = false := by simp; omega
    have hSL := sameL_len q5
    have hB0 := below_al (below_al (Below.refl w.heap.size w) (.cells #[.int .i64 k, .int .u64 n, .slice a b.length c, .string ⟨s.toArray⟩, .slice A l.length C] 45)) (.cells #[.int .i64 k, .int .u64 n, .slice a' b.length c', .string ⟨s.toArray⟩, .slice A' l'.length C'] 45)
    have g1 := (HRB.out.below hB0).text (P := Tryd.prog) 42 9 5 b.length c rfl Tryd.underlying42 Tryd.underlying5 Tryd.underlying9
    have g2 := (HRB'.out.below hB0).text (P := Tryd.prog) 42 9 5 b.length c' rfl Tryd.underlying42 Tryd.underlying5 Tryd.underlying9
    go_enter Tryd.func19, Tryd.ntmps19
    go_wp2_with fail
    go_ret
    exact ⟨by simp [It.same, hSL], hB0⟩
  have q5 := Decidable.not_not.1 q5
  have HLen := Lib.hid q5
  rw [← q5] at hC' hsl' ⊢
  clear q5
  have hB0 := below_al (below_al (Below.refl w.heap.size w) (.cells #[.int .i64 k, .int .u64 n, .slice a b.length c, .string ⟨s.toArray⟩, .slice A l.length C] 45)) (.cells #[.int .i64 k, .int .u64 n, .slice a' b.length c', .string ⟨s.toArray⟩, .slice A' l.length C'] 45)
  have g1 := (HRB.out.below hB0).text (P := Tryd.prog) 42 9 5 b.length c rfl Tryd.underlying42 Tryd.underlying5 Tryd.underlying9
  have g2 := (HRB'.out.below hB0).text (P := Tryd.prog) 42 9 5 b.length c' rfl Tryd.underlying42 Tryd.underlying5 Tryd.underlying9
  go_enter Tryd.func19, Tryd.ntmps19
  go_wp2_with fail
  clear g1 g2
  obtain ⟨W0, hW0⟩ : ∃ W0, W0 = ((w.alloc (.cells #[.int .i64 k, .int .u64 n, .slice a b.length c, .string ⟨s.toArray⟩, .slice A l.length C] 45)).alloc (.cells #[.int .i64 k, .int .u64 n, .slice a' b.length c', .string ⟨s.toArray⟩, .slice A' l.length C'] 45)) := ⟨_, rfl⟩
  have x4 : W0.cell? ⟨w.heap.size, 4, none⟩ = some (.slice A l.length C) := by rw [hW0]; simp
  have x4' : W0.cell? ⟨w.heap.size + 1, 4, none⟩ = some (.slice A' l.length C') := by rw [hW0]; simp
  have hs0 : W0.heap.size = w.heap.size + 1 + 1 := by rw [hW0]; simp
  rw [← hW0] at hB0 ⊢
  have HX4 := Lib.hid x4
  have HX4' := Lib.hid x4'
  have HS0 := Lib.hid hs0
  clear hW0 x4 x4' hs0
  go_loopw [5] (fun i wr => ∃ j : Nat, j ≤ l.length ∧ i = .int .i64 j ∧ Hid (Below W0.heap.size W0 wr ∧ sameL (l.take j) (l'.take j) = true)) (fun i _ => l.length - (intOf i).toNat)
  case atStart => exact ⟨0, Nat.zero_le _, rfl, Below.refl _ _, rfl⟩
  case round =>
    obtain ⟨j, hj, rfl, HI⟩ := hrel
    have hy4 : wr.cell? ⟨w.heap.size, 4, none⟩ = some (.slice A l.length C) := (HI.out.1.cell (p := ⟨w.heap.size, 4, none⟩) (show w.heap.size < W0.heap.size by rw [HS0.out]; omega)).trans HX4.out
    have hy4' : wr.cell? ⟨w.heap.size + 1, 4, none⟩ = some (.slice A' l.length C') := (HI.out.1.cell (p := ⟨w.heap.size + 1, 4, none⟩) (show w.heap.size + 1 < W0.heap.size by rw [HS0.out]; omega)).trans HX4'.out
    by_cases hlt : j < l.length
    · have hlt' : j < l'.length := by rw [← HLen.out]; exact hlt
      have hBw : Below w.heap.size w wr := hB0.trans (HI.out.1.mono (by rw [HS0.out]; omega))
      obtain ⟨g, o, rfl, hg, hlL⟩ : ∃ g o, A = some ⟨g, o, none⟩ ∧ g < w.heap.size ∧ ItL w w.heap.size g o l := by
        rcases HL.out with rfl | h
        · simp at hlt
        · exact h
      obtain ⟨g', o', rfl, hg', hlL'⟩ : ∃ g o, A' = some ⟨g, o, none⟩ ∧ g < w.heap.size ∧ ItL w w.heap.size g o l' := by
        rcases HL'.out with rfl | h
        · simp at hlt'
        · exact h
      obtain ⟨p1, p2, p3, p4, hv5, e0, e1, e2, e3, e4⟩ := hlL.get (List.getElem?_eq_getElem hlt) hBw hg
      obtain ⟨r1, r2, r3, r4, hu5, f0, f1, f2, f3, f4⟩ := hlL'.get (List.getElem?_eq_getElem hlt') hBw hg'
      clear hlL hlL'
      have HC := Lib.hid (IH.out l[j] (List.getElem_mem hlt) l'[j] _ _ wr.drew (ItV.mono hBw.drew.size _ (ItV.below (Below.refl _ _).drew _ hv5)) (ItV.mono hBw.drew.size _ (ItV.below (Below.refl _ _).drew _ hu5)))
      have HBw := Lib.hid hBw
      clear hv5 hu5 hBw
      go_wp2_with fail
      go_still_tail 10, (by kernel_rfl)
      change wpList _ _ _ _ _ wr.drew
      clear e0 e1 e2 e3 e4 f0 f1 f2 f3 f4 hy4 hy4'
      go_wp2_with fail
      refine HC.out.mono ?_
      rintro e w1 ⟨rfl, hb1⟩
      have hb1w : Below W0.heap.size W0 w1 := HI.out.1.trans ((Below.refl wr.heap.size wr).drew.trans hb1 |>.mono HI.out.1.size)
      have HB1 := Lib.hid hb1w
      clear hb1 hb1w
      obtain ⟨t, ht⟩ : ∃ t, t = l[j].same l'[j] := ⟨_, rfl⟩
      rw [← ht]
      have HTt := Lib.hid ht
      clear ht
      cases t
      · go_wp2_with fail
        go_ret
        exact ⟨by simp [It.same, sameL_no hlt hlt' HTt.out.symm], hB0.trans (HB1.out.mono (by rw [HS0.out]; omega))⟩
      · have hst := sameL_step hlt hlt' HI.out.2
        rw [← HTt.out] at hst
        have HST := Lib.hid hst
        clear hst
        go_wp2_with fail
        go_roundw
        case rel => exact ⟨j + 1, by omega, by go_num, HB1.out, HST.out⟩
        case measure => simp [intOf]; omega
    · obtain rfl : j = l.length := by omega
      have h1 := HI.out.2
      have h2 : l'.take l.length = l' := List.take_of_length_le (by rw [HLen.out]; exact Nat.le_refl _)
      rw [List.take_length, h2] at h1
      have H1 := Lib.hid h1
      clear h1 h2
      go_wp2_with fail
      go_ret
      exact ⟨by simp [It.same, H1.out], hB0.trans (HI.out.1.mono (by rw [HS0.out]; omega))⟩

end Go.Proofs.YtkbnglcpcehaiaaDoor

namespace Go.Proofs.YtkbnglcpcehaiaaDoor
open Go.RowKit Go.Shelf
set_option linter.unusedSimpArgs false

/-- A slice of items that reads as a list. -/
def ItSl (w : World) (A : Option Addr) (l : List It) : Prop := l = [] ∨ ∃ g o, A = some ⟨g, o, none⟩ ∧ g < w.heap.size ∧ ItL w w.heap.size g o l

set_option maxRecDepth 100000 in
set_option maxHeartbeats 8000000 in
theorem equalFunc_any (l m : List It) (A A' : Option Addr) (C C' : Nat) (P : Nat) (w : World) (hl : ItSl w A l) (hm : ItSl w A' m) (hC : l.length ≤ C) (hC' : m.length ≤ C') (hsl : l.length ≤ 140737488355328) (hsm : m.length ≤ 140737488355328)
    (hf : ∀ (i : Nat) (hi : i < l.length) (y : It) (v u : Value) (w1 : World), y ∈ m → Below w.heap.size w w1 → ItV w1 w1.heap.size v l[i] → ItV w1 w1.heap.size u y →
      Calls Tryd.prog 73 #[v, u, .pointer (some ⟨P, 0, none⟩)] w1 fun e w' => e = .returned (.bool (l[i].same y)) ∧ Below w1.heap.size w1 w') :
    Calls Tryd.prog 72 #[.slice A l.length C, .slice A' m.length C', .func (.func 73) #[] #[.pointer (some ⟨P, 0, none⟩)]] w fun e w' => e = .returned (.bool (sameL l m)) ∧ Below w.heap.size w w' := by
  have HL := Lib.hid hl
  have HM := Lib.hid hm
  have HF := Lib.hid hf
  clear hl hm hf
  by_cases q5 : ¬ l.length = m.length
  · have q5' : ((l.length : Int) == (m.length : Int)) = false := by simp; omega
    have hSL := sameL_len q5
    go_enter Tryd.func72, Tryd.ntmps72
    go_wp2_with fail
    go_ret
    exact ⟨by simp [hSL], Below.refl _ _⟩
  have q5 := Decidable.not_not.1 q5
  have HLen := Lib.hid q5
  rw [← q5] at hC' hsm ⊢
  clear q5
  go_enter Tryd.func72, Tryd.ntmps72
  go_wp2_with fail
  go_loopw [17] (fun i wr => ∃ j : Nat, j ≤ l.length ∧ i = .int .i64 j ∧ Hid (Below w.heap.size w wr ∧ sameL (l.take j) (m.take j) = true)) (fun i _ => l.length - (intOf i).toNat)
  case atStart => exact ⟨0, Nat.zero_le _, rfl, Below.refl _ _, rfl⟩
  case round =>
    obtain ⟨j, hj, rfl, HI⟩ := hrel
    by_cases hlt : j < l.length
    · have hlt' : j < m.length := by rw [← HLen.out]; exact hlt
      obtain ⟨g, o, rfl, hg, hlL⟩ : ∃ g o, A = some ⟨g, o, none⟩ ∧ g < w.heap.size ∧ ItL w w.heap.size g o l := by
        rcases HL.out with rfl | h
        · simp at hlt
        · exact h
      obtain ⟨g', o', rfl, hg', hlL'⟩ : ∃ g o, A' = some ⟨g, o, none⟩ ∧ g < w.heap.size ∧ ItL w w.heap.size g o m := by
        rcases HM.out with rfl | h
        · simp at hlt'
        · exact h
      have hBw := HI.out.1
      obtain ⟨p1, p2, p3, p4, hv5, e0, e1, e2, e3, e4⟩ := hlL.get (List.getElem?_eq_getElem hlt) hBw hg
      have hgr : g < wr.heap.size := Nat.lt_of_lt_of_le hg hBw.size
      have hgr' : g' < wr.heap.size := Nat.lt_of_lt_of_le hg' hBw.size
      obtain ⟨r1, r2, r3, r4, hu5, f0', f1', f2', f3', f4'⟩ := hlL'.get (List.getElem?_eq_getElem hlt') hBw hg'
      clear hlL hlL'
      have HV := Lib.hid (ItV.mono hBw.size _ hv5)
      have HU := Lib.hid (ItV.mono hBw.size _ hu5)
      have HBw := Lib.hid hBw
      clear hv5 hu5 hBw
      go_wp2_with fail
      have hB2 : Below wr.heap.size wr ((wr.alloc (.cells #[.int .i64 l[j].k, .int .u64 l[j].n, .slice p1 l[j].b.length p2, .string ⟨l[j].s.toArray⟩, .slice p3 l[j].l.length p4] 45)).alloc (.cells #[.int .i64 m[j].k, .int .u64 m[j].n, .slice r1 m[j].b.length r2, .string ⟨m[j].s.toArray⟩, .slice r3 m[j].l.length r4] 45)) := below_al (below_al (Below.refl _ _) _) _
      refine (HF.out j hlt m[j] _ _ _ (List.getElem_mem hlt') (below_on HBw.out hB2) (HV.out.on hB2) (HU.out.on hB2)).mono ?_
      rintro e w1 ⟨rfl, hb1⟩
      have HB1 := Lib.hid (below_on (below_on HBw.out hB2) hb1)
      clear hb1 hB2 e0 e1 e2 e3 e4 f0' f1' f2' f3' f4'
      obtain ⟨t, ht⟩ : ∃ t, t = l[j].same m[j] := ⟨_, rfl⟩
      rw [← ht]
      have HTt := Lib.hid ht
      clear ht
      cases t
      · go_wp2_with fail
        go_ret
        exact ⟨by simp [sameL_no hlt hlt' HTt.out.symm], HB1.out⟩
      · have hst := sameL_step hlt hlt' HI.out.2
        rw [← HTt.out] at hst
        have HST := Lib.hid hst
        clear hst
        go_wp2_with fail
        go_roundw
        case rel => exact ⟨j + 1, by omega, by go_num, HB1.out, HST.out⟩
        case measure => simp [intOf]; omega
    · obtain rfl : j = l.length := by omega
      have h1 := HI.out.2
      have h2 : m.take l.length = m := List.take_of_length_le (by rw [HLen.out]; exact Nat.le_refl _)
      rw [List.take_length, h2] at h1
      have H1 := Lib.hid h1
      clear h1 h2
      go_wp2_with fail
      go_ret
      exact ⟨by simp [H1.out], HI.out.1⟩

end Go.Proofs.YtkbnglcpcehaiaaDoor

namespace Go.Proofs.YtkbnglcpcehaiaaDoor
open Go.RowKit Go.Shelf
set_option linter.unusedSimpArgs false

theorem cell_new (w : World) (v : Value) (t : TypeId) (P : Nat) (hP : w.heap.size = P) : (w.alloc (.cells #[v] t)).cell? ⟨P, 0, none⟩ = some v := by
  subst hP
  rw [World.cell?_alloc_mark]
  rfl

set_option maxRecDepth 100000 in
set_option maxHeartbeats 2000000 in
/-- The closure: one level less. -/
theorem csame1_any (x y : It) (v u : Value) (L : Nat) (P : Nat) (w : World) (hL : 1 ≤ L ∧ L ≤ 100000) (hv : ItV w w.heap.size v x) (hu : ItV w w.heap.size u y) (hp : w.cell? ⟨P, 0, none⟩ = some (.int .i64 L))
    (hs : ∀ (v u : Value) (w : World), ItV w w.heap.size v x → ItV w w.heap.size u y → Calls Tryd.prog 56 #[v, u, .int .i64 (L - 1 : Nat)] w fun e w' => e = .returned (.bool (x.same y)) ∧ Below w.heap.size w w') :
    Calls Tryd.prog 73 #[v, u, .pointer (some ⟨P, 0, none⟩)] w fun e w' => e = .returned (.bool (x.same y)) ∧ Below w.heap.size w w' := by
  have HV := Lib.hid hv
  have HU := Lib.hid hu
  have HS : Hid (∀ (v u : Value) (w : World), ItV w w.heap.size v x → ItV w w.heap.size u y → Calls Tryd.prog 56 #[v, u, .int .i64 ((L : Int) - 1)] w fun e w' => e = .returned (.bool (x.same y)) ∧ Below w.heap.size w w') := by
    have e1 : ((L - 1 : Nat) : Int) = (L : Int) - 1 := by omega
    rw [← e1]
    exact hs
  obtain ⟨a, c, A, C, rfl⟩ := hv.form
  obtain ⟨a', c', A', C', rfl⟩ := hu.form
  obtain ⟨hL1, hL2⟩ := hL
  have hP : P < w.heap.size := World.block_lt_of_cell? w _ hp
  clear hv hu hs
  go_enter Tryd.func73, Tryd.ntmps73
  go_wp2_with fail
  refine (HS.out _ _ _ (HV.out.on (below_al (below_al (Below.refl _ _) _) _)) (HU.out.on (below_al (below_al (Below.refl _ _) _) _))).mono ?_
  rintro e w1 ⟨rfl, hb1⟩
  have HB1 := Lib.hid (below_on (below_al (below_al (Below.refl _ _) _) _) hb1)
  clear hb1
  go_wp2_with fail
  go_ret
  exact ⟨rfl, HB1.out⟩

set_option maxRecDepth 100000 in
set_option maxHeartbeats 8000000 in
theorem csame_any : ∀ (x y : It) (v u : Value) (L : Nat) (w : World), x.depth ≤ L → L ≤ 100000 → ItV w w.heap.size v x → ItV w w.heap.size u y →
    Calls Tryd.prog 56 #[v, u, .int .i64 L] w fun e w' => e = .returned (.bool (x.same y)) ∧ Below w.heap.size w w' := by
  refine It.ind fun k n b s l ih y v u L w hd hL hv hu => ?_
  obtain ⟨k', n', b', s', l'⟩ := y
  simp only [ItV] at hv hu
  obtain ⟨A, ⟨a, c, C, rfl, ⟨hc, hC⟩, hrb, hn, hk, hsb, hss, hsl⟩, hl⟩ := hv
  obtain ⟨A', ⟨a', c', C', rfl, ⟨hc', hC'⟩, hrb', hn', hk', hsb', hss', hsl'⟩, hl'⟩ := hu
  simp only [Sz] at hsb hss hsl hsb' hss' hsl'
  simp only [It.depth] at hd
  have hL0 : ((L : Int) == 0) = false := by simp; omega
  have hL1 : 1 ≤ L := by omega
  have HL := Lib.hid hl
  have HL' := Lib.hid hl'
  have IH := Lib.hid ih
  have HRB := Lib.hid hrb
  have HRB' := Lib.hid hrb'
  have HD := Lib.hid hd
  clear hrb hrb' hl hl' hn hn' hk hk' ih hd
  have hB0 := below_al (below_al (below_al (Below.refl w.heap.size w) (.cells #[.int .i64 k, .int .u64 n, .slice a b.length c, .string ⟨s.toArray⟩, .slice A l.length C] 45)) (.cells #[.int .i64 k', .int .u64 n', .slice a' b'.length c', .string ⟨s'.toArray⟩, .slice A' l'.length C'] 45)) (.cells #[.int .i64 L] 3)
  by_cases q1 : ¬ k = k'
  · have q1' : ((k : Int) == k') = false := by simpa using q1
    have q1n : (k != k') = true := by simpa using q1
    go_enter Tryd.func56, Tryd.ntmps56
    go_wp2_with fail
    go_ret
    exact ⟨by simp [It.same, q1], hB0⟩
  have q1 := Decidable.not_not.1 q1
  subst q1
  by_cases q2 : ¬ n = n'
  · have q2' : ((n : Int) == n') = false := by simpa using q2
    have q2n : (n != n') = true := by simpa using q2
    go_enter Tryd.func56, Tryd.ntmps56
    go_wp2_with fail
    go_ret
    exact ⟨by simp [It.same, q2], hB0⟩
  have q2 := Decidable.not_not.1 q2
  subst q2
  by_cases q3 : ¬ b = b'
  · have q3' : (b == b') = false := by simpa using q3
    have HE := Lib.hid (equal_any a a' b.length b'.length c c' b b' rfl rfl _ w.heap.size (HRB.out.below hB0) (HRB'.out.below hB0))
    rw [q3'] at HE
    go_enter Tryd.func56, Tryd.ntmps56
    go_wp2_with (go_at_call 71; refine HE.out.mono ?_; rintro e w' ⟨rfl, rfl⟩)
    go_ret
    exact ⟨by simp [It.same, q3], hB0⟩
  have q3 := Decidable.not_not.1 q3
  subst q3
  have HE := Lib.hid (equal_any a a' b.length b.length c c' b b rfl rfl _ w.heap.size (HRB.out.below hB0) (HRB'.out.below hB0))
  rw [beq_self_eq_true] at HE
  by_cases q4 : ¬ s = s'
  · have q4' : (s == s') = false := by simpa using q4
    go_enter Tryd.func56, Tryd.ntmps56
    go_wp2_with (go_at_call 71; refine HE.out.mono ?_; rintro e w' ⟨rfl, rfl⟩)
    go_ret
    exact ⟨by simp [It.same, q4], hB0⟩
  have q4 := Decidable.not_not.1 q4
  subst q4
  have hcP : (((w.alloc (.cells #[.int .i64 k, .int .u64 n, .slice a b.length c, .string ⟨s.toArray⟩, .slice A l.length C] 45)).alloc (.cells #[.int .i64 k, .int .u64 n, .slice a' b.length c', .string ⟨s.toArray⟩, .slice A' l'.length C'] 45)).alloc (.cells #[.int .i64 L] 3)).cell? ⟨w.heap.size + 1 + 1, 0, none⟩ = some (.int .i64 L) := cell_new _ _ _ _ (by rw [World.size_alloc, World.size_alloc])
  have hcL : w.heap.size + 1 + 1 < (((w.alloc (.cells #[.int .i64 k, .int .u64 n, .slice a b.length c, .string ⟨s.toArray⟩, .slice A l.length C] 45)).alloc (.cells #[.int .i64 k, .int .u64 n, .slice a' b.length c', .string ⟨s.toArray⟩, .slice A' l'.length C'] 45)).alloc (.cells #[.int .i64 L] 3)).heap.size := by simp
  have HF := Lib.hid (equalFunc_any l l' A A' C C' (w.heap.size + 1 + 1) (((w.alloc (.cells #[.int .i64 k, .int .u64 n, .slice a b.length c, .string ⟨s.toArray⟩, .slice A l.length C] 45)).alloc (.cells #[.int .i64 k, .int .u64 n, .slice a' b.length c', .string ⟨s.toArray⟩, .slice A' l'.length C'] 45)).alloc (.cells #[.int .i64 L] 3))
    (HL.out.imp id fun ⟨g, o, e, hg, h⟩ => ⟨g, o, e, Nat.lt_of_lt_of_le hg hB0.size, ItL.mono hB0.size _ (ItL.below hB0 hg _ h)⟩)
    (HL'.out.imp id fun ⟨g, o, e, hg, h⟩ => ⟨g, o, e, Nat.lt_of_lt_of_le hg hB0.size, ItL.mono hB0.size _ (ItL.below hB0 hg _ h)⟩) hC hC' hsl hsl'
    (fun i hi y v u w1 _ hb hv hu => csame1_any l[i] y v u L (w.heap.size + 1 + 1) w1 ⟨hL1, hL⟩ hv hu
      ((hb.cell (p := ⟨w.heap.size + 1 + 1, 0, none⟩) hcL).trans hcP)
      (fun v u w hv hu => IH.out l[i] (List.getElem_mem hi) y v u (L - 1) w (by have := depthL_mem (List.getElem_mem hi); have := HD.out; omega) (by omega) hv hu)))
  clear hcP hcL
  go_enter Tryd.func56, Tryd.ntmps56
  go_wp2_with (go_at_call 71; refine HE.out.mono ?_; rintro e w' ⟨rfl, rfl⟩)
  refine HF.out.mono ?_
  rintro e w1 ⟨rfl, hb1⟩
  have HB1 := Lib.hid (below_on hB0 hb1)
  clear hb1
  go_wp2_with fail
  go_ret
  exact ⟨by simp [It.same], HB1.out⟩

/-- cbor.Same. -/
theorem cSame_any (x y : It) (v u : Value) (w : World) (hd : x.depth ≤ 60000) (hv : ItV w w.heap.size v x) (hu : ItV w w.heap.size u y) :
    Calls Tryd.prog 37 #[v, u] w fun e w' => e = .returned (.bool (x.same y)) ∧ Below w.heap.size w w' := by
  have HV := Lib.hid hv
  have HU := Lib.hid hu
  have HC := Lib.hid (fun (v u : Value) (w : World) => csame_any x y v u 65537 w (by omega) (by decide))
  obtain ⟨a, c, A, C, rfl⟩ := hv.form
  obtain ⟨a', c', A', C', rfl⟩ := hu.form
  clear hv hu
  go_enter Tryd.func37, Tryd.ntmps37
  go_wp2_with fail
  refine (HC.out _ _ _ (HV.out.on (below_al (below_al (Below.refl _ _) _) _)) (HU.out.on (below_al (below_al (Below.refl _ _) _) _))).mono ?_
  rintro e w1 ⟨rfl, hb1⟩
  have HB1 := Lib.hid (below_on (below_al (below_al (Below.refl _ _) _) _) hb1)
  clear hb1
  go_wp2_with fail
  go_ret
  exact ⟨rfl, HB1.out⟩

end Go.Proofs.YtkbnglcpcehaiaaDoor
