/- Items as trees, and how a value reads as one. -/
import Derived.Test.YtlmdbeccfoncpaaGreatDoorZJf
namespace Go.Proofs.YtlmdbeccfoncpaaGreatDoor
open Go.RowKit Go.Shelf

/-- An item: its kind, its number, its bytes, its text, its items. -/
inductive It where
  | mk (k : Int) (n : Int) (b s : List UInt8) (l : List It)

def It.k : It → Int | .mk k _ _ _ _ => k
def It.n : It → Int | .mk _ n _ _ _ => n
def It.b : It → List UInt8 | .mk _ _ b _ _ => b
def It.s : It → List UInt8 | .mk _ _ _ s _ => s
def It.l : It → List It | .mk _ _ _ _ l => l

/-- Five cells that are a struct's. -/
def At5 (w : World) (g o : Nat) (v : Value) : Prop :=
  ∃ v0 v1 v2 v3 v4, v = .agg #[v0, v1, v2, v3, v4] ∧ w.cell? ⟨g, o, none⟩ = some v0 ∧ w.cell? ⟨g, o + 1, none⟩ = some v1 ∧ w.cell? ⟨g, o + 2, none⟩ = some v2 ∧ w.cell? ⟨g, o + 3, none⟩ = some v3 ∧ w.cell? ⟨g, o + 4, none⟩ = some v4

def Sz (n : Nat) : Prop := n ≤ 140737488355328

/-- The shape of an item's value, its list apart. -/
def ItP (w : World) (B : Nat) (v : Value) (k n : Int) (b s : List UInt8) (m : Nat) (A : Option Addr) : Prop :=
  ∃ a c C, v = .agg #[.int .i64 k, .int .u64 n, .slice a b.length c, .string ⟨s.toArray⟩, .slice A m C] ∧ (b.length ≤ c ∧ m ≤ C) ∧ RdB w B a b ∧ U64 n ∧ (-9223372036854775808 ≤ k ∧ k < 9223372036854775808) ∧ Sz b.length ∧ Sz s.length ∧ Sz m

mutual
/-- A value reads as an item, in blocks below B. -/
def ItV (w : World) (B : Nat) (v : Value) : It → Prop
  | .mk k n b s l => ∃ A, ItP w B v k n b s l.length A ∧ (l = [] ∨ ∃ g o, A = some ⟨g, o, none⟩ ∧ g < B ∧ ItL w B g o l)
/-- The cells from an offset on read as items. -/
def ItL (w : World) (B g : Nat) (o : Nat) : List It → Prop
  | [] => True
  | x :: xs => (∃ v, At5 w g o v ∧ ItV w B v x) ∧ ItL w B g (o + 5) xs
end

theorem At5.below {w w' : World} {B g o : Nat} {v : Value} (h : At5 w g o v) (hb : Below B w w') (hg : g < B) : At5 w' g o v := by
  obtain ⟨v0, v1, v2, v3, v4, rfl, h0, h1, h2, h3, h4⟩ := h
  exact ⟨v0, v1, v2, v3, v4, rfl, (hb.cell (p := ⟨g, o, none⟩) hg).trans h0, (hb.cell (p := ⟨g, o + 1, none⟩) hg).trans h1, (hb.cell (p := ⟨g, o + 2, none⟩) hg).trans h2, (hb.cell (p := ⟨g, o + 3, none⟩) hg).trans h3, (hb.cell (p := ⟨g, o + 4, none⟩) hg).trans h4⟩

theorem ItP.below {w w' : World} {B m : Nat} {v : Value} {k n : Int} {b s : List UInt8} {A : Option Addr} (h : ItP w B v k n b s m A) (hb : Below B w w') : ItP w' B v k n b s m A := by
  obtain ⟨a, c, C, h1, h2, h3, r⟩ := h
  exact ⟨a, c, C, h1, h2, h3.below hb, r⟩

theorem ItP.mono {w : World} {B B' m : Nat} {v : Value} {k n : Int} {b s : List UInt8} {A : Option Addr} (h : ItP w B v k n b s m A) (hb : B ≤ B') : ItP w B' v k n b s m A := by
  obtain ⟨a, c, C, h1, h2, h3, r⟩ := h
  exact ⟨a, c, C, h1, h2, h3.mono hb, r⟩

mutual
theorem ItV.below {w w' : World} {B : Nat} (hb : Below B w w') : ∀ (x : It) {v : Value}, ItV w B v x → ItV w' B v x
  | .mk k n b s l, v, h => by
    simp only [ItV] at h ⊢
    obtain ⟨A, hp, hl⟩ := h
    refine ⟨A, hp.below hb, hl.imp id ?_⟩
    rintro ⟨g, o, rfl, hg, hl⟩
    exact ⟨g, o, rfl, hg, ItL.below hb hg l hl⟩
theorem ItL.below {w w' : World} {B g : Nat} (hb : Below B w w') (hg : g < B) : ∀ (l : List It) {o : Nat}, ItL w B g o l → ItL w' B g o l
  | [], _, _ => by simp only [ItL]
  | x :: xs, o, h => by
    simp only [ItL] at h ⊢
    obtain ⟨⟨v, h5, hv⟩, hr⟩ := h
    exact ⟨⟨v, h5.below hb hg, ItV.below hb x hv⟩, ItL.below hb hg xs hr⟩
end

mutual
theorem ItV.mono {w : World} {B B' : Nat} (hb : B ≤ B') : ∀ (x : It) {v : Value}, ItV w B v x → ItV w B' v x
  | .mk k n b s l, v, h => by
    simp only [ItV] at h ⊢
    obtain ⟨A, hp, hl⟩ := h
    refine ⟨A, hp.mono hb, hl.imp id ?_⟩
    rintro ⟨g, o, rfl, hg, hl⟩
    exact ⟨g, o, rfl, Nat.lt_of_lt_of_le hg hb, ItL.mono hb l hl⟩
theorem ItL.mono {w : World} {B B' g : Nat} (hb : B ≤ B') : ∀ (l : List It) {o : Nat}, ItL w B g o l → ItL w B' g o l
  | [], _, _ => by simp only [ItL]
  | x :: xs, o, h => by
    simp only [ItL] at h ⊢
    obtain ⟨⟨v, h5, hv⟩, hr⟩ := h
    exact ⟨⟨v, h5, ItV.mono hb x hv⟩, ItL.mono hb xs hr⟩
end

/-- Later, in one step: what lay below is as it was. -/
theorem ItV.on {w w' : World} {x : It} {v : Value} (h : ItV w w.heap.size v x) (hb : Below w.heap.size w w') : ItV w' w'.heap.size v x :=
  ItV.mono hb.size x (ItV.below hb x h)

/-- The item at a place. -/
theorem ItL.at {w : World} {B g : Nat} : ∀ {l : List It} {o i : Nat} {x : It}, ItL w B g o l → l[i]? = some x → ∃ v, At5 w g (o + i * 5) v ∧ ItV w B v x
  | [], _, i, _, _, hi => by simp at hi
  | y :: ys, o, 0, x, h, hi => by
    simp only [ItL] at h
    simp at hi
    subst hi
    simpa using h.1
  | y :: ys, o, i + 1, x, h, hi => by
    simp only [ItL] at h
    have := ItL.at h.2 (i := i) (x := x) (by simpa using hi)
    rw [show o + (i + 1) * 5 = o + 5 + i * 5 by omega]
    exact this

theorem ItV.form {w : World} {B : Nat} {v : Value} {x : It} (h : ItV w B v x) : ∃ a c A C, v = .agg #[.int .i64 x.k, .int .u64 x.n, .slice a x.b.length c, .string ⟨x.s.toArray⟩, .slice A x.l.length C] := by
  obtain ⟨k, n, b, s, l⟩ := x
  simp only [ItV] at h
  obtain ⟨A, ⟨a, c, C, rfl, _⟩, _⟩ := h
  exact ⟨a, c, A, C, rfl⟩

/-- The item at a place, its cells told one by one, in a later world. -/
theorem ItL.get {w w' : World} {B g : Nat} {l : List It} {o i : Nat} {x : It} (h : ItL w B g o l) (hi : l[i]? = some x) (hb : Below B w w') (hg : g < B) :
    ∃ a c A C, ItV w' B (.agg #[.int .i64 x.k, .int .u64 x.n, .slice a x.b.length c, .string ⟨x.s.toArray⟩, .slice A x.l.length C]) x ∧
      w'.cell? ⟨g, o + i * 5, none⟩ = some (.int .i64 x.k) ∧ w'.cell? ⟨g, o + i * 5 + 1, none⟩ = some (.int .u64 x.n) ∧ w'.cell? ⟨g, o + i * 5 + 2, none⟩ = some (.slice a x.b.length c) ∧
      w'.cell? ⟨g, o + i * 5 + 3, none⟩ = some (.string ⟨x.s.toArray⟩) ∧ w'.cell? ⟨g, o + i * 5 + 4, none⟩ = some (.slice A x.l.length C) := by
  obtain ⟨v, h5, hv⟩ := ItL.at h hi
  have h5 := h5.below hb hg
  have hv := ItV.below hb x hv
  obtain ⟨a, c, A, C, rfl⟩ := hv.form
  obtain ⟨v0, v1, v2, v3, v4, e, h0, h1, h2, h3, h4⟩ := h5
  injection e with e
  have e' : [Value.int .i64 x.k, .int .u64 x.n, .slice a x.b.length c, .string ⟨x.s.toArray⟩, .slice A x.l.length C] = [v0, v1, v2, v3, v4] := congrArg Array.toList e
  simp only [List.cons.injEq, and_true] at e'
  obtain ⟨rfl, rfl, rfl, rfl, rfl⟩ := e'
  exact ⟨a, c, A, C, hv, h0, h1, h2, h3, h4⟩

mutual
theorem It.ind {P : It → Prop} (h : ∀ k n b s l, (∀ y ∈ l, P y) → P (.mk k n b s l)) : ∀ x, P x
  | .mk k n b s l => h k n b s l (It.indL h l)
theorem It.indL {P : It → Prop} (h : ∀ k n b s l, (∀ y ∈ l, P y) → P (.mk k n b s l)) : ∀ l : List It, ∀ y ∈ l, P y
  | [] => fun _ hy => nomatch hy
  | x :: xs => List.forall_mem_cons.2 ⟨It.ind h x, It.indL h xs⟩
end

/-- An item's depth. -/
def It.depth : It → Nat
  | .mk _ _ _ _ l => depthL l + 1
where
  depthL : List It → Nat
    | [] => 0
    | x :: xs => max x.depth (depthL xs)

theorem depthL_mem {l : List It} {x : It} (h : x ∈ l) : x.depth ≤ It.depth.depthL l := by
  induction l with
  | nil => cases h
  | cons y ys ih =>
    simp only [It.depth.depthL]
    rcases List.mem_cons.1 h with rfl | h
    · omega
    · have := ih h
      omega

theorem depthL_take (l : List It) (k : Nat) : It.depth.depthL (l.take k) ≤ It.depth.depthL l := by
  induction l generalizing k with
  | nil => simp [It.depth.depthL]
  | cons y ys ih =>
    cases k with
    | zero => simp [It.depth.depthL]
    | succ k =>
      have := ih k
      simp only [List.take_succ_cons, It.depth.depthL]
      omega

theorem depthL_step (l : List It) (k : Nat) (hk : k < l.length) : It.depth.depthL (l.take (k + 1)) = max (It.depth.depthL (l.take k)) l[k].depth := by
  induction l generalizing k with
  | nil => simp at hk
  | cons y ys ih =>
    cases k with
    | zero => simp [It.depth.depthL]
    | succ k =>
      simp only [List.take_succ_cons, It.depth.depthL, List.getElem_cons_succ]
      rw [ih k (by simpa using hk)]
      omega

end Go.Proofs.YtlmdbeccfoncpaaGreatDoor
