/- Items whose memory lies in blocks of a set: what outlives later worlds that leave these blocks alone. -/
import Derived.Test.YtlmdbeccfoncpaaGreatDoorZCbB
import Derived.Test.YtlmdbeccfoncpaaGreatDoorZJa
namespace Go.Proofs.YtlmdbeccfoncpaaGreatDoor
open Go.RowKit Go.Shelf

theorem keep_cell {S : Nat → Prop} {w w' : World} (h : KeepB S w w') {b o : Nat} (hb : S b) : w'.cell? ⟨b, o, none⟩ = w.cell? ⟨b, o, none⟩ :=
  World.cell?_of_block (w := w) (h b hb)

/-- Bytes in a block of S. -/
def RdBS (w : World) (S : Nat → Prop) (a : Option Addr) (bs : List UInt8) : Prop :=
  bs = [] ∨ ∃ b o, a = some ⟨b, o, none⟩ ∧ S b ∧ ∀ j, j < bs.length → w.cell? ⟨b, o + j, none⟩ = some (.int .u8 (byteAt bs j))

theorem RdBS.keep {w w' : World} {S : Nat → Prop} {a : Option Addr} {bs : List UInt8} (h : RdBS w S a bs) (hk : KeepB S w w') : RdBS w' S a bs := by
  rcases h with h | ⟨b, o, e, hs, hc⟩
  · exact .inl h
  · exact .inr ⟨b, o, e, hs, fun j hj => (keep_cell hk hs).trans (hc j hj)⟩

theorem RdBS.more {w : World} {S T : Nat → Prop} {a : Option Addr} {bs : List UInt8} (h : RdBS w S a bs) (hST : ∀ b, S b → T b) : RdBS w T a bs := by
  rcases h with h | ⟨b, o, e, hs, hc⟩
  · exact .inl h
  · exact .inr ⟨b, o, e, hST b hs, hc⟩

theorem RdBS.rdB {w : World} {S : Nat → Prop} {B : Nat} {a : Option Addr} {bs : List UInt8} (h : RdBS w S a bs) (hS : ∀ b, S b → b < B) : RdB w B a bs := by
  rcases h with h | ⟨b, o, e, hs, hc⟩
  · exact .inl h
  · exact .inr ⟨b, o, e, hS b hs, hc⟩

/-- An item's value, its list apart, its bytes in S. -/
def ItPS (w : World) (S : Nat → Prop) (v : Value) (k n : Int) (b s : List UInt8) (m : Nat) (A : Option Addr) : Prop :=
  ∃ a c C, v = .agg #[.int .i64 k, .int .u64 n, .slice a b.length c, .string ⟨s.toArray⟩, .slice A m C] ∧ (b.length ≤ c ∧ m ≤ C) ∧ RdBS w S a b ∧ U64 n ∧ (-9223372036854775808 ≤ k ∧ k < 9223372036854775808) ∧ Sz b.length ∧ Sz s.length ∧ Sz m

mutual
/-- A value reads as an item, in blocks of S. -/
def ItS (w : World) (S : Nat → Prop) (v : Value) : It → Prop
  | .mk k n b s l => ∃ A, ItPS w S v k n b s l.length A ∧ (l = [] ∨ ∃ g o, A = some ⟨g, o, none⟩ ∧ S g ∧ ItSL w S g o l)
def ItSL (w : World) (S : Nat → Prop) (g : Nat) (o : Nat) : List It → Prop
  | [] => True
  | x :: xs => (∃ v, At5 w g o v ∧ ItS w S v x) ∧ ItSL w S g (o + 5) xs
end

theorem At5.keep {w w' : World} {S : Nat → Prop} {g o : Nat} {v : Value} (h : At5 w g o v) (hk : KeepB S w w') (hg : S g) : At5 w' g o v := by
  obtain ⟨v0, v1, v2, v3, v4, rfl, h0, h1, h2, h3, h4⟩ := h
  exact ⟨v0, v1, v2, v3, v4, rfl, (keep_cell hk hg).trans h0, (keep_cell hk hg).trans h1, (keep_cell hk hg).trans h2, (keep_cell hk hg).trans h3, (keep_cell hk hg).trans h4⟩

mutual
theorem ItS.keep {w w' : World} {S : Nat → Prop} (hk : KeepB S w w') : ∀ (x : It) {v : Value}, ItS w S v x → ItS w' S v x
  | .mk k n b s l, v, h => by
    simp only [ItS] at h ⊢
    obtain ⟨A, ⟨a, c, C, h1, h2, h3, r⟩, hl⟩ := h
    refine ⟨A, ⟨a, c, C, h1, h2, h3.keep hk, r⟩, hl.imp id ?_⟩
    rintro ⟨g, o, rfl, hg, hl⟩
    exact ⟨g, o, rfl, hg, ItSL.keep hk hg l hl⟩
theorem ItSL.keep {w w' : World} {S : Nat → Prop} (hk : KeepB S w w') {g : Nat} (hg : S g) : ∀ (l : List It) {o : Nat}, ItSL w S g o l → ItSL w' S g o l
  | [], _, _ => by simp only [ItSL]
  | x :: xs, o, h => by
    simp only [ItSL] at h ⊢
    obtain ⟨⟨v, h5, hv⟩, hr⟩ := h
    exact ⟨⟨v, h5.keep hk hg, ItS.keep hk x hv⟩, ItSL.keep hk hg xs hr⟩
end

mutual
theorem ItS.more {w : World} {S T : Nat → Prop} (hST : ∀ b, S b → T b) : ∀ (x : It) {v : Value}, ItS w S v x → ItS w T v x
  | .mk k n b s l, v, h => by
    simp only [ItS] at h ⊢
    obtain ⟨A, ⟨a, c, C, h1, h2, h3, r⟩, hl⟩ := h
    refine ⟨A, ⟨a, c, C, h1, h2, h3.more hST, r⟩, hl.imp id ?_⟩
    rintro ⟨g, o, rfl, hg, hl⟩
    exact ⟨g, o, rfl, hST g hg, ItSL.more hST l hl⟩
theorem ItSL.more {w : World} {S T : Nat → Prop} (hST : ∀ b, S b → T b) {g : Nat} : ∀ (l : List It) {o : Nat}, ItSL w S g o l → ItSL w T g o l
  | [], _, _ => by simp only [ItSL]
  | x :: xs, o, h => by
    simp only [ItSL] at h ⊢
    obtain ⟨⟨v, h5, hv⟩, hr⟩ := h
    exact ⟨⟨v, h5, ItS.more hST x hv⟩, ItSL.more hST xs hr⟩
end

mutual
theorem ItS.itV {w : World} {S : Nat → Prop} {B : Nat} (hS : ∀ b, S b → b < B) : ∀ (x : It) {v : Value}, ItS w S v x → ItV w B v x
  | .mk k n b s l, v, h => by
    simp only [ItS] at h
    simp only [ItV]
    obtain ⟨A, ⟨a, c, C, h1, h2, h3, r⟩, hl⟩ := h
    refine ⟨A, ⟨a, c, C, h1, h2, h3.rdB hS, r⟩, hl.imp id ?_⟩
    rintro ⟨g, o, rfl, hg, hl⟩
    exact ⟨g, o, rfl, hS g hg, ItSL.itL hS l hl⟩
theorem ItSL.itL {w : World} {S : Nat → Prop} {B : Nat} (hS : ∀ b, S b → b < B) {g : Nat} : ∀ (l : List It) {o : Nat}, ItSL w S g o l → ItL w B g o l
  | [], _, _ => by simp only [ItL]
  | x :: xs, o, h => by
    simp only [ItSL] at h
    simp only [ItL]
    obtain ⟨⟨v, h5, hv⟩, hr⟩ := h
    exact ⟨⟨v, h5, ItS.itV hS x hv⟩, ItSL.itL hS xs hr⟩
end

/-- New memory. -/
def newB (w w' : World) (b : Nat) : Prop := w.heap.size ≤ b ∧ b < w'.heap.size

theorem itS_plain (w : World) (S : Nat → Prop) (k n : Int) (s : List UInt8) (hk : -9223372036854775808 ≤ k ∧ k < 9223372036854775808) (hn : U64 n) (hs : Sz s.length) :
    ItS w S (.agg #[.int .i64 k, .int .u64 n, .slice none 0 0, .string ⟨s.toArray⟩, .slice none 0 0]) (.mk k n [] s []) := by
  simp only [ItS]
  exact ⟨none, ⟨none, 0, 0, rfl, ⟨Nat.le_refl _, Nat.le_refl _⟩, .inl rfl, hn, hk, Nat.zero_le _, hs, Nat.zero_le _⟩, .inl trivial⟩

/-- A number's item; a list's. -/
def itU (n : Int) : It := .mk 1 n [] [] []
def itLs (l : List It) : It := .mk 4 0 [] [] l
def uintV (n : Int) : Value := .agg #[.int .i64 1, .int .u64 n, .slice none 0 0, .string ⟨#[]⟩, .slice none 0 0]
def listV (a : Option Addr) (n c : Nat) : Value := .agg #[.int .i64 4, .int .u64 0, .slice none 0 0, .string ⟨#[]⟩, .slice a n c]

theorem itS_uint (w : World) (S : Nat → Prop) (n : Int) (hn : U64 n) : ItS w S (uintV n) (itU n) := itS_plain w S 1 n [] (by decide) hn (Nat.zero_le _)

theorem itS_list {w : World} {S : Nat → Prop} {g n c : Nat} {l : List It} (hn : n = l.length) (hc : n ≤ c) (hs : n ≤ 140737488355328) (hg : S g) (hl : ItSL w S g 0 l) : ItS w S (listV (some ⟨g, 0, none⟩) n c) (itLs l) := by
  subst hn
  unfold itLs listV
  simp only [ItS]
  exact ⟨some ⟨g, 0, none⟩, ⟨none, 0, c, rfl, ⟨Nat.le_refl _, hc⟩, .inl rfl, ⟨by decide, by decide⟩, by decide, Nat.zero_le _, Nat.zero_le _, hs⟩, .inr ⟨g, 0, rfl, hg, hl⟩⟩

theorem itS_two {w : World} {S : Nat → Prop} {g : Nat} {v u : Value} {x y : It} (hg : S g) (h0 : At5 w g 0 v) (h1 : At5 w g 5 u) (hv : ItS w S v x) (hu : ItS w S u y) : ItS w S (listV (some ⟨g, 0, none⟩) 2 2) (itLs [x, y]) :=
  itS_list rfl (Nat.le_refl _) (by decide) hg (by simp only [ItSL]; exact ⟨⟨v, h0, hv⟩, ⟨u, h1, hu⟩, trivial⟩)

theorem itS_three {w : World} {S : Nat → Prop} {g : Nat} {v u t : Value} {x y z : It} (hg : S g) (h0 : At5 w g 0 v) (h1 : At5 w g 5 u) (h2 : At5 w g 10 t) (hv : ItS w S v x) (hu : ItS w S u y) (ht : ItS w S t z) : ItS w S (listV (some ⟨g, 0, none⟩) 3 3) (itLs [x, y, z]) :=
  itS_list rfl (Nat.le_refl _) (by decide) hg (by simp only [ItSL]; exact ⟨⟨v, h0, hv⟩, ⟨u, h1, hu⟩, ⟨t, h2, ht⟩, trivial⟩)

/-- The value of an item, its five cells written out. -/
theorem ItS.form {w : World} {S : Nat → Prop} {v : Value} {x : It} (h : ItS w S v x) : ∃ a c A C, v = .agg #[.int .i64 x.k, .int .u64 x.n, .slice a x.b.length c, .string ⟨x.s.toArray⟩, .slice A x.l.length C] := by
  obtain ⟨k, n, b, s, l⟩ := x
  simp only [ItS] at h
  obtain ⟨A, ⟨a, c, C, rfl, _⟩, _⟩ := h
  exact ⟨a, c, A, C, rfl⟩

theorem keepNew_below {w0 w w' : World} (h : Below w.heap.size w w') : KeepB (newB w0 w) w w' := fun b hb => h.block b hb.2
theorem ItS.new_on {w0 w w' : World} {v : Value} {x : It} (h : ItS w (newB w0 w) v x) (hb : Below w.heap.size w w') : ItS w' (newB w0 w') v x :=
  ItS.more (fun _ q => ⟨q.1, Nat.lt_of_lt_of_le q.2 hb.size⟩) x (ItS.keep (keepNew_below hb) x h)
theorem ItS.new_itV {w0 w : World} {v : Value} {x : It} (h : ItS w (newB w0 w) v x) : ItV w w.heap.size v x := ItS.itV (fun _ q => q.2) x h

end Go.Proofs.YtlmdbeccfoncpaaGreatDoor
