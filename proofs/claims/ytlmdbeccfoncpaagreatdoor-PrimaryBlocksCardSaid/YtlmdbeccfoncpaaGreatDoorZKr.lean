/- Joined texts. -/
import Derived.Test.YtlmdbeccfoncpaaGreatDoorZJd
namespace Go.Proofs.YtlmdbeccfoncpaaGreatDoor
open Go.RowKit Go.Shelf

/-- The bytes ahead of a sum; and the sum. -/
def aheadN (k : Nat) (ss : List UInt8) : List UInt8 := ss.take (ss.length - wdN k)
def behindN (k : Nat) (ss : List UInt8) : List UInt8 := ss.drop (ss.length - wdN k)

/-- The bytes that are sealed so, if they are. -/
def openN (k : Nat) (ss : List UInt8) : Option (List UInt8) := if ss.length < wdN k then none else if behindN k ss = sumB k (aheadN k ss) then some (aheadN k ss) else none

theorem cut_short {k : Nat} {ss : List UInt8} (h : ss.length < wdN k) : cutAt ss 0 [(ss.length : Int) - (wdN k : Int)] = none := by
  rw [cutAt, if_pos (.inl (by omega))]

theorem cut_long {k : Nat} {ss : List UInt8} (h : ¬ ss.length < wdN k) : cutAt ss 0 [(ss.length : Int) - (wdN k : Int)] = some [aheadN k ss, behindN k ss] := by
  have e : ((ss.length : Int) - (wdN k : Int)).toNat = ss.length - wdN k := by omega
  rw [cutAt, if_neg (by omega), e, cutAt]
  simp [aheadN, behindN]

/-- Pieces that were laid since B0. -/
theorem rdP_far {w : World} {base B0 : Nat} {e : TypeId} {v : Value} {vs : List Value} {ps : List (List UInt8)} (h : OwnV w base e v vs) (hp : Pcs w B0 w.heap.size vs ps) (hne : ps ≠ []) :
    ∃ g o c, v = .slice (some ⟨g, o, none⟩) ps.length c ∧ g < w.heap.size ∧ ∀ j, j < ps.length → ∃ A c', w.cell? ⟨g, o + j, none⟩ = some (.slice A (ps[j]?.getD []).length c') ∧ (ps[j]?.getD []).length ≤ c' ∧ RdB w w.heap.size A (ps[j]?.getD []) ∧ ∀ q, A = some q → B0 ≤ q.block := by
  rcases h.form with ⟨rfl, rfl⟩ | ⟨g, cap, rfl, _, hg, _, _, hc, _⟩
  · exact absurd (List.eq_nil_of_length_eq_zero (by rw [← hp.1]; rfl)) hne
  · refine ⟨g, 0, cap, by rw [hp.1], hg, fun j hj => ?_⟩
    obtain ⟨A, c, hv, hle, hr, ha⟩ := hp.2 j hj
    refine ⟨A, c, ?_, hle, hr, fun q hq => (ha q hq).1⟩
    have hj' : j < vs.length := by rw [hp.1]; exact hj
    rw [Nat.zero_add, hc j hj', List.getElem?_eq_getElem hj', ← hv]
    simp [List.getElem?_eq_getElem hj']

/-- What is known where the sums are held against one another. -/
def OpenF (w : World) (G k B g o : Nat) (A0 A1 : Option Addr) (C0 C1 : Nat) (p t : List UInt8) (w' : World) : Prop :=
  KindAt w G k w' ∧ B ≤ w'.heap.size ∧ g < B ∧ w'.cell? ⟨g, o, none⟩ = some (.slice A0 p.length C0) ∧ w'.cell? ⟨g, o + 1, none⟩ = some (.slice A1 t.length C1) ∧ RdB w' B A0 p ∧ RdB w' B A1 t

theorem OpenF.later {w : World} {G k B g o : Nat} {A0 A1 : Option Addr} {C0 C1 : Nat} {p t : List UInt8} {w1 w2 : World} (h : OpenF w G k B g o A0 A1 C0 C1 p t w1) (hb : Below w1.heap.size w1 w2) : OpenF w G k B g o A0 A1 C0 C1 p t w2 := by
  obtain ⟨h1, hB, hg, h2, h3, h4, h5⟩ := h
  have l2 := World.block_lt_of_cell? w1 _ h2
  exact ⟨h1.later hb, Nat.le_trans hB hb.size, hg, (hb.cell l2).trans h2, (hb.cell (p := ⟨g, o + 1, none⟩) l2).trans h3, h4.below (hb.mono hB), h5.below (hb.mono hB)⟩

theorem OpenF.held {w : World} {G k B g o : Nat} {A0 A1 : Option Addr} {C0 C1 : Nat} {p t : List UInt8} {w1 : World} (h : OpenF w G k B g o A0 A1 C0 C1 p t w1) :
    (w1.cell? ⟨g, o, none⟩ = some (.slice A0 p.length C0) ∧ w1.cell? ⟨g, o + 1, none⟩ = some (.slice A1 t.length C1) ∧
      w1.cell? ⟨G, 0, none⟩ = some (.int .i64 (wdN k)) ∧ w1.cell? ⟨G, 1, none⟩ = some (.int .u32 (onN k)) ∧ w1.cell? ⟨G, 2, none⟩ = some (.int .u32 (fxN k))) ∧ OpenF w G k B g o A0 A1 C0 C1 p t w1 :=
  ⟨⟨h.2.2.2.1, h.2.2.2.2.1, h.1.held.1⟩, h⟩

/-- What Open answers, of a kind that there is. -/
def OpenP (w : World) (k : Nat) (ss : List UInt8) (e : Ending) (w' : World) : Prop :=
  ((openN k ss = none ∧ e = .returned (.tuple #[.slice none 0 0, .int .i64 110])) ∨ ∃ p, openN k ss = some p ∧ ∃ A C, e = .returned (.tuple #[.slice A p.length C, .int .i64 0]) ∧ RdB w' w'.heap.size A p ∧ ∀ q, A = some q → w.heap.size ≤ q.block) ∧ Below w.heap.size w w'

/-- What is sealed is opened as it was. -/
theorem openN_seal (k : Nat) (bs : List UInt8) : openN k (bs ++ sumB k bs) = some bs := by
  have hl := sumB_length k bs
  have e : (bs ++ sumB k bs).length - wdN k = bs.length := by simp [hl]
  have ha : aheadN k (bs ++ sumB k bs) = bs := by unfold aheadN; rw [e]; exact List.take_left' rfl
  have hb : behindN k (bs ++ sumB k bs) = sumB k bs := by unfold behindN; rw [e]; exact List.drop_left' rfl
  rw [openN, ha, hb, if_pos rfl, if_neg]
  simp [hl]

end Go.Proofs.YtlmdbeccfoncpaaGreatDoor

namespace Go.Proofs.YtlmdbeccfoncpaaGreatDoor
open Go.RowKit Go.Shelf

theorem sb2_inj {n m : Nat} (hn : n < 65536) (hm : m < 65536) (h : beB 2 n = beB 2 m) : n = m := by
  have h0 := congrArg (byteAt · 0) h
  have h1 := congrArg (byteAt · 1) h
  simp only [byteAt_beB 2 _ 0 (by omega), byteAt_beB 2 _ 1 (by omega), sb] at h0 h1
  simp at h0 h1
  omega

theorem sb4_inj {n m : Nat} (hn : n < 4294967296) (hm : m < 4294967296) (h : beB 4 n = beB 4 m) : n = m := by
  have h0 := congrArg (byteAt · 0) h
  have h1 := congrArg (byteAt · 1) h
  have h2 := congrArg (byteAt · 2) h
  have h3 := congrArg (byteAt · 3) h
  simp only [byteAt_beB 4 _ 0 (by omega), byteAt_beB 4 _ 1 (by omega), byteAt_beB 4 _ 2 (by omega), byteAt_beB 4 _ 3 (by omega), sb] at h0 h1 h2 h3
  simp at h0 h1 h2 h3
  omega

theorem sumB_inj {k : Nat} (h1 : 1 ≤ k) (h2 : k ≤ 2) {bs cs : List UInt8} (h : sumB k bs = sumB k cs) : sumN k bs = sumN k cs := by
  have hb := sumN_le (k := k) bs
  have hc := sumN_le (k := k) cs
  have hk : k = 1 ∨ k = 2 := by omega
  rcases hk with rfl | rfl
  · have e : onN 1 = 65535 := rfl
    exact sb2_inj (by omega) (by omega) h
  · have e : onN 2 = 4294967295 := rfl
    exact sb4_inj (by omega) (by omega) h

/-- One bit of the bytes is another one: so is the sum. -/
theorem sumB_flip {k i j : Nat} (h1 : 1 ≤ k) (h2 : k ≤ 2) (bs : List UInt8) (y : UInt8) (hi : i < bs.length) (hj : j < 8) (hy : y.toNat = (bs[i]?.getD 0).toNat ^^^ 2 ^ j) : sumB k bs ≠ sumB k (bs.set i y) := by
  intro h
  have hs := sumB_inj h1 h2 h
  unfold sumN at hs
  have hb := (word_bound h2 bs bs.length).1
  have hc := (word_bound h2 (bs.set i y) (bs.set i y).length).1
  rw [List.length_set] at hs hc
  have he : crcN (fxN k) (onN k) bs bs.length = crcN (fxN k) (onN k) (bs.set i y) bs.length := by omega
  have hyi : (bs.set i y)[i]?.getD 0 = y := by simp [hi]
  obtain ⟨hne, hsame⟩ := flip_bits (bs[i]?.getD 0) j y hy
  have hrest : ∀ q, q ≠ i → bs[q]?.getD 0 = (bs.set i y)[q]?.getD 0 := fun q hq => by
    rw [List.getElem?_set_ne (fun e => hq e.symm)]
  have hk : k = 1 ∨ k = 2 := by omega
  rcases hk with rfl | rfl
  · exact crcN_flip (m := 15) bs (bs.set i y) (by decide) (by decide) (by decide) hj (by rw [hyi]; exact hne) (by rw [hyi]; exact hsame) hrest _ hi he
  · exact crcN_flip (m := 31) bs (bs.set i y) (by decide) (by decide) (by decide) hj (by rw [hyi]; exact hne) (by rw [hyi]; exact hsame) hrest _ hi he

theorem openN_flip {k i j : Nat} (h1 : 1 ≤ k) (h2 : k ≤ 2) (bs : List UInt8) (y : UInt8) (hi : i < (bs ++ sumB k bs).length) (hj : j < 8) (hy : y.toNat = ((bs ++ sumB k bs)[i]?.getD 0).toNat ^^^ 2 ^ j) :
    openN k ((bs ++ sumB k bs).set i y) = none := by
  have hl := sumB_length k bs
  have e : ((bs ++ sumB k bs).set i y).length - wdN k = bs.length := by simp [hl]
  have hlen : (bs ++ sumB k bs).length = bs.length + wdN k := by simp [hl]
  have hns : ¬ ((bs ++ sumB k bs).set i y).length < wdN k := by simp [hl]
  rw [openN, if_neg hns, if_neg]
  unfold behindN aheadN
  rw [e]
  by_cases hlt : i < bs.length
  · rw [List.set_append_left _ _ hlt, List.drop_left' (by simp), List.take_left' (by simp)]
    rw [List.getElem?_append_left hlt] at hy
    exact sumB_flip h1 h2 bs y hlt hj hy
  · rw [List.set_append_right _ _ (by omega), List.drop_left' rfl, List.take_left' rfl]
    rw [List.getElem?_append_right (by omega)] at hy
    intro h
    have h3 := congrArg (fun l : List UInt8 => (l[i - bs.length]?.getD 0).toNat) h
    have hil : i - bs.length < (sumB k bs).length := by omega
    simp [hil] at h3
    rw [List.getElem?_eq_getElem hil, Option.getD_some] at hy
    obtain ⟨hne, _⟩ := flip_bits ((sumB k bs)[i - bs.length]) j y hy
    rw [h3] at hne
    exact hne rfl

end Go.Proofs.YtlmdbeccfoncpaaGreatDoor
