/- Package disk: a disk and rows that lie apart from it, call by call. -/
import Derived.Test.YtekeooeapiodmaaZDkV
import Derived.Test.YtekeooeapiodmaaZDkVs
namespace Go.Proofs.Ytekeooeapiodmaa
open Go Go.RowKit Go.Shelf
set_option linter.unusedSimpArgs false
set_option linter.unusedVariables false
set_option maxRecDepth 100000

/-- Blocks that are none of the disk's, nor a row, and lie as they lay in wk. -/
def KpK (K : Nat → Prop) (wk w : World) (S : Nat → Prop) (R : List (Nat × List Value)) : Prop := ∀ b, K b → w.heap[b]? = wk.heap[b]? ∧ ¬ S b ∧ b < w.heap.size ∧ ∀ r ∈ R, r.1 ≠ b
theorem KpK.on {K : Nat → Prop} {wk w w' : World} {S : Nat → Prop} {R : List (Nat × List Value)} (h : KpK K wk w S R) (hb : Below w.heap.size w w') : KpK K wk w' S R := fun b hk =>
  ⟨(hb.block b (h b hk).2.2.1).trans (h b hk).1, (h b hk).2.1, Nat.lt_of_lt_of_le (h b hk).2.2.1 hb.size, (h b hk).2.2.2⟩
theorem KpK.sub {K : Nat → Prop} {wk w : World} {S : Nat → Prop} {R R' : List (Nat × List Value)} (h : KpK K wk w S R) (hs : ∀ r ∈ R', r ∈ R) : KpK K wk w S R' := fun b hk => ⟨(h b hk).1, (h b hk).2.1, (h b hk).2.2.1, fun r hr => (h b hk).2.2.2 r (hs r hr)⟩
theorem KpK.adds {K : Nat → Prop} {wk w w' : World} {S : Nat → Prop} {R R' : List (Nat × List Value)} (h : KpK K wk w S R) (hb : Below w.heap.size w w') (hr : ∀ r ∈ R', w.heap.size ≤ r.1) : KpK K wk w' S (R' ++ R) := fun b hk =>
  ⟨(h.on hb b hk).1, (h b hk).2.1, (h.on hb b hk).2.2.1, fun r hm => by
    rcases List.mem_append.1 hm with hm | hm
    · have := hr r hm
      have := (h b hk).2.2.1
      omega
    · exact (h b hk).2.2.2 r hm⟩
theorem KpK.step {K : Nat → Prop} {wk w w' : World} {S : Nat → Prop} {R : List (Nat × List Value)} (h : KpK K wk w S R) (hb : ButS w.heap.size S w w') : KpK K wk w' (fun b => S b ∨ newS w w' b) R := fun b hk =>
  ⟨(hb.block b (h b hk).2.2.1 (h b hk).2.1).trans (h b hk).1, fun hs => by
    rcases hs with hs | hs
    · exact (h b hk).2.1 hs
    · have := (h b hk).2.2.1
      have := hs.1
      omega, Nat.lt_of_lt_of_le (h b hk).2.2.1 hb.size, (h b hk).2.2.2⟩
theorem KpK.set {K : Nat → Prop} {wk w : World} {S : Nat → Prop} {R : List (Nat × List Value)} (h : KpK K wk w S R) {g : Nat} (hg : ∀ b, K b → g ≠ b) (i : Nat) (v : Value) : KpK K wk (w.setCell ⟨g, i, none⟩ v) S R := fun b hk =>
  ⟨(Below.heap_setCell _ _ _ _ (Ne.symm (hg b hk))).trans (h b hk).1, (h b hk).2.1, by rw [World.size_setCell]; exact (h b hk).2.2.1, (h b hk).2.2.2⟩
/-- Since w0: a disk at p, and rows that are none of its blocks; what was at w0 is as it was; blocks that are kept. -/
def DStK (K : Nat → Prop) (wk w0 w : World) (p : Nat) (D : DkM) (R : List (Nat × List Value)) : Prop :=
  ∃ S, DkAt w S p D ∧ D.ok ∧ (∀ b, S b → w0.heap.size ≤ b ∧ b < w.heap.size) ∧ Below w0.heap.size w0 w ∧ (∀ r ∈ R, RowB w r.1 r.2 ∧ ¬ S r.1 ∧ r.1 < w.heap.size) ∧ KpK K wk w S R
/-- The same, where nothing is asked of other blocks. -/
abbrev DSt (w0 w : World) (p : Nat) (D : DkM) (R : List (Nat × List Value)) : Prop := DStK (fun _ => False) w0 w0 w p D R

variable {K : Nat → Prop} {wk w0 w : World} {p : Nat} {D : DkM} {R : List (Nat × List Value)}

theorem DStK.below (h : DStK K wk w0 w p D R) : Below w0.heap.size w0 w := by obtain ⟨S, _, _, _, hb, _⟩ := h; exact hb
theorem DStK.ok (h : DStK K wk w0 w p D R) : D.ok := by obtain ⟨S, _, hk, _⟩ := h; exact hk
theorem DStK.n (h : DStK K wk w0 w p D R) : DkN w (.pointer (some ⟨p, 0, none⟩)) D.n := by obtain ⟨S, hd, _⟩ := h; exact hd.n
theorem DStK.row (h : DStK K wk w0 w p D R) {r : Nat × List Value} (hr : r ∈ R) : RowB w r.1 r.2 := by obtain ⟨S, _, _, _, _, hR, _⟩ := h; exact (hR r hr).1
theorem DStK.row64 (h : DStK K wk w0 w p D R) {g : Nat} {s : List UInt8} (hr : (g, s.map encB) ∈ R) (hs : s.length = 64) : RdB w w.heap.size (some ⟨g, 0, none⟩) s :=
  Row64.rd ⟨h.row hr, hs⟩
theorem DStK.on {w' : World} (h : DStK K wk w0 w p D R) (hb : Below w.heap.size w w') : DStK K wk w0 w' p D R := by
  obtain ⟨S, hd, hk, hS, hB, hR, hK⟩ := h
  exact ⟨S, hd.on hb, hk, fun b h => ⟨(hS b h).1, Nat.lt_of_lt_of_le (hS b h).2 hb.size⟩, below_on hB hb, fun r hr => ⟨(hR r hr).1.on hb (hR r hr).2.2, (hR r hr).2.1, Nat.lt_of_lt_of_le (hR r hr).2.2 hb.size⟩, hK.on hb⟩
theorem DStK.sub {R' : List (Nat × List Value)} (h : DStK K wk w0 w p D R) (hs : ∀ r ∈ R', r ∈ R) : DStK K wk w0 w p D R' := by
  obtain ⟨S, hd, hk, hS, hB, hR, hK⟩ := h
  exact ⟨S, hd, hk, hS, hB, fun r hr => hR r (hs r hr), hK.sub hs⟩
/-- Rows that were made behind all of the disk's blocks. -/
theorem DStK.adds {w' : World} {R' : List (Nat × List Value)} (h : DStK K wk w0 w p D R) (hb : Below w.heap.size w w') (hr : ∀ r ∈ R', RowB w' r.1 r.2 ∧ w.heap.size ≤ r.1 ∧ r.1 < w'.heap.size) : DStK K wk w0 w' p D (R' ++ R) := by
  obtain ⟨S, hd, hk, hS, hB, hR, hK⟩ := h
  refine ⟨S, hd.on hb, hk, fun b h => ⟨(hS b h).1, Nat.lt_of_lt_of_le (hS b h).2 hb.size⟩, below_on hB hb, fun r hm => ?_, hK.adds hb fun r hr' => (hr r hr').2.1⟩
  rcases List.mem_append.1 hm with hm | hm
  · obtain ⟨h1, h2, h3⟩ := hr r hm
    exact ⟨h1, fun h => by have := (hS _ h).2; omega, h3⟩
  · exact ⟨(hR r hm).1.on hb (hR r hm).2.2, (hR r hm).2.1, Nat.lt_of_lt_of_le (hR r hm).2.2 hb.size⟩
theorem DStK.add {w' : World} {g : Nat} {vs : List Value} (h : DStK K wk w0 w p D R) (hb : Below w.heap.size w w') (hr : RowB w' g vs) (hg : w.heap.size ≤ g) (hl : g < w'.heap.size) : DStK K wk w0 w' p D ((g, vs) :: R) :=
  h.adds (R' := [(g, vs)]) hb fun r hm => by
    rw [List.mem_singleton.1 hm]
    exact ⟨hr, hg, hl⟩
/-- The disk's own call: its blocks, and new ones, alone are another's. -/
theorem DStK.step {S : Nat → Prop} {w' : World} {D' : DkM} (hS : ∀ b, S b → w0.heap.size ≤ b ∧ b < w.heap.size) (hB : Below w0.heap.size w0 w) (hR : (∀ r ∈ R, RowB w r.1 r.2 ∧ ¬ S r.1 ∧ r.1 < w.heap.size) ∧ KpK K wk w S R)
    (hd : DkAt w' (fun b => S b ∨ newS w w' b) p D') (hk : D'.ok) (hb : ButS w.heap.size S w w') : DStK K wk w0 w' p D' R :=
  ⟨_, hd, hk, fun b h => by
      rcases h with h | h
      · exact ⟨(hS b h).1, Nat.lt_of_lt_of_le (hS b h).2 hb.size⟩
      · exact ⟨Nat.le_trans hB.size h.1, h.2⟩,
    hB.trans (hb.below hB.size fun k hk => (hS k hk).1), fun r hr => by
      obtain ⟨h1, h2, h3⟩ := hR.1 r hr
      refine ⟨h1.kept (hb.block _ h3 h2), ?_, Nat.lt_of_lt_of_le h3 hb.size⟩
      rintro (h | h)
      · exact h2 h
      · have := h.1; omega, hR.2.step hb⟩
theorem DStK.start {k : Nat} (h : DkAt w (newS w0 w) p D) (hb : Below w0.heap.size w0 w) (hk : D.ok) : DSt w0 w p D [] :=
  ⟨_, h, hk, fun b h => h, hb, (fun r hr => by cases hr), fun b hb => hb.elim⟩
theorem DSt.start {k : Nat} (h : DkAt w (newS w0 w) p D) (hb : Below w0.heap.size w0 w) (hk : D.ok) : DSt w0 w p D [] := DStK.start (k := k) h hb hk

theorem DStK.wrote (h : DStK K wk w0 w p D R) (k : Int) (hkk : -9223372036854775808 ≤ k ∧ k < 9223372036854775808) (a : Option Addr) (c : Nat) (bs : List UInt8) (hfew : D.wt.length < 1000000) (hc : bs.length ≤ c) (hr : RdB w w.heap.size a bs) (h0 : D.wrE k bs.length = 0) (h64 : bs.length = 64) :
    Calls Try.prog 19 #[.pointer (some ⟨p, 0, none⟩), .int .i64 k, .slice a bs.length c] w fun e w' => e = .returned (.int .i64 0) ∧ DStK K wk w0 w' p (D.wrote k bs) R := by
  obtain ⟨S, hd, hk, hS, hB, hR⟩ := h
  refine (write_any S p D hk k hkk a c bs hfew w hc hr hd).mono ?_
  rintro e w' ⟨rfl, ⟨_, hd', hb⟩ | ⟨hn, _⟩⟩
  · exact ⟨by rw [h0], .step hS hB hR hd' (wrote_ok hk k bs h64 hfew) hb⟩
  · exact absurd h0 hn
theorem DStK.wroteNot (h : DStK K wk w0 w p D R) (k : Int) (hkk : -9223372036854775808 ≤ k ∧ k < 9223372036854775808) (a : Option Addr) (c : Nat) (bs : List UInt8) (hfew : D.wt.length < 1000000) (hc : bs.length ≤ c) (hr : RdB w w.heap.size a bs) (E : Int) (h0 : D.wrE k bs.length = E) (hE : E ≠ 0) :
    Calls Try.prog 19 #[.pointer (some ⟨p, 0, none⟩), .int .i64 k, .slice a bs.length c] w fun e w' => e = .returned (.int .i64 E) ∧ DStK K wk w0 w' p D R ∧ Below w.heap.size w w' := by
  have h1 := h
  obtain ⟨S, hd, hk, hS, hB, hR⟩ := h
  refine (write_any S p D hk k hkk a c bs hfew w hc hr hd).mono ?_
  rintro e w' ⟨rfl, ⟨hz, _⟩ | ⟨_, hb⟩⟩
  · exact absurd (h0.symm.trans hz) hE
  · exact ⟨by rw [h0], h1.on hb, hb⟩
theorem DStK.sync (h : DStK K wk w0 w p D R) (hl : D.left ≠ 0) :
    Calls Try.prog 21 #[.pointer (some ⟨p, 0, none⟩)] w fun e w' => e = .returned (.int .i64 0) ∧ DStK K wk w0 w' p D.synced R := by
  obtain ⟨S, hd, hk, hS, hB, hR⟩ := h
  refine (sync_any S p D hk w hd).mono ?_
  rintro e w' (⟨_, rfl, hd', hb⟩ | ⟨hz, _⟩)
  · exact ⟨rfl, .step hS hB hR (hd'.kept (fun _ _ _ => rfl) fun b h => .inl h) (did_ok (settled_ok hk _)) hb⟩
  · exact absurd hz hl
theorem DStK.syncNot (h : DStK K wk w0 w p D R) (hl : D.left = 0) :
    Calls Try.prog 21 #[.pointer (some ⟨p, 0, none⟩)] w fun e w' => e = .returned (.int .i64 190) ∧ DStK K wk w0 w' p D R ∧ Below w.heap.size w w' := by
  have h1 := h
  obtain ⟨S, hd, hk, hS, hB, hR⟩ := h
  refine (sync_any S p D hk w hd).mono ?_
  rintro e w' (⟨hz, _⟩ | ⟨_, rfl, hb⟩)
  · exact absurd hl hz
  · exact ⟨rfl, h1.on hb, hb⟩
theorem DStK.arm (h : DStK K wk w0 w p D R) (n : Int) (hn : -9223372036854775808 ≤ n ∧ n < 9223372036854775808) :
    Calls Try.prog 22 #[.pointer (some ⟨p, 0, none⟩), .int .i64 n] w fun e w' => e = .returned (.int .i64 0) ∧ DStK K wk w0 w' p (D.armM n) R := by
  obtain ⟨S, hd, hk, hS, hB, hR⟩ := h
  refine (arm_any n hn S p D hk.n1 w hd).mono ?_
  rintro e w' ⟨rfl, hd', hb⟩
  exact ⟨rfl, .step hS hB hR (hd'.kept (fun _ _ _ => rfl) fun b h => .inl h) (arm_ok hk n hn.2) hb⟩
/-- Crash, with truths that are none of the disk's blocks. -/
theorem DStK.crash (h : DStK K wk w0 w p D R) (A : Option Addr) (C : Nat) (l : List Bool) (hl : l.length ≤ 140737488355328) (hr : RdT w w.heap.size A l) (hA : ∀ q, A = some q → q.block < w0.heap.size ∨ ∃ vs, (q.block, vs) ∈ R) :
    Calls Try.prog 23 #[.pointer (some ⟨p, 0, none⟩), .slice A l.length C] w fun e w' => e = .returned (.int .i64 0) ∧ DStK K wk w0 w' p (D.crashed l) R := by
  obtain ⟨S, hd, hk, hS, hB, hR⟩ := h
  refine (crash_any S p D hk A C l hl w hr (fun q hq hs => ?_) (fun b h => (hS b h).2) hd).mono ?_
  · rcases hA q hq with h | ⟨vs, h⟩
    · have := (hS _ hs).1; omega
    · exact (hR.1 _ h).2.1 hs
  rintro e w' ⟨rfl, hd', hb⟩
  exact ⟨rfl, .step hS hB hR (hd'.kept (fun _ _ _ => rfl) fun b h => .inl h) (crashed_ok hk l) hb⟩
theorem DStK.read (h : DStK K wk w0 w p D R) (k : Int) (hk : hasS D.n k = true) (s : List UInt8) (hs : D.shown k = s) :
    Calls Try.prog 24 #[.pointer (some ⟨p, 0, none⟩), .int .i64 k] w fun e w' => ∃ g, e = .returned (.tuple #[.slice (some ⟨g, 0, none⟩) 64 64, .int .i64 0]) ∧ DStK K wk w0 w' p D ((g, s.map encB) :: R) := by
  have h1 := h
  obtain ⟨S, hd, hok, hS, hB, hR⟩ := h
  refine (read_any S p D hok k w hd).mono ?_
  rintro e w' ⟨hb, ⟨_, g, rfl, hr, hg⟩ | ⟨hz, _⟩⟩
  · rw [hs] at hr
    exact ⟨g, rfl, h1.add hb hr.1 hg hr.lt⟩
  · rw [hk] at hz; cases hz
theorem DStK.lies (h : DStK K wk w0 w p D R) (k : Int) (hk : hasS D.n k = true) (s : List UInt8) (hs : D.lie k = s) :
    Calls Try.prog 29 #[.pointer (some ⟨p, 0, none⟩), .int .i64 k] w fun e w' => ∃ g, e = .returned (.tuple #[.slice (some ⟨g, 0, none⟩) 64 64, .int .i64 0]) ∧ DStK K wk w0 w' p D ((g, s.map encB) :: R) := by
  have h1 := h
  obtain ⟨S, hd, hok, hS, hB, hR⟩ := h
  refine (lies_any S p D hok k w hd).mono ?_
  rintro e w' ⟨hb, ⟨_, g, rfl, hr, hg⟩ | ⟨hz, _⟩⟩
  · rw [hs] at hr
    exact ⟨g, rfl, h1.add hb hr.1 hg hr.lt⟩
  · rw [hk] at hz; cases hz
/-- A sector of one byte, made beside it. -/
theorem DStK.full (h : DStK K wk w0 w p D R) (c : UInt8) :
    Calls Try.prog 20 #[.int .u8 (c.toNat : Int)] w fun e w' => ∃ g, e = .returned (.slice (some ⟨g, 0, none⟩) 64 64) ∧ DStK K wk w0 w' p D R ∧ RdB w' w'.heap.size (some ⟨g, 0, none⟩) (fullB c) := by
  refine (full_any c w).mono ?_
  rintro e w' ⟨rfl, hr, hb⟩
  exact ⟨_, rfl, h.on hb, hr.rd⟩
theorem dknum_any (n : Int) (w : World) : Calls Try.prog 8 #[.int .i64 n] w fun e w' => e = .returned (.int .i64 n) ∧ w = w' := by
  go_enter Try.func8, Try.ntmps8
  go_wp2_with fail
  go_ret
  exact ⟨rfl, rfl⟩

end Go.Proofs.Ytekeooeapiodmaa

