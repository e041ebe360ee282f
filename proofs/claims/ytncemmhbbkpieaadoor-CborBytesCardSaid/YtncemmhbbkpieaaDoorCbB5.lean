/- The document's answer of layer 3, read: First, Decode; then CborBytes, walked. -/
import Derived.Test.YtncemmhbbkpieaaDoorCbB3
import Derived.Test.YtncemmhbbkpieaaDoorCbB4
import Derived.Test.YtncemmhbbkpieaaDoorCbT
import Derived.Test.YtncemmhbbkpieaaDoorCbX
import Derived.Test.YtncemmhbbkpieaaDoorCbBx
namespace Go.Proofs.YtncemmhbbkpieaaDoor
open Go.RowKit Go.Shelf
set_option linter.unusedSimpArgs false
set_option linter.unusedVariables false

theorem rdFirst_any : ∀ k, k ≤ 8 → RdFirstAt k
  | 0, _ => rdFirst_zero
  | k + 1, h => by
    have ih := rdFirst_any k (by omega)
    intro a n c bs w hn hcc hl hr
    cases bs with
    | nil =>
      subst hn
      exact rdFirst_nil k (by omega) a c w
    | cons f r =>
      by_cases hf : 244 ≤ f.toNat ∧ f.toNat ≤ 246
      · exact rdFirst_f7 k (by omega) a n c f r w hn hr hf
      by_cases h4 : ∃ n r1, headN (f :: r) = some (4, n, r1)
      · obtain ⟨N, r1, h4⟩ := h4
        obtain ⟨L, rfl⟩ := Int.eq_ofNat_of_zero_le (headN_u64 h4).1.1
        exact rdFirst_list k (by omega) ih a n c f r w hn hcc hl hr L r1 h4
      · exact rdFirst_rest k (by omega) ih a n c f r w hn hcc hl hr hf (fun n r1 h => h4 ⟨n, r1, h⟩)

set_option maxRecDepth 100000 in
set_option maxHeartbeats 4000000 in
theorem rFirst_any (a : Option Addr) (n c : Nat) (bs : List UInt8) (w : World) (hn : n = bs.length) (hcc : n ≤ c) (hl : bs.length ≤ 3000) (hr : RdB w w.heap.size a bs) :
    Calls Tryd.prog 9 #[.slice a n c] w (FirstP w bs) := by
  have HN := Lib.hid hn
  have HR := Lib.hid hr
  have hn3 : n ≤ 3000 := by omega
  have hl6 : bs.length ≤ 1000000 := by omega
  have HF : Hid (firstN bs = match itemN 8 bs with | .error c => .error c | .ok (x, r) => .ok (x, bs.length - r.length)) := if_neg (by omega)
  have hB0 := below_al (Below.refl w.heap.size w) (.cells #[.int .i64 0, .int .u64 0, .slice none 0 0, .string ⟨#[]⟩, .slice none 0 0] 28)
  clear hn hr hl
  go_enter Tryd.func9, Tryd.ntmps9
  go_wp2_with fail
  refine (rdFirst_any 8 (Nat.le_refl _) a n c bs _ HN.out hcc hl6 ((HR.out.below hB0).mono hB0.size)).mono ?_
  rintro e w1 ⟨hb1, hm⟩
  have HBx := Lib.hid (hb1.mono (show w.heap.size + 1 ≤ _ by simp))
  obtain ⟨⟨z0, z1, z2, z3, z4⟩, zf⟩ := box0_later (w := w) HBx.out
  have hsz1 : w.heap.size + 1 ≤ w1.heap.size := by have := hb1.size; simpa using this
  have HB : Hid (Below w.heap.size w w1) := hB0.trans (hb1.mono (by simp))
  clear hb1 hB0
  cases hit : itemN 8 bs with
  | error q =>
    rw [hit] at hm HF
    have hm : e = .returned (.tuple #[itemV 0 0 [], .int .i64 0, .int .i64 q]) := hm
    subst hm
    have HF2 : Hid (firstN bs = .error q) := HF.out
    clear hit HF
    unfold itemV
    go_wp2_with fail
    change bodyPost _ _ _ _ _ (put5 w1 w.heap.size (.int .i64 0) (.int .u64 0) (.slice none 0 0) (.string ⟨#[]⟩) (.slice none 0 0))
    obtain ⟨c0, c1, c2, c3, c4⟩ := put5_cells z0 z1 z2 z3 z4 (.int .i64 0) (.int .u64 0) (.slice none 0 0) (.string ⟨#[]⟩) (.slice none 0 0)
    have hP : FirstP w bs (.returned (.tuple #[itemV 0 0 [], .int .i64 0, .int .i64 q])) (put5 w1 w.heap.size (.int .i64 0) (.int .u64 0) (.slice none 0 0) (.string ⟨#[]⟩) (.slice none 0 0)) := by
      refine ⟨HB.out.trans (put5_below w1 w.heap.size w.heap.size (Nat.le_refl _) _ _ _ _ _), ?_⟩
      rw [HF2.out]
    generalize put5 w1 w.heap.size (.int .i64 0) (.int .u64 0) (.slice none 0 0) (.string ⟨#[]⟩) (.slice none 0 0) = w9 at *
    exact bodyPost_ret (v := .tuple #[itemV 0 0 [], .int .i64 0, .int .i64 q]) (by simp [results, Tryd.results9, go_sem, itemV, c0, c1, c2, c3, c4]) rfl hP
  | ok p =>
    obtain ⟨x, r⟩ := p
    rw [hit] at hm HF
    obtain ⟨v, rfl, hx⟩ := hm
    obtain ⟨a', c', A', C', rfl⟩ := hx.form
    have HX := Lib.hid hx
    obtain ⟨m, hm9⟩ : ∃ m, m = bs.length - r.length := ⟨_, rfl⟩
    have HF2 : Hid (firstN bs = .ok (x, m)) := by rw [Hid, hm9]; exact HF.out
    rw [← hm9]
    clear hit HF hx hm9
    go_wp2_with fail
    change bodyPost _ _ _ _ _ (put5 w1 w.heap.size (.int .i64 x.k) (.int .u64 x.n) (.slice a' x.b.length c') (.string ⟨x.s.toArray⟩) (.slice A' x.l.length C'))
    obtain ⟨c0, c1, c2, c3, c4⟩ := put5_cells z0 z1 z2 z3 z4 (.int .i64 x.k) (.int .u64 x.n) (.slice a' x.b.length c') (.string ⟨x.s.toArray⟩) (.slice A' x.l.length C')
    have hP : FirstP w bs (.returned (.tuple #[.agg #[.int .i64 x.k, .int .u64 x.n, .slice a' x.b.length c', .string ⟨x.s.toArray⟩, .slice A' x.l.length C'], .int .i64 m, .int .i64 0])) (put5 w1 w.heap.size (.int .i64 x.k) (.int .u64 x.n) (.slice a' x.b.length c') (.string ⟨x.s.toArray⟩) (.slice A' x.l.length C')) := by
      refine ⟨HB.out.trans (put5_below w1 w.heap.size w.heap.size (Nat.le_refl _) _ _ _ _ _), ?_⟩
      rw [HF2.out]
      refine ⟨_, rfl, ?_⟩
      have hszA : (w.alloc (.cells #[.int .i64 0, .int .u64 0, .slice none 0 0, .string ⟨#[]⟩, .slice none 0 0] 28)).heap.size = w.heap.size + 1 := World.size_alloc _ _
      have hk : KeepB (newB (w.alloc (.cells #[.int .i64 0, .int .u64 0, .slice none 0 0, .string ⟨#[]⟩, .slice none 0 0] 28)) w1) w1 (put5 w1 w.heap.size (.int .i64 x.k) (.int .u64 x.n) (.slice a' x.b.length c') (.string ⟨x.s.toArray⟩) (.slice A' x.l.length C')) := fun b hbb => put5_block w1 w.heap.size _ _ _ _ _ b (by have := hbb.1; omega)
      exact (ItS.keep hk x HX.out).more fun b hbb => ⟨by have := hbb.1; omega, by rw [put5_size]; exact hbb.2⟩
    generalize put5 w1 w.heap.size (.int .i64 x.k) (.int .u64 x.n) (.slice a' x.b.length c') (.string ⟨x.s.toArray⟩) (.slice A' x.l.length C') = w9 at *
    exact bodyPost_ret (v := .tuple #[.agg #[.int .i64 x.k, .int .u64 x.n, .slice a' x.b.length c', .string ⟨x.s.toArray⟩, .slice A' x.l.length C'], .int .i64 m, .int .i64 0]) (by simp [results, Tryd.results9, go_sem, c0, c1, c2, c3, c4]) rfl hP

set_option maxRecDepth 100000 in
set_option maxHeartbeats 4000000 in
theorem rDecode_any (a : Option Addr) (n c : Nat) (bs : List UInt8) (w : World) (hn : n = bs.length) (hcc : n ≤ c) (hl : bs.length ≤ 3000) (hr : RdB w w.heap.size a bs) :
    Calls Tryd.prog 8 #[.slice a n c] w (DecodeP w bs) := by
  have HN := Lib.hid hn
  have HR := Lib.hid hr
  have hn3 : n ≤ 3000 := by omega
  have hB0 := below_al (Below.refl w.heap.size w) (.cells #[.int .i64 0, .int .u64 0, .slice none 0 0, .string ⟨#[]⟩, .slice none 0 0] 28)
  clear hn hr
  go_enter Tryd.func8, Tryd.ntmps8
  go_wp2_with fail
  refine (rFirst_any a n c bs _ HN.out hcc hl ((HR.out.below hB0).mono hB0.size)).mono ?_
  rintro e w1 ⟨hb1, hm⟩
  have HBx := Lib.hid (hb1.mono (show w.heap.size + 1 ≤ _ by simp))
  have hsz1 : w.heap.size + 1 ≤ w1.heap.size := by have := hb1.size; simpa using this
  have HB : Hid (Below w.heap.size w w1) := hB0.trans (hb1.mono (by simp))
  clear hb1 hB0 hl
  cases hit : firstN bs with
  | error q =>
    rw [hit] at hm
    have hm : e = .returned (.tuple #[itemV 0 0 [], .int .i64 0, .int .i64 q]) := hm
    subst hm
    have hq := firstN_err hit
    have hq0 : ((q : Int) == 0) = false := by simp; omega
    have hq1 : ((q : Int) != 0) = true := by simp; omega
    have HD : Hid (decodeN bs = .error q) := by simp only [Hid, decodeN, hit]
    obtain ⟨⟨y0, y1, y2, y3, y4⟩, yf⟩ := box0_later (w := w) (HBx.out.alloc hsz1 (.cells #[.int .i64 0, .int .u64 0, .slice none 0 0, .string ⟨#[]⟩, .slice none 0 0] 28))
    have HB2 : Hid (Below w.heap.size w (w1.alloc (.cells #[.int .i64 0, .int .u64 0, .slice none 0 0, .string ⟨#[]⟩, .slice none 0 0] 28))) := below_al HB.out _
    clear hit hq
    unfold itemV
    go_wp2_with fail
    change bodyPost _ _ _ _ _ (put5 (w1.alloc (.cells #[.int .i64 0, .int .u64 0, .slice none 0 0, .string ⟨#[]⟩, .slice none 0 0] 28)) w.heap.size (.int .i64 0) (.int .u64 0) (.slice none 0 0) (.string ⟨#[]⟩) (.slice none 0 0))
    obtain ⟨c0, c1, c2, c3, c4⟩ := put5_cells y0 y1 y2 y3 y4 (.int .i64 0) (.int .u64 0) (.slice none 0 0) (.string ⟨#[]⟩) (.slice none 0 0)
    have hP : DecodeP w bs (.returned (.tuple #[itemV 0 0 [], .int .i64 q])) (put5 (w1.alloc (.cells #[.int .i64 0, .int .u64 0, .slice none 0 0, .string ⟨#[]⟩, .slice none 0 0] 28)) w.heap.size (.int .i64 0) (.int .u64 0) (.slice none 0 0) (.string ⟨#[]⟩) (.slice none 0 0)) := by
      refine ⟨HB2.out.trans (put5_below _ w.heap.size w.heap.size (Nat.le_refl _) _ _ _ _ _), ?_⟩
      rw [HD.out]

    generalize put5 (w1.alloc (.cells #[.int .i64 0, .int .u64 0, .slice none 0 0, .string ⟨#[]⟩, .slice none 0 0] 28)) w.heap.size (.int .i64 0) (.int .u64 0) (.slice none 0 0) (.string ⟨#[]⟩) (.slice none 0 0) = w9 at *
    exact bodyPost_ret (v := .tuple #[itemV 0 0 [], .int .i64 q]) (by simp [results, Tryd.results8, go_sem, itemV, c0, c1, c2, c3, c4]) rfl hP

  | ok p =>
    obtain ⟨x, m⟩ := p
    rw [hit] at hm
    obtain ⟨v, rfl, hx⟩ := hm
    obtain ⟨a', c', A', C', rfl⟩ := hx.form
    have hml := (firstN_len hit).2.1
    rw [← HN.out] at hml
    have HX := Lib.hid hx
    obtain ⟨⟨y0, y1, y2, y3, y4⟩, yf⟩ := box0_later (w := w) (HBx.out.alloc hsz1 (.cells #[.int .i64 x.k, .int .u64 x.n, .slice a' x.b.length c', .string ⟨x.s.toArray⟩, .slice A' x.l.length C'] 28))
    have HB2 : Hid (Below w.heap.size w (w1.alloc (.cells #[.int .i64 x.k, .int .u64 x.n, .slice a' x.b.length c', .string ⟨x.s.toArray⟩, .slice A' x.l.length C'] 28))) := below_al HB.out _
    by_cases hlt : m < n
    · have HD : Hid (decodeN bs = .error 121) := by simp only [Hid, decodeN, hit, ← HN.out, hlt, if_true]
      have hne : ((m : Int) != (n : Int)) = true := by simp; omega
      clear hit hx
      go_wp2_with fail
      change bodyPost _ _ _ _ _ (put5 (w1.alloc (.cells #[.int .i64 x.k, .int .u64 x.n, .slice a' x.b.length c', .string ⟨x.s.toArray⟩, .slice A' x.l.length C'] 28)) w.heap.size (.int .i64 0) (.int .u64 0) (.slice none 0 0) (.string ⟨#[]⟩) (.slice none 0 0))
      obtain ⟨c0, c1, c2, c3, c4⟩ := put5_cells y0 y1 y2 y3 y4 (.int .i64 0) (.int .u64 0) (.slice none 0 0) (.string ⟨#[]⟩) (.slice none 0 0)
      have hP : DecodeP w bs (.returned (.tuple #[itemV 0 0 [], .int .i64 121])) (put5 (w1.alloc (.cells #[.int .i64 x.k, .int .u64 x.n, .slice a' x.b.length c', .string ⟨x.s.toArray⟩, .slice A' x.l.length C'] 28)) w.heap.size (.int .i64 0) (.int .u64 0) (.slice none 0 0) (.string ⟨#[]⟩) (.slice none 0 0)) := by
        refine ⟨HB2.out.trans (put5_below _ w.heap.size w.heap.size (Nat.le_refl _) _ _ _ _ _), ?_⟩
        rw [HD.out]
        rfl
      generalize put5 (w1.alloc (.cells #[.int .i64 x.k, .int .u64 x.n, .slice a' x.b.length c', .string ⟨x.s.toArray⟩, .slice A' x.l.length C'] 28)) w.heap.size (.int .i64 0) (.int .u64 0) (.slice none 0 0) (.string ⟨#[]⟩) (.slice none 0 0) = w9 at *
      exact bodyPost_ret (v := .tuple #[itemV 0 0 [], .int .i64 121]) (by simp [results, Tryd.results8, go_sem, itemV, c0, c1, c2, c3, c4]) rfl hP

    · have HD : Hid (decodeN bs = .ok x) := by simp only [Hid, decodeN, hit, ← HN.out, hlt, if_false]
      have hne : ((m : Int) != (n : Int)) = false := by simp; omega
      clear hit hx
      go_wp2_with fail
      change bodyPost _ _ _ _ _ (put5 (w1.alloc (.cells #[.int .i64 x.k, .int .u64 x.n, .slice a' x.b.length c', .string ⟨x.s.toArray⟩, .slice A' x.l.length C'] 28)) w.heap.size (.int .i64 x.k) (.int .u64 x.n) (.slice a' x.b.length c') (.string ⟨x.s.toArray⟩) (.slice A' x.l.length C'))
      obtain ⟨c0, c1, c2, c3, c4⟩ := put5_cells y0 y1 y2 y3 y4 (.int .i64 x.k) (.int .u64 x.n) (.slice a' x.b.length c') (.string ⟨x.s.toArray⟩) (.slice A' x.l.length C')
      have hP : DecodeP w bs (.returned (.tuple #[.agg #[.int .i64 x.k, .int .u64 x.n, .slice a' x.b.length c', .string ⟨x.s.toArray⟩, .slice A' x.l.length C'], .int .i64 0])) (put5 (w1.alloc (.cells #[.int .i64 x.k, .int .u64 x.n, .slice a' x.b.length c', .string ⟨x.s.toArray⟩, .slice A' x.l.length C'] 28)) w.heap.size (.int .i64 x.k) (.int .u64 x.n) (.slice a' x.b.length c') (.string ⟨x.s.toArray⟩) (.slice A' x.l.length C')) := by
        refine ⟨HB2.out.trans (put5_below _ w.heap.size w.heap.size (Nat.le_refl _) _ _ _ _ _), ?_⟩
        rw [HD.out]
        refine ⟨_, rfl, ?_⟩
        have hszA : (w.alloc (.cells #[.int .i64 0, .int .u64 0, .slice none 0 0, .string ⟨#[]⟩, .slice none 0 0] 28)).heap.size = w.heap.size + 1 := World.size_alloc _ _
        have hk : KeepB (newB (w.alloc (.cells #[.int .i64 0, .int .u64 0, .slice none 0 0, .string ⟨#[]⟩, .slice none 0 0] 28)) w1) w1 (put5 (w1.alloc (.cells #[.int .i64 x.k, .int .u64 x.n, .slice a' x.b.length c', .string ⟨x.s.toArray⟩, .slice A' x.l.length C'] 28)) w.heap.size (.int .i64 x.k) (.int .u64 x.n) (.slice a' x.b.length c') (.string ⟨x.s.toArray⟩) (.slice A' x.l.length C')) := fun b hbb => (put5_block _ w.heap.size _ _ _ _ _ b (by have := hbb.1; omega)).trans ((below_al (Below.refl w1.heap.size w1) _).block b hbb.2)
        exact (ItS.keep hk x HX.out).more fun b hbb => ⟨by have := hbb.1; omega, by rw [put5_size, World.size_alloc]; have := hbb.2; omega⟩
      generalize put5 (w1.alloc (.cells #[.int .i64 x.k, .int .u64 x.n, .slice a' x.b.length c', .string ⟨x.s.toArray⟩, .slice A' x.l.length C'] 28)) w.heap.size (.int .i64 x.k) (.int .u64 x.n) (.slice a' x.b.length c') (.string ⟨x.s.toArray⟩) (.slice A' x.l.length C') = w9 at *
      exact bodyPost_ret (v := .tuple #[.agg #[.int .i64 x.k, .int .u64 x.n, .slice a' x.b.length c', .string ⟨x.s.toArray⟩, .slice A' x.l.length C'], .int .i64 0]) (by simp [results, Tryd.results8, go_sem, itemV, c0, c1, c2, c3, c4]) rfl hP


def it0 : It := .mk 0 0 [] [] []

def dX (bs : List UInt8) : It := match decodeN bs with | .error _ => it0 | .ok x => x
def dE (bs : List UInt8) : Nat := match decodeN bs with | .error c => c | .ok _ => 0
def fX (bs : List UInt8) : It := match firstN bs with | .error _ => it0 | .ok (x, _) => x
def fM (bs : List UInt8) : Nat := match firstN bs with | .error _ => 0 | .ok (_, n) => n
def fE (bs : List UInt8) : Nat := match firstN bs with | .error c => c | .ok _ => 0

/-- What is answered, in one form. -/
def DecQ (w : World) (X : It) (E : Nat) (e : Ending) (w' : World) : Prop :=
  Below w.heap.size w w' ∧ ∃ a c A C, e = .returned (.tuple #[.agg #[.int .i64 X.k, .int .u64 X.n, .slice a X.b.length c, .string ⟨X.s.toArray⟩, .slice A X.l.length C], .int .i64 E]) ∧ ItS w' (newB w w') (.agg #[.int .i64 X.k, .int .u64 X.n, .slice a X.b.length c, .string ⟨X.s.toArray⟩, .slice A X.l.length C]) X

def FirQ (w : World) (X : It) (M E : Nat) (e : Ending) (w' : World) : Prop :=
  Below w.heap.size w w' ∧ ∃ a c A C, e = .returned (.tuple #[.agg #[.int .i64 X.k, .int .u64 X.n, .slice a X.b.length c, .string ⟨X.s.toArray⟩, .slice A X.l.length C], .int .i64 M, .int .i64 E]) ∧ ItS w' (newB w w') (.agg #[.int .i64 X.k, .int .u64 X.n, .slice a X.b.length c, .string ⟨X.s.toArray⟩, .slice A X.l.length C]) X

theorem decQ_of {w w' : World} {bs : List UInt8} {e : Ending} (h : DecodeP w bs e w') : DecQ w (dX bs) (dE bs) e w' := by
  obtain ⟨hb, hm⟩ := h
  refine ⟨hb, ?_⟩
  unfold dX dE
  cases hd : decodeN bs with
  | error c =>
    rw [hd] at hm
    exact ⟨none, 0, none, 0, hm, itS_plain w' _ 0 0 [] (by decide) ⟨by decide, by decide⟩ (Nat.zero_le _)⟩
  | ok x =>
    rw [hd] at hm
    obtain ⟨v, he, hx⟩ := hm
    obtain ⟨a, c, A, C, rfl⟩ := hx.form
    exact ⟨a, c, A, C, he, hx⟩

theorem firQ_of {w w' : World} {bs : List UInt8} {e : Ending} (h : FirstP w bs e w') : FirQ w (fX bs) (fM bs) (fE bs) e w' := by
  obtain ⟨hb, hm⟩ := h
  refine ⟨hb, ?_⟩
  unfold fX fM fE
  cases hd : firstN bs with
  | error c =>
    rw [hd] at hm
    exact ⟨none, 0, none, 0, hm, itS_plain w' _ 0 0 [] (by decide) ⟨by decide, by decide⟩ (Nat.zero_le _)⟩
  | ok p =>
    obtain ⟨x, n⟩ := p
    rw [hd] at hm
    obtain ⟨v, he, hx⟩ := hm
    obtain ⟨a, c, A, C, rfl⟩ := hx.form
    exact ⟨a, c, A, C, he, hx⟩

/-- Bytes of one's own, 77 behind them. -/
def MemB (w : World) (g n : Nat) : Prop :=
  (∀ j, j < n → ∃ x : Int, 0 ≤ x ∧ x < 256 ∧ w.cell? ⟨g, j, none⟩ = some (.int .u8 x)) ∧ w.cell? ⟨g, n, none⟩ = some (.int .u8 77) ∧ (∀ j, w.frozen? ⟨g, j, none⟩ = false) ∧ g < w.heap.size

theorem MemB.later {w w' : World} {g n : Nat} (h : MemB w g n) (hb : Below w.heap.size w w') : MemB w' g n :=
  ⟨fun j hj => by
    obtain ⟨x, h0, h1, hc⟩ := h.1 j hj
    exact ⟨x, h0, h1, (hb.cell (p := ⟨g, j, none⟩) h.2.2.2).trans hc⟩, (hb.cell (p := ⟨g, n, none⟩) h.2.2.2).trans h.2.1, fun j => (hb.frozen (p := ⟨g, j, none⟩) h.2.2.2).trans (h.2.2.1 j), Nat.lt_of_lt_of_le h.2.2.2 hb.size⟩

theorem MemB.set {w : World} {g n k : Nat} {x : Int} (h : MemB w g n) (hk : k < n) (h0 : 0 ≤ x) (h1 : x < 256) : MemB (w.setCell ⟨g, k, none⟩ (.int .u8 x)) g n := by
  refine ⟨fun j hj => ?_, ?_, fun j => by rw [World.frozen?_setCell]; exact h.2.2.1 j, by rw [World.size_setCell]; exact h.2.2.2⟩
  · by_cases e : j = k
    · subst e
      obtain ⟨y, _, _, hc⟩ := h.1 j hj
      exact ⟨x, h0, h1, World.cell?_setCell_same _ _ _ hc⟩
    · rw [World.cell?_setCell_other _ _ _ _ (by intro q; injection q with _ q; omega)]
      exact h.1 j hj
  · rw [World.cell?_setCell_other _ _ _ _ (by intro q; injection q with _ q; omega)]
    exact h.2.1

theorem memB_of {w : World} {base : Nat} {v : Value} {bs : List UInt8} (h : OwnV w base 5 v (([] ++ bs.map encB) ++ [.int .u8 77])) :
    ∃ g cap, v = .slice (some ⟨g, 0, none⟩) (bs.length + 1) cap ∧ base ≤ g ∧ bs.length + 1 ≤ cap ∧ MemB w g bs.length ∧ RdB w w.heap.size (some ⟨g, 0, none⟩) bs := by
  have e : ([] ++ bs.map encB) ++ [Value.int .u8 77] = (bs ++ [77]).map encB := by simp [encB]
  have h' := h
  rw [e] at h'
  obtain ⟨a, c, hv, hc, hr, ha⟩ := h'.bytes
  rcases h.form with ⟨_, h0⟩ | ⟨g, cap, rfl, hb, hlt, hn, hm, hcell, hfr⟩
  · simp at h0
  · injection hv with h1 h2 h3
    subst h1 h3
    have hr' := hr.take bs.length
    rw [List.take_left' rfl] at hr'
    refine ⟨g, cap, by simp, hb, by simpa using hn, ⟨fun j hj => ?_, ?_, hfr, hlt⟩, hr'⟩
    · refine ⟨byteAt bs j, byteAt_lo bs j, by unfold byteAt; have := (bs[j]?.getD 0).toNat_lt; omega, ?_⟩
      have hcc := hcell j (by simp; omega)
      rw [hcc, e, List.map_append, List.getElem?_append_left (by simpa using hj)]
      exact encB_at bs j hj
    · have hcc := hcell bs.length (by simp)
      rw [hcc, List.nil_append, List.getElem?_append_right (by simp)]
      simp

theorem Box5.but {G b : Nat} {W W' : World} {v0 v1 v2 v3 v4 : Value} (h : Box5 W b v0 v1 v2 v3 v4) (hb : But G W W') (hlt : b < W.heap.size) (hne : b ≠ G) : Box5 W' b v0 v1 v2 v3 v4 :=
  ⟨(hb.cell hlt hne).trans h.1, (hb.cell hlt hne).trans h.2.1, (hb.cell hlt hne).trans h.2.2.1, (hb.cell hlt hne).trans h.2.2.2.1, (hb.cell hlt hne).trans h.2.2.2.2⟩

theorem itS_on {w2 w3 W : World} {v : Value} {X : It} (h : ItS w3 (newB w2 w3) v X) (hb : Below w3.heap.size w3 W) : ItV W W.heap.size v X :=
  ItV.on (h.itV (fun b hb => hb.2) X) hb

theorem itS_but {g : Nat} {w2 w3 W wr : World} {v : Value} {X : It} (h : ItS w3 (newB w2 w3) v X) (hb : Below w3.heap.size w3 W) (hg : g < w2.heap.size) (hbut : But g W wr) : ItV wr wr.heap.size v X := by
  have hk : KeepB (newB w2 w3) w3 wr := fun b hbb => (hbut.block b (Nat.lt_of_lt_of_le hbb.2 hb.size) (by have := hbb.1; omega)).trans (hb.block b hbb.2)
  exact (ItS.keep hk X h).itV (fun b hbb => Nat.lt_of_lt_of_le hbb.2 (Nat.le_trans hb.size hbut.size)) X

set_option maxRecDepth 100000 in
set_option maxHeartbeats 8000000 in
theorem cbytes_mid (a : Option Addr) (c : Nat) (bs : List UInt8) (w : World) (hlen : bs.length ≤ 3000) (hc : bs.length ≤ c) (hr : RdB w w.heap.size a bs) (ht : TabW w) :
    Calls Tryd.prog 3 #[.slice a bs.length c] w fun e w' => e = .returned (.bool true) ∧ Below w.heap.size w w' := by
  have HR := Lib.hid hr
  have HT := Lib.hid ht
  have hs := (hr.src).alloc (.cells #[] 5)
  have ho := OwnV.lit w w.heap.size 5 #[] (Nat.le_refl _) (by decide)
  have h1 := Lib.hid (encB_one bs)
  have hL1 : Hid (([] : List Value).length + (bs.map encB).length ≤ maxLen) := by simp [Hid, maxLen]; omega
  have hL2 : Hid ((([] : List Value).length + (bs.map encB).length) * 1 ≤ 140737488355328) := by simp [Hid]; omega
  have hM1 : Hid (([] ++ bs.map encB : List Value).length + ([.int .u8 77] : List Value).length ≤ maxLen) := by simp [Hid, maxLen]; omega
  have hM2 : Hid ((([] ++ bs.map encB : List Value).length + ([.int .u8 77] : List Value).length) * 1 ≤ 140737488355328) := by simp [Hid]; omega
  clear hr ht
  go_enter Tryd.func3, Tryd.ntmps3
  go_wp2_with (first | (at_builtin; refine wpList_app _ rfl (.tmp 21) (.tmp 22) 22 rfl w.heap.size 5 (.int .u8 0) 1 Tryd.underlying22 info_u8 rfl _ _ rfl ho _ _ _ _ rfl (List.length_map _) hs h1.out hL1.out hL2.out (by simp) ?_; intro v1 w1 hp; have b1 := ((Below.refl w.heap.size w).alloc (Nat.le_refl _) (.cells #[] 5)).trans (hp.below ho (by simp)); have hsz := b1.size) | (at_builtin; refine wpList_app _ rfl (.tmp 23) (.tmp 24) 22 rfl w.heap.size 5 (.int .u8 0) 1 Tryd.underlying22 info_u8 rfl _ _ rfl (hp.1.alloc _) _ _ _ [.int .u8 77] rfl rfl (src_one _ _ _) (by simp [Value.oneCell']) hM1.out hM2.out (by simp; omega) ?_; intro v2 w2 hp2; have b2 := (b1.alloc hsz _).trans (hp2.below (hp.1.alloc _) (by simp; omega)); obtain ⟨g, cap, rfl, hg, hn, hmem, hrd⟩ := memB_of hp2.1; have hsl := fun w : World => run_cut1h (P := Tryd.prog) 22 5 Tryd.underlying22 size_u8 (some ⟨g, 0, none⟩) (bs.length + 1) cap bs.length (by omega) w))
  have HM := Lib.hid hmem
  have HRD := Lib.hid hrd
  have HB2 := Lib.hid b2
  clear hmem hrd hp2 hp hs ho h1 hL1 hL2 hM1 hM2 hsl b1 b2 hsz
  obtain ⟨X, hX⟩ : ∃ X, X = dX bs := ⟨_, rfl⟩
  obtain ⟨Y, hY⟩ : ∃ Y, Y = fX bs := ⟨_, rfl⟩
  obtain ⟨E, hE⟩ : ∃ E, E = dE bs := ⟨_, rfl⟩
  obtain ⟨F, hF⟩ : ∃ F, F = fE bs := ⟨_, rfl⟩
  obtain ⟨M, hMM⟩ : ∃ M, M = fM bs := ⟨_, rfl⟩
  have DQ : Hid (∀ {w w' : World} {e : Ending}, DecodeP w bs e w' → DecQ w X E e w') := by rw [hX, hE]; exact decQ_of
  have FQ : Hid (∀ {w w' : World} {e : Ending}, FirstP w bs e w' → FirQ w Y M F e w') := by rw [hY, hF, hMM]; exact firQ_of
  have HXd := Lib.hid hX
  have HEd := Lib.hid hE
  clear hX hY hE hF hMM
  refine (decode_any (some ⟨g, 0, none⟩) bs.length cap bs rfl w2 HRD.out (by omega) (by omega) (HT.out.on HB2.out)).mono ?_
  intro e w3 hq
  obtain ⟨hb3, xa, xc, xA, xC, rfl, hx⟩ := DQ.out hq
  have B3 := Lib.hid hb3
  have IX := Lib.hid hx
  obtain ⟨W3, hW3⟩ : ∃ W, W = w3.alloc (.cells #[.int .i64 X.k, .int .u64 X.n, .slice xa X.b.length xc, .string ⟨X.s.toArray⟩, .slice xA X.l.length xC] 28) := ⟨_, rfl⟩
  have HW3 := Lib.hid hW3
  have HXx : Hid (∀ w', Below W3.heap.size W3 w' → Box5 w' w3.heap.size (.int .i64 X.k) (.int .u64 X.n) (.slice xa X.b.length xc) (.string ⟨X.s.toArray⟩) (.slice xA X.l.length xC)) := by
    intro w' h
    rw [hW3] at h
    exact box1_later w3 _ _ _ _ _ _ w' h
  have K3 : Hid (Below w3.heap.size w3 W3) := by rw [hW3]; exact below_al (Below.refl _ _) _
  have A3 : Hid (Below w2.heap.size w2 W3) := below_on B3.out K3.out
  clear hq hb3 hx hW3
  go_wp2_with fail
  rw [← HW3.out]
  refine (firstAll (some ⟨g, 0, none⟩) bs.length cap bs rfl W3 ((HRD.out.below A3.out).mono A3.out.size) (by omega) (by omega) (HT.out.on (below_on HB2.out A3.out))).mono ?_
  intro e w4 hq
  obtain ⟨hb4, ya, yc, yA, yC, rfl, hy⟩ := FQ.out hq
  have B4 := Lib.hid hb4
  have IY := Lib.hid hy
  obtain ⟨W4, hW4⟩ : ∃ W, W = w4.alloc (.cells #[.int .i64 Y.k, .int .u64 Y.n, .slice ya Y.b.length yc, .string ⟨Y.s.toArray⟩, .slice yA Y.l.length yC] 28) := ⟨_, rfl⟩
  have HW4 := Lib.hid hW4
  have HXy : Hid (∀ w', Below W4.heap.size W4 w' → Box5 w' w4.heap.size (.int .i64 Y.k) (.int .u64 Y.n) (.slice ya Y.b.length yc) (.string ⟨Y.s.toArray⟩) (.slice yA Y.l.length yC)) := by
    intro w' h
    rw [hW4] at h
    exact box1_later w4 _ _ _ _ _ _ w' h
  have K4 : Hid (Below w4.heap.size w4 W4) := by rw [hW4]; exact below_al (Below.refl _ _) _
  have A4 : Hid (Below W3.heap.size W3 W4) := below_on B4.out K4.out
  clear hq hb4 hy hW4
  go_wp2_with fail
  rw [← HW4.out]
  have C4 : Hid (Below w.heap.size w W4) := below_on (below_on HB2.out A3.out) A4.out
  refine (rDecode_any a bs.length c bs W4 rfl hc hlen ((HR.out.below C4.out).mono C4.out.size)).mono ?_
  intro e w5 hq
  obtain ⟨hb5, za, zc, zA, zC, rfl, hz⟩ := DQ.out hq
  have B5 := Lib.hid hb5
  have IZ := Lib.hid hz
  obtain ⟨W5, hW5⟩ : ∃ W, W = w5.alloc (.cells #[.int .i64 X.k, .int .u64 X.n, .slice za X.b.length zc, .string ⟨X.s.toArray⟩, .slice zA X.l.length zC] 28) := ⟨_, rfl⟩
  have HW5 := Lib.hid hW5
  have HXz : Hid (∀ w', Below W5.heap.size W5 w' → Box5 w' w5.heap.size (.int .i64 X.k) (.int .u64 X.n) (.slice za X.b.length zc) (.string ⟨X.s.toArray⟩) (.slice zA X.l.length zC)) := by
    intro w' h
    rw [hW5] at h
    exact box1_later w5 _ _ _ _ _ _ w' h
  have K5 : Hid (Below w5.heap.size w5 W5) := by rw [hW5]; exact below_al (Below.refl _ _) _
  have A5 : Hid (Below W4.heap.size W4 W5) := below_on B5.out K5.out
  clear hq hb5 hz hW5
  go_wp2_with fail
  rw [← HW5.out]
  have C5 : Hid (Below w.heap.size w W5) := below_on C4.out A5.out
  refine (rFirst_any a bs.length c bs W5 rfl hc hlen ((HR.out.below C5.out).mono C5.out.size)).mono ?_
  intro e w6 hq
  obtain ⟨hb6, ua, uc, uA, uC, rfl, hu⟩ := FQ.out hq
  have B6 := Lib.hid hb6
  have IU := Lib.hid hu
  obtain ⟨W6, hW6⟩ : ∃ W, W = w6.alloc (.cells #[.int .i64 Y.k, .int .u64 Y.n, .slice ua Y.b.length uc, .string ⟨Y.s.toArray⟩, .slice uA Y.l.length uC] 28) := ⟨_, rfl⟩
  have HW6 := Lib.hid hW6
  have HXu : Hid (∀ w', Below W6.heap.size W6 w' → Box5 w' w6.heap.size (.int .i64 Y.k) (.int .u64 Y.n) (.slice ua Y.b.length uc) (.string ⟨Y.s.toArray⟩) (.slice uA Y.l.length uC)) := by
    intro w' h
    rw [hW6] at h
    exact box1_later w6 _ _ _ _ _ _ w' h
  have K6 : Hid (Below w6.heap.size w6 W6) := by rw [hW6]; exact below_al (Below.refl _ _) _
  have A6 : Hid (Below W5.heap.size W5 W6) := below_on B6.out K6.out
  have C6 : Hid (Below w.heap.size w W6) := below_on C5.out A6.out
  have D46 : Hid (Below W4.heap.size W4 W6) := below_on A5.out A6.out
  have D36 : Hid (Below W3.heap.size W3 W6) := below_on A4.out D46.out
  clear hq hb6 hu hW6
  obtain ⟨p0, p1, p2, p3, p4⟩ := HXx.out W6 D36.out
  obtain ⟨q0, q1, q2, q3, q4⟩ := HXy.out W6 D46.out
  obtain ⟨r0, r1, r2, r3, r4⟩ := HXz.out W6 A6.out
  obtain ⟨s0, s1, s2, s3, s4⟩ := HXu.out W6 (Below.refl _ _)
  go_wp2_with fail
  rw [← HW6.out]
  go_wp2_with (go_at_call 10; refine (cnum_any _ _).mono ?_; rintro e w' ⟨rfl, hw⟩; rw [hw]; clear hw)
  refine (refSame_any X X _ _ W6 (itS_on IX.out (below_on K3.out D36.out)) (itS_on IZ.out (below_on K5.out A6.out))).mono ?_
  rintro e w7 ⟨rfl, hb7⟩
  rw [same_self]
  have B7 := Lib.hid hb7
  clear p0 p1 p2 p3 p4 q0 q1 q2 q3 q4 r0 r1 r2 r3 r4 s0 s1 s2 s3 s4 hb7
  obtain ⟨q0, q1, q2, q3, q4⟩ := HXy.out w7 (below_on D46.out B7.out)
  obtain ⟨s0, s1, s2, s3, s4⟩ := HXu.out w7 B7.out
  go_wp2_with fail
  refine (refSame_any Y Y _ _ w7 (itS_on IY.out (below_on (below_on K4.out D46.out) B7.out)) (itS_on IU.out (below_on K6.out B7.out))).mono ?_
  rintro e w8 ⟨rfl, hb8⟩
  rw [same_self]
  have B8 : Hid (Below W6.heap.size W6 w8) := below_on B7.out hb8
  clear q0 q1 q2 q3 q4 s0 s1 s2 s3 s4 hb8
  have HM8 : Hid (MemB w8 g bs.length) := HM.out.later (below_on (below_on A3.out A4.out) (below_on D46.out B8.out))
  have C8 : Hid (Below w.heap.size w w8) := below_on C6.out B8.out
  have hgw2 : g < w2.heap.size := HM.out.2.2.2
  go_wp2_with fail
  go_loopw [14] (fun i wr => ∃ k : Nat, k ≤ bs.length ∧ i = .int .i64 k ∧ Hid (But g w8 wr ∧ MemB wr g bs.length)) (fun i _ => bs.length - (intOf i).toNat)
  case atStart =>
    exact ⟨0, Nat.zero_le _, rfl, But.refl _ _, HM8.out⟩
  case round =>
    obtain ⟨k, hk, rfl, HJ⟩ := hrel
    by_cases hlt : k < bs.length
    · obtain ⟨x, hx0, hx1, hcx⟩ := HJ.out.2.1 k hlt
      have hfr := HJ.out.2.2.2.1
      go_wp2_with fail
      go_roundw
      case rel => exact ⟨k + 1, by omega, by go_num, HJ.out.1.trans (But.set _ _), HJ.out.2.set hlt (by omega) (by omega)⟩
      case measure => simp [intOf]; omega
    · obtain rfl : k = bs.length := by omega
      have HBu : Hid (But g w8 wr) := HJ.out.1
      have HMr : Hid (MemB wr g bs.length) := HJ.out.2
      have hs3 : W3.heap.size = w3.heap.size + 1 := by rw [HW3.out]; exact World.size_alloc _ _
      have hs5 : W5.heap.size = w5.heap.size + 1 := by rw [HW5.out]; exact World.size_alloc _ _
      have D38 : Hid (Below W3.heap.size W3 w8) := below_on D36.out B8.out
      have D58 : Hid (Below W5.heap.size W5 w8) := below_on A6.out B8.out
      have l3 : w3.heap.size < w8.heap.size := by have := D38.out.size; omega
      have l5 : w5.heap.size < w8.heap.size := by have := D58.out.size; omega
      have n3 : w3.heap.size ≠ g := by have := B3.out.size; omega
      have l4 : w2.heap.size ≤ W4.heap.size := by have := A3.out.size; have := A4.out.size; omega
      have n5 : w5.heap.size ≠ g := by have := B5.out.size; omega
      have HPr := Lib.hid ((HXx.out w8 D38.out).but HBu.out l3 n3)
      have HRr := Lib.hid ((HXz.out w8 D58.out).but HBu.out l5 n5)
      have IXr := Lib.hid (itS_but IX.out (below_on K3.out D38.out) hgw2 HBu.out)
      have IZr := Lib.hid (itS_but IZ.out (below_on K5.out D58.out) (by omega) HBu.out)
      have Cr : Hid (Below w.heap.size w wr) := C8.out.trans (HBu.out.below hg (by have := C8.out.size; omega))
      have hcap : bs.length < cap := by omega
      clear hs3 hs5 l3 l5 n3 l4 n5 HJ
      obtain ⟨p0, p1, p2, p3, p4⟩ := HPr.out
      obtain ⟨r0, r1, r2, r3, r4⟩ := HRr.out
      go_wp2_with fail
      refine (refSame_any X X _ _ wr IXr.out IZr.out).mono ?_
      rintro e w9 ⟨rfl, hb9⟩
      rw [same_self]
      have B9 := Lib.hid hb9
      have C9 : Hid (Below w.heap.size w w9) := below_on Cr.out B9.out
      have hcx := (HMr.out.later B9.out).2.1
      have hsl := fun w : World => run_cut1h (P := Tryd.prog) 22 5 Tryd.underlying22 size_u8 (some ⟨g, 0, none⟩) bs.length cap (bs.length + 1) (by omega) w
      have ec : ((bs.length + 1 : Nat) : Int) = (bs.length : Int) + 1 := by omega
      rw [ec] at hsl
      clear p0 p1 p2 p3 p4 r0 r1 r2 r3 r4 hb9 ec
      cases hd : decodeN bs with
      | error q =>
        have hE : E = q := by rw [HEd.out, dE, hd]
        have hq0 : q ≠ 0 := by
          unfold decodeN at hd
          split at hd
          · rename_i c' hf
            have := firstN_err hf
            injection hd with hd
            omega
          · split at hd
            · injection hd with hd
              omega
            · cases hd
        have e1 : ((E : Int) != 0) = true := by simp; omega
        have e2 : ((E : Int) == 0) = false := by simp; omega
        clear hE hq0 hd
        go_wp2_with fail
        refine (cworks_any _ (HT.out.on C9.out)).mono ?_
        rintro e w10 ⟨rfl, hb10⟩
        go_wp2_with fail
        go_ret
        exact ⟨rfl, below_on C9.out hb10⟩
      | ok x =>
        have hE : E = 0 := by rw [HEd.out, dE, hd]
        have hXx : X = x := by rw [HXd.out, dX, hd]
        obtain ⟨m, hfm, hml⟩ : ∃ m, firstN bs = .ok (x, m) ∧ ¬ m < bs.length := by
          unfold decodeN at hd
          split at hd
          · cases hd
          · rename_i y m hf
            split at hd
            · cases hd
            · rename_i hm
              injection hd with hd
              subst hd
              exact ⟨m, hf, hm⟩
        obtain ⟨he0, hm2, hby, _⟩ := firstN_back hfm
        rw [← hXx] at he0 hby
        rw [List.take_of_length_le (by omega)] at hby
        have hdep : X.depth ≤ 60000 := by
          have h := he0
          unfold It.err at h
          split at h
          · split at h
            · omega
            · omega
          · omega
        have HE0 := Lib.hid he0
        have HBy := Lib.hid hby
        subst hE
        clear hd hXx hfm hml hm2 he0 hby
        obtain ⟨p0, p1, p2, p3, p4⟩ := HPr.out.later B9.out (by have := HBu.out.size; have := D38.out.size; have : W3.heap.size = w3.heap.size + 1 := by rw [HW3.out]; exact World.size_alloc _ _
                                                                omega)
        go_wp2_with fail
        refine (encode_any X _ w9 (IXr.out.on B9.out) (HT.out.on C9.out) hdep).mono ?_
        rintro e w10 ⟨hb10, hor⟩
        obtain ⟨ux, hux, hox⟩ : ∃ u, e = .returned (.tuple #[u, .int .i64 0]) ∧ OwnV w10 w9.heap.size 5 u (bs.map encB) := by
          rcases hor with ⟨h0, _⟩ | ⟨_, h⟩
          · exact absurd HE0.out h0
          · rw [← HBy.out]
            exact h
        subst hux
        obtain ⟨A9, Q9, rfl, hC9, hr9, _⟩ := hox.bytes
        have C10 : Hid (Below w.heap.size w w10) := below_on C9.out hb10
        have k1 := hr9.text (P := Tryd.prog) 22 9 5 _ Q9 rfl Tryd.underlying22 Tryd.underlying5 Tryd.underlying9
        have k2 := (HR.out.below C10.out).text (P := Tryd.prog) 22 9 5 _ c rfl Tryd.underlying22 Tryd.underlying5 Tryd.underlying9
        clear hor hox hr9 hb10 p0 p1 p2 p3 p4
        go_wp2_with (go_at_call 10; refine (cnum_any _ _).mono ?_; rintro e w' ⟨rfl, hw⟩; rw [hw]; clear hw)
        refine (cworks_any _ (HT.out.on C10.out)).mono ?_
        rintro e w11 ⟨rfl, hb11⟩
        go_wp2_with fail
        go_ret
        exact ⟨rfl, below_on C10.out hb11⟩

theorem walk_cbytes (a : Option Addr) (c : Nat) (bs : List UInt8) (w : World) (hlen : bs.length ≤ 140737488351232) (hc : bs.length ≤ c) (hr : RdB w w.heap.size a bs) (ht : TabW w) :
    Calls Tryd.prog 3 #[.slice a bs.length c] w fun e w' => e = .returned (.bool true) ∧ Below w.heap.size w w' := by
  by_cases h : bs.length ≤ 3000
  · exact cbytes_mid a c bs w h hc hr ht
  · have h' : (3000 : Int) < bs.length := by omega
    have HT := Lib.hid ht
    clear hr ht h
    go_enter Tryd.func3, Tryd.ntmps3
    go_wp2_with fail
    refine (cworks_any _ HT.out).mono ?_
    rintro e w1 ⟨rfl, hb⟩
    go_wp2_with fail
    go_ret
    exact ⟨rfl, hb⟩

end Go.Proofs.YtncemmhbbkpieaaDoor
