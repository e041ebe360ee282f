/- Package cbor's Decode. -/
import Derived.Test.YtncemmhbbkpieaaDoorCbP
namespace Go.Proofs.YtncemmhbbkpieaaDoor
open Go.RowKit Go.Shelf
set_option linter.unusedSimpArgs false

theorem listN_err {g : List UInt8 → Except Nat (It × List UInt8)} (hg : ∀ r c, g r = .error c → c = 120 ∨ c = 121) : ∀ (n : Nat) (r : List UInt8) (c : Nat), listN g n r = .error c → c = 120 ∨ c = 121
  | 0, r, c, h => by simp [listN] at h
  | n + 1, r, c, h => by
    simp only [listN] at h
    cases h1 : g r with
    | error e =>
      simp only [h1] at h
      injection h with h
      subst h
      exact hg r _ h1
    | ok p =>
      obtain ⟨x, r1⟩ := p
      simp only [h1] at h
      cases h2 : listN g n r1 with
      | error e =>
        simp only [h2] at h
        injection h with h
        subst h
        exact listN_err hg n r1 _ h2
      | ok q => simp [h2] at h

theorem textN_err {n : Int} {r : List UInt8} {c : Nat} (h : textN n r = .error c) : c = 121 := by
  unfold textN at h
  split at h
  · split at h
    · cases h
    · injection h with h
      exact h.symm
  · injection h with h
    exact h.symm

theorem bareN_err {n : Int} {r : List UInt8} {c : Nat} (h : bareN n r = .error c) : c = 121 := by
  unfold bareN at h
  split at h
  · cases h
  · split at h
    · cases h
    · injection h with h
      exact h.symm

theorem itemN_err : ∀ (k : Nat) (r : List UInt8) (c : Nat), itemN k r = .error c → c = 120 ∨ c = 121
  | 0, r, c, h => by
    simp only [itemN] at h
    injection h with h
    exact .inl h.symm
  | k + 1, bs, c, h => by
    cases hh : headN bs with
    | none =>
      rw [itemN_none hh] at h
      injection h with h
      exact .inr h.symm
    | some p =>
      obtain ⟨m, n, r⟩ := p
      by_cases m0 : m = 0
      · subst m0
        rw [itemN_uint hh] at h
        cases h
      by_cases m2 : m = 2
      · subst m2
        by_cases hl : n.toNat ≤ r.length
        · rw [itemN_bytes hh hl] at h
          cases h
        · rw [itemN_bytesE hh hl] at h
          injection h with h
          exact .inr h.symm
      by_cases m3 : m = 3
      · subst m3
        rw [itemN_text hh] at h
        exact .inr (textN_err h)
      by_cases m4 : m = 4
      · subst m4
        cases hL : listN (itemN k) n.toNat r with
        | error e =>
          rw [itemN_listE hh hL] at h
          injection h with h
          subst h
          exact listN_err (itemN_err k) _ _ _ hL
        | ok q =>
          obtain ⟨l, r'⟩ := q
          rw [itemN_list hh hL] at h
          cases h
      by_cases m7 : m = 7
      · subst m7
        rw [itemN_bare hh] at h
        exact .inr (bareN_err h)
      rw [itemN_else hh m0 m2 m3 m4 m7] at h
      injection h with h
      exact .inr h.symm

theorem firstN_err {bs : List UInt8} {c : Nat} (h : firstN bs = .error c) : c = 3 ∨ c = 120 ∨ c = 121 := by
  unfold firstN at h
  split at h
  · injection h with h
    exact .inl h.symm
  · split at h
    · rename_i q hq
      injection h with h
      subst h
      exact .inr (itemN_err 8 _ _ hq)
    · cases h

theorem firstN_len {bs : List UInt8} {x : It} {n : Nat} (h : firstN bs = .ok (x, n)) : bs.length ≤ 65536 ∧ n ≤ bs.length ∧ 1 ≤ n := by
  unfold firstN at h
  split at h
  · cases h
  · split at h
    · cases h
    · rename_i y r hq
      injection h with h
      injection h with _ h
      have := itemN_less 8 _ _ _ hq
      omega

/-- First, of bytes however many. -/
theorem firstAll (a : Option Addr) (n c : Nat) (bs : List UInt8) (hn : n = bs.length) (w : World) (hr : RdB w w.heap.size a bs) (hc : n ≤ c) (hc47 : bs.length ≤ 140737488355328) (ht : TabW w) :
    Calls Tryd.prog 7 #[.slice a n c] w (FirstP w bs) := by
  by_cases h : 65536 < bs.length
  · exact first_long a n c bs hn w h (by omega)
  · exact cfirst_any a n c bs hn w hr hc hc47 ht (by omega)

/-- The item of bytes, or why they are none's. -/
def decodeN (bs : List UInt8) : Except Nat It :=
  match firstN bs with
  | .error c => .error c
  | .ok (x, n) => if n < bs.length then .error 121 else .ok x

def DecodeP (w : World) (bs : List UInt8) (e : Ending) (w' : World) : Prop :=
  Below w.heap.size w w' ∧ match decodeN bs with
    | .error c => e = .returned (.tuple #[itemV 0 0 [], .int .i64 c])
    | .ok x => ∃ v, e = .returned (.tuple #[v, .int .i64 0]) ∧ ItS w' (newB w w') v x

set_option maxRecDepth 100000 in
set_option maxHeartbeats 4000000 in
theorem decode_any (a : Option Addr) (n c : Nat) (bs : List UInt8) (hn : n = bs.length) (w : World) (hr : RdB w w.heap.size a bs) (hc : n ≤ c) (hc47 : bs.length ≤ 140737488355328) (ht : TabW w) :
    Calls Tryd.prog 6 #[.slice a n c] w (DecodeP w bs) := by
  have HN := Lib.hid hn
  have HR := Lib.hid hr
  have HT := Lib.hid ht
  have hB0 := below_al (Below.refl w.heap.size w) (.cells #[.int .i64 0, .int .u64 0, .slice none 0 0, .string ⟨#[]⟩, .slice none 0 0] 28)
  clear hn hr ht
  go_enter Tryd.func6, Tryd.ntmps6
  go_wp2_with fail
  refine (firstAll a n c bs HN.out _ ((HR.out.below hB0).mono hB0.size) hc hc47 (HT.out.on hB0)).mono ?_
  rintro e w1 ⟨hb1, hm⟩
  have hcell : ∀ i, w1.cell? ⟨w.heap.size, i, none⟩ = (w.alloc (.cells #[.int .i64 0, .int .u64 0, .slice none 0 0, .string ⟨#[]⟩, .slice none 0 0] 28)).cell? ⟨w.heap.size, i, none⟩ := fun i => hb1.cell (p := ⟨w.heap.size, i, none⟩) (by simp)
  have z0 := (hcell 0).trans (show _ = some (.int .i64 0) by simp)
  have z1 := (hcell 1).trans (show _ = some (.int .u64 0) by simp)
  have z2 := (hcell 2).trans (show _ = some (.slice none 0 0) by simp)
  have z3 := (hcell 3).trans (show _ = some (.string ⟨#[]⟩) by simp)
  have z4 := (hcell 4).trans (show _ = some (.slice none 0 0) by simp)
  have zf : ∀ i, w1.frozen? ⟨w.heap.size, i, none⟩ = false := fun i => (hb1.frozen (p := ⟨w.heap.size, i, none⟩) (by simp)).trans (by simp)
  have hsz1 : w.heap.size + 1 ≤ w1.heap.size := by
    have := hb1.size
    simpa using this
  have HB1 : Hid (Below w.heap.size w w1) := hB0.trans (hb1.mono (by simp))
  clear hb1 hcell
  cases hit : firstN bs with
  | error q =>
    rw [hit] at hm
    have hm : e = .returned (.tuple #[itemV 0 0 [], .int .i64 0, .int .i64 q]) := hm
    subst hm
    have hq := firstN_err hit
    have hq0 : ((q : Int) == 0) = false := by simp; omega
    have HD : Hid (decodeN bs = .error q) := by simp only [Hid, decodeN, hit]
    clear hit hm
    unfold itemV
    have y0 := (World.cell?_alloc_lt w1 (.cells #[.int .i64 0, .int .u64 0, .slice none 0 0, .string ⟨#[]⟩, .slice none 0 0] 28) (a := ⟨w.heap.size, 0, none⟩) hsz1).trans z0
    have y1 := (World.cell?_alloc_lt w1 (.cells #[.int .i64 0, .int .u64 0, .slice none 0 0, .string ⟨#[]⟩, .slice none 0 0] 28) (a := ⟨w.heap.size, 1, none⟩) hsz1).trans z1
    have y2 := (World.cell?_alloc_lt w1 (.cells #[.int .i64 0, .int .u64 0, .slice none 0 0, .string ⟨#[]⟩, .slice none 0 0] 28) (a := ⟨w.heap.size, 2, none⟩) hsz1).trans z2
    have y3 := (World.cell?_alloc_lt w1 (.cells #[.int .i64 0, .int .u64 0, .slice none 0 0, .string ⟨#[]⟩, .slice none 0 0] 28) (a := ⟨w.heap.size, 3, none⟩) hsz1).trans z3
    have y4 := (World.cell?_alloc_lt w1 (.cells #[.int .i64 0, .int .u64 0, .slice none 0 0, .string ⟨#[]⟩, .slice none 0 0] 28) (a := ⟨w.heap.size, 4, none⟩) hsz1).trans z4
    have yf : ∀ i, (w1.alloc (.cells #[.int .i64 0, .int .u64 0, .slice none 0 0, .string ⟨#[]⟩, .slice none 0 0] 28)).frozen? ⟨w.heap.size, i, none⟩ = false := fun i => (World.frozen?_alloc_past (.cells #[.int .i64 0, .int .u64 0, .slice none 0 0, .string ⟨#[]⟩, .slice none 0 0] 28) w.heap.size i hsz1).trans (zf i)
    have HB2 : Hid (Below w.heap.size w (w1.alloc (.cells #[.int .i64 0, .int .u64 0, .slice none 0 0, .string ⟨#[]⟩, .slice none 0 0] 28))) := below_al HB1.out _
    go_wp2_with fail
    change bodyPost _ _ _ _ _ (put5 (w1.alloc (.cells #[.int .i64 0, .int .u64 0, .slice none 0 0, .string ⟨#[]⟩, .slice none 0 0] 28)) w.heap.size (.int .i64 0) (.int .u64 0) (.slice none 0 0) (.string ⟨#[]⟩) (.slice none 0 0))
    obtain ⟨c0, c1, c2, c3, c4⟩ := put5_cells y0 y1 y2 y3 y4 (.int .i64 0) (.int .u64 0) (.slice none 0 0) (.string ⟨#[]⟩) (.slice none 0 0)
    have hbl := put5_below (w1.alloc (.cells #[.int .i64 0, .int .u64 0, .slice none 0 0, .string ⟨#[]⟩, .slice none 0 0] 28)) w.heap.size w.heap.size (Nat.le_refl _) (.int .i64 0) (.int .u64 0) (.slice none 0 0) (.string ⟨#[]⟩) (.slice none 0 0)
    have hbk := put5_block (w1.alloc (.cells #[.int .i64 0, .int .u64 0, .slice none 0 0, .string ⟨#[]⟩, .slice none 0 0] 28)) w.heap.size (.int .i64 0) (.int .u64 0) (.slice none 0 0) (.string ⟨#[]⟩) (.slice none 0 0)
    have hpz := put5_size (w1.alloc (.cells #[.int .i64 0, .int .u64 0, .slice none 0 0, .string ⟨#[]⟩, .slice none 0 0] 28)) w.heap.size (.int .i64 0) (.int .u64 0) (.slice none 0 0) (.string ⟨#[]⟩) (.slice none 0 0)
    generalize put5 (w1.alloc (.cells #[.int .i64 0, .int .u64 0, .slice none 0 0, .string ⟨#[]⟩, .slice none 0 0] 28)) w.heap.size (.int .i64 0) (.int .u64 0) (.slice none 0 0) (.string ⟨#[]⟩) (.slice none 0 0) = w9 at *
    refine bodyPost_ret (v := .tuple #[itemV 0 0 [], .int .i64 q]) (by simp [results, Tryd.results6, go_sem, itemV, c0, c1, c2, c3, c4]) rfl ⟨HB2.out.trans hbl, ?_⟩
    rw [HD.out]
  | ok p =>
    obtain ⟨x, m⟩ := p
    rw [hit] at hm
    obtain ⟨v, rfl, hx⟩ := hm
    obtain ⟨a', c', A', C', rfl⟩ := hx.form
    have hml := (firstN_len hit).2.1
    rw [← HN.out] at hml
    have HX := Lib.hid hx
    by_cases hlt : m < n
    · have HD : Hid (decodeN bs = .error 121) := by simp only [Hid, decodeN, hit, ← HN.out, hlt, if_true]
      clear hit hx
      have y0 := (World.cell?_alloc_lt w1 (.cells #[.int .i64 x.k, .int .u64 x.n, .slice a' x.b.length c', .string ⟨x.s.toArray⟩, .slice A' x.l.length C'] 28) (a := ⟨w.heap.size, 0, none⟩) hsz1).trans z0
      have y1 := (World.cell?_alloc_lt w1 (.cells #[.int .i64 x.k, .int .u64 x.n, .slice a' x.b.length c', .string ⟨x.s.toArray⟩, .slice A' x.l.length C'] 28) (a := ⟨w.heap.size, 1, none⟩) hsz1).trans z1
      have y2 := (World.cell?_alloc_lt w1 (.cells #[.int .i64 x.k, .int .u64 x.n, .slice a' x.b.length c', .string ⟨x.s.toArray⟩, .slice A' x.l.length C'] 28) (a := ⟨w.heap.size, 2, none⟩) hsz1).trans z2
      have y3 := (World.cell?_alloc_lt w1 (.cells #[.int .i64 x.k, .int .u64 x.n, .slice a' x.b.length c', .string ⟨x.s.toArray⟩, .slice A' x.l.length C'] 28) (a := ⟨w.heap.size, 3, none⟩) hsz1).trans z3
      have y4 := (World.cell?_alloc_lt w1 (.cells #[.int .i64 x.k, .int .u64 x.n, .slice a' x.b.length c', .string ⟨x.s.toArray⟩, .slice A' x.l.length C'] 28) (a := ⟨w.heap.size, 4, none⟩) hsz1).trans z4
      have yf : ∀ i, (w1.alloc (.cells #[.int .i64 x.k, .int .u64 x.n, .slice a' x.b.length c', .string ⟨x.s.toArray⟩, .slice A' x.l.length C'] 28)).frozen? ⟨w.heap.size, i, none⟩ = false := fun i => (World.frozen?_alloc_past (.cells #[.int .i64 x.k, .int .u64 x.n, .slice a' x.b.length c', .string ⟨x.s.toArray⟩, .slice A' x.l.length C'] 28) w.heap.size i hsz1).trans (zf i)
      have HB2 : Hid (Below w.heap.size w (w1.alloc (.cells #[.int .i64 x.k, .int .u64 x.n, .slice a' x.b.length c', .string ⟨x.s.toArray⟩, .slice A' x.l.length C'] 28))) := below_al HB1.out _
      go_wp2_with fail
      change bodyPost _ _ _ _ _ (put5 (w1.alloc (.cells #[.int .i64 x.k, .int .u64 x.n, .slice a' x.b.length c', .string ⟨x.s.toArray⟩, .slice A' x.l.length C'] 28)) w.heap.size (.int .i64 0) (.int .u64 0) (.slice none 0 0) (.string ⟨#[]⟩) (.slice none 0 0))
      obtain ⟨c0, c1, c2, c3, c4⟩ := put5_cells y0 y1 y2 y3 y4 (.int .i64 0) (.int .u64 0) (.slice none 0 0) (.string ⟨#[]⟩) (.slice none 0 0)
      have hbl := put5_below (w1.alloc (.cells #[.int .i64 x.k, .int .u64 x.n, .slice a' x.b.length c', .string ⟨x.s.toArray⟩, .slice A' x.l.length C'] 28)) w.heap.size w.heap.size (Nat.le_refl _) (.int .i64 0) (.int .u64 0) (.slice none 0 0) (.string ⟨#[]⟩) (.slice none 0 0)
      have hbk := put5_block (w1.alloc (.cells #[.int .i64 x.k, .int .u64 x.n, .slice a' x.b.length c', .string ⟨x.s.toArray⟩, .slice A' x.l.length C'] 28)) w.heap.size (.int .i64 0) (.int .u64 0) (.slice none 0 0) (.string ⟨#[]⟩) (.slice none 0 0)
      have hpz := put5_size (w1.alloc (.cells #[.int .i64 x.k, .int .u64 x.n, .slice a' x.b.length c', .string ⟨x.s.toArray⟩, .slice A' x.l.length C'] 28)) w.heap.size (.int .i64 0) (.int .u64 0) (.slice none 0 0) (.string ⟨#[]⟩) (.slice none 0 0)
      generalize put5 (w1.alloc (.cells #[.int .i64 x.k, .int .u64 x.n, .slice a' x.b.length c', .string ⟨x.s.toArray⟩, .slice A' x.l.length C'] 28)) w.heap.size (.int .i64 0) (.int .u64 0) (.slice none 0 0) (.string ⟨#[]⟩) (.slice none 0 0) = w9 at *
      refine bodyPost_ret (v := .tuple #[itemV 0 0 [], .int .i64 121]) (by simp [results, Tryd.results6, go_sem, itemV, c0, c1, c2, c3, c4]) rfl ⟨HB2.out.trans hbl, ?_⟩
      rw [HD.out]
      rfl
    · have HD : Hid (decodeN bs = .ok x) := by simp only [Hid, decodeN, hit, ← HN.out, hlt, if_false]
      clear hit hx
      have y0 := (World.cell?_alloc_lt w1 (.cells #[.int .i64 x.k, .int .u64 x.n, .slice a' x.b.length c', .string ⟨x.s.toArray⟩, .slice A' x.l.length C'] 28) (a := ⟨w.heap.size, 0, none⟩) hsz1).trans z0
      have y1 := (World.cell?_alloc_lt w1 (.cells #[.int .i64 x.k, .int .u64 x.n, .slice a' x.b.length c', .string ⟨x.s.toArray⟩, .slice A' x.l.length C'] 28) (a := ⟨w.heap.size, 1, none⟩) hsz1).trans z1
      have y2 := (World.cell?_alloc_lt w1 (.cells #[.int .i64 x.k, .int .u64 x.n, .slice a' x.b.length c', .string ⟨x.s.toArray⟩, .slice A' x.l.length C'] 28) (a := ⟨w.heap.size, 2, none⟩) hsz1).trans z2
      have y3 := (World.cell?_alloc_lt w1 (.cells #[.int .i64 x.k, .int .u64 x.n, .slice a' x.b.length c', .string ⟨x.s.toArray⟩, .slice A' x.l.length C'] 28) (a := ⟨w.heap.size, 3, none⟩) hsz1).trans z3
      have y4 := (World.cell?_alloc_lt w1 (.cells #[.int .i64 x.k, .int .u64 x.n, .slice a' x.b.length c', .string ⟨x.s.toArray⟩, .slice A' x.l.length C'] 28) (a := ⟨w.heap.size, 4, none⟩) hsz1).trans z4
      have yf : ∀ i, (w1.alloc (.cells #[.int .i64 x.k, .int .u64 x.n, .slice a' x.b.length c', .string ⟨x.s.toArray⟩, .slice A' x.l.length C'] 28)).frozen? ⟨w.heap.size, i, none⟩ = false := fun i => (World.frozen?_alloc_past (.cells #[.int .i64 x.k, .int .u64 x.n, .slice a' x.b.length c', .string ⟨x.s.toArray⟩, .slice A' x.l.length C'] 28) w.heap.size i hsz1).trans (zf i)
      have HB2 : Hid (Below w.heap.size w (w1.alloc (.cells #[.int .i64 x.k, .int .u64 x.n, .slice a' x.b.length c', .string ⟨x.s.toArray⟩, .slice A' x.l.length C'] 28))) := below_al HB1.out _
      go_wp2_with fail
      change bodyPost _ _ _ _ _ (put5 (w1.alloc (.cells #[.int .i64 x.k, .int .u64 x.n, .slice a' x.b.length c', .string ⟨x.s.toArray⟩, .slice A' x.l.length C'] 28)) w.heap.size (.int .i64 x.k) (.int .u64 x.n) (.slice a' x.b.length c') (.string ⟨x.s.toArray⟩) (.slice A' x.l.length C'))
      obtain ⟨c0, c1, c2, c3, c4⟩ := put5_cells y0 y1 y2 y3 y4 (.int .i64 x.k) (.int .u64 x.n) (.slice a' x.b.length c') (.string ⟨x.s.toArray⟩) (.slice A' x.l.length C')
      have hbl := put5_below (w1.alloc (.cells #[.int .i64 x.k, .int .u64 x.n, .slice a' x.b.length c', .string ⟨x.s.toArray⟩, .slice A' x.l.length C'] 28)) w.heap.size w.heap.size (Nat.le_refl _) (.int .i64 x.k) (.int .u64 x.n) (.slice a' x.b.length c') (.string ⟨x.s.toArray⟩) (.slice A' x.l.length C')
      have hbk := put5_block (w1.alloc (.cells #[.int .i64 x.k, .int .u64 x.n, .slice a' x.b.length c', .string ⟨x.s.toArray⟩, .slice A' x.l.length C'] 28)) w.heap.size (.int .i64 x.k) (.int .u64 x.n) (.slice a' x.b.length c') (.string ⟨x.s.toArray⟩) (.slice A' x.l.length C')
      have hpz := put5_size (w1.alloc (.cells #[.int .i64 x.k, .int .u64 x.n, .slice a' x.b.length c', .string ⟨x.s.toArray⟩, .slice A' x.l.length C'] 28)) w.heap.size (.int .i64 x.k) (.int .u64 x.n) (.slice a' x.b.length c') (.string ⟨x.s.toArray⟩) (.slice A' x.l.length C')
      generalize put5 (w1.alloc (.cells #[.int .i64 x.k, .int .u64 x.n, .slice a' x.b.length c', .string ⟨x.s.toArray⟩, .slice A' x.l.length C'] 28)) w.heap.size (.int .i64 x.k) (.int .u64 x.n) (.slice a' x.b.length c') (.string ⟨x.s.toArray⟩) (.slice A' x.l.length C') = w9 at *
      refine bodyPost_ret (v := .tuple #[.agg #[.int .i64 x.k, .int .u64 x.n, .slice a' x.b.length c', .string ⟨x.s.toArray⟩, .slice A' x.l.length C'], .int .i64 0]) (by simp [results, Tryd.results6, go_sem, itemV, c0, c1, c2, c3, c4]) rfl ⟨HB2.out.trans hbl, ?_⟩
      rw [HD.out]
      refine ⟨_, rfl, (ItS.keep (w' := w9) (fun b hb => ?_) x HX.out).more fun b hb => ⟨?_, ?_⟩⟩
      · have h1 := hb.1
        have h2 := hb.2
        rw [World.size_alloc] at h1
        exact (hbk b (by omega)).trans (Below.heap_alloc w1 _ b h2)
      · have h1 := hb.1
        rw [World.size_alloc] at h1
        omega
      · have h2 := hb.2
        rw [hpz, World.size_alloc]
        omega

end Go.Proofs.YtncemmhbbkpieaaDoor
