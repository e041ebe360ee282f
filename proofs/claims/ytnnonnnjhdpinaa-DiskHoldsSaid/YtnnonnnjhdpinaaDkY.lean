/- Package disk: what DiskHolds rests on: disks of five sectors, what is settled, pairs of bytes that came in. -/
import Derived.Test.YtnnonnnjhdpinaaDkX
import Derived.Test.YtnnonnnjhdpinaaDkI2
namespace Go.Proofs.Ytnnonnnjhdpinaa
open Go Go.RowKit Go.Shelf
set_option linter.unusedSimpArgs false
set_option linter.unusedVariables false
set_option maxRecDepth 100000

variable {w0 w : World} {p : Nat} {D : DkM} {R : List (Nat × List Value)}

/-- A disk of five sectors that goes on. -/
def dsk (wt : List (Int × List UInt8)) (lie : Int → List UInt8) : DkM := ⟨5, lie, wt, -1⟩
theorem dsk_new : newM 5 = dsk [] fun _ => zeroS := rfl
theorem dsk_wrote (wt : List (Int × List UInt8)) (lie : Int → List UInt8) (k : Int) (s : List UInt8) : (dsk wt lie).wrote k s = dsk (wt ++ [(k, s)]) lie := rfl
theorem dsk_synced (wt : List (Int × List UInt8)) (lie : Int → List UInt8) : (dsk wt lie).synced = dsk [] (settleN wt (fun _ => true) lie wt.length) := rfl
theorem dsk_crashed (wt : List (Int × List UInt8)) (lie : Int → List UInt8) (l : List Bool) : (dsk wt lie).crashed l = dsk [] (settleN wt (keepAt l) lie wt.length) := rfl
theorem dsk_shown (lie : Int → List UInt8) (k : Int) : (dsk [] lie).shown k = lie k := rfl
theorem dsk_has {wt : List (Int × List UInt8)} {lie : Int → List UInt8} {k : Int} (h : 0 ≤ k ∧ k < 5) : hasS (dsk wt lie).n k = true := by
  show hasS 5 k = true
  unfold hasS
  simp only [Bool.and_eq_true, decide_eq_true_eq]
  omega
theorem dsk_wr {wt : List (Int × List UInt8)} {lie : Int → List UInt8} {k : Int} (h : 0 ≤ k ∧ k < 5) : (dsk wt lie).wrE k 64 = 0 := by
  have h1 := dsk_has (wt := wt) (lie := lie) h
  unfold DkM.wrE
  rw [h1]
  rfl
theorem dsk_arm0 (wt : List (Int × List UInt8)) (lie : Int → List UInt8) : ((dsk wt lie).armM 0).armM (-1) = dsk wt lie := rfl
theorem dsk_wr0 (wt : List (Int × List UInt8)) (lie : Int → List UInt8) : ((dsk wt lie).armM 0).wrE 0 64 = 190 := by
  have h1 : hasS ((dsk wt lie).armM 0).n 0 = true := dsk_has (wt := wt) (lie := lie) ⟨by decide, by decide⟩
  have h2 : ((dsk wt lie).armM 0).left = 0 := rfl
  unfold DkM.wrE
  rw [h1, h2]
  rfl

theorem wAt_append {l m : List (Int × List UInt8)} {i : Nat} (h : i < l.length) : wAt (l ++ m) i = wAt l i := by
  simp [wAt, List.getElem?_append_left h]
theorem wAt_last (l : List (Int × List UInt8)) (x : Int × List UInt8) : wAt (l ++ [x]) l.length = x := by simp [wAt]
theorem settleN_append (l m : List (Int × List UInt8)) (bec : Nat → Bool) (lie : Int → List UInt8) : ∀ j, j ≤ l.length → settleN (l ++ m) bec lie j = settleN l bec lie j
  | 0, _ => rfl
  | j + 1, h => by
    rw [settleN, settleN, settleN_append l m bec lie j (by omega), wAt_append (by omega)]
theorem settle_push (l : List (Int × List UInt8)) (x : Int × List UInt8) (lie : Int → List UInt8) : settleN (l ++ [x]) (fun _ => true) lie (l ++ [x]).length = layM (settleN l (fun _ => true) lie l.length) x := by
  rw [List.length_append, List.length_singleton, settleN, settleN_append l [x] _ lie _ (Nat.le_refl _), wAt_last]
  rfl
/-- What lies behind a crash is as one of the writes, or as it lay. -/
theorem settle_one (l : List (Int × List UInt8)) (bec : Nat → Bool) (lie : Int → List UInt8) (k : Int) : ∀ j, j ≤ l.length → settleN l bec lie j k = lie k ∨ ∃ i x, i < j ∧ l[i]? = some x ∧ x.1 = k ∧ settleN l bec lie j k = x.2
  | 0, _ => .inl rfl
  | j + 1, h => by
    have ih := settle_one l bec lie k j (by omega)
    have hx : l[j]? = some (wAt l j) := by rw [wAt, List.getElem?_eq_getElem (by omega)]; rfl
    rw [settleN]
    by_cases hb : bec j = true
    · rw [if_pos hb]
      by_cases hk : k = (wAt l j).1
      · exact .inr ⟨j, _, by omega, hx, hk.symm, by simp [layM, hk]⟩
      · have e : layM (settleN l bec lie j) (wAt l j) k = settleN l bec lie j k := by simp [layM, hk]
        rw [e]
        rcases ih with h | ⟨i, x, h1, h2⟩
        · exact .inl h
        · exact .inr ⟨i, x, by omega, h2⟩
    · rw [if_neg hb]
      rcases ih with h | ⟨i, x, h1, h2⟩
      · exact .inl h
      · exact .inr ⟨i, x, by omega, h2⟩

/-- A pair of bytes as a write. -/
def secK (c : UInt8) : Nat := c.toNat % 5
def wrP (x : UInt8 × UInt8) : Int × List UInt8 := ((secK x.1 : Nat), fullB x.2)
theorem secK_lt (c : UInt8) : secK c < 5 := Nat.mod_lt _ (by decide)
/-- What was written last, a byte a sector. -/
def wasL : List (UInt8 × UInt8) → List UInt8 → List UInt8
  | [], W => W
  | x :: r, W => wasL r (W.set (secK x.1) x.2)
theorem wasL_len : ∀ (l : List (UInt8 × UInt8)) (W : List UInt8), (wasL l W).length = W.length
  | [], _ => rfl
  | x :: r, W => by rw [wasL, wasL_len r]; simp
theorem wasL_push : ∀ (l : List (UInt8 × UInt8)) (x : UInt8 × UInt8) (W : List UInt8), wasL (l ++ [x]) W = (wasL l W).set (secK x.1) x.2
  | [], _, _ => rfl
  | y :: r, x, W => by rw [List.cons_append, wasL, wasL, wasL_push r x]
def uAt (l : List UInt8) (k : Nat) : UInt8 := l[k]?.getD 0
def was0 : List UInt8 := [0, 0, 0, 0, 0]
/-- Behind Sync a sector lies as it was written last. -/
theorem was_lie (l : List (UInt8 × UInt8)) : ∀ n, n ≤ l.length → ∀ k, k < 5 → settleN ((l.take n).map wrP) (fun _ => true) (fun _ => zeroS) ((l.take n).map wrP).length (k : Nat) = fullB (uAt (wasL (l.take n) was0) k)
  | 0, _, k, hk => by
    rw [List.take_zero]
    rcases (show k = 0 ∨ k = 1 ∨ k = 2 ∨ k = 3 ∨ k = 4 by omega) with rfl | rfl | rfl | rfl | rfl <;> rfl
  | n + 1, h, k, hk => by
    have ih := was_lie l n (by omega) k hk
    have e : l.take (n + 1) = l.take n ++ [l[n]] := by rw [List.take_add_one, List.getElem?_eq_getElem (by omega)]; rfl
    rw [e, List.map_append, List.map_singleton, settle_push, wasL_push]
    have hlen : (wasL (l.take n) was0).length = 5 := by rw [wasL_len]; rfl
    by_cases hk2 : k = secK l[n].1
    · have e1 : layM (settleN ((l.take n).map wrP) (fun _ => true) (fun _ => zeroS) ((l.take n).map wrP).length) (wrP l[n]) (k : Nat) = fullB l[n].2 := by simp [layM, wrP, hk2]
      rw [e1, hk2]
      simp [uAt, hlen, secK_lt]
    · have e1 : layM (settleN ((l.take n).map wrP) (fun _ => true) (fun _ => zeroS) ((l.take n).map wrP).length) (wrP l[n]) (k : Nat) = settleN ((l.take n).map wrP) (fun _ => true) (fun _ => zeroS) ((l.take n).map wrP).length (k : Nat) := by
        have : ((k : Nat) : Int) ≠ (secK l[n].1 : Nat) := by omega
        simp [layM, wrP, this]
      rw [e1, ih]
      simp [uAt, List.getElem?_set_ne (Ne.symm hk2)]

/-- Pairs of bytes that came in. -/
def RdP (w : World) (B : Nat) (A : Option Addr) (l : List (UInt8 × UInt8)) : Prop :=
  l = [] ∨ ∃ g o, A = some ⟨g, o, none⟩ ∧ g < B ∧ ∀ i x, l[i]? = some x → w.cell? ⟨g, o + i * 2, none⟩ = some (.int .u8 (x.1.toNat : Int)) ∧ w.cell? ⟨g, o + i * 2 + 1, none⟩ = some (.int .u8 (x.2.toNat : Int))
theorem RdP.on {w w' : World} {A : Option Addr} {l : List (UInt8 × UInt8)} (h : RdP w w.heap.size A l) (hb : Below w.heap.size w w') : RdP w' w'.heap.size A l := by
  rcases h with h | ⟨g, o, rfl, hg, hc⟩
  · exact .inl h
  · exact .inr ⟨g, o, rfl, Nat.lt_of_lt_of_le hg hb.size, fun i x hx => ⟨(hb.cell (p := ⟨g, o + i * 2, none⟩) hg).trans (hc i x hx).1, (hb.cell (p := ⟨g, o + i * 2 + 1, none⟩) hg).trans (hc i x hx).2⟩⟩
theorem RdT.on {w w' : World} {A : Option Addr} {l : List Bool} (h : RdT w w.heap.size A l) (hb : Below w.heap.size w w') : RdT w' w'.heap.size A l := by
  rcases h with h | ⟨g, o, rfl, hg, hc⟩
  · exact .inl h
  · exact .inr ⟨g, o, rfl, Nat.lt_of_lt_of_le hg hb.size, fun i x hx => (hb.cell (p := ⟨g, o + i, none⟩) hg).trans (hc i x hx)⟩

theorem DSt.copy (h : DSt w0 w p D R) :
    Calls Try.prog 16 #[.pointer (some ⟨p, 0, none⟩)] w fun e w' => ∃ q, e = .returned (.pointer (some ⟨q, 0, none⟩)) ∧ DSt w0 w' p D R ∧ DSt w w' q D [] := by
  have h1 := h
  obtain ⟨S, hd, hok, hS, hB, hR⟩ := h
  refine (copy_any S p D hok w hd).mono ?_
  rintro e w' ⟨⟨q, rfl, hq⟩, hb⟩
  exact ⟨q, rfl, h1.on hb, .start (k := 0) hq hb hok⟩
theorem DSt.same {w1 : World} {q : Nat} {R2 : List (Nat × List Value)} (h : DSt w0 w p D R) (h2 : DSt w1 w q D R2) :
    Calls Try.prog 18 #[.pointer (some ⟨q, 0, none⟩), .pointer (some ⟨p, 0, none⟩)] w fun e w' => e = .returned (.bool true) ∧ Below w.heap.size w w' := by
  obtain ⟨S, hd, hok, _⟩ := h
  obtain ⟨S2, hd2, _⟩ := h2
  exact same_any S2 S q p D hok w hd2 hd
/-- Crash, with truths that came in, or none. -/
theorem DSt.crash2 (h : DSt w0 w p D R) (A : Option Addr) (C : Nat) (l : List Bool) (hl : l.length ≤ 140737488355328) (hr : RdT w w.heap.size A l) (hA : l ≠ [] → ∀ q, A = some q → q.block < w0.heap.size) :
    Calls Try.prog 23 #[.pointer (some ⟨p, 0, none⟩), .slice A l.length C] w fun e w' => e = .returned (.int .i64 0) ∧ DSt w0 w' p (D.crashed l) R := by
  obtain ⟨S, hd, hk, hS, hB, hR⟩ := h
  refine (crash2_any S p D hk A C l hl w hr (fun hn q hq hs => ?_) (fun b h => (hS b h).2) hd).mono ?_
  · have := hA hn q hq
    have := (hS _ hs).1
    omega
  rintro e w' ⟨rfl, hd', hb⟩
  exact ⟨rfl, .step hS hB hR (hd'.kept (fun _ _ _ => rfl) fun b h => .inl h) (crashed_ok hk l) hb⟩
/-- A store into the one row. -/
theorem DSt.set {g : Nat} {vs : List Value} (h : DSt w0 w p D [(g, vs)]) (hg : w0.heap.size ≤ g) (i : Nat) (v : Value) : DSt w0 (w.setCell ⟨g, i, none⟩ v) p D [(g, vs.set i v)] := by
  obtain ⟨S, hd, hok, hS, hB, hR⟩ := h
  obtain ⟨hr, hn, hl⟩ := hR _ (List.mem_singleton_self _)
  refine ⟨S, hd.kept (fun b hb _ => Below.heap_setCell _ _ _ _ (by rintro rfl; exact hn hb)) fun _ h => h, hok, fun b h => ⟨(hS b h).1, by rw [World.size_setCell]; exact (hS b h).2⟩, hB.setCell hg _, fun r hm => ?_⟩
  rw [List.mem_singleton.1 hm]
  exact ⟨hr.set i v, hn, by rw [World.size_setCell]; exact hl⟩

end Go.Proofs.Ytnnonnnjhdpinaa
