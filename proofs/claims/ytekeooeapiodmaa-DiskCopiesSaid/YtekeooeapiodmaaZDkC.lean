/- Package disk: the law's full, a sector's bytes; the model of a disk. -/
import Derived.Test.YtekeooeapiodmaaZDkB
import Derived.Test.YtekeooeapiodmaaZButS
import Derived.Test.YtekeooeapiodmaaZOwn
namespace Go.Proofs.Ytekeooeapiodmaa
open Go Go.RowKit Go.Shelf
set_option linter.unusedSimpArgs false
set_option linter.unusedVariables false
set_option maxRecDepth 100000

attribute [local go_sem] Oper.semAt_some

/-- A sector of one letter. -/
def fullB (c : UInt8) : List UInt8 := List.replicate 64 c
theorem fullB_len (c : UInt8) : (fullB c).length = 64 := by simp [fullB]

theorem mk_64 (w : World) : (Instr.makeSlice 57 (.int .i64 64) (.int .i64 64)).run Try.prog w = .ok (.slice (some ⟨w.heap.size, 0, none⟩) 64 64) (w.alloc (.cells (madeCells #[.int .u8 0] 64) 5)) :=
  run_make_row' (P := Try.prog) 57 5 (.int .u8 0) 1 Try.underlying57 (by kernel_rfl) rfl .i64 .i64 64 (by omega) (by omega) w

/-- A row of 64 bytes that may be written. -/
def Row64 (w : World) (g : Nat) (s : List UInt8) : Prop := RowB w g (s.map encB) ∧ s.length = 64
theorem Row64.rd {w : World} {g : Nat} {s : List UInt8} (h : Row64 w g s) : RdB w w.heap.size (some ⟨g, 0, none⟩) s := by
  refine .inr ⟨g, 0, rfl, ?_, fun j hj => ?_⟩
  · obtain ⟨h1, h2⟩ := h
    cases s with
    | nil => simp at h2
    | cons c r => exact h1.lt
  · rw [Nat.zero_add]
    exact h.1.1 j _ (encB_at s j hj)
theorem Row64.lt {w : World} {g : Nat} {s : List UInt8} (h : Row64 w g s) : g < w.heap.size := by
  obtain ⟨h1, h2⟩ := h
  cases s with
  | nil => simp at h2
  | cons c r => exact h1.lt
theorem Row64.on {w w' : World} {g : Nat} {s : List UInt8} (h : Row64 w g s) (hb : Below w.heap.size w w') : Row64 w' g s := ⟨h.1.on hb h.lt, h.2⟩
theorem zero64 (w : World) : Row64 (w.alloc (.cells (madeCells #[.int .u8 0] 64) 5)) w.heap.size (List.replicate 64 0) := by
  refine ⟨⟨fun i v hv => ?_, fun i => World.frozen?_alloc_new _ _ _ _⟩, by simp⟩
  rw [World.cell?_alloc_mark, ← Array.getElem?_toList, toList_madeCells_one]
  simpa [encB] using hv

def fillL (c : UInt8) (j : Nat) : List UInt8 := List.replicate j c ++ List.replicate (64 - j) 0
theorem fillL_step (c : UInt8) (j : Nat) (hj : j < 64) : (fillL c j).set j c = fillL c (j + 1) := by
  unfold fillL
  apply List.ext_getElem?
  intro i
  rw [List.getElem?_set]
  simp only [List.getElem?_append, List.length_append, List.length_replicate, List.getElem?_replicate]
  by_cases h : j = i
  · subst h
    have h1 : j < j + (64 - j) := by omega
    have h2 : j < j + 1 := by omega
    rw [if_pos rfl, if_pos h1, if_pos h2, if_pos h2]
  · rw [if_neg h]
    by_cases h1 : i < j
    · have h2 : i < j + 1 := by omega
      rw [if_pos h1, if_pos h1, if_pos h2, if_pos h2]
    · have h2 : ¬ i < j + 1 := by omega
      rw [if_neg h1, if_neg h2]
      by_cases h3 : i - j < 64 - j
      · have h4 : i - (j + 1) < 64 - (j + 1) := by omega
        rw [if_pos h3, if_pos h4]
      · have h4 : ¬ i - (j + 1) < 64 - (j + 1) := by omega
        rw [if_neg h3, if_neg h4]
theorem fillL_len (c : UInt8) (j : Nat) (hj : j ≤ 64) : (fillL c j).length = 64 := by simp [fillL]; omega

/-- What full answers. -/
def FullP (w : World) (c : UInt8) (e : Ending) (w' : World) : Prop := e = .returned (.slice (some ⟨w.heap.size, 0, none⟩) 64 64) ∧ Row64 w' w.heap.size (fullB c) ∧ Below w.heap.size w w'

set_option maxHeartbeats 2000000 in
theorem full_any (c : UInt8) (w : World) : Calls Try.prog 20 #[.int .u8 (c.toNat : Int)] w (FullP w c) := by
  have hmk := mk_64
  obtain ⟨W, hW⟩ : ∃ W, W = w.alloc (.cells (madeCells #[.int .u8 0] 64) 5) := ⟨_, rfl⟩
  have HB0 : Hid (Below w.heap.size w W) := by rw [hW]; exact below_al (Below.refl _ _) _
  have HR0 : Hid (Row64 W w.heap.size (fillL c 0)) := by rw [hW]; exact zero64 w
  have HW := Lib.hid hW
  clear hW
  generalize hz : (c.toNat : Int) = z
  have HZ := Lib.hid hz
  clear hz
  go_enter Try.func20, Try.ntmps20
  go_wp2_with fail
  rw [← HW.out]
  go_loopw [4] (fun i wr => ∃ j : Nat, j ≤ 64 ∧ i = .int .i64 j ∧ Hid (Row64 wr w.heap.size (fillL c j) ∧ Below w.heap.size w wr)) (fun i _ => 64 - (intOf i).toNat)
  case atStart => exact ⟨0, Nat.zero_le _, rfl, HR0.out, HB0.out⟩
  case round =>
    obtain ⟨j, hj, rfl, hI⟩ := hrel
    by_cases hlt : j < 64
    · have hc := hI.out.1.1.1 j (.int .u8 (byteAt (fillL c j) j)) (encB_at _ j (by rw [fillL_len _ _ hj]; exact hlt))
      have hf := hI.out.1.1.2 j
      have hltI : (j : Int) < 64 := by omega
      go_wp2_with fail
      go_roundw
      case rel =>
        refine ⟨j + 1, by omega, by go_num, ⟨?_, fillL_len _ _ (by omega)⟩, hI.out.2.setCell (Nat.le_refl _) _⟩
        have h := hI.out.1.1.set j (.int .u8 z)
        rw [← HZ.out] at h ⊢
        have e : ((fillL c j).map encB).set j (.int .u8 (c.toNat : Int)) = (fillL c (j + 1)).map encB := by
          rw [← fillL_step c j hlt, List.map_set]
          rfl
        rw [e] at h
        exact h
      case measure => simp [intOf]; omega
    · obtain rfl : j = 64 := by omega
      go_wp2_with fail
      go_ret
      refine ⟨rfl, ?_, hI.out.2⟩
      have h := hI.out.1
      have e : fillL c 64 = fullB c := by simp [fillL, fullB]
      rw [e] at h
      exact h

/-- A sector's value. -/
def secV (s : List UInt8) : Value := .agg (s.map encB).toArray
def zeroS : List UInt8 := List.replicate 64 0
theorem zero_sec (w : World) : (zeroValue 86).run Try.prog w = .ok (secV zeroS) w := by kernel_rfl
theorem zero_int (w : World) : (zeroValue 3).run Try.prog w = .ok (.int .i64 0) w := by kernel_rfl

/-- What bytes of a sector answers. -/
theorem sbytes_any (s : List UInt8) (hs : s.length = 64) (w : World) : Calls Try.prog 58 #[secV s] w fun e w' => e = .returned (.slice (some ⟨w.heap.size, 0, none⟩) 64 64) ∧ Row64 w' w.heap.size s ∧ Below w.heap.size w w' := by
  obtain ⟨W, hW⟩ : ∃ W, W = w.alloc (.cells (s.map encB).toArray 86) := ⟨_, rfl⟩
  have HB0 : Hid (Below w.heap.size w W) := by rw [hW]; exact below_al (Below.refl _ _) _
  have HR0 : Hid (Row64 W w.heap.size s) := by rw [hW]; exact ⟨RowB.new w _ _, hs⟩
  have HW := Lib.hid hW
  clear hW hs
  unfold secV
  generalize (s.map encB).toArray = z at *
  go_enter Try.func58, Try.ntmps58
  go_wp2_with fail
  rw [← HW.out]
  go_ret
  exact ⟨rfl, HR0.out, HB0.out⟩

/-- What a disk is. -/
structure DkM where
  n : Nat
  lie : Int → List UInt8
  wt : List (Int × List UInt8)
  left : Int

structure DkM.ok (D : DkM) : Prop where
  n1 : 1 ≤ D.n
  n2 : D.n ≤ 4096
  lie : ∀ k, (D.lie k).length = 64
  wt : ∀ x ∈ D.wt, x.2.length = 64
  left : -1 ≤ D.left ∧ D.left < 9223372036854775808
  few : D.wt.length ≤ 1000000

/-- A write's cells. -/
def wrL (x : Int × List UInt8) : List Value := .int .i64 x.1 :: x.2.map encB
def flatW : List (Int × List UInt8) → List Value
  | [] => []
  | x :: r => wrL x ++ flatW r
theorem wrL_len {x : Int × List UInt8} (h : x.2.length = 64) : (wrL x).length = 65 := by simp [wrL, h]
theorem flatW_len : ∀ {l : List (Int × List UInt8)}, (∀ x ∈ l, x.2.length = 64) → (flatW l).length = l.length * 65
  | [], _ => rfl
  | x :: r, h => by
    have h1 := wrL_len (h x (List.mem_cons_self ..))
    have h2 := flatW_len (l := r) fun y hy => h y (List.mem_cons_of_mem _ hy)
    simp only [flatW, List.length_append, List.length_cons, h1, h2]
    omega
theorem flatW_append : ∀ (l m : List (Int × List UInt8)), flatW (l ++ m) = flatW l ++ flatW m
  | [], _ => rfl
  | x :: r, m => by simp only [List.cons_append, flatW, flatW_append r m, List.append_assoc]
theorem flatW_at : ∀ {l : List (Int × List UInt8)} {i : Nat} {x : Int × List UInt8}, (∀ x ∈ l, x.2.length = 64) → l[i]? = some x → ∀ j, j < 65 → (flatW l)[i * 65 + j]? = (wrL x)[j]?
  | [], _, _, _, h, _, _ => by simp at h
  | y :: r, 0, x, h, hx, j, hj => by
    simp only [List.getElem?_cons_zero, Option.some.injEq] at hx
    subst hx
    simp only [flatW]
    rw [List.getElem?_append_left (by rw [wrL_len (h y (List.mem_cons_self ..))]; omega)]
    congr 1
    omega
  | y :: r, i + 1, x, h, hx, j, hj => by
    simp only [List.getElem?_cons_succ] at hx
    simp only [flatW]
    have h1 := wrL_len (h y (List.mem_cons_self ..))
    rw [List.getElem?_append_right (by omega), h1]
    have := flatW_at (l := r) (i := i) (fun z hz => h z (List.mem_cons_of_mem _ hz)) hx j hj
    rw [← this]
    congr 1
    omega
theorem flatW_one {l : List (Int × List UInt8)} : ∀ u ∈ flatW l, u.oneCell' = true := by
  induction l with
  | nil => intro u hu; cases hu
  | cons x r ih =>
    intro u hu
    simp only [flatW, List.mem_append] at hu
    rcases hu with hu | hu
    · rcases List.mem_cons.1 hu with rfl | hu
      · rfl
      · exact encB_one _ u hu
    · exact ih u hu

/-- The number of the last write that waits for a sector. -/
def lastI : List (Int × List UInt8) → Int → Option Nat
  | [], _ => none
  | x :: r, k => match lastI r k with
    | some i => some (i + 1)
    | none => if x.1 = k then some 0 else none
theorem lastI_push (l : List (Int × List UInt8)) (x : Int × List UInt8) (k : Int) : lastI (l ++ [x]) k = if x.1 = k then some l.length else lastI l k := by
  induction l with
  | nil => simp [lastI]
  | cons y r ih =>
    simp only [List.cons_append, lastI, ih]
    by_cases h : x.1 = k
    · simp [h]
    · simp [h]
theorem lastI_lt {l : List (Int × List UInt8)} {k : Int} {i : Nat} (h : lastI l k = some i) : ∃ s, l[i]? = some (k, s) := by
  induction l generalizing i with
  | nil => cases h
  | cons y r ih =>
    simp only [lastI] at h
    cases hr : lastI r k with
    | some j =>
      rw [hr] at h
      injection h with h
      subst h
      simpa using ih hr
    | none =>
      rw [hr] at h
      simp only at h
      split at h
      · rename_i hk
        injection h with h
        subst h
        exact ⟨y.2, by rw [← hk]; rfl⟩
      · cases h

/-- What is read of a sector. -/
def DkM.shown (D : DkM) (k : Int) : List UInt8 := match lastI D.wt k with
  | some i => ((D.wt[i]?).map (·.2)).getD (D.lie k)
  | none => D.lie k

/-- A disk at block p, all of its blocks in S. -/
def DkAt (w : World) (S : Nat → Prop) (p : Nat) (D : DkM) : Prop :=
  ∃ m1 m2 v f g, RowB w p [.int .i64 D.n, .map (some m1), v, .map (some m2), .int .i64 D.left] ∧ IMap w m1 f ∧ (∀ k, (f k).getD (secV zeroS) = secV (D.lie k)) ∧
    IMap w m2 g ∧ (∀ k, g k = (lastI D.wt k).map fun i => .int .i64 (i : Nat)) ∧ w.ownsRow 0 88 65 v D.wt.length (flatW D.wt) ∧
    S p ∧ S m1 ∧ S m2 ∧ (∀ j, v.ownBlock = some j → S j) ∧ m1 ≠ m2 ∧ p ≠ m1 ∧ p ≠ m2 ∧ v.ownBlock ≠ some p ∧ v.ownBlock ≠ some m1 ∧ v.ownBlock ≠ some m2

theorem ownsRow_kept {w w' : World} {B : Nat} {e : TypeId} {k : Nat} {v : Value} {n : Nat} {xs : List Value} (h : w.ownsRow B e k v n xs) (hb : ∀ j, v.ownBlock = some j → w'.heap[j]? = w.heap[j]?) : w'.ownsRow B e k v n xs := by
  refine ⟨h.1, ?_⟩
  rcases h.2 with h2 | ⟨g, cap, cur, hv, hB, hg, rest⟩
  · exact .inl h2
  · exact .inr ⟨g, cap, cur, hv, hB, (hb g (by rw [hv]; rfl)).trans hg, rest⟩

/-- A disk whose blocks are as they were. -/
theorem DkAt.kept {w w' : World} {S T : Nat → Prop} {p : Nat} {D : DkM} (h : DkAt w S p D) (hb : ∀ b, S b → b < w.heap.size → w'.heap[b]? = w.heap[b]?) (hT : ∀ b, S b → T b) : DkAt w' T p D := by
  obtain ⟨m1, m2, v, f, g, h1, h2, h3, h4, h5, h6, s1, s2, s3, s4, rest⟩ := h
  refine ⟨m1, m2, v, f, g, h1.kept (hb p s1 h1.lt), h2.kept (hb m1 s2 h2.lt), h3, h4.kept (hb m2 s3 h4.lt), h5, ownsRow_kept h6 fun j hj => hb j (s4 j hj) (h6.lt j hj).2, hT _ s1, hT _ s2, hT _ s3, fun j hj => hT _ (s4 j hj), rest⟩
theorem DkAt.on {w w' : World} {S : Nat → Prop} {p : Nat} {D : DkM} (h : DkAt w S p D) (hb : Below w.heap.size w w') : DkAt w' S p D := h.kept (fun b _ hl => hb.block b hl) fun _ h => h
theorem DkAt.lt {w : World} {S : Nat → Prop} {p : Nat} {D : DkM} (h : DkAt w S p D) : p < w.heap.size := by
  obtain ⟨m1, m2, v, f, g, h1, _⟩ := h
  exact h1.lt
theorem DkAt.row {w : World} {S : Nat → Prop} {p : Nat} {D : DkM} (h : DkAt w S p D) : S p ∧ ∃ m1 m2 v, RowB w p [.int .i64 D.n, .map (some m1), v, .map (some m2), .int .i64 D.left] := by
  obtain ⟨m1, m2, v, f, g, h1, _, _, _, _, _, h2, _⟩ := h
  exact ⟨h2, m1, m2, v, h1⟩
/-- The number that is left, turned. -/
theorem DkAt.setLeft {w : World} {S : Nat → Prop} {p : Nat} {D : DkM} (h : DkAt w S p D) (x : Int) : DkAt (w.setCell ⟨p, 4, none⟩ (.int .i64 x)) S p { D with left := x } := by
  obtain ⟨m1, m2, v, f, g, h1, h2, h3, h4, h5, h6, s1, s2, s3, s4, n1, n2, n3, n4, n5, n6⟩ := h
  exact ⟨m1, m2, v, f, g, h1.set 4 _, h2.kept (Below.heap_setCell _ _ _ _ (Ne.symm n2)), h3, h4.kept (Below.heap_setCell _ _ _ _ (Ne.symm n3)), h5, ownsRow_kept h6 fun j hj => Below.heap_setCell _ _ _ _ (by rintro rfl; exact n4 hj), s1, s2, s3, s4, n1, n2, n3, n4, n5, n6⟩

end Go.Proofs.Ytekeooeapiodmaa

