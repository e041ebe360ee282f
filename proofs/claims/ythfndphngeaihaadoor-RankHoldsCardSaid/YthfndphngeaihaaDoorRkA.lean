/- Package rank: questions; names, what waits, queues as values and keys. -/
import Derived.Test.YthfndphngeaihaaDoorMapK
namespace Go.Proofs.YthfndphngeaihaaDoor
open Go Go.RowKit Go.Shelf
open Go.ChangeMaps (setBlock)
set_option linter.unusedSimpArgs false
set_option linter.unusedVariables false
set_option linter.unusedSectionVars false
set_option maxRecDepth 100000

attribute [local go_sem] Oper.semAt_some

/-- A question: its function, what it is handed, what it answers. -/
structure Ask where
  g : Nat
  fs : Array Value
  lb : Array Value
  e : Int

/-- The first answer that isn't OK. -/
def firstE : List Ask → Int
  | [] => 0
  | q :: r => if q.e = 0 then firstE r else q.e

theorem firstE_zero {l : List Ask} (h : ∀ (j : Nat) (q : Ask), l[j]? = some q → q.e = 0) : firstE l = 0 := by
  induction l with
  | nil => rfl
  | cons q r ih =>
    rw [firstE, if_pos (h 0 q rfl)]
    exact ih fun j x hx => h (j + 1) x hx

theorem firstE_at {l : List Ask} {j : Nat} {q : Ask} (hq : l[j]? = some q) (hn : q.e ≠ 0) (h : ∀ (i : Nat) (x : Ask), i < j → l[i]? = some x → x.e = 0) : firstE l = q.e := by
  induction l generalizing j with
  | nil => cases hq
  | cons x r ih =>
    cases j with
    | zero =>
      injection hq with hq
      subst hq
      rw [firstE, if_neg hn]
    | succ j =>
      rw [firstE, if_pos (h 0 x (by omega) rfl)]
      exact ih hq fun i y hi hy => h (i + 1) y (by omega) hy

/-- Each question that is asked answers. -/
def AsksAt (w : World) (l : List Ask) : Prop := ∀ (j : Nat) (q : Ask), l[j]? = some q → (∀ (i : Nat) (x : Ask), i < j → l[i]? = some x → x.e = 0) → (∀ args w, (callFunc q.g args).run Tryd.prog w = .ok (.enter q.g args) w) ∧ ∀ w', Below w.heap.size w w' → Calls Tryd.prog q.g (q.fs ++ q.lb) w' fun e w'' => e = .returned (.int .i64 q.e) ∧ Below w'.heap.size w' w''

set_option maxHeartbeats 2000000 in
theorem rkrefusal_any (b : Nat) (l : List Ask) (w : World) (hlen : l.length ≤ 100) (hlt : b < w.heap.size) (hrow : ∀ (j : Nat) (q : Ask), l[j]? = some q → w.cell? ⟨b, j, none⟩ = some (.func (.func q.g) q.fs q.lb)) (hask : AsksAt w l) :
    Calls Tryd.prog 17 #[.slice (some ⟨b, 0, none⟩) l.length l.length] w fun e w' => e = .returned (.int .i64 (firstE l)) ∧ Below w.heap.size w w' := by
  have HR : Hid (∀ wr, Below w.heap.size w wr → ∀ (j : Nat) (q : Ask), l[j]? = some q → wr.cell? ⟨b, j, none⟩ = some (.func (.func q.g) q.fs q.lb)) := fun wr hb j q hq => (hb.cell (p := ⟨b, j, none⟩) hlt).trans (hrow j q hq)
  have HA := Lib.hid hask
  have HL := Lib.hid hlen
  generalize hN : l.length = N at *
  have HN := Lib.hid hN
  clear hrow hask hN hlt
  go_enter Tryd.func17, Tryd.ntmps17
  go_wp2_with fail
  refine wp_scope_on 0 rfl ?_
  go_wp2_with fail
  go_loopw [8] (fun i wr => ∃ j : Nat, j ≤ N ∧ i = .int .i64 j ∧ Hid (Below w.heap.size w wr ∧ ∀ (i : Nat) (x : Ask), i < j → l[i]? = some x → x.e = 0)) (fun i _ => N - (intOf i).toNat)
  case atStart => exact ⟨0, Nat.zero_le _, rfl, Below.refl _ _, fun i x hi => by omega⟩
  case round =>
    rename_i wr hrel
    obtain ⟨j, hj, rfl, hI⟩ := hrel
    by_cases hlt : j < N
    · obtain ⟨q, hq⟩ : ∃ q, l[j]? = some q := ⟨l[j]'(by rw [HN.out]; exact hlt), List.getElem?_eq_getElem _⟩
      have hc := HR.out _ hI.out.1 j q hq
      obtain ⟨hent, hcall⟩ := HA.out j q hq hI.out.2
      have HC := Lib.hid (hcall _ hI.out.1)
      have HQ := Lib.hid hq
      clear hcall hq
      go_wp2_with fail
      refine HC.out.mono ?_
      rintro e w2 ⟨rfl, hb2⟩
      have HB2 := Lib.hid (below_on hI.out.1 hb2)
      clear hb2
      by_cases h0 : q.e = 0
      · have h1 : (q.e != 0) = false := by simpa using h0
        have H0 := Lib.hid h0
        clear h0
        go_wp2_with fail
        go_roundw
        case rel => exact ⟨j + 1, by omega, by go_num, HB2.out, fun i x hi hx => by
          rcases Nat.lt_or_ge i j with h | h
          · exact hI.out.2 i x h hx
          · have : i = j := by omega
            subst this
            have := HQ.out
            rw [this] at hx
            injection hx with hx
            subst hx
            exact H0.out⟩
        case measure => simp [intOf]; omega
      · have h1 : (q.e != 0) = true := by simpa using h0
        have H0 := Lib.hid (firstE_at HQ.out h0 hI.out.2)
        clear h0
        go_wp2_with fail
        go_step3
        refine ⟨rfl, ?_⟩
        show Code.wp _ _ _ _ _
        go_wp2
        rw [Exit.noGoto_ret]
        go_ret
        exact ⟨by rw [H0.out]; rfl, HB2.out⟩
    · have hz : Hid (firstE l = 0) := firstE_zero fun i x hx => hI.out.2 i x (by have := (List.getElem?_eq_some_iff.1 hx).1; have := HN.out; omega) hx
      go_wp2_with fail
      simp only [Exit.jump]
      go_ret
      exact ⟨by rw [hz.out]; rfl, hI.out.1⟩


/-- A name: its node, service, time, number. -/
structure Nm where
  n : Int
  m : Int
  t : Int
  q : Int
  deriving DecidableEq
/-- What waits. -/
structure Wt where
  nm : Nm
  node : Int
  rank : Int
  size : Int
  deriving DecidableEq
/-- A queue. -/
structure Qk where
  node : Int
  rank : Int
  deriving DecidableEq

def Nm.cells (x : Nm) : List Value := [.int .u32 x.n, .int .u32 x.m, .int .u64 x.t, .int .u32 x.q]
def Wt.cells (x : Wt) : List Value := [.int .u32 x.nm.n, .int .u32 x.nm.m, .int .u64 x.nm.t, .int .u32 x.nm.q, .int .u32 x.node, .int .i64 x.rank, .int .i64 x.size]
def encNm (x : Nm) : Value := .agg #[.int .u32 x.n, .int .u32 x.m, .int .u64 x.t, .int .u32 x.q]
def encWt (x : Wt) : Value := .agg #[.int .u32 x.nm.n, .int .u32 x.nm.m, .int .u64 x.nm.t, .int .u32 x.nm.q, .int .u32 x.node, .int .i64 x.rank, .int .i64 x.size]
def encQk (x : Qk) : Value := .agg #[.int .u32 x.node, .int .i64 x.rank]
def Wt.qk (x : Wt) : Qk := ⟨x.node, x.rank⟩

theorem nmEq_run (a b : Nm) (w : World) : (Op.equalIn 10000 28 (encNm a) (encNm b)).run Tryd.prog w = .ok (decide (a = b)) w := by
  unfold encNm
  obtain ⟨a0, a1, a2, a3⟩ := a
  obtain ⟨b0, b1, b2, b3⟩ := b
  go_simp
  by_cases h0 : a0 = b0 <;> by_cases h1 : a1 = b1 <;> by_cases h2 : a2 = b2 <;> by_cases h3 : a3 = b3 <;> simp [h0, h1, h2, h3]
theorem wtEq_run (a b : Wt) (w : World) : (Op.equalIn 10000 30 (encWt a) (encWt b)).run Tryd.prog w = .ok (decide (a = b)) w := by
  unfold encWt
  obtain ⟨⟨a0, a1, a2, a3⟩, a4, a5, a6⟩ := a
  obtain ⟨⟨b0, b1, b2, b3⟩, b4, b5, b6⟩ := b
  go_simp
  by_cases h0 : a0 = b0 <;> by_cases h1 : a1 = b1 <;> by_cases h2 : a2 = b2 <;> by_cases h3 : a3 = b3 <;> by_cases h4 : a4 = b4 <;> by_cases h5 : a5 = b5 <;> by_cases h6 : a6 = b6 <;> simp [h0, h1, h2, h3, h4, h5, h6]
theorem qkEq_run (a b : Qk) (w : World) : (Op.equalIn 10000 68 (encQk a) (encQk b)).run Tryd.prog w = .ok (decide (a = b)) w := by
  unfold encQk
  obtain ⟨a0, a1⟩ := a
  obtain ⟨b0, b1⟩ := b
  go_simp
  by_cases h0 : a0 = b0 <;> by_cases h1 : a1 = b1 <;> simp [h0, h1]

theorem encNm_inj (a b : Nm) (h : encNm a = encNm b) : a = b := by
  obtain ⟨a0, a1, a2, a3⟩ := a
  obtain ⟨b0, b1, b2, b3⟩ := b
  simpa [encNm] using h
theorem encQk_inj (a b : Qk) (h : encQk a = encQk b) : a = b := by
  obtain ⟨a0, a1⟩ := a
  obtain ⟨b0, b1⟩ := b
  simpa [encQk] using h

theorem bits_self (n : Nat) (cs : List Value) (h : ∀ v ∈ cs, ∃ k x, v = .int k x) : Instr.sameBits (n + 1) (.agg cs.toArray) (.agg cs.toArray) = true := by
  simp only [Instr.sameBits, List.size_toArray, beq_self_eq_true, Bool.true_and]
  rw [List.all_eq_true]
  rintro ⟨x, y⟩ hxy
  have hxy' : (x, y) ∈ cs.zip cs := hxy
  have he : x = y ∧ x ∈ cs := by
    clear hxy
    induction cs with
    | nil => cases hxy'
    | cons c r ih =>
      rcases List.mem_cons.1 hxy' with h1 | h1
      · injection h1 with h1 h2
        exact ⟨h1.trans h2.symm, by rw [h1]; simp⟩
      · obtain ⟨e1, e2⟩ := ih (fun v hv => h v (by simp [hv])) h1
        exact ⟨e1, by simp [e2]⟩
  obtain ⟨k, i, hv⟩ := h x he.2
  obtain ⟨rfl, _⟩ := he
  subst hv
  cases n <;> simp [Instr.sameBits]
theorem stays_self {P : Program} (cs : List Value) (h : ∀ v ∈ cs, ∃ k x, v = .int k x) (w : World) : (Instr.keyThatStays (.agg cs.toArray) (.agg cs.toArray)).run P w = .ok (.agg cs.toArray) w := by
  have hs : Instr.sameBits 10000 (.agg cs.toArray) (.agg cs.toArray) = true := bits_self 9999 cs h
  unfold Instr.keyThatStays
  rw [if_pos hs]
  rfl

theorem keyNm : KeyK Tryd.prog 28 encNm := by
  refine KeyK.struct Tryd.underlying28 encNm_inj (fun em k w => ?_) nmEq_run (fun k w => ?_)
  · unfold encNm
    kernel_rfl
  · exact stays_self [.int .u32 k.n, .int .u32 k.m, .int .u64 k.t, .int .u32 k.q] (by simp) w
theorem keyQk : KeyK Tryd.prog 68 encQk := by
  refine KeyK.struct Tryd.underlying68 encQk_inj (fun em k w => ?_) qkEq_run (fun k w => ?_)
  · unfold encQk
    kernel_rfl
  · exact stays_self [.int .u32 k.node, .int .i64 k.rank] (by simp) w

end Go.Proofs.YthfndphngeaihaaDoor
