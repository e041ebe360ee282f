/- Package seen: a table, as it lies; the small functions. -/
import Derived.Test.YtdnjoohicbdmiaaSeA
import Derived.Test.YtdnjoohicbdmiaaHeldT
import Derived.Deep.QuietTactic
import Derived.BigQuiet
namespace Go.Proofs.Ytdnjoohicbdmiaa
open Go Go.RowKit Go.Shelf
open Go.ChangeMaps (setBlock)
set_option linter.unusedSimpArgs false
set_option linter.unusedVariables false
set_option linter.unusedSectionVars false
set_option maxRecDepth 100000

attribute [local go_sem] Oper.semAt_some

/-- A table of sights at block p, all of whose blocks are in S. -/
def TabAt (w : World) (S : Nat → Prop) (p : Nat) (most : Int) (l : List (Sg × Value)) : Prop :=
  ∃ bu, RowB w p [.int .i64 most, .map (some bu)] ∧ KMap encSg w bu l ∧ (S p ∧ S bu) ∧ p ≠ bu
/-- Each counts until a time. -/
def AllT (l : List (Sg × Value)) : Prop := ∀ q ∈ l, ∃ n : Int, q.2 = .int .u64 n
theorem TabAt.kept {w w' : World} {S : Nat → Prop} {p : Nat} {most : Int} {l : List (Sg × Value)} (h : TabAt w S p most l) (hb : ∀ b, S b → b < w.heap.size → w'.heap[b]? = w.heap[b]?) : TabAt w' S p most l := by
  obtain ⟨bu, h1, h2, h3, h4⟩ := h
  exact ⟨bu, h1.kept (hb p h3.1 h1.lt), h2.kept (hb bu h3.2 h2.lt), h3, h4⟩
theorem TabAt.on {w w' : World} {S : Nat → Prop} {p : Nat} {most : Int} {l : List (Sg × Value)} (h : TabAt w S p most l) (hb : Below w.heap.size w w') : TabAt w' S p most l := h.kept fun b _ hlt => hb.block b hlt
theorem TabAt.into {w : World} {S T : Nat → Prop} {p : Nat} {most : Int} {l : List (Sg × Value)} (h : TabAt w S p most l) (hb : ∀ b, S b → T b) : TabAt w T p most l := by
  obtain ⟨bu, h1, h2, h3, h4⟩ := h
  exact ⟨bu, h1, h2, ⟨hb _ h3.1, hb _ h3.2⟩, h4⟩
theorem TabAt.nodup {w : World} {S : Nat → Prop} {p : Nat} {most : Int} {l : List (Sg × Value)} (h : TabAt w S p most l) : (l.map (·.1)).Nodup := by
  obtain ⟨bu, _, h2, _⟩ := h
  exact h2.nodup

theorem seeqlMap_nil (w : World) (b : Option Nat) : (binOp BinOp.eql 67 (.map b) (.map none)).run Try.prog w = .ok (.bool b.isNone) w := by
  cases b <;> kernel_rfl
theorem seeqlPtr_nil (w : World) (p : Nat) : (binOp BinOp.eql 24 (.pointer (some ⟨p, 0, none⟩)) (.pointer none)).run Try.prog w = .ok (.bool false) w := by
  kernel_rfl
theorem senum_any (e : Int) (w : World) : Calls Try.prog 9 #[.int .i64 e] w fun x w' => x = .returned (.int .i64 e) ∧ w' = w := by
  go_enter Try.func9, Try.ntmps9
  go_wp2_with fail
  go_ret
  exact ⟨rfl, rfl⟩
theorem senone_any (p b : Nat) (w : World) (h : w.cell? ⟨p, 1, none⟩ = some (.map (some b))) : Calls Try.prog 29 #[.pointer (some ⟨p, 0, none⟩)] w fun x w' => x = .returned (.bool false) ∧ w' = w := by
  have heq := seeqlMap_nil
  go_enter Try.func29, Try.ntmps29
  go_wp2_with fail
  go_ret
  exact ⟨rfl, rfl⟩
theorem senone_zero (p : Nat) (w : World) (h : w.cell? ⟨p, 1, none⟩ = some (.map none)) : Calls Try.prog 29 #[.pointer (some ⟨p, 0, none⟩)] w fun x w' => x = .returned (.bool true) ∧ w' = w := by
  have heq := seeqlMap_nil
  go_enter Try.func29, Try.ntmps29
  go_wp2_with fail
  go_ret
  exact ⟨rfl, rfl⟩
theorem senone_nil (w : World) : Calls Try.prog 29 #[.pointer none] w fun x w' => x = .returned (.bool true) ∧ w' = w := by
  go_enter Try.func29, Try.ntmps29
  go_wp2_with fail
  go_ret
  exact ⟨rfl, rfl⟩

theorem senamed1_any (b : Nat) (x : Nm) (w : World) (h0 : w.cell? ⟨b, 0, none⟩ = some (.int .u32 x.n)) (h1 : w.cell? ⟨b, 1, none⟩ = some (.int .u32 x.m)) (h2 : w.cell? ⟨b, 2, none⟩ = some (.int .u64 x.t)) (h3 : w.cell? ⟨b, 3, none⟩ = some (.int .u32 x.q)) :
    Calls Try.prog 46 #[.pointer (some ⟨b, 0, none⟩)] w fun e w' => e = .returned (.int .i64 (unE (mayN x) 2)) ∧ Below w.heap.size w w' := by
  go_enter Try.func46, Try.ntmps46
  go_wp2_with fail
  refine (checkName_any x w).mono ?_
  rintro e w1 ⟨rfl, hb⟩
  go_wp2_with fail
  go_ret
  exact ⟨rfl, hb⟩

theorem sebounded1_any (b : Nat) (n : Int) (w : World) (h : w.cell? ⟨b, 0, none⟩ = some (.int .i64 n)) : Calls Try.prog 39 #[.pointer (some ⟨b, 0, none⟩)] w fun x w' => x = .returned (.int .i64 (unE (inB 0 4096 n) 2)) ∧ Below w.heap.size w w' := by
  by_cases h0 : 0 ≤ n
  · obtain ⟨q, hq⟩ : ∃ q, q = decide (n ≤ 4096) := ⟨_, rfl⟩
    have HE : Hid (inB 0 4096 n = q) := by
      rw [Hid, hq]
      simp [inB, h0]
    have HQ := Lib.hid hq
    clear hq
    go_enter Try.func39, Try.ntmps39
    go_wp2_with fail
    try rw [← HQ.out]
    refine (seunless_any q 2 w).mono ?_
    rintro e w' ⟨rfl, rfl⟩
    go_wp2_with fail
    go_ret
    exact ⟨by rw [HE.out]; rfl, Below.refl _ _⟩
  · have HE : Hid (inB 0 4096 n = false) := by
      rw [Hid]
      simp [inB, h0]
    go_enter Try.func39, Try.ntmps39
    go_wp2_with fail
    refine (seunless_any false 2 w).mono ?_
    rintro e w' ⟨rfl, rfl⟩
    go_wp2_with fail
    go_ret
    exact ⟨by rw [HE.out]; rfl, Below.refl _ _⟩

theorem sethere_any (p b : Nat) (w : World) (h : w.cell? ⟨p, 1, none⟩ = some (.map (some b))) : Calls Try.prog 32 #[.pointer (some ⟨p, 0, none⟩)] w fun x w' => x = .returned (.int .i64 0) ∧ Below w.heap.size w w' := by
  go_enter Try.func32, Try.ntmps32
  go_wp2_with fail
  refine (senone_any p b w h).mono ?_
  rintro e w' ⟨rfl, rfl⟩
  go_wp2_with fail
  refine (seunless_any true 1 _).mono ?_
  rintro e w' ⟨rfl, rfl⟩
  go_wp2_with fail
  go_ret
  exact ⟨rfl, Below.refl _ _⟩


/-- May a sight count until then? -/
def endB (n : Int) : Bool := decide (n < 4611686018427387903)
theorem seends1_any (b : Nat) (n : Int) (w : World) (h : w.cell? ⟨b, 0, none⟩ = some (.int .u64 n)) : Calls Try.prog 48 #[.pointer (some ⟨b, 0, none⟩)] w fun x w' => x = .returned (.int .i64 (unE (endB n) 2)) ∧ Below w.heap.size w w' := by
  obtain ⟨q, hq⟩ : ∃ q, q = decide (n < 4611686018427387903) := ⟨_, rfl⟩
  have HE : Hid (endB n = q) := by rw [Hid, hq]; rfl
  have HQ := Lib.hid hq
  clear hq
  go_enter Try.func48, Try.ntmps48
  go_wp2_with fail
  try rw [← HQ.out]
  refine (seunless_any q 2 w).mono ?_
  rintro e w' ⟨rfl, rfl⟩
  go_wp2_with fail
  go_ret
  exact ⟨by rw [HE.out]; rfl, Below.refl _ _⟩

theorem zeroU64 (w : World) : (zeroValue 38).run Try.prog w = .ok (.int .u64 0) w := by kernel_rfl

theorem seunseen1_any (S : Nat → Prop) (p : Nat) (most : Int) (l : List (Sg × Value)) (x : Sg) (b c : Nat) (w : World) (h : TabAt w S p most l) (hb : w.cell? ⟨b, 0, none⟩ = some (.pointer (some ⟨p, 0, none⟩))) (hc : RowB w c x.cells) :
    Calls Try.prog 49 #[.pointer (some ⟨b, 0, none⟩), .pointer (some ⟨c, 0, none⟩)] w fun e w' => e = .returned (.int .i64 (unE (!(lk l x).isSome) 150)) ∧ Below w.heap.size w w' := by
  obtain ⟨bu, h1, h2, h3, h4⟩ := h
  have q0 : ∀ k, (w.drewN k).cell? ⟨b, 0, none⟩ = some (.pointer (some ⟨p, 0, none⟩)) := fun _ => hb
  have q1 : ∀ k, (w.drewN k).cell? ⟨p, 1, none⟩ = some (.map (some bu)) := fun _ => h1.1 1 _ rfl
  have c0 : ∀ k, (w.drewN k).cell? ⟨c, 0, none⟩ = some (.int .u32 x.nm.n) := fun _ => hc.1 0 _ rfl
  have c1 : ∀ k, (w.drewN k).cell? ⟨c, 1, none⟩ = some (.int .u32 x.nm.m) := fun _ => hc.1 1 _ rfl
  have c2 : ∀ k, (w.drewN k).cell? ⟨c, 2, none⟩ = some (.int .u64 x.nm.t) := fun _ => hc.1 2 _ rfl
  have c3 : ∀ k, (w.drewN k).cell? ⟨c, 3, none⟩ = some (.int .u32 x.nm.q) := fun _ => hc.1 3 _ rfl
  have c4 : ∀ k, (w.drewN k).cell? ⟨c, 4, none⟩ = some (.bool x.back) := fun _ => hc.1 4 _ rfl
  have c5 : ∀ k, (w.drewN k).cell? ⟨c, 5, none⟩ = some (.int .u8 x.cnt) := fun _ => hc.1 5 _ rfl
  have hlk : ∀ k, (Instr.lookup 67 (.map (some bu)) (.agg #[.int .u32 x.nm.n, .int .u32 x.nm.m, .int .u64 x.nm.t, .int .u32 x.nm.q, .bool x.back, .int .u8 x.cnt]) true).run Try.prog (w.drewN k) = .ok (.tuple #[(lk l x).getD (.int .u64 0), .bool (lk l x).isSome]) (w.drewN k) := fun k => by
    have h : KMap encSg (w.drewN k) bu l := h2.kept rfl
    exact h.look keySg Try.underlying67 zeroU64 x true
  obtain ⟨v, hv⟩ : ∃ v, v = (lk l x).getD (.int .u64 0) := ⟨_, rfl⟩
  obtain ⟨q, hq⟩ : ∃ q, q = (lk l x).isSome := ⟨_, rfl⟩
  rw [← hv, ← hq] at hlk
  rw [← hq]
  clear h1 h2 h3 hv hq hb hc
  go_enter Try.func49, Try.ntmps49
  go_upto_region 1 with fail
  go_quiet (fail)
  go_wp2_with fail
  refine (seunless_any (!q) 150 _).mono ?_
  rintro e w' ⟨rfl, rfl⟩
  go_wp2_with fail
  go_ret
  exact ⟨rfl, below_dr (Below.refl _ _) _⟩
theorem seroomy_any (S : Nat → Prop) (p : Nat) (most : Int) (l : List (Sg × Value)) (w : World) (h : TabAt w S p most l) :
    Calls Try.prog 36 #[.pointer (some ⟨p, 0, none⟩)] w fun e w' => e = .returned (.int .i64 (unE (decide ((l.length : Int) < most)) 230)) ∧ Below w.heap.size w w' := by
  obtain ⟨bu, h1, h2, _⟩ := h
  obtain ⟨n, hn⟩ : ∃ n : Int, n = (l.length : Int) := ⟨_, rfl⟩
  have c0 : ∀ k, (w.drewN k).cell? ⟨p, 0, none⟩ = some (.int .i64 most) := fun _ => h1.1 0 _ rfl
  have c1 : ∀ k, (w.drewN k).cell? ⟨p, 1, none⟩ = some (.map (some bu)) := fun _ => h1.1 1 _ rfl
  have hl : ∀ k, (Builtin.len_ #[67] 3 #[.map (some bu)]).run Try.prog (w.drewN k) = .ok (.int .i64 n) (w.drewN k) := fun k => by
    have : KMap encSg (w.drewN k) bu l := h2.kept rfl
    rw [hn]
    exact this.len Try.underlying67 _
  rw [← hn]
  clear h1 h2 hn
  go_enter Try.func36, Try.ntmps36
  go_upto_region 1 with fail
  go_quiet (first
    | (go_at_call 50; exact Calls.quiet_of_same (semore_any most n _))
    | (go_at_call 40; exact Calls.quiet_of_same (seunless_any _ 230 _)))
  go_wp2_with fail
  go_ret
  exact ⟨rfl, below_dr (Below.refl _ _) _⟩

end Go.Proofs.Ytdnjoohicbdmiaa
