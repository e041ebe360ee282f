/- Package seen: the makers of questions; New. -/
import Derived.Test.YtdnjoohicbdmiaaSeB
import Derived.BigRegion
namespace Go.Proofs.Ytdnjoohicbdmiaa
open Go Go.RowKit Go.Shelf
open Go.ChangeMaps (setBlock)
set_option linter.unusedSimpArgs false
set_option linter.unusedVariables false
set_option linter.unusedSectionVars false
set_option maxRecDepth 100000

attribute [local go_sem] Oper.semAt_some

theorem senamed_any (x : Nm) (w : World) : Calls Try.prog 33 #[.agg #[.int .u32 x.n, .int .u32 x.m, .int .u64 x.t, .int .u32 x.q]] w fun e w' => e = .returned (.func (.func 46) #[] #[.pointer (some ⟨w.heap.size, 0, none⟩)]) ∧ w' = w.alloc (.cells #[.int .u32 x.n, .int .u32 x.m, .int .u64 x.t, .int .u32 x.q] 40) := by
  have hmf := mkF
  go_enter Try.func33, Try.ntmps33
  go_wp2_with fail
  go_ret
  exact ⟨rfl, rfl⟩
theorem seends_any (n : Int) (w : World) : Calls Try.prog 34 #[.int .u64 n] w fun e w' => e = .returned (.func (.func 48) #[] #[.pointer (some ⟨w.heap.size, 0, none⟩)]) ∧ w' = w.alloc (.cells #[.int .u64 n] 38) := by
  have hmf := mkF
  go_enter Try.func34, Try.ntmps34
  go_wp2_with fail
  go_ret
  exact ⟨rfl, rfl⟩
theorem sebounded_any (n : Int) (w : World) : Calls Try.prog 23 #[.int .i64 n] w fun e w' => e = .returned (.func (.func 39) #[] #[.pointer (some ⟨w.heap.size, 0, none⟩)]) ∧ w' = w.alloc (.cells #[.int .i64 n] 3) := by
  have hmf := mkF
  go_enter Try.func23, Try.ntmps23
  go_wp2_with fail
  go_ret
  exact ⟨rfl, rfl⟩
theorem seunseen_any (v : Option Addr) (x : Sg) (w : World) : Calls Try.prog 35 #[.pointer v, .agg #[.int .u32 x.nm.n, .int .u32 x.nm.m, .int .u64 x.nm.t, .int .u32 x.nm.q, .bool x.back, .int .u8 x.cnt]] w fun e w' => e = .returned (.func (.func 49) #[] #[.pointer (some ⟨w.heap.size, 0, none⟩), .pointer (some ⟨w.heap.size + 1, 0, none⟩)]) ∧ w' = (w.alloc (.cells #[.pointer v] 24)).alloc (.cells #[.int .u32 x.nm.n, .int .u32 x.nm.m, .int .u64 x.nm.t, .int .u32 x.nm.q, .bool x.back, .int .u8 x.cnt] 80) := by
  have hmf := mkF
  go_enter Try.func35, Try.ntmps35
  go_wp2_with fail
  go_ret
  exact ⟨by simp, rfl⟩

theorem ent_sebounded1 : ∀ args w, (callFunc 39 args).run Try.prog w = .ok (.enter 39 args) w := enters_of Try.func39 (by kernel_rfl) rfl
theorem ent_sethere : ∀ args w, (callFunc 32 args).run Try.prog w = .ok (.enter 32 args) w := enters_of Try.func32 (by kernel_rfl) rfl
theorem ent_senamed1 : ∀ args w, (callFunc 46 args).run Try.prog w = .ok (.enter 46 args) w := enters_of Try.func46 (by kernel_rfl) rfl
theorem ent_seends1 : ∀ args w, (callFunc 48 args).run Try.prog w = .ok (.enter 48 args) w := enters_of Try.func48 (by kernel_rfl) rfl
theorem ent_seunseen1 : ∀ args w, (callFunc 49 args).run Try.prog w = .ok (.enter 49 args) w := enters_of Try.func49 (by kernel_rfl) rfl
theorem ent_seroomy : ∀ args w, (callFunc 36 args).run Try.prog w = .ok (.enter 36 args) w := enters_of Try.func36 (by kernel_rfl) rfl

theorem tab_made (most : Int) (w : World) : TabAt ((w.alloc (.map #[] 0)).alloc (.cells #[.int .i64 most, .map (some w.heap.size)] 69)) (fun b => w.heap.size ≤ b ∧ b < w.heap.size + 2) (w.heap.size + 1) most [] := by
  have h1 : KMap encSg (w.alloc (.map #[] 0)) w.heap.size [] := KMap.made w
  have hz1 : (w.alloc (.map #[] 0)).heap.size = w.heap.size + 1 := by simp
  have b1 := below_al (Below.refl (w.alloc (.map #[] 0)).heap.size (w.alloc (.map #[] 0))) (.cells #[.int .i64 most, .map (some w.heap.size)] 69)
  refine ⟨w.heap.size, ?_, h1.kept (b1.block _ (by omega)), ⟨⟨by omega, by omega⟩, ⟨by omega, by omega⟩⟩, by omega⟩
  have := RowB.new (w.alloc (.map #[] 0)) [.int .i64 most, .map (some w.heap.size)] 69
  rw [hz1] at this
  exact this

/-- What New answers. -/
def SeNewP (w : World) (most : Int) (e : Ending) (w' : World) : Prop := Below w.heap.size w w' ∧ ((inB 0 4096 most = true ∧ ∃ p, e = .returned (.tuple #[.pointer (some ⟨p, 0, none⟩), .int .i64 0]) ∧ TabAt w' (newS w w') p most []) ∨ (inB 0 4096 most = false ∧ e = .returned (.tuple #[.pointer none, .int .i64 2])))

set_option maxHeartbeats 2000000 in
theorem senew_any (most : Int) (w : World) :
    Calls Try.prog 7 #[.int .i64 most] w fun e w' => SeNewP w most e w' := by
  go_enter Try.func7, Try.ntmps7
  go_wp2_with fail
  refine (sebounded_any most w).mono ?_
  rintro e w1 ⟨rfl, rfl⟩
  go_wp2_with fail
  obtain ⟨W, hW⟩ : ∃ W, W = (w.alloc (.cells #[.int .i64 most] 3)).alloc (.cells #[.func (.func 39) #[] #[.pointer (some ⟨w.heap.size, 0, none⟩)]] 64) := ⟨_, rfl⟩
  rw [← hW]
  have HB : Hid (Below w.heap.size w W) := by rw [hW]; exact below_al (below_al (Below.refl _ _) _) _
  have HC : Hid (∀ X, Below W.heap.size W X → X.cell? ⟨w.heap.size, 0, none⟩ = some (.int .i64 most)) := fun X hb => by
    rw [hW] at hb
    rw [hb.cell (p := ⟨w.heap.size, 0, none⟩) (by simp; omega)]
    simp
  have HC1 : Hid (W.cell? ⟨w.heap.size + 1, 0, none⟩ = some (.func (.func 39) #[] #[.pointer (some ⟨w.heap.size, 0, none⟩)]) ∧ w.heap.size + 1 < W.heap.size) := by
    rw [Hid, hW]
    constructor
    · simp
    · simp
  clear hW
  refine (serefusal_any (w.heap.size + 1) [⟨39, #[], #[.pointer (some ⟨w.heap.size, 0, none⟩)], unE (inB 0 4096 most) 2⟩] W (by simp) HC1.out.2 (fun j q hj => by
    cases j with
    | zero => injection hj with hj; subst hj; exact HC1.out.1
    | succ j => cases hj) (asks_one ent_sebounded1 fun X hb => sebounded1_any _ most X (HC.out X hb))).mono ?_
  rintro e w1 ⟨rfl, hb1⟩
  rw [firstE_one]
  have HB1 := Lib.hid (below_on HB.out hb1)
  clear hb1
  have hmm := @run_makeMap Try.prog
  cases hq : inB 0 4096 most
  · have HQ := Lib.hid hq
    clear hq
    rw [show unE false 2 = 2 from rfl]
    go_wp2_with fail
    go_ret2
    exact ⟨HB1.out, .inr ⟨HQ.out, rfl⟩⟩
  · have HQ := Lib.hid hq
    clear hq
    rw [show unE true 2 = 0 from rfl]
    go_wp2_with fail
    go_ret2
    refine ⟨below_al (below_al HB1.out _) _, ?_⟩
    refine .inl ⟨HQ.out, _, rfl, ?_⟩
    refine (tab_made most w1).into fun b hb => ⟨Nat.le_trans HB1.out.size hb.1, ?_⟩
    simpa using hb.2

end Go.Proofs.Ytdnjoohicbdmiaa
