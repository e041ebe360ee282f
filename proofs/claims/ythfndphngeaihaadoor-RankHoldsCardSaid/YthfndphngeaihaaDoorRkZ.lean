/- Package rank: total, sums. -/
import Derived.Test.YthfndphngeaihaaDoorRkY
namespace Go.Proofs.YthfndphngeaihaaDoor
open Go Go.RowKit Go.Shelf
open Go.ChangeMaps (setBlock)
set_option linter.unusedSimpArgs false
set_option linter.unusedVariables false
set_option linter.unusedSectionVars false
set_option maxRecDepth 100000

attribute [local go_sem] Oper.semAt_some

/-- The sizes are what Put lets in. -/
def SzOk (D : List Wt) : Prop := ∀ x ∈ D, 0 ≤ x.size ∧ x.size ≤ 65536
def sizeOf' (D : List Wt) (n : Nm) : Int := ((wt D n).getD wtZ).size
theorem sizeOf_ok {D : List Wt} (h : SzOk D) (n : Nm) : 0 ≤ sizeOf' D n ∧ sizeOf' D n ≤ 65536 := by
  unfold sizeOf'
  cases hw : wt D n with
  | none => exact ⟨by decide, by decide⟩
  | some x => exact h x (wt_mem hw).1
def sumS (D : List Wt) (ns : List Nm) : Int := (ns.map (sizeOf' D)).sum
theorem sumS_add (D : List Wt) (ns : List Nm) (n : Nm) : sumS D (ns ++ [n]) = sumS D ns + sizeOf' D n := by simp [sumS]
theorem sumS_ok {D : List Wt} (h : SzOk D) : ∀ ns : List Nm, 0 ≤ sumS D ns ∧ sumS D ns ≤ 65536 * ns.length
  | [] => by simp [sumS]
  | n :: r => by
    have ih := sumS_ok h r
    have h1 := sizeOf_ok h n
    have e : sumS D (n :: r) = sizeOf' D n + sumS D r := by simp [sumS]
    rw [e, List.length_cons]
    omega

theorem wtField_run (y : Wt) (w : World) : (Instr.field 30 (.agg #[.int .u32 y.nm.n, .int .u32 y.nm.m, .int .u64 y.nm.t, .int .u32 y.nm.q, .int .u32 y.node, .int .i64 y.rank, .int .i64 y.size]) 3).run Tryd.prog w = .ok (.int .i64 y.size) w := by
  kernel_rfl

set_option maxHeartbeats 4000000 in
theorem sums1_any (S : Nat → Prop) (p bl : Nat) (most : Int) (D : List Wt) (n : Nm) (w : World) (h : LineAt w S p most D) (hl : w.cell? ⟨bl, 0, none⟩ = some (.pointer (some ⟨p, 0, none⟩))) (hbl : bl < w.heap.size) :
    Calls Tryd.prog 61 #[.agg #[.int .u32 n.n, .int .u32 n.m, .int .u64 n.t, .int .u32 n.q], .pointer (some ⟨bl, 0, none⟩)] w fun e w' => e = .returned (.int .i64 (sizeOf' D n)) ∧ Below w.heap.size w w' := by
  obtain ⟨bq, bw, lq, lw, h1, h2, h3, h4, h5, h6, h7⟩ := h
  obtain ⟨W, hW⟩ : ∃ W, W = w.alloc (.cells #[.int .u32 n.n, .int .u32 n.m, .int .u64 n.t, .int .u32 n.q] 28) := ⟨_, rfl⟩
  obtain ⟨bx, hbx⟩ : ∃ b, b = w.heap.size := ⟨_, rfl⟩
  have HB0 : Hid (Below w.heap.size w W) := by rw [hW]; exact below_al (Below.refl _ _) _
  have HR : Hid (RowB W bx n.cells) := by rw [Hid, hW, hbx]; exact RowB.new w n.cells _
  have z0 := HR.out.1 0 _ rfl
  have z1 := HR.out.1 1 _ rfl
  have z2 := HR.out.1 2 _ rfl
  have z3 := HR.out.1 3 _ rfl
  have c0 := (HB0.out.cell (p := ⟨bl, 0, none⟩) hbl).trans hl
  have c1 := (h1.on HB0.out h1.lt).1 2 _ rfl
  obtain ⟨y, hy⟩ : ∃ y, y = (wt D n).getD wtZ := ⟨_, rfl⟩
  have hm : KMap encNm W bw lw := h3.kept (HB0.out.block _ h3.lt)
  have hlk : ∀ k, (Instr.lookup 60 (.map (some bw)) (.agg #[.int .u32 n.n, .int .u32 n.m, .int .u64 n.t, .int .u32 n.q]) false).run Tryd.prog (W.drewN k) = .ok (.agg #[.int .u32 y.nm.n, .int .u32 y.nm.m, .int .u64 y.nm.t, .int .u32 y.nm.q, .int .u32 y.node, .int .i64 y.rank, .int .i64 y.size]) (W.drewN k) := fun k => by
    have hm2 : KMap encNm (W.drewN k) bw lw := hm.kept rfl
    have := hm2.look keyNm Tryd.underlying60 zeroWt n false
    rw [if_neg (by simp), h5.1] at this
    have e : ((wt D n).map encWt).getD (encWt wtZ) = encWt y := by
      rw [hy]
      cases wt D n <;> rfl
    rw [e] at this
    exact this
  have hfd := wtField_run y
  have HY : Hid (y.size = sizeOf' D n) := by rw [Hid, hy]; rfl
  have HW := Lib.hid hW
  clear h1 h2 h3 h4 h5 h6 h7 hl hm hy hW
  go_enter Tryd.func61, Tryd.ntmps61
  go_upto_region 1 with fail
  rw [← HW.out, ← hbx]
  clear hbx
  go_quiet (fail)
  go_wp2_with fail
  go_ret
  refine ⟨?_, below_dr HB0.out _⟩
  rw [← HY.out]
  rfl

theorem ent_sums1 : ∀ args w, (callFunc 61 args).run Tryd.prog w = .ok (.enter 61 args) w := enters_of Tryd.func61 (by kernel_rfl) rfl
set_option maxHeartbeats 4000000 in
theorem total_any (S : Nat → Prop) (p bl : Nat) (most : Int) (D : List Wt) (g c : Nat) (ns : List Nm) (w : World) (h : LineAt w S p most D) (hs : SzOk D) (hl : w.cell? ⟨bl, 0, none⟩ = some (.pointer (some ⟨p, 0, none⟩))) (hbl : bl < w.heap.size)
    (hr : RowNs w g ns) (hg : g < w.heap.size) (hlen : ns.length ≤ 100000) :
    Calls Tryd.prog 60 #[.slice (some ⟨g, 0, none⟩) ns.length c, .func (.func 61) #[] #[.pointer (some ⟨bl, 0, none⟩)]] w fun e w' => e = .returned (.int .i64 (sumS D ns)) ∧ Below w.heap.size w w' := by
  obtain ⟨N, hN⟩ : ∃ N, N = ns.length := ⟨_, rfl⟩
  have HR : Hid (∀ X, Below w.heap.size w X → RowNs X g ns) := fun X hb => hr.kept (hb.block g hg)
  have HL : Hid (∀ X, Below w.heap.size w X → LineAt X S p most D ∧ X.cell? ⟨bl, 0, none⟩ = some (.pointer (some ⟨p, 0, none⟩))) := fun X hb => ⟨h.on hb, (hb.cell (p := ⟨bl, 0, none⟩) hbl).trans hl⟩
  have HBl := Lib.hid hbl
  have HSz := Lib.hid hs
  have HN := Lib.hid hN
  have hent := ent_sums1
  rw [← hN] at hlen ⊢
  clear h hl hr hg hN hs hbl
  go_enter Tryd.func60, Tryd.ntmps60
  go_wp2_with fail
  go_loopw [5, 10] (fun v5 v10 wr => ∃ j : Nat, v10 = .int .i64 j ∧ v5 = .int .i64 (sumS D (ns.take j)) ∧ j ≤ N ∧ Hid (Below w.heap.size w wr)) (fun _ v10 _ => N - (intOf v10).toNat)
  case atStart => exact ⟨0, rfl, by simp [sumS], Nat.zero_le _, Below.refl _ _⟩
  case round =>
    obtain ⟨j, rfl, rfl, hj, HB⟩ := hrel
    rcases Nat.lt_or_ge j N with hjN | hjN
    · obtain ⟨x, hx⟩ : ∃ y, ns[j]? = some y := ⟨ns[j]'(by rw [← HN.out]; omega), List.getElem?_eq_getElem _⟩
      obtain ⟨x0, x1, x2, x3⟩ := HR.out wr HB.out j x hx
      obtain ⟨a, ha⟩ : ∃ a, a = sumS D (ns.take j) := ⟨_, rfl⟩
      have hab := sumS_ok HSz.out (ns.take j)
      have hbb := sizeOf_ok HSz.out x
      obtain ⟨b, hb⟩ : ∃ b, b = sizeOf' D x := ⟨_, rfl⟩
      rw [← ha] at hab ⊢
      rw [← hb] at hbb
      rw [List.length_take] at hab
      have hw : IntKind.i64.wrap (a + b) = a + b := by
        simp [IntKind.wrap, IntKind.signed, IntKind.bits]
        omega
      have HAB : Hid (a + b = sumS D (ns.take (j + 1))) := by
        rw [Hid, take_one ns j (by rw [← HN.out]; omega), sumS_add, ← ha]
        rw [List.getElem?_eq_getElem (by rw [← HN.out]; omega)] at hx
        injection hx with hx
        rw [hx, ← hb]
      have HBs := Lib.hid hb
      clear ha hb hab hbb hx
      go_wp2_with fail
      have hbv : Below w.heap.size w (wr.alloc (.cells #[.int .u32 x.n, .int .u32 x.m, .int .u64 x.t, .int .u32 x.q] 28)) := below_al HB.out _
      obtain ⟨l1, l2⟩ := HL.out _ hbv
      refine (sums1_any S p bl most D x _ l1 l2 (Nat.lt_of_lt_of_le HBl.out hbv.size)).mono ?_
      rintro e w3 ⟨rfl, hb3⟩
      have HB3 : Hid (Below w.heap.size w w3) := hbv.trans (hb3.mono hbv.size)
      rw [← HBs.out]
      clear hbv l1 l2 hb3
      go_wp2_with fail
      go_roundw
      case rel => exact ⟨j + 1, by go_num, by rw [HAB.out], by omega, HB3.out⟩
      case measure => simp [intOf]; omega
    · obtain rfl : j = N := by omega
      go_wp2_with fail
      go_ret
      refine ⟨?_, HB.out⟩
      rw [HN.out, List.take_length]
      rfl

end Go.Proofs.YthfndphngeaihaaDoor
