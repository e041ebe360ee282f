/- Joined texts. -/
import Derived.Test.YtlmdbeccfoncpaaGreatDoorZMt
import Derived.Test.YtlmdbeccfoncpaaGreatDoorZPmF
namespace Go.Proofs.YtlmdbeccfoncpaaGreatDoor
open Go Go.RowKit Go.Shelf
set_option linter.unusedSimpArgs false
set_option linter.unusedVariables false
set_option maxRecDepth 100000

attribute [local go_sem] Oper.semAt_some

/-- A slice of uint32 reads as these. -/
def RdU3 (w : World) (B : Nat) (a : Option Addr) (zs : List Nat) : Prop :=
  zs = [] ∨ ∃ b o, a = some ⟨b, o, none⟩ ∧ b < B ∧ ∀ j, j < zs.length → w.cell? ⟨b, o + j, none⟩ = some (.int .u32 ((zs[j]?.getD 0 : Nat) : Int))

theorem RdU3.below {w w' : World} {B : Nat} {a : Option Addr} {zs : List Nat} (h : RdU3 w B a zs) (hb : Below B w w') : RdU3 w' B a zs := by
  rcases h with h | ⟨b, o, e, hlt, hc⟩
  · exact .inl h
  · exact .inr ⟨b, o, e, hlt, fun j hj => (hb.cell (p := ⟨b, o + j, none⟩) hlt).trans (hc j hj)⟩

theorem RdU3.mono {w : World} {B B' : Nat} {a : Option Addr} {zs : List Nat} (h : RdU3 w B a zs) (hB : B ≤ B') : RdU3 w B' a zs := by
  rcases h with h | ⟨b, o, e, hlt, hc⟩
  · exact .inl h
  · exact .inr ⟨b, o, e, Nat.lt_of_lt_of_le hlt hB, hc⟩

theorem RdU3.at {w : World} {B : Nat} {a : Option Addr} {zs : List Nat} (h : RdU3 w B a zs) (k : Nat) (hk : k < zs.length) :
    ∃ b o, a = some ⟨b, o, none⟩ ∧ b < B ∧ w.cell? ⟨b, o + k, none⟩ = some (.int .u32 ((zs[k]?.getD 0 : Nat) : Int)) := by
  rcases h with rfl | ⟨b, o, e, hlt, hc⟩
  · simp at hk
  · exact ⟨b, o, e, hlt, hc k hk⟩

theorem notin_step {zs : List Nat} {k φ : Nat} (h : k < zs.length) (h1 : φ ∉ zs.take k) (h2 : φ ≠ zs[k]?.getD 0) : φ ∉ zs.take (k + 1) := by
  rw [List.take_succ_eq_append_getElem h]
  simp only [List.mem_append, List.mem_singleton]
  rw [List.getElem?_eq_getElem h] at h2
  exact fun h3 => h3.elim h1 h2

theorem in_hit {zs : List Nat} {k φ : Nat} (h : k < zs.length) (h2 : φ = zs[k]?.getD 0) : φ ∈ zs := by
  rw [List.getElem?_eq_getElem h] at h2
  rw [h2]
  exact List.getElem_mem h

set_option maxHeartbeats 4000000 in
theorem indexU_any (a : Option Addr) (c : Nat) (zs : List Nat) (φ : Nat) (w : World) (hlen : zs.length ≤ 1000000) (hr : RdU3 w w.heap.size a zs) :
    Calls Tryz.prog 73 #[.slice a zs.length c, .int .u32 φ] w fun e w' => (∃ i : Int, e = .returned (.int .i64 i) ∧ Hid (decide (0 ≤ i) = decide (φ ∈ zs))) ∧ w = w' := by
  have HR := Lib.hid hr
  clear hr
  go_enter Tryz.func73, Tryz.ntmps73
  go_wp2_with fail
  go_loopw [8] (fun i wr => ∃ k : Nat, k ≤ zs.length ∧ i = .int .i64 k ∧ Hid (φ ∉ zs.take k ∧ w = wr)) (fun i _ => zs.length - (intOf i).toNat)
  case atStart => exact ⟨0, Nat.zero_le _, rfl, by simp, rfl⟩
  case round =>
    obtain ⟨k, hk, rfl, HI⟩ := hrel
    obtain ⟨hni, rfl⟩ := HI.out
    have HNI := Lib.hid hni
    clear HI hni
    by_cases hlt : k < zs.length
    · obtain ⟨g, o, rfl, hg, hc0⟩ := HR.out.at k hlt
      have HS : Hid (φ ≠ zs[k]?.getD 0 → φ ∉ zs.take (k + 1)) := notin_step hlt HNI.out
      have HH : Hid (φ = zs[k]?.getD 0 → φ ∈ zs) := in_hit hlt
      generalize zs[k]?.getD 0 = x at *
      by_cases he : φ = x
      · subst he
        have HM := Lib.hid (HH.out rfl)
        go_wp2_with fail
        go_ret
        exact ⟨⟨_, rfl, ⟨fun _ => HM.out, fun _ => by omega⟩⟩, rfl⟩
      · have hne : ((φ : Int) == (x : Int)) = false := by simp; omega
        have HE := Lib.hid he
        clear he
        go_wp2_with fail
        go_roundw
        case rel => exact ⟨k + 1, by omega, by go_num, HS.out HE.out, trivial⟩
        case measure => simp [intOf]; omega
    · obtain rfl : k = zs.length := by omega
      have h := HNI.out
      rw [List.take_length] at h
      have HI2 := Lib.hid h
      clear h
      go_wp2_with fail
      go_ret
      exact ⟨⟨-1, rfl, by rw [Hid, decide_eq_false HI2.out]; rfl⟩, rfl⟩

set_option maxHeartbeats 1000000 in
theorem containsU_any (a : Option Addr) (c : Nat) (zs : List Nat) (φ : Nat) (w : World) (hlen : zs.length ≤ 1000000) (hr : RdU3 w w.heap.size a zs) (_h : φ < 4294967296) :
    Calls Tryz.prog 45 #[.slice a zs.length c, .int .u32 φ] w fun e w' => e = .returned (.bool (decide (φ ∈ zs))) ∧ w = w' := by
  have HC := Lib.hid (indexU_any a c zs φ w hlen hr)
  clear hr
  go_enter Tryz.func45, Tryz.ntmps45
  go_wp2_with fail
  refine HC.out.mono ?_
  rintro e w1 ⟨⟨i, rfl, HI⟩, rfl⟩
  go_wp2_with fail
  go_ret
  exact ⟨by rw [← HI.out]; rfl, rfl⟩

/-- The rank's bits. -/
def rkN (r : Int) : Nat := if 0 ≤ r ∧ r ≤ 2 then 128 * r.toNat else 0

theorem rkN_or (r : Int) : rkN r = 0 ∨ rkN r = 128 ∨ rkN r = 256 := by
  unfold rkN
  split
  · have h : r.toNat = 0 ∨ r.toNat = 1 ∨ r.toNat = 2 := by omega
    omega
  · exact .inl rfl

/-- The flags' bits, so far. -/
def upN (r : Int) (zs : List Nat) (k : Nat) : Nat := rkN r + (if 1 ≤ k ∧ 2 ∈ zs then 2 else 0) + (if 2 ≤ k ∧ 32 ∈ zs then 32 else 0)

theorem upN_lt (r : Int) (zs : List Nat) (k : Nat) : upN r zs k < 4294967296 := by
  have := rkN_or r
  unfold upN
  split <;> split <;> omega

theorem upN_or2 (r : Int) (zs : List Nat) : upN r zs 0 ||| 2 = upN r zs 0 + 2 := by
  have e : upN r zs 0 = rkN r := by simp [upN]
  rw [e]
  rcases rkN_or r with h | h | h <;> rw [h] <;> decide

theorem upN_or32 (r : Int) (zs : List Nat) : upN r zs 1 ||| 32 = upN r zs 1 + 32 := by
  have e : upN r zs 1 = rkN r ∨ upN r zs 1 = rkN r + 2 := by
    by_cases h : 2 ∈ zs
    · exact .inr (by simp [upN, h])
    · exact .inl (by simp [upN, h])
  rcases e with e | e <;> rcases rkN_or r with h | h | h <;> rw [e, h] <;> decide

set_option maxHeartbeats 8000000 in
theorem flags_any (r : Int) (a : Option Addr) (c : Nat) (zs : List Nat) (w : World) (hlen : zs.length ≤ 1000000) (hr : RdU3 w w.heap.size a zs) :
    Calls Tryz.prog 19 #[.int .i64 r, .slice a zs.length c] w fun e w' => e = .returned (.int .u32 (upN r zs 2 : Nat)) ∧ Below w.heap.size w w' := by
  obtain ⟨W, hW⟩ : ∃ W, W = (w.alloc (.cells #[.slice a zs.length c] 40)).alloc (.cells #[.int .u32 (rkN r : Nat)] 22) := ⟨_, rfl⟩
  have hs : W.heap.size = w.heap.size + 2 := by rw [hW]; simp
  have HB0 : Hid (Below w.heap.size w W) := by rw [hW]; exact below_al (below_al (Below.refl _ _) _) _
  have HX : Hid (∀ w', Below (w.heap.size + 1) W w' → w'.cell? ⟨w.heap.size, 0, none⟩ = some (.slice a zs.length c)) := fun w' h => by
    have hz : (w.alloc (.cells #[.slice a zs.length c] 40)).heap.size = w.heap.size + 1 := by simp
    have h1 : Below (w.heap.size + 1) (w.alloc (.cells #[.slice a zs.length c] 40)) w' := by
      rw [hW] at h
      have h9 := below_al (Below.refl _ (w.alloc (.cells #[.slice a zs.length c] 40))) (.cells #[.int .u32 (rkN r : Nat)] 22)
      rw [hz] at h9
      exact h9.trans h
    have h2 := box_at (w := w) (cs := #[.slice a zs.length c]) (t := 40) (w' := w') (by rw [hz]; exact h1) 0
    simpa using h2
  have HR : Hid (∀ w', Below w.heap.size w w' → RdU3 w' w'.heap.size a zs) := fun w' h => (hr.below h).mono h.size
  have HBR : Hid (Boxed W (w.heap.size + 1) 22 (.int .u32 (upN r zs 0 : Nat))) := by
    have h := Boxed.new (w.alloc (.cells #[.slice a zs.length c] 40)) 22 (.int .u32 (rkN r : Nat))
    rw [← hW] at h
    simpa [Hid, upN] using h
  have HW := Lib.hid hW
  clear hW hr
  refine calls_of_marks Tryz.func19 rfl ?_
  simp only [Tryz.ntmps19, List.size_toArray, List.length_cons, List.length_nil, Nat.reduceAdd, Nat.reduceSub, Array.replicate_succ, Array.replicate_zero, List.push_toArray, List.append_toArray, List.nil_append, List.cons_append]
  go_upto_region 1 with fail
  go_cut [12] from 7 to 11 (fun v12 wx => v12 = .bool (decide (r < 0 ∨ 2 < r)) ∧ wx = w.alloc (.cells #[.slice a zs.length c] 40))
  case first =>
    clear HX HR HBR HB0 HW hs
    by_cases h0 : r < 0
    · have h0' : decide (r < 0) = true := by simp; omega
      have HK : Hid (decide (r < 0 ∨ 2 < r) = true) := by rw [Hid]; simp; omega
      generalize decide (r < 0 ∨ 2 < r) = q at *
      clear h0
      go_wp2_with fail
      go_meet
      case rel => exact ⟨by rw [HK.out], rfl⟩
    · have h0' : decide (r < 0) = false := by simp; omega
      by_cases h2 : 2 < r
      · have h2' : decide (2 < r) = true := by simp; omega
        have HK : Hid (decide (r < 0 ∨ 2 < r) = true) := by rw [Hid]; simp; omega
        generalize decide (r < 0 ∨ 2 < r) = q at *
        clear h0 h2
        go_wp2_with fail
        go_meet
        case rel => exact ⟨by rw [HK.out], rfl⟩
      · have h2' : decide (2 < r) = false := by simp; omega
        have HK : Hid (decide (r < 0 ∨ 2 < r) = false) := by rw [Hid]; simp; omega
        generalize decide (r < 0 ∨ 2 < r) = q at *
        clear h0 h2
        go_wp2_with fail
        go_meet
        case rel => exact ⟨by rw [HK.out], rfl⟩
  case rest =>
  obtain ⟨rfl, rfl⟩ := hcut
  go_upto_if 12 with fail
  go_cut [0] from 7 to 12 (fun v0 wx => ∃ r2 : Nat, v0 = .int .i64 (r2 : Nat) ∧ Hid (r2 ≤ 2 ∧ 128 * r2 = rkN r) ∧ wx = w.alloc (.cells #[.slice a zs.length c] 40))
  case first =>
    clear HX HR HBR HB0 HW hs
    by_cases h0 : r < 0 ∨ 2 < r
    · have HK : Hid (rkN r = 0) := by rw [Hid]; simp [rkN]; omega
      rw [decide_eq_true h0]
      clear h0
      go_wp2_with fail
      go_meet
      case rel => exact ⟨0, rfl, ⟨by omega, by rw [HK.out]⟩, rfl⟩
    · have HK : Hid (r.toNat ≤ 2 ∧ 128 * r.toNat = rkN r ∧ r = (r.toNat : Nat)) := ⟨by omega, by simp [rkN]; omega, by omega⟩
      rw [decide_eq_false h0]
      clear h0
      go_wp2_with fail
      go_meet
      case rel => exact ⟨r.toNat, by rw [← HK.out.2.2], ⟨HK.out.1, HK.out.2.1⟩, rfl⟩
  case rest =>
    obtain ⟨r2, rfl, HR2, rfl⟩ := hcut
    have hm1 : (r2 : Int) % 4294967296 = (r2 : Int) := by have := HR2.out.1; omega
    have hm2 : (128 * (r2 : Int)) % 4294967296 = ((rkN r : Nat) : Int) := by have := HR2.out.1; have := HR2.out.2; omega
    go_wp2_with fail
    rw [← HW.out]
    refine (both_any W).mono ?_
    rintro e w2 ⟨rfl, h2⟩
    rw [h2]
    clear h2 w2
    go_wp2_with fail
    have hIO : OwnFrom W.heap.size (fun (k : Nat) X => Boxed X (w.heap.size + 1) 22 (.int .u32 (upN r zs k : Nat)) ∧ Below w.heap.size w X ∧ Below (w.heap.size + 1) W X) :=
      OwnFrom.and ((boxed_own _ _ _).from _) (OwnFrom.and (ownFrom_below (Nat.le_refl _) (by omega)) (ownFrom_below (by omega) (by omega)))
    refine wp_rangeGoesO_at (gf := 72) (lb := #[]) 6 (fun k => .int .u32 (flg k)) rfl (enters_of Tryz.func72 (by kernel_rfl) rfl)
      (both_goes (fun _ => False) W (fun b hb => hb.elim)) (fun b hb => hb.elim) _ (fun _ _ _ => False) hIO (fun _ _ _ _ _ hs _ _ => hs) ⟨HBR.out, HB0.out, Below.refl _ _⟩ ?assign ?body ?done ?stop
    case assign =>
      intro l k X K hK
      simp only [List.setIfInBounds_toArray, List.set_cons_succ, List.set_cons_zero] at hK ⊢
      have HK := Lib.hid hK
      clear hK
      gi_wp2
      exact HK.out
    case body =>
      rintro l k X hk hl _ ⟨hbx, hbi, hbw⟩
      have y0 := HX.out X hbw
      have HBX := Lib.hid hbx
      have HBI := Lib.hid hbi
      have HBW := Lib.hid hbw
      have z0 := hbx.cell
      have zf := hbx.frozen
      clear hbx hbi hbw hIO
      simp only [List.setIfInBounds_toArray, List.set_cons_succ, List.set_cons_zero]
      have hk2 : k = 0 ∨ k = 1 := by omega
      rcases hk2 with rfl | rfl
      · rw [show flg 0 = (((2 : Nat) : Int)) from rfl]
        have HIN : Hid (decide (2 ∈ zs) = decide (2 ∈ zs)) := rfl
        have HST : Hid (upN r zs 1 = upN r zs 0 + (if decide (2 ∈ zs) = true then 2 else 0)) := by rw [Hid]; by_cases h : 2 ∈ zs <;> simp [upN, h]
        have HOR : Hid (bits .or .u32 (((upN r zs 0 : Nat)) : Int) 2 = ((upN r zs 0 + 2 : Nat) : Int)) := by
          rw [Hid, show (2 : Int) = ((2 : Nat) : Int) from rfl, u32_or_nat _ _ (upN_lt r zs 0) (by decide), upN_or2 r zs]
        obtain ⟨u, hu⟩ : ∃ u, u = upN r zs 0 := ⟨_, rfl⟩
        obtain ⟨u1, hu1⟩ : ∃ u1, u1 = upN r zs 1 := ⟨_, rfl⟩
        rw [← hu] at HOR HST z0 HBX
        rw [← hu1] at HST
        have HU1 := Lib.hid hu1
        have HC : Hid (Calls Tryz.prog 45 #[.slice a zs.length c, .int .u32 2] X fun e w' => e = .returned (.bool (decide (2 ∈ zs))) ∧ X = w') := containsU_any a c zs 2 X hlen (HR.out X HBI.out) (by omega)
        generalize decide (2 ∈ zs) = q at *
        clear hu hu1
        gi_wp2
        refine ⟨trivial, ?_⟩
        refine (CallsIn.inRound l (callsIn_wide.2 HC.out)).mono ?_
        rintro e w1 ⟨rfl, rfl⟩
        cases q
        · gi_wp2
          refine ⟨KeepsFrom.refl _ _, fun _ _ => rfl, ?_, HBI.out, HBW.out⟩
          show Boxed _ _ _ (.int .u32 ((upN r zs 1 : Nat) : Int))
          rw [← HU1.out, show u1 = u by simpa using HST.out]
          exact HBX.out
        · have hor := HOR.out
          gi_wp2
          refine ⟨(KeepsOthers.setCell _ _ _).from _, fun b hb => ?_, ?_, HBI.out.setCell (p := ⟨w.heap.size + 1, 0, none⟩) (by simp) _, HBW.out.setCell (p := ⟨w.heap.size + 1, 0, none⟩) (by simp) _⟩
          · rcases hb with hb | hb
            · exact hb.elim
            · exact Below.heap_setCell _ _ _ b (by have := hb.1; show b ≠ w.heap.size + 1; omega)
          · show Boxed _ _ _ (.int .u32 ((upN r zs 1 : Nat) : Int))
            rw [← HU1.out, show u1 = u + 2 by simpa using HST.out]
            exact HBX.out.set _
      · rw [show flg 1 = (((32 : Nat) : Int)) from rfl]
        have HIN : Hid (decide (32 ∈ zs) = decide (32 ∈ zs)) := rfl
        have HST : Hid (upN r zs 2 = upN r zs 1 + (if decide (32 ∈ zs) = true then 32 else 0)) := by rw [Hid]; by_cases h : 32 ∈ zs <;> simp [upN, h]
        have HOR : Hid (bits .or .u32 (((upN r zs 1 : Nat)) : Int) 32 = ((upN r zs 1 + 32 : Nat) : Int)) := by
          rw [Hid, show (32 : Int) = ((32 : Nat) : Int) from rfl, u32_or_nat _ _ (upN_lt r zs 1) (by decide), upN_or32 r zs]
        obtain ⟨u, hu⟩ : ∃ u, u = upN r zs 1 := ⟨_, rfl⟩
        obtain ⟨u1, hu1⟩ : ∃ u1, u1 = upN r zs 2 := ⟨_, rfl⟩
        rw [← hu] at HOR HST z0 HBX
        rw [← hu1] at HST
        have HU1 := Lib.hid hu1
        have HC : Hid (Calls Tryz.prog 45 #[.slice a zs.length c, .int .u32 32] X fun e w' => e = .returned (.bool (decide (32 ∈ zs))) ∧ X = w') := containsU_any a c zs 32 X hlen (HR.out X HBI.out) (by omega)
        generalize decide (32 ∈ zs) = q at *
        clear hu hu1
        gi_wp2
        refine ⟨trivial, ?_⟩
        refine (CallsIn.inRound l (callsIn_wide.2 HC.out)).mono ?_
        rintro e w1 ⟨rfl, rfl⟩
        cases q
        · gi_wp2
          refine ⟨KeepsFrom.refl _ _, fun _ _ => rfl, ?_, HBI.out, HBW.out⟩
          show Boxed _ _ _ (.int .u32 ((upN r zs 2 : Nat) : Int))
          rw [← HU1.out, show u1 = u by simpa using HST.out]
          exact HBX.out
        · have hor := HOR.out
          gi_wp2
          refine ⟨(KeepsOthers.setCell _ _ _).from _, fun b hb => ?_, ?_, HBI.out.setCell (p := ⟨w.heap.size + 1, 0, none⟩) (by simp) _, HBW.out.setCell (p := ⟨w.heap.size + 1, 0, none⟩) (by simp) _⟩
          · rcases hb with hb | hb
            · exact hb.elim
            · exact Below.heap_setCell _ _ _ b (by have := hb.1; show b ≠ w.heap.size + 1; omega)
          · show Boxed _ _ _ (.int .u32 ((upN r zs 2 : Nat) : Int))
            rw [← HU1.out, show u1 = u + 32 by simpa using HST.out]
            exact HBX.out.set _
    case done =>
      rintro D X hD ⟨hbx, hbi, hbw⟩ hK
      have HBX := Lib.hid hbx
      have HBI := Lib.hid hbi
      have HK2 := Lib.hid hK
      have z0 := hbx.cell
      clear hbx hbi hbw hIO hK
      go_wp2
      refine marks_one HK2.out (results_tmp rfl _ _ _) ⟨rfl, ?_⟩
      exact HBI.out.grown (grownBy_putObj' _ _ _) HBI.out.size (fun r e => by cases e; omega)
    case stop =>
      rintro D c k X hD hk hf hK
      exact hf.elim

end Go.Proofs.YtlmdbeccfoncpaaGreatDoor

namespace Go.Proofs.YtlmdbeccfoncpaaGreatDoor
open Go Go.RowKit Go.Shelf
set_option linter.unusedSimpArgs false
set_option linter.unusedVariables false
set_option maxRecDepth 100000


/-- A flag's bits, if it is among these. -/
def inN (φ : Nat) (zs : List Nat) : Nat := if φ ∈ zs then φ else 0

theorem inN_yes {zs : List Nat} {k φ : Nat} (h : k < zs.length) (h2 : zs[k]?.getD 0 = φ) : inN φ (zs.take (k + 1)) = φ := by
  unfold inN
  rw [List.take_succ_eq_append_getElem h]
  rw [List.getElem?_eq_getElem h] at h2
  rw [if_pos]
  simp only [List.mem_append, List.mem_singleton]
  exact .inr h2.symm

theorem inN_no {zs : List Nat} {k φ : Nat} (h : k < zs.length) (h2 : zs[k]?.getD 0 ≠ φ) : inN φ (zs.take (k + 1)) = inN φ (zs.take k) := by
  unfold inN
  rw [List.take_succ_eq_append_getElem h]
  rw [List.getElem?_eq_getElem h] at h2
  have h3 : ¬ φ = zs[k] := fun e => h2 (by simp [e])
  simp only [List.mem_append, List.mem_singleton, h3, or_false]

theorem inN_le (φ : Nat) (zs : List Nat) : inN φ zs ≤ φ := by
  unfold inN
  split <;> omega

theorem upN_inN (r : Int) (zs : List Nat) : upN r zs 2 = rkN r + inN 2 zs + inN 32 zs := by
  simp [upN, inN]

set_option maxHeartbeats 8000000 in
theorem refFlags_any (r : Int) (a : Option Addr) (c : Nat) (zs : List Nat) (w : World) (hlen : zs.length ≤ 1000000) (hr : RdU3 w w.heap.size a zs) :
    Calls Tryz.prog 20 #[.int .i64 r, .slice a zs.length c] w fun e w' => e = .returned (.int .u32 (upN r zs 2 : Nat)) ∧ w = w' := by
  have HR := Lib.hid hr
  clear hr
  go_enter Tryz.func20, Tryz.ntmps20
  go_upto_region 2 with fail
  go_cut [14] from 9 to 13 (fun v14 wx => v14 = .bool (decide (0 ≤ r ∧ r ≤ 2)) ∧ w = wx)
  case first =>
    by_cases h0 : 0 ≤ r
    · have h0' : decide (0 ≤ r) = true := by simp; omega
      by_cases h2 : r ≤ 2
      · have h2' : decide (r ≤ 2) = true := by simp; omega
        have HK : Hid (decide (0 ≤ r ∧ r ≤ 2) = true) := by rw [Hid]; simp; omega
        generalize decide (0 ≤ r ∧ r ≤ 2) = q at *
        clear h0 h2
        go_wp2_with fail
        go_meet
        case rel => exact ⟨by rw [HK.out], rfl⟩
      · have h2' : decide (r ≤ 2) = false := by simp; omega
        have HK : Hid (decide (0 ≤ r ∧ r ≤ 2) = false) := by rw [Hid]; simp; omega
        generalize decide (0 ≤ r ∧ r ≤ 2) = q at *
        clear h0 h2
        go_wp2_with fail
        go_meet
        case rel => exact ⟨by rw [HK.out], rfl⟩
    · have h0' : decide (0 ≤ r) = false := by simp; omega
      have HK : Hid (decide (0 ≤ r ∧ r ≤ 2) = false) := by rw [Hid]; simp; omega
      generalize decide (0 ≤ r ∧ r ≤ 2) = q at *
      clear h0
      go_wp2_with fail
      go_meet
      case rel => exact ⟨by rw [HK.out], rfl⟩
  case rest =>
  obtain ⟨rfl, rfl⟩ := hcut
  go_upto_if 14 with fail
  go_cut [5] from 9 to 17 (fun v5 wx => v5 = .int .u32 (rkN r : Nat) ∧ w = wx)
  case first =>
    by_cases h0 : 0 ≤ r ∧ r ≤ 2
    · obtain ⟨r2, rfl⟩ : ∃ r2 : Nat, r = r2 := ⟨r.toNat, by omega⟩
      have HK : Hid (rkN (r2 : Int) = 128 * r2) := by rw [Hid]; unfold rkN; rw [if_pos h0]; simp
      have hw1 : IntKind.i64.wrap (128 * (r2 : Int)) = 128 * (r2 : Int) := by
        simp [IntKind.wrap, IntKind.signed, IntKind.bits]
        omega
      have hw2 : (128 * (r2 : Int)) % 4294967296 = 128 * (r2 : Int) := by omega
      rw [decide_eq_true h0]
      clear h0
      go_wp2_with fail
      go_meet
      case rel => exact ⟨by rw [HK.out]; simp, rfl⟩
    · have HK : Hid (rkN r = 0) := by rw [Hid]; unfold rkN; rw [if_neg h0]
      rw [decide_eq_false h0]
      clear h0
      go_wp2_with fail
      go_meet
      case rel => exact ⟨by rw [HK.out]; rfl, rfl⟩
  case rest =>
  obtain ⟨rfl, rfl⟩ := hcut
  go_wp2_with fail
  go_loopw [6, 7, 8] (fun s6 s7 i wr => ∃ k : Nat, k ≤ zs.length ∧ i = .int .i64 k ∧ s6 = .int .u32 (inN 2 (zs.take k) : Nat) ∧ s7 = .int .u32 (inN 32 (zs.take k) : Nat) ∧ w = wr) (fun _ _ i _ => zs.length - (intOf i).toNat)
  case atStart => exact ⟨0, Nat.zero_le _, rfl, by simp [inN], by simp [inN], rfl⟩
  case round =>
    obtain ⟨k, hk, rfl, rfl, rfl, rfl⟩ := hrel
    by_cases hlt : k < zs.length
    · obtain ⟨g, o, rfl, hg, hc0⟩ := HR.out.at k hlt
      have HS : Hid (∀ φ, zs[k]?.getD 0 = φ → inN φ (zs.take (k + 1)) = φ) := fun φ h => inN_yes hlt h
      have HH2 : Hid (zs[k]?.getD 0 ≠ 2 → inN 2 (zs.take (k + 1)) = inN 2 (zs.take k)) := fun h => inN_no hlt h
      have HH32 : Hid (zs[k]?.getD 0 ≠ 32 → inN 32 (zs.take (k + 1)) = inN 32 (zs.take k)) := fun h => inN_no hlt h
      generalize zs[k]?.getD 0 = x at *
      generalize inN 2 (zs.take k) = y2 at *
      generalize inN 32 (zs.take k) = y32 at *
      by_cases h2 : x = 2
      · subst h2
        have HA := Lib.hid (HS.out 2 rfl)
        have HB := Lib.hid (HH32.out (by decide))
        go_wp2_with fail
        go_roundw
        case rel => exact ⟨k + 1, by omega, by go_num, by rw [HA.out]; rfl, by rw [HB.out], trivial⟩
        case measure => simp [intOf]; omega
      · have hn2 : ((x : Int) == 2) = false := by simp; omega
        have HA := Lib.hid (HH2.out h2)
        clear h2
        by_cases h32 : x = 32
        · subst h32
          have HB := Lib.hid (HS.out 32 rfl)
          go_wp2_with fail
          go_roundw
          case rel => exact ⟨k + 1, by omega, by go_num, by rw [HA.out], by rw [HB.out]; rfl, trivial⟩
          case measure => simp [intOf]; omega
        · have hn32 : ((x : Int) == 32) = false := by simp; omega
          have HB := Lib.hid (HH32.out h32)
          clear h32
          go_wp2_with fail
          go_roundw
          case rel => exact ⟨k + 1, by omega, by go_num, by rw [HA.out], by rw [HB.out], trivial⟩
          case measure => simp [intOf]; omega
    · obtain rfl : k = zs.length := by omega
      rw [List.take_length]
      have HU : Hid (upN r zs 2 = rkN r + inN 2 zs + inN 32 zs) := upN_inN r zs
      have h3 := rkN_or r
      have h4 := inN_le 2 zs
      have h5 := inN_le 32 zs
      generalize inN 2 zs = y2 at *
      generalize inN 32 zs = y32 at *
      generalize rkN r = y at *
      have hs1 : ((y : Int) + (y2 : Int)) % 4294967296 = (y : Int) + (y2 : Int) := by omega
      have hs2 : ((y : Int) + (y2 : Int) + (y32 : Int)) % 4294967296 = (y : Int) + (y2 : Int) + (y32 : Int) := by omega
      clear h3 h4 h5
      go_wp2_with fail
      go_ret
      exact ⟨by rw [HU.out]; simp [Array.getD, Int.add_assoc], rfl⟩

end Go.Proofs.YtlmdbeccfoncpaaGreatDoor

namespace Go.Proofs.YtlmdbeccfoncpaaGreatDoor
open Go Go.RowKit Go.Shelf
set_option linter.unusedSimpArgs false
set_option linter.unusedVariables false
set_option maxRecDepth 100000


def pm1 : Pm := ⟨0, 0, 2, 0, 1, 0, 0, 0, 5, 6, 7⟩
def pm0 : Pm := ⟨0, 0, 0, 0, 1, 0, 0, 0, 5, 6, 7⟩
def pm3 : Pm := ⟨384, 0, 2, 0, 1, 0, 0, 0, 5, 6, 7⟩
def pm2 : Pm := ⟨256, 0, 0, 0, 0, 0, 0, 0, 0, 0, 0⟩

theorem pm1_ok : pm1.ok := ⟨by decide, by decide, by decide, by decide, by decide, by decide, by decide, by decide, by decide, by decide⟩
theorem pm0_ok : pm0.ok := ⟨by decide, by decide, by decide, by decide, by decide, by decide, by decide, by decide, by decide, by decide⟩
theorem pm3_ok : pm3.ok := ⟨by decide, by decide, by decide, by decide, by decide, by decide, by decide, by decide, by decide, by decide⟩
theorem pm2_ok : pm2.ok := ⟨by decide, by decide, by decide, by decide, by decide, by decide, by decide, by decide, by decide, by decide⟩
theorem pm1_right : pm1.right = true := by decide +kernel
theorem pm0_er : pm0.er = 2 := by decide +kernel
theorem pm3_er : pm3.er = 2 := by decide +kernel
theorem pm2_rank : pm2.rank = 2 := by decide +kernel
theorem pm1_exp : addT 5 7 = 12 := by decide +kernel
def lit1 : List UInt8 := [136, 7, 0, 0, 130, 2, 130, 2, 0, 130, 2, 130, 1, 0, 130, 1, 0, 130, 5, 6, 7]
theorem pm1_bytes : encP pm1 0 = lit1 := by decide +kernel
theorem pm1_err : (itO pm1 0 []).err = 0 := by decide +kernel
theorem pm1_depth0 (bs : List UInt8) : (itO pm1 0 bs).depth ≤ 60000 := by
  unfold itO
  rw [if_pos rfl]
  decide +kernel


theorem pm1_depth (wd : Nat) (bs : List UInt8) : (itO pm1 wd bs).depth ≤ 60000 := by
  unfold itO
  by_cases h : wd = 0
  · rw [if_pos h]
    decide +kernel
  · rw [if_neg h]
    exact Nat.le_of_ble_eq_true rfl

set_option maxHeartbeats 4000000 in
theorem first_any6 (w : World) : Calls Tryz.prog 36 #[] w fun e w' => e = .returned (.agg #[.int .u32 0, .int .i64 0, .int .u32 2, .int .u32 0, .int .u32 1, .int .u32 0, .int .u32 0, .int .u32 0, .int .u64 5, .int .u32 6, .int .u64 7]) ∧ Below w.heap.size w w' := by
  go_enter Tryz.func36, Tryz.ntmps36
  go_wp2
  exact bodyPost_ret (v := .agg #[.int .u32 0, .int .i64 0, .int .u32 2, .int .u32 0, .int .u32 1, .int .u32 0, .int .u32 0, .int .u32 0, .int .u64 5, .int .u32 6, .int .u64 7]) (by simp [results, Tryz.results36, go_sem]) rfl ⟨rfl, below_al (Below.refl _ _) _⟩

theorem num6_any (x : Int) (w : World) : Calls Tryz.prog 9 #[.int .i64 x] w fun e w' => e = .returned (.int .i64 x) ∧ w = w' := by
  go_enter Tryz.func9, Tryz.ntmps9
  go_wp2
  go_ret
  exact ⟨rfl, rfl⟩

theorem enc1_any (w : World) (ht : TabW w) : Calls Tryz.prog 6 #[.agg #[.int .u32 0, .int .i64 0, .int .u32 2, .int .u32 0, .int .u32 1, .int .u32 0, .int .u32 0, .int .u32 0, .int .u64 5, .int .u32 6, .int .u64 7]] w fun e w' => ∃ g C, e = .returned (.tuple #[.slice (some ⟨g, 0, none⟩) 21 C, .int .i64 0]) ∧ (w.heap.size ≤ g ∧ g < w'.heap.size) ∧ RdB w' w'.heap.size (some ⟨g, 0, none⟩) lit1 ∧ Below w.heap.size w w' := by
  refine (prEncode_any pm1 pm1_ok (fun k _ hk bs hb => ?_) (fun k bs => pm1_depth _ bs) w ht).mono ?_
  · have hk0 : k = 0 := by
      have h : ((0 : Int)) = k := hk
      omega
    subst hk0
    obtain rfl : bs = [] := List.eq_nil_of_length_eq_zero hb
    exact pm1_err
  · rintro e w' ⟨hb, ⟨_, u, rfl, ho⟩ | ⟨h, _⟩⟩
    · replace ho : OwnV w' w.heap.size 5 u (lit1.map encB) := by
        have h : encP pm1 pm1.s.toNat = lit1 := pm1_bytes
        rwa [h] at ho
      rcases ho.form with ⟨rfl, hx⟩ | ⟨g, cap, rfl, hg, hlt, hn, _, hc, _⟩
      · exact absurd hx (by decide)
      · exact ⟨g, cap, rfl, ⟨hg, hlt⟩, .inr ⟨g, 0, rfl, hlt, fun j hj => by
          have h := ho.bytes
          obtain ⟨a, c, e, _, hr, _⟩ := h
          simp only [Value.slice.injEq] at e
          obtain ⟨rfl, _, _⟩ := e
          rcases hr with hr | ⟨b, o, e2, _, hc2⟩
          · exact absurd hr (by decide)
          · cases e2
            exact hc2 j hj⟩, hb⟩
    · rw [pm1_right] at h
      cases h

theorem rd32_two (w : World) (t : TypeId) : RdU3 (w.alloc (.cells #[.int .u32 2, .int .u32 2] t)) (w.alloc (.cells #[.int .u32 2, .int .u32 2] t)).heap.size (some ⟨w.heap.size, 0, none⟩) [2, 2] := by
  refine .inr ⟨w.heap.size, 0, rfl, by simp, fun j hj => ?_⟩
  have hj2 : j = 0 ∨ j = 1 := by simp at hj; omega
  rcases hj2 with rfl | rfl <;> simp

set_option maxHeartbeats 16000000 in
theorem prWorks_any (w : World) (ht : TabW w) : Calls Tryz.prog 10 #[] w fun e w' => e = .returned (.bool true) ∧ Below w.heap.size w w' := by
  have HT : Hid (∀ w', Below w.heap.size w w' → TabW w') := fun w' h => ht.on h
  have HC0 : Hid (∀ w, Calls Tryz.prog 7 #[.agg #[.int .u32 0, .int .i64 0, .int .u32 0, .int .u32 0, .int .u32 1, .int .u32 0, .int .u32 0, .int .u32 0, .int .u64 5, .int .u32 6, .int .u64 7]] w fun e w' => e = .returned (.int .i64 2) ∧ Below w.heap.size w w') := fun w => by
    have h := prcheck_any pm0 pm0_ok w
    rw [pm0_er] at h
    exact h
  have HC3 : Hid (∀ w, Calls Tryz.prog 7 #[.agg #[.int .u32 384, .int .i64 0, .int .u32 2, .int .u32 0, .int .u32 1, .int .u32 0, .int .u32 0, .int .u32 0, .int .u64 5, .int .u32 6, .int .u64 7]] w fun e w' => e = .returned (.int .i64 2) ∧ Below w.heap.size w w') := fun w => by
    have h := prcheck_any pm3 pm3_ok w
    rw [pm3_er] at h
    exact h
  have HRK : Hid (∀ w, Calls Tryz.prog 21 #[.agg #[.int .u32 256, .int .i64 0, .int .u32 0, .int .u32 0, .int .u32 0, .int .u32 0, .int .u32 0, .int .u32 0, .int .u64 0, .int .u32 0, .int .u64 0]] w fun e w' => e = .returned (.int .i64 2) ∧ Below w.heap.size w w') := fun w => by
    have h := rank_any pm2 pm2_ok w
    rw [pm2_rank] at h
    exact h
  have HEX : Hid (∀ w, Calls Tryz.prog 23 #[.agg #[.int .u32 0, .int .i64 0, .int .u32 2, .int .u32 0, .int .u32 1, .int .u32 0, .int .u32 0, .int .u32 0, .int .u64 5, .int .u32 6, .int .u64 7]] w fun e w' => e = .returned (.int .u64 12) ∧ Below w.heap.size w w') := fun w => by
    have h := expires_any pm1 w
    exact h
  have HFL : Hid (∀ w a c, RdU3 w w.heap.size a [2, 2] → Calls Tryz.prog 19 #[.int .i64 1, .slice a 2 c] w fun e w' => e = .returned (.int .u32 130) ∧ Below w.heap.size w w') := fun w a c h => by
    have h := flags_any 1 a c [2, 2] w (by decide) h
    have e : upN 1 [2, 2] 2 = 130 := by decide +kernel
    rw [e] at h
    exact h
  have HE := Lib.hid (fun w h => enc1_any w h)
  have HF := Lib.hid (fun w => first_any6 w)
  have HN := Lib.hid (fun x w => num6_any x w)
  clear ht
  go_enter Tryz.func10, Tryz.ntmps10
  go_wp2_with fail
  refine (HF.out w).mono ?_
  rintro e w1 ⟨rfl, hb⟩
  have HB1 := Lib.hid hb
  clear hb
  go_wp2_with fail
  obtain ⟨W, hW⟩ : ∃ W, W = (w1.alloc (.cells #[.int .u32 0, .int .i64 0, .int .u32 2, .int .u32 0, .int .u32 1, .int .u32 0, .int .u32 0, .int .u32 0, .int .u64 5, .int .u32 6, .int .u64 7] 28)) := ⟨_, rfl⟩
  have HBW : Hid (Below w1.heap.size w1 W) := by rw [hW]; exact below_al (Below.refl _ _) _
  have hsW : W.heap.size = w1.heap.size + 1 := by rw [hW]; simp
  have HX : Hid (∀ w', Below W.heap.size W w' → (w'.cell? ⟨w1.heap.size, 0, none⟩ = some (.int .u32 0) ∧ w'.cell? ⟨w1.heap.size, 1, none⟩ = some (.int .i64 0) ∧ w'.cell? ⟨w1.heap.size, 2, none⟩ = some (.int .u32 2) ∧ w'.cell? ⟨w1.heap.size, 3, none⟩ = some (.int .u32 0) ∧ w'.cell? ⟨w1.heap.size, 4, none⟩ = some (.int .u32 1) ∧ w'.cell? ⟨w1.heap.size, 5, none⟩ = some (.int .u32 0) ∧ w'.cell? ⟨w1.heap.size, 6, none⟩ = some (.int .u32 0) ∧ w'.cell? ⟨w1.heap.size, 7, none⟩ = some (.int .u32 0) ∧ w'.cell? ⟨w1.heap.size, 8, none⟩ = some (.int .u64 5) ∧ w'.cell? ⟨w1.heap.size, 9, none⟩ = some (.int .u32 6) ∧ w'.cell? ⟨w1.heap.size, 10, none⟩ = some (.int .u64 7)) ∧ (w'.frozen? ⟨w1.heap.size, 0, none⟩ = false ∧ w'.frozen? ⟨w1.heap.size, 1, none⟩ = false ∧ w'.frozen? ⟨w1.heap.size, 2, none⟩ = false ∧ w'.frozen? ⟨w1.heap.size, 3, none⟩ = false ∧ w'.frozen? ⟨w1.heap.size, 4, none⟩ = false ∧ w'.frozen? ⟨w1.heap.size, 5, none⟩ = false ∧ w'.frozen? ⟨w1.heap.size, 6, none⟩ = false ∧ w'.frozen? ⟨w1.heap.size, 7, none⟩ = false ∧ w'.frozen? ⟨w1.heap.size, 8, none⟩ = false ∧ w'.frozen? ⟨w1.heap.size, 9, none⟩ = false ∧ w'.frozen? ⟨w1.heap.size, 10, none⟩ = false)) := fun w' h => by
    rw [hW] at h
    exact ⟨⟨box_at h 0, box_at h 1, box_at h 2, box_at h 3, box_at h 4, box_at h 5, box_at h 6, box_at h 7, box_at h 8, box_at h 9, box_at h 10⟩, ⟨frozen_at h 0, frozen_at h 1, frozen_at h 2, frozen_at h 3, frozen_at h 4, frozen_at h 5, frozen_at h 6, frozen_at h 7, frozen_at h 8, frozen_at h 9, frozen_at h 10⟩⟩
  have HWw : Hid (Below w.heap.size w W) := below_on HB1.out HBW.out
  have HW := Lib.hid hW
  rw [← hW]
  clear hW
  refine (HE.out W (HT.out W HWw.out)).mono ?_
  rintro e w2 ⟨g, C, rfl, ⟨hg1, hg2⟩, hr, hb⟩
  have HB2 := Lib.hid hb
  have HR2 := Lib.hid hr
  have HG := Lib.hid (show w1.heap.size < g by omega)
  obtain ⟨⟨x0, x1, x2, x3, x4, x5, x6, x7, x8, x9, x10⟩, f0, f1, f2, f3, f4, f5, f6, f7, f8, f9, f10⟩ := HX.out w2 hb
  clear hb hr hg1
  go_wp2_with fail
  obtain ⟨W3, hW3⟩ : ∃ W3, W3 = ((w2.setCell ⟨w1.heap.size, 2, none⟩ (.int .u32 0)).setCell ⟨w1.heap.size, 3, none⟩ (.int .u32 0)) := ⟨_, rfl⟩
  have HX3 : Hid (∀ w', Below W3.heap.size W3 w' → (w'.cell? ⟨w1.heap.size, 0, none⟩ = some (.int .u32 0) ∧ w'.cell? ⟨w1.heap.size, 1, none⟩ = some (.int .i64 0) ∧ w'.cell? ⟨w1.heap.size, 2, none⟩ = some (.int .u32 0) ∧ w'.cell? ⟨w1.heap.size, 3, none⟩ = some (.int .u32 0) ∧ w'.cell? ⟨w1.heap.size, 4, none⟩ = some (.int .u32 1) ∧ w'.cell? ⟨w1.heap.size, 5, none⟩ = some (.int .u32 0) ∧ w'.cell? ⟨w1.heap.size, 6, none⟩ = some (.int .u32 0) ∧ w'.cell? ⟨w1.heap.size, 7, none⟩ = some (.int .u32 0) ∧ w'.cell? ⟨w1.heap.size, 8, none⟩ = some (.int .u64 5) ∧ w'.cell? ⟨w1.heap.size, 9, none⟩ = some (.int .u32 6) ∧ w'.cell? ⟨w1.heap.size, 10, none⟩ = some (.int .u64 7)) ∧ (w'.frozen? ⟨w1.heap.size, 0, none⟩ = false ∧ w'.frozen? ⟨w1.heap.size, 1, none⟩ = false ∧ w'.frozen? ⟨w1.heap.size, 2, none⟩ = false ∧ w'.frozen? ⟨w1.heap.size, 3, none⟩ = false ∧ w'.frozen? ⟨w1.heap.size, 4, none⟩ = false ∧ w'.frozen? ⟨w1.heap.size, 5, none⟩ = false ∧ w'.frozen? ⟨w1.heap.size, 6, none⟩ = false ∧ w'.frozen? ⟨w1.heap.size, 7, none⟩ = false ∧ w'.frozen? ⟨w1.heap.size, 8, none⟩ = false ∧ w'.frozen? ⟨w1.heap.size, 9, none⟩ = false ∧ w'.frozen? ⟨w1.heap.size, 10, none⟩ = false)) := fun w' h => by
    have hlt : w1.heap.size < W3.heap.size := by rw [hW3]; simp; have := HB2.out.size; omega
    have h0 : (W3.cell? ⟨w1.heap.size, 0, none⟩ = some (.int .u32 0) ∧ W3.cell? ⟨w1.heap.size, 1, none⟩ = some (.int .i64 0) ∧ W3.cell? ⟨w1.heap.size, 2, none⟩ = some (.int .u32 0) ∧ W3.cell? ⟨w1.heap.size, 3, none⟩ = some (.int .u32 0) ∧ W3.cell? ⟨w1.heap.size, 4, none⟩ = some (.int .u32 1) ∧ W3.cell? ⟨w1.heap.size, 5, none⟩ = some (.int .u32 0) ∧ W3.cell? ⟨w1.heap.size, 6, none⟩ = some (.int .u32 0) ∧ W3.cell? ⟨w1.heap.size, 7, none⟩ = some (.int .u32 0) ∧ W3.cell? ⟨w1.heap.size, 8, none⟩ = some (.int .u64 5) ∧ W3.cell? ⟨w1.heap.size, 9, none⟩ = some (.int .u32 6) ∧ W3.cell? ⟨w1.heap.size, 10, none⟩ = some (.int .u64 7)) ∧ (W3.frozen? ⟨w1.heap.size, 0, none⟩ = false ∧ W3.frozen? ⟨w1.heap.size, 1, none⟩ = false ∧ W3.frozen? ⟨w1.heap.size, 2, none⟩ = false ∧ W3.frozen? ⟨w1.heap.size, 3, none⟩ = false ∧ W3.frozen? ⟨w1.heap.size, 4, none⟩ = false ∧ W3.frozen? ⟨w1.heap.size, 5, none⟩ = false ∧ W3.frozen? ⟨w1.heap.size, 6, none⟩ = false ∧ W3.frozen? ⟨w1.heap.size, 7, none⟩ = false ∧ W3.frozen? ⟨w1.heap.size, 8, none⟩ = false ∧ W3.frozen? ⟨w1.heap.size, 9, none⟩ = false ∧ W3.frozen? ⟨w1.heap.size, 10, none⟩ = false) := by
      rw [hW3]
      refine ⟨⟨?_, ?_, ?_, ?_, ?_, ?_, ?_, ?_, ?_, ?_, ?_⟩, ?_, ?_, ?_, ?_, ?_, ?_, ?_, ?_, ?_, ?_, ?_⟩ <;> go_simp
    obtain ⟨⟨y0, y1, y2, y3, y4, y5, y6, y7, y8, y9, y10⟩, z0, z1, z2, z3, z4, z5, z6, z7, z8, z9, z10⟩ := h0
    exact ⟨⟨(h.cell (p := ⟨w1.heap.size, 0, none⟩) hlt).trans y0, (h.cell (p := ⟨w1.heap.size, 1, none⟩) hlt).trans y1, (h.cell (p := ⟨w1.heap.size, 2, none⟩) hlt).trans y2, (h.cell (p := ⟨w1.heap.size, 3, none⟩) hlt).trans y3, (h.cell (p := ⟨w1.heap.size, 4, none⟩) hlt).trans y4, (h.cell (p := ⟨w1.heap.size, 5, none⟩) hlt).trans y5, (h.cell (p := ⟨w1.heap.size, 6, none⟩) hlt).trans y6, (h.cell (p := ⟨w1.heap.size, 7, none⟩) hlt).trans y7, (h.cell (p := ⟨w1.heap.size, 8, none⟩) hlt).trans y8, (h.cell (p := ⟨w1.heap.size, 9, none⟩) hlt).trans y9, (h.cell (p := ⟨w1.heap.size, 10, none⟩) hlt).trans y10⟩, (h.frozen (p := ⟨w1.heap.size, 0, none⟩) hlt).trans z0, (h.frozen (p := ⟨w1.heap.size, 1, none⟩) hlt).trans z1, (h.frozen (p := ⟨w1.heap.size, 2, none⟩) hlt).trans z2, (h.frozen (p := ⟨w1.heap.size, 3, none⟩) hlt).trans z3, (h.frozen (p := ⟨w1.heap.size, 4, none⟩) hlt).trans z4, (h.frozen (p := ⟨w1.heap.size, 5, none⟩) hlt).trans z5, (h.frozen (p := ⟨w1.heap.size, 6, none⟩) hlt).trans z6, (h.frozen (p := ⟨w1.heap.size, 7, none⟩) hlt).trans z7, (h.frozen (p := ⟨w1.heap.size, 8, none⟩) hlt).trans z8, (h.frozen (p := ⟨w1.heap.size, 9, none⟩) hlt).trans z9, (h.frozen (p := ⟨w1.heap.size, 10, none⟩) hlt).trans z10⟩
  have HG3 : Hid (W3.heap[g]? = w2.heap[g]?) := by
    have := HG.out
    rw [hW3, Hid, Below.heap_setCell _ _ _ _ (by show g ≠ w1.heap.size; omega), Below.heap_setCell _ _ _ _ (by show g ≠ w1.heap.size; omega)]
  have HB3 : Hid (Below w1.heap.size w1 W3) := by
    rw [hW3]
    exact (((below_on HBW.out HB2.out).setCell (p := ⟨w1.heap.size, 2, none⟩) (Nat.le_refl _) _).setCell (p := ⟨w1.heap.size, 3, none⟩) (Nat.le_refl _) _)
  have hs3 : W3.heap.size = w2.heap.size := by rw [hW3]; simp
  have HW3 := Lib.hid hW3
  rw [← hW3]
  clear hW3 x0 x1 x2 x3 x4 x5 x6 x7 x8 x9 x10 f0 f1 f2 f3 f4 f5 f6 f7 f8 f9 f10
  refine (HC0.out W3).mono ?_
  rintro e w4 ⟨rfl, hb⟩
  have HB4 := Lib.hid hb
  clear hb
  go_wp2_with fail
  refine (HF.out w4).mono ?_
  rintro e W5 ⟨rfl, hb⟩
  have HB5 := Lib.hid (below_on HB4.out hb)
  obtain ⟨⟨x0, x1, x2, x3, x4, x5, x6, x7, x8, x9, x10⟩, f0, f1, f2, f3, f4, f5, f6, f7, f8, f9, f10⟩ := HX3.out W5 HB5.out
  clear hb
  go_wp2_with fail
  obtain ⟨W6, hW6⟩ : ∃ W6, W6 = ((((((((((((W5.setCell ⟨w1.heap.size, 0, none⟩ (.int .u32 0)).setCell ⟨w1.heap.size, 1, none⟩ (.int .i64 0)).setCell ⟨w1.heap.size, 2, none⟩ (.int .u32 2)).setCell ⟨w1.heap.size, 3, none⟩ (.int .u32 0)).setCell ⟨w1.heap.size, 4, none⟩ (.int .u32 1)).setCell ⟨w1.heap.size, 5, none⟩ (.int .u32 0)).setCell ⟨w1.heap.size, 6, none⟩ (.int .u32 0)).setCell ⟨w1.heap.size, 7, none⟩ (.int .u32 0)).setCell ⟨w1.heap.size, 8, none⟩ (.int .u64 5)).setCell ⟨w1.heap.size, 9, none⟩ (.int .u32 6)).setCell ⟨w1.heap.size, 10, none⟩ (.int .u64 7)).setCell ⟨w1.heap.size, 0, none⟩ (.int .u32 384)) := ⟨_, rfl⟩
  have HX6 : Hid (∀ w', Below W6.heap.size W6 w' → (w'.cell? ⟨w1.heap.size, 0, none⟩ = some (.int .u32 384) ∧ w'.cell? ⟨w1.heap.size, 1, none⟩ = some (.int .i64 0) ∧ w'.cell? ⟨w1.heap.size, 2, none⟩ = some (.int .u32 2) ∧ w'.cell? ⟨w1.heap.size, 3, none⟩ = some (.int .u32 0) ∧ w'.cell? ⟨w1.heap.size, 4, none⟩ = some (.int .u32 1) ∧ w'.cell? ⟨w1.heap.size, 5, none⟩ = some (.int .u32 0) ∧ w'.cell? ⟨w1.heap.size, 6, none⟩ = some (.int .u32 0) ∧ w'.cell? ⟨w1.heap.size, 7, none⟩ = some (.int .u32 0) ∧ w'.cell? ⟨w1.heap.size, 8, none⟩ = some (.int .u64 5) ∧ w'.cell? ⟨w1.heap.size, 9, none⟩ = some (.int .u32 6) ∧ w'.cell? ⟨w1.heap.size, 10, none⟩ = some (.int .u64 7))) := fun w' h => by
    have hlt : w1.heap.size < W6.heap.size := by rw [hW6]; simp; have := HB5.out.size; have := HB2.out.size; omega
    have h0 : (W6.cell? ⟨w1.heap.size, 0, none⟩ = some (.int .u32 384) ∧ W6.cell? ⟨w1.heap.size, 1, none⟩ = some (.int .i64 0) ∧ W6.cell? ⟨w1.heap.size, 2, none⟩ = some (.int .u32 2) ∧ W6.cell? ⟨w1.heap.size, 3, none⟩ = some (.int .u32 0) ∧ W6.cell? ⟨w1.heap.size, 4, none⟩ = some (.int .u32 1) ∧ W6.cell? ⟨w1.heap.size, 5, none⟩ = some (.int .u32 0) ∧ W6.cell? ⟨w1.heap.size, 6, none⟩ = some (.int .u32 0) ∧ W6.cell? ⟨w1.heap.size, 7, none⟩ = some (.int .u32 0) ∧ W6.cell? ⟨w1.heap.size, 8, none⟩ = some (.int .u64 5) ∧ W6.cell? ⟨w1.heap.size, 9, none⟩ = some (.int .u32 6) ∧ W6.cell? ⟨w1.heap.size, 10, none⟩ = some (.int .u64 7)) := by
      rw [hW6]
      refine ⟨?_, ?_, ?_, ?_, ?_, ?_, ?_, ?_, ?_, ?_, ?_⟩ <;> go_simp
    obtain ⟨y0, y1, y2, y3, y4, y5, y6, y7, y8, y9, y10⟩ := h0
    exact ⟨(h.cell (p := ⟨w1.heap.size, 0, none⟩) hlt).trans y0, (h.cell (p := ⟨w1.heap.size, 1, none⟩) hlt).trans y1, (h.cell (p := ⟨w1.heap.size, 2, none⟩) hlt).trans y2, (h.cell (p := ⟨w1.heap.size, 3, none⟩) hlt).trans y3, (h.cell (p := ⟨w1.heap.size, 4, none⟩) hlt).trans y4, (h.cell (p := ⟨w1.heap.size, 5, none⟩) hlt).trans y5, (h.cell (p := ⟨w1.heap.size, 6, none⟩) hlt).trans y6, (h.cell (p := ⟨w1.heap.size, 7, none⟩) hlt).trans y7, (h.cell (p := ⟨w1.heap.size, 8, none⟩) hlt).trans y8, (h.cell (p := ⟨w1.heap.size, 9, none⟩) hlt).trans y9, (h.cell (p := ⟨w1.heap.size, 10, none⟩) hlt).trans y10⟩
  have HS6 : Hid (W6.heap.size = W5.heap.size) := by rw [hW6]; simp [Hid]
  have HG6 : Hid (W6.heap[g]? = w2.heap[g]?) := by
    have hgn := HG.out
    rw [hW6, Hid, Below.heap_setCell _ _ _ _ (by show g ≠ w1.heap.size; omega), Below.heap_setCell _ _ _ _ (by show g ≠ w1.heap.size; omega), Below.heap_setCell _ _ _ _ (by show g ≠ w1.heap.size; omega), Below.heap_setCell _ _ _ _ (by show g ≠ w1.heap.size; omega), Below.heap_setCell _ _ _ _ (by show g ≠ w1.heap.size; omega), Below.heap_setCell _ _ _ _ (by show g ≠ w1.heap.size; omega), Below.heap_setCell _ _ _ _ (by show g ≠ w1.heap.size; omega), Below.heap_setCell _ _ _ _ (by show g ≠ w1.heap.size; omega), Below.heap_setCell _ _ _ _ (by show g ≠ w1.heap.size; omega), Below.heap_setCell _ _ _ _ (by show g ≠ w1.heap.size; omega), Below.heap_setCell _ _ _ _ (by show g ≠ w1.heap.size; omega), Below.heap_setCell _ _ _ _ (by show g ≠ w1.heap.size; omega), HB5.out.block g (by omega)]
    exact HG3.out
  have HB6 : Hid (Below w1.heap.size w1 W6) := by
    rw [hW6]
    exact ((((((((((((below_on HB3.out HB5.out).setCell (p := ⟨w1.heap.size, 0, none⟩) (Nat.le_refl _) _).setCell (p := ⟨w1.heap.size, 1, none⟩) (Nat.le_refl _) _).setCell (p := ⟨w1.heap.size, 2, none⟩) (Nat.le_refl _) _).setCell (p := ⟨w1.heap.size, 3, none⟩) (Nat.le_refl _) _).setCell (p := ⟨w1.heap.size, 4, none⟩) (Nat.le_refl _) _).setCell (p := ⟨w1.heap.size, 5, none⟩) (Nat.le_refl _) _).setCell (p := ⟨w1.heap.size, 6, none⟩) (Nat.le_refl _) _).setCell (p := ⟨w1.heap.size, 7, none⟩) (Nat.le_refl _) _).setCell (p := ⟨w1.heap.size, 8, none⟩) (Nat.le_refl _) _).setCell (p := ⟨w1.heap.size, 9, none⟩) (Nat.le_refl _) _).setCell (p := ⟨w1.heap.size, 10, none⟩) (Nat.le_refl _) _).setCell (p := ⟨w1.heap.size, 0, none⟩) (Nat.le_refl _) _
  have HTX : Hid (∀ w', Below W6.heap.size W6 w' → (convert 29 9 (.slice (some ⟨g, 0, none⟩) 21 C)).run Tryz.prog w' = .ok (.string ⟨#[136, 7, 0, 0, 130, 2, 130, 2, 0, 130, 2, 130, 1, 0, 130, 1, 0, 130, 5, 6, 7]⟩) w') := fun w' h => by
    have hlt : g < W6.heap.size := by have := HB5.out.size; have := HS6.out; omega
    have hr6 : RdB w' w'.heap.size (some ⟨g, 0, none⟩) lit1 := by
      rcases HR2.out with h1 | ⟨b, o, e2, _, hc2⟩
      · exact absurd h1 (by decide)
      · cases e2
        exact .inr ⟨g, 0, rfl, Nat.lt_of_lt_of_le hlt h.size, fun j hj => (World.cell?_of_block (a := ⟨g, 0 + j, none⟩) ((h.block g hlt).trans HG6.out)).trans (hc2 j hj)⟩
    exact hr6.text (P := Tryz.prog) 29 9 5 21 C rfl Tryz.underlying29 Tryz.underlying5 Tryz.underlying9
  have HW6 := Lib.hid hW6
  rw [← hW6]
  clear hW6 x0 x1 x2 x3 x4 x5 x6 x7 x8 x9 x10 f0 f1 f2 f3 f4 f5 f6 f7 f8 f9 f10
  refine (HN.out 0 W6).mono ?_
  rintro e w7 ⟨rfl, h7⟩
  rw [← h7]
  clear h7 w7
  have k6 := HTX.out W6 (Below.refl _ _)
  go_wp2_with fail
  obtain ⟨W7, hW7⟩ : ∃ W7, W7 = W6.alloc (.cells #[.int .u32 2, .int .u32 2] 22) := ⟨_, rfl⟩
  have HB7 : Hid (Below W6.heap.size W6 W7) := by rw [hW7]; exact below_al (Below.refl _ _) _
  have HR7 : Hid (RdU3 W7 W7.heap.size (some ⟨W6.heap.size, 0, none⟩) [2, 2]) := by rw [hW7]; exact rd32_two W6 _
  rw [← hW7]
  clear hW7 k6
  refine (HFL.out W7 _ _ HR7.out).mono ?_
  rintro e w8 ⟨rfl, hb⟩
  have HB8 := Lib.hid (below_on HB7.out hb)
  clear hb
  go_wp2_with fail
  refine (HRK.out w8).mono ?_
  rintro e w9 ⟨rfl, hb⟩
  have HB9 := Lib.hid (below_on HB8.out hb)
  clear hb
  go_wp2_with fail
  refine (HF.out w9).mono ?_
  rintro e w10 ⟨rfl, hb⟩
  have HB10 := Lib.hid (below_on HB9.out hb)
  clear hb
  go_wp2_with fail
  refine (HEX.out w10).mono ?_
  rintro e w11 ⟨rfl, hb⟩
  have HB11 := Lib.hid (below_on HB10.out hb)
  clear hb
  go_wp2_with fail
  refine (HN.out 2 w11).mono ?_
  rintro e w12 ⟨rfl, h7⟩
  rw [← h7]
  clear h7 w12
  obtain ⟨x0, x1, x2, x3, x4, x5, x6, x7, x8, x9, x10⟩ := HX6.out w11 HB11.out
  go_wp2_with fail
  refine (HC3.out w11).mono ?_
  rintro e w13 ⟨rfl, hb⟩
  have HB13 := Lib.hid (below_on HB11.out hb)
  clear hb x0 x1 x2 x3 x4 x5 x6 x7 x8 x9 x10
  go_wp2_with fail
  refine (HN.out 2 w13).mono ?_
  rintro e w14 ⟨rfl, h7⟩
  rw [← h7]
  clear h7 w14
  go_wp2_with fail
  go_ret
  exact ⟨rfl, HB1.out.trans ((below_on HB6.out HB13.out).mono HB1.out.size)⟩

end Go.Proofs.YtlmdbeccfoncpaaGreatDoor
