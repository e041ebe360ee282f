/- The sum of all bytes, list by list: package sum's 'of'. -/
import Derived.Test.YtjcfhkodfanbiaaSumC
import Derived.Shelf.RegionOpen
namespace Go.Proofs.Ytjcfhkodfanbiaa
open Go.RowKit Go.Shelf

attribute [local go_sem] Oper.semAt_some

theorem run_store_func (P : Program) (w : World) (a : Addr) (m : Mode) (fn : Fn) (f c : Array Value) : (store a (.func fn f c) m).run P w = stored P w a (.func fn f c) m := run_store P w a _ m rfl

attribute [local go_sem] run_store_func

theorem WordAt.kept {M k wo : Nat} {w w' : World} {row : Option Nat} (h : WordAt M k wo w) (hg : w.grownBy w' row) (hne : some M ≠ row) : WordAt M k wo w' :=
  (hg.block M (Array.getElem?_eq_some_iff.1 h).1 hne).trans h

theorem wordAt_own {β : Type} (M k : Nat) (f : β → Nat) : Own (fun s W => WordAt M k (f s) W) := fun s X Y row hs hg hrow =>
  hs.kept hg (fun e' => by obtain ⟨o, ho, hc⟩ := hrow M e'.symm; rw [show X.heap[M]? = _ from hs] at ho; cases ho; cases hc)

theorem WordAt.cells {M k wo : Nat} {w : World} (h : WordAt M k wo w) :
    w.cell? ⟨M, 0, none⟩ = some (.int .i64 (wdN k)) ∧ w.cell? ⟨M, 1, none⟩ = some (.int .u32 (onN k)) ∧ w.cell? ⟨M, 3, none⟩ = some (.int .u32 wo) := by
  unfold WordAt at h
  refine ⟨?_, ?_, ?_⟩ <;> simp [World.cell?, h]

theorem WordAt.lt {M k wo : Nat} {w : World} (h : WordAt M k wo w) : M < w.heap.size := (Array.getElem?_eq_some_iff.1 h).1

theorem word_bound {k : Nat} (hk : k ≤ 2) (bs : List UInt8) (j : Nat) : crcN (fxN k) (onN k) bs j ≤ onN k ∧ crcN (fxN k) (onN k) bs j < 4294967296 := by
  rcases kind_cases hk with rfl | rfl | rfl
  · have := crcN_lt (m := 0) (fx := fxN 0) (w := onN 0) bs (by decide) (by decide) j
    simp [onN] at *
    omega
  · have := crcN_lt (m := 16) (fx := fxN 1) (w := onN 1) bs (by decide) (by decide) j
    simp [onN] at *
    omega
  · have := crcN_lt (m := 32) (fx := fxN 2) (w := onN 2) bs (by decide) (by decide) j
    simp [onN] at *
    omega

theorem run_bound {k : Nat} (hk : k ≤ 2) (bs : List UInt8) (j x i : Nat) : runN (fxN k) (crcN (fxN k) (onN k) bs j) x i < 4294967296 :=
  runN_lt (m := 32) (fxN_lt hk) (word_bound hk bs j).2 i

theorem putC_at (M k wo b : Nat) (y : Int) (hy : y = (b : Int)) (hk : k ≤ 2) (w : World) (hM : WordAt M k wo w) (hwo : wo < 4294967296) (hb : b < 256) :
    Calls Try.prog 25 #[.int .u8 y, .pointer (some ⟨M, 0, none⟩)] w (PutC M k wo b w) := by
  subst hy
  exact putC_any M k wo b hk w hM hwo hb

theorem grownBy_undrew {w w' : World} {row : Option Nat} (h : w.drew.grownBy w' row) : w.grownBy w' row := by
  obtain ⟨a, b, c, d, e⟩ := h
  exact ⟨a, b, c, d, e⟩

/-- The number of byte j. -/
def numAt (bs : List UInt8) (j : Nat) : Nat := (bs[j]?.getD 0).toNat

theorem byteAt_num (bs : List UInt8) (j : Nat) : byteAt bs j = (numAt bs j : Int) := rfl

theorem numAt_lt (bs : List UInt8) (j : Nat) : numAt bs j < 256 := UInt8.toNat_lt _

theorem shr_num (x m : Nat) : (x : Int) / 2 ^ m = ((x / 2 ^ m : Nat) : Int) := by
  rw [Int.natCast_ediv, Int.natCast_pow]
  rfl

/-- The function that the closure is. -/
def putV (M : Nat) : Value := .func (.func 25) #[] #[.pointer (some ⟨M, 0, none⟩)]

/-- The world in which the loop begins. -/
def ofW (k : Nat) (a : Option Addr) (n c : Nat) (w : World) : World :=
  (((w.alloc (.cells #[.int .i64 (wdN k), .int .u32 (onN k), .int .u32 (fxN k)] 46)).alloc (.cells #[.int .i64 (wdN k), .int .u32 (onN k), .int .u32 (fxN k), .int .u32 (onN k)] 61)).alloc
    (.cells #[putV (w.heap.size + 1)] 62)).alloc (.cells #[.slice a n c] 22)

theorem of_start (k : Nat) (a : Option Addr) (c : Nat) (ps : List (List UInt8)) (w : World) (hl : ps.length ≤ 100000000000000) (hlen : ps.flatten.length ≤ 140737488355328) (hr : RdP w w.heap.size a ps) :
    (ofW k a ps.length c w).heap.size = w.heap.size + 4 ∧ Below w.heap.size w (ofW k a ps.length c w) ∧ WordAt (w.heap.size + 1) k (onN k) (ofW k a ps.length c w) ∧
      Boxed (ofW k a ps.length c w) (w.heap.size + 1 + 1) 62 (putV (w.heap.size + 1)) ∧
      Goes Try.prog 31 #[.pointer (some ⟨w.heap.size + 1 + 1 + 1, 0, none⟩)] (encF ps.flatten) (· < w.heap.size) ps.flatten.length (ofW k a ps.length c w) := by
  have B0 : Below w.heap.size w (ofW k a ps.length c w) := ((((Below.refl _ _).alloc (Nat.le_refl _) _).alloc (by simp) _).alloc (by simp; omega) _).alloc (by simp; omega) _
  have hs : (ofW k a ps.length c w).heap.size = w.heap.size + 4 := by simp [ofW]
  refine ⟨hs, B0, ?_, ?_, ?_⟩
  · have := World.alloc_heap_new (w.alloc (.cells #[.int .i64 (wdN k), .int .u32 (onN k), .int .u32 (fxN k)] 46)) (.cells #[.int .i64 (wdN k), .int .u32 (onN k), .int .u32 (fxN k), .int .u32 (onN k)] 61)
    rw [World.size_alloc] at this
    have h3 : WordAt (w.heap.size + 1) k (onN k) _ := this
    exact (h3.kept (World.grownBy_alloc _ _ Option.none) (by simp)).kept (World.grownBy_alloc _ _ Option.none) (by simp)
  · refine Boxed.alloc ?_ _
    have := Boxed.new ((w.alloc (.cells #[.int .i64 (wdN k), .int .u32 (onN k), .int .u32 (fxN k)] 46)).alloc (.cells #[.int .i64 (wdN k), .int .u32 (onN k), .int .u32 (fxN k), .int .u32 (onN k)] 61)) 62 (putV (w.heap.size + 1))
    rwa [World.size_alloc, World.size_alloc] at this
  · refine eachS_goes (w.heap.size + 1 + 1 + 1) w.heap.size a c ps (ofW k a ps.length c w) hl hlen (by rw [hs]; omega) (by rw [hs]; omega) ?_ (hr.below B0)
    have := Boxed.new (((w.alloc (.cells #[.int .i64 (wdN k), .int .u32 (onN k), .int .u32 (fxN k)] 46)).alloc (.cells #[.int .i64 (wdN k), .int .u32 (onN k), .int .u32 (fxN k), .int .u32 (onN k)] 61)).alloc
      (.cells #[putV (w.heap.size + 1)] 62)) 22 (.slice a ps.length c)
    simp only [World.size_alloc] at this
    exact this.cell

set_option maxRecDepth 100000 in
set_option maxHeartbeats 4000000 in
theorem of_some (k : Nat) (h1 : 1 ≤ k) (h2 : k ≤ 2) (a : Option Addr) (c : Nat) (ps : List (List UInt8)) (bs : List UInt8) (hbs : bs = ps.flatten) (w : World) (hl : ps.length ≤ 100000000000000) (hlen : bs.length ≤ 140737488355328) (hr : RdP w w.heap.size a ps) :
    Calls Try.prog 19 #[.agg #[.int .i64 (wdN k), .int .u32 (onN k), .int .u32 (fxN k)], .slice a ps.length c] w fun e w' => e = .returned (.int .u32 (sumN k bs)) ∧ Below w.heap.size w w' := by
  have hmf : ∀ (fn : Fn) (first cap : Array Value) (w : World), (Instr.makeFunc fn first cap).run Try.prog w = .ok (.func fn first cap) w := fun _ _ _ _ => rfl
  have hwd : ((wdN k : Int) == 0) = false := by
    have : k = 1 ∨ k = 2 := by omega
    rcases this with rfl | rfl <;> rfl
  have HS := Lib.hid (of_start k a c ps w hl (by rw [← hbs]; exact hlen) hr)
  rw [← hbs] at HS
  clear hr hbs
  refine calls_of_marks Try.func19 rfl ?_
  simp only [Try.ntmps19, List.size_toArray, List.length_cons, List.length_nil, Nat.reduceAdd, Nat.reduceSub, Array.replicate_succ, Array.replicate_zero, List.push_toArray, List.append_toArray, List.nil_append, List.cons_append]
  go_wp2
  refine wp_scope_on 0 rfl ?_
  go_wp2
  go_step3
  go_wp2_with (go_at_call 26; refine (eachS_any _ _ _ _).mono ?_; rintro e w' ⟨rfl, rfl⟩)
  obtain ⟨hs, B0, Y1, Y2, hG⟩ := HS.out
  have hW : ∃ W0, W0 = ofW k a ps.length c w := ⟨_, rfl⟩
  obtain ⟨W0, hW⟩ := hW
  rw [← hW] at hs B0 Y1 Y2 hG
  change Code.wp _ _ _ _ (ofW k a ps.length c w)
  rw [← hW]
  refine wp_rangeGoes_plain (gf := 31) (lb := #[.pointer (some ⟨w.heap.size + 1 + 1 + 1, 0, none⟩)]) rfl (enters_of Try.func31 (by kernel_rfl) rfl)
    hG (fun b hb => by rw [hs]; omega) (fun _ => rfl)
    (fun j W => (WordAt (w.heap.size + 1) k (crcN (fxN k) (onN k) bs j) W ∧ Boxed W (w.heap.size + 1 + 1) 62 (putV (w.heap.size + 1))) ∧ Below w.heap.size w W) (fun _ _ _ => False)
    (OwnFrom.and (OwnFrom.and (Own.from (wordAt_own _ _ _) _) (Own.from (boxed_own _ _ _) _)) (ownFrom_below (Nat.le_refl _) (by rw [hs]; omega))) (fun _ _ _ _ _ hs _ _ => hs)
    ⟨⟨Y1, Y2⟩, B0⟩
    (fun j => { tmps := #[.agg #[.int .i64 (wdN k), .int .u32 (onN k), .int .u32 (fxN k)], .slice a ps.length c, .pointer (some ⟨w.heap.size, 0, none⟩), undef, .int .u32 0, .pointer (some ⟨w.heap.size + 1, 0, none⟩), .pointer (some ⟨w.heap.size + 1 + 1, 0, none⟩),
      .int .u8 (byteAt bs j), undef, .agg #[.int .i64 (wdN k), .int .u32 (onN k), .int .u32 (fxN k)], .pointer (some ⟨w.heap.size, 1, none⟩), .int .u32 (onN k), .agg #[.int .i64 (wdN k), .int .u32 (onN k), .int .u32 (fxN k), .int .u32 (onN k)],
      .func (.func 25) #[] #[.pointer (some ⟨w.heap.size + 1, 0, none⟩)], .slice a ps.length c, .func (.func 31) #[] #[.pointer (some ⟨w.heap.size + 1 + 1 + 1, 0, none⟩)], .int .u8 (byteAt bs j),
      undef, undef, undef, undef, undef, undef, undef, undef, undef, undef, undef, undef, undef, undef, undef, undef, undef, undef, undef], defers := [] }) ?assign ?body ?done ?stop
  case assign =>
    intro l j W K hK
    simp only [encF]
    gi_wp2
    exact hK
  case body =>
    rintro l j W hj hl _ ⟨⟨hwa, hbx⟩, hBW⟩
    obtain ⟨c0, c1, c3⟩ := hwa.cells
    have HWA := Lib.hid hwa
    have hmx : Try.prog.follows .mixedOrders = true := by kernel_rfl
    clear hwa hG B0 Y1 Y2
    obtain ⟨x, hx⟩ : ∃ x, x = numAt bs j := ⟨_, rfl⟩
    have hxb : byteAt bs j = (x : Int) := by rw [hx]; rfl
    have hx2 : x < 256 := by rw [hx]; exact numAt_lt bs j
    rw [hxb]
    have HX := Lib.hid hx
    clear hx hxb
    gi_wp2
    gi_loopw [21] (fun i wr => ∃ m : Nat, m ≤ 8 ∧ i = .int .i64 m ∧ Hid (WordAt (w.heap.size + 1) k (runN (fxN k) (crcN (fxN k) (onN k) bs j) x m) wr) ∧ Hid (W.grownBy wr (some (w.heap.size + 1)))) (fun i _ => 8 - (intOf i).toNat)
    case atStart => exact ⟨0, by omega, rfl, HWA.out, World.grownBy.refl _ _⟩
    case round =>
      obtain ⟨m, hm, rfl, hwm, hgm⟩ := hrel
      by_cases hlt : m < 8
      · have hcx : wr.cell? ⟨w.heap.size + 1 + 1, 0, none⟩ = some (.func (.func 25) #[] #[.pointer (some ⟨w.heap.size + 1, 0, none⟩)]) := (hbx.kept hgm.out (by simp)).cell
        gi_wp2
        gi_region_with_o (refine ⟨trivial, ?_⟩; gi_at_call 25; refine (CallsIn.inRound l (callsIn_wide.2 (putC_at (w.heap.size + 1) k (runN (fxN k) (crcN (fxN k) (onN k) bs j) x m) (x / 2 ^ m) _ (shr_num x m) h2 wr.drew (show WordAt (w.heap.size + 1) k _ wr.drew from hwm.out) (run_bound h2 bs j x m) (Nat.lt_of_le_of_lt (Nat.div_le_self _ _) hx2)))).mono ?_; rintro e w' ⟨⟨v, rfl⟩, hw', hg'⟩)
        all_goals gi_wp2
        all_goals exact ⟨⟨m + 1, by omega, by simp, hw', World.grownBy.trans hgm.out (grownBy_undrew hg')⟩, by simp [intOf]; omega⟩
      · obtain rfl : m = 8 := by omega
        gi_wp2
        refine ⟨KeepsFrom.of_grownBy hgm.out (fun r e => by cases e; rw [hs]; omega), fun b hb => hgm.out.block b (by have := hBW.size; omega) (by intro e; cases e; omega), ⟨?_, hbx.kept hgm.out (by simp)⟩, hBW.grown hgm.out hBW.size (fun r e => by cases e; omega)⟩
        have := hwm.out
        rw [HX.out] at this
        exact this
  case done =>
    rintro D W hD ⟨⟨hwa, hbx⟩, hBW⟩ hK
    obtain ⟨c0, c1, c3⟩ := hwa.cells
    have hwb := word_bound h2 bs bs.length
    have hon := onN_lt h2
    have hsb : (onN k : Int) - (crcN (fxN k) (onN k) bs bs.length : Int) = (sumN k bs : Int) := by
      unfold sumN
      omega
    have hsl : sumN k bs < 4294967296 := by
      unfold sumN
      omega
    have HB := Lib.hid hwb
    clear hwb hwa hG
    go_wp2
    simp only [Exit.jump]
    refine marks_one hK (results_tmp rfl _ _ _) ⟨rfl, hBW.grown (grownBy_putObj' _ _ _) hBW.size (fun r e => by cases e; rw [hs] at hD; omega)⟩
  case stop =>
    rintro D c k W _ _ h _
    exact h.elim

set_option maxRecDepth 100000 in
set_option maxHeartbeats 4000000 in
theorem of_none (k : Nat) (h0 : k = 0) (a : Option Addr) (c : Nat) (ps : List (List UInt8)) (bs : List UInt8) (hbs : bs = ps.flatten) (w : World) (hl : ps.length ≤ 100000000000000) (hlen : bs.length ≤ 140737488355328) (hr : RdP w w.heap.size a ps) :
    Calls Try.prog 19 #[.agg #[.int .i64 (wdN k), .int .u32 (onN k), .int .u32 (fxN k)], .slice a ps.length c] w fun e w' => e = .returned (.int .u32 (sumN k bs)) ∧ Below w.heap.size w w' := by
  have hmf : ∀ (fn : Fn) (first cap : Array Value) (w : World), (Instr.makeFunc fn first cap).run Try.prog w = .ok (.func fn first cap) w := fun _ _ _ _ => rfl
  have hwd : ((wdN k : Int) == 0) = true := by
    subst h0
    rfl
  have H0 := Lib.hid h0
  clear h0
  have HS := Lib.hid (of_start k a c ps w hl (by rw [← hbs]; exact hlen) hr)
  rw [← hbs] at HS
  clear hr hbs
  refine calls_of_marks Try.func19 rfl ?_
  simp only [Try.ntmps19, List.size_toArray, List.length_cons, List.length_nil, Nat.reduceAdd, Nat.reduceSub, Array.replicate_succ, Array.replicate_zero, List.push_toArray, List.append_toArray, List.nil_append, List.cons_append]
  go_wp2
  refine wp_scope_on 0 rfl ?_
  go_wp2
  go_step3
  go_wp2_with (go_at_call 26; refine (eachS_any _ _ _ _).mono ?_; rintro e w' ⟨rfl, rfl⟩)
  obtain ⟨hs, B0, Y1, Y2, hG⟩ := HS.out
  have hW : ∃ W0, W0 = ofW k a ps.length c w := ⟨_, rfl⟩
  obtain ⟨W0, hW⟩ := hW
  rw [← hW] at hs B0 Y1 Y2 hG
  change Code.wp _ _ _ _ (ofW k a ps.length c w)
  rw [← hW]
  refine wp_rangeGoes_plain (gf := 31) (lb := #[.pointer (some ⟨w.heap.size + 1 + 1 + 1, 0, none⟩)]) rfl (enters_of Try.func31 (by kernel_rfl) rfl)
    hG (fun b hb => by rw [hs]; omega) (fun _ => rfl)
    (fun _ W => WordAt (w.heap.size + 1) k (onN k) W ∧ Below w.heap.size w W) (fun cd _ W => WordAt (w.heap.size + 1) k (onN k) W ∧ cd = .exit 0 ∧ Below w.heap.size w W)
    (OwnFrom.and (Own.from (wordAt_own _ _ _) _) (ownFrom_below (Nat.le_refl _) (by rw [hs]; omega))) (fun cd => OwnFrom.and (Own.from (wordAt_own _ _ _) _) (OwnFrom.and (ownFrom_pure _ (fun _ => cd = .exit 0)) (ownFrom_below (Nat.le_refl _) (by rw [hs]; omega))))
    ⟨Y1, B0⟩
    (fun j => { tmps := #[.agg #[.int .i64 (wdN k), .int .u32 (onN k), .int .u32 (fxN k)], .slice a ps.length c, .pointer (some ⟨w.heap.size, 0, none⟩), undef, .int .u32 0, .pointer (some ⟨w.heap.size + 1, 0, none⟩), .pointer (some ⟨w.heap.size + 1 + 1, 0, none⟩),
      .int .u8 (byteAt bs j), undef, .agg #[.int .i64 (wdN k), .int .u32 (onN k), .int .u32 (fxN k)], .pointer (some ⟨w.heap.size, 1, none⟩), .int .u32 (onN k), .agg #[.int .i64 (wdN k), .int .u32 (onN k), .int .u32 (fxN k), .int .u32 (onN k)],
      .func (.func 25) #[] #[.pointer (some ⟨w.heap.size + 1, 0, none⟩)], .slice a ps.length c, .func (.func 31) #[] #[.pointer (some ⟨w.heap.size + 1 + 1 + 1, 0, none⟩)], .int .u8 (byteAt bs j),
      undef, undef, undef, undef, undef, undef, undef, undef, undef, undef, undef, undef, undef, undef, undef, undef, undef, undef, undef], defers := [] }) ?assign ?body ?done ?stop
  case assign =>
    intro l j W K hK
    simp only [encF]
    gi_wp2
    exact hK
  case body =>
    rintro l j W hj hl _ ⟨hwa, hBW⟩
    obtain ⟨c0, c1, c3⟩ := hwa.cells
    have HWA := Lib.hid hwa
    clear hwa hG B0 Y1 Y2
    gi_wp2
    exact ⟨KeepsFrom.refl _ _, HWA.out, rfl, hBW⟩
  case done =>
    rintro D W hD ⟨hwa, hBW⟩ hK
    obtain ⟨c0, c1, c3⟩ := hwa.cells
    have hz : sumN k bs = 0 := by
      rw [H0.out]
      simp [sumN, onN]
    have HZ := Lib.hid hz
    clear hwa hG hz
    go_wp2
    simp only [Exit.jump]
    refine marks_one hK (results_tmp rfl _ _ _) ⟨by rw [HZ.out]; rfl, hBW.grown (grownBy_putObj' _ _ _) hBW.size (fun r e => by cases e; rw [hs] at hD; omega)⟩
  case stop =>
    rintro D cd j W hD _ ⟨hwa, rfl, hBW⟩ hK
    obtain ⟨c0, c1, c3⟩ := hwa.cells
    have hz : sumN k bs = 0 := by
      rw [H0.out]
      simp [sumN, onN]
    have HZ := Lib.hid hz
    clear hwa hG hz
    go_wp2
    simp only [Exit.jump]
    refine marks_one hK (results_tmp rfl _ _ _) ⟨by rw [HZ.out]; rfl, hBW.grown (grownBy_putObj' _ _ _) hBW.size (fun r e => by cases e; rw [hs] at hD; omega)⟩

theorem of_any (k : Nat) (hk : k ≤ 2) (a : Option Addr) (n c : Nat) (ps : List (List UInt8)) (bs : List UInt8) (hn : n = ps.length) (hbs : bs = ps.flatten) (w : World) (hl : ps.length ≤ 100000000000000) (hlen : bs.length ≤ 140737488355328) (hr : RdP w w.heap.size a ps) :
    Calls Try.prog 19 #[kindV k, .slice a n c] w fun e w' => e = .returned (.int .u32 (sumN k bs)) ∧ Below w.heap.size w w' := by
  subst hn
  rcases Nat.eq_zero_or_pos k with h | h
  · exact of_none k h a c ps bs hbs w hl hlen hr
  · exact of_some k h hk a c ps bs hbs w hl hlen hr

end Go.Proofs.Ytjcfhkodfanbiaa
