/- Joined texts. -/
import Derived.Test.YtiahakbkagipkaaGreatDoorZJa
import Derived.Test.YtiahakbkagipkaaGreatDoorZJb
import Derived.Shelf.RegionOpen
set_option maxHeartbeats 4000000
namespace Go.Proofs.YtiahakbkagipkaaGreatDoor
open Go.RowKit Go.Shelf

attribute [local go_sem] Oper.semAt_some

theorem eachS_any (a : Option Addr) (n c : Nat) (w : World) :
  Calls Tryz.prog 133 #[.slice a n c] w fun e w' => e = .returned (.func (.func 159) #[] #[.pointer (some ⟨w.heap.size, 0, none⟩)]) ∧ w' = w.alloc (.cells #[.slice a n c] 159) := by
 have hmf : ∀ (fn : Fn) (first cap : Array Value) (w : World), (Instr.makeFunc fn first cap).run Tryz.prog w = .ok (.func fn first cap) w := fun _ _ _ _ => rfl
 go_enter Tryz.func133, Tryz.ntmps133
 go_wp2
 go_ret
 exact ⟨rfl, rfl⟩

theorem RdB.keep {w w' : World} {B : Nat} {a : Option Addr} {bs : List UInt8} (h : RdB w B a bs) (hk : KeepB (· < B) w w') : RdB w' B a bs := by
 rcases h with h | ⟨b, o, e, hlt, hc⟩
 ·exact .inl h
 ·exact .inr ⟨b, o, e, hlt, fun j hj => (World.cell?_of_block (a := ⟨b, o + j, none⟩) (hk b hlt)).trans (hc j hj)⟩

theorem RdP.keep {w w' : World} {B : Nat} {a : Option Addr} {ps : List (List UInt8)} (h : RdP w B a ps) (hk : KeepB (· < B) w w') : RdP w' B a ps := by
 rcases h with h | ⟨b, o, e, hlt, hc⟩
 ·exact .inl h
 ·refine .inr ⟨b, o, e, hlt, fun j hj => ?_⟩
  obtain ⟨A, c, h1, h2, h3⟩ := hc j hj
  exact ⟨A, c, (World.cell?_of_block (a := ⟨b, o + j, none⟩) (hk b hlt)).trans h1, h2, h3.keep hk⟩

theorem byteAt_flat (ps : List (List UInt8)) (i j : Nat) (hi : i < ps.length) (hj : j < (ps[i]?.getD []).length) : byteAt ps.flatten (tot ps i + j) = byteAt (ps[i]?.getD []) j := by
 have e : ps.flatten = (ps.take i).flatten ++ (ps[i]?.getD [] ++ (ps.drop (i + 1)).flatten) := by
  have h : ps = ps.take i ++ (ps[i] :: ps.drop (i + 1)) := by rw [← List.drop_eq_getElem_cons hi, List.take_append_drop]
  have h2 := congrArg List.flatten h
  rw [List.flatten_append, List.flatten_cons] at h2
  rw [h2, List.getElem?_eq_getElem hi, Option.getD_some]
 unfold tot byteAt
 rw [e, List.getElem?_append_right (by omega), Nat.add_sub_cancel_left, List.getElem?_append_left hj]

def encF (bs : List UInt8) (k : Nat) : Array Value := #[.int .u8 (byteAt bs k)]

set_option maxRecDepth 100000 in
theorem eachS_goes (Bs B : Nat) (a : Option Addr) (c : Nat) (ps : List (List UInt8)) (w : World) (hl : ps.length ≤ 100000000000000) (hlen : ps.flatten.length ≤ 140737488355328) (hBs : Bs < w.heap.size) (hB : B ≤ w.heap.size)
  (hc : w.cell? ⟨Bs, 0, none⟩ = some (.slice a ps.length c)) (hr : RdP w B a ps) :
  Goes Tryz.prog 159 #[.pointer (some ⟨Bs, 0, none⟩)] (encF ps.flatten) (· < B) ps.flatten.length w := by
 intro l J Jx W hW hJ hJx hY h0
 have hcW := (hW.cell (p := ⟨Bs, 0, none⟩) hBs).trans hc
 have HR := h_ (hr.below (hW.mono hB))
 have HJ := h_ hJ
 have HJx := h_ hJx
 have HY := h_ hY
 clear hc hr hW hJ hJx hY
 refine callsIn_of_wp Tryz.func159 rfl trivial ?_ rfl
 simp only [Tryz.ntmps159, List.size_toArray, List.length_cons, List.length_nil, Nat.reduceAdd, Nat.reduceSub, Array.replicate_succ, Array.replicate_zero, List.push_toArray, List.append_toArray, List.nil_append, List.cons_append]
 refine wpIn_wide.2 (wp_scope_on 0 rfl ((wpIn_wide (n := 10)).1 ?_))
 refine wpIn_seq (wpIn_label ?_)
 simp only [Exit.then]
 gi_wp2
 gi_loopw [9] (fun i wr => ∃ k : Nat, k ≤ ps.length ∧ i = .int .i64 k ∧ Hid (J (tot ps k) wr) ∧ Hid (KeepB (· < B) W wr)) (fun i _ => ps.length - (intOf i).toNat)
 case atStart => exact ⟨0, Nat.zero_le _, rfl, h0, KeepB.refl _ _⟩
 case round =>
  obtain ⟨k, hk, rfl, hJs, hnx⟩ := hrel
  by_cases hlt : k < ps.length
  ·rcases HR.out.keep hnx.out with rfl | ⟨b, o, rfl, hb, hcs⟩
   ·simp at hlt
   obtain ⟨A, c', hx, _, hp⟩ := hcs k hlt
   clear hcs
   obtain ⟨p, hpe⟩ : ∃ p, p = ps[k]?.getD [] := ⟨_, rfl⟩
   rw [← hpe] at hx hp
   have HP := h_ hp
   have HE := h_ hpe
   have hbl : Hid (∀ j, j < p.length → byteAt ps.flatten (tot ps k + j) = byteAt p j) := by
    intro j hj
    rw [hpe]
    exact byteAt_flat ps k j hlt (by rw [← hpe]; exact hj)
   have hts : Hid (tot ps (k + 1) = tot ps k + p.length) := by
    simp only [Hid]
    rw [hpe]
    exact tot_step ps k hlt
   have htl := tot_le ps (k + 1)
   have hpl : p.length ≤ 140737488355328 := by
    have := hts.out
    omega
   clear hp hpe
   have HT := h_ htl
   clear htl
   gi_wp2
   gi_loopw [15] (fun i wr' => ∃ j : Nat, j ≤ p.length ∧ i = .int .i64 j ∧ Hid (J (tot ps k + j) wr') ∧ Hid (KeepB (· < B) W wr')) (fun i _ => p.length - (intOf i).toNat)
   case atStart => exact ⟨0, Nat.zero_le _, rfl, hJs, hnx⟩
   case round =>
    obtain ⟨j, hj, rfl, hJs2, hnx2⟩ := hrel
    by_cases hlt2 : j < p.length
    ·have hpk : RdB _ B A p := (HP.out.keep (fun q hq => (hnx2.out q hq).trans (hnx.out q hq).symm))
     rcases hpk with rfl | ⟨b', o', rfl, hb', hcs'⟩
     ·simp at hlt2
     have hcx := hcs' j hlt2
     clear hcs'
     obtain ⟨fn, tmps, assign, body, hy, hR⟩ := HY.out (tot ps k + j) _ (by have := hts.out; have := HT.out; omega) hJs2.out
     simp only [encF] at hy
     rw [hbl.out j hlt2] at hy
     gi_wp2
     refine hR.mono ?_
     rintro e W3 (⟨rfl, hJ3, hk3⟩ | ⟨rfl, hJx3⟩)
     ·gi_wp2
      go_roundw
      case rel => exact ⟨j + 1, by omega, by simp, hJ3, hnx2.out.trans hk3⟩
      case measure => simp [intOf]; omega
     ·gi_wp2
      simp only [Exit.jump]
      go_end0
      exact ⟨⟨_, rfl⟩, .inr ⟨_, by have := hts.out; have := HT.out; omega, hJx3⟩⟩
    ·obtain rfl : j = p.length := by omega
     gi_wp2
     go_roundw
     case rel => exact ⟨k + 1, by omega, by simp, by rw [hts.out]; exact hJs2, hnx2⟩
     case measure => simp [intOf]; omega
  ·obtain rfl : k = ps.length := by omega
   gi_wp2
   simp only [Exit.jump]
   go_end0
   refine ⟨⟨_, rfl⟩, .inl ?_⟩
   have ht : tot ps ps.length = ps.flatten.length := by simp [tot]
   rw [← ht]
   exact hJs

attribute [local go_sem] Oper.semAt_some

theorem run_store_func (P : Program) (w : World) (a : Addr) (m : Mode) (fn : Fn) (f c : Array Value) : (store a (.func fn f c) m).run P w = stored P w a (.func fn f c) m := run_store P w a _ m rfl

attribute [local go_sem] run_store_func

theorem WordAt.kept {M k wo : Nat} {w w' : World} {row : Option Nat} (h : WordAt M k wo w) (hg : w.grownBy w' row) (hne : some M ≠ row) : WordAt M k wo w' :=
 (hg.block M (Array.getElem?_eq_some_iff.1 h).1 hne).trans h

theorem wordAt_own {β : Type} (M k : Nat) (f : β → Nat) : Own (fun s W => WordAt M k (f s) W) := fun s X Y row hs hg hrow =>
 hs.kept hg (fun e' => by obtain ⟨o, ho, hc⟩ := hrow M e'.symm; rw [show X.heap[M]? = _ from hs] at ho; cases ho; cases hc)

theorem WordAt.cells {M k wo : Nat} {w : World} (h : WordAt M k wo w) :
  w.cell? ⟨M, 0, none⟩ = some (.int .i64 (wdN k)) ∧ w.cell? ⟨M, 1, none⟩ = some (.int .u32 (onN k)) ∧ w.cell? ⟨M, 3, none⟩ = some (.int .u32 wo) := by
 unfold WordAt at h
 refine ⟨?_, ?_, ?_⟩ <;> simp [World.cell?, h]

theorem WordAt.lt {M k wo : Nat} {w : World} (h : WordAt M k wo w) : M < w.heap.size := (Array.getElem?_eq_some_iff.1 h).1

theorem word_bound {k : Nat} (hk : k ≤ 2) (bs : List UInt8) (j : Nat) : crcN (fxN k) (onN k) bs j ≤ onN k ∧ crcN (fxN k) (onN k) bs j < 4294967296 := by
 rcases kind_cases hk with rfl | rfl | rfl
 ·have := crcN_lt (m := 0) (fx := fxN 0) (w := onN 0) bs (by decide) (by decide) j
  simp [onN] at *
  omega
 ·have := crcN_lt (m := 16) (fx := fxN 1) (w := onN 1) bs (by decide) (by decide) j
  simp [onN] at *
  omega
 ·have := crcN_lt (m := 32) (fx := fxN 2) (w := onN 2) bs (by decide) (by decide) j
  simp [onN] at *
  omega

theorem run_bound {k : Nat} (hk : k ≤ 2) (bs : List UInt8) (j x i : Nat) : runN (fxN k) (crcN (fxN k) (onN k) bs j) x i < 4294967296 :=
 runN_lt (m := 32) (fxN_lt hk) (word_bound hk bs j).2 i

theorem putC_at (M k wo b : Nat) (y : Int) (hy : y = (b : Int)) (hk : k ≤ 2) (w : World) (hM : WordAt M k wo w) (hwo : wo < 4294967296) (hb : b < 256) :
  Calls Tryz.prog 132 #[.int .u8 y, .pointer (some ⟨M, 0, none⟩)] w (PutC M k wo b w) := by
 subst hy
 exact putC_any M k wo b hk w hM hwo hb

theorem grownBy_undrew {w w' : World} {row : Option Nat} (h : w.drew.grownBy w' row) : w.grownBy w' row := by
 obtain ⟨a, b, c, d, e⟩ := h
 exact ⟨a, b, c, d, e⟩

def numAt (bs : List UInt8) (j : Nat) : Nat := (bs[j]?.getD 0).toNat

theorem numAt_lt (bs : List UInt8) (j : Nat) : numAt bs j < 256 := UInt8.toNat_lt _

theorem shr_num (x m : Nat) : (x : Int) / 2 ^ m = ((x / 2 ^ m : Nat) : Int) := by
 rw [Int.natCast_ediv, Int.natCast_pow]
 rfl

def putV (M : Nat) : Value := .func (.func 132) #[] #[.pointer (some ⟨M, 0, none⟩)]

def ofW (k : Nat) (a : Option Addr) (n c : Nat) (w : World) : World :=
 (((w.alloc (.cells #[.int .i64 (wdN k), .int .u32 (onN k), .int .u32 (fxN k)] 122)).alloc (.cells #[.int .i64 (wdN k), .int .u32 (onN k), .int .u32 (fxN k), .int .u32 (onN k)] 190)).alloc
  (.cells #[putV (w.heap.size + 1)] 192)).alloc (.cells #[.slice a n c] 159)

theorem of_start (k : Nat) (a : Option Addr) (c : Nat) (ps : List (List UInt8)) (w : World) (hl : ps.length ≤ 100000000000000) (hlen : ps.flatten.length ≤ 140737488355328) (hr : RdP w w.heap.size a ps) :
  (ofW k a ps.length c w).heap.size = w.heap.size + 4 ∧ Below w.heap.size w (ofW k a ps.length c w) ∧ WordAt (w.heap.size + 1) k (onN k) (ofW k a ps.length c w) ∧
   Boxed (ofW k a ps.length c w) (w.heap.size + 1 + 1) 192 (putV (w.heap.size + 1)) ∧
   Goes Tryz.prog 159 #[.pointer (some ⟨w.heap.size + 1 + 1 + 1, 0, none⟩)] (encF ps.flatten) (· < w.heap.size) ps.flatten.length (ofW k a ps.length c w) := by
 have B0 : Below w.heap.size w (ofW k a ps.length c w) := (((bR.alloc (Nat.le_refl _) _).alloc (by simp) _).alloc (by simp; omega) _).alloc (by simp; omega) _
 have hs : (ofW k a ps.length c w).heap.size = w.heap.size + 4 := by simp [ofW]
 refine ⟨hs, B0, ?_, ?_, ?_⟩
 ·have := World.alloc_heap_new (w.alloc (.cells #[.int .i64 (wdN k), .int .u32 (onN k), .int .u32 (fxN k)] 122)) (.cells #[.int .i64 (wdN k), .int .u32 (onN k), .int .u32 (fxN k), .int .u32 (onN k)] 190)
  rw [World.size_alloc] at this
  have h3 : WordAt (w.heap.size + 1) k (onN k) _ := this
  exact (h3.kept (World.grownBy_alloc _ _ Option.none) (by simp)).kept (World.grownBy_alloc _ _ Option.none) (by simp)
 ·refine Boxed.alloc ?_ _
  have := Boxed.new ((w.alloc (.cells #[.int .i64 (wdN k), .int .u32 (onN k), .int .u32 (fxN k)] 122)).alloc (.cells #[.int .i64 (wdN k), .int .u32 (onN k), .int .u32 (fxN k), .int .u32 (onN k)] 190)) 192 (putV (w.heap.size + 1))
  rwa [World.size_alloc, World.size_alloc] at this
 ·refine eachS_goes (w.heap.size + 1 + 1 + 1) w.heap.size a c ps (ofW k a ps.length c w) hl hlen (by rw [hs]; omega) (by rw [hs]; omega) ?_ (hr.below B0)
  have := Boxed.new (((w.alloc (.cells #[.int .i64 (wdN k), .int .u32 (onN k), .int .u32 (fxN k)] 122)).alloc (.cells #[.int .i64 (wdN k), .int .u32 (onN k), .int .u32 (fxN k), .int .u32 (onN k)] 190)).alloc
   (.cells #[putV (w.heap.size + 1)] 192)) 159 (.slice a ps.length c)
  simp only [World.size_alloc] at this
  exact this.cell

set_option maxRecDepth 100000 in
theorem of_some (k : Nat) (h1 : 1 ≤ k) (h2 : k ≤ 2) (a : Option Addr) (c : Nat) (ps : List (List UInt8)) (bs : List UInt8) (hbs : bs = ps.flatten) (w : World) (hl : ps.length ≤ 100000000000000) (hlen : bs.length ≤ 140737488355328) (hr : RdP w w.heap.size a ps) :
  Calls Tryz.prog 97 #[.agg #[.int .i64 (wdN k), .int .u32 (onN k), .int .u32 (fxN k)], .slice a ps.length c] w fun e w' => e = .returned (.int .u32 (sumN k bs)) ∧ Below w.heap.size w w' := by
 have hmf : ∀ (fn : Fn) (first cap : Array Value) (w : World), (Instr.makeFunc fn first cap).run Tryz.prog w = .ok (.func fn first cap) w := fun _ _ _ _ => rfl
 have hwd : ((wdN k : Int) == 0) = false := by
  have : k = 1 ∨ k = 2 := by omega
  rcases this with rfl | rfl <;> rfl
 have HS := h_ (of_start k a c ps w hl (by rw [← hbs]; exact hlen) hr)
 rw [← hbs] at HS
 clear hr hbs
 refine calls_of_marks Tryz.func97 rfl ?_
 simp only [Tryz.ntmps97, List.size_toArray, List.length_cons, List.length_nil, Nat.reduceAdd, Nat.reduceSub, Array.replicate_succ, Array.replicate_zero, List.push_toArray, List.append_toArray, List.nil_append, List.cons_append]
 go_wp2
 refine wp_scope_on 0 rfl ?_
 go_wp2
 go_step3
 go_wp2_with (go_at_call 133; refine (eachS_any _ _ _ _).mono ?_; rintro e w' ⟨rfl, rfl⟩)
 obtain ⟨hs, B0, Y1, Y2, hG⟩ := HS.out
 have hW : ∃ W0, W0 = ofW k a ps.length c w := ⟨_, rfl⟩
 obtain ⟨W0, hW⟩ := hW
 rw [← hW] at hs B0 Y1 Y2 hG
 change Code.wp _ _ _ _ (ofW k a ps.length c w)
 rw [← hW]
 refine wp_rangeGoes_plain (gf := 159) (lb := #[.pointer (some ⟨w.heap.size + 1 + 1 + 1, 0, none⟩)]) rfl (enters_of Tryz.func159 (by kernel_rfl) rfl)
  hG (fun b hb => by rw [hs]; omega) (fun _ => rfl)
  (fun j W => (WordAt (w.heap.size + 1) k (crcN (fxN k) (onN k) bs j) W ∧ Boxed W (w.heap.size + 1 + 1) 192 (putV (w.heap.size + 1))) ∧ Below w.heap.size w W) (fun _ _ _ => False)
  (OwnFrom.and (OwnFrom.and (Own.from (wordAt_own _ _ _) _) (Own.from (boxed_own _ _ _) _)) (ownFrom_below (Nat.le_refl _) (by rw [hs]; omega))) (fun _ _ _ _ _ hs _ _ => hs)
  ⟨⟨Y1, Y2⟩, B0⟩
  (fun j => { tmps := #[.agg #[.int .i64 (wdN k), .int .u32 (onN k), .int .u32 (fxN k)], .slice a ps.length c, .pointer (some ⟨w.heap.size, 0, none⟩), undef, .int .u32 0, .pointer (some ⟨w.heap.size + 1, 0, none⟩), .pointer (some ⟨w.heap.size + 1 + 1, 0, none⟩),
   .int .u8 (byteAt bs j), undef, .agg #[.int .i64 (wdN k), .int .u32 (onN k), .int .u32 (fxN k)], .pointer (some ⟨w.heap.size, 1, none⟩), .int .u32 (onN k), .agg #[.int .i64 (wdN k), .int .u32 (onN k), .int .u32 (fxN k), .int .u32 (onN k)],
   .func (.func 132) #[] #[.pointer (some ⟨w.heap.size + 1, 0, none⟩)], .slice a ps.length c, .func (.func 159) #[] #[.pointer (some ⟨w.heap.size + 1 + 1 + 1, 0, none⟩)], .int .u8 (byteAt bs j),
   undef, undef, undef, undef, undef, undef, undef, undef, undef, undef, undef, undef, undef, undef, undef, undef, undef, undef, undef], defers := [] }) ?assign ?body ?done ?stop
 case assign =>
  intro l j W K hK
  simp only [encF]
  gi_wp2
  exact hK
 case body =>
  rintro l j W hj hl _ ⟨⟨hwa, hbx⟩, hBW⟩
  obtain ⟨c0, c1, c3⟩ := hwa.cells
  have HWA := h_ hwa
  have hmx : Tryz.prog.follows .mixedOrders = true := by kernel_rfl
  clear hwa hG B0 Y1 Y2
  obtain ⟨x, hx⟩ : ∃ x, x = numAt bs j := ⟨_, rfl⟩
  have hxb : byteAt bs j = (x : Int) := by rw [hx]; rfl
  have hx2 : x < 256 := by rw [hx]; exact numAt_lt bs j
  rw [hxb]
  have HX := h_ hx
  clear hx hxb
  gi_wp2
  gi_loopw [21] (fun i wr => ∃ m : Nat, m ≤ 8 ∧ i = .int .i64 m ∧ Hid (WordAt (w.heap.size + 1) k (runN (fxN k) (crcN (fxN k) (onN k) bs j) x m) wr) ∧ Hid (W.grownBy wr (some (w.heap.size + 1)))) (fun i _ => 8 - (intOf i).toNat)
  case atStart => exact ⟨0, by omega, rfl, HWA.out, World.grownBy.refl _ _⟩
  case round =>
   obtain ⟨m, hm, rfl, hwm, hgm⟩ := hrel
   by_cases hlt : m < 8
   ·have hcx : wr.cell? ⟨w.heap.size + 1 + 1, 0, none⟩ = some (.func (.func 132) #[] #[.pointer (some ⟨w.heap.size + 1, 0, none⟩)]) := (hbx.kept hgm.out (by simp)).cell
    gi_wp2
    gi_region_with_o (refine ⟨trivial, ?_⟩; gi_at_call 132; refine (CallsIn.inRound l (callsIn_wide.2 (putC_at (w.heap.size + 1) k (runN (fxN k) (crcN (fxN k) (onN k) bs j) x m) (x / 2 ^ m) _ (shr_num x m) h2 wr.drew (show WordAt (w.heap.size + 1) k _ wr.drew from hwm.out) (run_bound h2 bs j x m) (Nat.lt_of_le_of_lt (Nat.div_le_self _ _) hx2)))).mono ?_; rintro e w' ⟨⟨v, rfl⟩, hw', hg'⟩)
    all_goals gi_wp2
    all_goals exact ⟨⟨m + 1, by omega, by simp, hw', World.grownBy.trans hgm.out (grownBy_undrew hg')⟩, by simp [intOf]; omega⟩
   ·obtain rfl : m = 8 := by omega
    gi_wp2
    refine ⟨KeepsFrom.of_grownBy hgm.out (fun r e => by cases e; rw [hs]; omega), fun b hb => hgm.out.block b (by have := hBW.size; omega) (by intro e; cases e; omega), ⟨?_, hbx.kept hgm.out (by simp)⟩, hBW.grown hgm.out hBW.size (fun r e => by cases e; omega)⟩
    have := hwm.out
    rw [HX.out] at this
    exact this
 case done =>
  rintro D W hD ⟨⟨hwa, hbx⟩, hBW⟩ hK
  obtain ⟨c0, c1, c3⟩ := hwa.cells
  have hwb := word_bound h2 bs bs.length
  have hon := onN_lt h2
  have hsb : (onN k : Int) - (crcN (fxN k) (onN k) bs bs.length : Int) = (sumN k bs : Int) := by
   unfold sumN
   omega
  have hsl : sumN k bs < 4294967296 := by
   unfold sumN
   omega
  have HB := h_ hwb
  clear hwb hwa hG
  go_wp2
  simp only [Exit.jump]
  refine marks_one hK (results_tmp rfl _ _ _) ⟨rfl, hBW.grown (grownBy_putObj' _ _ _) hBW.size (fun r e => by cases e; rw [hs] at hD; omega)⟩
 case stop =>
  rintro D c k W _ _ h _
  exact h.elim

set_option maxRecDepth 100000 in
theorem of_none (k : Nat) (h0 : k = 0) (a : Option Addr) (c : Nat) (ps : List (List UInt8)) (bs : List UInt8) (hbs : bs = ps.flatten) (w : World) (hl : ps.length ≤ 100000000000000) (hlen : bs.length ≤ 140737488355328) (hr : RdP w w.heap.size a ps) :
  Calls Tryz.prog 97 #[.agg #[.int .i64 (wdN k), .int .u32 (onN k), .int .u32 (fxN k)], .slice a ps.length c] w fun e w' => e = .returned (.int .u32 (sumN k bs)) ∧ Below w.heap.size w w' := by
 have hmf : ∀ (fn : Fn) (first cap : Array Value) (w : World), (Instr.makeFunc fn first cap).run Tryz.prog w = .ok (.func fn first cap) w := fun _ _ _ _ => rfl
 have hwd : ((wdN k : Int) == 0) = true := by
  subst h0
  rfl
 have H0 := h_ h0
 clear h0
 have HS := h_ (of_start k a c ps w hl (by rw [← hbs]; exact hlen) hr)
 rw [← hbs] at HS
 clear hr hbs
 refine calls_of_marks Tryz.func97 rfl ?_
 simp only [Tryz.ntmps97, List.size_toArray, List.length_cons, List.length_nil, Nat.reduceAdd, Nat.reduceSub, Array.replicate_succ, Array.replicate_zero, List.push_toArray, List.append_toArray, List.nil_append, List.cons_append]
 go_wp2
 refine wp_scope_on 0 rfl ?_
 go_wp2
 go_step3
 go_wp2_with (go_at_call 133; refine (eachS_any _ _ _ _).mono ?_; rintro e w' ⟨rfl, rfl⟩)
 obtain ⟨hs, B0, Y1, Y2, hG⟩ := HS.out
 have hW : ∃ W0, W0 = ofW k a ps.length c w := ⟨_, rfl⟩
 obtain ⟨W0, hW⟩ := hW
 rw [← hW] at hs B0 Y1 Y2 hG
 change Code.wp _ _ _ _ (ofW k a ps.length c w)
 rw [← hW]
 refine wp_rangeGoes_plain (gf := 159) (lb := #[.pointer (some ⟨w.heap.size + 1 + 1 + 1, 0, none⟩)]) rfl (enters_of Tryz.func159 (by kernel_rfl) rfl)
  hG (fun b hb => by rw [hs]; omega) (fun _ => rfl)
  (fun _ W => WordAt (w.heap.size + 1) k (onN k) W ∧ Below w.heap.size w W) (fun cd _ W => WordAt (w.heap.size + 1) k (onN k) W ∧ cd = .exit 0 ∧ Below w.heap.size w W)
  (OwnFrom.and (Own.from (wordAt_own _ _ _) _) (ownFrom_below (Nat.le_refl _) (by rw [hs]; omega))) (fun cd => OwnFrom.and (Own.from (wordAt_own _ _ _) _) (OwnFrom.and (ownFrom_pure _ (fun _ => cd = .exit 0)) (ownFrom_below (Nat.le_refl _) (by rw [hs]; omega))))
  ⟨Y1, B0⟩
  (fun j => { tmps := #[.agg #[.int .i64 (wdN k), .int .u32 (onN k), .int .u32 (fxN k)], .slice a ps.length c, .pointer (some ⟨w.heap.size, 0, none⟩), undef, .int .u32 0, .pointer (some ⟨w.heap.size + 1, 0, none⟩), .pointer (some ⟨w.heap.size + 1 + 1, 0, none⟩),
   .int .u8 (byteAt bs j), undef, .agg #[.int .i64 (wdN k), .int .u32 (onN k), .int .u32 (fxN k)], .pointer (some ⟨w.heap.size, 1, none⟩), .int .u32 (onN k), .agg #[.int .i64 (wdN k), .int .u32 (onN k), .int .u32 (fxN k), .int .u32 (onN k)],
   .func (.func 132) #[] #[.pointer (some ⟨w.heap.size + 1, 0, none⟩)], .slice a ps.length c, .func (.func 159) #[] #[.pointer (some ⟨w.heap.size + 1 + 1 + 1, 0, none⟩)], .int .u8 (byteAt bs j),
   undef, undef, undef, undef, undef, undef, undef, undef, undef, undef, undef, undef, undef, undef, undef, undef, undef, undef, undef], defers := [] }) ?assign ?body ?done ?stop
 case assign =>
  intro l j W K hK
  simp only [encF]
  gi_wp2
  exact hK
 case body =>
  rintro l j W hj hl _ ⟨hwa, hBW⟩
  obtain ⟨c0, c1, c3⟩ := hwa.cells
  have HWA := h_ hwa
  clear hwa hG B0 Y1 Y2
  gi_wp2
  exact ⟨KeepsFrom.refl _ _, HWA.out, rfl, hBW⟩
 case done =>
  rintro D W hD ⟨hwa, hBW⟩ hK
  obtain ⟨c0, c1, c3⟩ := hwa.cells
  have hz : sumN k bs = 0 := by
   rw [H0.out]
   simp [sumN, onN]
  have HZ := h_ hz
  clear hwa hG hz
  go_wp2
  simp only [Exit.jump]
  refine marks_one hK (results_tmp rfl _ _ _) ⟨by rw [HZ.out]; rfl, hBW.grown (grownBy_putObj' _ _ _) hBW.size (fun r e => by cases e; rw [hs] at hD; omega)⟩
 case stop =>
  rintro D cd j W hD _ ⟨hwa, rfl, hBW⟩ hK
  obtain ⟨c0, c1, c3⟩ := hwa.cells
  have hz : sumN k bs = 0 := by
   rw [H0.out]
   simp [sumN, onN]
  have HZ := h_ hz
  clear hwa hG hz
  go_wp2
  simp only [Exit.jump]
  refine marks_one hK (results_tmp rfl _ _ _) ⟨by rw [HZ.out]; rfl, hBW.grown (grownBy_putObj' _ _ _) hBW.size (fun r e => by cases e; rw [hs] at hD; omega)⟩

theorem of_any (k : Nat) (hk : k ≤ 2) (a : Option Addr) (n c : Nat) (ps : List (List UInt8)) (bs : List UInt8) (hn : n = ps.length) (hbs : bs = ps.flatten) (w : World) (hl : ps.length ≤ 100000000000000) (hlen : bs.length ≤ 140737488355328) (hr : RdP w w.heap.size a ps) :
  Calls Tryz.prog 97 #[kindV k, .slice a n c] w fun e w' => e = .returned (.int .u32 (sumN k bs)) ∧ Below w.heap.size w w' := by
 subst hn
 rcases Nat.eq_zero_or_pos k with h | h
 ·exact of_none k h a c ps bs hbs w hl hlen hr
 ·exact of_some k h hk a c ps bs hbs w hl hlen hr

end Go.Proofs.YtiahakbkagipkaaGreatDoor
