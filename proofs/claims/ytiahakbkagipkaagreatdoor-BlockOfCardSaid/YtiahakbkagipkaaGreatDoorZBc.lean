/- Joined texts. -/
import Derived.Test.YtiahakbkagipkaaGreatDoorZBb
import Derived.Test.YtiahakbkagipkaaGreatDoorZCa
import Derived.Test.YtiahakbkagipkaaGreatDoorZMc
import Derived.Laws.CopyOwn
import Derived.Test.YtiahakbkagipkaaGreatDoorZKq
set_option maxHeartbeats 16000000
set_option linter.unusedSimpArgs false
set_option linter.unusedVariables false
set_option maxRecDepth 100000
namespace Go.Proofs.YtiahakbkagipkaaGreatDoor
open Go Go.RowKit Go.Shelf

attribute [local go_sem] Oper.semAt_some

theorem buint_any (n : Int) (w : World) : Calls Tryz.prog 53 #[.int .u64 n] w fun e w' => e = .returned (.agg #[.int .i64 1, .int .u64 n, .slice none 0 0, .string ⟨#[]⟩, .slice none 0 0]) ∧ Below w.heap.size w w' := by
 go_enter Tryz.func53, Tryz.ntmps53
 go_wp2
 exact bodyPost_ret (v := .agg #[.int .i64 1, .int .u64 n, .slice none 0 0, .string ⟨#[]⟩, .slice none 0 0]) (by simp [results, Tryz.results53, go_sem]) rfl ⟨rfl, below_al bR _⟩
theorem bbytesI_any (a : Option Addr) (n c : Nat) (w : World) : Calls Tryz.prog 54 #[.slice a n c] w fun e w' => e = .returned (.agg #[.int .i64 2, .int .u64 0, .slice a n c, .string ⟨#[]⟩, .slice none 0 0]) ∧ Below w.heap.size w w' := by
 go_enter Tryz.func54, Tryz.ntmps54
 go_wp2
 exact bodyPost_ret (v := .agg #[.int .i64 2, .int .u64 0, .slice a n c, .string ⟨#[]⟩, .slice none 0 0]) (by simp [results, Tryz.results54, go_sem]) rfl ⟨rfl, below_al bR _⟩
theorem blist_any (a : Option Addr) (n c : Nat) (w : World) : Calls Tryz.prog 56 #[.slice a n c] w fun e w' => e = .returned (.agg #[.int .i64 4, .int .u64 0, .slice none 0 0, .string ⟨#[]⟩, .slice a n c]) ∧ Below w.heap.size w w' := by
 go_enter Tryz.func56, Tryz.ntmps56
 go_wp2
 exact bodyPost_ret (v := .agg #[.int .i64 4, .int .u64 0, .slice none 0 0, .string ⟨#[]⟩, .slice a n c]) (by simp [results, Tryz.results56, go_sem]) rfl ⟨rfl, below_al bR _⟩

def itsB (b : Bl) : List It := [itU b.t, itU b.n, itU b.s, .mk 2 0 b.d [] []]
def itB2 (b : Bl) (wd : Nat) (bs : List UInt8) : It := itLs (itsB b ++ if wd = 0 then [] else [.mk 2 0 bs [] []])
def zeroK (b : Bl) (k : Nat) : It := itB2 b (wdN k) (List.replicate (wdN k) 0)
def encK (b : Bl) (k : Nat) : List UInt8 := ((zeroK b k).bytes.take ((zeroK b k).bytes.length - wdN k)) ++ sumB k (zeroK b k).bytes

theorem listO_lits {w0 wr : World} {cs : Array Value} {ys : List Value} {l : List It} (hb : Below w0.heap.size w0 wr) (hcs : cs.toList = ys) (hl : LI wr (newB (bare wr) wr) ys l) (hn : l.length ≤ 1000) :
  ListO (bare w0) (wr.alloc (.cells cs 83)) (.slice (some ⟨wr.heap.size, 0, none⟩) l.length l.length) l := by
 have hlen := LI.length hl
 have hsz : cs.size = l.length * 5 := by rw [← Array.length_toList, hcs]; exact hlen
 have hb2 : Below (bare w0).heap.size (bare w0) (wr.alloc (.cells cs 83)) := (bare_below w0).trans ((below_al hb (.cells cs 83)).mono (Nat.zero_le _))
 refine ⟨hb2, ys, ⟨hlen, .inr ⟨wr.heap.size, l.length, cs, rfl, Nat.zero_le _, World.alloc_heap_new wr _, ⟨Nat.le_refl _, by unfold maxLen; omega, hsz, ?_⟩⟩⟩, ?_⟩
 ·rw [hcs, ← hlen, List.take_length]
 ·refine LI.more (S := newB (bare wr) wr) (fun b q => ⟨⟨Nat.zero_le _, by rw [World.size_alloc]; have := q.2; omega⟩, fun h => ?_⟩) (LI.keep (S := newB (bare wr) wr) (fun b q => (below_al bR _).block b q.2) hl)
  have h' : some wr.heap.size = some b := h
  injection h' with h'
  have := q.2
  omega

theorem own_splice {w : World} {base g n cap : Nat} {e : TypeId} {cur : Array Value} {xs cs : List Value} (hb : base ≤ g) (hg : w.heap[g]? = some (.cells cur e (0, 0))) (hn : n ≤ cap) (hm : cap ≤ maxLen) (hs : cur.size = cap * 1) (ht : cur.toList.take (n * 1) = xs) (hx : xs.length = n) (off : Nat) (ho : off + cs.length = n) :
  OwnV (w.setRow g (cur.toList.take off ++ (cs ++ cur.toList.drop (off + cs.length))).toArray) base e (.slice (some ⟨g, 0, none⟩) n cap) (xs.take off ++ cs) := by
 have hl : (xs.take off ++ cs).length = n := by rw [List.length_append, List.length_take]; omega
 have hcl : cur.toList.length = cap := by rw [Array.length_toList]; omega
 unfold OwnV
 rw [hl]
 refine ⟨by omega, .inr ⟨g, cap, _, rfl, hb, setRow_heap w g cur _ e _ hg, hn, hm, ?_, ?_⟩⟩
 ·rw [List.size_toArray, List.length_append, List.length_append, List.length_take, List.length_drop]
  omega
 ·rw [← ht]
  have e1 : (cur.toList.take (n * 1)).take off = cur.toList.take off := by rw [List.take_take, Nat.min_eq_left (by omega)]
  rw [e1, Nat.mul_one, ← List.append_assoc, List.take_left']
  rw [List.length_append, List.length_take]
  omega

theorem bytesL_app (a b : List It) : bytesL (a ++ b) = bytesL a ++ bytesL b := by
 induction a with
 | nil => simp [bytesL]
 | cons x xs ih => simp [bytesL, ih]

theorem bsize_u8 (w : World) : (Go.sizeOf 5).run Tryz.prog w = .ok 1 w := by kernel_rfl
theorem bcut1 (a : Option Addr) (n cap l : Nat) (h1 : l ≤ n) (w : World) :
  (Instr.slice 24 (.slice a n cap) (some (.int .i64 (l : Int))) none none).run Tryz.prog w = .ok (.slice (if cap = l then a else a.map (·.add (l * 1))) (n - l) (cap - l)) w := by
 have ht' : Tryz.prog.underlying 24 = some (.slice (Tryz.prog.elem 24)) := by simp [Program.elem, Tryz.underlying24]
 have he : Tryz.prog.elem 24 = 5 := by simp [Program.elem, Tryz.underlying24]
 rw [run_slice_l w 24 a n cap ht' .i64 l (by omega) (by omega), he, bsize_u8]
 simp [Result.andThen, sliced]

def BkBy (w : World) (b : Bl) (k : Nat) (e : Ending) (w' : World) : Prop := Below w.heap.size w w' ∧ (((zeroK b k).err = 0 ∧ ∃ u, e = .returned (.tuple #[u, .int .i64 0]) ∧ OwnV w' w.heap.size 5 u ((encK b k).map encB)) ∨ ((zeroK b k).err ≠ 0 ∧ e = .returned (.tuple #[.slice none 0 0, .int .i64 (zeroK b k).err])))

theorem itB2_depth (b : Bl) (wd : Nat) (bs : List UInt8) : (itB2 b wd bs).depth ≤ 60000 := by
 unfold itB2 itsB
 split <;> simp [itLs, itU, It.depth, It.depth.depthL] <;> omega

theorem blkBytes_any (b : Bl) (a : Option Addr) (c k : Nat) (hk : k ≤ 2) (hs : b.s = (k : Int)) (ht64 : b.t < 18446744073709551616) (hn64 : b.n < 18446744073709551616) (w : World) (hr : RdB w w.heap.size a b.d) (hc : b.d.length ≤ c) (hc47 : b.d.length ≤ 140737488355328) (ht : TabW w) :
  Calls Tryz.prog 24 #[.agg #[.int .u64 b.t, .int .u64 b.n, .int .i64 b.s, .slice a b.d.length c]] w (BkBy w b k) := by
 obtain ⟨W, hW⟩ : ∃ W, W = w.alloc (.cells #[.int .u64 b.t, .int .u64 b.n, .int .i64 b.s, .slice a b.d.length c] 65) := ⟨_, rfl⟩
 have HB0 : Hid (Below w.heap.size w W) := by rw [hW]; exact below_al bR _
 have HX : Hid (∀ w', Below W.heap.size W w' → (w'.cell? ⟨w.heap.size, 0, none⟩ = some (.int .u64 b.t) ∧ w'.cell? ⟨w.heap.size, 1, none⟩ = some (.int .u64 b.n) ∧ w'.cell? ⟨w.heap.size, 2, none⟩ = some (.int .i64 (k : Int)) ∧ w'.cell? ⟨w.heap.size, 3, none⟩ = some (.slice a b.d.length c))) := fun w' h => by
  rw [hW] at h
  have q := bbox h
  rw [hs] at q
  exact q
 have HRd : Hid (∀ w', Below w.heap.size w w' → RdB w' w'.heap.size a b.d) := fun w' h => (hr.below h).mono h.size
 have HT : Hid (∀ w', Below w.heap.size w w' → TabW w') := fun w' h => ht.on h
 have HWd := h_ (fun w => width_ok k hk w)
 have hmk := fun w => mk_zero (wdN k) (wdN_le k) w
 have hck : IntKind.u64.wrap (k : Int) = (k : Int) := by rw [IntKind.wrap_u64]; omega
 have HK := h_ hk
 have HKs := h_ hs
 have Ht64 := h_ ht64
 have Hn64 := h_ hn64
 have Hc := h_ hc
 have Hc47 := h_ hc47
 have hwd4 : wdN k ≤ 4 := wdN_le k
 have HWn : Hid (∀ bs, (sumB k bs).length = wdN k) := fun bs => sumB_length k bs
 have HWm : Hid ((wdN k : Int) = (wdN k : Int)) := rfl
 have HZ : Hid (zeroK b k = itLs (itsB b ++ if wdN k = 0 then [] else [.mk 2 0 (List.replicate (wdN k) 0) [] []])) := rfl
 have HEn : Hid (encK b k = ((zeroK b k).bytes.take ((zeroK b k).bytes.length - wdN k)) ++ sumB k (zeroK b k).bytes) := rfl
 have HDp : Hid ((zeroK b k).depth ≤ 60000) := itB2_depth _ _ _
 have HPk := h_ (fun (bs : List UInt8) (n : Int) (hn : n = (sumN k bs : Int)) (w : World) => putK_any k hk bs n (wdN k : Int) hn rfl w)
 have HW := h_ hW
 clear hW hr ht ht64 hn64 hc hc47
 obtain ⟨x0, x1, x2, x3⟩ := HX.out W bR
 rw [HW.out, hs] at x0 x1 x2 x3
 rw [hs] at HW ⊢
 clear hs
 unfold BkBy
 generalize hzk : zeroK b k = zi at *
 clear hzk
 generalize hwk : wdN k = wd at *
 clear hwk HWm
 go_enter Tryz.func24, Tryz.ntmps24
 go_wp2_with fail
 clear x0 x1 x2 x3
 rw [← HW.out]
 refine (HWd.out _).mono ?_
 rintro e w0 ⟨rfl, hb0⟩
 have HB1 := h_ (below_on HB0.out hb0)
 have HbW := h_ hb0
 clear hb0
 go_wp2_with fail
 have F : Below W.heap.size W w0.drew := HbW.out.drew
 refine wp_region_held_drew (S := fun w' => (w'.cell? ⟨w.heap.size, 0, none⟩ = some (.int .u64 b.t) ∧ w'.cell? ⟨w.heap.size, 1, none⟩ = some (.int .u64 b.n) ∧ w'.cell? ⟨w.heap.size, 2, none⟩ = some (.int .i64 (k : Int)) ∧ w'.cell? ⟨w.heap.size, 3, none⟩ = some (.slice a b.d.length c))) (by kernel_rfl) (HX.out _ F) (fun hHeld => ?_)
 refine takeL 0 (v := ?_) ?_ ‹_› ?_
 rotate_left
 ·intro w hSw; (try dsimp only at hSw); go_simp; all_goals with_reducible rfl
 simp only [Act.put, zA, zB, zC]
 refine takeL 1 (v := ?_) ?_ ‹_› ?_
 rotate_left
 ·intro w hSw; (try dsimp only at hSw); go_simp; all_goals with_reducible rfl
 simp only [Act.put, zA, zB, zC]
 refine takeL 2 (v := ?_) ?_ ‹_› ?_
 rotate_left
 ·intro w hSw; (try dsimp only at hSw); go_simp; all_goals with_reducible rfl
 simp only [Act.put, zA, zB, zC]
 refine takeL 4 (v := ?_) ?_ ‹_› ?_
 rotate_left
 ·intro w hSw; (try dsimp only at hSw); go_simp; all_goals with_reducible rfl
 simp only [Act.put, zA, zB, zC]
 refine takeL 5 (v := ?_) ?_ ‹_› ?_
 rotate_left
 ·intro w hSw; (try dsimp only at hSw); go_simp; all_goals with_reducible rfl
 simp only [Act.put, zA, zB, zC]
 refine takeL 6 (v := ?_) ?_ ‹_› ?_
 rotate_left
 ·intro w hSw; (try dsimp only at hSw); go_simp; all_goals with_reducible rfl
 simp only [Act.put, zA, zB, zC]
 refine takeL 8 (v := ?_) ?_ ‹_› ?_
 rotate_left
 ·intro w hSw; (try dsimp only at hSw); go_simp; all_goals with_reducible rfl
 simp only [Act.put, zA, zB, zC]
 refine takeL 9 (v := ?_) ?_ ‹_› ?_
 rotate_left
 ·intro w hSw; (try dsimp only at hSw); go_simp; all_goals with_reducible rfl
 simp only [Act.put, zA, zB, zC]
 refine takeL 10 (v := ?_) ?_ ‹_› ?_
 rotate_left
 ·intro w hSw; (try dsimp only at hSw); go_simp; all_goals with_reducible rfl
 simp only [Act.put, zA, zB, zC]
 refine takeL 11 (v := ?_) ?_ ‹_› ?_
 rotate_left
 ·intro w hSw; (try dsimp only at hSw); go_simp; all_goals with_reducible rfl
 simp only [Act.put, zA, zB, zC]
 refine takeL 13 (v := ?_) ?_ ‹_› ?_
 rotate_left
 ·intro w hSw; (try dsimp only at hSw); go_simp; all_goals with_reducible rfl
 simp only [Act.put, zA, zB, zC]
 refine takeL 14 (v := ?_) ?_ ‹_› ?_
 rotate_left
 ·intro w hSw; (try dsimp only at hSw); go_simp; all_goals with_reducible rfl
 simp only [Act.put, zA, zB, zC]
 refine takeL 15 (v := ?_) ?_ ‹_› ?_
 rotate_left
 ·intro w hSw; (try dsimp only at hSw); go_simp; all_goals with_reducible rfl
 simp only [Act.put, zA, zB, zC]
 refine wpAnyH_ready (rs := [3]) (by kernel_rfl) (by simp) (.cons rfl (fun K hK => ?_) .nil)
 go_simp
 refine (buint_any _ _).mono ?_
 rintro e w1 ⟨rfl, hb⟩
 replace F := below_on F hb
 clear hb
 refine hK.out _ _ (HX.out _ F) (fun hHeld => ?_)
 clear hK K
 try simp only [Act.put, zA, zB, zC]
 refine wpAnyH_ready (rs := [7]) (by kernel_rfl) (by simp) (.cons rfl (fun K hK => ?_) .nil)
 go_simp
 refine (buint_any _ _).mono ?_
 rintro e w2 ⟨rfl, hb⟩
 replace F := below_on F hb
 clear hb
 refine hK.out _ _ (HX.out _ F) (fun hHeld => ?_)
 clear hK K
 try simp only [Act.put, zA, zB, zC]
 refine wpAnyH_ready (rs := [12]) (by kernel_rfl) (by simp) (.cons rfl (fun K hK => ?_) .nil)
 go_simp
 refine (buint_any _ _).mono ?_
 rintro e w3 ⟨rfl, hb⟩
 replace F := below_on F hb
 clear hb
 refine hK.out _ _ (HX.out _ F) (fun hHeld => ?_)
 clear hK K
 try simp only [Act.put, zA, zB, zC]
 refine wpAnyH_ready (rs := [16]) (by kernel_rfl) (by simp) (.cons rfl (fun K hK => ?_) .nil)
 go_simp
 refine (bbytesI_any _ _ _ _).mono ?_
 rintro e w4 ⟨rfl, hb⟩
 replace F := below_on F hb
 clear hb
 refine hK.out _ _ (HX.out _ F) (fun hHeld => ?_)
 clear hK K
 try simp only [Act.put, zA, zB, zC]
 refine wpAnyH_ready (rs := [17]) (by kernel_rfl) (by simp) (.cons rfl (fun K hK => ?_) .nil)
 go_simp
 have F4 := h_ F
 replace F := below_al F (.cells #[.int .i64 1, .int .u64 b.t, .slice none 0 0, .string ⟨#[]⟩, .slice none 0 0, .int .i64 1, .int .u64 b.n, .slice none 0 0, .string ⟨#[]⟩, .slice none 0 0, .int .i64 1, .int .u64 k, .slice none 0 0, .string ⟨#[]⟩, .slice none 0 0, .int .i64 2, .int .u64 0, .slice a b.d.length c, .string ⟨#[]⟩, .slice none 0 0] 83)
 refine hK.out _ _ (HX.out _ F) (fun hHeld => ?_)
 clear hK K
 try simp only [Act.put, zA, zB, zC]
 refine takeL 18 (v := ?_) ?_ ‹_› ?_
 rotate_left
 ·intro w hSw; (try dsimp only at hSw); go_simp; all_goals with_reducible rfl
 simp only [Act.put, zA, zB, zC]
 clear hHeld
 refine wpAnyH_done (by kernel_rfl) ?_ _
 have HB5 := h_ (below_on HB0.out F)
 have hli : LI w4 (newB (bare w4) w4) [.int .i64 1, .int .u64 b.t, .slice none 0 0, .string ⟨#[]⟩, .slice none 0 0, .int .i64 1, .int .u64 b.n, .slice none 0 0, .string ⟨#[]⟩, .slice none 0 0, .int .i64 1, .int .u64 k, .slice none 0 0, .string ⟨#[]⟩, .slice none 0 0, .int .i64 2, .int .u64 0, .slice a b.d.length c, .string ⟨#[]⟩, .slice none 0 0] (itsB b) := by
  have hsb := itS_bytes (Hc.out) Hc47.out (HRd.out w4 (below_on HB0.out F4.out))
  refine LI.app (l := [itU b.t]) (m := [itU b.n, itU b.s, .mk 2 0 b.d [] []]) ?_ (LI.one (itS_uint _ _ b.t ⟨by omega, by have := Ht64.out; omega⟩))
  refine LI.app (l := [itU b.n]) (m := [itU b.s, .mk 2 0 b.d [] []]) ?_ (LI.one (itS_uint _ _ b.n ⟨by omega, by have := Hn64.out; omega⟩))
  rw [HKs.out]
  exact LI.app (l := [itU k]) (m := [.mk 2 0 b.d [] []]) (LI.one hsb) (LI.one (itS_uint _ _ k ⟨by omega, by have := HK.out; omega⟩))
 have hlo := listO_lits (w0 := W) F4.out (cs := #[.int .i64 1, .int .u64 b.t, .slice none 0 0, .string ⟨#[]⟩, .slice none 0 0, .int .i64 1, .int .u64 b.n, .slice none 0 0, .string ⟨#[]⟩, .slice none 0 0, .int .i64 1, .int .u64 k, .slice none 0 0, .string ⟨#[]⟩, .slice none 0 0, .int .i64 2, .int .u64 0, .slice a b.d.length c, .string ⟨#[]⟩, .slice none 0 0]) rfl hli (show (itsB b).length ≤ 1000 from (show 4 ≤ 1000 by decide))
 obtain ⟨w5, hw5⟩ : ∃ w5, w5 = w4.alloc (.cells #[.int .i64 1, .int .u64 b.t, .slice none 0 0, .string ⟨#[]⟩, .slice none 0 0, .int .i64 1, .int .u64 b.n, .slice none 0 0, .string ⟨#[]⟩, .slice none 0 0, .int .i64 1, .int .u64 k, .slice none 0 0, .string ⟨#[]⟩, .slice none 0 0, .int .i64 2, .int .u64 0, .slice a b.d.length c, .string ⟨#[]⟩, .slice none 0 0] 83) := ⟨_, rfl⟩
 have HLo : Hid (ListO (bare W) w5 (.slice (some ⟨w4.heap.size, 0, none⟩) 4 4) (itsB b)) := by rw [hw5]; exact hlo
 have HF5 : Hid (Below W.heap.size W w5) := by rw [hw5]; exact F
 have HBw5 : Hid (Below w.heap.size w w5) := by rw [hw5]; exact HB5.out
 have HO5 : Hid (W.heap.size ≤ w4.heap.size ∧ w5.heap.size = w4.heap.size + 1) := by rw [hw5]; exact ⟨F4.out.size, by simp⟩
 have HW5 := h_ hw5
 clear hli hlo hw5 F
 have hit4 : (itsB b).length = 4 := rfl
 have HI4 := h_ hit4
 clear hit4
 obtain ⟨l, hl⟩ : ∃ l, l = itsB b := ⟨_, rfl⟩
 rw [← hl] at HLo HZ HI4
 clear hl
 by_cases hw0 : wd = 0
 ·have d0 : decide (0 < wd) = false := decide_eq_false (by omega)
  have HZ0 : Hid (zi = itLs l) := by rw [Hid, HZ.out, if_pos hw0, List.append_nil]
  have HW0 := h_ hw0
  clear hw0
  have HIt : Hid (ItV w5 w5.heap.size (listV (some ⟨w4.heap.size, 0, none⟩) 4 4) (itLs l)) := by
   obtain ⟨A, C, e, hit⟩ := HLo.out.item (by have := HI4.out; omega)
   injection e with e1 e2 e3
   rw [← e1, ← e2, ← e3] at hit
   exact ItS.itV (fun b q => q.2) _ hit
  go_wp2_with fail
  clear d0
  rw [← HW5.out]
  refine (blist_any _ _ _ _).mono ?_
  rintro e w7 ⟨rfl, hb7⟩
  have HIt7 : Hid (ItV w7 w7.heap.size (listV (some ⟨w4.heap.size, 0, none⟩) 4 4) (itLs l)) := HIt.out.on hb7
  have HF7 := h_ (below_on HF5.out hb7)
  have HB7 := h_ (below_on HBw5.out hb7)
  clear hb7
  go_wp2_with fail
  have hdep := HDp.out
  rw [HZ0.out] at hdep
  have henc := encode_any (itLs l) (listV (some ⟨w4.heap.size, 0, none⟩) 4 4) w7 HIt7.out (HT.out w7 HB7.out) hdep
  unfold listV at henc
  rw [← HZ0.out] at henc
  refine henc.mono ?_
  rintro e w8 ⟨hb8, ⟨hbad, rfl⟩ | ⟨hgood, u, rfl, hown⟩⟩
  ·have hne : ((zi.err : Int) != 0) = true := by simp [hbad]
   have HBad := h_ hbad
   have HB8 := h_ (below_on HB7.out hb8)
   clear hbad hb8 henc hdep
   go_wp2_with fail
   go_ret2
   exact ⟨HB8.out, .inr ⟨HBad.out, rfl⟩⟩
  have HGood := h_ hgood
  have hlen8 := err_len hgood
  have HB8 := h_ (below_on HB7.out hb8)
  have HF8 := h_ (below_on HF7.out hb8)
  obtain ⟨zb, hzb⟩ : ∃ zb, zb = zi.bytes := ⟨_, rfl⟩
  rw [← hzb] at hlen8 hown HEn
  have HZb := h_ hzb
  have hzpos : 1 ≤ zb.length := by rw [hzb]; exact bytes_pos zi
  obtain ⟨g, cap, cur, rfl, hg0, hgh, hgn, hgm, hgs, hgt⟩ : ∃ g cap cur, u = .slice (some ⟨g, 0, none⟩) zb.length cap ∧ w7.heap.size ≤ g ∧ w8.heap[g]? = some (.cells cur 5 (0, 0)) ∧ zb.length ≤ cap ∧ cap ≤ maxLen ∧ cur.size = cap * 1 ∧ cur.toList.take (zb.length * 1) = zb.map encB := by
   rcases hown.2 with ⟨_, h⟩ | ⟨g, cap, cur, h1, h2, h3, h4, h5, h6, h7⟩
   ·rw [List.length_map] at h
    omega
   ·rw [List.length_map] at h1 h4 h7
    exact ⟨g, cap, cur, h1, h2, h3, h4, h5, h6, h7⟩
  have hrd8 : RdB w8 w8.heap.size (some ⟨g, 0, none⟩) zb := RdB.of_own hown
  have HRd8 := h_ hrd8
  obtain ⟨n8, hn8⟩ : ∃ n8, n8 = zb.length := ⟨_, rfl⟩
  rw [← hn8] at hlen8 hzpos hgn hgt ⊢
  have HN8 := h_ hn8
  have HG := h_ (⟨hg0, hgh, hgn, hgm, hgs, hgt⟩ : _ ∧ _ ∧ _ ∧ _ ∧ _ ∧ _)
  obtain ⟨x0, x1, x2, x3⟩ := HX.out w8 HF8.out
  clear hgood hb8 henc hdep hzb hn8 hown hg0 hgh hgm hgs hgt hrd8
  go_wp2_with fail
  have hof := of_ok k HK.out (some ⟨w8.heap.size, 0, none⟩) 1 1 [zb] zb rfl (by simp) (w8.alloc (.cells #[.slice (some ⟨g, 0, none⟩) n8 cap] 24)) (by simp) (by have := HN8.out; omega) (by
   have h := srdP_one w8 w8.heap.size (Nat.le_refl _) 24 (some ⟨g, 0, none⟩) cap zb HRd8.out (by have := HN8.out; omega)
   rw [← HN8.out] at h
   exact h)
  refine hof.mono ?_
  rintro e w9 ⟨rfl, hb9⟩
  obtain ⟨sn, hsn⟩ : ∃ sn, sn = sumN k zb := ⟨_, rfl⟩
  have hsum : IntKind.u64.wrap (sn : Int) = (sn : Int) := by
   have h1 := sumN_le (k := k) zb
   have h2 : onN k ≤ 4294967295 := by
    have h4 := HK.out
    have h5 : k = 0 ∨ k = 1 ∨ k = 2 := by omega
    rcases h5 with rfl | rfl | rfl <;> decide
   rw [IntKind.wrap_u64]
   omega
  rw [← hsn]
  have HSn := h_ hsn
  have hb89 : Below w8.heap.size w8 w9 := below_on (below_al bR _) hb9
  have HF9 := h_ (below_on HF8.out hb89)
  have HB9 := h_ (below_on HB8.out hb89)
  have Hb89 := h_ hb89
  clear hsn hb9 hof hb89 x0 x1 x2 x3
  go_wp2_with fail
  refine (HPk.out zb _ (by rw [HSn.out]) w9).mono ?_
  rintro e w10 ⟨aS, cS, gS, rfl, hcS, hrS, hbS⟩
  rw [HWn.out] at hcS ⊢
  have HB10 := h_ (below_on HB9.out hbS)
  have Hb8T := h_ (below_on Hb89.out hbS)
  have HcS := h_ hcS
  have HrS := h_ hrS
  have HsL := h_ (HWn.out zb)
  clear hsum hbS hcS hrS
  have hcut : ∀ w : World, (Instr.slice 24 (.slice (some ⟨g, 0, none⟩) n8 cap) (some (.int .i64 ((n8 - wd : Nat) : Int))) none none).run Tryz.prog w = .ok (.slice (if cap = n8 - wd then (some (⟨g, 0, none⟩ : Addr)) else (some (⟨g, 0, none⟩ : Addr)).map (·.add ((n8 - wd) * 1))) (n8 - (n8 - wd)) (cap - (n8 - wd))) w := fun w => bcut1 _ n8 cap (n8 - wd) (Nat.sub_le _ _) w
  have hsub : IntKind.i64.wrap ((n8 : Int) - (wd : Int)) = ((n8 - wd : Nat) : Int) := by have h0 := HW0.out; simp [IntKind.wrap, IntKind.bits, IntKind.signed]; omega
  have HOut : Hid (OwnV w10 w.heap.size 5 (.slice (some ⟨g, 0, none⟩) n8 cap) ((encK b k).map encB)) := by
   obtain ⟨h1, h2, h3, h4, h5, h6⟩ := HG.out
   have e1 : encK b k = zb := by
    rw [HEn.out]
    have h9 : sumB k zb = [] := List.eq_nil_of_length_eq_zero (by rw [HsL.out]; exact HW0.out)
    rw [h9, List.append_nil, HW0.out, Nat.sub_zero, List.take_length]
   rw [Hid, e1]
   unfold OwnV
   rw [List.length_map, ← HN8.out]
   have hgl := (Array.getElem?_eq_some_iff.1 h2).1
   exact ⟨by rw [List.length_map, HN8.out]; omega, .inr ⟨g, cap, cur, rfl, Nat.le_trans HB7.out.size h1, (Hb8T.out.block g hgl).trans h2, h3, h4, h5, h6⟩⟩
  obtain ⟨m9, hm9⟩ : ∃ m9, m9 = n8 - wd := ⟨_, rfl⟩
  rw [← hm9] at hsub hcut
  have hm10 : n8 - m9 = 0 := by have := HW0.out; omega
  rw [hm10] at hcut
  clear hm9
  obtain ⟨aT, haT⟩ : ∃ aT, aT = (if cap = m9 then (some (⟨g, 0, none⟩ : Addr)) else (some (⟨g, 0, none⟩ : Addr)).map (·.add (m9 * 1))) := ⟨_, rfl⟩
  rw [← haT] at hcut
  obtain ⟨cT, hcT⟩ : ∃ cT, cT = cap - m9 := ⟨_, rfl⟩
  rw [← hcT] at hcut
  clear haT hcT hm10
  have hcp : (Builtin.copy_ #[24, 24] 3 #[.slice aT 0 cT, .slice aS wd cS]).run Tryz.prog w10 = .ok (.int .i64 0) w10 := run_copy_none (P := Tryz.prog) w10 24 24 3 5 aT aS 0 cT wd cS Tryz.underlying24 (by kernel_rfl) (Nat.min_eq_right (Nat.zero_le _))
  go_wp2_with fail
  go_ret2
  exact ⟨HB10.out, .inl ⟨HGood.out, _, rfl, HOut.out⟩⟩
 ·have d0 : decide (0 < wd) = true := decide_eq_true (by omega)
  have HZ0 : Hid (zi = itLs (l ++ [.mk 2 0 (List.replicate wd 0) [] []])) := by rw [Hid, HZ.out, if_neg hw0]
  have HWne := h_ hw0
  clear hw0
  go_wp2_with fail
  clear d0
  rw [← HW5.out, ← HO5.out.2]
  obtain ⟨w5b, hw5b⟩ : ∃ w5b, w5b = w5.alloc (.cells (madeCells #[.int .u8 0] wd) 5) := ⟨_, rfl⟩
  have hb5b : Below w5.heap.size w5 w5b := by rw [hw5b]; exact below_al bR _
  have HRz : Hid (RdB w5b w5b.heap.size (some ⟨w5.heap.size, 0, none⟩) (List.replicate wd 0)) := by rw [hw5b]; exact rd_zero w5 wd
  have HS5b : Hid (w5b.heap.size = w5.heap.size + 1) := by rw [hw5b]; simp [Hid]
  have HB5b := h_ hb5b
  rw [← hw5b]
  clear hw5b hb5b
  refine (bbytesI_any _ _ _ _).mono ?_
  rintro e w5c ⟨rfl, hb5c⟩
  have hR4 : RdB w5c w5c.heap.size (some ⟨w5.heap.size, 0, none⟩) (List.replicate wd 0) := (HRz.out.below hb5c).mono hb5c.size
  have hget := one_get (w0 := W) (w := w5c) (v := .slice (some ⟨w4.heap.size, 0, none⟩) 4 4) (bs := List.replicate wd 0) (c := wd) (by simp) (by simp; omega) hR4 (fun r h => by
   have h' : some w4.heap.size = some r := h
   injection h' with h'
   have h1 := HO5.out
   have h2 := HS5b.out
   have h3 := hb5c.size
   refine ⟨fun q hq => ?_, by omega⟩
   injection hq with hq
   rw [← hq]
   show w5.heap.size ≠ r
   omega) 83
  rw [List.length_replicate] at hget
  have hb5d := below_al (below_on HB5b.out hb5c) (.cells #[.int .i64 2, .int .u64 0, .slice (some ⟨w5.heap.size, 0, none⟩) wd wd, .string ⟨#[]⟩, .slice none 0 0] 83)
  obtain ⟨v6, w6, hrun6, hlo6, hgr6, hv6⟩ := listO_run2 HLo.out hb5d (some ⟨w5c.heap.size, 0, none⟩) [.mk 2 0 (List.replicate wd 0) [] []] 1 (by simp; have := HI4.out; omega) hget (fun h => by cases h)
  have hF6 : Below W.heap.size W w6 := (below_on HF5.out hb5d).grown hgr6 (below_on HF5.out hb5d).size (fun r h => by
   have h' : some w4.heap.size = some r := h
   injection h' with h'
   have h1 := HO5.out
   omega)
  have HF6 := h_ hF6
  have HB6 := h_ (below_on HB0.out hF6)
  have HRun6 := h_ hrun6
  have HLo6 := h_ hlo6
  clear hget hb5d hrun6 hlo6 hgr6 hv6 hF6 hR4 hb5c
  go_wp2_with (at_builtin; refine wpList_run (by rfl) _ _ _ _ (by rfl) _ _ _ _ (by rfl) (by rfl) HRun6.out ?_)
  obtain ⟨A6, C6, rfl, hit6⟩ := HLo6.out.item (by simp; have := HI4.out; omega)
  obtain ⟨lz, hlz⟩ : ∃ lz, lz = l ++ [.mk 2 0 (List.replicate wd 0) [] []] := ⟨_, rfl⟩
  obtain ⟨m6, hm6⟩ : ∃ m6, m6 = lz.length := ⟨_, rfl⟩
  rw [← hlz, ← hm6] at hit6 ⊢
  have HIt : Hid (ItV w6 w6.heap.size (listV A6 m6 C6) (itLs lz)) := ItS.itV (fun b q => q.2) _ hit6
  have HZ1 := h_ HZ0.out
  rw [← hlz] at HZ0
  clear hit6 hlz hm6
  go_wp2_with fail
  refine (blist_any _ _ _ _).mono ?_
  rintro e w7 ⟨rfl, hb7⟩
  have HIt7 : Hid (ItV w7 w7.heap.size (listV A6 m6 C6) (itLs lz)) := HIt.out.on hb7
  have HF7 := h_ (below_on HF6.out hb7)
  have HB7 := h_ (below_on HB6.out hb7)
  clear hb7
  go_wp2_with fail
  have hdep := HDp.out
  rw [HZ0.out] at hdep
  have henc := encode_any (itLs lz) (listV A6 m6 C6) w7 HIt7.out (HT.out w7 HB7.out) hdep
  unfold listV at henc
  rw [← HZ0.out] at henc
  refine henc.mono ?_
  rintro e w8 ⟨hb8, ⟨hbad, rfl⟩ | ⟨hgood, u, rfl, hown⟩⟩
  ·have hne : ((zi.err : Int) != 0) = true := by simp [hbad]
   have HBad := h_ hbad
   have HB8 := h_ (below_on HB7.out hb8)
   clear hbad hb8 henc hdep
   go_wp2_with fail
   go_ret2
   exact ⟨HB8.out, .inr ⟨HBad.out, rfl⟩⟩
  have HGood := h_ hgood
  have hlen8 := err_len hgood
  have HB8 := h_ (below_on HB7.out hb8)
  have HF8 := h_ (below_on HF7.out hb8)
  obtain ⟨zb, hzb⟩ : ∃ zb, zb = zi.bytes := ⟨_, rfl⟩
  rw [← hzb] at hlen8 hown HEn
  have HZb := h_ hzb
  have hzpos : 1 ≤ zb.length := by rw [hzb]; exact bytes_pos zi
  obtain ⟨g, cap, cur, rfl, hg0, hgh, hgn, hgm, hgs, hgt⟩ : ∃ g cap cur, u = .slice (some ⟨g, 0, none⟩) zb.length cap ∧ w7.heap.size ≤ g ∧ w8.heap[g]? = some (.cells cur 5 (0, 0)) ∧ zb.length ≤ cap ∧ cap ≤ maxLen ∧ cur.size = cap * 1 ∧ cur.toList.take (zb.length * 1) = zb.map encB := by
   rcases hown.2 with ⟨_, h⟩ | ⟨g, cap, cur, h1, h2, h3, h4, h5, h6, h7⟩
   ·rw [List.length_map] at h
    omega
   ·rw [List.length_map] at h1 h4 h7
    exact ⟨g, cap, cur, h1, h2, h3, h4, h5, h6, h7⟩
  have hrd8 : RdB w8 w8.heap.size (some ⟨g, 0, none⟩) zb := RdB.of_own hown
  have HRd8 := h_ hrd8
  obtain ⟨n8, hn8⟩ : ∃ n8, n8 = zb.length := ⟨_, rfl⟩
  rw [← hn8] at hlen8 hzpos hgn hgt ⊢
  have HN8 := h_ hn8
  have HG := h_ (⟨hg0, hgh, hgn, hgm, hgs, hgt⟩ : _ ∧ _ ∧ _ ∧ _ ∧ _ ∧ _)
  obtain ⟨x0, x1, x2, x3⟩ := HX.out w8 HF8.out
  clear hgood hb8 henc hdep hzb hn8 hown hg0 hgh hgm hgs hgt hrd8
  go_wp2_with fail
  have hof := of_ok k HK.out (some ⟨w8.heap.size, 0, none⟩) 1 1 [zb] zb rfl (by simp) (w8.alloc (.cells #[.slice (some ⟨g, 0, none⟩) n8 cap] 24)) (by simp) (by have := HN8.out; omega) (by
   have h := srdP_one w8 w8.heap.size (Nat.le_refl _) 24 (some ⟨g, 0, none⟩) cap zb HRd8.out (by have := HN8.out; omega)
   rw [← HN8.out] at h
   exact h)
  refine hof.mono ?_
  rintro e w9 ⟨rfl, hb9⟩
  obtain ⟨sn, hsn⟩ : ∃ sn, sn = sumN k zb := ⟨_, rfl⟩
  have hsum : IntKind.u64.wrap (sn : Int) = (sn : Int) := by
   have h1 := sumN_le (k := k) zb
   have h2 : onN k ≤ 4294967295 := by
    have h4 := HK.out
    have h5 : k = 0 ∨ k = 1 ∨ k = 2 := by omega
    rcases h5 with rfl | rfl | rfl <;> decide
   rw [IntKind.wrap_u64]
   omega
  rw [← hsn]
  have HSn := h_ hsn
  have hb89 : Below w8.heap.size w8 w9 := below_on (below_al bR _) hb9
  have HF9 := h_ (below_on HF8.out hb89)
  have HB9 := h_ (below_on HB8.out hb89)
  have Hb89 := h_ hb89
  clear hsn hb9 hof hb89 x0 x1 x2 x3
  go_wp2_with fail
  refine (HPk.out zb _ (by rw [HSn.out]) w9).mono ?_
  rintro e w10 ⟨aS, cS, gS, rfl, hcS, hrS, hbS⟩
  rw [HWn.out] at hcS ⊢
  have HB10 := h_ (below_on HB9.out hbS)
  have Hb8T := h_ (below_on Hb89.out hbS)
  have HcS := h_ hcS
  have HrS := h_ hrS
  have HsL := h_ (HWn.out zb)
  clear hsum hbS hcS hrS
  have hcut : ∀ w : World, (Instr.slice 24 (.slice (some ⟨g, 0, none⟩) n8 cap) (some (.int .i64 ((n8 - wd : Nat) : Int))) none none).run Tryz.prog w = .ok (.slice (if cap = n8 - wd then (some (⟨g, 0, none⟩ : Addr)) else (some (⟨g, 0, none⟩ : Addr)).map (·.add ((n8 - wd) * 1))) (n8 - (n8 - wd)) (cap - (n8 - wd))) w := fun w => bcut1 _ n8 cap (n8 - wd) (Nat.sub_le _ _) w
  have hnw : wd ≤ n8 := by
   have h1 := HZ1.out
   have h2 := HZb.out
   have h3 : wd ≤ zb.length := by
    rw [h2, h1]
    simp only [itLs, It.bytes, bytesL_app, List.length_append, bytesL, ownB2, List.length_replicate]
    omega
   have := HN8.out
   omega
  have hsub : IntKind.i64.wrap ((n8 : Int) - (wd : Int)) = ((n8 - wd : Nat) : Int) := by simp [IntKind.wrap, IntKind.bits, IntKind.signed]; omega
  obtain ⟨adS, rfl, hsrc⟩ : ∃ ad, aS = some ad ∧ ∀ j v, ((sumB k zb).map encB)[j]? = some v → w10.cell? (ad.add j) = some v := by
   rcases HrS.out with h | ⟨bb, o, rfl, hlt, hcell⟩
   ·have h1 := HsL.out
    rw [h] at h1
    exact absurd h1.symm HWne.out
   ·refine ⟨⟨bb, o, none⟩, rfl, fun j v hv => ?_⟩
    have hj : j < (sumB k zb).length := by
     have := (List.getElem?_eq_some_iff.1 hv).1
     simpa using this
    rw [mk_addr_add]
    have h2 := hcell j hj
    rw [h2, ← hv]
    simp [hj, byteAt, encB]
  have hgl := (Array.getElem?_eq_some_iff.1 HG.out.2.1).1
  have hg10 : w10.heap[g]? = some (.cells cur 5 (0, 0)) := (Hb8T.out.block g hgl).trans HG.out.2.1
  have hcl : cur.toList.length = cap := by rw [Array.length_toList]; have := HG.out.2.2.2.2.1; omega
  have hne : ¬ cap = n8 - wd := by have := HG.out.2.2.1; have := HWne.out; omega
  obtain ⟨cs, hcs⟩ : ∃ cs, cs = (sumB k zb).map encB := ⟨_, rfl⟩
  have hcsl : cs.length = wd := by rw [hcs, List.length_map]; exact HsL.out
  obtain ⟨w11, hw11⟩ : ∃ w11, w11 = w10.setRow g (cur.toList.take (n8 - wd) ++ (cs ++ cur.toList.drop (n8 - wd + cs.length))).toArray := ⟨_, rfl⟩
  have HOut : Hid (OwnV w11 w.heap.size 5 (.slice (some ⟨g, 0, none⟩) n8 cap) ((encK b k).map encB)) := by
   obtain ⟨h1, h2, h3, h4, h5, h6⟩ := HG.out
   have h9 := own_splice (base := w.heap.size) (Nat.le_trans HB7.out.size h1) hg10 h3 h4 h5 h6 (by rw [List.length_map]; exact HN8.out.symm) (n8 - wd) (cs := cs) (by omega)
   rw [Hid, hw11, HEn.out, List.map_append, List.map_take, ← HN8.out, ← hcs]
   exact h9
  have HB11 : Hid (Below w.heap.size w w11) := by rw [hw11]; exact below_setRow HB10.out (Nat.le_trans HB7.out.size HG.out.1) _
  have hadd : (⟨g, 0, none⟩ : Addr).add ((n8 - wd) * 1) = ⟨g, n8 - wd, none⟩ := by rw [mk_addr_add, Nat.zero_add, Nat.mul_one]
  rw [if_neg hne, Option.map_some, hadd] at hcut
  have hn11 : n8 - (n8 - wd) = wd := by omega
  rw [hn11] at hcut
  have hfit : n8 - wd + cs.length ≤ cur.size := by have h1 := HG.out.2.2.1; rw [← Array.length_toList]; omega
  have h1c : ∀ v ∈ cs, v.oneCell' = true := by rw [hcs]; exact encB_one _
  rw [← hcs] at hsrc
  have HFit := h_ hfit
  have HSrc := h_ hsrc
  have HG10 := h_ hg10
  have HOne := h_ h1c
  have HCsl : Hid (cs.length = Nat.min wd wd) := by rw [Hid, hcsl]; simp
  have HW11 := h_ hw11
  obtain ⟨m9, hm9⟩ : ∃ m9, m9 = n8 - wd := ⟨_, rfl⟩
  rw [← hm9] at hsub hcut HFit HW11
  clear hm9 hadd hn11 hfit h1c hsrc hg10 hcl hgl hne hcs hcsl hw11 hnw
  obtain ⟨cT, hcT⟩ : ∃ cT, cT = cap - m9 := ⟨_, rfl⟩
  rw [← hcT] at hcut
  clear hcT
  have hcp : (Builtin.copy_ #[24, 24] 3 #[.slice (some ⟨g, m9, none⟩) wd cT, .slice (some adS) wd cS]).run Tryz.prog w10 = .ok (.int .i64 wd) w11 := by
   have h := run_copy_row (P := Tryz.prog) w10 24 24 3 5 g m9 wd cT adS wd cS cur 5 cs Tryz.underlying24 (by kernel_rfl) HG10.out HCsl.out HSrc.out HFit.out HOne.out
   rw [List.append_assoc, ← HW11.out] at h
   rw [h]
   have h9 : cs.length = wd := by rw [HCsl.out]; simp
   rw [h9]
   rfl
  go_wp2_with fail
  go_ret2
  exact ⟨HB11.out, .inl ⟨HGood.out, _, rfl, HOut.out⟩⟩

attribute [local go_sem] Oper.semAt_some

structure Bl.ok (b : Bl) : Prop where
 t : b.t < 18446744073709551616
 n : b.n < 18446744073709551616

def errB (b : Bl) : Nat := if rightB b = true then (zeroK b b.s.toNat).err else 2

theorem rightB_k {b : Bl} (h : rightB b = true) : ∃ k : Nat, k ≤ 2 ∧ b.s = (k : Int) := by
 unfold rightB lookE at h
 split at h
 ·rename_i h1
  simp only [Bool.and_eq_true] at h1
  exact isK_nat h1.2.2
 ·cases h

def EncBk (w : World) (b : Bl) (e : Ending) (w' : World) : Prop := Below w.heap.size w w' ∧ ((errB b = 0 ∧ ∃ u, e = .returned (.tuple #[u, .int .i64 0]) ∧ OwnV w' w.heap.size 5 u ((encK b b.s.toNat).map encB)) ∨ (errB b ≠ 0 ∧ e = .returned (.tuple #[.slice none 0 0, .int .i64 (errB b)])))

theorem blkBytesR_any (b : Bl) (a : Option Addr) (c : Nat) (hb : b.ok) (hrt : rightB b = true) (w : World) (hr : RdB w w.heap.size a b.d) (hc : b.d.length ≤ c) (hc47 : b.d.length ≤ 140737488355328) (ht : TabW w) :
  Calls Tryz.prog 24 #[.agg #[.int .u64 b.t, .int .u64 b.n, .int .i64 b.s, .slice a b.d.length c]] w (BkBy w b b.s.toNat) := by
 obtain ⟨k, hk, hks⟩ := rightB_k hrt
 have e1 : b.s.toNat = k := by omega
 rw [e1]
 exact blkBytes_any b a c k hk hks hb.t hb.n w hr hc hc47 ht

theorem blkEncode_any (b : Bl) (a : Option Addr) (c : Nat) (hb : b.ok) (w : World) (hr : RdB w w.heap.size a b.d) (hc : b.d.length ≤ c) (hc47 : b.d.length ≤ 140737488355328) (ht : TabW w) :
  Calls Tryz.prog 7 #[.agg #[.int .u64 b.t, .int .u64 b.n, .int .i64 b.s, .slice a b.d.length c]] w (EncBk w b) := by
 obtain ⟨W1, hW1⟩ : ∃ W, W = w.alloc (.cells #[.int .u64 b.t, .int .u64 b.n, .int .i64 b.s, .slice a b.d.length c] 26) := ⟨_, rfl⟩
 have s1 : W1.heap.size = w.heap.size + 1 := by rw [hW1]; simp
 obtain ⟨W, hW⟩ : ∃ W, W = W1.alloc (.cells #[.int .u64 b.t, .int .u64 b.n, .int .i64 b.s, .slice a b.d.length c] 65) := ⟨_, rfl⟩
 have hb1 : Below w.heap.size w W1 := by rw [hW1]; exact below_al bR _
 have hb2 : Below W1.heap.size W1 W := by rw [hW]; exact below_al bR _
 have HB0 : Hid (Below w.heap.size w W) := below_on hb1 hb2
 have HX : Hid (∀ w', Below W.heap.size W w' → (w'.cell? ⟨w.heap.size + 1, 0, none⟩ = some (.int .u64 b.t) ∧ w'.cell? ⟨w.heap.size + 1, 1, none⟩ = some (.int .u64 b.n) ∧ w'.cell? ⟨w.heap.size + 1, 2, none⟩ = some (.int .i64 b.s) ∧ w'.cell? ⟨w.heap.size + 1, 3, none⟩ = some (.slice a b.d.length c))) := fun w' h => by
  rw [hW] at h
  have q := bbox h
  rw [s1] at q
  exact q
 have HIn : Hid (∀ w', Below W.heap.size W w' → RdB w' w'.heap.size a b.d ∧ TabW w') := fun w' h => ⟨(hr.below (below_on HB0.out h)).mono (below_on HB0.out h).size, ht.on (below_on HB0.out h)⟩
 have HRt := h_ (fun w' (h : Below W.heap.size W w') => bright_any b a c w' (HIn.out w' h).1 hc hc47 (HIn.out w' h).2)
 have HBy : Hid (rightB b = true → ∀ w', Below W.heap.size W w' → Calls Tryz.prog 24 #[.agg #[.int .u64 b.t, .int .u64 b.n, .int .i64 b.s, .slice a b.d.length c]] w' (BkBy w' b b.s.toNat)) := fun hrt w' h => blkBytesR_any b a c hb hrt w' (HIn.out w' h).1 hc hc47 (HIn.out w' h).2
 have HEr : Hid (errB b = if rightB b = true then (zeroK b b.s.toNat).err else 2) := rfl
 have HW : Hid (W = (w.alloc (.cells #[.int .u64 b.t, .int .u64 b.n, .int .i64 b.s, .slice a b.d.length c] 26)).alloc (.cells #[.int .u64 b.t, .int .u64 b.n, .int .i64 b.s, .slice a b.d.length c] 65)) := by rw [← hW1]; exact hW
 have HS1 : Hid (w.heap.size ≤ W.heap.size) := HB0.out.size
 obtain ⟨x0, x1, x2, x3⟩ := HX.out W bR
 rw [HW.out] at x0 x1 x2 x3
 clear hW1 hW hb1 hb2 s1 hr ht hb
 obtain ⟨rb, hrb⟩ : ∃ rb, rb = rightB b := ⟨_, rfl⟩
 rw [← hrb] at HRt HBy HEr
 clear hrb
 go_enter Tryz.func7, Tryz.ntmps7
 go_wp2_with fail
 clear x0 x1 x2 x3
 rw [← HW.out]
 refine (HRt.out W bR).mono ?_
 rintro e w1 ⟨rfl, hb1⟩
 have HB1 := h_ (below_on HB0.out hb1)
 cases rb
 ·have HEr2 : Hid (errB b = 2) := by rw [Hid, HEr.out]; rfl
  clear hb1
  go_wp2_with fail
  go_ret2
  exact ⟨HB1.out, .inr ⟨by rw [HEr2.out]; decide, by rw [HEr2.out]; rfl⟩⟩
 have HEr2 : Hid (errB b = (zeroK b b.s.toNat).err) := by rw [Hid, HEr.out]; rfl
 obtain ⟨x0, x1, x2, x3⟩ := HX.out w1 hb1
 have HK := h_ (HBy.out rfl w1 hb1)
 clear hb1
 go_wp2_with fail
 clear x0 x1 x2 x3
 refine HK.out.mono ?_
 rintro e w2 ⟨hb2, ⟨he, u, rfl, hown⟩ | ⟨he, rfl⟩⟩
 ·have HOw : Hid (OwnV w2 w.heap.size 5 u ((encK b b.s.toNat).map encB)) := ⟨hown.1, hown.2.imp id fun ⟨g, cap, cur, e, h0, r⟩ => ⟨g, cap, cur, e, Nat.le_trans HB1.out.size h0, r⟩⟩
  have HB2 := h_ (below_on HB1.out hb2)
  have HE0 : Hid (errB b = 0) := by rw [Hid, HEr2.out]; exact he
  clear hown hb2 he
  go_wp2_with fail
  go_ret2
  exact ⟨HB2.out, .inl ⟨HE0.out, u, rfl, HOw.out⟩⟩
 ·have HB2 := h_ (below_on HB1.out hb2)
  have HE0 : Hid (errB b ≠ 0) := by rw [Hid, HEr2.out]; exact he
  rw [← HEr2.out]
  clear hb2 he
  go_wp2_with fail
  go_ret2
  exact ⟨HB2.out, .inr ⟨HE0.out, rfl⟩⟩

theorem blkCheck_any (b : Bl) (a : Option Addr) (c : Nat) (hb : b.ok) (w : World) (hr : RdB w w.heap.size a b.d) (hc : b.d.length ≤ c) (hc47 : b.d.length ≤ 140737488355328) (ht : TabW w) :
  Calls Tryz.prog 8 #[.agg #[.int .u64 b.t, .int .u64 b.n, .int .i64 b.s, .slice a b.d.length c]] w fun e w' => e = .returned (.int .i64 (errB b)) ∧ Below w.heap.size w w' := by
 obtain ⟨W, hW⟩ : ∃ W, W = w.alloc (.cells #[.int .u64 b.t, .int .u64 b.n, .int .i64 b.s, .slice a b.d.length c] 26) := ⟨_, rfl⟩
 have HB0 : Hid (Below w.heap.size w W) := by rw [hW]; exact below_al bR _
 obtain ⟨x0, x1, x2, x3⟩ := bbox (b := b) (a := a) (c := c) (Below.refl (w.alloc (.cells #[.int .u64 b.t, .int .u64 b.n, .int .i64 b.s, .slice a b.d.length c] 26)).heap.size _)
 have HK := h_ (blkEncode_any b a c hb W ((hr.below HB0.out).mono HB0.out.size) hc hc47 (ht.on HB0.out))
 have HW := h_ hW
 clear hW hr ht hb
 go_enter Tryz.func8, Tryz.ntmps8
 go_wp2_with fail
 clear x0 x1 x2 x3
 rw [← HW.out]
 refine HK.out.mono ?_
 rintro e w1 ⟨hb1, ⟨he, u, rfl, hown⟩ | ⟨he, rfl⟩⟩
 ·have HB1 := h_ (HB0.out.trans (hb1.mono HB0.out.size))
  have HE := h_ he
  clear hown hb1 he
  go_wp2_with fail
  go_ret
  exact ⟨by rw [HE.out]; rfl, HB1.out⟩
 ·have HB1 := h_ (HB0.out.trans (hb1.mono HB0.out.size))
  clear hb1 he
  go_wp2_with fail
  go_ret
  exact ⟨rfl, HB1.out⟩

end Go.Proofs.YtiahakbkagipkaaGreatDoor
