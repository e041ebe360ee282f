/- Joined texts. -/
import Derived.Test.YteldifnkeekafaaGreatDoorZBw
import Derived.StillTailTactics
set_option maxHeartbeats 4000000
namespace Go.Proofs.YteldifnkeekafaaGreatDoor
open Go.RowKit Go.Shelf

def ownB (k n : Int) (b s : List UInt8) (m : Nat) : List UInt8 :=
 if k = 1 then headB 0 n else if k = 2 then headB 2 b.length ++ b else if k = 3 then headB 3 s.length ++ s else if k = 4 then headB 4 m else if k = 5 then headB 7 (20 + n) else headB 7 22

mutual
def It.bytes : It → List UInt8
 | .mk k n b s l => ownB k n b s l.length ++ bytesL l
def bytesL : List It → List UInt8
 | [] => []
 | x :: xs => x.bytes ++ bytesL xs
end

mutual
def It.right : It → Bool
 | .mk k n b s l => rightN k n b s l.length && rightL l
def rightL : List It → Bool
 | [] => true
 | x :: xs => x.right && rightL xs
end

theorem bytesL_step (l : List It) (k : Nat) (hk : k < l.length) : bytesL (l.take (k + 1)) = bytesL (l.take k) ++ l[k].bytes := by
 induction l generalizing k with
 | nil => simp at hk
 | cons y ys ih =>
  cases k with
  | zero => simp [bytesL]
  | succ k =>
   simp only [List.take_succ_cons, bytesL, List.getElem_cons_succ]
   rw [ih k (by simpa using hk), List.append_assoc]

theorem rightL_step (l : List It) (k : Nat) (hk : k < l.length) : rightL (l.take (k + 1)) = (rightL (l.take k) && l[k].right) := by
 induction l generalizing k with
 | nil => simp at hk
 | cons y ys ih =>
  cases k with
  | zero => simp [rightL]
  | succ k =>
   simp only [List.take_succ_cons, rightL, List.getElem_cons_succ]
   rw [ih k (by simpa using hk), Bool.and_assoc]

theorem rightL_mem {l : List It} (h : rightL l = true) {x : It} (hx : x ∈ l) : x.right = true := by
 induction l with
 | nil => cases hx
 | cons y ys ih =>
  simp only [rightL, Bool.and_eq_true] at h
  rcases List.mem_cons.1 hx with rfl | hx
  ·exact h.1
  ·exact ih h.2 hx

theorem WS.depth {w : World} {G M d : Nat} {bs : List UInt8} {u : Value} (h : WS w G M bs d u) (q : Nat) : WS (w.setCell ⟨G, 2, none⟩ (.int .i64 q)) G M bs q u where
 lt := by rw [World.size_setCell]; exact h.lt
 map := (Below.heap_setCell w _ _ M (Nat.ne_of_lt h.lt.1)).trans h.map
 c0 := (World.cell?_setCell_other _ _ _ _ (by simp)).trans h.c0
 c1 := (World.cell?_setCell_other _ _ _ _ (by simp)).trans h.c1
 c2 := World.cell?_setCell_same _ _ _ h.c2
 c3 := (World.cell?_setCell_other _ _ _ _ (by simp)).trans h.c3
 fz := fun j => by rw [World.frozen?_setCell]; exact h.fz j
 own := fun q => (h.own q).setG _

theorem kind_any (k n : Int) (a : Option Addr) (b s : List UInt8) (c : Nat) (A : Option Addr) (m C : Nat) (hr : rightN k n b s m = true) (hsb : b.length ≤ 140737488355328) (hss : s.length ≤ 140737488355328) (hsm : m ≤ 140737488355328) (hn : U64 n) :
  ∃ f, (∀ args w, (callFunc f args).run Tryz.prog w = .ok (.enter f args) w) ∧ (∀ (w : World) (M : Nat), w.heap[M]? = some (.map kMap 6) → (Instr.lookup 92 (.map (some M)) (.int .i64 k) false).run Tryz.prog w = .ok (.func (.func f) #[] #[]) w) ∧
   ∀ (G M d : Nat) (bs : List UInt8) (u : Value) (S : Nat → Prop) (w : World), WS w G M bs d u → Free S bs u → ¬ S G → (∀ b, S b → b < w.heap.size) → TabW w → RdB w G a b →
    Calls Tryz.prog f #[.pointer (some ⟨G, 0, none⟩), .agg #[.int .i64 k, .int .u64 n, .slice a b.length c, .string ⟨s.toArray⟩, .slice A m C]] w (KindP S w G M bs d (ownB k n b s m)) := by
 have hk : k = 1 ∨ k = 2 ∨ k = 3 ∨ k = 4 ∨ k = 5 ∨ k = 6 := by
  unfold rightN at hr
  by_cases h1 : k = 1
  ·exact .inl h1
  by_cases h2 : k = 2
  ·exact .inr (.inl h2)
  by_cases h3 : k = 3
  ·exact .inr (.inr (.inl h3))
  by_cases h4 : k = 4
  ·exact .inr (.inr (.inr (.inl h4)))
  by_cases h5 : k = 5
  ·exact .inr (.inr (.inr (.inr (.inl h5))))
  simp only [h1, h2, h3, h4, h5, if_false, Bool.and_eq_true, decide_eq_true_eq] at hr
  exact .inr (.inr (.inr (.inr (.inr hr.1))))
 rcases hk with rfl | rfl | rfl | rfl | rfl | rfl
 ·exact ⟨76, enters_of Tryz.func76 (by kernel_rfl) rfl, fun w M h => run_lookup_kind w M 1 _ h rfl, fun G M d bs u S w h1 h2 h3 h4 h5 _ => kind_uint G M d bs u S 1 n _ _ _ w h1 h2 h3 h4 h5 hn⟩
 ·exact ⟨79, enters_of Tryz.func79 (by kernel_rfl) rfl, fun w M h => run_lookup_kind w M 2 _ h rfl, fun G M d bs u S w h1 h2 h3 h4 h5 h6 => kind_bytes G M d bs u S 2 n a b c _ _ w h1 h2 h3 h4 h5 h6 hsb⟩
 ·exact ⟨80, enters_of Tryz.func80 (by kernel_rfl) rfl, fun w M h => run_lookup_kind w M 3 _ h rfl, fun G M d bs u S w h1 h2 h3 h4 h5 _ => kind_text G M d bs u S 3 n s _ _ w h1 h2 h3 h4 h5 hss⟩
 ·exact ⟨81, enters_of Tryz.func81 (by kernel_rfl) rfl, fun w M h => run_lookup_kind w M 4 _ h rfl, fun G M d bs u S w h1 h2 h3 h4 h5 _ => kind_list G M d bs u S 4 n _ _ A m C w h1 h2 h3 h4 h5 hsm⟩
 ·refine ⟨82, enters_of Tryz.func82 (by kernel_rfl) rfl, fun w M h => run_lookup_kind w M 5 _ h rfl, fun G M d bs u S w h1 h2 h3 h4 h5 _ => kind_bool G M d bs u S 5 n _ _ _ w h1 h2 h3 h4 h5 hn.1 ?_⟩
  simp [rightN] at hr
  exact hr.1
 ·exact ⟨83, enters_of Tryz.func83 (by kernel_rfl) rfl, fun w M h => run_lookup_kind w M 6 _ h rfl, fun G M d bs u S w h1 h2 h3 h4 h5 _ => kind_null G M d bs u S 6 n _ _ _ w h1 h2 h3 h4 h5⟩

def withB (S : Nat → Prop) (B b : Nat) : Prop := S b ∨ b = B

def WriteP (S : Nat → Prop) (w : World) (G M : Nat) (bs : List UInt8) (d within : Nat) (x : It) (e : Ending) (w' : World) : Prop :=
 KeepB S w w' ∧ Below G w w' ∧
  ((x.right = true ∧ e = .returned (.int .i64 0) ∧ ∃ u, WS w' G M (bs ++ x.bytes) (max d (within + x.depth)) u ∧ Free S (bs ++ x.bytes) u) ∨ (x.right = false ∧ e = .returned (.int .i64 2)))

theorem Free.later {S : Nat → Prop} {w : World} {G M d : Nat} {bs : List UInt8} {u : Value} (h : Free S bs u) (hw : WS w G M bs d u) (B : Nat) (hB : w.heap.size ≤ B) : Free (withB S B) bs u := by
 intro q r hr hs
 rcases hs with hs | rfl
 ·exact h q r hr hs
 ·have := ((hw.own q).row r hr).2
  omega

theorem Free.less {S : Nat → Prop} {bs : List UInt8} {u : Value} {B : Nat} (h : Free (withB S B) bs u) : Free S bs u := fun q r hr hs => h q r hr (.inl hs)

set_option maxRecDepth 100000 in
theorem write_any : ∀ (x : It) (v : Value) (S : Nat → Prop) (G M d within : Nat) (bs : List UInt8) (u : Value) (w : World), ItV w G v x → WS w G M bs d u → Free S bs u → ¬ S G → (∀ b, S b → b < w.heap.size) → TabW w → 2 ≤ G → within + x.depth ≤ 65537 → d ≤ 100000000 →
  Calls Tryz.prog 43 #[.pointer (some ⟨G, 0, none⟩), v, .int .i64 within] w (WriteP S w G M bs d within x) := by
 refine It.ind fun k n b s l ih v S G M d within bs u w hv hS hF hSG hSl ht hG2 hwi hd => ?_
 simp only [ItV] at hv
 obtain ⟨A, ⟨a, c, C, rfl, ⟨hc, hC⟩, hrb, hn, hk, hsb, hss, hsl⟩, hl⟩ := hv
 simp only [Sz] at hsb hss hsl
 simp only [It.depth] at hwi
 have HL := h_ hl
 have IH := h_ ih
 have HS := h_ hS
 have HF := h_ hF
 have HSl := h_ hSl
 have HT := h_ ht
 have HRB := h_ hrb
 have HN := h_ hn
 have hG := hS.lt.2
 clear hl ih hS hF hSl ht hrb hn hk
 have B0 := below_al (Below.refl w.heap.size w) (.cells #[.int .i64 k, .int .u64 n, .slice a b.length c, .string ⟨s.toArray⟩, .slice A l.length C] 45)
 go_enter Tryz.func43, Tryz.ntmps43
 go_wp2_with fail
 refine (itemRight_any k n a b s c A l.length C _ hss HN.out).mono ?_
 rintro e w1 ⟨rfl, hb1⟩
 have B1 := below_on B0 hb1
 by_cases hr : rightN k n b s l.length = true
 ·rw [hr]
  obtain ⟨f, ef, hlk, hkd⟩ := kind_any k n a b s c A l.length C hr hsb hss hsl HN.out
  have HLK := h_ hlk
  have HKD := h_ hkd
  have HR := h_ hr
  clear hlk hkd hr
  have hW1 := HS.out.later B1
  have hc2 := hW1.c2
  have hf2 := hW1.fz 2
  have HW1 := h_ hW1
  have hwi' : within ≤ 65536 := by omega
  clear hW1
  go_wp2_with fail
  have hmx : max (d : Int) ((within : Int) + 1) = ((max d (within + 1) : Nat) : Int) := by omega
  rw [hmx]
  clear hmx
  obtain ⟨dd, hdd⟩ : ∃ dd, dd = max d (within + 1) := ⟨_, rfl⟩
  rw [← hdd]
  have HDD := h_ hdd
  have hddl : dd ≤ 100000000 := by omega
  clear hdd hc2 hf2
  obtain ⟨w2, hw2⟩ : ∃ w2, w2 = w1.setCell ⟨G, 2, none⟩ (.int .i64 dd) := ⟨_, rfl⟩
  rw [← hw2]
  have hW2 : WS w2 G M bs dd u := by rw [hw2]; exact HW1.out.depth dd
  have hb2 : Below G w w2 := by rw [hw2]; exact (B1.mono (Nat.le_of_lt hG)).setCell (Nat.le_refl _) _
  have hk2 : KeepB S w w2 := by rw [hw2]; exact KeepB.setCell (fun b hb => B1.block b (HSl.out b hb)) hSG _
  have hsz2 : w.heap.size < w2.heap.size := by
   rw [hw2, World.size_setCell]
   have := hb1.size
   simp at this
   omega
  have hbox : ∀ i, w2.cell? ⟨w.heap.size, i, none⟩ = (w.alloc (.cells #[.int .i64 k, .int .u64 n, .slice a b.length c, .string ⟨s.toArray⟩, .slice A l.length C] 45)).cell? ⟨w.heap.size, i, none⟩ := fun i => by
   rw [hw2, World.cell?_setCell_other _ _ _ _ (fun q => Nat.ne_of_lt hG (congrArg Addr.block q))]
   exact hb1.cell (p := ⟨w.heap.size, i, none⟩) (by simp)
  have x0 := (hbox 0).trans (show _ = some (.int .i64 k) by simp)
  have x1 := (hbox 1).trans (show _ = some (.int .u64 n) by simp)
  have x2 := (hbox 2).trans (show _ = some (.slice a b.length c) by simp)
  have x3 := (hbox 3).trans (show _ = some (.string ⟨s.toArray⟩) by simp)
  have x4 := (hbox 4).trans (show _ = some (.slice A l.length C) by simp)
  have hc0 := hW2.c0
  have hlu := HLK.out w2.drew M hW2.map
  have HW2 := h_ hW2
  have HB2 := h_ hb2
  have HK2 := h_ hk2
  clear hW2 hb2 hk2 hbox hw2 HW1
  go_still_tail 9, (by kernel_rfl)
  change wpList _ _ _ _ _ w2.drew
  have hdr : Below w2.heap.size w2 w2.drew := bR.drew
  have HW3 := h_ (HW2.out.later hdr)
  clear hlu x0 x1 x2 x3 hc0
  go_wp2_with fail
  refine (HKD.out G M dd bs u (withB S w.heap.size) w2.drew HW3.out (HF.out.later HS.out _ (Nat.le_refl _)) (fun q => ?_) (fun b hb => ?_) (HT.out.below HB2.out.drew hG2) (RdB.below HRB.out HB2.out.drew)).mono ?_
  ·rcases q with q | q
   ·exact hSG q
   ·omega
  ·rcases hb with hb | rfl
   ·exact Nat.lt_trans (HSl.out b hb) hsz2
   ·exact hsz2
  rintro e w4 ⟨rfl, hk4, hb4, u4, hw4, hf4⟩
  have x4' : w4.cell? ⟨w.heap.size, 4, none⟩ = some (.slice A l.length C) := (keep_cell hk4 (.inr rfl)).trans x4
  have HB4 : Hid (Below G w w4) := (HB2.out.drew).trans hb4
  have HK4 : Hid (KeepB S w w4) := fun b hb => (hk4 b (.inl hb)).trans (HK2.out b hb)
  have HW4 := h_ hw4
  have HF4 := h_ (Free.less hf4)
  clear hk4 hb4 hw4 hf4 x4 HW3 hdr HKD HLK HB2 HK2 HW2
  go_wp2_with fail
  go_loopw [38] (fun i wr => ∃ j : Nat, j ≤ l.length ∧ i = .int .i64 j ∧ Hid (KeepB S w wr ∧ Below G w wr ∧ rightL (l.take j) = true ∧ ∃ u, WS wr G M (bs ++ ownB k n b s l.length ++ bytesL (l.take j)) (max dd (within + 1 + It.depth.depthL (l.take j))) u ∧ Free S (bs ++ ownB k n b s l.length ++ bytesL (l.take j)) u)) (fun i _ => l.length - (intOf i).toNat)
  case atStart => 
   refine ⟨0, Nat.zero_le _, rfl, HK4.out, HB4.out, rfl, u4, ?_, ?_⟩
   ·have e1 : max dd (within + 1 + It.depth.depthL (l.take 0)) = dd := by
      have := HDD.out
      simp [It.depth.depthL]
      omega
    rw [e1]
    simpa [bytesL] using HW4.out
   ·simpa [bytesL] using HF4.out
  case round =>
   obtain ⟨j, hj, rfl, HI⟩ := hrel
   by_cases hlt : j < l.length
   ·obtain ⟨hk, hb, hrt, u5, hw5, hf5⟩ := HI.out
    obtain ⟨g, o, rfl, hg, hlL⟩ : ∃ g o, A = some ⟨g, o, none⟩ ∧ g < G ∧ ItL w G g o l := by
     rcases HL.out with rfl | h
     ·simp at hlt
     ·exact h
    obtain ⟨a', c', A', C', hv5, e0, e1, e2, e3, e4⟩ := hlL.get (List.getElem?_eq_getElem hlt) hb hg
    clear hlL
    have hbA := (below_al (Below.refl wr.heap.size wr) (.cells #[.int .i64 l[j].k, .int .u64 l[j].n, .slice a' l[j].b.length c', .string ⟨l[j].s.toArray⟩, .slice A' l[j].l.length C'] 45))
    have hWA := hw5.later hbA
    have HV5 := h_ hv5
    have HWA := h_ hWA
    have HF5 := h_ hf5
    have HKr := h_ hk
    have HBr := h_ hb
    have HRt := h_ hrt
    have hdm := depthL_mem (List.getElem_mem hlt)
    have hdt := depthL_take l j
    have hGr := hw5.lt.2
    have hcl : within + 1 + l[j].depth ≤ 65537 := by omega
    have hdl : max dd (within + 1 + It.depth.depthL (l.take j)) ≤ 100000000 := by omega
    clear hv5 hWA hw5 hf5 hk hb hrt hdm hdt
    go_wp2_with fail
    refine (IH.out l[j] (List.getElem_mem hlt) _ S G M (max dd (within + 1 + It.depth.depthL (l.take j))) (within + 1) _ u5 _ ?_ HWA.out HF5.out hSG (fun b hb => ?_) ?_ hG2 hcl hdl).mono ?_
    ·exact ItV.below (hbA.mono (Nat.le_of_lt hGr)) _ HV5.out
    ·exact Nat.lt_of_lt_of_le (HSl.out b hb) (Nat.le_trans HBr.out.size hbA.size)
    ·exact HT.out.below (HBr.out.trans (hbA.mono (Nat.le_of_lt hGr))) hG2
    rintro e w6 ⟨hk6, hb6, hcase⟩
    have HB6 : Hid (Below G w w6) := (HBr.out.trans (hbA.mono (Nat.le_of_lt hGr))).trans hb6
    have HK6 : Hid (KeepB S w w6) := fun b hb => (hk6 b hb).trans ((hbA.block b (Nat.lt_of_lt_of_le (HSl.out b hb) HBr.out.size)).trans (HKr.out b hb))
    clear hk6 hb6 e0 e1 e2 e3 e4
    rcases hcase with ⟨hr6, rfl, u6, hw6, hf6⟩ | ⟨hr6, rfl⟩
    ·have HR6 : Hid (rightL (l.take (j + 1)) = true) := by rw [Hid, rightL_step l j hlt, HRt.out, hr6]; rfl
     have HW6 : Hid (WS w6 G M (bs ++ ownB k n b s l.length ++ bytesL (l.take (j + 1))) (max dd (within + 1 + It.depth.depthL (l.take (j + 1)))) u6) := by
      have e1 : max dd (within + 1 + It.depth.depthL (l.take (j + 1))) = max (max dd (within + 1 + It.depth.depthL (l.take j))) (within + 1 + l[j].depth) := by
       rw [depthL_step l j hlt]
       omega
      rw [Hid, e1, bytesL_step l j hlt, ← List.append_assoc]
      exact hw6
     have HF6 : Hid (Free S (bs ++ ownB k n b s l.length ++ bytesL (l.take (j + 1))) u6) := by
      rw [Hid, bytesL_step l j hlt, ← List.append_assoc]
      exact hf6
     clear hw6 hf6 hr6
     go_wp2_with fail
     go_roundw
     case rel => exact ⟨j + 1, by omega, by go_num, HK6.out, HB6.out, HR6.out, u6, HW6.out, HF6.out⟩
     case measure => simp [intOf]; omega
    ·have HR6 := h_ hr6
     clear hr6
     go_wp2_with fail
     go_ret
     refine ⟨HK6.out, HB6.out, .inr ⟨?_, rfl⟩⟩
     have h1 : rightL l = false := by
      cases h : rightL l with
      | false => rfl
      | true =>
       have := rightL_mem h (List.getElem_mem hlt)
       rw [HR6.out] at this
       cases this
     simp only [It.right, h1, Bool.and_false]
   ·obtain rfl : j = l.length := by omega
    obtain ⟨hk, hb, hrt, u5, hw5, hf5⟩ := HI.out
    rw [List.take_length] at hrt hw5 hf5
    have HK5 := h_ hk
    have HB5 := h_ hb
    have HR5 := h_ hrt
    have HW5 := h_ hw5
    have HF5 := h_ hf5
    clear hk hb hrt hw5 hf5
    go_wp2_with fail
    go_ret
    have e1 : max d (within + It.depth (.mk k n b s l)) = max dd (within + 1 + It.depth.depthL l) := by
     have := HDD.out
     simp only [It.depth]
     omega
    have e2 : bs ++ It.bytes (.mk k n b s l) = bs ++ ownB k n b s l.length ++ bytesL l := by
     simp only [It.bytes]
     rw [List.append_assoc]
    refine ⟨HK5.out, HB5.out, .inl ⟨?_, rfl, u5, ?_, ?_⟩⟩
    ·simp only [It.right, HR.out, HR5.out, Bool.and_self]
    ·rw [e1, e2]
     exact HW5.out
    ·rw [e2]
     exact HF5.out
 ·have hr' : rightN k n b s l.length = false := by simpa using hr
  rw [hr']
  have HR := h_ hr'
  clear hr hr'
  go_wp2_with fail
  go_ret
  exact ⟨fun b hb => B1.block b (HSl.out b hb), B1.mono (Nat.le_of_lt hG), .inr ⟨by simp only [It.right, HR.out, Bool.false_and], rfl⟩⟩

def It.err (x : It) : Nat := if x.right = true then (if 8 < x.depth then 120 else if 65536 < x.bytes.length then 3 else 0) else 2

def EncP (w : World) (x : It) (e : Ending) (w' : World) : Prop :=
 Below w.heap.size w w' ∧ ((x.err ≠ 0 ∧ e = .returned (.tuple #[.slice none 0 0, .int .i64 x.err])) ∨
  (x.err = 0 ∧ ∃ u, e = .returned (.tuple #[u, .int .i64 0]) ∧ OwnV w' w.heap.size 5 u (x.bytes.map encB)))

theorem WS.new (w : World) : WS ((w.alloc (.map kMap 6)).alloc (.cells #[.map (some w.heap.size), .slice none 0 0, .int .i64 0, .bool false] 95)) (w.heap.size + 1) w.heap.size [] 0 (.slice none 0 0) where
 lt := by simp
 map := by
  rw [Below.heap_alloc _ _ _ (by simp)]
  exact map_at w kMap 6
 c0 := by simp
 c1 := by simp
 c2 := by simp
 c3 := by simp
 fz := fun j => by simp
 own := fun _ => OwnV.nil _ _ _

set_option maxRecDepth 100000 in
theorem encode_any (x : It) (v : Value) (w : World) (hv : ItV w w.heap.size v x) (ht : TabW w) (hd : x.depth ≤ 60000) :
  Calls Tryz.prog 25 #[v] w (EncP w x) := by
 obtain ⟨a, c, A, C, rfl⟩ := hv.form
 have HV := h_ hv
 have HT := h_ ht
 have h2 := ht.1.1
 have B0 := below_al (Below.refl w.heap.size w) (.cells #[.int .i64 x.k, .int .u64 x.n, .slice a x.b.length c, .string ⟨x.s.toArray⟩, .slice A x.l.length C] 45)
 clear hv ht
 go_enter Tryz.func25, Tryz.ntmps25
 go_wp2_with fail
 refine (kinds_any _).mono ?_
 rintro e w1 ⟨rfl, rfl⟩
 have B2 := below_al (below_al B0 (.map kMap 6)) (.cells #[.map (some (w.heap.size + 1)), .slice none 0 0, .int .i64 0, .bool false] 95)
 have hws := WS.new (w.alloc (.cells #[.int .i64 x.k, .int .u64 x.n, .slice a x.b.length c, .string ⟨x.s.toArray⟩, .slice A x.l.length C] 45))
 rw [World.size_alloc] at hws
 have HWS := h_ hws
 clear hws
 go_wp2_with fail
 refine (write_any x _ (fun _ => False) (w.heap.size + 1 + 1) (w.heap.size + 1) 0 0 [] (.slice none 0 0) _ ?_ HWS.out (fun _ _ _ h => h) (fun h => h) (fun _ h => h.elim) (HT.out.on B2) (by omega) (by omega) (by omega)).mono ?_
 ·exact ItV.mono (by omega) x (ItV.below B2 x HV.out)
 rintro e w4 ⟨_, hb4, hcase⟩
 have B4 := B2.trans (hb4.mono (by omega))
 clear hb4 B2 B0
 rcases hcase with ⟨hr, rfl, u, hw4, _⟩ | ⟨hr, rfl⟩
 ·rw [List.nil_append] at hw4
  have hde : max 0 (0 + x.depth) = x.depth := by omega
  rw [hde] at hw4
  have hc1 := hw4.c1
  have hc2 := hw4.c2
  have hc3 := hw4.c3
  have HW4 := h_ hw4
  have HR := h_ hr
  clear hw4 hr hde
  by_cases hd8 : 8 < x.depth
  ·have HE : Hid (x.err = 120) := by rw [Hid, It.err, HR.out, if_pos rfl, if_pos hd8]
   go_wp2_with fail
   go_ret2
   exact ⟨B4, .inl ⟨by rw [HE.out]; decide, by rw [HE.out]; rfl⟩⟩
  ·by_cases hlo : 65536 < x.bytes.length
   ·have HE : Hid (x.err = 3) := by rw [Hid, It.err, HR.out, if_pos rfl, if_neg hd8, if_pos hlo]
    rw [decide_eq_true hlo] at hc3
    clear hlo
    go_wp2_with fail
    go_ret2
    exact ⟨B4, .inl ⟨by rw [HE.out]; decide, by rw [HE.out]; rfl⟩⟩
   ·have HE : Hid (x.err = 0) := by rw [Hid, It.err, HR.out, if_pos rfl, if_neg hd8, if_neg hlo]
    have ho := HW4.out.own (by omega)
    obtain ⟨ua, uc, rfl, _⟩ := ho.bytes
    have HO := h_ ho
    rw [decide_eq_false hlo] at hc3
    clear hlo ho
    go_wp2_with fail
    go_ret2
    exact ⟨B4, .inr ⟨HE.out, _, rfl, HO.out.base (by omega)⟩⟩
 ·have HE : Hid (x.err = 2) := by rw [Hid, It.err, hr, if_neg (by decide)]
  clear hr
  go_wp2_with fail
  go_ret2
  exact ⟨B4, .inl ⟨by rw [HE.out]; decide, by rw [HE.out]; rfl⟩⟩

end Go.Proofs.YteldifnkeekafaaGreatDoor
