/- The chapter's rows of package cbor. -/
import Derived.Test.YtncemmhbbkpieaaDoorCbS
namespace Go.Proofs.YtncemmhbbkpieaaDoor
open Go.RowKit Go.Shelf
set_option linter.unusedSimpArgs false

def it24 : It := .mk 1 24 [] [] []
def itL4 : It := .mk 4 0 [] [] [.mk 2 0 [1] [] [], .mk 3 0 [] [104, 105] [], .mk 5 1 [] [] [], .mk 6 0 [] [] []]
def itL0 : It := .mk 4 0 [] [] []
def itNest : Nat → It
  | 0 => .mk 1 0 [] [] []
  | n + 1 => .mk 4 0 [] [] [itNest n]

theorem it24_err : it24.err = 0 := by decide +kernel
theorem it24_bytes : it24.bytes = [24, 24] := by decide +kernel
theorem itL4_err : itL4.err = 0 := by decide +kernel
theorem itL4_bytes : itL4.bytes = [132, 65, 1, 98, 104, 105, 245, 246] := by decide +kernel
theorem itL0_err : itL0.err = 0 := by decide +kernel
theorem itL0_bytes : itL0.bytes = [128] := by decide +kernel
theorem dec1 : decodeN [24, 23] = .error 121 := by kernel_rfl
theorem dec2 : decodeN [129] = .error 121 := by kernel_rfl
theorem dec3 : decodeN [128, 0] = .error 121 := by kernel_rfl
theorem fir1 : firstN [128, 0] = .ok (itL0, 1) := by kernel_rfl
theorem dec4 : decodeN [98, 255, 255] = .error 121 := by kernel_rfl
theorem dec5 : decodeN (deepB 8) = .error 120 := by kernel_rfl
theorem dec6 : decodeN (deepB 7) = .ok (itNest 7) := by kernel_rfl
theorem depth7 : (itNest 7).depth = 8 := by decide +kernel

/-- Encode, where the item's bytes are known. -/
theorem encodes (x : It) (v : Value) (bs : List UInt8) (n : Nat) (he : x.err = 0) (hb : x.bytes = bs) (hn : bs.length = n) (hd : x.depth ≤ 60000) (w : World) (hv : ItV w w.heap.size v x) (ht : TabW w) :
    Calls Tryd.prog 12 #[v] w fun e w' => ∃ A C, e = .returned (.tuple #[.slice A n C, .int .i64 0]) ∧ RdB w' w'.heap.size A bs ∧ Below w.heap.size w w' := by
  subst hb hn
  refine (encode_any x v w hv ht hd).mono ?_
  rintro e w' ⟨hb, ⟨h, _⟩ | ⟨_, u, rfl, ho⟩⟩
  · exact absurd he h
  · obtain ⟨A, C, rfl, _, hr, _⟩ := ho.bytes
    exact ⟨A, C, rfl, hr, hb⟩

/-- Decode, where there is no item. -/
theorem decodesNo (bs : List UInt8) (q : Nat) (hq : decodeN bs = .error q) (a : Option Addr) (n c : Nat) (hn : n = bs.length) (w : World) (hr : RdB w w.heap.size a bs) (hc : n ≤ c) (hc47 : bs.length ≤ 140737488355328) (ht : TabW w) :
    Calls Tryd.prog 6 #[.slice a n c] w fun e w' => e = .returned (.tuple #[.agg #[.int .i64 0, .int .u64 0, .slice none 0 0, .string ⟨#[]⟩, .slice none 0 0], .int .i64 q]) ∧ Below w.heap.size w w' := by
  refine (decode_any a n c bs hn w hr hc hc47 ht).mono ?_
  rintro e w' ⟨hb, hm⟩
  rw [hq] at hm
  exact ⟨hm, hb⟩

theorem decodesYes (bs : List UInt8) (x : It) (hq : decodeN bs = .ok x) (a : Option Addr) (n c : Nat) (hn : n = bs.length) (w : World) (hr : RdB w w.heap.size a bs) (hc : n ≤ c) (hc47 : bs.length ≤ 140737488355328) (ht : TabW w) :
    Calls Tryd.prog 6 #[.slice a n c] w fun e w' => ∃ v0 v1 v2 v3 v4, e = .returned (.tuple #[.agg #[v0, v1, v2, v3, v4], .int .i64 0]) ∧ (∃ a' c' A' C', v0 = .int .i64 x.k ∧ v1 = .int .u64 x.n ∧ v2 = .slice a' x.b.length c' ∧ v3 = .string ⟨x.s.toArray⟩ ∧ v4 = .slice A' x.l.length C') ∧ ItV w' w'.heap.size (.agg #[v0, v1, v2, v3, v4]) x ∧ Below w.heap.size w w' := by
  refine (decode_any a n c bs hn w hr hc hc47 ht).mono ?_
  rintro e w' ⟨hb, hm⟩
  rw [hq] at hm
  obtain ⟨v, rfl, hx⟩ := hm
  obtain ⟨a', c', A', C', rfl⟩ := hx.form
  exact ⟨_, _, _, _, _, rfl, ⟨a', c', A', C', rfl, rfl, rfl, rfl, rfl⟩, hx.itV (fun b h => h.2), hb⟩

theorem firstsYes (bs : List UInt8) (x : It) (m : Nat) (hq : firstN bs = .ok (x, m)) (a : Option Addr) (n c : Nat) (hn : n = bs.length) (w : World) (hr : RdB w w.heap.size a bs) (hc : n ≤ c) (hc47 : bs.length ≤ 140737488355328) (ht : TabW w) :
    Calls Tryd.prog 7 #[.slice a n c] w fun e w' => ∃ v0 v1 v2 v3 v4, e = .returned (.tuple #[.agg #[v0, v1, v2, v3, v4], .int .i64 m, .int .i64 0]) ∧ (∃ a' c' A' C', v0 = .int .i64 x.k ∧ v1 = .int .u64 x.n ∧ v2 = .slice a' x.b.length c' ∧ v3 = .string ⟨x.s.toArray⟩ ∧ v4 = .slice A' x.l.length C') ∧ ItV w' w'.heap.size (.agg #[v0, v1, v2, v3, v4]) x ∧ Below w.heap.size w w' := by
  refine (firstAll a n c bs hn w hr hc hc47 ht).mono ?_
  rintro e w' ⟨hb, hm⟩
  rw [hq] at hm
  obtain ⟨v, rfl, hx⟩ := hm
  obtain ⟨a', c', A', C', rfl⟩ := hx.form
  exact ⟨_, _, _, _, _, rfl, ⟨a', c', A', C', rfl, rfl, rfl, rfl, rfl⟩, hx.itV (fun b h => h.2), hb⟩

theorem firsts0 (a : Option Addr) (c : Nat) (w : World) (hr : RdB w w.heap.size a [128, 0]) (hc : 2 ≤ c) (ht : TabW w) :
    Calls Tryd.prog 7 #[.slice a 2 c] w fun e w' => ∃ a' c' A' C', e = .returned (.tuple #[.agg #[.int .i64 4, .int .u64 0, .slice a' 0 c', .string ⟨#[]⟩, .slice A' 0 C'], .int .i64 1, .int .i64 0]) ∧ ItV w' w'.heap.size (.agg #[.int .i64 4, .int .u64 0, .slice a' 0 c', .string ⟨#[]⟩, .slice A' 0 C']) itL0 ∧ Below w.heap.size w w' := by
  refine (firstsYes [128, 0] itL0 1 fir1 a 2 c rfl w hr hc (by decide) ht).mono ?_
  rintro e w' ⟨v0, v1, v2, v3, v4, rfl, ⟨a', c', A', C', rfl, rfl, rfl, rfl, rfl⟩, hv, hb⟩
  exact ⟨a', c', A', C', rfl, hv, hb⟩

theorem decodes7 (a : Option Addr) (n c : Nat) (hn : n = (deepB 7).length) (w : World) (hr : RdB w w.heap.size a (deepB 7)) (hc : n ≤ c) (ht : TabW w) :
    Calls Tryd.prog 6 #[.slice a n c] w fun e w' => ∃ a' c' A' C', e = .returned (.tuple #[.agg #[.int .i64 4, .int .u64 0, .slice a' 0 c', .string ⟨#[]⟩, .slice A' 1 C'], .int .i64 0]) ∧ ItV w' w'.heap.size (.agg #[.int .i64 4, .int .u64 0, .slice a' 0 c', .string ⟨#[]⟩, .slice A' 1 C']) (itNest 7) ∧ Below w.heap.size w w' := by
  refine (decodesYes (deepB 7) (itNest 7) dec6 a n c hn w hr hc (by decide) ht).mono ?_
  rintro e w' ⟨v0, v1, v2, v3, v4, rfl, ⟨a', c', A', C', rfl, rfl, rfl, rfl, rfl⟩, hv, hb⟩
  exact ⟨a', c', A', C', rfl, hv, hb⟩

theorem itV_it24 (w : World) : ItV w w.heap.size (.agg #[.int .i64 1, .int .u64 24, .slice none 0 0, .string ⟨#[]⟩, .slice none 0 0]) it24 :=
  ItS.itV (S := fun _ => False) (fun _ h => h.elim) it24 (itS_plain w _ 1 24 [] (by decide) ⟨by decide, by decide⟩ (Nat.zero_le _))

theorem itV_itL0 (w : World) : ItV w w.heap.size (.agg #[.int .i64 4, .int .u64 0, .slice none 0 0, .string ⟨#[]⟩, .slice none 0 0]) itL0 :=
  ItS.itV (S := fun _ => False) (fun _ h => h.elim) itL0 (itS_plain w _ 4 0 [] (by decide) ⟨by decide, by decide⟩ (Nat.zero_le _))

set_option maxHeartbeats 1000000 in
theorem itV_itL4 (w : World) (a : Option Addr) (c : Nat) (ha : RdB w w.heap.size a [1]) (hc : 1 ≤ c) (t : TypeId) :
    ItV (w.alloc (.cells #[.int .i64 2, .int .u64 0, .slice a 1 c, .string ⟨#[]⟩, .slice none 0 0, .int .i64 3, .int .u64 0, .slice none 0 0, .string ⟨#[104, 105]⟩, .slice none 0 0, .int .i64 5, .int .u64 1, .slice none 0 0, .string ⟨#[]⟩, .slice none 0 0, .int .i64 6, .int .u64 0, .slice none 0 0, .string ⟨#[]⟩, .slice none 0 0] t))
      (w.alloc (.cells #[.int .i64 2, .int .u64 0, .slice a 1 c, .string ⟨#[]⟩, .slice none 0 0, .int .i64 3, .int .u64 0, .slice none 0 0, .string ⟨#[104, 105]⟩, .slice none 0 0, .int .i64 5, .int .u64 1, .slice none 0 0, .string ⟨#[]⟩, .slice none 0 0, .int .i64 6, .int .u64 0, .slice none 0 0, .string ⟨#[]⟩, .slice none 0 0] t)).heap.size
      (.agg #[.int .i64 4, .int .u64 0, .slice none 0 0, .string ⟨#[]⟩, .slice (some ⟨w.heap.size, 0, none⟩) 4 4]) itL4 := by
  obtain ⟨W, hW⟩ : ∃ W, W = w.alloc (.cells #[.int .i64 2, .int .u64 0, .slice a 1 c, .string ⟨#[]⟩, .slice none 0 0, .int .i64 3, .int .u64 0, .slice none 0 0, .string ⟨#[104, 105]⟩, .slice none 0 0, .int .i64 5, .int .u64 1, .slice none 0 0, .string ⟨#[]⟩, .slice none 0 0, .int .i64 6, .int .u64 0, .slice none 0 0, .string ⟨#[]⟩, .slice none 0 0] t) := ⟨_, rfl⟩
  have hcell : ∀ j, W.cell? ⟨w.heap.size, j, none⟩ = #[Value.int .i64 2, .int .u64 0, .slice a 1 c, .string ⟨#[]⟩, .slice none 0 0, .int .i64 3, .int .u64 0, .slice none 0 0, .string ⟨#[104, 105]⟩, .slice none 0 0, .int .i64 5, .int .u64 1, .slice none 0 0, .string ⟨#[]⟩, .slice none 0 0, .int .i64 6, .int .u64 0, .slice none 0 0, .string ⟨#[]⟩, .slice none 0 0][j]? := fun j => by
    rw [hW, World.cell?_alloc_mark]
  have hra : RdB W W.heap.size a [1] := by
    have hb := below_al (Below.refl w.heap.size w) (.cells #[.int .i64 2, .int .u64 0, .slice a 1 c, .string ⟨#[]⟩, .slice none 0 0, .int .i64 3, .int .u64 0, .slice none 0 0, .string ⟨#[104, 105]⟩, .slice none 0 0, .int .i64 5, .int .u64 1, .slice none 0 0, .string ⟨#[]⟩, .slice none 0 0, .int .i64 6, .int .u64 0, .slice none 0 0, .string ⟨#[]⟩, .slice none 0 0] t)
    rw [← hW] at hb
    exact (ha.below hb).mono hb.size
  have hlt : w.heap.size < W.heap.size := by rw [hW]; simp
  rw [← hW]
  have p2 : ItV W W.heap.size (.agg #[.int .i64 2, .int .u64 0, .slice a 1 c, .string ⟨#[]⟩, .slice none 0 0]) (.mk 2 0 [1] [] []) := by
    simp only [ItV]
    exact ⟨none, ⟨a, c, 0, rfl, ⟨hc, Nat.le_refl _⟩, hra, ⟨by decide, by decide⟩, by decide, by simp [Sz], by simp [Sz], by simp [Sz]⟩, .inl trivial⟩
  have p3 := ItS.itV (w := W) (S := fun _ => False) (B := W.heap.size) (fun _ h => h.elim) (.mk 3 0 [] [104, 105] []) (itS_plain W _ 3 0 [104, 105] (by decide) ⟨by decide, by decide⟩ (by simp [Sz]))
  have p5 := ItS.itV (w := W) (S := fun _ => False) (B := W.heap.size) (fun _ h => h.elim) (.mk 5 1 [] [] []) (itS_plain W _ 5 1 [] (by decide) ⟨by decide, by decide⟩ (by simp [Sz]))
  have p6 := ItS.itV (w := W) (S := fun _ => False) (B := W.heap.size) (fun _ h => h.elim) (.mk 6 0 [] [] []) (itS_plain W _ 6 0 [] (by decide) ⟨by decide, by decide⟩ (by simp [Sz]))
  have hl : ItL W W.heap.size w.heap.size 0 [.mk 2 0 [1] [] [], .mk 3 0 [] [104, 105] [], .mk 5 1 [] [] [], .mk 6 0 [] [] []] := by
    rw [ItL, ItL, ItL, ItL, ItL]
    exact ⟨⟨_, ⟨_, _, _, _, _, rfl, hcell 0, hcell 1, hcell 2, hcell 3, hcell 4⟩, p2⟩, ⟨_, ⟨_, _, _, _, _, rfl, hcell 5, hcell 6, hcell 7, hcell 8, hcell 9⟩, p3⟩, ⟨_, ⟨_, _, _, _, _, rfl, hcell 10, hcell 11, hcell 12, hcell 13, hcell 14⟩, p5⟩, ⟨_, ⟨_, _, _, _, _, rfl, hcell 15, hcell 16, hcell 17, hcell 18, hcell 19⟩, p6⟩, trivial⟩
  rw [itL4, ItV]
  exact ⟨some ⟨w.heap.size, 0, none⟩, ⟨none, 0, 4, rfl, ⟨Nat.le_refl _, Nat.le_refl _⟩, .inl rfl, ⟨by decide, by decide⟩, by decide, by simp [Sz], by simp [Sz], by simp [Sz]⟩, .inr ⟨w.heap.size, 0, rfl, hlt, hl⟩⟩

/-- All that lay in W lies as it lay. -/
def Later (W w : World) : Prop := Below W.heap.size W w

theorem Later.on {W w w' : World} (h : Later W w) (hb : Below w.heap.size w w') : Later W w' := below_on h hb
theorem Later.below {W w : World} (h : Later W w) : Below W.heap.size W w := h

/-- What the last row reads. -/
def WorkS (W : World) (A2 A7 A9 : Option Addr) (C2 C7 C9 b13 b20 : Nat) (a' A' a8 A8 : Option Addr) (c' C' c8 C8 : Nat) (w : World) : Prop :=
  (((convert 22 9 (.slice A2 2 C2)).run Tryd.prog w = .ok (.string ⟨#[24, 24]⟩) w ∧ (convert 22 9 (.slice A7 8 C7)).run Tryd.prog w = .ok (.string ⟨#[132, 65, 1, 98, 104, 105, 245, 246]⟩) w ∧
    (convert 22 9 (.slice A9 1 C9)).run Tryd.prog w = .ok (.string ⟨#[128]⟩) w) ∧
  (w.cell? ⟨b13, 0, none⟩ = some (.int .i64 4) ∧ w.cell? ⟨b13, 1, none⟩ = some (.int .u64 0) ∧ w.cell? ⟨b13, 2, none⟩ = some (.slice a' 0 c') ∧ w.cell? ⟨b13, 3, none⟩ = some (.string ⟨#[]⟩) ∧ w.cell? ⟨b13, 4, none⟩ = some (.slice A' 0 C')) ∧
  (w.cell? ⟨b20, 0, none⟩ = some (.int .i64 4) ∧ w.cell? ⟨b20, 1, none⟩ = some (.int .u64 0) ∧ w.cell? ⟨b20, 2, none⟩ = some (.slice a8 0 c8) ∧ w.cell? ⟨b20, 3, none⟩ = some (.string ⟨#[]⟩) ∧ w.cell? ⟨b20, 4, none⟩ = some (.slice A8 1 C8))) ∧ Later W w

theorem same0_call (v u : Value) (w : World) (hv : ItV w w.heap.size v itL0) (hu : ItV w w.heap.size u itL0) :
    Calls Tryd.prog 11 #[v, u] w fun e w' => e = .returned (.bool true) ∧ Below w.heap.size w w' := by
  have h := refSame_any itL0 itL0 v u w hv hu
  rwa [same_self] at h

theorem depth7_call (v : Value) (w : World) (hv : ItV w w.heap.size v (itNest 7)) :
    Calls Tryd.prog 22 #[v] w fun e w' => e = .returned (.int .i64 8) ∧ Below w.heap.size w w' := by
  have h := depth_any (itNest 7) v w (by rw [depth7]; decide) hv
  rwa [depth7] at h

set_option maxRecDepth 100000 in
set_option maxHeartbeats 8000000 in
theorem cworks_any (w : World) (ht : TabW w) :
    Calls Tryd.prog 5 #[] w fun e w' => e = .returned (.bool true) ∧ Below w.heap.size w w' := by
  have HT := Lib.hid ht
  have kc := fun (w : World) (C : Array Value) (n c : Nat) => Lib.run_convert_bytes_const (P := Tryd.prog) w 22 5 C n c Tryd.underlying22 Tryd.underlying5
  have kc1 := fun (w : World) (o : Obj) (C : Array Value) (n c : Nat) => Joins.run_convert_bytes_const_at (P := Tryd.prog) (w.alloc o) 22 5 C n c (w.heap.size + 1) (by simp) Tryd.underlying22 Tryd.underlying5
  clear ht
  go_enter Tryd.func5, Tryd.ntmps5
  go_wp2_with fail
  refine (rUint_any 24 _).mono ?_
  rintro e w1 ⟨rfl, hb1⟩
  have T1 := Lib.hid (HT.out.on hb1)
  go_wp2_with fail
  refine (encodes it24 _ _ 2 it24_err it24_bytes rfl (by decide) _ (itV_it24 w1) T1.out).mono ?_
  rintro e w2 ⟨A2, C2, rfl, hr2, hb2⟩
  have B2 := Lib.hid (below_on hb1 hb2)
  have R2 := Lib.hid hr2
  clear hb1 hb2 hr2
  go_wp2_with fail
  refine (rOctets_any _ 1 1 _).mono ?_
  rintro e w3 ⟨rfl, hb3⟩
  have S3 := Lib.hid (below_on (below_al (Below.refl _ _) _) hb3)
  have B3 := Lib.hid (below_on B2.out S3.out)
  have R3 := Lib.hid ((arg_lit w2 5 #[.int .u8 1] (0, 0) [1] rfl).below hb3 |>.mono hb3.size)
  clear hb3
  go_wp2_with fail
  refine (rText_any _ _).mono ?_
  rintro e w4 ⟨rfl, hb4⟩
  have S4 := Lib.hid hb4
  have B4 := Lib.hid (below_on B3.out hb4)
  have R4 := Lib.hid ((R3.out.below hb4).mono hb4.size)
  clear hb4
  go_wp2_with fail
  refine (rBool_any _).mono ?_
  rintro e w5 ⟨rfl, hb5⟩
  have S5 := Lib.hid hb5
  have B5 := Lib.hid (below_on B4.out hb5)
  have R5 := Lib.hid ((R4.out.below hb5).mono hb5.size)
  have V5 := Lib.hid (itV_itL4 w5 _ 1 R5.out (Nat.le_refl _) 28)
  clear hb5
  go_wp2_with fail
  refine (rList_any _ _ _ _).mono ?_
  rintro e w6 ⟨rfl, hb6⟩
  have S6 := Lib.hid (below_on (below_al (Below.refl _ _) _) hb6)
  have B6 := Lib.hid (below_on B5.out S6.out)
  have V6 := Lib.hid (V5.out.on hb6)
  have T6 := Lib.hid (HT.out.on B6.out)
  clear hb6
  go_wp2_with fail
  refine (encodes itL4 _ _ 8 itL4_err itL4_bytes rfl (by decide) _ V6.out T6.out).mono ?_
  rintro e w7 ⟨A7, C7, rfl, hr7, hb7⟩
  have S7 := Lib.hid hb7
  have B7 := Lib.hid (below_on B6.out hb7)
  have R7 := Lib.hid hr7
  clear hb7 hr7
  go_wp2_with fail
  refine (rList_any _ _ _ _).mono ?_
  rintro e w8 ⟨rfl, hb8⟩
  have S8 := Lib.hid hb8
  have B8 := Lib.hid (below_on B7.out hb8)
  have T8 := Lib.hid (HT.out.on B8.out)
  clear hb8
  go_wp2_with fail
  refine (encodes itL0 _ _ 1 itL0_err itL0_bytes rfl (by decide) _ (itV_itL0 w8) T8.out).mono ?_
  rintro e w9 ⟨A9, C9, rfl, hr9, hb9⟩
  have S9 := Lib.hid hb9
  have B9 := Lib.hid (below_on B8.out hb9)
  have R9 := Lib.hid hr9
  clear hb9 hr9
  go_wp2_with fail
  refine (decodesNo [24, 23] 121 dec1 _ 2 2 rfl _ (arg_lit w9 5 _ (0, 0) [24, 23] rfl) (by decide) (by decide) (HT.out.on (below_al B9.out _))).mono ?_
  rintro e w10 ⟨rfl, hb10⟩
  have S10 := Lib.hid (below_on (below_al (Below.refl _ _) _) hb10)
  have B10 := Lib.hid (below_on B9.out S10.out)
  clear hb10
  go_wp2_with fail
  refine (decodesNo [129] 121 dec2 _ 1 1 rfl _ (arg_litB w10 (.cells #[.int .i64 0, .int .u64 0, .slice none 0 0, .string ⟨#[]⟩, .slice none 0 0] 28) 5 _ (0, 0) [129] rfl) (by decide) (by decide) (HT.out.on (below_al (below_al B10.out _) _))).mono ?_
  rintro e w11 ⟨rfl, hb11⟩
  have S11 := Lib.hid (below_on (below_al (below_al (Below.refl _ _) _) _) hb11)
  have B11 := Lib.hid (below_on B10.out S11.out)
  clear hb11
  go_wp2_with fail
  refine (decodesNo [128, 0] 121 dec3 _ 2 2 rfl _ (arg_litB w11 (.cells #[.int .i64 0, .int .u64 0, .slice none 0 0, .string ⟨#[]⟩, .slice none 0 0] 28) 5 _ (0, 0) [128, 0] rfl) (by decide) (by decide) (HT.out.on (below_al (below_al B11.out _) _))).mono ?_
  rintro e w12 ⟨rfl, hb12⟩
  have S12 := Lib.hid (below_on (below_al (below_al (Below.refl _ _) _) _) hb12)
  have B12 := Lib.hid (below_on B11.out S12.out)
  clear hb12
  go_wp2_with fail
  refine (firsts0 _ 2 _ (arg_litB w12 (.cells #[.int .i64 0, .int .u64 0, .slice none 0 0, .string ⟨#[]⟩, .slice none 0 0] 28) 5 _ (0, 0) [128, 0] rfl) (by decide) (HT.out.on (below_al (below_al B12.out _) _))).mono ?_
  rintro e w13 ⟨a', c', A', C', rfl, hv13, hb13⟩
  have S13 := Lib.hid (below_on (below_al (below_al (Below.refl _ _) _) _) hb13)
  have B13 := Lib.hid (below_on B12.out S13.out)
  have V13 := Lib.hid hv13
  clear hb13 hv13
  go_wp2_with fail
  refine (decodesNo [98, 255, 255] 121 dec4 _ 3 3 rfl _ (arg_litB w13 (.cells #[.int .i64 4, .int .u64 0, .slice a' 0 c', .string ⟨#[]⟩, .slice A' 0 C'] 28) 5 _ (3, 4) [98, 255, 255] rfl) (by decide) (by decide) (HT.out.on (below_al (below_al B13.out _) _))).mono ?_
  rintro e w14 ⟨rfl, hb14⟩
  have S14 := Lib.hid (below_on (below_al (Below.refl _ _) _) hb14)
  have B14 := Lib.hid (below_on (below_al B13.out _) S14.out)
  clear hb14
  go_wp2_with fail
  refine (deep_any 8 (by decide) _).mono ?_
  rintro e w15 ⟨v15, rfl, ho15, hb15⟩
  obtain ⟨A15, C15, rfl, hC15, hr15, _⟩ := ho15.bytes
  have S15 := Lib.hid (below_on (below_al (Below.refl _ _) _) hb15)
  have B15 := Lib.hid (below_on B14.out S15.out)
  have R15 := Lib.hid hr15
  clear hb15 hr15 ho15
  go_wp2_with fail
  refine (decodesNo (deepB 8) 120 dec5 _ _ _ rfl _ R15.out hC15 (by decide) (HT.out.on B15.out)).mono ?_
  rintro e w16 ⟨rfl, hb16⟩
  have S16 := Lib.hid hb16
  have B16 := Lib.hid (below_on B15.out hb16)
  clear hb16
  go_wp2_with fail
  refine (deep_any 7 (by decide) _).mono ?_
  rintro e w17 ⟨v17, rfl, ho17, hb17⟩
  obtain ⟨A17, C17, rfl, hC17, hr17, _⟩ := ho17.bytes
  have S17 := Lib.hid (below_on (below_al (Below.refl _ _) _) hb17)
  have B17 := Lib.hid (below_on B16.out S17.out)
  have R17 := Lib.hid hr17
  clear hb17 hr17 ho17
  go_wp2_with fail
  refine (decodes7 _ _ _ rfl _ R17.out hC17 (HT.out.on B17.out)).mono ?_
  rintro e w18 ⟨a8, c8, A8, C8, rfl, hv18, hb18⟩
  have S18 := Lib.hid (below_on hb18 (below_al (Below.refl _ _) (.cells #[.int .i64 4, .int .u64 0, .slice a8 0 c8, .string ⟨#[]⟩, .slice A8 1 C8] 28)))
  have B18 := Lib.hid (below_on B17.out S18.out)
  have V18 := Lib.hid (hv18.on (below_al (Below.refl _ _) (.cells #[.int .i64 4, .int .u64 0, .slice a8 0 c8, .string ⟨#[]⟩, .slice A8 1 C8] 28)))
  have D14 := Lib.hid (below_on S14.out (below_on S15.out (below_on S16.out (below_on S17.out S18.out))))
  have D9 := Lib.hid (below_on S10.out (below_on S11.out (below_on S12.out (below_on S13.out (below_on (below_al (Below.refl _ _) _) D14.out)))))
  have D7 := Lib.hid (below_on S8.out (below_on S9.out D9.out))
  have D2 := Lib.hid (below_on S3.out (below_on S4.out (below_on S5.out (below_on S6.out (below_on S7.out D7.out)))))
  clear hb18 hv18 kc kc1
  go_wp2_with fail
  obtain ⟨W0, hW0⟩ : ∃ W0, W0 = w18.alloc (.cells #[.int .i64 4, .int .u64 0, .slice a8 0 c8, .string ⟨#[]⟩, .slice A8 1 C8] 28) := ⟨_, rfl⟩
  have HW0 := Lib.hid hW0
  rw [← hW0]
  have HELD : Hid (∀ w', Later W0 w' → WorkS W0 A2 A7 A9 C2 C7 C9 w13.heap.size w18.heap.size a' A' a8 A8 c' C' c8 C8 w') := by
    subst hW0
    intro w' h
    have hb := h.below
    have k2 := ((R2.out.below D2.out).mono D2.out.size).below hb |>.text (P := Tryd.prog) 22 9 5 2 C2 rfl Tryd.underlying22 Tryd.underlying5 Tryd.underlying9
    have k7 := ((R7.out.below D7.out).mono D7.out.size).below hb |>.text (P := Tryd.prog) 22 9 5 8 C7 rfl Tryd.underlying22 Tryd.underlying5 Tryd.underlying9
    have k9 := ((R9.out.below D9.out).mono D9.out.size).below hb |>.text (P := Tryd.prog) 22 9 5 1 C9 rfl Tryd.underlying22 Tryd.underlying5 Tryd.underlying9
    have hx13 : ∀ i, w'.cell? ⟨w13.heap.size, i, none⟩ = (w13.alloc (.cells #[.int .i64 4, .int .u64 0, .slice a' 0 c', .string ⟨#[]⟩, .slice A' 0 C'] 28)).cell? ⟨w13.heap.size, i, none⟩ := fun i =>
      (hb.cell (p := ⟨w13.heap.size, i, none⟩) (by have := D14.out.size; simp at this ⊢; omega)).trans (D14.out.cell (p := ⟨w13.heap.size, i, none⟩) (by simp))
    have hx18 : ∀ i, w'.cell? ⟨w18.heap.size, i, none⟩ = (w18.alloc (.cells #[.int .i64 4, .int .u64 0, .slice a8 0 c8, .string ⟨#[]⟩, .slice A8 1 C8] 28)).cell? ⟨w18.heap.size, i, none⟩ := fun i => hb.cell (p := ⟨w18.heap.size, i, none⟩) (by simp)
    exact ⟨⟨⟨k2, k7, k9⟩, ⟨(hx13 0).trans (by simp), (hx13 1).trans (by simp), (hx13 2).trans (by simp), (hx13 3).trans (by simp), (hx13 4).trans (by simp)⟩,
      ⟨(hx18 0).trans (by simp), (hx18 1).trans (by simp), (hx18 2).trans (by simp), (hx18 3).trans (by simp), (hx18 4).trans (by simp)⟩⟩, h⟩
  have VV13 : Hid (ItV W0 W0.heap.size (.agg #[.int .i64 4, .int .u64 0, .slice a' 0 c', .string ⟨#[]⟩, .slice A' 0 C']) itL0) := by
    subst hW0
    exact V13.out.on (below_on (below_al (Below.refl _ _) _) D14.out)
  have VV18 : Hid (ItV W0 W0.heap.size (.agg #[.int .i64 4, .int .u64 0, .slice a8 0 c8, .string ⟨#[]⟩, .slice A8 1 C8]) (itNest 7)) := by
    subst hW0
    exact V18.out
  have BB18 : Hid (Below w.heap.size w W0) := by
    subst hW0
    exact B18.out
  have F0 : Later W0 W0.drew := (Below.refl _ _).drew
  have HC1 := Lib.hid (rList_any none 0 0 W0.drew)
  clear hW0 HW0 R2 B2 S3 B3 R3 S4 B4 R4 S5 B5 R5 V5 S6 B6 V6 T6 S7 B7 R7 S8 B8 T8 S9 B9 R9 S10 B10 S11 B11 S12 B12 S13 B13 V13 S14 B14 S15 B15 R15 S16 B16 S17 B17 R17 S18 B18 V18 D14 D9 D7 D2 HT T1
  dsimp only [List.append]
  go_region_held (fun w' =>
    (((convert 22 9 (.slice A2 2 C2)).run Tryd.prog w' = .ok (.string ⟨#[24, 24]⟩) w' ∧ (convert 22 9 (.slice A7 8 C7)).run Tryd.prog w' = .ok (.string ⟨#[132, 65, 1, 98, 104, 105, 245, 246]⟩) w' ∧
      (convert 22 9 (.slice A9 1 C9)).run Tryd.prog w' = .ok (.string ⟨#[128]⟩) w') ∧
    (w'.cell? ⟨w13.heap.size, 0, none⟩ = some (.int .i64 4) ∧ w'.cell? ⟨w13.heap.size, 1, none⟩ = some (.int .u64 0) ∧ w'.cell? ⟨w13.heap.size, 2, none⟩ = some (.slice a' 0 c') ∧ w'.cell? ⟨w13.heap.size, 3, none⟩ = some (.string ⟨#[]⟩) ∧ w'.cell? ⟨w13.heap.size, 4, none⟩ = some (.slice A' 0 C')) ∧
    (w'.cell? ⟨w18.heap.size, 0, none⟩ = some (.int .i64 4) ∧ w'.cell? ⟨w18.heap.size, 1, none⟩ = some (.int .u64 0) ∧ w'.cell? ⟨w18.heap.size, 2, none⟩ = some (.slice a8 0 c8) ∧ w'.cell? ⟨w18.heap.size, 3, none⟩ = some (.string ⟨#[]⟩) ∧ w'.cell? ⟨w18.heap.size, 4, none⟩ = some (.slice A8 1 C8))) ∧ Later W0 w')
    (first | (refine HELD.out _ ?_; with_reducible exact F0) | (refine HELD.out _ ?_; with_reducible exact F1) | (refine HELD.out _ ?_; with_reducible exact F2) | (refine HELD.out _ ?_; with_reducible exact F3))
    (first
      | (go_at_call 10; refine (cnum_any _ _).mono ?_; rintro e w' ⟨rfl, hw⟩; rw [hw]; clear hw)
      | (go_at_call 17; refine HC1.out.mono ?_; rintro e W1 ⟨rfl, hb1⟩; have F1 := F0.on hb1)
      | (go_at_call 11; refine (same0_call _ _ W1 (VV13.out.on F1.below) (itV_itL0 W1)).mono ?_; rintro e W2 ⟨rfl, hb2⟩; have F2 := F1.on hb2)
      | (go_at_call 22; refine (depth7_call _ W2 (VV18.out.on F2.below)).mono ?_; rintro e W3 ⟨rfl, hb3⟩; have F3 := F2.on hb3))
  go_wp2_with fail
  go_ret
  exact ⟨rfl, BB18.out.trans (F3.below.mono BB18.out.size)⟩

end Go.Proofs.YtncemmhbbkpieaaDoor
