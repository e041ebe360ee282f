/- Package rank: Nodes. -/
import Derived.Test.YthfndphngeaihaaDoorRkZb
namespace Go.Proofs.YthfndphngeaihaaDoor
open Go Go.RowKit Go.Shelf
open Go.ChangeMaps (setBlock)
set_option linter.unusedSimpArgs false
set_option linter.unusedVariables false
set_option linter.unusedSectionVars false
set_option maxRecDepth 100000

attribute [local go_sem] Oper.semAt_some

theorem len_sub {α : Type} [DecidableEq α] : ∀ {A B : List α}, A.Nodup → (∀ a ∈ A, a ∈ B) → A.length ≤ B.length
  | [], B, _, _ => Nat.zero_le _
  | a :: A, B, hn, hs => by
    obtain ⟨ha, hn⟩ := List.nodup_cons.1 hn
    have haB : a ∈ B := hs a List.mem_cons_self
    have := len_sub hn (B := B.erase a) (fun x hx => (List.mem_erase_of_ne (fun (e : x = a) => ha (e ▸ hx))).2 (hs x (List.mem_cons_of_mem _ hx)))
    rw [List.length_erase_of_mem haB] at this
    have := List.length_pos_of_mem haB
    simp only [List.length_cons]
    omega
theorem sums_len {lc : List (Int × Value)} {D : List Wt} (hn : (lc.map (·.1)).Nodup) (h : SumsOk lc D fun _ => true) (h0 : D ≠ []) : 0 < lc.length ∧ lc.length ≤ D.length := by
  constructor
  · obtain ⟨x, hx⟩ : ∃ x, x ∈ D := by
      cases D with
      | nil => exact absurd rfl h0
      | cons x r => exact ⟨x, List.mem_cons_self⟩
    have := h x.node
    have ha : anyN D x.node (fun _ => true) = true := List.any_eq_true.2 ⟨x, hx, by simp⟩
    rw [if_pos ha] at this
    exact List.length_pos_of_mem (lk_mem this)
  · have := len_sub (A := lc.map (·.1)) (B := D.map Wt.node) hn fun k hk => by
      obtain ⟨p, hp, rfl⟩ := List.mem_map.1 hk
      have h1 := lk_of_mem hn hp
      rw [h p.1] at h1
      by_cases ha : anyN D p.1 (fun _ => true) = true
      · obtain ⟨x, hx, hxx⟩ := List.any_eq_true.1 ha
        simp at hxx
        exact List.mem_map.2 ⟨x, hx, hxx⟩
      · rw [if_neg ha] at h1
        cases h1
    simpa using this

/-- The neighbours may be gone over: the closure's boxes, the row, the map. -/
def NodesW (w0 w : World) (v : Value) (D : List Wt) : Prop :=
  ∃ B4 B3 A C m ys lc, v = .func (.func 40) #[] #[.pointer (some ⟨B4, 0, none⟩), .pointer (some ⟨B3, 0, none⟩)] ∧ w.cell? ⟨B4, 0, none⟩ = some (.slice A ys.length C) ∧ w.cell? ⟨B3, 0, none⟩ = some (.map (some m)) ∧ KMap encU w m lc ∧ SumsOk lc D (fun _ => true) ∧
    RdK w A (flatU ys) ∧ ys.Perm (lc.map (·.1)) ∧ RiseU ys ∧ (w0.heap.size ≤ B4 ∧ B4 < w.heap.size) ∧ (w0.heap.size ≤ B3 ∧ B3 < w.heap.size) ∧ w0.heap.size ≤ m ∧ ∀ q, A = some q → w0.heap.size ≤ q.block ∧ q.block < w.heap.size

set_option maxHeartbeats 4000000 in
theorem nodes_any (S : Nat → Prop) (p : Nat) (most : Int) (D : List Wt) (w : World) (h : LineAt w S p most D) (hs : SzOk D) (h0 : D ≠ []) (hlen : D.length ≤ 12) :
    Calls Tryd.prog 14 #[.pointer (some ⟨p, 0, none⟩)] w fun e w' => ∃ v, e = .returned v ∧ NodesW w w' v D ∧ Below w.heap.size w w' := by
  have HS := Lib.hid (sums_any S p most D w h hs (by omega))
  have HD : Hid (D ≠ [] ∧ D.length ≤ 12) := ⟨h0, hlen⟩
  have hmf := mkF
  obtain ⟨bq, bw, lq, lw, h1, _⟩ := h
  have d1 := h1.1 1 _ rfl
  clear h1 hs h0 hlen
  go_enter Tryd.func14, Tryd.ntmps14
  go_wp2_with fail
  refine (here_any p bq w d1).mono ?_
  rintro e w1 ⟨rfl, rfl⟩
  clear d1
  go_wp2_with fail
  refine HS.out.mono ?_
  rintro e w2 ⟨⟨m, lc, rfl, k1, k2, k3⟩, hb2⟩
  have HB2 := Lib.hid hb2
  have HK2 : Hid (KMap encU w2 m lc ∧ SumsOk lc D (fun _ => true) ∧ w1.heap.size ≤ m) := ⟨k1, k2, k3⟩
  have hll := sums_len k1.nodup k2 HD.out.1
  have HLl : Hid (0 < lc.length ∧ lc.length ≤ 12) := ⟨hll.1, by have := HD.out.2; omega⟩
  clear k1 k2 k3 hb2 hll HS
  go_wp2_with fail
  obtain ⟨B3, hB3⟩ : ∃ b, b = w2.heap.size := ⟨_, rfl⟩
  obtain ⟨W3, hW3⟩ : ∃ X, X = w2.alloc (.cells #[.map (some m)] 75) := ⟨_, rfl⟩
  rw [← hW3]
  have HB3 : Hid (Below w2.heap.size w2 W3) := by rw [Hid, hW3]; exact below_al (Below.refl _ _) _
  have HZ3 : Hid (W3.heap.size = B3 + 1 ∧ B3 = w2.heap.size) := ⟨by rw [hW3, hB3]; simp, hB3⟩
  have HR3 : Hid (RowB W3 B3 [.map (some m)]) := by rw [Hid, hW3, hB3]; exact RowB.new w2 [.map (some m)] _
  clear hW3
  (try rw [← hB3])
  clear hB3
  refine (keys_any m W3).mono ?_
  rintro e w4 ⟨rfl, hw4⟩
  have HB4 : Hid (Below W3.heap.size W3 w4) := by rw [Hid, hw4]; exact below_al (Below.refl _ _) _
  have HR4 : Hid (RowB w4 W3.heap.size [.map (some m)] ∧ w4.heap.size = W3.heap.size + 1) := by
    rw [Hid, hw4]
    exact ⟨RowB.new W3 [.map (some m)] _, by simp⟩
  have HM4 : Hid (KMap encU w4 m lc) := by
    have h3 : KMap encU W3 m lc := HK2.out.1.kept (HB3.out.block m HK2.out.1.lt)
    exact h3.kept (HB4.out.block m h3.lt)
  clear hw4
  go_wp2_with fail
  refine (sorted_small 64 #[.pointer (some ⟨W3.heap.size, 0, none⟩)] (fun b => b = m) lc w4 ent_keys1 (fun X hX => ?_) (fun b hb => by rw [hb]; exact HM4.out.lt) HLl.out.1 HLl.out.2).mono ?_
  · have hz := hX.size
    have hr := HR4.out.1.on hX HR4.out.1.lt
    exact keys_goesR W3.heap.size m lc (fun b => b = m) X (HM4.out.kept (hX.block m HM4.out.lt)) rfl (fun b hb => by rw [hb]; have := HM4.out.lt; omega) hr.lt (hr.1 0 _ rfl)
  rintro e w5 ⟨v, rfl, ⟨ys, k1, k2, k3⟩, hb5⟩
  obtain ⟨A, C, rfl, hrd⟩ := own_rdK k1
  obtain ⟨n, hn⟩ : ∃ n, n = ys.length := ⟨_, rfl⟩
  rw [← hn]
  have HN := Lib.hid hn
  have HO := Lib.hid k1
  have HPe := Lib.hid k2
  have HRi := Lib.hid k3
  have HB5 := Lib.hid hb5
  have HRd := Lib.hid hrd
  clear k1 k2 k3 hb5 hrd hn
  go_wp2_with fail
  go_ret
  have s2 := HB2.out.size
  have s3 := HB3.out.size
  have s4 := HB4.out.size
  have s5 := HB5.out.size
  have z3 := HZ3.out
  have z4 := HR4.out.2
  obtain ⟨W6, hW6⟩ : ∃ X, X = w5.alloc (.cells #[.slice A n C] 77) := ⟨_, rfl⟩
  have hb6 : Below w5.heap.size w5 W6 := by rw [hW6]; exact below_al (Below.refl _ _) _
  have hz6 : W6.heap.size = w5.heap.size + 1 := by rw [hW6]; simp
  have hr6 : RowB W6 w5.heap.size [.slice A n C] := by rw [hW6]; exact RowB.new w5 _ _
  rw [← hW6]
  have hb46 : Below w4.heap.size w4 W6 := HB5.out.trans (hb6.mono s5)
  have hb36 : Below W3.heap.size W3 W6 := HB4.out.trans (hb46.mono s4)
  refine ⟨_, rfl, ⟨w5.heap.size, B3, A, C, m, ys, lc, rfl, ?_, (HR3.out.on hb36 HR3.out.lt).1 0 _ rfl, HM4.out.kept (hb46.block m HM4.out.lt), HK2.out.2.1, HRd.out.on hb6, HPe.out, HRi.out, ⟨by omega, by omega⟩, ⟨by omega, by omega⟩, HK2.out.2.2, fun q hq => ?_⟩, HB2.out.trans ((HB3.out.trans (hb36.mono s3)).mono s2)⟩
  · rw [← HN.out]
    exact hr6.1 0 _ rfl
  · have := World.ownsRow.lt HO.out q.block (by rw [hq]; rfl)
    omega

end Go.Proofs.YthfndphngeaihaaDoor
