/- Joined texts. -/
import Derived.Test.YtekeooeapiodmaaZDkW
namespace Go.Proofs.Ytekeooeapiodmaa
open Go Go.RowKit Go.Shelf
set_option linter.unusedSimpArgs false
set_option linter.unusedVariables false
set_option maxRecDepth 100000

attribute [local go_sem] Oper.semAt_some

/-- A text. -/
def txt (s : List UInt8) : ByteArray := ⟨s.toArray⟩
abbrev strV (s : List UInt8) : Value := .string (txt s)
def lieL (lie : Int → List UInt8) (n : Nat) : List Value := (List.range n).map fun k => strV (lie (k : Nat))
def putsL : List (Int × List UInt8) → List Value
  | [] => []
  | x :: r => .int .i64 x.1 :: strV x.2 :: putsL r
theorem lieL_len (lie : Int → List UInt8) (n : Nat) : (lieL lie n).length = n := by simp [lieL]
theorem putsL_len : ∀ l : List (Int × List UInt8), (putsL l).length = l.length * 2
  | [] => rfl
  | x :: r => by simp only [putsL, List.length_cons, putsL_len r]; omega
theorem lieL_at (lie : Int → List UInt8) {n k : Nat} (h : k < n) : (lieL lie n)[k]? = some (strV (lie (k : Nat))) := by simp [lieL, List.getElem?_range h]
theorem putsL_at : ∀ {l : List (Int × List UInt8)} {i : Nat} {x : Int × List UInt8}, l[i]? = some x → (putsL l)[i * 2]? = some (.int .i64 x.1) ∧ (putsL l)[i * 2 + 1]? = some (strV x.2)
  | [], _, _, h => by simp at h
  | y :: r, 0, x, h => by
    simp only [List.getElem?_cons_zero, Option.some.injEq] at h
    subst h
    exact ⟨rfl, rfl⟩
  | y :: r, i + 1, x, h => by
    simp only [List.getElem?_cons_succ] at h
    have ih := putsL_at (l := r) h
    have e1 : (i + 1) * 2 = i * 2 + 1 + 1 := by omega
    have e2 : (i + 1) * 2 + 1 = i * 2 + 1 + 1 + 1 := by omega
    rw [e1]
    simp only [putsL, List.getElem?_cons_succ]
    exact ih
theorem putsL_append : ∀ (l m : List (Int × List UInt8)), putsL (l ++ m) = putsL l ++ putsL m
  | [], _ => rfl
  | x :: r, m => by simp only [List.cons_append, putsL, putsL_append r m]
theorem putsL_one {l : List (Int × List UInt8)} : ∀ u ∈ putsL l, u.oneCell' = true := by
  induction l with
  | nil => intro u hu; cases hu
  | cons x r ih =>
    intro u hu
    simp only [putsL, List.mem_cons] at hu
    rcases hu with rfl | rfl | hu
    · rfl
    · rfl
    · exact ih u hu
theorem lieL_one {lie : Int → List UInt8} {n : Nat} : ∀ u ∈ lieL lie n, u.oneCell' = true := by
  intro u hu
  simp only [lieL, List.mem_map] at hu
  obtain ⟨k, _, rfl⟩ := hu
  rfl
theorem lieL_lay (lie : Int → List UInt8) (n k : Nat) (s : List UInt8) : lieL (layM lie ((k : Nat), s)) n = (lieL lie n).set k (strV s) := by
  apply List.ext_getElem?
  intro i
  rw [List.getElem?_set]
  by_cases hi : i < n
  · rw [lieL_at _ hi]
    by_cases e : k = i
    · subst e
      simp [layM, lieL_len, hi]
    · rw [if_neg e, lieL_at _ hi]
      have : ¬ ((i : Int) = (k : Int)) := by omega
      simp [layM, this]
  · have h1 : (lieL (layM lie ((k : Nat), s)) n)[i]? = none := by simp [lieL, hi]
    have h2 : (lieL lie n)[i]? = none := by simp [lieL, hi]
    rw [h1, h2]
    split
    · rw [if_neg (by rw [lieL_len]; omega)]
    · rfl

/-- A slice that reads as these cells, from the start of a block of which N tells. -/
def RdO (w : World) (N : Nat → List Value → Prop) (A : Option Addr) (l : List Value) : Prop := l = [] ∨ ∃ g, A = some ⟨g, 0, none⟩ ∧ g < w.heap.size ∧ RowB w g l ∧ N g l
theorem RdO.on {w w' : World} {N : Nat → List Value → Prop} {A : Option Addr} {l : List Value} (h : RdO w N A l) (hb : Below w.heap.size w w') : RdO w' N A l := by
  rcases h with h | ⟨g, rfl, hg, hr, hn⟩
  · exact .inl h
  · exact .inr ⟨g, rfl, Nat.lt_of_lt_of_le hg hb.size, hr.on hb hg, hn⟩
theorem RdO.mono {w : World} {N M : Nat → List Value → Prop} {A : Option Addr} {l : List Value} (h : RdO w N A l) (hm : ∀ g l, g < w.heap.size → N g l → M g l) : RdO w M A l := by
  rcases h with h | ⟨g, rfl, hg, hr, hn⟩
  · exact .inl h
  · exact .inr ⟨g, rfl, hg, hr, hm g l hg hn⟩
theorem RdO.src {w : World} {N : Nat → List Value → Prop} {A : Option Addr} {l : List Value} (h : RdO w N A l) : Src w A l := by
  rcases h with h | ⟨g, rfl, hg, hr, hn⟩
  · exact .inl h
  · exact .inr ⟨_, rfl, fun j u hu => by rw [mk_addr_add, Nat.zero_add]; exact hr.1 j u hu⟩
/-- What N tells, or a block laid since. -/
def sinceN (N : Nat → List Value → Prop) (w : World) : Nat → List Value → Prop := fun g l => N g l ∨ w.heap.size ≤ g
theorem OwnV.rdO {w : World} {B : Nat} {e : TypeId} {A : Option Addr} {n C : Nat} {xs : List Value} {N : Nat → List Value → Prop} (h : OwnV w B e (.slice A n C) xs) (hN : ∀ g l, B ≤ g → N g l) : RdO w N A xs := by
  rcases h.form with ⟨_, rfl⟩ | ⟨g, cap, hv, hb, hl, _, _, hc, hf⟩
  · exact .inl rfl
  · injection hv with hA
    exact .inr ⟨g, hA, hl, ⟨fun i v hi => by rw [hc i (List.getElem?_eq_some_iff.1 hi).1]; exact hi, hf⟩, hN g _ hb⟩

/-- The document's disk. -/
def RfV (w : World) (N : Nat → List Value → Prop) (v : Value) (D : DkM) : Prop :=
  ∃ A1 C1 A2 C2, v = .agg #[.slice A1 D.n C1, .slice A2 D.wt.length C2, .int .i64 D.left] ∧ RdO w N A1 (lieL D.lie D.n) ∧ RdO w N A2 (putsL D.wt)
theorem RfV.on {w w' : World} {N : Nat → List Value → Prop} {v : Value} {D : DkM} (h : RfV w N v D) (hb : Below w.heap.size w w') : RfV w' N v D := by
  obtain ⟨A1, C1, A2, C2, e, h1, h2⟩ := h
  exact ⟨A1, C1, A2, C2, e, h1.on hb, h2.on hb⟩
theorem RfV.mono {w : World} {N M : Nat → List Value → Prop} {v : Value} {D : DkM} (h : RfV w N v D) (hm : ∀ g l, g < w.heap.size → N g l → M g l) : RfV w M v D := by
  obtain ⟨A1, C1, A2, C2, e, h1, h2⟩ := h
  exact ⟨A1, C1, A2, C2, e, h1.mono hm, h2.mono hm⟩


theorem r3 {w : World} {b : Nat} {c0 c1 c2 : Value} (h : RowB w b [c0, c1, c2]) : (w.cell? ⟨b, 0, none⟩ = some c0 ∧ w.cell? ⟨b, 1, none⟩ = some c1 ∧ w.cell? ⟨b, 2, none⟩ = some c2) ∧ w.frozen? ⟨b, 0, none⟩ = false ∧ w.frozen? ⟨b, 1, none⟩ = false ∧ w.frozen? ⟨b, 2, none⟩ = false := ⟨⟨h.1 0 _ rfl, h.1 1 _ rfl, h.1 2 _ rfl⟩, h.2 0, h.2 1, h.2 2⟩
theorem RowB.al {w w' : World} {vs : List Value} {t : TypeId} (h : Below (w.alloc (.cells vs.toArray t)).heap.size (w.alloc (.cells vs.toArray t)) w') : RowB w' w.heap.size vs := (RowB.new w vs t).on h (by simp)
theorem info_text : (Try.prog.info? 9).map (fun i => (i.zero, i.size, i.bytes)) = some (some (.string ⟨#[]⟩), 1, 16) := by kernel_rfl

theorem rf_load {w : World} {b : Nat} {c0 c1 c2 : Value} (h : RowB w b [c0, c1, c2]) : (loadVar 30 ⟨b, 0, none⟩).run Try.prog w = .ok (.agg #[c0, c1, c2]) w :=
  run_loadVar_mid w b 0 _ [c0, c1, c2] _ h.range Try.underlying30 rfl (by kernel_rfl)
theorem results_two {P : Program} {fn : Func} {tm : Array Value} {w : World} {s u : Tmp} {t : TypeId} {b : Addr} {v x : Value} (hf : fn.results = #[.cell s t, .tmp u]) (h : tm[s]? = some (.pointer (some b))) (hu : tm[u]? = some x) (hl : (loadVar t b).run P w = .ok v w) : (results fn tm).run P w = .ok (.tuple #[v, x]) w := by
  unfold results
  rw [hf]
  simp [h, hu, asAddr, hl]

/-- Three cells, stored one by one. -/
abbrev set3 (w : World) (b : Nat) (c0 c1 c2 : Value) : World := ((w.setCell ⟨b, 0, none⟩ c0).setCell ⟨b, 1, none⟩ c1).setCell ⟨b, 2, none⟩ c2
theorem set3_row {w : World} {b : Nat} {u0 u1 u2 : Value} (h : RowB w b [u0, u1, u2]) (c0 c1 c2 : Value) : RowB (set3 w b c0 c1 c2) b [c0, c1, c2] := ((h.set 0 c0).set 1 c1).set 2 c2
theorem set3_other {w : World} {b g : Nat} {vs : List Value} (h : RowB w g vs) (hne : b ≠ g) (c0 c1 c2 : Value) : RowB (set3 w b c0 c1 c2) g vs := ((h.other hne c0).other hne c1).other hne c2
theorem set3_on {B b : Nat} {w0 w : World} (h : Below B w0 w) (hb : B ≤ b) (c0 c1 c2 : Value) : Below B w0 (set3 w b c0 c1 c2) := ((h.setCell hb c0).setCell hb c1).setCell hb c2
theorem set3_size (w : World) (b : Nat) (c0 c1 c2 : Value) : (set3 w b c0 c1 c2).heap.size = w.heap.size := by simp [set3]

set_option maxHeartbeats 2000000 in
theorem rarm_any (N : Nat → List Value → Prop) (D : DkM) (v : Value) (n : Int) (hn : -9223372036854775808 ≤ n ∧ n < 9223372036854775808) (w : World) (h : RfV w N v D) :
    Calls Try.prog 36 #[v, .int .i64 n] w fun e w' => ∃ v', e = .returned v' ∧ RfV w' N v' (D.armM n) ∧ Below w.heap.size w w' := by
  obtain ⟨A1, C1, A2, C2, rfl, h1, h2⟩ := h
  have H1 := Lib.hid h1
  have H2 := Lib.hid h2
  have HD : Hid (D.armM n = { D with left := if n < -1 then -1 else n }) := rfl
  clear h1 h2
  go_enter Try.func36, Try.ntmps36
  go_wp2_with fail
  · have hb : Below w.heap.size w ((w.alloc (Obj.cells #[Value.slice A1 D.n C1, Value.slice A2 D.wt.length C2, Value.int IntKind.i64 n] 30)).alloc (Obj.cells #[Value.slice A1 D.n C1, Value.slice A2 D.wt.length C2, Value.int IntKind.i64 n] 30)) := below_al (below_al (Below.refl _ _) _) _
    have hr := RowB.new (w.alloc (Obj.cells #[Value.slice A1 D.n C1, Value.slice A2 D.wt.length C2, Value.int IntKind.i64 n] 30)) [Value.slice A1 D.n C1, Value.slice A2 D.wt.length C2, Value.int IntKind.i64 n] 30
    rw [World.size_alloc] at hr
    refine bodyPost_ret (results_cell rfl (by rfl) (rf_load hr)) rfl ?_
    refine ⟨_, rfl, ?_, hb⟩
    rw [HD.out]
    exact ⟨A1, C1, A2, C2, by rw [if_neg (by omega)], H1.out.on hb, H2.out.on hb⟩
  · have hb : Below w.heap.size w ((w.alloc (Obj.cells #[Value.slice A1 D.n C1, Value.slice A2 D.wt.length C2, Value.int IntKind.i64 (-1)] 30)).alloc (Obj.cells #[Value.slice A1 D.n C1, Value.slice A2 D.wt.length C2, Value.int IntKind.i64 (-1)] 30)) := below_al (below_al (Below.refl _ _) _) _
    have hr := RowB.new (w.alloc (Obj.cells #[Value.slice A1 D.n C1, Value.slice A2 D.wt.length C2, Value.int IntKind.i64 (-1)] 30)) [Value.slice A1 D.n C1, Value.slice A2 D.wt.length C2, Value.int IntKind.i64 (-1)] 30
    rw [World.size_alloc] at hr
    refine bodyPost_ret (results_cell rfl (by rfl) (rf_load hr)) rfl ?_
    refine ⟨_, rfl, ?_, hb⟩
    rw [HD.out]
    refine ⟨A1, C1, A2, C2, ?_, H1.out.on hb, H2.out.on hb⟩
    show _ = Value.agg #[_, _, .int .i64 (if n < -1 then -1 else n)]
    split
    · rfl
    · have : n = -1 := by omega
      rw [this]

theorem app_fact {W w1 w2 : World} {e : TypeId} {v' : Value} {ys : List Value} (h : AppPost w1 W.heap.size e (.slice (some ⟨W.heap.size, 0, none⟩) 0 0) [] ys v' w2) (h0 : 0 < ys.length) (hs : W.heap.size ≤ W.heap.size) (hb : Below W.heap.size W w1 := by exact below_al (Below.refl _ _) _) :
    ∃ g cap, v' = .slice (some ⟨g, 0, none⟩) ys.length cap ∧ W.heap.size ≤ g ∧ g < w2.heap.size ∧ RowB w2 g ys ∧ Below W.heap.size W w2 := by
  obtain ⟨h1, h2, h3⟩ := h
  rw [List.nil_append] at h1
  rcases h1.form with ⟨_, hz⟩ | ⟨g, cap, rfl, hg, hl, _, _, hc, hf⟩
  · rw [hz] at h0; simp at h0
  · exact ⟨g, cap, rfl, hg, hl, ⟨fun i v hi => by rw [hc i (List.getElem?_eq_some_iff.1 hi).1]; exact hi, hf⟩, hb.grown h2 hb.size (fun r e => by cases e; exact Nat.le_refl _)⟩

set_option maxHeartbeats 4000000 in
theorem rlay_any (N : Nat → List Value → Prop) (D : DkM) (hD : D.n ≤ 4096) (v : Value) (k : Nat) (hk : k < D.n) (s : List UInt8) (w : World) (h : RfV w N v D) :
    Calls Try.prog 62 #[v, .int .i64 k, strV s] w fun e w' => ∃ v', e = .returned v' ∧ RfV w' (sinceN N w) v' { D with lie := layM D.lie ((k : Nat), s) } ∧ Below w.heap.size w w' := by
  obtain ⟨A1, C1, A2, C2, rfl, h1, h2⟩ := h
  obtain ⟨W, hW⟩ : ∃ W, W = (w.alloc (.cells #[.slice A1 D.n C1, .slice A2 D.wt.length C2, .int .i64 D.left] 30)).alloc (.cells #[.slice none 0 0, .slice none 0 0, .int .i64 0] 30) := ⟨_, rfl⟩
  have HB0 : Hid (Below w.heap.size w W) := by rw [hW]; exact below_al (below_al (Below.refl _ _) _) _
  have HX : Hid (∀ w', Below W.heap.size W w' → RowB w' w.heap.size [.slice A1 D.n C1, .slice A2 D.wt.length C2, .int .i64 D.left] ∧ RowB w' (w.heap.size + 1) [.slice none 0 0, .slice none 0 0, .int .i64 0]) := fun w' hb => by
    rw [hW] at hb
    have h1 := below_on (below_al (Below.refl (w.alloc (.cells #[.slice A1 D.n C1, .slice A2 D.wt.length C2, .int .i64 D.left] 30)).heap.size (w.alloc (.cells #[.slice A1 D.n C1, .slice A2 D.wt.length C2, .int .i64 D.left] 30))) (.cells #[.slice none 0 0, .slice none 0 0, .int .i64 0] 30)) hb
    have q2 := RowB.al (vs := [.slice none 0 0, .slice none 0 0, .int .i64 0]) hb
    rw [World.size_alloc] at q2
    exact ⟨RowB.al (vs := [.slice A1 D.n C1, .slice A2 D.wt.length C2, .int .i64 D.left]) h1, q2⟩
  have HZ : Hid (W.heap.size = w.heap.size + 2) := by rw [Hid, hW]; simp
  have H1 := Lib.hid (h1.on HB0.out)
  have H2 := Lib.hid h2
  obtain ⟨w1, hw1⟩ : ∃ w1, w1 = W.alloc (.cells #[] 9) := ⟨_, rfl⟩
  have hb1 : Below W.heap.size W w1 := by rw [hw1]; exact below_al (Below.refl _ _) _
  have HO : Hid (OwnV w1 W.heap.size 9 (.slice (some ⟨W.heap.size, 0, none⟩) 0 0) []) := by rw [hw1]; exact OwnV.lit W W.heap.size 9 #[] (Nat.le_refl _) (by decide)
  have HSrc : Hid (Src w1 A1 (lieL D.lie D.n)) := (H1.out.on hb1).src
  have HB1 := Lib.hid hb1
  have HL : Hid ((lieL D.lie D.n).length = D.n) := lieL_len _ _
  have HLy : Hid (lieL (layM D.lie ((k : Nat), s)) D.n = (lieL D.lie D.n).set k (strV s)) := lieL_lay _ _ _ _
  have HN : Hid (k < D.n ∧ D.n ≤ 4096) := ⟨hk, hD⟩
  obtain ⟨Lv, hLv⟩ : ∃ L, L = lieL D.lie D.n := ⟨_, rfl⟩
  have HOne : Hid (∀ u ∈ Lv, u.oneCell' = true) := by rw [hLv]; exact lieL_one
  have HLe := Lib.hid hLv
  rw [← hLv] at HSrc HL HLy
  have HW := Lib.hid hW
  have HW1 := Lib.hid hw1
  clear h1 h2 hb1 hW hw1 hk hD hLv
  obtain ⟨⟨x0, x1, x2⟩, f0, f1, f2⟩ := r3 (HX.out (W.alloc (.cells #[] 9)) (below_al (Below.refl _ _) _)).1
  go_enter Try.func62, Try.ntmps62
  go_upto_region 1 with fail
  rw [← HW.out]
  have hL0 : 0 < D.n := by have := HN.out; omega
  go_upto_region 2 with (at_builtin; refine wpList_app _ rfl _ _ 27 rfl W.heap.size 9 _ 16 Try.underlying27 info_text (by kernel_rfl) _ [] rfl (by first | exact HO.out | (rw [← HW1.out]; exact HO.out)) A1 D.n C1 Lv rfl HL.out (by first | exact HSrc.out | (rw [← HW1.out]; exact HSrc.out)) HOne.out (by have := HN.out; have := HL.out; simp [maxLen]; omega) (by have := HN.out; have := HL.out; simp; omega) (by first | exact HB1.out.size | (rw [← HW1.out]; exact HB1.out.size)) ?_; intro v' w2 hap; obtain ⟨g, cap, rfl, hg, hgl, hr2, hb2⟩ := app_fact hap (by rw [HL.out]; exact hL0) (Nat.le_refl _); rw [HL.out]; obtain ⟨⟨x0, x1, x2⟩, f0, f1, f2⟩ := r3 (HX.out w2 hb2).1)
  obtain ⟨W3, hW3⟩ : ∃ W3, W3 = w2.setCell ⟨w.heap.size, 0, none⟩ (.slice (some ⟨g, 0, none⟩) D.n cap) := ⟨_, rfl⟩
  have hg0 : w.heap.size ≠ g := by have := HZ.out; omega
  have hg1 : w.heap.size + 1 ≠ g := by have := HZ.out; omega
  have HR0 : Hid (RowB W3 w.heap.size [.slice (some ⟨g, 0, none⟩) D.n cap, .slice A2 D.wt.length C2, .int .i64 D.left]) := by rw [hW3]; exact (HX.out w2 hb2).1.set 0 _
  have HR1 : Hid (RowB W3 (w.heap.size + 1) [.slice none 0 0, .slice none 0 0, .int .i64 0]) := by rw [hW3]; exact (HX.out w2 hb2).2.other (by omega) _
  have HRg : Hid (RowB W3 g Lv) := by rw [hW3]; exact hr2.other hg0 _
  have HB3 : Hid (Below w.heap.size w W3) := by rw [hW3]; exact (HB0.out.trans (hb2.mono HB0.out.size)).setCell (Nat.le_refl _) _
  rw [← hW3]
  clear hW3 x0 x1 x2 f0 f1 f2 hb2 hr2 hap
  obtain ⟨⟨x0, x1, x2⟩, f0, f1, f2⟩ := r3 HR0.out
  have hkI : (k : Int) < (D.n : Int) := by have := HN.out; omega
  obtain ⟨u, hu⟩ : ∃ u, Lv[k]? = some u := ⟨_, List.getElem?_eq_getElem (by rw [HL.out]; exact HN.out.1)⟩
  have y0 := HRg.out.1 k u hu
  have yf := HRg.out.2 k
  go_upto_region 3 with fail
  obtain ⟨W4, hW4⟩ : ∃ W4, W4 = W3.setCell ⟨g, k, none⟩ (strV s) := ⟨_, rfl⟩
  have HR0' : Hid (RowB W4 w.heap.size [.slice (some ⟨g, 0, none⟩) D.n cap, .slice A2 D.wt.length C2, .int .i64 D.left]) := by rw [hW4]; exact HR0.out.other (Ne.symm hg0) _
  have HR1' : Hid (RowB W4 (w.heap.size + 1) [.slice none 0 0, .slice none 0 0, .int .i64 0]) := by rw [hW4]; exact HR1.out.other (Ne.symm hg1) _
  have HRg' : Hid (RowB W4 g (Lv.set k (strV s))) := by rw [hW4]; exact HRg.out.set k _
  have HB4 : Hid (Below w.heap.size w W4) := by rw [hW4]; exact HB3.out.setCell (by show _ ≤ g; have := HZ.out; omega) _
  have HG4 : Hid (g < W4.heap.size) := by rw [hW4, Hid, World.size_setCell]; exact World.block_lt_of_cell? W3 _ y0
  rw [← hW4]
  clear hW4 x0 x1 x2 f0 f1 f2 y0 yf
  obtain ⟨⟨x0, x1, x2⟩, f0, f1, f2⟩ := r3 HR0'.out
  obtain ⟨⟨y0, y1, y2⟩, g0, g1, g2⟩ := r3 HR1'.out
  go_wp2_with fail
  have hb5 := set3_on (b := w.heap.size + 1) HB4.out (by omega) (.slice (some ⟨g, 0, none⟩) D.n cap) (.slice A2 D.wt.length C2) (.int .i64 D.left)
  refine bodyPost_ret (results_cell rfl (by rfl) (rf_load (set3_row HR1'.out _ _ _))) rfl ?_
  refine ⟨_, rfl, ⟨some ⟨g, 0, none⟩, cap, A2, C2, rfl, .inr ⟨g, rfl, by rw [set3_size]; exact HG4.out, ?_, .inr (by have := HZ.out; omega)⟩, (H2.out.on hb5).mono fun _ _ _ h => .inl h⟩, hb5⟩
  rw [HLy.out]
  exact set3_other HRg'.out hg1 _ _ _

end Go.Proofs.Ytekeooeapiodmaa

namespace Go.Proofs.Ytekeooeapiodmaa
open Go Go.RowKit Go.Shelf
set_option linter.unusedSimpArgs false
set_option linter.unusedVariables false
set_option maxRecDepth 100000

attribute [local go_sem] Oper.semAt_some

section
variable {P : Program} (w : World)

theorem run_append_nothingK (base K : Nat) (hK : 0 < K) (t ty e : TypeId) (i : TypeInfo) (ht : P.underlying t = some (.slice e)) (hi : P.info? e = some i)
    (v : Value) (n : Nat) (xs : List Value) (hown : w.ownsRow base e K v n xs) (c : Nat) : (Builtin.append_ #[t, t] ty #[v, .slice none 0 c]).run P w = .ok v w := by
  rcases hown.2 with ⟨rfl, h0⟩ | ⟨g, cap, cur, rfl, _, _, hn, _⟩
  · simp [Builtin.append_, run_underlying ht, sizeOf, typeInfo, hi, Builtin.lenOf, Builtin.firstCells]
  · simp [Builtin.append_, run_underlying ht, sizeOf, typeInfo, hi, Builtin.lenOf, Builtin.firstCells, hn, storeCells]

/-- What an append of elements of K cells makes. -/
def AppK (w : World) (base : Nat) (e : TypeId) (K : Nat) (v : Value) (n : Nat) (xs : List Value) (m : Nat) (ys : List Value) (v' : Value) (w' : World) : Prop :=
  w'.ownsRow base e K v' (n + m) (xs ++ ys) ∧ w.grownBy w' v.ownBlock ∧ (v'.ownBlock = v.ownBlock ∨ v'.ownBlock = some w.heap.size)

theorem run_appK (base K : Nat) (hK : 0 < K) (t ty e : TypeId) (z : Value) (bytes : Nat) (ht : P.underlying t = some (.slice e)) (hinfo : (P.info? e).map (fun i => (i.zero, i.size, i.bytes)) = some (some z, K, bytes)) (hz1 : z.cells.size = K)
    (v : Value) (n : Nat) (xs : List Value) (hown : w.ownsRow base e K v n xs) (A : Option Addr) (m c : Nat) (ys : List Value) (hm : ys.length = m * K) (hs : Src w A ys) (h1 : ∀ u ∈ ys, u.oneCell' = true)
    (h63 : n + m ≤ maxLen) (hbytes : (n + m) * bytes ≤ 140737488355328) (hbase : base ≤ w.heap.size) :
    ∃ v' w', (Builtin.append_ #[t, t] ty #[v, .slice A m c]).run P w = .ok v' w' ∧ AppK w base e K v n xs m ys v' w' := by
  obtain ⟨i, hi, hz0, hsz, hb⟩ := info_parts hinfo
  rcases A with _ | ad
  · obtain rfl : ys = [] := by
      rcases hs with h | ⟨ad, h, _⟩
      · exact h
      · cases h
    obtain rfl : m = 0 := by
      simp only [List.length_nil] at hm
      rcases Nat.eq_zero_or_pos m with h | h
      · exact h
      · exact absurd hm (Nat.ne_of_lt (Nat.mul_pos h hK))
    exact ⟨v, w, run_append_nothingK w base K hK t ty e i ht hi v n xs hown c, by simpa using hown, World.grownBy.refl w _, .inl rfl⟩
  · have hcells : ∀ j u, ys[j]? = some u → w.cell? (ad.add j) = some u := by
      intro j u hu
      rcases hs with rfl | ⟨ad', h, hc⟩
      · simp at hu
      · injection h with h
        subst h
        exact hc j u hu
    obtain ⟨v', w', hrun, h2, h3, _, h5⟩ := run_append_own_at (P := P) w base t ty e i z K bytes ht hi hz0 hsz hb hz1 hK v n xs hown ad m c ys hm hcells h1 h63 hbytes hbase
    exact ⟨v', w', hrun, h2, h3, h5⟩

theorem wpList_appK {ops : Array Oper} {rest : List Oper} {o : Oper} {a : Act} {Q : Exit → Act → World → Prop} (hgd : o.guard = none) (s x : Operand) (t : TypeId)
    (ho : o.op = .call { callee := .builtin .append, args := #[s, x], argTypes := #[t, t] })
    (base K : Nat) (hK : 0 < K) (e : TypeId) (z : Value) (bytes : Nat) (ht : P.underlying t = some (.slice e)) (hinfo : (P.info? e).map (fun i => (i.zero, i.size, i.bytes)) = some (some z, K, bytes)) (hz1 : z.cells.size = K)
    (v : Value) (n : Nat) (xs : List Value) (hv : a.eval s = v) (hown : w.ownsRow base e K v n xs) (A : Option Addr) (m c : Nat) (ys : List Value) (hx : a.eval x = .slice A m c) (hm : ys.length = m * K) (hs : Src w A ys) (h1 : ∀ u ∈ ys, u.oneCell' = true)
    (h63 : n + m ≤ maxLen) (hbytes : (n + m) * bytes ≤ 140737488355328) (hbase : base ≤ w.heap.size)
    (h : ∀ v' w', AppK w base e K v n xs m ys v' w' → wpList P ops Q rest (a.put o.dst v') w') : wpList P ops Q (o :: rest) a w :=
  wpList_plain hgd fun _ hK2 => by
    obtain ⟨v', w', hrun, hp⟩ := run_appK (P := P) w base K hK t o.type e z bytes ht hinfo hz1 v n xs hown A m c ys hm hs h1 h63 hbytes hbase
    unfold Oper.wp execOp
    simp only [ho, resolve, invoke, builtin, Sem.run_bind, Sem.run_pure, Result.andThen_ok, List.map_toArray, List.map_cons, List.map_nil, hv, hx, hrun]
    exact hK2 _ _ (h v' w' hp)
end

/-- A row that is owned, as a row of cells. -/
theorem own_rowB {w : World} {B K n : Nat} {e : TypeId} {v : Value} {xs : List Value} (h : w.ownsRow B e K v n xs) (hn : n ≠ 0) : ∃ g cap, v = .slice (some ⟨g, 0, none⟩) n cap ∧ B ≤ g ∧ g < w.heap.size ∧ n ≤ cap ∧ RowB w g xs := by
  rcases h.2 with ⟨_, h0⟩ | ⟨g, cap, cur, e, hb, hg, hnc, _, hs, ht⟩
  · exact absurd h0 hn
  · refine ⟨g, cap, e, hb, (Array.getElem?_eq_some_iff.1 hg).1, hnc, fun i u hi => ?_, fun j => by simp [World.frozen?, hg]⟩
    have h2 : w.cell? ⟨g, i, none⟩ = cur[i]? := by simp [World.cell?, hg]
    rw [h2, ← Array.getElem?_toList]
    rw [← ht, List.getElem?_take] at hi
    split at hi
    · exact hi
    · cases hi
theorem own_slice {w : World} {B K n : Nat} {e : TypeId} {v : Value} {xs : List Value} (h : w.ownsRow B e K v n xs) : ∃ A C, v = .slice A n C := by
  rcases h.2 with ⟨rfl, rfl⟩ | ⟨g, cap, cur, e, _⟩
  · exact ⟨none, 0, rfl⟩
  · exact ⟨_, cap, e⟩
theorem appK_below {w1 w2 : World} {e : TypeId} {K n m : Nat} {v v' : Value} {xs ys : List Value} {B : Nat} (h : AppK w1 B e K v n xs m ys v' w2) (hown : w1.ownsRow B e K v n xs) (hB : B ≤ w1.heap.size) : Below B w1 w2 :=
  (Below.refl _ _).grown h.2.1 hB fun r e => (World.ownsRow.lt hown r e).1
theorem info_put : (Try.prog.info? 48).map (fun i => (i.zero, i.size, i.bytes)) = some (some (.agg #[.int .i64 0, .string ⟨#[]⟩]), 2, 24) := by kernel_rfl

theorem app1_fact {W w1 w2 : World} {e : TypeId} {K m : Nat} {v' : Value} {ys : List Value} (h : AppK w1 W.heap.size e K (.slice (some ⟨W.heap.size, 0, none⟩) 0 0) 0 [] m ys v' w2) (hb : Below W.heap.size W w1 := by exact below_al (Below.refl _ _) _) :
    ∃ A C, v' = .slice A m C ∧ w2.ownsRow W.heap.size e K (.slice A m C) m ys ∧ Below W.heap.size W w2 := by
  obtain ⟨h1, h2, h3⟩ := h
  rw [List.nil_append, Nat.zero_add] at h1
  obtain ⟨A, C, rfl⟩ := own_slice h1
  exact ⟨A, C, rfl, h1, hb.grown h2 hb.size (fun r e => by cases e; exact Nat.le_refl _)⟩
theorem src_pair (w : World) (a b : Value) (t : TypeId) : Src (w.alloc (.cells #[a, b] t)) (some ⟨w.heap.size, 0, none⟩) [a, b] := .inr ⟨_, rfl, fun j u hu => by
  rw [mk_addr_add, Nat.zero_add]
  exact (RowB.new w [a, b] t).1 j u hu⟩
theorem pair_one {k : Int} {sb : ByteArray} : ∀ u ∈ [Value.int .i64 k, Value.string sb], u.oneCell' = true := by
  intro u hu
  simp only [List.mem_cons, List.not_mem_nil, or_false] at hu
  rcases hu with rfl | rfl <;> rfl

theorem two_rows {w w' : World} {t u : TypeId} {vs us : List Value} (hb : Below ((w.alloc (.cells vs.toArray t)).alloc (.cells us.toArray u)).heap.size ((w.alloc (.cells vs.toArray t)).alloc (.cells us.toArray u)) w') : RowB w' w.heap.size vs ∧ RowB w' (w.heap.size + 1) us := by
  have h1 := below_on (below_al (Below.refl (w.alloc (.cells vs.toArray t)).heap.size (w.alloc (.cells vs.toArray t))) (.cells us.toArray u)) hb
  have q2 := RowB.al (vs := us) hb
  rw [World.size_alloc] at q2
  exact ⟨RowB.al (vs := vs) h1, q2⟩

set_option maxHeartbeats 4000000 in
/-- What Write refuses. -/
theorem rwriteNot_any (N : Nat → List Value → Prop) (n : Nat) (lie : Int → List UInt8) (wt : List (Int × List UInt8)) (lf : Int) (v : Value) (k : Int) (hk : -9223372036854775808 ≤ k ∧ k < 9223372036854775808) (s : List UInt8) (w : World) (h : RfV w N v ⟨n, lie, wt, lf⟩) (E : Int) (hE : (⟨n, lie, wt, lf⟩ : DkM).wrE k s.length = E) (h0 : E ≠ 0) :
    Calls Try.prog 33 #[v, .int .i64 k, strV s] w fun e w' => ∃ v', e = .returned (.tuple #[v', .int .i64 E]) ∧ RfV w' N v' ⟨n, lie, wt, lf⟩ ∧ Below w.heap.size w w' := by
  obtain ⟨A1, C1, A2, C2, rfl, h1, h2⟩ := h
  have HB : Hid (Below w.heap.size w ((w.alloc (.cells #[.slice A1 n C1, .slice A2 wt.length C2, .int .i64 lf] 30)).alloc (.cells #[.slice A1 n C1, .slice A2 wt.length C2, .int .i64 lf] 30))) := below_al (below_al (Below.refl _ _) _) _
  have hr := RowB.new (w.alloc (.cells #[.slice A1 n C1, .slice A2 wt.length C2, .int .i64 lf] 30)) [.slice A1 n C1, .slice A2 wt.length C2, .int .i64 lf] 30
  rw [World.size_alloc] at hr
  have HR := Lib.hid hr
  have HV : Hid (RfV ((w.alloc (.cells #[.slice A1 n C1, .slice A2 wt.length C2, .int .i64 lf] 30)).alloc (.cells #[.slice A1 n C1, .slice A2 wt.length C2, .int .i64 lf] 30)) N (.agg #[.slice A1 n C1, .slice A2 wt.length C2, .int .i64 lf]) ⟨n, lie, wt, lf⟩) := ⟨A1, C1, A2, C2, rfl, h1.on HB.out, h2.on HB.out⟩
  have hE' : (if s.length ≠ 64 then 2 else if hasS n k = false then 4 else if lf = 0 then 190 else 0) = E := hE
  have hsz : (txt s).size = s.length := rfl
  have HE := Lib.hid hE'
  clear h1 h2 hr hE hE'
  unfold strV
  generalize txt s = sb at *
  by_cases h64 : s.length = 64
  · have hszI : ((sb.size : Nat) : Int) = 64 := by omega
    have hE1 : (if hasS n k = false then 4 else if lf = 0 then 190 else 0) = E := by have h := HE.out; rw [if_neg (show ¬ s.length ≠ 64 from fun h => h h64)] at h; exact h
    clear HE hsz h64
    cases hq : hasS n k
    · rw [hq, if_pos rfl] at hE1
      subst hE1
      have hq2 : k < 0 ∨ (n : Int) ≤ k := by
        unfold hasS at hq
        simp only [Bool.and_eq_false_iff, decide_eq_false_iff_not] at hq
        omega
      clear hq
      rcases hq2 with hneg | hge
      · go_enter Try.func33, Try.ntmps33
        go_wp2_with fail
        refine bodyPost_ret (results_two rfl (by rfl) (by rfl) (rf_load HR.out)) rfl ?_
        exact ⟨_, rfl, HV.out, HB.out⟩
      · have hneg : ¬ k < 0 := by omega
        go_enter Try.func33, Try.ntmps33
        go_wp2_with fail
        refine bodyPost_ret (results_two rfl (by rfl) (by rfl) (rf_load HR.out)) rfl ?_
        exact ⟨_, rfl, HV.out, HB.out⟩
    · rw [hq, if_neg (by simp)] at hE1
      have hlf : lf = 0 := by
        by_cases h : lf = 0
        · exact h
        · rw [if_neg h] at hE1; exact absurd hE1.symm h0
      rw [if_pos hlf] at hE1
      subst hE1
      subst hlf
      have hq2 : ¬ k < 0 ∧ ¬ (n : Int) ≤ k := by
        unfold hasS at hq
        simp only [Bool.and_eq_true, decide_eq_true_eq] at hq
        omega
      obtain ⟨hneg, hge⟩ := hq2
      clear hq
      go_enter Try.func33, Try.ntmps33
      go_wp2_with fail
      refine bodyPost_ret (results_two rfl (by rfl) (by rfl) (rf_load HR.out)) rfl ?_
      exact ⟨_, rfl, HV.out, HB.out⟩
  · have hszI : ¬ ((sb.size : Nat) : Int) = 64 := by omega
    have hE1 : 2 = E := by rw [← HE.out, if_pos h64]
    subst hE1
    clear HE hsz h64
    go_enter Try.func33, Try.ntmps33
    go_wp2_with fail
    refine bodyPost_ret (results_two rfl (by rfl) (by rfl) (rf_load HR.out)) rfl ?_
    exact ⟨_, rfl, HV.out, HB.out⟩

set_option maxHeartbeats 4000000 in
theorem rwrite_any (N : Nat → List Value → Prop) (n : Nat) (hn : n ≤ 4096) (lie : Int → List UInt8) (wt : List (Int × List UInt8)) (hwt : wt.length < 1000000) (lf : Int) (hlf : -1 ≤ lf ∧ lf < 9223372036854775808) (v : Value) (k : Int) (hk : -9223372036854775808 ≤ k ∧ k < 9223372036854775808) (s : List UInt8) (w : World) (h : RfV w N v ⟨n, lie, wt, lf⟩) (hE : (⟨n, lie, wt, lf⟩ : DkM).wrE k s.length = 0) :
    Calls Try.prog 33 #[v, .int .i64 k, strV s] w fun e w' => ∃ v', e = .returned (.tuple #[v', .int .i64 0]) ∧ RfV w' (sinceN N w) v' (DkM.wrote ⟨n, lie, wt, lf⟩ k s) ∧ Below w.heap.size w w' := by
  have hE' : (if s.length ≠ 64 then 2 else if hasS n k = false then 4 else if lf = 0 then 190 else 0) = (0 : Int) := hE
  have h64 : s.length = 64 := by
    by_cases h : s.length = 64
    · exact h
    · rw [if_pos h] at hE'; cases hE'
  rw [if_neg (show ¬ s.length ≠ 64 from fun h => h h64)] at hE'
  cases hq : hasS n k
  · rw [hq, if_pos rfl] at hE'; cases hE'
  rw [hq, if_neg (by simp)] at hE'
  have hl0 : ¬ lf = 0 := fun h => by rw [if_pos h] at hE'; cases hE'
  have hq2 : ¬ k < 0 ∧ ¬ (n : Int) ≤ k := by
    unfold hasS at hq
    simp only [Bool.and_eq_true, decide_eq_true_eq] at hq
    omega
  obtain ⟨hneg, hge⟩ := hq2
  have hszI : (((txt s).size : Nat) : Int) = 64 := by
    have : (txt s).size = s.length := rfl
    omega
  obtain ⟨A1, C1, A2, C2, rfl, h1, h2⟩ := h
  have H1 := Lib.hid h1
  have H2 := Lib.hid h2
  have HWr : Hid (DkM.wrote ⟨n, lie, wt, lf⟩ k s = ⟨n, lie, wt ++ [(k, s)], if 0 < lf then lf - 1 else lf⟩) := rfl
  have HPt : Hid (putsL (wt ++ [(k, s)]) = putsL wt ++ [.int .i64 k, .string (txt s)]) := putsL_append _ _
  have HPl : Hid ((putsL wt).length = wt.length * 2) := putsL_len _
  have HP1 : Hid (∀ u ∈ putsL wt, u.oneCell' = true) := putsL_one
  have HM : Hid (wt.length < 1000000) := hwt
  have HLe : Hid ((wt ++ [(k, s)]).length = wt.length + 1) := by rw [Hid, List.length_append]; rfl
  clear hE hE' hq hwt h1 h2 h64
  unfold strV
  generalize txt s = sb at *
  by_cases hpos : lf = -1
  · subst hpos
    obtain ⟨W, hW⟩ : ∃ W, W = (w.alloc (.cells #[.slice A1 n C1, .slice A2 wt.length C2, .int .i64 (-1)] 30)).alloc (.cells #[.slice none 0 0, .slice none 0 0, .int .i64 0] 30) := ⟨_, rfl⟩
    have HB0 : Hid (Below w.heap.size w W) := by rw [hW]; exact below_al (below_al (Below.refl _ _) _) _
    have HX : Hid (∀ w', Below W.heap.size W w' → RowB w' w.heap.size [.slice A1 n C1, .slice A2 wt.length C2, .int .i64 (-1)] ∧ RowB w' (w.heap.size + 1) [.slice none 0 0, .slice none 0 0, .int .i64 0]) := fun w' hb => by
      rw [hW] at hb
      exact two_rows hb
    have HZ : Hid (W.heap.size = w.heap.size + 2) := by rw [Hid, hW]; simp
    obtain ⟨w1, hw1⟩ : ∃ w1, w1 = W.alloc (.cells #[] 48) := ⟨_, rfl⟩
    have hb1 : Below W.heap.size W w1 := by rw [hw1]; exact below_al (Below.refl _ _) _
    have HO : Hid (w1.ownsRow W.heap.size 48 2 (.slice (some ⟨W.heap.size, 0, none⟩) 0 0) 0 []) := by rw [hw1]; exact World.ownsRow_lit W #[] 0 (Nat.le_refl _) (by decide) rfl
    have HSrc : Hid (Src w1 A2 (putsL wt)) := ((H2.out.on HB0.out).on hb1).src
    have HB1 := Lib.hid hb1
    have HW := Lib.hid hW
    have HW1 := Lib.hid hw1
    obtain ⟨⟨x0, x1, x2⟩, f0, f1, f2⟩ := r3 (HX.out (W.alloc (.cells #[] 48)) (below_al (Below.refl _ _) _)).1
    clear hb1 hW hw1
    go_enter Try.func33, Try.ntmps33
    go_upto_region 8 with fail
    rw [← HW.out]
    clear hl0 hneg hge hszI
    go_upto_region 9 with (at_builtin; first
      | (refine wpList_appK _ rfl _ _ 28 rfl W.heap.size 2 (by decide) 48 _ 24 Try.underlying28 info_put (by kernel_rfl) (.slice (some ⟨W.heap.size, 0, none⟩) 0 0) 0 [] rfl (by first | exact HO.out | (rw [← HW1.out]; exact HO.out)) A2 wt.length C2 (putsL wt) rfl HPl.out (by first | exact HSrc.out | (rw [← HW1.out]; exact HSrc.out)) HP1.out (by have := HM.out; simp [maxLen]; omega) (by have := HM.out; omega) (by first | exact HB1.out.size | (rw [← HW1.out]; exact HB1.out.size)) ?_
         intro v1 w2 hap
         obtain ⟨A3, C3, rfl, hown, hb2⟩ := app1_fact hap
         have HO2 : Hid (w2.ownsRow W.heap.size 48 2 (.slice A3 wt.length C3) wt.length (putsL wt)) := hown
         have HB2 := Lib.hid hb2
         clear hap hown hb2)
      | (refine wpList_appK _ rfl _ _ 28 rfl W.heap.size 2 (by decide) 48 _ 24 Try.underlying28 info_put (by kernel_rfl) (.slice A3 wt.length C3) wt.length (putsL wt) rfl (HO2.out.alloc _) (some ⟨w2.heap.size, 0, none⟩) 1 1 [.int .i64 k, .string sb] rfl rfl (src_pair _ _ _ _) pair_one (by have := HM.out; simp [maxLen]; omega) (by have := HM.out; omega) (by have := HB2.out.size; simp; omega) ?_
         intro v2 w4 hap
         have hb4 := (below_al HB2.out (.cells #[.int .i64 k, .string sb] 48)).trans ((appK_below hap (HO2.out.alloc _) (by have := HB2.out.size; simp; omega)))
         obtain ⟨g, cap, rfl, hg, hgl, _, hr4⟩ := own_rowB hap.1 (by omega)
         obtain ⟨⟨x0, x1, x2⟩, f0, f1, f2⟩ := r3 (HX.out w4 hb4).1))
    obtain ⟨W5, hW5⟩ : ∃ W5, W5 = w4.setCell ⟨w.heap.size, 1, none⟩ (.slice (some ⟨g, 0, none⟩) (wt.length + 1) cap) := ⟨_, rfl⟩
    have hg0 : w.heap.size ≠ g := by have := HZ.out; omega
    have hg1 : w.heap.size + 1 ≠ g := by have := HZ.out; omega
    have HR0 : Hid (RowB W5 w.heap.size [.slice A1 n C1, .slice (some ⟨g, 0, none⟩) (wt.length + 1) cap, .int .i64 (-1)]) := by rw [hW5]; exact (HX.out w4 hb4).1.set 1 _
    have HR1 : Hid (RowB W5 (w.heap.size + 1) [.slice none 0 0, .slice none 0 0, .int .i64 0]) := by rw [hW5]; exact (HX.out w4 hb4).2.other (by omega) _
    have HRg : Hid (RowB W5 g (putsL wt ++ [.int .i64 k, .string sb])) := by rw [hW5]; exact hr4.other hg0 _
    have HB5 : Hid (Below w.heap.size w W5) := by rw [hW5]; exact (HB0.out.trans (hb4.mono HB0.out.size)).setCell (Nat.le_refl _) _
    have HG5 : Hid (g < W5.heap.size) := by rw [hW5, Hid, World.size_setCell]; exact hgl
    rw [← hW5]
    clear hW5 x0 x1 x2 f0 f1 f2 hb4 hr4 hap
    obtain ⟨⟨x0, x1, x2⟩, f0, f1, f2⟩ := r3 HR0.out
    obtain ⟨⟨y0, y1, y2⟩, g0, g1, g2⟩ := r3 HR1.out
    go_wp2_with fail
    have hb6 := set3_on (b := w.heap.size + 1) HB5.out (by omega) (.slice A1 n C1) (.slice (some ⟨g, 0, none⟩) (wt.length + 1) cap) (.int .i64 (-1))
    refine bodyPost_ret (results_two rfl (by rfl) (by rfl) (rf_load (set3_row HR1.out _ _ _))) rfl ?_
    refine ⟨_, rfl, ?_, hb6⟩
    rw [HWr.out]
    refine ⟨A1, C1, some ⟨g, 0, none⟩, cap, ?_, (H1.out.on hb6).mono fun _ _ _ h => .inl h, .inr ⟨g, rfl, by rw [set3_size]; exact HG5.out, ?_, .inr (by have := HZ.out; omega)⟩⟩
    · show _ = Value.agg #[_, .slice _ (wt ++ [(k, s)]).length _, .int .i64 (if (0 : Int) < -1 then -1 - 1 else -1)]
      rw [HLe.out, if_neg (by decide)]
    · show RowB _ _ (putsL (wt ++ [(k, s)]))
      rw [HPt.out]
      exact set3_other HRg.out hg1 _ _ _
  · have hpos2 : 0 < lf := by omega
    obtain ⟨W, hW⟩ : ∃ W, W = (w.alloc (.cells #[.slice A1 n C1, .slice A2 wt.length C2, .int .i64 (lf - 1)] 30)).alloc (.cells #[.slice none 0 0, .slice none 0 0, .int .i64 0] 30) := ⟨_, rfl⟩
    have HB0 : Hid (Below w.heap.size w W) := by rw [hW]; exact below_al (below_al (Below.refl _ _) _) _
    have HX : Hid (∀ w', Below W.heap.size W w' → RowB w' w.heap.size [.slice A1 n C1, .slice A2 wt.length C2, .int .i64 (lf - 1)] ∧ RowB w' (w.heap.size + 1) [.slice none 0 0, .slice none 0 0, .int .i64 0]) := fun w' hb => by
      rw [hW] at hb
      exact two_rows hb
    have HZ : Hid (W.heap.size = w.heap.size + 2) := by rw [Hid, hW]; simp
    obtain ⟨w1, hw1⟩ : ∃ w1, w1 = W.alloc (.cells #[] 48) := ⟨_, rfl⟩
    have hb1 : Below W.heap.size W w1 := by rw [hw1]; exact below_al (Below.refl _ _) _
    have HO : Hid (w1.ownsRow W.heap.size 48 2 (.slice (some ⟨W.heap.size, 0, none⟩) 0 0) 0 []) := by rw [hw1]; exact World.ownsRow_lit W #[] 0 (Nat.le_refl _) (by decide) rfl
    have HSrc : Hid (Src w1 A2 (putsL wt)) := ((H2.out.on HB0.out).on hb1).src
    have HB1 := Lib.hid hb1
    have HW := Lib.hid hW
    have HW1 := Lib.hid hw1
    obtain ⟨⟨x0, x1, x2⟩, f0, f1, f2⟩ := r3 (HX.out (W.alloc (.cells #[] 48)) (below_al (Below.refl _ _) _)).1
    clear hb1 hW hw1
    go_enter Try.func33, Try.ntmps33
    go_upto_region 8 with fail
    rw [← HW.out]
    clear hl0 hneg hge hszI
    go_upto_region 9 with (at_builtin; first
      | (refine wpList_appK _ rfl _ _ 28 rfl W.heap.size 2 (by decide) 48 _ 24 Try.underlying28 info_put (by kernel_rfl) (.slice (some ⟨W.heap.size, 0, none⟩) 0 0) 0 [] rfl (by first | exact HO.out | (rw [← HW1.out]; exact HO.out)) A2 wt.length C2 (putsL wt) rfl HPl.out (by first | exact HSrc.out | (rw [← HW1.out]; exact HSrc.out)) HP1.out (by have := HM.out; simp [maxLen]; omega) (by have := HM.out; omega) (by first | exact HB1.out.size | (rw [← HW1.out]; exact HB1.out.size)) ?_
         intro v1 w2 hap
         obtain ⟨A3, C3, rfl, hown, hb2⟩ := app1_fact hap
         have HO2 : Hid (w2.ownsRow W.heap.size 48 2 (.slice A3 wt.length C3) wt.length (putsL wt)) := hown
         have HB2 := Lib.hid hb2
         clear hap hown hb2)
      | (refine wpList_appK _ rfl _ _ 28 rfl W.heap.size 2 (by decide) 48 _ 24 Try.underlying28 info_put (by kernel_rfl) (.slice A3 wt.length C3) wt.length (putsL wt) rfl (HO2.out.alloc _) (some ⟨w2.heap.size, 0, none⟩) 1 1 [.int .i64 k, .string sb] rfl rfl (src_pair _ _ _ _) pair_one (by have := HM.out; simp [maxLen]; omega) (by have := HM.out; omega) (by have := HB2.out.size; simp; omega) ?_
         intro v2 w4 hap
         have hb4 := (below_al HB2.out (.cells #[.int .i64 k, .string sb] 48)).trans ((appK_below hap (HO2.out.alloc _) (by have := HB2.out.size; simp; omega)))
         obtain ⟨g, cap, rfl, hg, hgl, _, hr4⟩ := own_rowB hap.1 (by omega)
         obtain ⟨⟨x0, x1, x2⟩, f0, f1, f2⟩ := r3 (HX.out w4 hb4).1))
    obtain ⟨W5, hW5⟩ : ∃ W5, W5 = w4.setCell ⟨w.heap.size, 1, none⟩ (.slice (some ⟨g, 0, none⟩) (wt.length + 1) cap) := ⟨_, rfl⟩
    have hg0 : w.heap.size ≠ g := by have := HZ.out; omega
    have hg1 : w.heap.size + 1 ≠ g := by have := HZ.out; omega
    have HR0 : Hid (RowB W5 w.heap.size [.slice A1 n C1, .slice (some ⟨g, 0, none⟩) (wt.length + 1) cap, .int .i64 (lf - 1)]) := by rw [hW5]; exact (HX.out w4 hb4).1.set 1 _
    have HR1 : Hid (RowB W5 (w.heap.size + 1) [.slice none 0 0, .slice none 0 0, .int .i64 0]) := by rw [hW5]; exact (HX.out w4 hb4).2.other (by omega) _
    have HRg : Hid (RowB W5 g (putsL wt ++ [.int .i64 k, .string sb])) := by rw [hW5]; exact hr4.other hg0 _
    have HB5 : Hid (Below w.heap.size w W5) := by rw [hW5]; exact (HB0.out.trans (hb4.mono HB0.out.size)).setCell (Nat.le_refl _) _
    have HG5 : Hid (g < W5.heap.size) := by rw [hW5, Hid, World.size_setCell]; exact hgl
    rw [← hW5]
    clear hW5 x0 x1 x2 f0 f1 f2 hb4 hr4 hap
    obtain ⟨⟨x0, x1, x2⟩, f0, f1, f2⟩ := r3 HR0.out
    obtain ⟨⟨y0, y1, y2⟩, g0, g1, g2⟩ := r3 HR1.out
    go_wp2_with fail
    have hb6 := set3_on (b := w.heap.size + 1) HB5.out (by omega) (.slice A1 n C1) (.slice (some ⟨g, 0, none⟩) (wt.length + 1) cap) (.int .i64 (lf - 1))
    refine bodyPost_ret (results_two rfl (by rfl) (by rfl) (rf_load (set3_row HR1.out _ _ _))) rfl ?_
    refine ⟨_, rfl, ?_, hb6⟩
    rw [HWr.out]
    refine ⟨A1, C1, some ⟨g, 0, none⟩, cap, ?_, (H1.out.on hb6).mono fun _ _ _ h => .inl h, .inr ⟨g, rfl, by rw [set3_size]; exact HG5.out, ?_, .inr (by have := HZ.out; omega)⟩⟩
    · show _ = Value.agg #[_, .slice _ (wt ++ [(k, s)]).length _, .int .i64 (if 0 < lf then lf - 1 else lf)]
      rw [HLe.out, if_pos hpos2]
    · show RowB _ _ (putsL (wt ++ [(k, s)]))
      rw [HPt.out]
      exact set3_other HRg.out hg1 _ _ _

end Go.Proofs.Ytekeooeapiodmaa

namespace Go.Proofs.Ytekeooeapiodmaa
open Go Go.RowKit Go.Shelf
set_option linter.unusedSimpArgs false
set_option linter.unusedVariables false
set_option maxRecDepth 100000

attribute [local go_sem] Oper.semAt_some

/-- What is read: the last write of that sector, or what lies there. -/
def rdL (l : List (Int × List UInt8)) (k : Int) (s : List UInt8) : List UInt8 := l.foldl (fun s x => if x.1 = k then x.2 else s) s
theorem rdL_push (l : List (Int × List UInt8)) (x : Int × List UInt8) (k : Int) (s : List UInt8) : rdL (l ++ [x]) k s = if x.1 = k then x.2 else rdL l k s := by simp [rdL]
theorem shown_rdL (D : DkM) (k : Int) : D.shown k = rdL D.wt k (D.lie k) := by
  have h : ∀ (l : List (Int × List UInt8)) (s : List UInt8), (match lastI l k with | some i => ((l[i]?).map (·.2)).getD s | none => s) = rdL l k s := by
    intro l
    induction l with
    | nil => intro s; rfl
    | cons x r ih =>
      intro s
      have e : rdL (x :: r) k s = rdL r k (if x.1 = k then x.2 else s) := rfl
      rw [e, ← ih]
      simp only [lastI]
      cases hl : lastI r k with
      | some i =>
        obtain ⟨t, ht⟩ := lastI_lt hl
        simp [ht]
      | none =>
        by_cases hx : x.1 = k
        · simp [hx]
        · simp [hx]
  exact h D.wt (D.lie k)
theorem rdO_at {w : World} {N : Nat → List Value → Prop} {A : Option Addr} {l : List Value} (h : RdO w N A l) {i : Nat} {u : Value} (hi : l[i]? = some u) : ∃ g, A = some ⟨g, 0, none⟩ ∧ w.cell? ⟨g, i, none⟩ = some u := by
  rcases h with rfl | ⟨g, rfl, hg, hr, hn⟩
  · simp at hi
  · exact ⟨g, rfl, hr.1 i u hi⟩
theorem takeW {l : List (Int × List UInt8)} {i : Nat} {x : Int × List UInt8} (hx : l[i]? = some x) : l.take (i + 1) = l.take i ++ [x] := by rw [List.take_add_one, hx]; rfl
theorem RdO.g {w : World} {N : Nat → List Value → Prop} {A : Option Addr} {l : List Value} (h : RdO w N A l) {i : Nat} {u : Value} (hi : l[i]? = some u) : ∃ g, A = some ⟨g, 0, none⟩ := by
  obtain ⟨g, h, _⟩ := rdO_at h hi
  exact ⟨g, h⟩

theorem mless {k n : Nat} (h : k < n) : n - (intOf (.int .i64 ((k : Int) + 1))).toNat < n - (intOf (.int .i64 (k : Int))).toNat := by simp only [intOf]; omega

set_option maxHeartbeats 4000000 in
theorem rread_any (N : Nat → List Value → Prop) (D : DkM) (hn : D.n ≤ 4096) (hwt : D.wt.length < 1000001) (v : Value) (k : Nat) (hk : k < D.n) (w : World) (h : RfV w N v D) :
    Calls Try.prog 37 #[v, .int .i64 (k : Nat)] w fun e w' => e = .returned (strV (D.shown (k : Nat))) ∧ Below w.heap.size w w' := by
  obtain ⟨A1, C1, A2, C2, rfl, h1, h2⟩ := h
  obtain ⟨W, hW⟩ : ∃ W, W = w.alloc (.cells #[.slice A1 D.n C1, .slice A2 D.wt.length C2, .int .i64 D.left] 30) := ⟨_, rfl⟩
  have HB0 : Hid (Below w.heap.size w W) := by rw [hW]; exact below_al (Below.refl _ _) _
  have HX : Hid (RowB W w.heap.size [.slice A1 D.n C1, .slice A2 D.wt.length C2, .int .i64 D.left]) := by rw [hW]; exact RowB.new w _ _
  obtain ⟨g1, rfl, hc1⟩ := rdO_at (h1.on HB0.out) (lieL_at D.lie hk)
  have H2 := Lib.hid (h2.on HB0.out)
  have HE : Hid (D.shown (k : Nat) = rdL D.wt (k : Nat) (D.lie (k : Nat))) := shown_rdL D _
  have HM : Hid (D.wt.length < 1000001) := hwt
  have hkI : (k : Int) < (D.n : Int) := by omega
  have HW := Lib.hid hW
  generalize D.left = lf at *
  generalize D.lie (k : Nat) = s0 at *
  generalize D.wt = wt at *
  generalize D.n = n at *
  obtain ⟨⟨x0, x1, x2⟩, f0, f1, f2⟩ := r3 HX.out
  obtain ⟨m, hm⟩ : ∃ m, m = wt.length := ⟨_, rfl⟩
  have HMe := Lib.hid hm
  rw [← hm] at HM HW x1 ⊢
  clear h1 h2 hW hk hwt hn hm HX f0 f1 f2
  go_enter Try.func37, Try.ntmps37
  go_upto_region 1 with fail
  rw [← HW.out]
  clear HW
  go_wp2_with fail
  go_loopw [5, 6] (fun v5 v6 wr => ∃ j : Nat, j ≤ m ∧ v6 = .int .i64 j ∧ v5 = .string (txt (rdL (wt.take j) (k : Nat) s0)) ∧ wr = W) (fun _ v6 _ => m - (intOf v6).toNat)
  case atStart => exact ⟨0, Nat.zero_le _, rfl, rfl, rfl⟩
  case round =>
    obtain ⟨j, hj, rfl, rfl, rfl⟩ := hrel
    by_cases hlt : j < m
    · obtain ⟨x, hx⟩ : ∃ x, wt[j]? = some x := ⟨_, List.getElem?_eq_getElem (by have := HMe.out; omega)⟩
      obtain ⟨g2, rfl, d0⟩ := rdO_at H2.out (putsL_at hx).1
      obtain ⟨g2', e2, d1⟩ := rdO_at H2.out (putsL_at hx).2
      injection e2 with e2
      injection e2 with e2
      subst e2
      have HXx := Lib.hid hx
      have hltI : (j : Int) < (m : Int) := by omega
      have hms := mless hlt
      have HT : Hid (rdL (wt.take (j + 1)) (k : Nat) s0 = if x.1 = (k : Nat) then x.2 else rdL (wt.take j) (k : Nat) s0) := by rw [Hid, takeW hx, rdL_push]
      have hM := HM.out
      clear hx
      by_cases hxk : x.1 = (k : Nat)
      · go_wp2_with fail
        go_roundw
        case rel => exact ⟨j + 1, hlt, by go_num, by rw [HT.out, if_pos hxk], trivial⟩
        case measure => exact hms
      · go_wp2_with fail
        go_roundw
        case rel => exact ⟨j + 1, hlt, by go_num, by rw [HT.out, if_neg hxk], trivial⟩
        case measure => exact hms
    · obtain rfl : j = m := by omega
      go_wp2_with fail
      go_ret
      refine ⟨?_, HB0.out⟩
      rw [HE.out, HMe.out, List.take_length]
      rfl

end Go.Proofs.Ytekeooeapiodmaa
