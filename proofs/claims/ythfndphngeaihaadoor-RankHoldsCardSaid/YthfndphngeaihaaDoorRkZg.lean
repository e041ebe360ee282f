/- Package rank's law: its walk. -/
import Derived.Test.YthfndphngeaihaaDoorRkZd
import Derived.Test.YthfndphngeaihaaDoorRkZf
import Derived.Test.YthfndphngeaihaaDoorRkO
import Derived.Test.YthfndphngeaihaaDoorRkOp
namespace Go.Proofs.YthfndphngeaihaaDoor
open Go Go.RowKit Go.Shelf
open Go.ChangeMaps (setBlock)
set_option linter.unusedSimpArgs false
set_option linter.unusedVariables false
set_option linter.unusedSectionVars false
set_option maxRecDepth 100000

attribute [local go_sem] Oper.semAt_some

theorem St.less {w w1 : World} {p : Nat} {most : Int} {D : List Wt} {K K2 : Nat → Prop} (h : St w w1 p most D K) (hk : ∀ b, K2 b → K b) : St w w1 p most D K2 := by
  obtain ⟨⟨S, h1, h2⟩, h3, h4⟩ := h
  exact ⟨⟨S, h1, fun b hb => ⟨(h2 b hb).1, (h2 b hb).2.1, fun k => (h2 b hb).2.2 (hk b k)⟩⟩, fun b hb => h3 b (hk b hb), h4⟩
theorem copyL (w w1 : World) (p : Nat) (most : Int) (D : List Wt) (K : Nat → Prop) (h : St w w1 p most D K) (hlen : D.length ≤ 100000) :
    Calls Tryd.prog 8 #[.pointer (some ⟨p, 0, none⟩)] w1 fun e w' => ∃ c, e = .returned (.pointer (some ⟨c, 0, none⟩)) ∧ LineAt w' (newS w1 w') c most D ∧ St w w' p most D (fun b => K b ∨ newS w1 w' b) ∧ Kept K w1 w' := by
  have h' := h
  obtain ⟨⟨S, h1, h2⟩, h3, h4⟩ := h'
  refine (copy_any S p most D w1 h1 hlen).mono fun e w' hr => ?_
  obtain ⟨⟨c, e1, e2⟩, e3⟩ := hr
  obtain ⟨k1, k2⟩ := h.on e3
  refine ⟨c, e1, e2, ⟨⟨S, h1.on e3, fun b hb => ⟨(h2 b hb).1, Nat.lt_of_lt_of_le (h2 b hb).2.1 e3.size, fun hk => ?_⟩⟩, fun b hk => ?_, k1.2.2⟩, k2⟩
  · rcases hk with hk | hk
    · exact (h2 b hb).2.2 hk
    · have := (h2 b hb).2.1
      have := hk.1
      omega
  · rcases hk with hk | hk
    · exact k1.2.1 b hk
    · exact hk.2
theorem sameL (w w1 : World) (p c : Nat) (most : Int) (D : List Wt) (K S' : Nat → Prop) (h : St w w1 p most D K) (h' : LineAt w1 S' c most D) (hlen : D.length ≤ 100000) :
    Calls Tryd.prog 10 #[.pointer (some ⟨p, 0, none⟩), .pointer (some ⟨c, 0, none⟩)] w1 fun e w' => e = .returned (.bool true) ∧ St w w' p most D K ∧ Kept K w1 w' := by
  have hh := h
  obtain ⟨⟨S, h1, h2⟩, h3, h4⟩ := hh
  refine (same_any S S' p c most most D D w1 h1 h' hlen hlen).mono fun e w' hr => ?_
  obtain ⟨⟨t, e1, e2⟩, e3⟩ := hr
  have ht : t = true := e2.2 ⟨rfl, fun _ => rfl⟩
  subst ht
  exact ⟨e1, h.on e3⟩
theorem own_wt {w : World} {B : Nat} {v : Value} {n : Nat} {xs : List Value} (h : w.ownsRow B 30 7 v n xs) : ∃ A C, v = .slice A n C := by
  obtain ⟨A, C, e, _⟩ := own_rdK h
  exact ⟨A, C, e⟩

theorem wtNe_self (a : Wt) (w : World) : (binOp BinOp.neq 30 (.agg #[.int .u32 a.nm.n, .int .u32 a.nm.m, .int .u64 a.nm.t, .int .u32 a.nm.q, .int .u32 a.node, .int .i64 a.rank, .int .i64 a.size]) (.agg #[.int .u32 a.nm.n, .int .u32 a.nm.m, .int .u64 a.nm.t, .int .u32 a.nm.q, .int .u32 a.node, .int .i64 a.rank, .int .i64 a.size])).run Tryd.prog w = .ok (.bool false) w := by
  obtain ⟨⟨a0, a1, a2, a3⟩, a4, a5, a6⟩ := a
  go_simp
def vpOf (v : Value) (b : Nat) : Prop := v.ownBlock = some b
/-- Behind the append: the line stays, the row is one's own. -/
theorem St.app {W w2 w3 : World} {p : Nat} {most : Int} {D : List Wt} {v v' : Value} {bb n : Nat} {xs : List Value} {o : Obj} (h : St W w2 p most D (fun b => vpOf v b ∨ b = bb)) (hv : ∀ j, v.ownBlock = some j → W.heap.size ≤ j) (hg : (w2.alloc o).grownBy w3 v.ownBlock) (hn : v'.ownBlock = v.ownBlock ∨ v'.ownBlock = some (w2.heap.size + 1)) (h3 : w3.ownsRow W.heap.size 30 7 v' n xs) : St W w3 p most D (vpOf v') := by
  have hb : ButS w2.heap.size (vpOf v) w2 w3 := ((ButS.refl _ _ _).alloc (Nat.le_refl _) o).grown (by simp) hg (fun r e => .inl e)
  rcases hn with hn | hn
  · exact (h.turn hb fun b k => ⟨.inl k, hv b k⟩).less fun b k => .inl (by unfold vpOf at k ⊢; rw [← hn]; exact k)
  · have hlt := (World.ownsRow.lt h3 _ hn).2
    exact (h.turnD (d := w2.heap.size + 1) hb (fun b k => ⟨.inl k, hv b k⟩) (by omega) hlt).less fun b k => by
      unfold vpOf at k
      rw [hn] at k
      injection k with k
      exact .inr k.symm

set_option maxHeartbeats 8000000 in
theorem walk_rholds (A : Option Addr) (C : Nat) (l : List Wt) (m : Wt) (w : World) (hlen : l.length ≤ 40) (hr : RdV w A (flatWt l)) (hT : TabR w) :
    Calls Tryd.prog 3 #[.slice A l.length C, .agg #[.int .u32 m.nm.n, .int .u32 m.nm.m, .int .u64 m.nm.t, .int .u32 m.nm.q, .int .u32 m.node, .int .i64 m.rank, .int .i64 m.size]] w fun e w' => e = .returned (.bool true) ∧ Below w.heap.size w w' := by
  obtain ⟨bm, hbm⟩ : ∃ b, b = w.heap.size := ⟨_, rfl⟩
  obtain ⟨W, hW⟩ : ∃ W, W = w.alloc (.cells #[.int .u32 m.nm.n, .int .u32 m.nm.m, .int .u64 m.nm.t, .int .u32 m.nm.q, .int .u32 m.node, .int .i64 m.rank, .int .i64 m.size] 30) := ⟨_, rfl⟩
  have HB0 : Hid (Below w.heap.size w W) := by rw [hW]; exact below_al (Below.refl _ _) _
  have HM0 : Hid (RowB W bm m.cells ∧ bm < W.heap.size ∧ bm = w.heap.size) := by
    rw [Hid, hW, hbm]
    exact ⟨RowB.new w m.cells _, by simp, rfl⟩
  have HR : Hid (RdV W A (flatWt l)) := hr.on HB0.out
  have HT : Hid (TabR W) := hT.on HB0.out
  have HLe := Lib.hid hlen
  have HW := Lib.hid hW
  have hgt : decide ((40 : Int) < (l.length : Int)) = false := by simp; omega
  clear hr hT hlen hW
  go_enter Tryd.func3, Tryd.ntmps3
  have hgt2 : ¬ (40 : Int) < (l.length : Int) := by simpa using hgt
  clear hgt
  go_upto_region 3 with fail
  rw [← HW.out, ← hbm]
  clear hbm hgt2
  go_wp2_with fail
  refine (newL 50 W rfl).mono ?_
  rintro e w1 ⟨p, rfl, hs⟩
  have H1 := Lib.hid hs
  clear hs
  go_wp2_with fail
  go_loopw [7, 8] (fun vp vi wr => ∃ i : Nat, i ≤ l.length ∧ vi = .int .i64 i ∧ Hid (St W wr p 50 (putAll 50 [] (l.take i)) (vpOf vp) ∧ wr.ownsRow W.heap.size 30 7 vp (putAll 50 [] (l.take i)).length (flatWt (putAll 50 [] (l.take i))))) (fun _ i _ => l.length - (intOf i).toNat)
  case atStart =>
    refine ⟨0, Nat.zero_le _, rfl, H1.out.less (fun b hb => by cases hb), ?_⟩
    exact World.ownsRow_nil _ _ _ _
  case round =>
    obtain ⟨i, hi, rfl, hI⟩ := hrel
    by_cases hlt : i < l.length
    · have hFw := (hI.out.1).2.2
      obtain ⟨y, hyy⟩ : ∃ y, y = atW l i := ⟨_, rfl⟩
      have hc7 : ∀ j, j < 7 → ∃ g o, A = some ⟨g, o, none⟩ ∧ wr.cell? ⟨g, o + (i * 7 + j), none⟩ = y.cells[j]? := fun j hj => by
        have h := flatWt_at l i hlt j hj
        rw [← hyy] at h
        obtain ⟨u, hu⟩ : ∃ u, y.cells[j]? = some u := ⟨y.cells[j]'(by simpa [Wt.cells] using hj), List.getElem?_eq_getElem _⟩
        obtain ⟨g, o, e, hg, hc⟩ := (HR.out.on hFw) _ u (h.trans hu)
        exact ⟨g, o, e, hc.trans hu.symm⟩
      obtain ⟨g, o, hA, c0⟩ := hc7 0 (by omega)
      have hc8 : ∀ j, j < 7 → wr.cell? ⟨g, o + i * 7 + j, none⟩ = y.cells[j]? := fun j hj => by
        obtain ⟨g', o', e, h⟩ := hc7 j hj
        rw [hA] at e
        injection e with e
        injection e with e e2
        subst e e2
        rw [Nat.add_assoc]
        exact h
      have x0 : wr.cell? ⟨g, o + i * 7, none⟩ = some (.int .u32 y.nm.n) := hc8 0 (by omega)
      have x1 : wr.cell? ⟨g, o + i * 7 + 1, none⟩ = some (.int .u32 y.nm.m) := hc8 1 (by omega)
      have x2 : wr.cell? ⟨g, o + i * 7 + 2, none⟩ = some (.int .u64 y.nm.t) := hc8 2 (by omega)
      have x3 : wr.cell? ⟨g, o + i * 7 + 3, none⟩ = some (.int .u32 y.nm.q) := hc8 3 (by omega)
      have x4 : wr.cell? ⟨g, o + i * 7 + 4, none⟩ = some (.int .u32 y.node) := hc8 4 (by omega)
      have x5 : wr.cell? ⟨g, o + i * 7 + 5, none⟩ = some (.int .i64 y.rank) := hc8 5 (by omega)
      have x6 : wr.cell? ⟨g, o + i * 7 + 6, none⟩ = some (.int .i64 y.size) := hc8 6 (by omega)
      have hltI : (i : Int) < (l.length : Int) := by omega
      have HY := Lib.hid hyy
      have HA := Lib.hid hA
      subst hA
      clear hc7 hc8 hyy c0 hFw
      obtain ⟨P, hP⟩ : ∃ P, P = putAll 50 [] (l.take i) := ⟨_, rfl⟩
      rw [← hP] at hI
      have HP : Hid (P.length ≤ 40 ∧ (if putE P 50 (to7 y) = 0 then P ++ [to7 y] else P) = putAll 50 [] (l.take (i + 1))) := by
        have hle := HLe.out
        refine ⟨?_, ?_⟩
        · have := (putAll_ok 50 (l.take i) [] ⟨by simp, by simp⟩).2
          rw [← hP, List.length_take] at this
          simp at this
          omega
        · rw [take_one l i hlt, putAll_add, ← hP, HY.out]
          unfold atW
          rw [List.getElem?_eq_getElem hlt]
          rfl
      clear hP
      go_upto_region 9 with fail
      obtain ⟨bb, hbb⟩ : ∃ b, b = wr.heap.size := ⟨_, rfl⟩
      obtain ⟨wy, hwy⟩ : ∃ w', w' = wr.alloc (.cells #[.int .u32 y.nm.n, .int .u32 y.nm.m, .int .u64 y.nm.t, .int .u32 y.nm.q, .int .u32 y.node, .int .i64 y.rank, .int .i64 y.size] 30) := ⟨_, rfl⟩
      have HBy : Hid (RowB wy bb y.cells ∧ bb = wr.heap.size ∧ wy.heap.size = wr.heap.size + 1 ∧ Below wr.heap.size wr wy) := by
        rw [Hid, hwy, hbb]
        exact ⟨RowB.new wr y.cells _, rfl, by simp, below_al (Below.refl _ _) _⟩
      have HSy : Hid (St W wy p 50 P (fun b => vpOf u7 b ∨ b = bb)) := by
        rw [Hid, hwy, hbb]
        exact (hI.out.1.box _).1
      rw [← hwy, ← hbb]
      clear hwy hbb x0 x1 x2 x3 x4 x5 x6
      have y4 := HBy.out.1.1 4 _ rfl
      have g4 := HBy.out.1.2 4
      go_upto_region 10 with fail
      obtain ⟨wz, hwz⟩ : ∃ w', w' = wy.setCell ⟨bb, 4, none⟩ (.int .u32 7) := ⟨_, rfl⟩
      have HBz : Hid (RowB wz bb (to7 y).cells ∧ wz.heap.size = wy.heap.size ∧ ButS wr.heap.size (fun _ => False) wr wz) := by
        rw [Hid, hwz]
        exact ⟨HBy.out.1.set 4 _, World.size_setCell _ _ _, (ButS.of_below HBy.out.2.2.2).set (.inr (Nat.le_of_eq HBy.out.2.1.symm)) _ _⟩
      have HSz : Hid (St W wz p 50 P (fun b => vpOf u7 b ∨ b = bb)) := by
        refine HSy.out.turn (T := fun b => b = bb) ?_ (fun b hb => ⟨.inr hb, ?_⟩)
        · rw [hwz]
          exact (ButS.refl wy.heap.size (fun b => b = bb) wy).set (b := bb) (.inl rfl) _ _
        · have := hI.out.1.2.2.size
          have := HBy.out.2.1
          omega
      rw [← hwz]
      clear hwz y4 g4 HSy
      have z := HBz.out.1
      have z0 := z.1 0 _ rfl
      have z1 := z.1 1 _ rfl
      have z2 := z.1 2 _ rfl
      have z3 := z.1 3 _ rfl
      have z4 := z.1 4 _ rfl
      have z5 := z.1 5 _ rfl
      have z6 := z.1 6 _ rfl
      clear z
      go_wp2_with fail
      refine (putL W wz p 50 P (to7 y) _ HSz.out (by have := HP.out.1; omega)).mono ?_
      rintro e w2 ⟨rfl, hs, hk⟩
      have HS2 := Lib.hid hs
      have HB2 : Hid (RowB w2 bb (to7 y).cells) := HBz.out.1.kept (hk bb (.inr rfl))
      have HO2 : Hid (w2.ownsRow W.heap.size 30 7 u7 P.length (flatWt P)) := ownsRow_kept hI.out.2 fun j hj => (hk j (.inl hj)).trans (HBz.out.2.2.block j (World.ownsRow.lt hI.out.2 j hj).2 fun h => h)
      have HZ2 : Hid (W.heap.size ≤ bb ∧ bb < w2.heap.size) := ⟨by have := hI.out.1.2.2.size; have := HBy.out.2.1; omega, HB2.out.lt⟩
      clear hs hk HSz HBz HBy hI z0 z1 z2 z3 z4 z5 z6
      have hle := HLe.out
      have hms : l.length - (intOf (.int .i64 ((i : Int) + 1))).toNat < l.length - (intOf (.int .i64 (i : Int))).toNat := by simp only [intOf]; omega
      by_cases h0 : putE P 50 (to7 y) = 0
      · rw [h0]
        rw [if_pos h0] at HS2
        have HP2 : Hid (P ++ [to7 y] = putAll 50 [] (l.take (i + 1))) := by
          have h := HP.out.2
          rw [if_pos h0] at h
          exact h
        clear h0
        have hz := HB2.out
        have z0 := hz.1 0 _ rfl
        have z1 := hz.1 1 _ rfl
        have z2 := hz.1 2 _ rfl
        have z3 := hz.1 3 _ rfl
        have z4 := hz.1 4 _ rfl
        have z5 := hz.1 5 _ rfl
        have z6 := hz.1 6 _ rfl
        clear hz
        obtain ⟨v', w3, hrun, ho3, hg3, hv3⟩ := wapp w2 W.heap.size u7 P (to7 y) HO2.out (by have := HZ2.out; omega) (by have := HP.out.1; omega)
        have hS3 := St.app HS2.out (fun j hj => (World.ownsRow.lt HO2.out j hj).1) hg3 hv3 ho3
        have HS3 : Hid (St W w3 p 50 (putAll 50 [] (l.take (i + 1))) (vpOf v') ∧ w3.ownsRow W.heap.size 30 7 v' (putAll 50 [] (l.take (i + 1))).length (flatWt (putAll 50 [] (l.take (i + 1))))) := by
          rw [Hid, ← HP2.out]
          refine ⟨hS3, ?_⟩
          rw [List.length_append, List.length_singleton]
          exact ho3
        have HRun := Lib.hid hrun
        clear hrun ho3 hg3 hv3 hS3 HS2 HO2
        go_wp2_with fail
        refine (num_any 0 w2).mono ?_
        rintro e wq ⟨rfl, hwq⟩
        rw [hwq]
        clear hwq wq
        go_wp2_with (at_builtin; refine wpList_run rfl _ _ _ _ rfl _ _ _ _ rfl rfl HRun.out ?_)
        have hi1 : i + 1 ≤ l.length := hlt
        clear z0 z1 z2 z3 z4 z5 z6 HRun hlt hltI
        go_roundw
        case rel => exact ⟨i + 1, hi1, rfl, HS3.out⟩
        case measure => exact hms
      · rw [if_neg h0] at HS2
        have HP2 : Hid (P = putAll 50 [] (l.take (i + 1))) := by
          have h := HP.out.2
          rw [if_neg h0] at h
          exact h
        have HS3 : Hid (St W w2 p 50 (putAll 50 [] (l.take (i + 1))) (vpOf u7) ∧ w2.ownsRow W.heap.size 30 7 u7 (putAll 50 [] (l.take (i + 1))).length (flatWt (putAll 50 [] (l.take (i + 1))))) := by
          rw [Hid, ← HP2.out]
          exact ⟨HS2.out.less fun b k => .inl k, HO2.out⟩
        obtain ⟨ee, hee⟩ : ∃ ee, ee = putE P 50 (to7 y) := ⟨_, rfl⟩
        rw [← hee] at h0 ⊢
        have h1 : (ee == 0) = false := by simpa using h0
        clear hee HS2 HO2
        go_wp2_with fail
        refine (num_any ee w2).mono ?_
        rintro e wq ⟨rfl, hwq⟩
        rw [hwq]
        clear hwq wq
        go_wp2_with fail
        have hi1 : i + 1 ≤ l.length := hlt
        clear h0 h1 hlt hltI
        go_roundw
        case rel => exact ⟨i + 1, hi1, rfl, HS3.out⟩
        case measure => exact hms
    · obtain rfl : i = l.length := by omega
      rw [List.take_length] at hI
      have hltI : ¬ (l.length : Int) < (l.length : Int) := by omega
      obtain ⟨P, hP⟩ : ∃ P, P = putAll 50 [] l := ⟨_, rfl⟩
      rw [← hP] at hI
      have HP : Hid (P.length ≤ 40 ∧ PutOk P) := by
        have h := putAll_ok 50 l [] ⟨by simp, by simp⟩
        rw [← hP] at h
        refine ⟨?_, h.1⟩
        have h2 := h.2
        have h3 := HLe.out
        simp only [List.length_nil, Nat.zero_add] at h2
        omega
      obtain ⟨AP, CP, hv⟩ := own_wt hI.out.2
      subst hv
      obtain ⟨n, hn⟩ : ∃ n, n = P.length := ⟨_, rfl⟩
      rw [← hn]
      have HN := Lib.hid hn
      clear hP hn hi hlt
      have hn40 : n ≤ 40 := by have := HP.out.1; have := HN.out; omega
      go_wp2_with fail
      refine (copyL W wr p 50 P _ hI.out.1 (by have := HP.out.1; omega)).mono ?_
      rintro e w2 ⟨c, rfl, hc, hs, hk⟩
      have HS2 : Hid (St W w2 p 50 P (fun b => vpOf (.slice AP n CP) b ∨ newS wr w2 b)) := by rw [Hid, HN.out]; exact hs
      have HC2 := Lib.hid hc
      have HO2 : Hid (w2.ownsRow W.heap.size 30 7 (.slice AP n CP) n (flatWt P)) := by
        rw [Hid, HN.out]
        exact ownsRow_kept hI.out.2 fun j hj => hk j hj
      have HM2 : Hid (RowB w2 bm m.cells) := HM0.out.1.on hs.2.2 HM0.out.2.1
      clear hc hs hk hI
      obtain ⟨K2, hK2⟩ : ∃ K, K = (fun b => vpOf (.slice AP n CP) b ∨ newS wr w2 b) := ⟨_, rfl⟩
      have HK2 : Hid ((∀ b, vpOf (.slice AP n CP) b → K2 b) ∧ ∀ b, newS wr w2 b → K2 b) := by rw [Hid, hK2]; exact ⟨fun b h => .inl h, fun b h => .inr h⟩
      obtain ⟨S2, hS2⟩ : ∃ S, S = newS wr w2 := ⟨_, rfl⟩
      rw [← hK2] at HS2
      rw [← hS2] at HC2 HK2
      clear hK2 hS2
      have hz := HM2.out
      have z0 := hz.1 0 _ rfl
      have z1 := hz.1 1 _ rfl
      have z2 := hz.1 2 _ rfl
      have z3 := hz.1 3 _ rfl
      have z4 := hz.1 4 _ rfl
      have z5 := hz.1 5 _ rfl
      have z6 := hz.1 6 _ rfl
      clear hz
      go_wp2_with fail
      refine (putL W w2 p 50 P m _ HS2.out (by have := HP.out.1; omega)).mono ?_
      rintro e w3 ⟨rfl, hs, hk⟩
      have HS3 := Lib.hid hs
      have HC3 : Hid (LineAt w3 S2 c 50 P) := HC2.out.kept fun b hb _ => hk b (HK2.out.2 b hb)
      have HO3 : Hid (w3.ownsRow W.heap.size 30 7 (.slice AP n CP) n (flatWt P)) := ownsRow_kept HO2.out fun j hj => hk j (HK2.out.1 j hj)
      have HM3 : Hid (RowB w3 bm m.cells) := HM0.out.1.on hs.2.2 HM0.out.2.1
      clear hs hk HS2 HC2 HO2 HM2 z0 z1 z2 z3 z4 z5 z6
      obtain ⟨ee, hee⟩ : ∃ ee, ee = putE P 50 m := ⟨_, rfl⟩
      rw [← hee] at HS3 ⊢
      have HE := Lib.hid hee
      clear hee
      go_wp2_with fail
      refine (num_any ee w3).mono ?_
      rintro e wq ⟨rfl, hwq⟩
      rw [hwq]
      clear hwq wq
      go_upto_if 55 with fail
      go_cut [] from 11 to 70 (fun wx => Hid (St W wx p 50 P K2 ∧ LineAt wx S2 c 50 P ∧ wx.ownsRow W.heap.size 30 7 (.slice AP n CP) n (flatWt P)))
      case first =>
        by_cases h0 : ee = 0
        · rw [if_pos h0] at HS3
          obtain ⟨d1, d2, d3⟩ := more_back HP.out.2.2 (HE.out.symm.trans h0)
          have h1 : (ee == 0) = true := by simpa using h0
          have hz := HM3.out
          have z0 := hz.1 0 _ rfl
          have z1 := hz.1 1 _ rfl
          have z2 := hz.1 2 _ rfl
          have z3 := hz.1 3 _ rfl
          have HD : Hid (dropE (P ++ [m]) m.nm = 0 ∧ (wt (P ++ [m]) m.nm).getD wtZ = m ∧ rm (P ++ [m]) m.nm = P) := ⟨d1, d2, d3⟩
          clear hz d1 d2 d3 h0
          go_wp2_with fail
          refine (dropL W w3 p 50 (P ++ [m]) m.nm _ HS3.out (by have := HP.out.1; simp; omega)).mono ?_
          rintro e w4 ⟨rfl, hs, hk⟩
          rw [HD.out.1] at hs ⊢
          rw [if_pos rfl, HD.out.2.1]
          rw [if_pos rfl, HD.out.2.2] at hs
          have HS4 := Lib.hid hs
          have HC4 : Hid (LineAt w4 S2 c 50 P) := HC3.out.kept fun b hb _ => hk b (HK2.out.2 b hb)
          have HO4 : Hid (w4.ownsRow W.heap.size 30 7 (.slice AP n CP) n (flatWt P)) := ownsRow_kept HO3.out fun j hj => hk j (HK2.out.1 j hj)
          have HM4 : Hid (RowB w4 bm m.cells) := HM0.out.1.on hs.2.2 HM0.out.2.1
          clear hs hk HS3 HC3 HO3 HM3 z0 z1 z2 z3 h1
          unfold encWt
          go_upto_region 15 with fail
          obtain ⟨w5, hw5⟩ : ∃ w', w' = w4.alloc (.cells #[.int .u32 m.nm.n, .int .u32 m.nm.m, .int .u64 m.nm.t, .int .u32 m.nm.q, .int .u32 m.node, .int .i64 m.rank, .int .i64 m.size] 30) := ⟨_, rfl⟩
          obtain ⟨by4, hby4⟩ : ∃ b, b = w4.heap.size := ⟨_, rfl⟩
          have hb5 : Below w4.heap.size w4 w5 := by rw [hw5]; exact below_al (Below.refl _ _) _
          have HY5 : Hid (RowB w5 by4 m.cells) := by rw [Hid, hw5, hby4]; exact RowB.new w4 m.cells _
          have HS5 : Hid (St W w5 p 50 P K2 ∧ LineAt w5 S2 c 50 P ∧ w5.ownsRow W.heap.size 30 7 (.slice AP n CP) n (flatWt P)) := ⟨(HS4.out.on hb5).1, HC4.out.on hb5, ownsRow_kept HO4.out fun j hj => hb5.block j (World.ownsRow.lt HO4.out j hj).2⟩
          have HM5 : Hid (RowB w5 bm m.cells) := HM4.out.on hb5 HM4.out.lt
          rw [← hw5, ← hby4]
          clear hw5 hby4 hb5 HS4 HC4 HO4 HM4
          have hy := HY5.out
          have hm := HM5.out
          have y0 := hy.1 0 _ rfl
          have y1 := hy.1 1 _ rfl
          have y2 := hy.1 2 _ rfl
          have y3 := hy.1 3 _ rfl
          have y4 := hy.1 4 _ rfl
          have y5 := hy.1 5 _ rfl
          have y6 := hy.1 6 _ rfl
          have z0 := hm.1 0 _ rfl
          have z1 := hm.1 1 _ rfl
          have z2 := hm.1 2 _ rfl
          have z3 := hm.1 3 _ rfl
          have z4 := hm.1 4 _ rfl
          have z5 := hm.1 5 _ rfl
          have z6 := hm.1 6 _ rfl
          have hne := wtNe_self m
          clear hy hm
          go_wp2_with fail
          refine (num_any 0 w5).mono ?_
          rintro e wq ⟨rfl, hwq⟩
          rw [hwq]
          clear hwq wq
          go_wp2_with fail
          go_meet
          case rel => exact HS5.out
        · rw [if_neg h0] at HS3
          have h1 : (ee == 0) = false := by simpa using h0
          clear h0
          go_wp2_with fail
          go_meet
          case rel => exact ⟨HS3.out, HC3.out, HO3.out⟩
      case rest =>
      clear HS3 HC3 HO3 HM3 HE
      go_wp2_with fail
      refine (num_any 0 wc).mono ?_
      rintro e wq ⟨rfl, hwq⟩
      rw [hwq]
      clear hwq wq
      go_wp2_with fail
      refine (sameL W wc p c 50 P K2 S2 hcut.out.1 hcut.out.2.1 (by have := HP.out.1; omega)).mono ?_
      rintro e w6 ⟨rfl, hs, hk⟩
      have HS6 : Hid (St W w6 p 50 (rest P 2 0) K2 ∧ w6.ownsRow W.heap.size 30 7 (.slice AP n CP) n (flatWt P)) := by
        rw [Hid, rest_start fun x hx => (HP.out.2.1 x hx).2.1.2]
        exact ⟨hs, ownsRow_kept hcut.out.2.2 fun j hj => hk j (HK2.out.1 j hj)⟩
      clear hs hk hcut
      go_wp2_with fail
      go_loopw [13] (fun vr wr => ∃ r : Int, -1 ≤ r ∧ r ≤ 2 ∧ vr = .int .i64 r ∧ Hid (St W wr p 50 (rest P r 0) K2 ∧ wr.ownsRow W.heap.size 30 7 (.slice AP n CP) n (flatWt P))) (fun vr _ => (intOf vr + 1).toNat)
      case atStart => exact ⟨2, by decide, by decide, rfl, HS6.out⟩
      case round =>
        obtain ⟨r, hr1, hr2, rfl, hI⟩ := hrel
        by_cases hr0 : 0 ≤ r
        · go_wp2_with fail
          go_loopw [14] (fun vi wr => ∃ i : Nat, i ≤ n ∧ vi = .int .i64 i ∧ Hid (St W wr p 50 (rest P r i) K2 ∧ wr.ownsRow W.heap.size 30 7 (.slice AP n CP) n (flatWt P))) (fun vi _ => n - (intOf vi).toNat)
          case atStart => exact ⟨0, Nat.zero_le _, rfl, hI.out⟩
          case round =>
            obtain ⟨i, hi, rfl, hJ⟩ := hrel
            by_cases hlt : i < n
            · have hltI : (i : Int) < (n : Int) := by omega
              obtain ⟨x, hx⟩ : ∃ x, P[i]? = some x := ⟨_, List.getElem?_eq_getElem (by have := HN.out; omega)⟩
              obtain ⟨A9, C9, hv9, hrd⟩ := own_rdK hJ.out.2
              have hA9 : AP = A9 := by injection hv9
              have HC9 : Hid (∃ g, AP = some ⟨g, 0, none⟩ ∧ g < wr.heap.size ∧ K2 g ∧ ∀ j u, x.cells[j]? = some u → wr.cell? ⟨g, i * 7 + j, none⟩ = some u) := by
                have hxa : x = atW P i := by unfold atW; rw [hx]; rfl
                have hat : ∀ j, j < 7 → (flatWt P)[i * 7 + j]? = x.cells[j]? := fun j hj => by rw [flatWt_at P i (by have := HN.out; omega) j hj, hxa]
                obtain ⟨g, e, hg, _⟩ := hrd (i * 7 + 0) _ ((hat 0 (by omega)).trans rfl)
                refine ⟨g, hA9.trans e, hg, HK2.out.1 g ?_, fun j u hu => ?_⟩
                · rw [hA9, e]
                  exact rfl
                · have hj : j < 7 := by have := (List.getElem?_eq_some_iff.1 hu).1; simpa [Wt.cells] using this
                  obtain ⟨g', e', _, hc⟩ := hrd (i * 7 + j) u ((hat j hj).trans hu)
                  rw [e] at e'
                  injection e' with e'
                  injection e' with e'
                  rw [e']
                  exact hc
              have HXi := Lib.hid hx
              clear hrd hv9 hA9 hx
              obtain ⟨g, hg0, hg1, hg2, hg3⟩ := HC9.out
              subst hg0
              have x5 : wr.cell? ⟨g, i * 7 + 5, none⟩ = some (.int .i64 x.rank) := hg3 5 _ rfl
              have HG : Hid (g < wr.heap.size ∧ K2 g) := ⟨hg1, hg2⟩
              have HG3 : Hid (∀ X : World, X.heap[g]? = wr.heap[g]? → ∀ j u, x.cells[j]? = some u → X.cell? ⟨g, i * 7 + j, none⟩ = some u) := fun X h j u hu => (World.cell?_of_block (a := ⟨g, i * 7 + j, none⟩) h).trans (hg3 j u hu)
              have hi1 : i + 1 ≤ n := hlt
              have hms : n - (intOf (.int .i64 ((i : Int) + 1))).toNat < n - (intOf (.int .i64 (i : Int))).toNat := by simp only [intOf]; omega
              clear HC9 hg1 hg2 hg3
              by_cases hxr : x.rank = r
              · obtain ⟨f1, f2, f3, f4⟩ := step_first HP.out.2 HXi.out hxr
                have HF : Hid (firstWE (rest P r i) 7 = (x, 0) ∧ dropE (rest P r i) x.nm = 0 ∧ (wt (rest P r i) x.nm).getD wtZ = x ∧ rm (rest P r i) x.nm = rest P r (i + 1)) := ⟨f1, f2, f3, f4⟩
                have HFew : Hid ((rest P r i).length ≤ 100000) := Nat.le_trans (rest_few r i) (by have := HP.out.1; omega)
                have hq : (x.rank != r) = false := by simpa using hxr
                have HXR := Lib.hid hxr
                clear f1 f2 f3 f4 hxr
                go_upto_region 26 with fail
                clear x5 hq
                go_wp2_with fail
                refine (firstL W wr p 50 7 (rest P r i) K2 hJ.out.1 HT.out HFew.out).mono ?_
                rintro e w7 ⟨rfl, hs, hk⟩
                rw [HF.out.1]
                dsimp only [encWt]
                have HS7 : Hid (St W w7 p 50 (rest P r i) K2 ∧ w7.ownsRow W.heap.size 30 7 (.slice (some ⟨g, 0, none⟩) n CP) n (flatWt P) ∧ w7.heap[g]? = wr.heap[g]?) := ⟨hs, ownsRow_kept hJ.out.2 fun j hj => hk j (HK2.out.1 j hj), hk g HG.out.2⟩
                clear hs hk
                go_upto_region 27 with fail
                obtain ⟨w8, hw8⟩ : ∃ w', w' = w7.alloc (.cells #[.int .u32 x.nm.n, .int .u32 x.nm.m, .int .u64 x.nm.t, .int .u32 x.nm.q, .int .u32 x.node, .int .i64 x.rank, .int .i64 x.size] 30) := ⟨_, rfl⟩
                obtain ⟨b15, hb15⟩ : ∃ b, b = w7.heap.size := ⟨_, rfl⟩
                have HY8 : Hid (RowB w8 b15 x.cells) := by rw [Hid, hw8, hb15]; exact RowB.new w7 x.cells _
                have HS8 : Hid (St W w8 p 50 (rest P r i) (fun b => K2 b ∨ b = b15) ∧ w8.ownsRow W.heap.size 30 7 (.slice (some ⟨g, 0, none⟩) n CP) n (flatWt P) ∧ w8.heap[g]? = wr.heap[g]?) := by
                  have hb := HS7.out.1.box (.cells #[.int .u32 x.nm.n, .int .u32 x.nm.m, .int .u64 x.nm.t, .int .u32 x.nm.q, .int .u32 x.node, .int .i64 x.rank, .int .i64 x.size] 30)
                  rw [← hw8, ← hb15] at hb
                  exact ⟨hb.1, ownsRow_kept HS7.out.2.1 fun j hj => hb.2 j (HK2.out.1 j hj), (hb.2 g HG.out.2).trans HS7.out.2.2⟩
                rw [← hw8, ← hb15]
                clear hw8 hb15 HS7 hJ
                have hy := HY8.out
                have y0 := hy.1 0 _ rfl
                have y1 := hy.1 1 _ rfl
                have y2 := hy.1 2 _ rfl
                have y3 := hy.1 3 _ rfl
                clear hy
                go_wp2_with fail
                refine (dropL W w8 p 50 (rest P r i) x.nm _ HS8.out.1 HFew.out).mono ?_
                rintro e w9 ⟨rfl, hs, hk⟩
                rw [HF.out.2.1] at hs ⊢
                rw [if_pos rfl, HF.out.2.2.1]
                rw [if_pos rfl, HF.out.2.2.2] at hs
                have HS9 : Hid (St W w9 p 50 (rest P r (i + 1)) (fun b => K2 b ∨ b = b15) ∧ w9.ownsRow W.heap.size 30 7 (.slice (some ⟨g, 0, none⟩) n CP) n (flatWt P) ∧ w9.heap[g]? = wr.heap[g]?) := ⟨hs, ownsRow_kept HS8.out.2.1 fun j hj => hk j (.inl (HK2.out.1 j hj)), (hk g (.inl HG.out.2)).trans HS8.out.2.2⟩
                have HY9 : Hid (RowB w9 b15 x.cells) := HY8.out.kept (hk b15 (.inr rfl))
                clear hs hk HS8 HY8 y0 y1 y2 y3
                dsimp only [encWt]
                go_upto_region 28 with fail
                obtain ⟨w10, hw10⟩ : ∃ w', w' = w9.alloc (.cells #[.int .u32 x.nm.n, .int .u32 x.nm.m, .int .u64 x.nm.t, .int .u32 x.nm.q, .int .u32 x.node, .int .i64 x.rank, .int .i64 x.size] 30) := ⟨_, rfl⟩
                obtain ⟨b17, hb17⟩ : ∃ b, b = w9.heap.size := ⟨_, rfl⟩
                have hb10 : Below w9.heap.size w9 w10 := by rw [hw10]; exact below_al (Below.refl _ _) _
                have HR17 : Hid (RowB w10 b17 x.cells) := by rw [Hid, hw10, hb17]; exact RowB.new w9 x.cells _
                have HR15 : Hid (RowB w10 b15 x.cells) := HY9.out.on hb10 HY9.out.lt
                have hS10 := (HS9.out.1.on hb10).1
                have HS10 : Hid (St W w10.drew p 50 (rest P r (i + 1)) K2 ∧ w10.drew.ownsRow W.heap.size 30 7 (.slice (some ⟨g, 0, none⟩) n CP) n (flatWt P)) :=
                  ⟨((hS10.on (Below.refl w10.heap.size w10).drew).1).less fun b k => .inl k, ownsRow_kept (ownsRow_kept HS9.out.2.1 fun j hj => hb10.block j (World.ownsRow.lt HS9.out.2.1 j hj).2) fun j hj => rfl⟩
                have HG10 : Hid (∀ j u, x.cells[j]? = some u → w10.cell? ⟨g, i * 7 + j, none⟩ = some u) := HG3.out w10 ((hb10.block g ((HS9.out.1.2.1 g (.inl HG.out.2)))).trans HS9.out.2.2)
                rw [← hw10, ← hb17]
                clear hw10 hb17 hb10 hS10 HS9 HY9
                have hne := wtNe_self x
                obtain ⟨Wd, hWd⟩ : ∃ W, W = w10.drew := ⟨_, rfl⟩
                have HWd := Lib.hid hWd
                have HSd : Hid ((Wd.cell? ⟨b15, 0, none⟩ = some (.int .u32 x.nm.n) ∧ Wd.cell? ⟨b15, 1, none⟩ = some (.int .u32 x.nm.m) ∧ Wd.cell? ⟨b15, 2, none⟩ = some (.int .u64 x.nm.t) ∧ Wd.cell? ⟨b15, 3, none⟩ = some (.int .u32 x.nm.q) ∧ Wd.cell? ⟨b15, 4, none⟩ = some (.int .u32 x.node) ∧ Wd.cell? ⟨b15, 5, none⟩ = some (.int .i64 x.rank) ∧ Wd.cell? ⟨b15, 6, none⟩ = some (.int .i64 x.size)) ∧ (Wd.cell? ⟨b17, 0, none⟩ = some (.int .u32 x.nm.n) ∧ Wd.cell? ⟨b17, 1, none⟩ = some (.int .u32 x.nm.m) ∧ Wd.cell? ⟨b17, 2, none⟩ = some (.int .u64 x.nm.t) ∧ Wd.cell? ⟨b17, 3, none⟩ = some (.int .u32 x.nm.q) ∧ Wd.cell? ⟨b17, 4, none⟩ = some (.int .u32 x.node) ∧ Wd.cell? ⟨b17, 5, none⟩ = some (.int .i64 x.rank) ∧ Wd.cell? ⟨b17, 6, none⟩ = some (.int .i64 x.size)) ∧ (Wd.cell? ⟨g, i * 7, none⟩ = some (.int .u32 x.nm.n) ∧ Wd.cell? ⟨g, i * 7 + 1, none⟩ = some (.int .u32 x.nm.m) ∧ Wd.cell? ⟨g, i * 7 + 2, none⟩ = some (.int .u64 x.nm.t) ∧ Wd.cell? ⟨g, i * 7 + 3, none⟩ = some (.int .u32 x.nm.q) ∧ Wd.cell? ⟨g, i * 7 + 4, none⟩ = some (.int .u32 x.node) ∧ Wd.cell? ⟨g, i * 7 + 5, none⟩ = some (.int .i64 x.rank) ∧ Wd.cell? ⟨g, i * 7 + 6, none⟩ = some (.int .i64 x.size))) := by
                  rw [Hid, hWd]
                  have a := HR15.out
                  have b := HR17.out
                  exact ⟨⟨a.1 0 _ rfl, a.1 1 _ rfl, a.1 2 _ rfl, a.1 3 _ rfl, a.1 4 _ rfl, a.1 5 _ rfl, a.1 6 _ rfl⟩, ⟨b.1 0 _ rfl, b.1 1 _ rfl, b.1 2 _ rfl, b.1 3 _ rfl, b.1 4 _ rfl, b.1 5 _ rfl, b.1 6 _ rfl⟩, ⟨HG10.out 0 _ rfl, HG10.out 1 _ rfl, HG10.out 2 _ rfl, HG10.out 3 _ rfl, HG10.out 4 _ rfl, HG10.out 5 _ rfl, HG10.out 6 _ rfl⟩⟩
                rw [← hWd] at HS10
                clear hWd HR15 HR17 HG10
                refine wp_region_T (fun X => ((X.cell? ⟨b15, 0, none⟩ = some (.int .u32 x.nm.n) ∧ X.cell? ⟨b15, 1, none⟩ = some (.int .u32 x.nm.m) ∧ X.cell? ⟨b15, 2, none⟩ = some (.int .u64 x.nm.t) ∧ X.cell? ⟨b15, 3, none⟩ = some (.int .u32 x.nm.q) ∧ X.cell? ⟨b15, 4, none⟩ = some (.int .u32 x.node) ∧ X.cell? ⟨b15, 5, none⟩ = some (.int .i64 x.rank) ∧ X.cell? ⟨b15, 6, none⟩ = some (.int .i64 x.size)) ∧ (X.cell? ⟨b17, 0, none⟩ = some (.int .u32 x.nm.n) ∧ X.cell? ⟨b17, 1, none⟩ = some (.int .u32 x.nm.m) ∧ X.cell? ⟨b17, 2, none⟩ = some (.int .u64 x.nm.t) ∧ X.cell? ⟨b17, 3, none⟩ = some (.int .u32 x.nm.q) ∧ X.cell? ⟨b17, 4, none⟩ = some (.int .u32 x.node) ∧ X.cell? ⟨b17, 5, none⟩ = some (.int .i64 x.rank) ∧ X.cell? ⟨b17, 6, none⟩ = some (.int .i64 x.size)) ∧ (X.cell? ⟨g, i * 7, none⟩ = some (.int .u32 x.nm.n) ∧ X.cell? ⟨g, i * 7 + 1, none⟩ = some (.int .u32 x.nm.m) ∧ X.cell? ⟨g, i * 7 + 2, none⟩ = some (.int .u64 x.nm.t) ∧ X.cell? ⟨g, i * 7 + 3, none⟩ = some (.int .u32 x.nm.q) ∧ X.cell? ⟨g, i * 7 + 4, none⟩ = some (.int .u32 x.node) ∧ X.cell? ⟨g, i * 7 + 5, none⟩ = some (.int .i64 x.rank) ∧ X.cell? ⟨g, i * 7 + 6, none⟩ = some (.int .i64 x.size)))) 19 (by kernel_rfl) ?_
                rw [← HWd.out]
                refine wpAnyT_take (i := 0) (v := ?_) rfl (by kernel_rfl) (by kernel_rfl) (by kernel_rfl) (by kernel_rfl) (fun _ _ _ h => h) (Or.inl ⟨by rfl, ?_⟩) HSd.out ?_
                rotate_left
                · intro w hSw
                  (try dsimp only at hSw)
                  go_simp
                  all_goals with_reducible rfl
                simp only [Act.put, List.setIfInBounds_toArray, List.set_cons_zero, List.set_cons_succ]
                refine wpAnyT_take (i := 2) (v := ?_) rfl (by kernel_rfl) (by kernel_rfl) (by kernel_rfl) (by kernel_rfl) (fun _ _ _ h => h) (Or.inl ⟨by rfl, ?_⟩) HSd.out ?_
                rotate_left
                · intro w hSw
                  (try dsimp only at hSw)
                  go_simp
                  all_goals with_reducible rfl
                simp only [Act.put, List.setIfInBounds_toArray, List.set_cons_zero, List.set_cons_succ]
                refine wpAnyT_one (i := 1) (by kernel_rfl) rfl (fun K hK => ?_)
                go_simp
                refine (num_any _ Wd).mono ?_
                rintro e wq ⟨rfl, hwq⟩
                rw [hwq]
                clear hwq wq
                refine hK.out _ _ (fun _ => HSd.out) ?_
                clear hK K
                try simp only [Act.put, List.setIfInBounds_toArray, List.set_cons_zero, List.set_cons_succ]
                refine wpAnyT_one (i := 3) (by kernel_rfl) rfl (fun K hK => ?_)
                go_simp
                refine (num_any _ Wd).mono ?_
                rintro e wq ⟨rfl, hwq⟩
                rw [hwq]
                clear hwq wq
                refine hK.out _ _ (fun _ => HSd.out) ?_
                clear hK K
                try simp only [Act.put, List.setIfInBounds_toArray, List.set_cons_zero, List.set_cons_succ]
                refine wpAnyT_take (i := 4) (v := ?_) rfl (by kernel_rfl) (by kernel_rfl) (by kernel_rfl) (by kernel_rfl) (fun _ _ _ h => h) (Or.inl ⟨by rfl, ?_⟩) HSd.out ?_
                rotate_left
                · intro w hSw
                  (try dsimp only at hSw)
                  go_simp
                  all_goals with_reducible rfl
                simp only [Act.put, List.setIfInBounds_toArray, List.set_cons_zero, List.set_cons_succ]
                refine wpAnyT_take (i := 5) (v := ?_) rfl (by kernel_rfl) (by kernel_rfl) (by kernel_rfl) (by kernel_rfl) (fun _ _ _ h => h) (Or.inl ⟨by rfl, ?_⟩) HSd.out ?_
                rotate_left
                · intro w hSw
                  (try dsimp only at hSw)
                  go_simp
                  all_goals with_reducible rfl
                simp only [Act.put, List.setIfInBounds_toArray, List.set_cons_zero, List.set_cons_succ]
                refine wpAnyT_take (i := 6) (v := ?_) rfl (by kernel_rfl) (by kernel_rfl) (by kernel_rfl) (by kernel_rfl) (fun _ _ _ h => h) (Or.inl ⟨by rfl, ?_⟩) HSd.out ?_
                rotate_left
                · intro w hSw
                  (try dsimp only at hSw)
                  go_simp
                  all_goals with_reducible rfl
                simp only [Act.put, List.setIfInBounds_toArray, List.set_cons_zero, List.set_cons_succ]
                refine wpAnyT_take (i := 7) (v := ?_) rfl (by kernel_rfl) (by kernel_rfl) (by kernel_rfl) (by kernel_rfl) (fun _ _ _ h => h) (Or.inl ⟨by rfl, ?_⟩) HSd.out ?_
                rotate_left
                · intro w hSw
                  (try dsimp only at hSw)
                  go_simp
                  all_goals with_reducible rfl
                simp only [Act.put, List.setIfInBounds_toArray, List.set_cons_zero, List.set_cons_succ]
                refine wpAnyT_take (i := 8) (v := ?_) rfl (by kernel_rfl) (by kernel_rfl) (by kernel_rfl) (by kernel_rfl) (fun _ _ _ h => h) (Or.inl ⟨by rfl, ?_⟩) HSd.out ?_
                rotate_left
                · intro w hSw
                  (try dsimp only at hSw)
                  go_simp
                  all_goals with_reducible rfl
                simp only [Act.put, List.setIfInBounds_toArray, List.set_cons_zero, List.set_cons_succ]
                refine wpAnyT_take (i := 9) (v := ?_) rfl (by kernel_rfl) (by kernel_rfl) (by kernel_rfl) (by kernel_rfl) (fun _ _ _ h => h) (Or.inl ⟨by rfl, ?_⟩) HSd.out ?_
                rotate_left
                · intro w hSw
                  (try dsimp only at hSw)
                  go_simp
                  all_goals with_reducible rfl
                simp only [Act.put, List.setIfInBounds_toArray, List.set_cons_zero, List.set_cons_succ]
                refine wpAnyT_take (i := 10) (v := ?_) rfl (by kernel_rfl) (by kernel_rfl) (by kernel_rfl) (by kernel_rfl) (fun _ _ _ h => h) (Or.inl ⟨by rfl, ?_⟩) HSd.out ?_
                rotate_left
                · intro w hSw
                  (try dsimp only at hSw)
                  go_simp
                  all_goals with_reducible rfl
                simp only [Act.put, List.setIfInBounds_toArray, List.set_cons_zero, List.set_cons_succ]
                refine wpAnyT_take (i := 11) (v := ?_) rfl (by kernel_rfl) (by kernel_rfl) (by kernel_rfl) (by kernel_rfl) (fun _ _ _ h => h) (Or.inl ⟨by rfl, ?_⟩) HSd.out ?_
                rotate_left
                · intro w hSw
                  (try dsimp only at hSw)
                  go_simp
                  all_goals with_reducible rfl
                simp only [Act.put, List.setIfInBounds_toArray, List.set_cons_zero, List.set_cons_succ]
                refine wpAnyT_take (i := 12) (v := ?_) rfl (by kernel_rfl) (by kernel_rfl) (by kernel_rfl) (by kernel_rfl) (fun _ _ _ h => h) (Or.inl ⟨by rfl, ?_⟩) HSd.out ?_
                rotate_left
                · intro w hSw
                  (try dsimp only at hSw)
                  go_simp
                  all_goals with_reducible rfl
                simp only [Act.put, List.setIfInBounds_toArray, List.set_cons_zero, List.set_cons_succ]
                refine wpAnyT_take (i := 13) (v := ?_) rfl (by kernel_rfl) (by kernel_rfl) (by kernel_rfl) (by kernel_rfl) (fun _ _ _ h => h) (Or.inl ⟨by rfl, ?_⟩) HSd.out ?_
                rotate_left
                · intro w hSw
                  (try dsimp only at hSw)
                  go_simp
                  all_goals with_reducible rfl
                simp only [Act.put, List.setIfInBounds_toArray, List.set_cons_zero, List.set_cons_succ]
                refine wpAnyT_take (i := 14) (v := ?_) rfl (by kernel_rfl) (by kernel_rfl) (by kernel_rfl) (by kernel_rfl) (fun _ _ _ h => h) (Or.inl ⟨by rfl, ?_⟩) HSd.out ?_
                rotate_left
                · intro w hSw
                  (try dsimp only at hSw)
                  go_simp
                  all_goals with_reducible rfl
                simp only [Act.put, List.setIfInBounds_toArray, List.set_cons_zero, List.set_cons_succ]
                refine wpAnyT_take (i := 15) (v := ?_) rfl (by kernel_rfl) (by kernel_rfl) (by kernel_rfl) (by kernel_rfl) (fun _ _ _ h => h) (Or.inl ⟨by rfl, ?_⟩) HSd.out ?_
                rotate_left
                · intro w hSw
                  (try dsimp only at hSw)
                  go_simp
                  all_goals with_reducible rfl
                simp only [Act.put, List.setIfInBounds_toArray, List.set_cons_zero, List.set_cons_succ]
                refine wpAnyT_take (i := 16) (v := ?_) rfl (by kernel_rfl) (by kernel_rfl) (by kernel_rfl) (by kernel_rfl) (fun _ _ _ h => h) (Or.inl ⟨by rfl, ?_⟩) HSd.out ?_
                rotate_left
                · intro w hSw
                  (try dsimp only at hSw)
                  go_simp
                  all_goals with_reducible rfl
                simp only [Act.put, List.setIfInBounds_toArray, List.set_cons_zero, List.set_cons_succ]
                refine wpAnyT_take (i := 17) (v := ?_) rfl (by kernel_rfl) (by kernel_rfl) (by kernel_rfl) (by kernel_rfl) (fun _ _ _ h => h) (Or.inl ⟨by rfl, ?_⟩) HSd.out ?_
                rotate_left
                · intro w hSw
                  (try dsimp only at hSw)
                  go_simp
                  all_goals with_reducible rfl
                simp only [Act.put, List.setIfInBounds_toArray, List.set_cons_zero, List.set_cons_succ]
                refine wpAnyT_take (i := 18) (v := ?_) rfl (by kernel_rfl) (by kernel_rfl) (by kernel_rfl) (by kernel_rfl) (fun _ _ _ h => h) (Or.inl ⟨by rfl, ?_⟩) HSd.out ?_
                rotate_left
                · intro w hSw
                  (try dsimp only at hSw)
                  go_simp
                  all_goals with_reducible rfl
                simp only [Act.put, List.setIfInBounds_toArray, List.set_cons_zero, List.set_cons_succ]
                refine wpAnyT_done (by kernel_rfl) ?_ _
                clear HSd hne
                go_wp2_with fail
                go_roundw
                case rel => exact ⟨i + 1, hi1, rfl, HS10.out⟩
                case measure => exact hms
              · have hq : (x.rank != r) = true := by simpa using hxr
                have HJ2 : Hid (St W wr p 50 (rest P r (i + 1)) K2 ∧ wr.ownsRow W.heap.size 30 7 (.slice (some ⟨g, 0, none⟩) n CP) n (flatWt P)) := by
                  rw [Hid, rest_skip HXi.out hxr]
                  exact hJ.out
                clear hxr hlt
                go_wp2_with fail
                go_roundw
                case rel => exact ⟨i + 1, hi1, rfl, HJ2.out⟩
                case measure => exact hms
            · obtain rfl : i = n := by omega
              have HI2 : Hid (St W wr p 50 (rest P (r - 1) 0) K2 ∧ wr.ownsRow W.heap.size 30 7 (.slice AP i CP) i (flatWt P)) := by
                have h := hJ.out
                rw [HN.out, rest_next] at h
                rw [Hid, HN.out]
                exact h
              have hltI : ¬ (i : Int) < (i : Int) := by omega
              clear hJ hlt
              go_wp2_with fail
              go_roundw
              case rel => exact ⟨r - 1, by omega, by omega, by go_num, HI2.out⟩
              case measure => simp [intOf]; omega
        · obtain rfl : r = -1 := by omega
          have hr3 : ¬ (0 : Int) ≤ -1 := by omega
          clear hr0
          go_wp2_with fail
          refine (firstL W wr p 50 7 (rest P (-1) 0) K2 hI.out.1 HT.out (Nat.le_trans (rest_few (-1) 0) (by have := HP.out.1; omega))).mono ?_
          rintro e w7 ⟨rfl, hs, hk⟩
          rw [first_none HP.out.2]
          have HS7 := Lib.hid hs
          clear hs hk hI
          dsimp only [encWt]
          go_wp2_with fail
          obtain ⟨w8, hw8⟩ : ∃ w', w' = w7.alloc (.cells #[.int .u32 wtZ.nm.n, .int .u32 wtZ.nm.m, .int .u64 wtZ.nm.t, .int .u32 wtZ.nm.q, .int .u32 wtZ.node, .int .i64 wtZ.rank, .int .i64 wtZ.size] 30) := ⟨_, rfl⟩
          have HB8 : Hid (Below W.heap.size W w8) := by
            rw [Hid, hw8]
            exact (HS7.out.on (below_al (Below.refl _ _) _)).1.2.2
          rw [← hw8]
          clear hw8
          refine (num_any 5 w8).mono ?_
          rintro e wq ⟨rfl, hwq⟩
          rw [hwq]
          clear hwq wq
          go_wp2_with fail
          refine (works_any w8 (HT.out.on HB8.out)).mono ?_
          rintro e w9 ⟨rfl, hb⟩
          have HB9 : Hid (Below w.heap.size w w9) := below_on HB0.out (below_on HB8.out hb)
          clear hb
          go_wp2_with fail
          go_ret
          exact ⟨rfl, HB9.out⟩

theorem walk_rholdsE (A : Option Addr) (C : Nat) (l : List Wt) (m : Wt) (w : World) (hlen : 40 < l.length) (hT : TabR w) :
    Calls Tryd.prog 3 #[.slice A l.length C, .agg #[.int .u32 m.nm.n, .int .u32 m.nm.m, .int .u64 m.nm.t, .int .u32 m.nm.q, .int .u32 m.node, .int .i64 m.rank, .int .i64 m.size]] w fun e w' => e = .returned (.bool true) ∧ Below w.heap.size w w' := by
  obtain ⟨W, hW⟩ : ∃ W, W = w.alloc (.cells #[.int .u32 m.nm.n, .int .u32 m.nm.m, .int .u64 m.nm.t, .int .u32 m.nm.q, .int .u32 m.node, .int .i64 m.rank, .int .i64 m.size] 30) := ⟨_, rfl⟩
  have HB0 : Hid (Below w.heap.size w W) := by rw [hW]; exact below_al (Below.refl _ _) _
  have HT : Hid (TabR W) := hT.on HB0.out
  have HW := Lib.hid hW
  have hgt : (40 : Int) < (l.length : Int) := by omega
  clear hT hW hlen
  go_enter Tryd.func3, Tryd.ntmps3
  go_wp2_with fail
  rw [← HW.out]
  refine (works_any W HT.out).mono ?_
  rintro e w9 ⟨rfl, hb⟩
  have HB9 : Hid (Below w.heap.size w w9) := below_on HB0.out hb
  clear hb
  go_wp2_with fail
  go_ret
  exact ⟨rfl, HB9.out⟩
theorem walk_rh (A : Option Addr) (C : Nat) (l : List Wt) (m : Wt) (w : World) (hr : RdV w A (flatWt l)) (hT : TabR w) :
    Calls Tryd.prog 3 #[.slice A l.length C, .agg #[.int .u32 m.nm.n, .int .u32 m.nm.m, .int .u64 m.nm.t, .int .u32 m.nm.q, .int .u32 m.node, .int .i64 m.rank, .int .i64 m.size]] w fun e w' => e = .returned (.bool true) ∧ Below w.heap.size w w' := by
  by_cases h : 40 < l.length
  · exact walk_rholdsE A C l m w h hT
  · exact walk_rholds A C l m w (by omega) hr hT

end Go.Proofs.YthfndphngeaihaaDoor
