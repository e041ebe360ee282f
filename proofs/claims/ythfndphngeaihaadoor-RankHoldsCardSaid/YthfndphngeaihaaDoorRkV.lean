/- AppendSeq, Collect of numbers that come in no known order. -/
import Derived.Test.YthfndphngeaihaaDoorRkU
namespace Go.Proofs.YthfndphngeaihaaDoor
open Go Go.RowKit Go.Shelf
open Go.ChangeMaps (setBlock)
set_option linter.unusedSimpArgs false
set_option linter.unusedVariables false
set_option linter.unusedSectionVars false
set_option maxRecDepth 100000

attribute [local go_sem] Oper.semAt_some

set_option maxHeartbeats 8000000 in
theorem uappendSeqR_any (gf : Nat) (lb : Array Value) (S : Nat → Prop) (l : List (Int × Value)) (w : World) (eg : ∀ args w, (callFunc gf args).run Tryd.prog w = .ok (.enter gf args) w)
    (hgo : ∀ X, Below w.heap.size w X → GoesR Tryd.prog gf lb stepK (fun t => t = []) S l X) (hS : ∀ b, S b → b < w.heap.size) (hlen : l.length ≤ 1000000) :
    Calls Tryd.prog 68 #[.slice none 0 0, .func (.func gf) #[] lb] w fun e w' => ∃ v, e = .returned v ∧ (∃ ks : List Int, w'.ownsRow w.heap.size 23 1 v ks.length (flatU ks) ∧ ks.Perm (l.map (·.1))) ∧ Below w.heap.size w w' := by
  obtain ⟨bs, hbs⟩ : ∃ b, b = w.heap.size := ⟨_, rfl⟩
  obtain ⟨W, hW⟩ : ∃ W, W = w.alloc (.cells #[.slice none 0 0] 77) := ⟨_, rfl⟩
  have HB0 : Hid (Below w.heap.size w W) := by rw [hW]; exact below_al (Below.refl _ _) _
  have HZ0 : Hid (W.heap.size = bs + 1 ∧ bs = w.heap.size) := ⟨by rw [hW, hbs]; simp, hbs⟩
  have HX0 : Hid (RowB W bs [.slice none 0 0]) := by
    rw [Hid, hW, hbs]
    exact RowB.new w _ _
  have HGo := Lib.hid (hgo W HB0.out)
  have HSb := Lib.hid hS
  have HLe := Lib.hid hlen
  have HW := Lib.hid hW
  clear hgo hS hlen hW
  refine calls_of_marks Tryd.func68 rfl ?_
  simp only [Tryd.ntmps68, List.size_toArray, List.length_cons, List.length_nil, Nat.reduceAdd, Nat.reduceSub, Array.replicate_succ, Array.replicate_zero, List.push_toArray, List.append_toArray, List.nil_append, List.cons_append]
  go_wp2_with fail
  rw [← HW.out, ← hbs]
  clear hbs
  have hsb : ∀ b, S b → b < W.heap.size := fun b hb => by have := HSb.out b hb; have := HZ0.out; omega
  have hIo : OwnFrom W.heap.size (fun (k : List (Int × Value)) X => (∃ v, RowB X bs [v] ∧ ∃ ks : List Int, X.ownsRow W.heap.size 23 1 v ks.length (flatU ks) ∧ (ks ++ k.map (·.1)).Perm (l.map (·.1))) ∧ Below w.heap.size w X ∧ W.heap.size ≤ X.heap.size) :=
    OwnFrom.and (fun s X Y row h hg hr => by
      obtain ⟨v, h1, ks, h2, h3⟩ := h
      exact ⟨v, h1.ownk hg (fun r e => (hr r e).2), ks, ownsRow_own h2 hg (fun r e => (hr r e).2), h3⟩) (OwnFrom.and (ownFrom_below (Nat.le_refl _) (by have := HB0.out.size; omega)) (fun _ _ _ _ h hg _ => Nat.le_trans h hg.size))
  have hMo : OwnM W.heap.size (fun X b => ∃ v, RowB X bs [v] ∧ v.ownBlock = some b) := fun X Y row hz hg hr b hm => by
    obtain ⟨v, h1, h2⟩ := hm
    refine ⟨v, h1.kept (hg.block bs (by have := HZ0.out; omega) fun e => ?_).symm, h2⟩
    have := (hr bs e.symm).1
    have := HZ0.out
    omega
  refine wp_rangeGoesR (gf := gf) (lb := lb) rfl eg HGo.out hsb (fun s v s' h => by obtain ⟨_, _, _, _, _, rfl, _⟩ := h; rfl)
    (fun X b => ∃ v, RowB X bs [v] ∧ v.ownBlock = some b) hMo
    (fun k X => (∃ v, RowB X bs [v] ∧ ∃ ks : List Int, X.ownsRow W.heap.size 23 1 v ks.length (flatU ks) ∧ (ks ++ k.map (·.1)).Perm (l.map (·.1))) ∧ Below w.heap.size w X ∧ W.heap.size ≤ X.heap.size)
    (fun k X h b hm => by
      obtain ⟨⟨v, h1, ks, h2, _⟩, h3, h4⟩ := h
      obtain ⟨v', k1, k2⟩ := hm
      have e := (h1.1 0 _ rfl).symm.trans (k1.1 0 _ rfl)
      injection e with e
      subst e
      exact (World.ownsRow.lt h2 b k2).2)
    (fun _ _ _ => False) hIo (fun _ _ _ _ _ h _ _ => h.elim) ⟨⟨_, HX0.out, [], ⟨by simp [flatU], .inl ⟨rfl, by simp⟩⟩, by simp⟩, HB0.out, Nat.le_refl _⟩
    (fun k v k' a' X => ∃ y : Int, v = #[.int .u32 y] ∧ a' = { tmps := #[.slice none 0 0, .func (.func gf) #[] lb, .pointer (some ⟨bs, 0, none⟩), undef, .slice none 0 0, .int .u32 y, .func (.func gf) #[] lb, .int .u32 y, undef, undef, undef, undef, undef], defers := [] })
    (fun k v k' a' s X Y row hs hg hr => hs) ?assign ?body ?done ?stop
  case assign =>
    rintro ll k _ k' X K ⟨pre, post, y, u, rfl, rfl, rfl⟩ hI hK
    have HI := Lib.hid hI
    have HKk := Lib.hid hK
    clear hI hK
    gi_wp2
    exact HKk.out _ _ ((KeepsOthers.refl _).from _) (fun b hb => rfl) (fun b hm => hm) HI.out ⟨y, rfl, rfl⟩
  case body =>
    rintro ll k _ k' a' X ⟨pre, post, y, u, rfl, rfl, rfl⟩ hl _ ⟨⟨v, h1, ks, h2, hp⟩, h3, h4⟩ ⟨y', hy', rfl⟩
    obtain rfl : y = y' := by simpa using hy'
    clear hy'
    have hle := HLe.out
    have hkl0 : ks.length < l.length := by
      have := hp.length_eq
      simp at this
      omega
    have hp2 : ((ks ++ [y]) ++ (pre ++ post).map (·.1)).Perm (l.map (·.1)) := by
      refine List.Perm.trans ?_ hp
      rw [List.append_assoc]
      refine List.Perm.append_left ks ?_
      simp only [List.map_append, List.map_cons, List.singleton_append]
      exact List.perm_middle.symm
    have HP := Lib.hid hp2
    clear hp hp2
    obtain ⟨v', X', hrun, ho', hg', hv'⟩ := uapp X W.heap.size v ks y h2 h4 (by omega)
    have hkn : ks.length + 1 = (ks ++ [y]).length := by simp
    rw [hkn] at ho'
    obtain ⟨A2, C2, hv2⟩ := own_form ho'
    obtain ⟨N2, hN2⟩ : ∃ n, n = (ks ++ [y]).length := ⟨_, rfl⟩
    have HN2 := Lib.hid hN2
    rw [← hN2] at hv2
    subst hv2
    clear hN2
    have HX := Lib.hid (And.intro h1 (And.intro h2 (And.intro h3 h4)))
    have HO := Lib.hid ho'
    have HG := Lib.hid hg'
    have HV := Lib.hid hv'
    have HRUN := Lib.hid hrun
    have HKs : Hid (∀ j, j < X.heap.size → v.ownBlock ≠ some j → X'.heap[j]? = X.heap[j]?) := fun j hj hne => (hg'.block j (by simp; omega) (fun e => hne e.symm)).trans (Below.heap_alloc X _ j hj)
    have HNe : Hid (v.ownBlock ≠ some bs) := fun e => by
      have := (World.ownsRow.lt h2 bs e).1
      have := HZ0.out
      omega
    have hbl := h1.lt
    have HR' : Hid (RowB X' bs [v]) := h1.kept (HKs.out bs hbl HNe.out)
    have u0 := h1.1 0 _ rfl
    have v0 := HR'.out.1 0 _ rfl
    have v1 := HR'.out.2 0
    clear h1 h2 h3 h4 ho' hg' hv' hrun hkn hbl
    gi_wp2_with (gi_at_builtin; refine wpListIn_run6 rfl _ _ _ _ rfl _ _ _ _ rfl rfl HRUN.out ?_)
    obtain ⟨Y, hY⟩ : ∃ Y, Y = X'.setCell ⟨bs, 0, none⟩ (.slice A2 N2 C2) := ⟨_, rfl⟩
    rw [← hY]
    have hk' : ∀ b, b ≠ bs → Y.heap[b]? = X'.heap[b]? := fun b e => by rw [hY, Below.heap_setCell _ _ _ _ e]
    have hz : Y.heap.size = X'.heap.size := by rw [hY, World.size_setCell]
    obtain ⟨p1, p2, p3, p4⟩ := HX.out
    have hz0 := HZ0.out
    have hgs := HG.out.size
    rw [World.size_alloc] at hgs
    have hno : ∀ b, SinceM S (W.heap.size + 2) (fun X b => ∃ v, RowB X bs [v] ∧ v.ownBlock = some b) X b → b ≠ bs ∧ b < X.heap.size ∧ v.ownBlock ≠ some b := by
      intro b hb
      rcases hb with hb | ⟨hb, ho, hm⟩
      · have h1 := HSb.out b hb
        exact ⟨by omega, by omega, fun e => by have := (World.ownsRow.lt p2 b e).1; omega⟩
      · exact ⟨by omega, ho, fun e => hm ⟨v, p1, e⟩⟩
    have HO' : Hid (Y.ownsRow W.heap.size 23 1 (.slice A2 N2 C2) (ks ++ [y]).length (flatU (ks ++ [y]))) := ownsRow_kept HO.out fun j hj => hk' j (by have := (World.ownsRow.lt HO.out j hj).1; omega)
    refine ⟨⟨by omega, fun b o hb ho hc => ?_⟩, ⟨fun b hb => ?_, fun b hb hm => ?_⟩, ⟨_, ?_, ks ++ [y], HO'.out, HP.out⟩, ?_, by omega⟩
    · have hbl := (Array.getElem?_eq_some_iff.1 ho).1
      refine (hk' b (by omega)).trans ((HKs.out b hbl fun e => ?_).trans ho)
      exact own_row_ne p2 ⟨o, ho, hc⟩ e
    · obtain ⟨n1, n2, n3⟩ := hno b hb
      exact (hk' b n1).trans (HKs.out b n2 n3)
    · obtain ⟨v3, k1, k2⟩ := hm
      have hrY : RowB Y bs [.slice A2 N2 C2] := by rw [hY]; exact HR'.out.set 0 _
      have e := (k1.1 0 _ rfl).symm.trans (hrY.1 0 _ rfl)
      injection e with e
      subst e
      rcases HV.out with h | h
      · exact ⟨v, p1, h ▸ k2⟩
      · rw [h] at k2
        injection k2 with k2
        omega
    · rw [hY]
      exact HR'.out.set 0 _
    · have hb : Below w.heap.size w X' := (below_al p3 _).grown HG.out (by rw [World.size_alloc]; omega) (fun r e => by have := (World.ownsRow.lt p2 r e).1; omega)
      have hb : ButS w.heap.size (fun b => False) w Y := by
        rw [hY]
        exact (ButS.of_below hb).set (.inr (by omega)) 0 _
      exact hb.below (Nat.le_refl _) fun k h => h.elim
  case done =>
    rintro D9 _ X hD rfl ⟨⟨v, h1, ks, h2, hp⟩, h3, h4⟩ hK
    have HP : Hid (ks.Perm (l.map (·.1))) := by simpa [Hid] using hp
    clear hp
    have HX := Lib.hid (And.intro h1 (And.intro h2 (And.intro h3 h4)))
    have HK := Lib.hid hK
    have u0 := h1.1 0 _ rfl
    clear h1 h2 h3 h4 hK
    go_wp2_with fail
    obtain ⟨p1, p2, p3, p4⟩ := HX.out
    have hz0 := HZ0.out
    have hD' := HK.out
    refine marks_one HK.out (results_tmp rfl _ _ _) ⟨v, rfl, ⟨ks, ?_, HP.out⟩, below_put p3 (by omega) _⟩
    exact own_base (ownsRow_kept p2 fun j hj => World.putObj_heap_other (by
      rintro rfl
      exact own_row_ne p2 ⟨_, HK.out, rfl⟩ hj)) (by omega)
  case stop =>
    rintro D9 c k X hD h hK
    exact h.elim

theorem ucollectR_any (gf : Nat) (lb : Array Value) (S : Nat → Prop) (l : List (Int × Value)) (w : World) (eg : ∀ args w, (callFunc gf args).run Tryd.prog w = .ok (.enter gf args) w)
    (hgo : ∀ X, Below w.heap.size w X → GoesR Tryd.prog gf lb stepK (fun t => t = []) S l X) (hS : ∀ b, S b → b < w.heap.size) (hlen : l.length ≤ 1000000) :
    Calls Tryd.prog 62 #[.func (.func gf) #[] lb] w fun e w' => ∃ v, e = .returned v ∧ (∃ ks : List Int, w'.ownsRow w.heap.size 23 1 v ks.length (flatU ks) ∧ ks.Perm (l.map (·.1))) ∧ Below w.heap.size w w' := by
  go_enter Tryd.func62, Tryd.ntmps62
  go_wp2_with fail
  refine (uappendSeqR_any gf lb S l w eg hgo hS hlen).mono ?_
  rintro e w' ⟨v, rfl, ⟨ks, h1, h2⟩, h3⟩
  have H1 := Lib.hid h1
  have H2 := Lib.hid h2
  have H3 := Lib.hid h3
  clear h1 h2 h3 hgo
  go_wp2_with fail
  go_ret
  exact ⟨v, rfl, ⟨ks, H1.out, H2.out⟩, H3.out⟩

end Go.Proofs.YthfndphngeaihaaDoor
