/- RankHolds holds: taken out by First one by one, the names of each queue come in the order in which they were put, the greater rank ahead, and Put and Drop leave the line as it was, for all names put to one neighbour and any one more. No condition. The card: the listed table tied to the program's text. -/
import Derived.Test.YthfndphngeaihaaDoorRkZg
import Derived.Test.YthfndphngeaihaaDoorRkOp
import Derived.Test.YthfndphngeaihaaDoorRkW
import Derived.SevenTiedAt
namespace Go.Proofs.YthfndphngeaihaaDoor.lawRankHolds
open Go Go.ChangeShapes Go.WideShapes Go.ChangeAt Go.RowKit
set_option linter.unusedVariables false
set_option maxRecDepth 100000

theorem lifted (os : Os) (started : os.Started) (H : Type) (enc : TypeId × Value → H) :
    ReturnsInHanded {} Tryd.checked os 3 .any (fun w args => (Rows.rankHoldsSpec.pre enc Tryd.prog Tryd.f3 [] false w args ∧ laidMetH Tryd.prog laidList w) ∧ sizedMet enc Tryd.prog Tryd.f3 (OpenSpec.ofChange Rows.rankHoldsSpec) false w args)
      (Rows.rankHoldsSpec.post enc Tryd.prog Tryd.f3 false true false false) := by
  refine returnsInHanded_of_change_and (C := Tryd.checked) (X := fun w _ => laidMetH Tryd.prog laidList w) (fun _ _ _ hh h => h.of_heap hh) cbOwn started (by kernel_rfl) Tryd.func3
    (ChangeSpec.witness_shaped (enc := enc) (C := Tryd.checked) (os := os) (X := fun w _ => laidMetH Tryd.prog laidList w) false (World.doorLaid Tryd.prog 19 os) #[.slice none 0 0, .agg #[.int .u32 0, .int .u32 0, .int .u64 0, .int .u32 0, .int .u32 0, .int .i64 0, .int .i64 0]] 8 rfl (World.shaped_of_RefB (by kernel_rfl) (by kernel_rfl)) (by kernel_rfl) (by kernel_rfl) (by kernel_rfl) (door_met os _)) ?_
  intro W base args ds gs before hval0 hW _ hsz0 hL _
  have hsz : (DataW.weightsEach Tryd.prog (Tryd.f3.params.toList ++ Rows.rankHoldsSpec.plain.varTypes Tryd.prog) (ds ++ gs)).all (· ≤ reachBytes) = true := hsz0
  clear hsz0
  have hval : ∀ (j : Nat) t v, Tryd.f3.params[j]? = some t → args[j]? = some v → Value.okWide Tryd.prog W .any base t v := hval0
  have hW' := hW
  obtain ⟨p, q, hA0, hV, rfl, _, _⟩ := hW
  have hA : DataW.TrodAll enc Tryd.prog W 0 (fun _ => true) true Tryd.f3.params.toList args.toList ds p := hA0
  rw [Tryd.params3] at hA hval hsz
  obtain ⟨v0, v1, d0, d1, p0, p1, rfl, rfl, rfl, h0, h1⟩ := trodAll_two hA
  obtain ⟨rfl, rfl⟩ := trodVars_none hV
  clear hA0 hval0
  have hlt : ∀ x ∈ p0 ++ p1, x.block < W.heap.size := fun x hx => hW'.lt x (List.mem_append_left _ hx)
  have hlt0 : ∀ x ∈ p0, x.block < W.heap.size := fun x hx => hlt x (List.mem_append_left _ hx)
  have hlt1 : ∀ x ∈ p1, x.block < W.heap.size := fun x hx => hlt x (List.mem_append_right _ hx)
  obtain ⟨a, c, l, rfl, hr⟩ := open_waits (hval 0 22 v0 rfl rfl) h0
  obtain ⟨m, rfl⟩ := open_wait (hval 1 30 v1 rfl rfl) h1
  refine (walk_rh a c l m W hr (of_laid hL)).mono fun e W' ⟨he, bel⟩ => ?_
  subst he
  exact ⟨_, rfl, _, _, _, [], _, [], hW', trodAll_mk1 (shut_bool Tryd.underlying4 _), trodAll_mk2 (Below.trod lawLaid (by kernel_rfl) (of_decide_eq_true (by kernel_rfl)) h0 bel hlt0) (Below.trod lawLaid (by kernel_rfl) (of_decide_eq_true (by kernel_rfl)) h1 bel hlt1), rfl, bel.frame _, fun h => by cases h⟩

theorem fact1 : (Rows.rankHoldsRow.inPlace == Program.inPlace Tryd.pinned.checked.prog 3) = true := by kernel_rfl

theorem fact2 : (Rows.rankHoldsRow.unfollowed == Program.unfollowed Tryd.pinned.checked.prog 3) = true := by kernel_rfl

theorem fact3 : (Rows.rankHoldsRow.recurses == Program.recurses Tryd.pinned.checked.prog 3) = true := by kernel_rfl

theorem fact4 : (Rows.rankHoldsRow.named == Program.varsNamed Tryd.pinned.checked.prog 3) = true := by kernel_rfl

theorem fact5 : Tryd.pinned.checked.prog.funcNamed Rows.rankHoldsRow.func = some 3 := by kernel_rfl

theorem facts : joinedFacts Tryd.pinned.checked.prog 3 Tryd.f3 Rows.rankHoldsSpec Rows.rankHoldsRow = true := by
  unfold joinedFacts
  rw [fact1, fact2, fact3, fact4]
  kernel_rfl

theorem row : Rows.RankHoldsSaid :=
  OpenClaim.holds_of_wide 3 Tryd.f3 rfl rfl rfl rfl rfl rfl rfl ⟨rfl, rfl, rfl, rfl, rfl⟩ rfl rfl rfl rfl rfl fact5 Tryd.func3 facts
    (of_decide_eq_true (by kernel_rfl)) (by unfold Func.isWrapper; first | (rw [if_pos (by decide +kernel)]; kernel_rfl) | (rw [if_neg (by decide +kernel)]; exact ⟨rfl, rfl⟩))
    (fun os started H enc _ => lifted os started H enc)

theorem card1 : Tryd.pinned.checked.prog.mainIs = some (Rows.rankHoldsCard.stood.harness.1, Rows.rankHoldsCard.stood.harness.2.toList) := by kernel_rfl

theorem card2 : true = Tryd.pinned.checked.prog.looks [] := by kernel_rfl

theorem card3 : false = Rows.rankHoldsRow.goesBy Tryd.pinned.checked.prog := by kernel_rfl

theorem proved : Rows.RankHoldsCardSaid :=
  Claim7.holds_tied_plain_at .later [] [.data] true Rows.rankHoldsCard.stood.harness true
    row (fun _ h => by cases h) (by kernel_rfl) (fun _ h => by cases h) rankHolds_row_tie rfl ⟨rfl, rfl⟩ card1 rfl
    (fun f fn hf hfn => by
      obtain rfl : f = 3 := Option.some.inj ((show Tryd.prog.funcNamed Rows.rankHoldsRow.func = some 3 from fact5).symm.trans hf) |>.symm
      obtain rfl : fn = Tryd.f3 := (Option.some.inj (Tryd.func3.symm.trans hfn)).symm
      exact ⟨card2, fun j t ht => by
        rw [Tryd.params3] at ht
        have hm : t ∈ [22, 30] := by simpa using Array.mem_of_getElem? ht
        have hall : ([22, 30].all fun u => !Tryd.prog.wantsStandIn u) = true := by kernel_rfl
        exact (show Tryd.prog.wantsStandIn t = false by simpa using List.all_eq_true.1 hall t hm)⟩)
    card3

#print axioms proved
end Go.Proofs.YthfndphngeaihaaDoor.lawRankHolds
