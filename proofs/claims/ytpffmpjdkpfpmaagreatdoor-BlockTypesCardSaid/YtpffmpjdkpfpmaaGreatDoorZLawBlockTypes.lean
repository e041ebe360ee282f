/- BlockTypes holds: Types goes over the types of every list of blocks as the document says, may be left and gone over again, and Same tells which blocks are the same. No condition. The card: the two listed tables tied to the program's text. -/
import Derived.Test.YtpffmpjdkpfpmaaGreatDoorZBlI
import Derived.Test.YtpffmpjdkpfpmaaGreatDoorZBo
import Derived.Test.YtpffmpjdkpfpmaaGreatDoorZBlW
import Derived.SevenTiedAt
namespace Go.Proofs.YtpffmpjdkpfpmaaGreatDoor.lawBlockTypes
open Go Go.ChangeShapes Go.WideShapes Go.ChangeAt Go.RowKit
set_option linter.unusedVariables false
set_option maxRecDepth 100000

theorem lifted (os : Os) (started : os.Started) (H : Type) (enc : TypeId × Value → H) :
    ReturnsInHanded {} Tryz.checked os 6 .any (fun w args => (Rows.blockTypesSpec.pre enc Tryz.prog Tryz.f6 [] false w args ∧ laidMetH Tryz.prog laidList w) ∧ sizedMet enc Tryz.prog Tryz.f6 (OpenSpec.ofChange Rows.blockTypesSpec) false w args)
      (Rows.blockTypesSpec.post enc Tryz.prog Tryz.f6 false true false false) := by
  refine returnsInHanded_of_change_and (C := Tryz.checked) (X := fun w _ => laidMetH Tryz.prog laidList w) (fun _ _ _ hh h => h.of_heap hh) cbOwn started (by kernel_rfl) Tryz.func6
    (ChangeSpec.witness_shaped (enc := enc) (C := Tryz.checked) (os := os) (X := fun w _ => laidMetH Tryz.prog laidList w) false (World.doorLaid Tryz.prog 19 os) #[.slice none 0 0, .int .i64 0] 8 rfl (World.shaped_of_RefB (by kernel_rfl) (by kernel_rfl)) (by kernel_rfl) (by kernel_rfl) (by kernel_rfl) (door_met os _)) ?_
  intro W base args ds gs before hval0 hW _ hsz0 hL _
  have hsz : (DataW.weightsEach Tryz.prog (Tryz.f6.params.toList ++ Rows.blockTypesSpec.plain.varTypes Tryz.prog) (ds ++ gs)).all (· ≤ reachBytes) = true := hsz0
  clear hsz0
  have hval : ∀ (j : Nat) t v, Tryz.f6.params[j]? = some t → args[j]? = some v → Value.okWide Tryz.prog W .any base t v := hval0
  have hW' := hW
  obtain ⟨p, q, hA0, hV, rfl, _, _⟩ := hW
  have hA : DataW.TrodAll enc Tryz.prog W 0 (fun _ => true) true Tryz.f6.params.toList args.toList ds p := hA0
  rw [Tryz.params6] at hA hval hsz
  obtain ⟨v0, v1, d0, d1, p0, p1, rfl, rfl, rfl, h0, h1⟩ := trodAll_two hA
  obtain ⟨rfl, rfl⟩ := trodVars_none hV
  clear hA0 hval0
  have hlt : ∀ x ∈ p0 ++ p1, x.block < W.heap.size := fun x hx => hW'.lt x (List.mem_append_left _ hx)
  have hlt0 : ∀ x ∈ p0, x.block < W.heap.size := fun x hx => hlt x (List.mem_append_left _ hx)
  have hlt1 : ∀ x ∈ p1, x.block < W.heap.size := fun x hx => hlt x (List.mem_append_right _ hx)
  obtain ⟨a, c, xs, rfl, hc, hl, hr, hok⟩ := open_blocks (hval 0 47 v0 rfl rfl) h0 hlt0 hsz (jn := 0) rfl rfl
  obtain ⟨k, rfl, rfl, rfl, w1⟩ := open_int Tryz.underlying3 (hval 1 3 v1 rfl rfl) h1
  refine (walk_btypes a c xs k W hc hl hr (of_laid hL)).mono fun e W' ⟨he, bel⟩ => ?_
  subst he
  exact ⟨_, rfl, _, _, _, [], _, [], hW', trodAll_mk1 (shut_bool Tryz.underlying4 _), trodAll_mk2 (Below.trod lawLaid (by kernel_rfl) (of_decide_eq_true (by kernel_rfl)) h0 bel hlt0) (shut_int Tryz.underlying3 w1), rfl, bel.frame _, fun h => by cases h⟩

theorem fact1 : (Rows.blockTypesRow.inPlace == Program.inPlace Tryz.pinned.checked.prog 6) = true := by kernel_rfl

theorem fact2 : (Rows.blockTypesRow.unfollowed == Program.unfollowed Tryz.pinned.checked.prog 6) = true := by kernel_rfl

theorem fact3 : (Rows.blockTypesRow.recurses == Program.recurses Tryz.pinned.checked.prog 6) = true := by kernel_rfl

theorem fact4 : (Rows.blockTypesRow.named == Program.varsNamed Tryz.pinned.checked.prog 6) = true := by kernel_rfl

theorem fact5 : Tryz.pinned.checked.prog.funcNamed Rows.blockTypesRow.func = some 6 := by kernel_rfl

theorem facts : joinedFacts Tryz.pinned.checked.prog 6 Tryz.f6 Rows.blockTypesSpec Rows.blockTypesRow = true := by
  unfold joinedFacts
  rw [fact1, fact2, fact3, fact4]
  kernel_rfl

theorem row : Rows.BlockTypesSaid :=
  OpenClaim.holds_of_wide 6 Tryz.f6 rfl rfl rfl rfl rfl rfl rfl ⟨rfl, rfl, rfl, rfl, rfl⟩ rfl rfl rfl rfl rfl fact5 Tryz.func6 facts
    (of_decide_eq_true (by kernel_rfl)) (by unfold Func.isWrapper; first | (rw [if_pos (by decide +kernel)]; kernel_rfl) | (rw [if_neg (by decide +kernel)]; exact ⟨rfl, rfl⟩))
    (fun os started H enc _ => lifted os started H enc)

theorem card1 : Tryz.pinned.checked.prog.mainIs = some (Rows.blockTypesCard.stood.harness.1, Rows.blockTypesCard.stood.harness.2.toList) := by kernel_rfl

theorem card2 : true = Tryz.pinned.checked.prog.looks [] := by kernel_rfl

theorem card3 : false = Rows.blockTypesRow.goesBy Tryz.pinned.checked.prog := by kernel_rfl

theorem proved : Rows.BlockTypesCardSaid :=
  Claim7.holds_tied_plain_at .later [] [.data, .data] true Rows.blockTypesCard.stood.harness true
    row (fun _ h => by cases h) (by kernel_rfl) (fun _ h => by cases h) blockTypes_row_tie rfl ⟨rfl, rfl⟩ card1 rfl
    (fun f fn hf hfn => by
      obtain rfl : f = 6 := Option.some.inj ((show Tryz.prog.funcNamed Rows.blockTypesRow.func = some 6 from fact5).symm.trans hf) |>.symm
      obtain rfl : fn = Tryz.f6 := (Option.some.inj (Tryz.func6.symm.trans hfn)).symm
      exact ⟨card2, fun j t ht => by
        rw [Tryz.params6] at ht
        have hm : t ∈ [47, 3] := by simpa using Array.mem_of_getElem? ht
        have hall : ([47, 3].all fun u => !Tryz.prog.wantsStandIn u) = true := by kernel_rfl
        exact (show Tryz.prog.wantsStandIn t = false by simpa using List.all_eq_true.1 hall t hm)⟩)
    card3

#print axioms proved
end Go.Proofs.YtpffmpjdkpfpmaaGreatDoor.lawBlockTypes

