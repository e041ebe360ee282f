/- AdminItems holds, where what comes in is of bulk at most 1048576: Decode answers the record of an item's bytes as the document says, or that they are none's, for every list of items. The card: the two listed tables tied to the program's text. -/
import Derived.Test.YteldifnkeekafaaGreatDoorZAy
import Derived.Test.YteldifnkeekafaaGreatDoorZAdOp
import Derived.Test.YteldifnkeekafaaGreatDoorZAdW
import Derived.SevenTiedAt
import Derived.Deep.DeepHandedRow
import Derived.Deep.DeepWitnessRowRef
set_option linter.unusedVariables false
set_option maxRecDepth 100000
namespace Go.Proofs.YteldifnkeekafaaGreatDoor.lawAdminItems
open Go Go.ChangeShapes Go.WideShapes Go.ChangeAt Go.RowKit

theorem reads (os : Os) {H : Type} (enc : TypeId × Value → H) : ∃ places, DataW.whole enc Tryz.prog (((World.doorLaid Tryz.prog 19 os).forCall (fun _ _ => 0) ⟨#[], #[.slice none 0 0], []⟩).memory) Tryz.f4.params.toList Rows.adminItemsSpec.vars false (#[.slice none 0 0] : Array Value).toList 8 = some ([.nil], [], places) :=
 ⟨[], by kernel_rfl⟩

theorem lifted (os : Os) (started : os.Started) (H : Type) (enc : TypeId × Value → H) (F : Stop.Interp) :
  ReturnsInHanded {} Tryz.checked os 4 .any ((Rows.OpenSpec.upto Rows.adminItemsSpec).preRow enc Tryz.prog Tryz.f4 Rows.adminItemsUptoRow.domain false Rows.adminItemsUptoRow.laid) (((Rows.OpenSpec.upto Rows.adminItemsSpec).at F).post enc Tryz.prog Tryz.f4 false true false false) := by
 obtain ⟨places, hx⟩ := reads os enc
 refine returnsInHanded_of_row (C := Tryz.checked) (s := Rows.OpenSpec.upto Rows.adminItemsSpec) cbOwn started (by kernel_rfl) Tryz.func4
  (witness_row_atRef (enc := enc) (C := Tryz.checked) false (World.doorLaid Tryz.prog 19 os) #[.slice none 0 0] rfl (by kernel_rfl) (by kernel_rfl) (by kernel_rfl)
   (OpenSpec.preRow_of_cond 8 hx (by kernel_rfl) (fun k hk => by cases hk; kernel_rfl) (by kernel_rfl) (door_met os _))) ?_
 intro W base args ds gs before hval0 hW _ hcond hsz0 hL _ _
 have hbulk : Rows.uptoBulkAll (ds ++ gs) ≤ 1048576 := of_decide_eq_true (hcond _ rfl)
 have hsz : (DataW.weightsEach Tryz.prog (Tryz.f4.params.toList ++ Rows.adminItemsSpec.plain.varTypes Tryz.prog) (ds ++ gs)).all (· ≤ reachBytes) = true := hsz0
 clear hsz0 hcond
 have hval : ∀ (j : Nat) t v, Tryz.f4.params[j]? = some t → args[j]? = some v → Value.okWide Tryz.prog W .any base t v := hval0
 have hW' : DataW.Whole enc Tryz.prog Tryz.f4.params.toList Rows.adminItemsSpec.vars false W args.toList ds gs before := hW
 have hW1 := hW'
 clear hW
 obtain ⟨p, q, hA0, hV, rfl, _, _⟩ := hW1
 have hA : DataW.TrodAll enc Tryz.prog W 0 (fun _ => true) true Tryz.f4.params.toList args.toList ds p := hA0
 rw [Tryz.params4] at hA hval hsz
 obtain ⟨v0, d0, rfl, rfl, h0⟩ := trodAll_one hA
 obtain ⟨rfl, rfl⟩ := trodVars_none hV
 clear hA0 hval0
 have hlt0 : ∀ x ∈ p, x.block < W.heap.size := fun x hx => hW'.lt x (List.mem_append_left _ hx)
 obtain ⟨a, c, l, rfl, hc, hl, hr, hwl⟩ := open_itemsW (hval 0 42 v0 rfl rfl) h0 hlt0 hsz (jn := 0) rfl rfl
 have hwt : wtL l ≤ 1048576 := by
  simp only [List.cons_append, List.nil_append, Rows.uptoBulkAll] at hbulk
  omega
 refine (walk_aitems a c l W hc hl hwt hr (of_laid hL)).mono fun e W' ⟨he, bel⟩ => ?_
 subst he
 exact ⟨_, rfl, _, _, _, [], _, [], hW', trodAll_mk1 (shut_bool Tryz.underlying4 _), trodAll_mk1 (Below.trod lawLaid (by kernel_rfl) (of_decide_eq_true (by kernel_rfl)) h0 bel hlt0), rfl, bel.frame _, fun h => by cases h⟩

theorem fact1 : (Rows.adminItemsUptoRow.inPlace == Program.inPlace Tryz.pinned.checked.prog 4) = true := by kernel_rfl

theorem fact2 : (Rows.adminItemsUptoRow.unfollowed == Program.unfollowed Tryz.pinned.checked.prog 4) = true := by kernel_rfl

theorem fact3 : (Rows.adminItemsUptoRow.recurses == Program.recurses Tryz.pinned.checked.prog 4) = true := by kernel_rfl

theorem fact4 : (Rows.adminItemsUptoRow.named == Program.varsNamed Tryz.pinned.checked.prog 4) = true := by kernel_rfl

theorem fact5 : Tryz.pinned.checked.prog.funcNamed Rows.adminItemsUptoRow.func = some 4 := by kernel_rfl

theorem facts : joinedFacts Tryz.pinned.checked.prog 4 Tryz.f4 (Rows.OpenSpec.upto Rows.adminItemsSpec).bare Rows.adminItemsUptoRow = true := by
 unfold joinedFacts
 rw [fact1, fact2, fact3, fact4]
 kernel_rfl

theorem row : Rows.AdminItemsUptoSaid :=
 OpenClaim.holds_of_cond 4 Tryz.f4 rfl rfl rfl rfl rfl rfl rfl ⟨rfl, rfl, rfl, rfl, rfl⟩ rfl rfl rfl rfl rfl fact5 Tryz.func4 facts
  (of_decide_eq_true (by kernel_rfl)) (by unfold Func.isWrapper; first | (rw [if_pos (by decide +kernel)]; kernel_rfl) | (rw [if_neg (by decide +kernel)]; exact ⟨rfl, rfl⟩))
  (fun os started H enc _ F => by rw [OpenClaim.pre_eq_preRow]; exact lifted os started H enc F)

theorem card1 : Tryz.pinned.checked.prog.mainIs = some (Rows.adminItemsUptoCard.stood.harness.1, Rows.adminItemsUptoCard.stood.harness.2.toList) := by kernel_rfl

theorem card2 : true = Tryz.pinned.checked.prog.looks [] := by kernel_rfl

theorem card3 : false = Rows.adminItemsUptoRow.goesBy Tryz.pinned.checked.prog := by kernel_rfl

theorem proved : Rows.AdminItemsUptoCardSaid :=
 Claim7.holds_tied_plain_at .later [] [.data, .data] true Rows.adminItemsUptoCard.stood.harness true
  row (fun _ h => by cases h) (by kernel_rfl) (fun _ h => by cases h) adminItemsUpto_row_tie rfl ⟨rfl, rfl⟩ card1 rfl
  (fun f fn hf hfn => by
   obtain rfl : f = 4 := Option.some.inj ((show Tryz.prog.funcNamed Rows.adminItemsUptoRow.func = some 4 from fact5).symm.trans hf) |>.symm
   obtain rfl : fn = Tryz.f4 := (Option.some.inj (Tryz.func4.symm.trans hfn)).symm
   exact ⟨card2, fun j t ht => by
    rw [Tryz.params4] at ht
    have hm : t ∈ [42] := by simpa using Array.mem_of_getElem? ht
    have hall : ([42].all fun u => !Tryz.prog.wantsStandIn u) = true := by kernel_rfl
    exact (show Tryz.prog.wantsStandIn t = false by simpa using List.all_eq_true.1 hall t hm)⟩)
  card3

#print axioms proved
end Go.Proofs.YteldifnkeekafaaGreatDoor.lawAdminItems

