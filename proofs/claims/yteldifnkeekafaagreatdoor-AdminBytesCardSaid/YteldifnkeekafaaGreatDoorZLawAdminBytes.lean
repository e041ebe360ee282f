/- AdminBytes holds: Decode answers the record of bytes as the document says, or why they are none's, and Encode gives a record's bytes back, for all bytes. No condition. The card: the two listed tables tied to the program's text. -/
import Derived.Test.YteldifnkeekafaaGreatDoorZAy
import Derived.Test.YteldifnkeekafaaGreatDoorZAdOp
import Derived.Test.YteldifnkeekafaaGreatDoorZAdW
import Derived.Test.YteldifnkeekafaaGreatDoorZBo
import Derived.SevenTiedAt
set_option linter.unusedVariables false
set_option maxRecDepth 100000
namespace Go.Proofs.YteldifnkeekafaaGreatDoor.lawAdminBytes
open Go Go.ChangeShapes Go.WideShapes Go.ChangeAt Go.RowKit

theorem lifted (os : Os) (started : os.Started) (H : Type) (enc : TypeId × Value → H) :
  ReturnsInHanded {} Tryz.checked os 3 .any (fun w args => (Rows.adminBytesSpec.pre enc Tryz.prog Tryz.f3 [] false w args ∧ laidMetH Tryz.prog laidList w) ∧ sizedMet enc Tryz.prog Tryz.f3 (OpenSpec.ofChange Rows.adminBytesSpec) false w args)
   (Rows.adminBytesSpec.post enc Tryz.prog Tryz.f3 false true false false) := by
 refine returnsInHanded_of_change_and (C := Tryz.checked) (X := fun w _ => laidMetH Tryz.prog laidList w) (fun _ _ _ hh h => h.of_heap hh) cbOwn started (by kernel_rfl) Tryz.func3
  (ChangeSpec.witness_shaped (enc := enc) (C := Tryz.checked) (os := os) (X := fun w _ => laidMetH Tryz.prog laidList w) false (World.doorLaid Tryz.prog 19 os) #[.slice none 0 0] 8 rfl (World.shaped_of_RefB (by kernel_rfl) (by kernel_rfl)) (by kernel_rfl) (by kernel_rfl) (by kernel_rfl) (door_met os _)) ?_
 intro W base args ds gs before hval0 hW _ hsz0 hL _
 have hsz : (DataW.weightsEach Tryz.prog (Tryz.f3.params.toList ++ Rows.adminBytesSpec.plain.varTypes Tryz.prog) (ds ++ gs)).all (· ≤ reachBytes) = true := hsz0
 clear hsz0
 have hval : ∀ (j : Nat) t v, Tryz.f3.params[j]? = some t → args[j]? = some v → Value.okWide Tryz.prog W .any base t v := hval0
 have hW' := hW
 obtain ⟨p, q, hA0, hV, rfl, _, _⟩ := hW
 have hA : DataW.TrodAll enc Tryz.prog W 0 (fun _ => true) true Tryz.f3.params.toList args.toList ds p := hA0
 rw [Tryz.params3] at hA hval hsz
 obtain ⟨v0, d0, rfl, rfl, h0⟩ := trodAll_one hA
 obtain ⟨rfl, rfl⟩ := trodVars_none hV
 clear hA0 hval0
 have hlt0 : ∀ x ∈ p, x.block < W.heap.size := fun x hx => hW'.lt x (List.mem_append_left _ hx)
 obtain ⟨a, c, bs, rfl, hc, hl, hr⟩ := open_bytes (hval 0 22 v0 rfl rfl) h0 hlt0 hsz (jn := 0) rfl rfl
 refine (walk_abytes a c bs hc W hr (of_laid hL)).mono fun e W' ⟨he, bel⟩ => ?_
 subst he
 exact ⟨_, rfl, _, _, _, [], _, [], hW', trodAll_mk1 (shut_bool Tryz.underlying4 _), trodAll_mk1 (Below.trod lawLaid (by kernel_rfl) (of_decide_eq_true (by kernel_rfl)) h0 bel hlt0), rfl, bel.frame _, fun h => by cases h⟩

theorem fact1 : (Rows.adminBytesRow.inPlace == Program.inPlace Tryz.pinned.checked.prog 3) = true := by kernel_rfl

theorem fact2 : (Rows.adminBytesRow.unfollowed == Program.unfollowed Tryz.pinned.checked.prog 3) = true := by kernel_rfl

theorem fact3 : (Rows.adminBytesRow.recurses == Program.recurses Tryz.pinned.checked.prog 3) = true := by kernel_rfl

theorem fact4 : (Rows.adminBytesRow.named == Program.varsNamed Tryz.pinned.checked.prog 3) = true := by kernel_rfl

theorem fact5 : Tryz.pinned.checked.prog.funcNamed Rows.adminBytesRow.func = some 3 := by kernel_rfl

theorem facts : joinedFacts Tryz.pinned.checked.prog 3 Tryz.f3 Rows.adminBytesSpec Rows.adminBytesRow = true := by
 unfold joinedFacts
 rw [fact1, fact2, fact3, fact4]
 kernel_rfl

theorem row : Rows.AdminBytesSaid :=
 OpenClaim.holds_of_wide 3 Tryz.f3 rfl rfl rfl rfl rfl rfl rfl ⟨rfl, rfl, rfl, rfl, rfl⟩ rfl rfl rfl rfl rfl fact5 Tryz.func3 facts
  (of_decide_eq_true (by kernel_rfl)) (by unfold Func.isWrapper; first | (rw [if_pos (by decide +kernel)]; kernel_rfl) | (rw [if_neg (by decide +kernel)]; exact ⟨rfl, rfl⟩))
  (fun os started H enc _ => lifted os started H enc)

theorem card1 : Tryz.pinned.checked.prog.mainIs = some (Rows.adminBytesCard.stood.harness.1, Rows.adminBytesCard.stood.harness.2.toList) := by kernel_rfl

theorem card2 : true = Tryz.pinned.checked.prog.looks [] := by kernel_rfl

theorem card3 : false = Rows.adminBytesRow.goesBy Tryz.pinned.checked.prog := by kernel_rfl

theorem proved : Rows.AdminBytesCardSaid :=
 Claim7.holds_tied_plain_at .later [] [.data, .data] true Rows.adminBytesCard.stood.harness true
  row (fun _ h => by cases h) (by kernel_rfl) (fun _ h => by cases h) adminBytes_row_tie rfl ⟨rfl, rfl⟩ card1 rfl
  (fun f fn hf hfn => by
   obtain rfl : f = 3 := Option.some.inj ((show Tryz.prog.funcNamed Rows.adminBytesRow.func = some 3 from fact5).symm.trans hf) |>.symm
   obtain rfl : fn = Tryz.f3 := (Option.some.inj (Tryz.func3.symm.trans hfn)).symm
   exact ⟨card2, fun j t ht => by
    rw [Tryz.params3] at ht
    have hm : t ∈ [22] := by simpa using Array.mem_of_getElem? ht
    have hall : ([22].all fun u => !Tryz.prog.wantsStandIn u) = true := by kernel_rfl
    exact (show Tryz.prog.wantsStandIn t = false by simpa using List.all_eq_true.1 hall t hm)⟩)
  card3

#print axioms proved
end Go.Proofs.YteldifnkeekafaaGreatDoor.lawAdminBytes

