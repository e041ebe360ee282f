/- AdminReports holds: Report answers the report of a name, what and why as the document says, or that it may not be, for every name and every numbers. No condition. The card: the two listed tables tied to the program's text. -/
import Derived.Test.YthjgjkohogjjpaaGreatDoorZAt
import Derived.Test.YthjgjkohogjjpaaGreatDoorZAdW
import Derived.Test.YthjgjkohogjjpaaGreatDoorZBo
import Derived.SevenTiedAt
set_option linter.unusedVariables false
set_option maxRecDepth 100000
namespace Go.Proofs.YthjgjkohogjjpaaGreatDoor.lawAdminReports
open Go Go.ChangeShapes Go.WideShapes Go.ChangeAt Go.RowKit

theorem lifted (os : Os) (started : os.Started) (H : Type) (enc : TypeId × Value → H) :
  ReturnsInHanded {} Tryz.checked os 4 .any (fun w args => (Rows.adminReportsSpec.pre enc Tryz.prog Tryz.f4 [] false w args ∧ laidMetH Tryz.prog laidList w) ∧ sizedMet enc Tryz.prog Tryz.f4 (OpenSpec.ofChange Rows.adminReportsSpec) false w args)
   (Rows.adminReportsSpec.post enc Tryz.prog Tryz.f4 false true false false) := by
 refine returnsInHanded_of_change_and (C := Tryz.checked) (X := fun w _ => laidMetH Tryz.prog laidList w) (fun _ _ _ hh h => h.of_heap hh) cbOwn started (by kernel_rfl) Tryz.func4
  (ChangeSpec.witness_shaped (enc := enc) (C := Tryz.checked) (os := os) (X := fun w _ => laidMetH Tryz.prog laidList w) false (World.doorLaid Tryz.prog 19 os) #[.agg #[.int .u32 0, .int .u32 0, .int .u64 0, .int .u32 0], .agg #[.int .i64 0, .int .i64 0], .int .u64 0] 8 rfl (World.shaped_of_RefB (by kernel_rfl) (by kernel_rfl)) (by kernel_rfl) (by kernel_rfl) (by kernel_rfl) (door_met os _)) ?_
 intro W base args ds gs before hval0 hW _ hsz0 hL _
 have hsz : (DataW.weightsEach Tryz.prog (Tryz.f4.params.toList ++ Rows.adminReportsSpec.plain.varTypes Tryz.prog) (ds ++ gs)).all (· ≤ reachBytes) = true := hsz0
 clear hsz0
 have hval : ∀ (j : Nat) t v, Tryz.f4.params[j]? = some t → args[j]? = some v → Value.okWide Tryz.prog W .any base t v := hval0
 have hW' := hW
 obtain ⟨p, q, hA0, hV, rfl, _, _⟩ := hW
 have hA : DataW.TrodAll enc Tryz.prog W 0 (fun _ => true) true Tryz.f4.params.toList args.toList ds p := hA0
 rw [Tryz.params4] at hA hval hsz
 obtain ⟨v0, v1, v2, d0, d1, d2, p0, p1, p2, rfl, rfl, rfl, h0, h1, h2⟩ := trodAll_three hA
 obtain ⟨rfl, rfl⟩ := trodVars_none hV
 clear hA0 hval0
 have hlt : ∀ x ∈ p0 ++ p1 ++ p2, x.block < W.heap.size := fun x hx => hW'.lt x (List.mem_append_left _ hx)
 have hlt0 : ∀ x ∈ p0, x.block < W.heap.size := fun x hx => hlt x (List.mem_append_left _ (List.mem_append_left _ hx))
 have hlt1 : ∀ x ∈ p1, x.block < W.heap.size := fun x hx => hlt x (List.mem_append_left _ (List.mem_append_right _ hx))
 have hlt2 : ∀ x ∈ p2, x.block < W.heap.size := fun x hx => hlt x (List.mem_append_right _ hx)
 obtain ⟨a, rfl, ha⟩ := open_name (hval 0 28 v0 rfl rfl) h0
 obtain ⟨wh, wy, rfl⟩ := open_i2 (hval 1 42 v1 rfl rfl) h1
 obtain ⟨k, rfl, rfl, rfl, w2⟩ := open_int Tryz.underlying26 (hval 2 26 v2 rfl rfl) h2
 obtain ⟨at0, e2, hat⟩ := wf_n64 w2
 subst e2
 refine (walk_areports a.n a.m a.t a.q wh wy at0 (repR_ok ha wh wy hat) W (of_laid hL)).mono fun e W' ⟨he, bel⟩ => ?_
 subst he
 exact ⟨_, rfl, _, _, _, [], _, [], hW', trodAll_mk1 (shut_bool Tryz.underlying4 _), trodAll_mk3 (Below.trod lawLaid (by kernel_rfl) (of_decide_eq_true (by kernel_rfl)) h0 bel hlt0) (Below.trod lawLaid (by kernel_rfl) (of_decide_eq_true (by kernel_rfl)) h1 bel hlt1) (shut_int Tryz.underlying26 w2), rfl, bel.frame _, fun h => by cases h⟩

theorem fact1 : (Rows.adminReportsRow.inPlace == Program.inPlace Tryz.pinned.checked.prog 4) = true := by kernel_rfl

theorem fact2 : (Rows.adminReportsRow.unfollowed == Program.unfollowed Tryz.pinned.checked.prog 4) = true := by kernel_rfl

theorem fact3 : (Rows.adminReportsRow.recurses == Program.recurses Tryz.pinned.checked.prog 4) = true := by kernel_rfl

theorem fact4 : (Rows.adminReportsRow.named == Program.varsNamed Tryz.pinned.checked.prog 4) = true := by kernel_rfl

theorem fact5 : Tryz.pinned.checked.prog.funcNamed Rows.adminReportsRow.func = some 4 := by kernel_rfl

theorem facts : joinedFacts Tryz.pinned.checked.prog 4 Tryz.f4 Rows.adminReportsSpec Rows.adminReportsRow = true := by
 unfold joinedFacts
 rw [fact1, fact2, fact3, fact4]
 kernel_rfl

theorem row : Rows.AdminReportsSaid :=
 OpenClaim.holds_of_wide 4 Tryz.f4 rfl rfl rfl rfl rfl rfl rfl ⟨rfl, rfl, rfl, rfl, rfl⟩ rfl rfl rfl rfl rfl fact5 Tryz.func4 facts
  (of_decide_eq_true (by kernel_rfl)) (by unfold Func.isWrapper; first | (rw [if_pos (by decide +kernel)]; kernel_rfl) | (rw [if_neg (by decide +kernel)]; exact ⟨rfl, rfl⟩))
  (fun os started H enc _ => lifted os started H enc)

theorem card1 : Tryz.pinned.checked.prog.mainIs = some (Rows.adminReportsCard.stood.harness.1, Rows.adminReportsCard.stood.harness.2.toList) := by kernel_rfl

theorem card2 : true = Tryz.pinned.checked.prog.looks [] := by kernel_rfl

theorem card3 : false = Rows.adminReportsRow.goesBy Tryz.pinned.checked.prog := by kernel_rfl

theorem proved : Rows.AdminReportsCardSaid :=
 Claim7.holds_tied_plain_at .later [] [.data, .data] true Rows.adminReportsCard.stood.harness true
  row (fun _ h => by cases h) (by kernel_rfl) (fun _ h => by cases h) adminReports_row_tie rfl ⟨rfl, rfl⟩ card1 rfl
  (fun f fn hf hfn => by
   obtain rfl : f = 4 := Option.some.inj ((show Tryz.prog.funcNamed Rows.adminReportsRow.func = some 4 from fact5).symm.trans hf) |>.symm
   obtain rfl : fn = Tryz.f4 := (Option.some.inj (Tryz.func4.symm.trans hfn)).symm
   exact ⟨card2, fun j t ht => by
    rw [Tryz.params4] at ht
    have hm : t ∈ [28, 42, 26] := by simpa using Array.mem_of_getElem? ht
    have hall : ([28, 42, 26].all fun u => !Tryz.prog.wantsStandIn u) = true := by kernel_rfl
    exact (show Tryz.prog.wantsStandIn t = false by simpa using List.all_eq_true.1 hall t hm)⟩)
  card3

#print axioms proved
end Go.Proofs.YthjgjkohogjjpaaGreatDoor.lawAdminReports

