/- NameTexts, walked. -/
import Derived.Test.YtakigkhjijkkhaaDoorNmW
import Derived.Test.YtakigkhjijkkhaaDoorNmR3
namespace Go.Proofs.YtakigkhjijkkhaaDoor
open Go Go.RowKit Go.Shelf
set_option linter.unusedSimpArgs false
set_option linter.unusedVariables false

theorem rd_docE (s : List UInt8) : (rdE s = .ok ((RdocE s).1, (RdocE s).2.1) ∧ (RdocE s).2.2 = 0 ∧ epN s = some ((RdocE s).1, (RdocE s).2.1)) ∨ (rdE s = .error (RdocE s).2.2 ∧ (RdocE s).1 = 0 ∧ (RdocE s).2.1 = 0 ∧ (RdocE s).2.2 ≠ 0) := by
  unfold rdE RdocE
  by_cases h : 100 < s.length
  · rw [if_pos h, if_pos h]
    exact .inr ⟨rfl, rfl, rfl, by decide⟩
  · rw [if_neg h, if_neg h, epR_eq]
    cases epN s with
    | none => exact .inr ⟨rfl, rfl, rfl, by decide⟩
    | some p => obtain ⟨n, m⟩ := p; exact .inl ⟨rfl, rfl, rfl⟩

theorem rd_docN (s : List UInt8) : (rdN s = .ok (RdocN s).1 ∧ (RdocN s).2 = 0 ∧ nmN s = some (RdocN s).1) ∨ (rdN s = .error (RdocN s).2 ∧ (RdocN s).1 = (0, 0, 0, 0) ∧ (RdocN s).2 ≠ 0) := by
  unfold rdN RdocN
  by_cases h : 100 < s.length
  · rw [if_pos h, if_pos h]
    exact .inr ⟨rfl, rfl, by decide⟩
  · rw [if_neg h, if_neg h, nmR_eq]
    cases nmN s with
    | none => exact .inr ⟨rfl, rfl, by decide⟩
    | some p => exact .inl ⟨rfl, rfl, rfl⟩

theorem parseE_doc (s : List UInt8) (hs : s.length ≤ 140737488355328) (w : World) (ht : TabN w) :
    Calls Tryd.prog 16 #[.string ⟨s.toArray⟩] w fun e w' => e = .returned (.tuple #[.agg #[.int .u32 (RdocE s).1, .int .u32 (RdocE s).2.1], .int .i64 (RdocE s).2.2]) ∧ Below w.heap.size w w' :=
  (parseE_any s hs w ht).mono fun e w' ⟨h1, h2⟩ => by
    rcases rd_docE s with ⟨a, b, _⟩ | ⟨a, b, c, _⟩
    · rw [a] at h2
      rw [b]
      exact ⟨h2, h1⟩
    · rw [a] at h2
      rw [b, c]
      exact ⟨h2, h1⟩

theorem parseN_doc (s : List UInt8) (hs : s.length ≤ 140737488355328) (w : World) (ht : TabN w) :
    Calls Tryd.prog 24 #[.string ⟨s.toArray⟩] w fun e w' => e = .returned (.tuple #[.agg #[.int .u32 (RdocN s).1.1, .int .u32 (RdocN s).1.2.1, .int .u64 (RdocN s).1.2.2.1, .int .u32 (RdocN s).1.2.2.2], .int .i64 (RdocN s).2]) ∧ Below w.heap.size w w' :=
  (parseN_any s hs w ht).mono fun e w' ⟨h1, h2⟩ => by
    rcases rd_docN s with ⟨a, b, _⟩ | ⟨a, b, _⟩
    · rw [a] at h2
      rw [b]
      exact ⟨h2, h1⟩
    · rw [a] at h2
      rw [b]
      exact ⟨h2, h1⟩

set_option maxRecDepth 100000 in
set_option maxHeartbeats 8000000 in
theorem walk_nameTexts (s : List UInt8) (hs : s.length ≤ 140737488355328) (w : World) (ht : TabN w) :
    Calls Tryd.prog 5 #[.string ⟨s.toArray⟩] w fun e w' => e = .returned (.bool true) ∧ Below w.heap.size w w' := by
  have hsz : (⟨s.toArray⟩ : ByteArray).size = s.length := by simp [ByteArray.size]
  have HT : Hid (∀ w', Below w.heap.size w w' → TabN w') := fun w' h => ht.on h
  by_cases hl : 300 < s.length
  · have hl' : (300 : Int) < (s.length : Int) := by omega
    have HWk := Lib.hid (nmWorks_any w ht)
    clear ht hl
    go_enter Tryd.func5, Tryd.ntmps5
    go_wp2_with fail
    refine HWk.out.mono ?_
    rintro e w1 ⟨rfl, hb⟩
    have HB := Lib.hid hb
    clear hb
    go_wp2
    go_ret
    exact ⟨rfl, HB.out⟩
  have hl' : ¬ (300 : Int) < (s.length : Int) := by omega
  have PE := Lib.hid (parseE_doc s hs)
  have PN := Lib.hid (parseN_doc s hs)
  have RE := Lib.hid (refParseE_any s hs)
  have RN := Lib.hid (refParseN_any s hs)
  have TE : Hid ((RdocE s).2.2 = 0 → ∀ w, TabN w → Calls Tryd.prog 9 #[.agg #[.int .u32 (RdocE s).1, .int .u32 (RdocE s).2.1]] w fun e w' => e = .returned (.tuple #[.string ⟨s.toArray⟩, .int .i64 0]) ∧ Below w.heap.size w w') := fun h0 w ht => by
    rcases rd_docE s with ⟨_, _, h⟩ | ⟨_, _, _, h⟩
    · obtain ⟨h1, h2, h3, h4⟩ := epN_iff.1 h
      have h5 := text_any _ _ h3 h4 w ht
      have e : textN (RdocE s).1 (RdocE s).2.1 = (txE (RdocE s).1 (RdocE s).2.1, 0) := if_neg (by omega)
      rw [e, ← h1] at h5
      exact h5
    · exact absurd h0 h
  have TN : Hid ((RdocN s).2 = 0 → ∀ w, TabN w → Calls Tryd.prog 20 #[.agg #[.int .u32 (RdocN s).1.1, .int .u32 (RdocN s).1.2.1, .int .u64 (RdocN s).1.2.2.1, .int .u32 (RdocN s).1.2.2.2]] w fun e w' => e = .returned (.tuple #[.string ⟨s.toArray⟩, .int .i64 0]) ∧ Below w.heap.size w w') := fun h0 w ht => by
    rcases rd_docN s with ⟨_, _, h⟩ | ⟨_, _, h⟩
    · obtain ⟨h1, h2, h3, h4, h5, h6⟩ := nmN_iff.1 h
      have h7 := ntext_yes _ _ _ _ h2 h3 h4 h5 h6 w ht
      rw [← h1] at h7
      exact h7
    · exact absurd h0 h
  obtain ⟨n, hn⟩ : ∃ n, n = (RdocE s).1 := ⟨_, rfl⟩
  obtain ⟨m, hm⟩ : ∃ n, n = (RdocE s).2.1 := ⟨_, rfl⟩
  obtain ⟨ce, hce⟩ : ∃ n, n = (RdocE s).2.2 := ⟨_, rfl⟩
  obtain ⟨n', hn'⟩ : ∃ n, n = (RdocN s).1.1 := ⟨_, rfl⟩
  obtain ⟨m', hm'⟩ : ∃ n, n = (RdocN s).1.2.1 := ⟨_, rfl⟩
  obtain ⟨t, ht'⟩ : ∃ n, n = (RdocN s).1.2.2.1 := ⟨_, rfl⟩
  obtain ⟨q, hq⟩ : ∃ n, n = (RdocN s).1.2.2.2 := ⟨_, rfl⟩
  obtain ⟨cn, hcn⟩ : ∃ n, n = (RdocN s).2 := ⟨_, rfl⟩
  rw [← hn, ← hm, ← hce] at PE RE TE
  rw [← hn', ← hm', ← ht', ← hq, ← hcn] at PN RN TN
  clear hn hm hce hn' hm' ht' hq hcn hl ht
  have B0 := Lib.hid (Below.refl w.heap.size w)
  go_enter Tryd.func5, Tryd.ntmps5
  go_wp2_with fail
  refine (PE.out _ (HT.out _ B0.out)).mono ?_
  rintro e w1 ⟨rfl, hb⟩
  have B1 := Lib.hid (below_on B0.out hb)
  clear hb
  go_wp2_with fail
  obtain ⟨X1, hX1⟩ : ∃ W, W = w1.alloc (.cells #[.int .u32 (n : Int), .int .u32 (m : Int)] 24) := ⟨_, rfl⟩
  rw [← hX1]
  have C1 : Hid (Below w.heap.size w X1) := by rw [hX1]; exact below_al B1.out _
  have hs1 : X1.heap.size = w1.heap.size + 1 := by rw [hX1]; simp
  have K1 : Hid (∀ w', Below X1.heap.size X1 w' → w'.cell? ⟨w1.heap.size, 0, none⟩ = some (.int .u32 n) ∧ w'.cell? ⟨w1.heap.size, 1, none⟩ = some (.int .u32 m)) := fun w' h =>
    ⟨(h.cell (p := ⟨w1.heap.size, 0, none⟩) (show w1.heap.size < _ by omega)).trans (by rw [hX1]; simp), (h.cell (p := ⟨w1.heap.size, 1, none⟩) (show w1.heap.size < _ by omega)).trans (by rw [hX1]; simp)⟩
  clear hX1
  refine (PN.out _ (HT.out _ C1.out)).mono ?_
  rintro e w2 ⟨rfl, hb⟩
  have D2 := Lib.hid hb
  clear hb
  go_wp2_with fail
  obtain ⟨X2, hX2⟩ : ∃ W, W = w2.alloc (.cells #[.int .u32 (n' : Int), .int .u32 (m' : Int), .int .u64 (t : Int), .int .u32 (q : Int)] 47) := ⟨_, rfl⟩
  rw [← hX2]
  have D2' : Hid (Below X1.heap.size X1 X2) := by rw [hX2]; exact below_al D2.out _
  have hs2 : X2.heap.size = w2.heap.size + 1 := by rw [hX2]; simp
  have K2 : Hid (∀ w', Below X2.heap.size X2 w' → w'.cell? ⟨w2.heap.size, 0, none⟩ = some (.int .u32 n') ∧ w'.cell? ⟨w2.heap.size, 1, none⟩ = some (.int .u32 m') ∧ w'.cell? ⟨w2.heap.size, 2, none⟩ = some (.int .u64 t) ∧ w'.cell? ⟨w2.heap.size, 3, none⟩ = some (.int .u32 q)) := fun w' h => by
    have hh : ∀ i, w'.cell? ⟨w2.heap.size, i, none⟩ = X2.cell? ⟨w2.heap.size, i, none⟩ := fun i => h.cell (p := ⟨w2.heap.size, i, none⟩) (show w2.heap.size < _ by omega)
    exact ⟨(hh 0).trans (by rw [hX2]; simp), (hh 1).trans (by rw [hX2]; simp), (hh 2).trans (by rw [hX2]; simp), (hh 3).trans (by rw [hX2]; simp)⟩
  clear hX2
  refine (RE.out _).mono ?_
  rintro e w3 ⟨rfl, hb⟩
  have D3 := Lib.hid hb
  clear hb
  go_wp2_with fail
  obtain ⟨X3, hX3⟩ : ∃ W, W = w3.alloc (.cells #[.int .u32 (n : Int), .int .u32 (m : Int)] 24) := ⟨_, rfl⟩
  rw [← hX3]
  have D3' : Hid (Below X2.heap.size X2 X3) := by rw [hX3]; exact below_al D3.out _
  have hs3 : X3.heap.size = w3.heap.size + 1 := by rw [hX3]; simp
  have K3 : Hid (∀ w', Below X3.heap.size X3 w' → w'.cell? ⟨w3.heap.size, 0, none⟩ = some (.int .u32 n) ∧ w'.cell? ⟨w3.heap.size, 1, none⟩ = some (.int .u32 m)) := fun w' h =>
    ⟨(h.cell (p := ⟨w3.heap.size, 0, none⟩) (show w3.heap.size < _ by omega)).trans (by rw [hX3]; simp), (h.cell (p := ⟨w3.heap.size, 1, none⟩) (show w3.heap.size < _ by omega)).trans (by rw [hX3]; simp)⟩
  clear hX3
  refine (RN.out _).mono ?_
  rintro e w4 ⟨rfl, hb⟩
  have D4 := Lib.hid hb
  clear hb
  obtain ⟨X4, hX4⟩ : ∃ W, W = w4.alloc (.cells #[.int .u32 (n' : Int), .int .u32 (m' : Int), .int .u64 (t : Int), .int .u32 (q : Int)] 47) := ⟨_, rfl⟩
  have D4' : Hid (Below X3.heap.size X3 X4) := by rw [hX4]; exact below_al D4.out _
  have HX4 := Lib.hid hX4
  obtain ⟨z0, z1⟩ := K3.out X4 D4'.out
  obtain ⟨y0, y1, y2, y3⟩ := K2.out X4 (below_on D3'.out D4'.out)
  obtain ⟨x0, x1⟩ := K1.out X4 (below_on D2'.out (below_on D3'.out D4'.out))
  have HBX : Hid (Below w.heap.size w X4) := below_on C1.out (below_on D2'.out (below_on D3'.out D4'.out))
  rw [hX4] at x0 x1 y0 y1 y2 y3 z0 z1
  clear hX4
  by_cases h1 : ce = 0
  · subst h1
    have TE0 := Lib.hid (TE.out rfl)
    by_cases h2 : cn = 0
    · subst h2
      have TN0 := Lib.hid (TN.out rfl)
      go_wp2_with (go_at_call 14; refine (nmNum_any _ _).mono ?_; rintro e w' ⟨rfl, rfl⟩)
      rw [← HX4.out]
      refine (TE0.out _ (HT.out _ HBX.out)).mono ?_
      rintro e w5 ⟨rfl, hb⟩
      have B5 := Lib.hid (below_on HBX.out hb)
      have Y5 := K2.out w5 (below_on (below_on D3'.out D4'.out) hb)
      clear hb x0 x1 y0 y1 y2 y3 z0 z1
      obtain ⟨y0, y1, y2, y3⟩ := Y5
      go_wp2_with (go_at_call 14; refine (nmNum_any _ _).mono ?_; rintro e w' ⟨rfl, rfl⟩)
      refine (TN0.out _ (HT.out _ B5.out)).mono ?_
      rintro e w6 ⟨rfl, hb⟩
      have B6 := Lib.hid (below_on B5.out hb)
      clear hb y0 y1 y2 y3
      go_wp2_with (go_at_call 14; refine (nmNum_any _ _).mono ?_; rintro e w' ⟨rfl, rfl⟩)
      refine (nmWorks_any _ (HT.out _ B6.out)).mono ?_
      rintro e w9 ⟨rfl, hb⟩
      have B9 := Lib.hid (below_on B6.out hb)
      clear hb
      go_wp2
      go_ret
      exact ⟨rfl, B9.out⟩
    · have h2' : ((cn : Int) == 0) = false := by simp; omega
      have h2'' : ¬ (cn : Int) = 0 := by omega
      go_wp2_with (go_at_call 14; refine (nmNum_any _ _).mono ?_; rintro e w' ⟨rfl, rfl⟩)
      rw [← HX4.out]
      refine (TE0.out _ (HT.out _ HBX.out)).mono ?_
      rintro e w5 ⟨rfl, hb⟩
      have B5 := Lib.hid (below_on HBX.out hb)
      have Y5 := K2.out w5 (below_on (below_on D3'.out D4'.out) hb)
      clear hb x0 x1 y0 y1 y2 y3 z0 z1
      obtain ⟨y0, y1, y2, y3⟩ := Y5
      go_wp2_with (go_at_call 14; refine (nmNum_any _ _).mono ?_; rintro e w' ⟨rfl, rfl⟩)
      refine (nmWorks_any _ (HT.out _ B5.out)).mono ?_
      rintro e w9 ⟨rfl, hb⟩
      have B9 := Lib.hid (below_on B5.out hb)
      clear hb
      go_wp2
      go_ret
      exact ⟨rfl, B9.out⟩
  · have h1' : ((ce : Int) == 0) = false := by simp; omega
    have h1'' : ¬ (ce : Int) = 0 := by omega
    by_cases h2 : cn = 0
    · subst h2
      have TN0 := Lib.hid (TN.out rfl)
      go_wp2_with (go_at_call 14; refine (nmNum_any _ _).mono ?_; rintro e w' ⟨rfl, rfl⟩)
      rw [← HX4.out]
      refine (TN0.out _ (HT.out _ HBX.out)).mono ?_
      rintro e w6 ⟨rfl, hb⟩
      have B6 := Lib.hid (below_on HBX.out hb)
      clear hb x0 x1 y0 y1 y2 y3 z0 z1
      go_wp2_with (go_at_call 14; refine (nmNum_any _ _).mono ?_; rintro e w' ⟨rfl, rfl⟩)
      refine (nmWorks_any _ (HT.out _ B6.out)).mono ?_
      rintro e w9 ⟨rfl, hb⟩
      have B9 := Lib.hid (below_on B6.out hb)
      clear hb
      go_wp2
      go_ret
      exact ⟨rfl, B9.out⟩
    · have h2' : ((cn : Int) == 0) = false := by simp; omega
      have h2'' : ¬ (cn : Int) = 0 := by omega
      go_wp2_with (go_at_call 14; refine (nmNum_any _ _).mono ?_; rintro e w' ⟨rfl, rfl⟩)
      rw [← HX4.out]
      refine (nmWorks_any _ (HT.out _ HBX.out)).mono ?_
      rintro e w9 ⟨rfl, hb⟩
      have B9 := Lib.hid (below_on HBX.out hb)
      clear hb
      go_wp2
      go_ret
      exact ⟨rfl, B9.out⟩

end Go.Proofs.YtakigkhjijkkhaaDoor
