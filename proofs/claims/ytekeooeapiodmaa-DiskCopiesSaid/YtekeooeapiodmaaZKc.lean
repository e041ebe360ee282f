/- Joined texts. -/
import Derived.Test.YtekeooeapiodmaaZDkR6
import Derived.Test.YtekeooeapiodmaaZDkY
namespace Go.Proofs.Ytekeooeapiodmaa
open Go Go.RowKit Go.Shelf
set_option linter.unusedSimpArgs false
set_option linter.unusedVariables false
set_option maxRecDepth 100000

/-- One of these rows. -/
def inR (R : List (Nat × List Value)) : Nat → List Value → Prop := fun g l => (g, l) ∈ R

variable {K : Nat → Prop} {wk w0 w : World} {p : Nat} {D : DkM} {R : List (Nat × List Value)}

theorem DStK.lt (h : DStK K wk w0 w p D R) {r : Nat × List Value} (hr : r ∈ R) : r.1 < w.heap.size := by obtain ⟨S, _, _, _, _, hR, _⟩ := h; exact (hR r hr).2.2
theorem DStK.size (h : DStK K wk w0 w p D R) : w0.heap.size ≤ w.heap.size := h.below.size
/-- What the document's call answered lies beside the disk. -/
theorem DStK.ref {w' : World} {v : Value} {D' : DkM} {Q : List (Nat × List Value)} (h : DStK K wk w0 w p D Q) (hQ : ∀ r ∈ R, r ∈ Q) (hb : Below w.heap.size w w') (hv : RfV w' (sinceN (inR R) w) v D') :
    ∃ R', DStK K wk w0 w' p D (R' ++ Q) ∧ RfV w' (inR (R' ++ R)) v D' ∧ ∀ r ∈ R', w.heap.size ≤ r.1 := by
  obtain ⟨A1, C1, A2, C2, rfl, h1, h2⟩ := hv
  have key : ∀ (A : Option Addr) (l : List Value), RdO w' (sinceN (inR R) w) A l → ∃ R' : List (Nat × List Value), (∀ r ∈ R', RowB w' r.1 r.2 ∧ w.heap.size ≤ r.1 ∧ r.1 < w'.heap.size) ∧ RdO w' (inR (R' ++ R)) A l := by
    intro A l hA
    rcases hA with h | ⟨g, rfl, hg, hr, hn | hn⟩
    · exact ⟨[], fun r hr => (by cases hr), .inl h⟩
    · exact ⟨[], fun r hr => (by cases hr), .inr ⟨g, rfl, hg, hr, hn⟩⟩
    · refine ⟨[(g, l)], fun r hm => ?_, .inr ⟨g, rfl, hg, hr, List.mem_cons_self ..⟩⟩
      rw [List.mem_singleton.1 hm]
      exact ⟨hr, hn, hg⟩
  obtain ⟨R1, a1, b1⟩ := key A1 _ h1
  obtain ⟨R2, a2, b2⟩ := key A2 _ h2
  have hm : ∀ r ∈ R1 ++ R2, RowB w' r.1 r.2 ∧ w.heap.size ≤ r.1 ∧ r.1 < w'.heap.size := fun r hr => by
    rcases List.mem_append.1 hr with hr | hr
    · exact a1 r hr
    · exact a2 r hr
  refine ⟨R1 ++ R2, h.adds hb hm, ⟨A1, C1, A2, C2, rfl, b1.mono fun g l _ h => ?_, b2.mono fun g l _ h => ?_⟩, fun r hr => (hm r hr).2.1⟩
  · show (g, l) ∈ (R1 ++ R2) ++ R
    have h : (g, l) ∈ R1 ++ R := h
    simp only [List.mem_append] at h ⊢
    rcases h with h | h
    · exact .inl (.inl h)
    · exact .inr h
  · show (g, l) ∈ (R1 ++ R2) ++ R
    have h : (g, l) ∈ R2 ++ R := h
    simp only [List.mem_append] at h ⊢
    rcases h with h | h
    · exact .inl (.inr h)
    · exact .inr h
/-- The document's disk, as long as its rows stand. -/
theorem RfV.stay {w' : World} {v : Value} {E : DkM} {R' : List (Nat × List Value)} (h : RfV w (inR R) v E) (h2 : DStK K wk w0 w' p D R') (hs : ∀ r ∈ R, r ∈ R') : RfV w' (inR R') v E := by
  obtain ⟨A1, C1, A2, C2, rfl, h1, h3⟩ := h
  have key : ∀ (A : Option Addr) (l : List Value), RdO w (inR R) A l → RdO w' (inR R') A l := by
    intro A l hA
    rcases hA with h | ⟨g, rfl, hg, hr, hn⟩
    · exact .inl h
    · exact .inr ⟨g, rfl, h2.lt (hs _ hn), h2.row (hs _ hn), hs _ hn⟩
  exact ⟨A1, C1, A2, C2, rfl, key _ _ h1, key _ _ h3⟩
theorem RfV.sub {v : Value} {E : DkM} {R' : List (Nat × List Value)} (h : RfV w (inR R) v E) (hs : ∀ r ∈ R, r ∈ R') : RfV w (inR R') v E := h.mono fun g l _ h => hs _ h
/-- A store into a row that is none of the others. -/
theorem DStK.setH {g : Nat} {vs : List Value} (h : DStK K wk w0 w p D ((g, vs) :: R)) (hg : w0.heap.size ≤ g) (hne : ∀ r ∈ R, r.1 ≠ g) (i : Nat) (v : Value) : DStK K wk w0 (w.setCell ⟨g, i, none⟩ v) p D ((g, vs.set i v) :: R) := by
  obtain ⟨S, hd, hok, hS, hB, hR, hK⟩ := h
  obtain ⟨hr, hn, hl⟩ := hR _ (List.mem_cons_self ..)
  refine ⟨S, hd.kept (fun b hb _ => Below.heap_setCell _ _ _ _ (by rintro rfl; exact hn hb)) fun _ h => h, hok, fun b h => ⟨(hS b h).1, by rw [World.size_setCell]; exact (hS b h).2⟩, hB.setCell hg _, fun r hm => ?_, fun b hb => ?_⟩
  rotate_left
  · obtain ⟨k1, k2, k3, k4⟩ := hK b hb
    have hgb : g ≠ b := k4 _ (List.mem_cons_self ..)
    exact ⟨(Below.heap_setCell _ _ _ _ (Ne.symm hgb)).trans k1, k2, by rw [World.size_setCell]; exact k3, fun r hr => by
      rcases List.mem_cons.1 hr with rfl | hr
      · exact hgb
      · exact k4 r (List.mem_cons_of_mem _ hr)⟩
  rcases List.mem_cons.1 hm with rfl | hm
  · exact ⟨hr.set i v, hn, by rw [World.size_setCell]; exact hl⟩
  · obtain ⟨a, b, c⟩ := hR r (List.mem_cons_of_mem _ hm)
    exact ⟨a.other (Ne.symm (hne r hm)) _, b, by rw [World.size_setCell]; exact c⟩
theorem DStK.set3H {g : Nat} {u0 u1 u2 : Value} (h : DStK K wk w0 w p D ((g, [u0, u1, u2]) :: R)) (hg : w0.heap.size ≤ g) (hne : ∀ r ∈ R, r.1 ≠ g) (c0 c1 c2 : Value) : DStK K wk w0 (set3 w g c0 c1 c2) p D ((g, [c0, c1, c2]) :: R) :=
  ((h.setH hg hne 0 c0).setH hg hne 1 c1).setH hg hne 2 c2
theorem DStK.alloc1 (h : DStK K wk w0 w p D R) (vs : List Value) (t : TypeId) : DStK K wk w0 (w.alloc (.cells vs.toArray t)) p D ((w.heap.size, vs) :: R) :=
  h.adds (R' := [(w.heap.size, vs)]) (below_al (Below.refl _ _) _) fun r hm => by
    rw [List.mem_singleton.1 hm]
    exact ⟨RowB.new w vs t, Nat.le_refl _, by simp⟩
theorem DStK.drew (h : DStK K wk w0 w p D R) : DStK K wk w0 w.drew p D R := h.on (Below.refl _ _).drew
theorem DStK.read2 (h : DStK K wk w0 w p D R) (k : Int) :
    Calls Try.prog 24 #[.pointer (some ⟨p, 0, none⟩), .int .i64 k] w fun e w' => Below w.heap.size w w' ∧ ((hasS D.n k = true ∧ ∃ g, e = .returned (.tuple #[.slice (some ⟨g, 0, none⟩) 64 64, .int .i64 0]) ∧ DStK K wk w0 w' p D ((g, (D.shown k).map encB) :: R) ∧ w.heap.size ≤ g ∧ (D.shown k).length = 64) ∨ (hasS D.n k = false ∧ e = .returned (.tuple #[.slice none 0 0, .int .i64 4]))) := by
  have h1 := h
  obtain ⟨S, hd, hok, hS, hB, hR⟩ := h
  refine (read_any S p D hok k w hd).mono ?_
  rintro e w' ⟨hb, ⟨hk, g, rfl, hr, hg⟩ | hz⟩
  · exact ⟨hb, .inl ⟨hk, g, rfl, h1.add hb hr.1 hg hr.lt, hg, hr.2⟩⟩
  · exact ⟨hb, .inr hz⟩
theorem DStK.lies2 (h : DStK K wk w0 w p D R) (k : Int) :
    Calls Try.prog 29 #[.pointer (some ⟨p, 0, none⟩), .int .i64 k] w fun e w' => Below w.heap.size w w' ∧ ((hasS D.n k = true ∧ ∃ g, e = .returned (.tuple #[.slice (some ⟨g, 0, none⟩) 64 64, .int .i64 0]) ∧ DStK K wk w0 w' p D ((g, (D.lie k).map encB) :: R) ∧ w.heap.size ≤ g ∧ (D.lie k).length = 64) ∨ (hasS D.n k = false ∧ e = .returned (.tuple #[.slice none 0 0, .int .i64 4]))) := by
  have h1 := h
  obtain ⟨S, hd, hok, hS, hB, hR⟩ := h
  refine (lies_any S p D hok k w hd).mono ?_
  rintro e w' ⟨hb, ⟨hk, g, rfl, hr, hg⟩ | hz⟩
  · exact ⟨hb, .inl ⟨hk, g, rfl, h1.add hb hr.1 hg hr.lt, hg, hr.2⟩⟩
  · exact ⟨hb, .inr hz⟩
/-- Write, whatever it answers. -/
theorem DStK.write2 (h : DStK K wk w0 w p D R) (k : Int) (hkk : -9223372036854775808 ≤ k ∧ k < 9223372036854775808) (a : Option Addr) (c : Nat) (bs : List UInt8) (hfew : D.wt.length < 1000000) (hc : bs.length ≤ c) (hr : RdB w w.heap.size a bs) :
    Calls Try.prog 19 #[.pointer (some ⟨p, 0, none⟩), .int .i64 k, .slice a bs.length c] w fun e w' => e = .returned (.int .i64 (D.wrE k bs.length)) ∧ DStK K wk w0 w' p (if D.wrE k bs.length = 0 then D.wrote k bs else D) R := by
  by_cases h0 : D.wrE k bs.length = 0
  · rw [h0, if_pos rfl]
    have h64 : bs.length = 64 := by
      unfold DkM.wrE at h0
      by_cases h : bs.length = 64
      · exact h
      · rw [if_pos h] at h0; cases h0
    exact h.wrote k hkk a c bs hfew hc hr h0 h64
  · rw [if_neg h0]
    exact (h.wroteNot k hkk a c bs hfew hc hr _ rfl h0).mono fun e w' hh => ⟨hh.1, hh.2.1⟩
theorem DStK.sync2 (h : DStK K wk w0 w p D R) :
    Calls Try.prog 21 #[.pointer (some ⟨p, 0, none⟩)] w fun e w' => e = .returned (.int .i64 (if D.left = 0 then 190 else 0)) ∧ DStK K wk w0 w' p (if D.left = 0 then D else D.synced) R := by
  by_cases h0 : D.left = 0
  · rw [if_pos h0, if_pos h0]
    exact (h.syncNot h0).mono fun e w' hh => ⟨hh.1, hh.2.1⟩
  · rw [if_neg h0, if_neg h0]
    exact h.sync h0

/-- What a call of the law makes of a disk. -/
def actB (more : Int) (bt : UInt8) : List UInt8 := if 0 < more then List.replicate (more - 1).toNat 0 else fullB bt
def nextM (D : DkM) (what k more : Int) (bt : UInt8) (keep : List Bool) : DkM :=
  if what = 0 then (if D.wrE k (actB more bt).length = 0 then D.wrote k (actB more bt) else D)
  else if what = 2 then (if D.left = 0 then D else D.synced)
  else if what = 3 then D.crashed keep
  else if what = 4 then D.armM more
  else D
theorem wrote_pl {D : DkM} (h : D.pl) {k : Int} {s : List UInt8} (h0 : D.wrE k s.length = 0) : (D.wrote k s).pl := by
  have hh : hasS D.n k = true := by
    unfold DkM.wrE at h0
    by_cases h1 : s.length = 64
    · rw [if_neg (fun h => h h1)] at h0
      cases hq : hasS D.n k
      · rw [hq, if_pos rfl] at h0; cases h0
      · rfl
    · rw [if_pos h1] at h0; cases h0
  intro x hx
  have hx : x ∈ D.wt ++ [(k, s)] := hx
  show hasS D.n x.1 = true
  rcases List.mem_append.1 hx with hx | hx
  · exact h x hx
  · rw [List.mem_singleton.1 hx]; exact hh
theorem next_pl {D : DkM} (h : D.pl) (what k more : Int) (bt : UInt8) (keep : List Bool) : (nextM D what k more bt keep).pl := by
  unfold nextM
  split
  · split
    · rename_i h0
      exact wrote_pl h h0
    · exact h
  · split
    · split
      · exact h
      · intro x hx; cases hx
    · split
      · intro x hx; cases hx
      · split
        · exact h
        · exact h
theorem next_few (D : DkM) (what k more : Int) (bt : UInt8) (keep : List Bool) : (nextM D what k more bt keep).wt.length ≤ D.wt.length + 1 := by
  unfold nextM
  split
  · split
    · show (D.wt ++ [(k, _)]).length ≤ _
      rw [List.length_append]
      exact Nat.le_refl _
    · exact Nat.le_succ _
  · split
    · split
      · exact Nat.le_succ _
      · exact Nat.zero_le _
    · split
      · exact Nat.zero_le _
      · split
        · exact Nat.le_succ _
        · exact Nat.le_succ _
/-- What act answers: true, and both disks as they should be. -/
def ActP (K : Nat → Prop) (wk w0 : World) (p : Nat) (D : DkM) (R : List (Nat × List Value)) (e : Ending) (w' : World) : Prop :=
  ∃ v' R', e = .returned (.tuple #[v', .bool true]) ∧ DStK K wk w0 w' p D (R' ++ R) ∧ RfV w' (inR (R' ++ R)) v' D
/-- The boxes of act. -/
def boxA (b : Nat) (vs xs : List Value) : List (Nat × List Value) := [(b + 2, [.slice none 0 0, .slice none 0 0, .int .i64 0]), (b + 1, xs), (b, vs)]
theorem act_start (h : DStK K wk w0 w p D R) (vs xs : List Value) (t u : TypeId) : DStK K wk w0 (((w.alloc (.cells vs.toArray t)).alloc (.cells xs.toArray u)).alloc (.cells #[.slice none 0 0, .slice none 0 0, .int .i64 0] t)) p D (boxA w.heap.size vs xs ++ R) := by
  have h3 := ((h.alloc1 vs t).alloc1 xs u).alloc1 [.slice none 0 0, .slice none 0 0, .int .i64 0] t
  rw [World.size_alloc, World.size_alloc] at h3
  exact h3
theorem act_end {b : Nat} {vs xs : List Value} {R' : List (Nat × List Value)} {c0 c1 c2 : Value} (h : DStK K wk w0 w p D (R' ++ (boxA b vs xs ++ R))) (hv : RfV w (inR (R' ++ R)) (.agg #[c0, c1, c2]) D) (hR' : ∀ r ∈ R', b + 2 < r.1) (hR : ∀ r ∈ R, r.1 < b) (hw : w0.heap.size ≤ b) :
    RowB (set3 w (b + 2) c0 c1 c2) (b + 2) [c0, c1, c2] ∧ DStK K wk w0 (set3 w (b + 2) c0 c1 c2) p D (R' ++ R) ∧ RfV (set3 w (b + 2) c0 c1 c2) (inR (R' ++ R)) (.agg #[c0, c1, c2]) D := by
  have h1 : DStK K wk w0 w p D ((b + 2, [.slice none 0 0, .slice none 0 0, .int .i64 0]) :: (R' ++ R)) := h.sub fun r hr => by
    simp only [boxA, List.mem_append, List.mem_cons] at hr ⊢
    rcases hr with hr | hr | hr
    · exact .inr (.inl (.inl hr))
    · exact .inl hr
    · exact .inr (.inr hr)
  have h2 := h1.set3H (by omega) (fun r hr => by
    rcases List.mem_append.1 hr with hr | hr
    · have := hR' r hr; omega
    · have := hR r hr; omega) c0 c1 c2
  have h3 := h2.sub (R' := R' ++ R) fun r hr => List.mem_cons_of_mem _ hr
  exact ⟨h2.row (List.mem_cons_self ..), h3, hv.stay h3 fun r hr => hr⟩
theorem box_w {b : Nat} {vs xs : List Value} {R' : List (Nat × List Value)} : ((b, vs) : Nat × List Value) ∈ R' ++ (boxA b vs xs ++ R) := List.mem_append_right _ (List.mem_append_left _ (by simp [boxA]))
theorem box_x {b : Nat} {vs xs : List Value} {R' : List (Nat × List Value)} : ((b + 1, xs) : Nat × List Value) ∈ R' ++ (boxA b vs xs ++ R) := List.mem_append_right _ (List.mem_append_left _ (by simp [boxA]))
theorem box_r {b : Nat} {vs xs : List Value} {R' : List (Nat × List Value)} : ((b + 2, [.slice none 0 0, .slice none 0 0, .int .i64 0]) : Nat × List Value) ∈ R' ++ (boxA b vs xs ++ R) := List.mem_append_right _ (List.mem_append_left _ (by simp [boxA]))
theorem box_R {b : Nat} {vs xs : List Value} {R' : List (Nat × List Value)} : ∀ r ∈ R, r ∈ R' ++ (boxA b vs xs ++ R) := fun r hr => List.mem_append_right _ (List.mem_append_right _ hr)

end Go.Proofs.Ytekeooeapiodmaa

namespace Go.Proofs.Ytekeooeapiodmaa
open Go Go.RowKit Go.Shelf
set_option linter.unusedSimpArgs false
set_option linter.unusedVariables false
set_option maxRecDepth 100000

attribute [local go_sem] Oper.semAt_some

variable {Kp : Nat → Prop} {wk : World}

theorem act_S2 {w0 w' w : World} {p n n2 : Nat} {D : DkM} {R' R : List (Nat × List Value)} {A1 A2 kA : Option Addr} {C1 C2 kC nk : Nat} {l wh ka mo by_ : Int} (h : DStK Kp wk w0 w' p D (R' ++ (boxA w.heap.size [.slice A1 n C1, .slice A2 n2 C2, .int .i64 l] [.int .i64 wh, .int .i64 ka, .int .i64 mo, .int .u8 by_, .slice kA nk kC] ++ R))) :
    (w'.cell? ⟨w.heap.size, 0, none⟩ = some (.slice A1 n C1) ∧ w'.cell? ⟨w.heap.size, 1, none⟩ = some (.slice A2 n2 C2) ∧ w'.cell? ⟨w.heap.size, 2, none⟩ = some (.int .i64 l)) ∧ w'.cell? ⟨w.heap.size + 1, 2, none⟩ = some (.int .i64 mo) :=
  ⟨(r3 (h.row box_w)).1, (h.row box_x).1 2 _ rfl⟩
theorem act_T2 {w0 w' w : World} {p n n2 : Nat} {D : DkM} {R' R : List (Nat × List Value)} {A1 A2 kA : Option Addr} {C1 C2 kC nk : Nat} {l wh ka mo by_ : Int} (h : DStK Kp wk w0 w' p D (R' ++ (boxA w.heap.size [.slice A1 n C1, .slice A2 n2 C2, .int .i64 l] [.int .i64 wh, .int .i64 ka, .int .i64 mo, .int .u8 by_, .slice kA nk kC] ++ R))) (c0 c1 c2 : Value) :
    ((set3 w' (w.heap.size + 2) c0 c1 c2).cell? ⟨w.heap.size, 0, none⟩ = some (.slice A1 n C1) ∧ (set3 w' (w.heap.size + 2) c0 c1 c2).cell? ⟨w.heap.size, 1, none⟩ = some (.slice A2 n2 C2) ∧ (set3 w' (w.heap.size + 2) c0 c1 c2).cell? ⟨w.heap.size, 2, none⟩ = some (.int .i64 l)) ∧ (set3 w' (w.heap.size + 2) c0 c1 c2).cell? ⟨w.heap.size + 1, 2, none⟩ = some (.int .i64 mo) :=
  ⟨(r3 (set3_other (h.row box_w) (by omega) c0 c1 c2)).1, (set3_other (h.row box_x) (by omega) c0 c1 c2).1 2 _ rfl⟩
theorem act_S4 {w0 w' w : World} {p n n2 : Nat} {D : DkM} {R' R : List (Nat × List Value)} {A1 A2 kA : Option Addr} {C1 C2 kC nk : Nat} {l wh ka mo by_ : Int} (h : DStK Kp wk w0 w' p D (R' ++ (boxA w.heap.size [.slice A1 n C1, .slice A2 n2 C2, .int .i64 l] [.int .i64 wh, .int .i64 ka, .int .i64 mo, .int .u8 by_, .slice kA nk kC] ++ R))) :
    (w'.cell? ⟨w.heap.size, 0, none⟩ = some (.slice A1 n C1) ∧ w'.cell? ⟨w.heap.size, 1, none⟩ = some (.slice A2 n2 C2) ∧ w'.cell? ⟨w.heap.size, 2, none⟩ = some (.int .i64 l)) ∧ w'.cell? ⟨w.heap.size + 1, 4, none⟩ = some (.slice kA nk kC) :=
  ⟨(r3 (h.row box_w)).1, (h.row box_x).1 4 _ rfl⟩
theorem act_T4 {w0 w' w : World} {p n n2 : Nat} {D : DkM} {R' R : List (Nat × List Value)} {A1 A2 kA : Option Addr} {C1 C2 kC nk : Nat} {l wh ka mo by_ : Int} (h : DStK Kp wk w0 w' p D (R' ++ (boxA w.heap.size [.slice A1 n C1, .slice A2 n2 C2, .int .i64 l] [.int .i64 wh, .int .i64 ka, .int .i64 mo, .int .u8 by_, .slice kA nk kC] ++ R))) (c0 c1 c2 : Value) :
    ((set3 w' (w.heap.size + 2) c0 c1 c2).cell? ⟨w.heap.size, 0, none⟩ = some (.slice A1 n C1) ∧ (set3 w' (w.heap.size + 2) c0 c1 c2).cell? ⟨w.heap.size, 1, none⟩ = some (.slice A2 n2 C2) ∧ (set3 w' (w.heap.size + 2) c0 c1 c2).cell? ⟨w.heap.size, 2, none⟩ = some (.int .i64 l)) ∧ (set3 w' (w.heap.size + 2) c0 c1 c2).cell? ⟨w.heap.size + 1, 4, none⟩ = some (.slice kA nk kC) :=
  ⟨(r3 (set3_other (h.row box_w) (by omega) c0 c1 c2)).1, (set3_other (h.row box_x) (by omega) c0 c1 c2).1 4 _ rfl⟩

set_option maxHeartbeats 16000000 in
theorem act_arm (w0 w : World) (p : Nat) (D : DkM) (R : List (Nat × List Value)) (v : Value) (h : DStK Kp wk w0 w p D R) (hpl : D.pl) (hfew : D.wt.length < 1000000) (hv : RfV w (inR R) v D) (ka mo by_ : Int) (kA : Option Addr) (kC : Nat) (keep : List Bool) (hmo : -9223372036854775808 ≤ mo ∧ mo < 9223372036854775808) :
    Calls Try.prog 12 #[.pointer (some ⟨p, 0, none⟩), v, .agg #[.int .i64 4, .int .i64 ka, .int .i64 mo, .int .u8 by_, .slice kA keep.length kC]] w (ActP Kp wk w0 p (D.armM mo) R) := by
  have HOk := Lib.hid h.ok
  have HPl := Lib.hid hpl
  have HFew := Lib.hid hfew
  have HLt : Hid (∀ r ∈ R, r.1 < w.heap.size) := fun r hr => h.lt hr
  have HSz : Hid (w0.heap.size ≤ w.heap.size) := h.size
  obtain ⟨A1, C1, A2, C2, rfl, q1, q2⟩ := hv
  have hv : RfV w (inR R) (.agg #[.slice A1 D.n C1, .slice A2 D.wt.length C2, .int .i64 D.left]) D := ⟨A1, C1, A2, C2, rfl, q1, q2⟩
  have HV := Lib.hid hv
  obtain ⟨W, hW⟩ : ∃ W, W = ((w.alloc (.cells #[.slice A1 D.n C1, .slice A2 D.wt.length C2, .int .i64 D.left] 30)).alloc (.cells #[.int .i64 4, .int .i64 ka, .int .i64 mo, .int .u8 by_, .slice kA keep.length kC] 40)).alloc (.cells #[.slice none 0 0, .slice none 0 0, .int .i64 0] 30) := ⟨_, rfl⟩
  have HWz : Hid (W.heap.size = w.heap.size + 3) := by rw [Hid, hW]; simp
  have HD0 : Hid (DStK Kp wk w0 W p D ([] ++ (boxA w.heap.size [.slice A1 D.n C1, .slice A2 D.wt.length C2, .int .i64 D.left] [.int .i64 4, .int .i64 ka, .int .i64 mo, .int .u8 by_, .slice kA keep.length kC] ++ R))) := by rw [hW]; exact act_start h _ _ _ _
  have HW := Lib.hid hW
  clear h hpl hfew hv q1 q2 hW
  have HMo := Lib.hid hmo
  clear hmo
  obtain ⟨x0, x1, x2, x3, x4⟩ := r5 (HD0.out.row box_x)
  go_enter Try.func12, Try.ntmps12
  go_upto_region 1 with fail
  rw [← HW.out]
  go_upto_region 19 with fail
  clear x0 x1 x2 x3 x4
  obtain ⟨wd, hwd⟩ : ∃ wd, wd = W.drew := ⟨_, rfl⟩
  have HDd : Hid (DStK Kp wk w0 wd p D ([] ++ (boxA w.heap.size [.slice A1 D.n C1, .slice A2 D.wt.length C2, .int .i64 D.left] [.int .i64 4, .int .i64 ka, .int .i64 mo, .int .u8 by_, .slice kA keep.length kC] ++ R))) := by rw [hwd]; exact HD0.out.drew
  have HVd : Hid (RfV wd (inR ([] ++ R)) (.agg #[.slice A1 D.n C1, .slice A2 D.wt.length C2, .int .i64 D.left]) D) := HV.out.stay (R' := [] ++ R) (HDd.out.sub fun r hr => box_R r hr) fun r hr => hr
  have HWd := Lib.hid hwd
  have HZd : Hid (wd.heap.size = w.heap.size + 3) := by rw [hwd]; exact HWz.out
  clear hwd
  refine wp_region_T (fun w' => (w'.cell? ⟨w.heap.size, 0, none⟩ = some (.slice A1 D.n C1) ∧ w'.cell? ⟨w.heap.size, 1, none⟩ = some (.slice A2 D.wt.length C2) ∧ w'.cell? ⟨w.heap.size, 2, none⟩ = some (.int .i64 D.left)) ∧ w'.cell? ⟨w.heap.size + 1, 2, none⟩ = some (.int .i64 mo)) 11 (by kernel_rfl) ?_
  rw [← HWd.out]
  refine wpAnyT_take (i := 0) (v := ?_) rfl (by kernel_rfl) (by kernel_rfl) (by kernel_rfl) (by kernel_rfl) (fun _ _ _ h => h) (Or.inl ⟨by rfl, ?_⟩) (act_S2 HDd.out) ?_
  rotate_left
  · intro w hSw
    (try dsimp only at hSw)
    go_simp
    all_goals with_reducible rfl
  simp only [Act.put, List.setIfInBounds_toArray, List.set_cons_zero, List.set_cons_succ]
  refine wpAnyT_take (i := 1) (v := ?_) rfl (by kernel_rfl) (by kernel_rfl) (by kernel_rfl) (by kernel_rfl) (fun _ _ _ h => h) (Or.inl ⟨by rfl, ?_⟩) (act_S2 HDd.out) ?_
  rotate_left
  · intro w hSw
    (try dsimp only at hSw)
    go_simp
    all_goals with_reducible rfl
  simp only [Act.put, List.setIfInBounds_toArray, List.set_cons_zero, List.set_cons_succ]
  refine wpAnyT_take (i := 2) (v := ?_) rfl (by kernel_rfl) (by kernel_rfl) (by kernel_rfl) (by kernel_rfl) (fun _ _ _ h => h) (Or.inl ⟨by rfl, ?_⟩) (act_S2 HDd.out) ?_
  rotate_left
  · intro w hSw
    (try dsimp only at hSw)
    go_simp
    all_goals with_reducible rfl
  simp only [Act.put, List.setIfInBounds_toArray, List.set_cons_zero, List.set_cons_succ]
  refine wpAnyT_take (i := 4) (v := ?_) rfl (by kernel_rfl) (by kernel_rfl) (by kernel_rfl) (by kernel_rfl) (fun _ _ _ h => h) (Or.inl ⟨by rfl, ?_⟩) (act_S2 HDd.out) ?_
  rotate_left
  · intro w hSw
    (try dsimp only at hSw)
    go_simp
    all_goals with_reducible rfl
  simp only [Act.put, List.setIfInBounds_toArray, List.set_cons_zero, List.set_cons_succ]
  refine wpAnyT_take (i := 5) (v := ?_) rfl (by kernel_rfl) (by kernel_rfl) (by kernel_rfl) (by kernel_rfl) (fun _ _ _ h => h) (Or.inl ⟨by rfl, ?_⟩) (act_S2 HDd.out) ?_
  rotate_left
  · intro w hSw
    (try dsimp only at hSw)
    go_simp
    all_goals with_reducible rfl
  simp only [Act.put, List.setIfInBounds_toArray, List.set_cons_zero, List.set_cons_succ]
  refine wpAnyT_take (i := 6) (v := ?_) rfl (by kernel_rfl) (by kernel_rfl) (by kernel_rfl) (by kernel_rfl) (fun _ _ _ h => h) (Or.inl ⟨by rfl, ?_⟩) (act_S2 HDd.out) ?_
  rotate_left
  · intro w hSw
    (try dsimp only at hSw)
    go_simp
    all_goals with_reducible rfl
  simp only [Act.put, List.setIfInBounds_toArray, List.set_cons_zero, List.set_cons_succ]
  refine wpAnyT_one (i := 3) (by kernel_rfl) rfl (fun K hK => ?_)
  go_simp
  refine (rarm_any (inR ([] ++ R)) D _ mo HMo.out _ HVd.out).mono ?_
  rintro e w1 ⟨vr, rfl, hvr, hb1⟩
  obtain ⟨R', hd1, hv1, hR'⟩ := DStK.ref (R := [] ++ R) HDd.out (fun r hr => box_R r hr) hb1 (hvr.mono fun g l _ h => .inl h)
  have HD1 : Hid (DStK Kp wk w0 w1 p D (R' ++ (boxA w.heap.size [.slice A1 D.n C1, .slice A2 D.wt.length C2, .int .i64 D.left] [.int .i64 4, .int .i64 ka, .int .i64 mo, .int .u8 by_, .slice kA keep.length kC] ++ R))) := hd1
  have HR' : Hid (∀ r ∈ R', w.heap.size + 2 < r.1) := fun r hr => by have := hR' r hr; have := HZd.out; omega
  obtain ⟨A3, C3, A4, C4, rfl, q3, q4⟩ := hv1
  have HV3 : Hid (RfV w1 (inR (R' ++ R)) (.agg #[.slice A3 (D.armM mo).n C3, .slice A4 (D.armM mo).wt.length C4, .int .i64 (D.armM mo).left]) (D.armM mo)) := ⟨A3, C3, A4, C4, rfl, q3, q4⟩
  clear hvr hb1 hd1 hR' q3 q4
  refine hK.out _ _ (fun _ => (act_S2 HD1.out)) ?_
  clear hK K
  try simp only [Act.put, List.setIfInBounds_toArray, List.set_cons_zero, List.set_cons_succ]
  refine wpAnyT_one (i := 7) (by kernel_rfl) rfl (fun K hK => ?_)
  go_simp
  refine (DStK.arm HD1.out mo HMo.out).mono ?_
  rintro e w2 ⟨rfl, hd2⟩
  have HD2 : Hid (DStK Kp wk w0 w2 p (D.armM mo) (R' ++ (boxA w.heap.size [.slice A1 D.n C1, .slice A2 D.wt.length C2, .int .i64 D.left] [.int .i64 4, .int .i64 ka, .int .i64 mo, .int .u8 by_, .slice kA keep.length kC] ++ R))) := hd2
  clear hd2
  refine hK.out _ _ (fun _ => (act_S2 HD2.out)) ?_
  clear hK K
  try simp only [Act.put, List.setIfInBounds_toArray, List.set_cons_zero, List.set_cons_succ]
  refine wpAnyT_one (i := 8) (by kernel_rfl) rfl (fun K hK => ?_)
  go_simp
  refine (dknum_any 0 _).mono ?_
  rintro e9 w9 ⟨rfl, h9⟩
  rw [← h9]
  clear h9 w9
  refine hK.out _ _ (fun _ => (act_S2 HD2.out)) ?_
  clear hK K
  try simp only [Act.put, List.setIfInBounds_toArray, List.set_cons_zero, List.set_cons_succ]
  refine wpAnyT_take (i := 9) (v := ?_) rfl (by kernel_rfl) (by kernel_rfl) (by kernel_rfl) (by kernel_rfl) (fun _ _ _ h => h) (Or.inl ⟨by rfl, ?_⟩) (act_S2 HD2.out) ?_
  rotate_left
  · intro w hSw
    (try dsimp only at hSw)
    go_simp
    all_goals with_reducible rfl
  simp only [Act.put, List.setIfInBounds_toArray, List.set_cons_zero, List.set_cons_succ]
  refine wpAnyT_one (i := 10) (by kernel_rfl) rfl (fun K hK => ?_)
  obtain ⟨⟨y0, y1, y2⟩, f0, f1, f2⟩ := r3 (HD2.out.row box_r)
  go_simp
  refine hK.out _ _ (fun _ => (act_T2 HD2.out _ _ _)) ?_
  clear hK K
  try simp only [Act.put, List.setIfInBounds_toArray, List.set_cons_zero, List.set_cons_succ]
  refine wpAnyT_one (i := 11) (by kernel_rfl) rfl (fun K hK => ?_)
  go_simp
  refine hK.out _ _ (fun h => absurd h (by decide)) ?_
  clear hK K
  try simp only [Act.put, List.setIfInBounds_toArray, List.set_cons_zero, List.set_cons_succ]
  refine wpAnyT_done (by kernel_rfl) ?_ _
  have HE := Lib.hid (act_end (c0 := .slice A3 (D.armM mo).n C3) (c1 := .slice A4 (D.armM mo).wt.length C4) (c2 := .int .i64 (D.armM mo).left) HD2.out (HV3.out.stay (HD2.out.sub (R' := R' ++ R) fun r hr => by rcases List.mem_append.1 hr with hr | hr; exact List.mem_append_left _ hr; exact box_R r hr) fun r hr => hr) HR'.out HLt.out HSz.out)
  go_wp2_with fail
  refine bodyPost_ret (results_two rfl (by rfl) (by rfl) (rf_load HE.out.1)) rfl ?_
  exact ⟨_, _, rfl, HE.out.2.1, HE.out.2.2⟩

set_option maxHeartbeats 16000000 in
theorem act_crash (w0 w : World) (p : Nat) (D : DkM) (R : List (Nat × List Value)) (v : Value) (h : DStK Kp wk w0 w p D R) (hpl : D.pl) (hfew : D.wt.length < 1000000) (hv : RfV w (inR R) v D) (ka mo by_ : Int) (kA : Option Addr) (kC : Nat) (keep : List Bool) (hk : RdT w0 w0.heap.size kA keep) (hkl : keep.length ≤ 60) :
    Calls Try.prog 12 #[.pointer (some ⟨p, 0, none⟩), v, .agg #[.int .i64 3, .int .i64 ka, .int .i64 mo, .int .u8 by_, .slice kA keep.length kC]] w (ActP Kp wk w0 p (D.crashed keep) R) := by
  have HOk := Lib.hid h.ok
  have HPl := Lib.hid hpl
  have HFew := Lib.hid hfew
  have HLt : Hid (∀ r ∈ R, r.1 < w.heap.size) := fun r hr => h.lt hr
  have HSz : Hid (w0.heap.size ≤ w.heap.size) := h.size
  obtain ⟨A1, C1, A2, C2, rfl, q1, q2⟩ := hv
  have hv : RfV w (inR R) (.agg #[.slice A1 D.n C1, .slice A2 D.wt.length C2, .int .i64 D.left]) D := ⟨A1, C1, A2, C2, rfl, q1, q2⟩
  have HV := Lib.hid hv
  obtain ⟨W, hW⟩ : ∃ W, W = ((w.alloc (.cells #[.slice A1 D.n C1, .slice A2 D.wt.length C2, .int .i64 D.left] 30)).alloc (.cells #[.int .i64 3, .int .i64 ka, .int .i64 mo, .int .u8 by_, .slice kA keep.length kC] 40)).alloc (.cells #[.slice none 0 0, .slice none 0 0, .int .i64 0] 30) := ⟨_, rfl⟩
  have HWz : Hid (W.heap.size = w.heap.size + 3) := by rw [Hid, hW]; simp
  have HD0 : Hid (DStK Kp wk w0 W p D ([] ++ (boxA w.heap.size [.slice A1 D.n C1, .slice A2 D.wt.length C2, .int .i64 D.left] [.int .i64 3, .int .i64 ka, .int .i64 mo, .int .u8 by_, .slice kA keep.length kC] ++ R))) := by rw [hW]; exact act_start h _ _ _ _
  have HW := Lib.hid hW
  clear h hpl hfew hv q1 q2 hW
  have HKl := Lib.hid hkl
  have HKt : Hid (∀ (D' : DkM) {w' : World} {Q : List (Nat × List Value)}, DStK Kp wk w0 w' p D' Q → RdT w' w'.heap.size kA keep) := fun D' w' Q h => by
    rcases hk with h1 | ⟨g, o, rfl, hg, hc⟩
    · exact .inl h1
    · exact .inr ⟨g, o, rfl, Nat.lt_of_lt_of_le hg h.size, fun k q hq => (h.below.cell (p := ⟨g, o + k, none⟩) hg).trans (hc k q hq)⟩
  have HKa : Hid (keep ≠ [] → ∀ q, kA = some q → q.block < w0.heap.size) := fun hne q hq => by
    rcases hk with h | ⟨g, o, h, hg, _⟩
    · exact absurd h hne
    · rw [h] at hq; injection hq with hq; subst hq; exact hg
  clear hk hkl
  obtain ⟨x0, x1, x2, x3, x4⟩ := r5 (HD0.out.row box_x)
  go_enter Try.func12, Try.ntmps12
  go_upto_region 1 with fail
  rw [← HW.out]
  go_upto_region 17 with fail
  clear x0 x1 x2 x3 x4
  obtain ⟨wd, hwd⟩ : ∃ wd, wd = W.drew := ⟨_, rfl⟩
  have HDd : Hid (DStK Kp wk w0 wd p D ([] ++ (boxA w.heap.size [.slice A1 D.n C1, .slice A2 D.wt.length C2, .int .i64 D.left] [.int .i64 3, .int .i64 ka, .int .i64 mo, .int .u8 by_, .slice kA keep.length kC] ++ R))) := by rw [hwd]; exact HD0.out.drew
  have HVd : Hid (RfV wd (inR ([] ++ R)) (.agg #[.slice A1 D.n C1, .slice A2 D.wt.length C2, .int .i64 D.left]) D) := HV.out.stay (R' := [] ++ R) (HDd.out.sub fun r hr => box_R r hr) fun r hr => hr
  have HWd := Lib.hid hwd
  have HZd : Hid (wd.heap.size = w.heap.size + 3) := by rw [hwd]; exact HWz.out
  clear hwd
  refine wp_region_T (fun w' => (w'.cell? ⟨w.heap.size, 0, none⟩ = some (.slice A1 D.n C1) ∧ w'.cell? ⟨w.heap.size, 1, none⟩ = some (.slice A2 D.wt.length C2) ∧ w'.cell? ⟨w.heap.size, 2, none⟩ = some (.int .i64 D.left)) ∧ w'.cell? ⟨w.heap.size + 1, 4, none⟩ = some (.slice kA keep.length kC)) 11 (by kernel_rfl) ?_
  rw [← HWd.out]
  refine wpAnyT_take (i := 0) (v := ?_) rfl (by kernel_rfl) (by kernel_rfl) (by kernel_rfl) (by kernel_rfl) (fun _ _ _ h => h) (Or.inl ⟨by rfl, ?_⟩) (act_S4 HDd.out) ?_
  rotate_left
  · intro w hSw
    (try dsimp only at hSw)
    go_simp
    all_goals with_reducible rfl
  simp only [Act.put, List.setIfInBounds_toArray, List.set_cons_zero, List.set_cons_succ]
  refine wpAnyT_take (i := 1) (v := ?_) rfl (by kernel_rfl) (by kernel_rfl) (by kernel_rfl) (by kernel_rfl) (fun _ _ _ h => h) (Or.inl ⟨by rfl, ?_⟩) (act_S4 HDd.out) ?_
  rotate_left
  · intro w hSw
    (try dsimp only at hSw)
    go_simp
    all_goals with_reducible rfl
  simp only [Act.put, List.setIfInBounds_toArray, List.set_cons_zero, List.set_cons_succ]
  refine wpAnyT_take (i := 2) (v := ?_) rfl (by kernel_rfl) (by kernel_rfl) (by kernel_rfl) (by kernel_rfl) (fun _ _ _ h => h) (Or.inl ⟨by rfl, ?_⟩) (act_S4 HDd.out) ?_
  rotate_left
  · intro w hSw
    (try dsimp only at hSw)
    go_simp
    all_goals with_reducible rfl
  simp only [Act.put, List.setIfInBounds_toArray, List.set_cons_zero, List.set_cons_succ]
  refine wpAnyT_take (i := 4) (v := ?_) rfl (by kernel_rfl) (by kernel_rfl) (by kernel_rfl) (by kernel_rfl) (fun _ _ _ h => h) (Or.inl ⟨by rfl, ?_⟩) (act_S4 HDd.out) ?_
  rotate_left
  · intro w hSw
    (try dsimp only at hSw)
    go_simp
    all_goals with_reducible rfl
  simp only [Act.put, List.setIfInBounds_toArray, List.set_cons_zero, List.set_cons_succ]
  refine wpAnyT_take (i := 5) (v := ?_) rfl (by kernel_rfl) (by kernel_rfl) (by kernel_rfl) (by kernel_rfl) (fun _ _ _ h => h) (Or.inl ⟨by rfl, ?_⟩) (act_S4 HDd.out) ?_
  rotate_left
  · intro w hSw
    (try dsimp only at hSw)
    go_simp
    all_goals with_reducible rfl
  simp only [Act.put, List.setIfInBounds_toArray, List.set_cons_zero, List.set_cons_succ]
  refine wpAnyT_take (i := 6) (v := ?_) rfl (by kernel_rfl) (by kernel_rfl) (by kernel_rfl) (by kernel_rfl) (fun _ _ _ h => h) (Or.inl ⟨by rfl, ?_⟩) (act_S4 HDd.out) ?_
  rotate_left
  · intro w hSw
    (try dsimp only at hSw)
    go_simp
    all_goals with_reducible rfl
  simp only [Act.put, List.setIfInBounds_toArray, List.set_cons_zero, List.set_cons_succ]
  refine wpAnyT_one (i := 3) (by kernel_rfl) rfl (fun K hK => ?_)
  go_simp
  refine (rcrash_any (inR ([] ++ R)) D.n HOk.out.n2 D.lie D.wt (by have := HFew.out; omega) HPl.out D.left _ kA kC keep _ HVd.out (HKt.out _ HDd.out)).mono ?_
  rintro e w1 ⟨vr, rfl, hvr, hb1⟩
  obtain ⟨R', hd1, hv1, hR'⟩ := DStK.ref (R := [] ++ R) HDd.out (fun r hr => box_R r hr) hb1 hvr
  have HD1 : Hid (DStK Kp wk w0 w1 p D (R' ++ (boxA w.heap.size [.slice A1 D.n C1, .slice A2 D.wt.length C2, .int .i64 D.left] [.int .i64 3, .int .i64 ka, .int .i64 mo, .int .u8 by_, .slice kA keep.length kC] ++ R))) := hd1
  have HR' : Hid (∀ r ∈ R', w.heap.size + 2 < r.1) := fun r hr => by have := hR' r hr; have := HZd.out; omega
  obtain ⟨A3, C3, A4, C4, rfl, q3, q4⟩ := hv1
  have HV3 : Hid (RfV w1 (inR (R' ++ R)) (.agg #[.slice A3 (D.crashed keep).n C3, .slice A4 (D.crashed keep).wt.length C4, .int .i64 (D.crashed keep).left]) (D.crashed keep)) := ⟨A3, C3, A4, C4, rfl, q3, q4⟩
  clear hvr hb1 hd1 hR' q3 q4
  refine hK.out _ _ (fun _ => (act_S4 HD1.out)) ?_
  clear hK K
  try simp only [Act.put, List.setIfInBounds_toArray, List.set_cons_zero, List.set_cons_succ]
  refine wpAnyT_one (i := 7) (by kernel_rfl) rfl (fun K hK => ?_)
  go_simp
  refine (DStK.crash2 HD1.out kA kC keep (by have := HKl.out; omega) (HKt.out _ HD1.out) HKa.out).mono ?_
  rintro e w2 ⟨rfl, hd2⟩
  have HD2 : Hid (DStK Kp wk w0 w2 p (D.crashed keep) (R' ++ (boxA w.heap.size [.slice A1 D.n C1, .slice A2 D.wt.length C2, .int .i64 D.left] [.int .i64 3, .int .i64 ka, .int .i64 mo, .int .u8 by_, .slice kA keep.length kC] ++ R))) := hd2
  clear hd2
  refine hK.out _ _ (fun _ => (act_S4 HD2.out)) ?_
  clear hK K
  try simp only [Act.put, List.setIfInBounds_toArray, List.set_cons_zero, List.set_cons_succ]
  refine wpAnyT_one (i := 8) (by kernel_rfl) rfl (fun K hK => ?_)
  go_simp
  refine (dknum_any 0 _).mono ?_
  rintro e9 w9 ⟨rfl, h9⟩
  rw [← h9]
  clear h9 w9
  refine hK.out _ _ (fun _ => (act_S4 HD2.out)) ?_
  clear hK K
  try simp only [Act.put, List.setIfInBounds_toArray, List.set_cons_zero, List.set_cons_succ]
  refine wpAnyT_take (i := 9) (v := ?_) rfl (by kernel_rfl) (by kernel_rfl) (by kernel_rfl) (by kernel_rfl) (fun _ _ _ h => h) (Or.inl ⟨by rfl, ?_⟩) (act_S4 HD2.out) ?_
  rotate_left
  · intro w hSw
    (try dsimp only at hSw)
    go_simp
    all_goals with_reducible rfl
  simp only [Act.put, List.setIfInBounds_toArray, List.set_cons_zero, List.set_cons_succ]
  refine wpAnyT_one (i := 10) (by kernel_rfl) rfl (fun K hK => ?_)
  obtain ⟨⟨y0, y1, y2⟩, f0, f1, f2⟩ := r3 (HD2.out.row box_r)
  go_simp
  refine hK.out _ _ (fun _ => (act_T4 HD2.out _ _ _)) ?_
  clear hK K
  try simp only [Act.put, List.setIfInBounds_toArray, List.set_cons_zero, List.set_cons_succ]
  refine wpAnyT_one (i := 11) (by kernel_rfl) rfl (fun K hK => ?_)
  go_simp
  refine hK.out _ _ (fun h => absurd h (by decide)) ?_
  clear hK K
  try simp only [Act.put, List.setIfInBounds_toArray, List.set_cons_zero, List.set_cons_succ]
  refine wpAnyT_done (by kernel_rfl) ?_ _
  have HE := Lib.hid (act_end (c0 := .slice A3 (D.crashed keep).n C3) (c1 := .slice A4 (D.crashed keep).wt.length C4) (c2 := .int .i64 (D.crashed keep).left) HD2.out (HV3.out.stay (HD2.out.sub (R' := R' ++ R) fun r hr => by rcases List.mem_append.1 hr with hr | hr; exact List.mem_append_left _ hr; exact box_R r hr) fun r hr => hr) HR'.out HLt.out HSz.out)
  go_wp2_with fail
  refine bodyPost_ret (results_two rfl (by rfl) (by rfl) (rf_load HE.out.1)) rfl ?_
  exact ⟨_, _, rfl, HE.out.2.1, HE.out.2.2⟩

end Go.Proofs.Ytekeooeapiodmaa

namespace Go.Proofs.Ytekeooeapiodmaa
open Go Go.RowKit Go.Shelf
set_option linter.unusedSimpArgs false
set_option linter.unusedVariables false
set_option maxRecDepth 100000

attribute [local go_sem] Oper.semAt_some

variable {Kp : Nat → Prop} {wk : World}

theorem rsync2_any (N : Nat → List Value → Prop) (D : DkM) (hok : D.ok) (hfew : D.wt.length < 1000001) (hpl : D.pl) (v : Value) (w : World) (h : RfV w N v D) :
    Calls Try.prog 34 #[v] w fun e w' => ∃ v', e = .returned (.tuple #[v', .int .i64 (if D.left = 0 then 190 else 0)]) ∧ RfV w' (sinceN N w) v' (if D.left = 0 then D else D.synced) ∧ Below w.heap.size w w' := by
  obtain ⟨n, lie, wt, lf⟩ := D
  by_cases hl : lf = 0
  · subst hl
    rw [if_pos rfl, if_pos rfl]
    refine (rsyncNot_any N n lie wt v w h).mono ?_
    rintro e w' ⟨v', rfl, hv, hb⟩
    exact ⟨v', rfl, hv.mono fun g l _ h => .inl h, hb⟩
  · rw [if_neg hl, if_neg hl]
    exact rsync_any N n hok.n2 lie wt hfew hpl lf hok.left hl v w h
theorem rwrite2_any (N : Nat → List Value → Prop) (D : DkM) (hok : D.ok) (hfew : D.wt.length < 1000000) (v : Value) (k : Int) (hk : -9223372036854775808 ≤ k ∧ k < 9223372036854775808) (s : List UInt8) (w : World) (h : RfV w N v D) :
    Calls Try.prog 33 #[v, .int .i64 k, strV s] w fun e w' => ∃ v', e = .returned (.tuple #[v', .int .i64 (D.wrE k s.length)]) ∧ RfV w' (sinceN N w) v' (if D.wrE k s.length = 0 then D.wrote k s else D) ∧ Below w.heap.size w w' := by
  obtain ⟨n, lie, wt, lf⟩ := D
  by_cases h0 : (⟨n, lie, wt, lf⟩ : DkM).wrE k s.length = 0
  · rw [h0, if_pos rfl]
    exact rwrite_any N n hok.n2 lie wt hfew lf hok.left v k hk s w h h0
  · rw [if_neg h0]
    refine (rwriteNot_any N n lie wt lf v k hk s w h _ rfl h0).mono ?_
    rintro e w' ⟨v', rfl, hv, hb⟩
    exact ⟨v', rfl, hv.mono fun g l _ h => .inl h, hb⟩

set_option maxHeartbeats 16000000 in
theorem act_sync (w0 w : World) (p : Nat) (D : DkM) (R : List (Nat × List Value)) (v : Value) (h : DStK Kp wk w0 w p D R) (hpl : D.pl) (hfew : D.wt.length < 1000000) (hv : RfV w (inR R) v D) (ka mo by_ : Int) (kA : Option Addr) (kC : Nat) (keep : List Bool) :
    Calls Try.prog 12 #[.pointer (some ⟨p, 0, none⟩), v, .agg #[.int .i64 2, .int .i64 ka, .int .i64 mo, .int .u8 by_, .slice kA keep.length kC]] w (ActP Kp wk w0 p (if D.left = 0 then D else D.synced) R) := by
  have HOk := Lib.hid h.ok
  have HPl := Lib.hid hpl
  have HFew := Lib.hid hfew
  have HLt : Hid (∀ r ∈ R, r.1 < w.heap.size) := fun r hr => h.lt hr
  have HSz : Hid (w0.heap.size ≤ w.heap.size) := h.size
  obtain ⟨A1, C1, A2, C2, rfl, q1, q2⟩ := hv
  have hv : RfV w (inR R) (.agg #[.slice A1 D.n C1, .slice A2 D.wt.length C2, .int .i64 D.left]) D := ⟨A1, C1, A2, C2, rfl, q1, q2⟩
  have HV := Lib.hid hv
  obtain ⟨W, hW⟩ : ∃ W, W = ((w.alloc (.cells #[.slice A1 D.n C1, .slice A2 D.wt.length C2, .int .i64 D.left] 30)).alloc (.cells #[.int .i64 2, .int .i64 ka, .int .i64 mo, .int .u8 by_, .slice kA keep.length kC] 40)).alloc (.cells #[.slice none 0 0, .slice none 0 0, .int .i64 0] 30) := ⟨_, rfl⟩
  have HWz : Hid (W.heap.size = w.heap.size + 3) := by rw [Hid, hW]; simp
  have HD0 : Hid (DStK Kp wk w0 W p D ([] ++ (boxA w.heap.size [.slice A1 D.n C1, .slice A2 D.wt.length C2, .int .i64 D.left] [.int .i64 2, .int .i64 ka, .int .i64 mo, .int .u8 by_, .slice kA keep.length kC] ++ R))) := by rw [hW]; exact act_start h _ _ _ _
  have HW := Lib.hid hW
  clear h hpl hfew hv q1 q2 hW
  have HSc := Lib.hid (rsync2_any (inR R) D HOk.out (by have := HFew.out; omega) HPl.out _ W (HV.out.stay (R' := R) (HD0.out.sub fun r hr => box_R r hr) fun r hr => hr))
  have HSd : Hid (∀ (w' : World) (Q : List (Nat × List Value)), DStK Kp wk w0 w' p D Q → Calls Try.prog 21 #[.pointer (some ⟨p, 0, none⟩)] w' fun e w'' => e = .returned (.int .i64 (if D.left = 0 then 190 else 0)) ∧ DStK Kp wk w0 w'' p (if D.left = 0 then D else D.synced) Q) := fun w' Q h => h.sync2
  obtain ⟨x0, x1, x2, x3, x4⟩ := r5 (HD0.out.row box_x)
  obtain ⟨⟨z0, z1, z2⟩, _⟩ := r3 (HD0.out.row box_w)
  generalize (if D.left = 0 then (190 : Int) else 0) = E at HSc HSd
  generalize (if D.left = 0 then D else D.synced) = D' at HSc HSd ⊢
  go_enter Try.func12, Try.ntmps12
  go_upto_region 1 with fail
  rw [← HW.out]
  go_wp2_with fail
  refine HSc.out.mono ?_
  rintro e w1 ⟨vr, rfl, hvr, hb1⟩
  obtain ⟨R', hd1, hv1, hR'⟩ := DStK.ref HD0.out (fun r hr => box_R r hr) hb1 hvr
  have HD1 : Hid (DStK Kp wk w0 w1 p D (R' ++ (boxA w.heap.size [.slice A1 D.n C1, .slice A2 D.wt.length C2, .int .i64 D.left] [.int .i64 2, .int .i64 ka, .int .i64 mo, .int .u8 by_, .slice kA keep.length kC] ++ R))) := hd1
  have HR' : Hid (∀ r ∈ R', w.heap.size + 2 < r.1) := fun r hr => by have := hR' r hr; have := HWz.out; omega
  obtain ⟨A3, C3, A4, C4, rfl, q3, q4⟩ := hv1
  have HV3 : Hid (RfV w1 (inR (R' ++ R)) (.agg #[.slice A3 D'.n C3, .slice A4 D'.wt.length C4, .int .i64 D'.left]) D') := ⟨A3, C3, A4, C4, rfl, q3, q4⟩
  clear hvr hb1 hd1 hR' q3 q4 x0 x1 x2 x3 x4 z0 z1 z2
  go_upto_region 15 with fail
  obtain ⟨W1, hW1⟩ : ∃ W1, W1 = w1.alloc (.cells #[.slice A3 D'.n C3, .slice A4 D'.wt.length C4, .int .i64 D'.left] 30) := ⟨_, rfl⟩
  rw [← hW1]
  obtain ⟨wd, hwd⟩ : ∃ wd, wd = W1.drew := ⟨_, rfl⟩
  have HDd : Hid (DStK Kp wk w0 wd p D ((w1.heap.size, [.slice A3 D'.n C3, .slice A4 D'.wt.length C4, .int .i64 D'.left]) :: (R' ++ (boxA w.heap.size [.slice A1 D.n C1, .slice A2 D.wt.length C2, .int .i64 D.left] [.int .i64 2, .int .i64 ka, .int .i64 mo, .int .u8 by_, .slice kA keep.length kC] ++ R)))) := by rw [hwd, hW1]; exact (HD1.out.alloc1 _ _).drew
  have HWd := Lib.hid hwd
  have HNe : Hid (w.heap.size + 2 ≠ w1.heap.size) := by have := HD1.out.lt box_r; exact Nat.ne_of_lt this
  clear hwd hW1
  refine wp_region_T (fun w' => w'.cell? ⟨w1.heap.size, 0, none⟩ = some (.slice A3 D'.n C3) ∧ w'.cell? ⟨w1.heap.size, 1, none⟩ = some (.slice A4 D'.wt.length C4) ∧ w'.cell? ⟨w1.heap.size, 2, none⟩ = some (.int .i64 D'.left)) 7 (by kernel_rfl) ?_
  rw [← HWd.out]
  refine wpAnyT_take (i := 0) (v := ?_) rfl (by kernel_rfl) (by kernel_rfl) (by kernel_rfl) (by kernel_rfl) (fun _ _ _ h => h) (Or.inl ⟨by rfl, ?_⟩) (r3 (HDd.out.row (List.mem_cons_self ..))).1 ?_
  rotate_left
  · intro w hSw
    (try dsimp only at hSw)
    go_simp
    all_goals with_reducible rfl
  simp only [Act.put, List.setIfInBounds_toArray, List.set_cons_zero, List.set_cons_succ]
  refine wpAnyT_take (i := 1) (v := ?_) rfl (by kernel_rfl) (by kernel_rfl) (by kernel_rfl) (by kernel_rfl) (fun _ _ _ h => h) (Or.inl ⟨by rfl, ?_⟩) (r3 (HDd.out.row (List.mem_cons_self ..))).1 ?_
  rotate_left
  · intro w hSw
    (try dsimp only at hSw)
    go_simp
    all_goals with_reducible rfl
  simp only [Act.put, List.setIfInBounds_toArray, List.set_cons_zero, List.set_cons_succ]
  refine wpAnyT_take (i := 4) (v := ?_) rfl (by kernel_rfl) (by kernel_rfl) (by kernel_rfl) (by kernel_rfl) (fun _ _ _ h => h) (Or.inl ⟨by rfl, ?_⟩) (r3 (HDd.out.row (List.mem_cons_self ..))).1 ?_
  rotate_left
  · intro w hSw
    (try dsimp only at hSw)
    go_simp
    all_goals with_reducible rfl
  simp only [Act.put, List.setIfInBounds_toArray, List.set_cons_zero, List.set_cons_succ]
  refine wpAnyT_one (i := 2) (by kernel_rfl) rfl (fun K hK => ?_)
  go_simp
  refine (HSd.out _ _ HDd.out).mono ?_
  rintro e w2 ⟨rfl, hd2⟩
  have HD2 := Lib.hid hd2
  clear hd2
  refine hK.out _ _ (fun _ => (r3 (HD2.out.row (List.mem_cons_self ..))).1) ?_
  clear hK K
  try simp only [Act.put, List.setIfInBounds_toArray, List.set_cons_zero, List.set_cons_succ]
  refine wpAnyT_one (i := 3) (by kernel_rfl) rfl (fun K hK => ?_)
  go_simp
  refine (dknum_any E _).mono ?_
  rintro e9 w9 ⟨rfl, h9⟩
  rw [← h9]
  clear h9 w9
  refine hK.out _ _ (fun _ => (r3 (HD2.out.row (List.mem_cons_self ..))).1) ?_
  clear hK K
  try simp only [Act.put, List.setIfInBounds_toArray, List.set_cons_zero, List.set_cons_succ]
  refine wpAnyT_take (i := 5) (v := ?_) rfl (by kernel_rfl) (by kernel_rfl) (by kernel_rfl) (by kernel_rfl) (fun _ _ _ h => h) (Or.inl ⟨by rfl, ?_⟩) (r3 (HD2.out.row (List.mem_cons_self ..))).1 ?_
  rotate_left
  · intro w hSw
    (try dsimp only at hSw)
    go_simp
    all_goals with_reducible rfl
  simp only [Act.put, List.setIfInBounds_toArray, List.set_cons_zero, List.set_cons_succ]
  refine wpAnyT_one (i := 6) (by kernel_rfl) rfl (fun K hK => ?_)
  obtain ⟨⟨y0, y1, y2⟩, f0, f1, f2⟩ := r3 (HD2.out.row (List.mem_cons_of_mem _ box_r))
  go_simp
  refine hK.out _ _ (fun _ => (r3 (set3_other (HD2.out.row (List.mem_cons_self ..)) HNe.out _ _ _)).1) ?_
  clear hK K
  try simp only [Act.put, List.setIfInBounds_toArray, List.set_cons_zero, List.set_cons_succ]
  refine wpAnyT_one (i := 7) (by kernel_rfl) rfl (fun K hK => ?_)
  go_simp
  refine hK.out _ _ (fun h => absurd h (by decide)) ?_
  clear hK K
  try simp only [Act.put, List.setIfInBounds_toArray, List.set_cons_zero, List.set_cons_succ]
  refine wpAnyT_done (by kernel_rfl) ?_ _
  have HE := Lib.hid (act_end (c0 := .slice A3 (D').n C3) (c1 := .slice A4 (D').wt.length C4) (c2 := .int .i64 (D').left) (HD2.out.sub fun r hr => List.mem_cons_of_mem _ hr) (HV3.out.stay (HD2.out.sub (R' := R' ++ R) fun r hr => by rcases List.mem_append.1 hr with hr | hr; exact List.mem_cons_of_mem _ (List.mem_append_left _ hr); exact List.mem_cons_of_mem _ (box_R r hr)) fun r hr => hr) HR'.out HLt.out HSz.out)
  go_wp2_with fail
  refine bodyPost_ret (results_two rfl (by rfl) (by rfl) (rf_load HE.out.1)) rfl ?_
  exact ⟨_, _, rfl, HE.out.2.1, HE.out.2.2⟩

end Go.Proofs.Ytekeooeapiodmaa
