/- Package disk: what DiskHolds rests on: disks of five sectors, what is settled, pairs of bytes that came in. -/
import Derived.Test.YtekeooeapiodmaaZDkX
import Derived.Test.YtekeooeapiodmaaZDkI2
namespace Go.Proofs.Ytekeooeapiodmaa
open Go Go.RowKit Go.Shelf
set_option linter.unusedSimpArgs false
set_option linter.unusedVariables false
set_option maxRecDepth 100000

variable {K : Nat → Prop} {wk w0 w : World} {p : Nat} {D : DkM} {R : List (Nat × List Value)}

/-- Pairs of bytes that came in. -/
def RdP (w : World) (B : Nat) (A : Option Addr) (l : List (UInt8 × UInt8)) : Prop :=
  l = [] ∨ ∃ g o, A = some ⟨g, o, none⟩ ∧ g < B ∧ ∀ i x, l[i]? = some x → w.cell? ⟨g, o + i * 2, none⟩ = some (.int .u8 (x.1.toNat : Int)) ∧ w.cell? ⟨g, o + i * 2 + 1, none⟩ = some (.int .u8 (x.2.toNat : Int))
theorem RdP.on {w w' : World} {A : Option Addr} {l : List (UInt8 × UInt8)} (h : RdP w w.heap.size A l) (hb : Below w.heap.size w w') : RdP w' w'.heap.size A l := by
  rcases h with h | ⟨g, o, rfl, hg, hc⟩
  · exact .inl h
  · exact .inr ⟨g, o, rfl, Nat.lt_of_lt_of_le hg hb.size, fun i x hx => ⟨(hb.cell (p := ⟨g, o + i * 2, none⟩) hg).trans (hc i x hx).1, (hb.cell (p := ⟨g, o + i * 2 + 1, none⟩) hg).trans (hc i x hx).2⟩⟩
theorem RdT.on {w w' : World} {A : Option Addr} {l : List Bool} (h : RdT w w.heap.size A l) (hb : Below w.heap.size w w') : RdT w' w'.heap.size A l := by
  rcases h with h | ⟨g, o, rfl, hg, hc⟩
  · exact .inl h
  · exact .inr ⟨g, o, rfl, Nat.lt_of_lt_of_le hg hb.size, fun i x hx => (hb.cell (p := ⟨g, o + i, none⟩) hg).trans (hc i x hx)⟩

theorem DStK.copy (h : DStK K wk w0 w p D R) :
    Calls Try.prog 16 #[.pointer (some ⟨p, 0, none⟩)] w fun e w' => ∃ q, e = .returned (.pointer (some ⟨q, 0, none⟩)) ∧ DStK K wk w0 w' p D R ∧ DSt w w' q D [] := by
  have h1 := h
  obtain ⟨S, hd, hok, hS, hB, hR⟩ := h
  refine (copy_any S p D hok w hd).mono ?_
  rintro e w' ⟨⟨q, rfl, hq⟩, hb⟩
  exact ⟨q, rfl, h1.on hb, .start (k := 0) hq hb hok⟩
theorem DStK.same {K2 : Nat → Prop} {wk2 w1 : World} {q : Nat} {R2 : List (Nat × List Value)} (h : DStK K wk w0 w p D R) (h2 : DStK K2 wk2 w1 w q D R2) :
    Calls Try.prog 18 #[.pointer (some ⟨q, 0, none⟩), .pointer (some ⟨p, 0, none⟩)] w fun e w' => e = .returned (.bool true) ∧ Below w.heap.size w w' := by
  obtain ⟨S, hd, hok, _⟩ := h
  obtain ⟨S2, hd2, _⟩ := h2
  exact same_any S2 S q p D hok w hd2 hd
/-- Crash, with truths that came in, or none. -/
theorem DStK.crash2 (h : DStK K wk w0 w p D R) (A : Option Addr) (C : Nat) (l : List Bool) (hl : l.length ≤ 140737488355328) (hr : RdT w w.heap.size A l) (hA : l ≠ [] → ∀ q, A = some q → q.block < w0.heap.size) :
    Calls Try.prog 23 #[.pointer (some ⟨p, 0, none⟩), .slice A l.length C] w fun e w' => e = .returned (.int .i64 0) ∧ DStK K wk w0 w' p (D.crashed l) R := by
  obtain ⟨S, hd, hk, hS, hB, hR⟩ := h
  refine (crash2_any S p D hk A C l hl w hr (fun hn q hq hs => ?_) (fun b h => (hS b h).2) hd).mono ?_
  · have := hA hn q hq
    have := (hS _ hs).1
    omega
  rintro e w' ⟨rfl, hd', hb⟩
  exact ⟨rfl, .step hS hB hR (hd'.kept (fun _ _ _ => rfl) fun b h => .inl h) (crashed_ok hk l) hb⟩
/-- A store into the one row. -/
theorem DStK.set {g : Nat} {vs : List Value} (h : DStK K wk w0 w p D [(g, vs)]) (hg : w0.heap.size ≤ g) (i : Nat) (v : Value) : DStK K wk w0 (w.setCell ⟨g, i, none⟩ v) p D [(g, vs.set i v)] := by
  obtain ⟨S, hd, hok, hS, hB, hR, hK⟩ := h
  obtain ⟨hr, hn, hl⟩ := hR _ (List.mem_singleton_self _)
  refine ⟨S, hd.kept (fun b hb _ => Below.heap_setCell _ _ _ _ (by rintro rfl; exact hn hb)) fun _ h => h, hok, fun b h => ⟨(hS b h).1, by rw [World.size_setCell]; exact (hS b h).2⟩, hB.setCell hg _, fun r hm => ?_, fun b hb => ?_⟩
  rotate_left
  · obtain ⟨k1, k2, k3, k4⟩ := hK b hb
    have hgb : g ≠ b := k4 _ (List.mem_singleton_self _)
    exact ⟨(Below.heap_setCell _ _ _ _ (Ne.symm hgb)).trans k1, k2, by rw [World.size_setCell]; exact k3, fun r hr => by rw [List.mem_singleton.1 hr]; exact hgb⟩
  rw [List.mem_singleton.1 hm]
  exact ⟨hr.set i v, hn, by rw [World.size_setCell]; exact hl⟩

end Go.Proofs.Ytekeooeapiodmaa

