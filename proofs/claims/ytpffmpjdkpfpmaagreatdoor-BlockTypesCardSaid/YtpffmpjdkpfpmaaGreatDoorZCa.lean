/- Joined texts. -/
import Derived.Test.YtpffmpjdkpfpmaaGreatDoorZJd
import Derived.Test.YtpffmpjdkpfpmaaGreatDoorZKr
import Derived.Test.YtpffmpjdkpfpmaaGreatDoorZBv
import Derived.Test.YtpffmpjdkpfpmaaGreatDoorZBx
import Derived.Test.YtpffmpjdkpfpmaaGreatDoorZKv
import Derived.Lib.AppendStr
import Derived.Deep.RegionHeld3
import Derived.Test.YtpffmpjdkpfpmaaGreatDoorZJf
import Derived.Test.YtpffmpjdkpfpmaaGreatDoorZMe
import Derived.Test.YtpffmpjdkpfpmaaGreatDoorZKh
namespace Go.Proofs.YtpffmpjdkpfpmaaGreatDoor
open Go.RowKit Go.Shelf

end Go.Proofs.YtpffmpjdkpfpmaaGreatDoor

namespace Go.Proofs.YtpffmpjdkpfpmaaGreatDoor
open Go.RowKit Go.Shelf

end Go.Proofs.YtpffmpjdkpfpmaaGreatDoor

namespace Go.Proofs.YtpffmpjdkpfpmaaGreatDoor
open Go.RowKit Go.Shelf
set_option linter.unusedSimpArgs false











end Go.Proofs.YtpffmpjdkpfpmaaGreatDoor

namespace Go.Proofs.YtpffmpjdkpfpmaaGreatDoor
open Go Go.RowKit Go.Shelf
set_option linter.unusedSimpArgs false
set_option linter.unusedVariables false
set_option maxRecDepth 100000

attribute [local go_sem] Oper.semAt_some

/-- A slice of items that lies anywhere: what an append of it wants. -/
def SrcI (w : World) (A : Option Addr) (l : List It) : Prop := ∃ ys, LI w (newB (bare w) w) ys l ∧ (l = [] ∨ ∃ g o, A = some ⟨g, o, none⟩ ∧ g < w.heap.size ∧ ∀ j u, ys[j]? = some u → w.cell? ⟨g, o + j, none⟩ = some u)

theorem SrcI.get {w w' : World} {A : Option Addr} {l : List It} {v : Value} (h : SrcI w A l) (hb : Below w.heap.size w w') (hv : ∀ r, v.ownBlock = some r → w.heap.size ≤ r) :
    ∃ ys, LI w' (newBut (bare w) w' v) ys l ∧ (l = [] ∨ ∃ ad, A = some ad ∧ ∀ j u, ys[j]? = some u → w'.cell? (ad.add j) = some u) := by
  obtain ⟨ys, hy, hc⟩ := h
  refine ⟨ys, LI.more (S := newB (bare w) w) (fun b q => ⟨⟨q.1, Nat.lt_of_lt_of_le q.2 hb.size⟩, fun h => ?_⟩) (LI.keep (S := newB (bare w) w) (fun b q => hb.block b q.2) hy), hc.imp id ?_⟩
  · rintro ⟨g, o, rfl, hg, hc⟩
    exact ⟨⟨g, o, none⟩, rfl, fun j u hu => by
      rw [mk_addr_add]
      exact (hb.cell (p := ⟨g, o + j, none⟩) hg).trans (hc j u hu)⟩
  · have := hv b h
    have := q.2
    omega

/-- A list of one item of bytes, just laid: what an append of it wants. -/
theorem one_get {w0 w : World} {a : Option Addr} {c : Nat} {bs : List UInt8} {v : Value} (hc : bs.length ≤ c) (hs : bs.length ≤ 140737488355328) (hr : RdB w w.heap.size a bs) (hne : ∀ r, v.ownBlock = some r → (∀ q, a = some q → q.block ≠ r) ∧ r < w.heap.size) (t : TypeId) :
    ∃ ys, LI (w.alloc (.cells #[.int .i64 2, .int .u64 0, .slice a bs.length c, .string ⟨#[]⟩, .slice none 0 0] t)) (newBut (bare w0) (w.alloc (.cells #[.int .i64 2, .int .u64 0, .slice a bs.length c, .string ⟨#[]⟩, .slice none 0 0] t)) v) ys [.mk 2 0 bs [] []] ∧
      (([.mk 2 0 bs [] []] : List It) = [] ∨ ∃ ad, (some (⟨w.heap.size, 0, none⟩ : Addr)) = some ad ∧ ∀ j u, ys[j]? = some u → (w.alloc (.cells #[.int .i64 2, .int .u64 0, .slice a bs.length c, .string ⟨#[]⟩, .slice none 0 0] t)).cell? (ad.add j) = some u) := by
  refine ⟨[.int .i64 2, .int .u64 0, .slice a bs.length c, .string ⟨#[]⟩, .slice none 0 0], LI.one ?_, .inr ⟨_, rfl, fun j u hu => ?_⟩⟩
  · simp only [ItS]
    refine ⟨none, ⟨a, c, 0, rfl, ⟨hc, Nat.le_refl _⟩, ?_, ⟨by decide, by decide⟩, ⟨by decide, by decide⟩, hs, Nat.zero_le _, Nat.zero_le _⟩, .inl trivial⟩
    have hr2 := hr.below (below_al (Below.refl w.heap.size w) (.cells #[.int .i64 2, .int .u64 0, .slice a bs.length c, .string ⟨#[]⟩, .slice none 0 0] t))
    rcases hr2 with h | ⟨b, o, e, hlt, hc⟩
    · exact .inl h
    · refine .inr ⟨b, o, e, ⟨⟨Nat.zero_le _, by simp; omega⟩, fun h => ?_⟩, hc⟩
      exact (hne b h).1 _ e rfl
  · rw [mk_addr_add, Nat.zero_add, box_at (Below.refl _ _) j]
    simpa using hu

/-- The run of an append onto such a list, and what else it leaves. -/
theorem listO_run2 {w wr w1 : World} {v : Value} {l : List It} (h : ListO w wr v l) (hb1 : Below wr.heap.size wr w1) (A : Option Addr) (m : List It) (c : Nat) (hlen : l.length + m.length ≤ 1000000)
    (hy : ∃ ys, LI w1 (newBut w w1 v) ys m ∧ (m = [] ∨ ∃ ad, A = some ad ∧ ∀ j u, ys[j]? = some u → w1.cell? (ad.add j) = some u)) (hnil : A = none → m = []) :
    ∃ v' w2, (Builtin.append_ #[107, 107] 107 #[v, .slice A m.length c]).run Tryz.prog w1 = .ok v' w2 ∧ ListO w w2 v' (l ++ m) ∧ w1.grownBy w2 v.ownBlock ∧ (v'.ownBlock = v.ownBlock ∨ v'.ownBlock = some w1.heap.size) := by
  obtain ⟨hb, xs, hown, hls⟩ := h
  obtain ⟨ys, hyl, hyc⟩ := hy
  obtain ⟨i, hi, hz, hsz, hby⟩ := info_parts info_itm
  have hown1 : w1.ownsRow w.heap.size 118 5 v l.length xs := by
    obtain ⟨h1, h2⟩ := hown
    refine ⟨h1, h2.imp id ?_⟩
    rintro ⟨g, cap, cur, hv, hg0, hg, r⟩
    exact ⟨g, cap, cur, hv, hg0, (hb1.block g (Array.getElem?_eq_some_iff.1 hg).1).trans hg, r⟩
  rcases A with _ | ad
  · obtain rfl := hnil rfl
    have hrun : (Builtin.append_ #[107, 107] 107 #[v, .slice none 0 c]).run Tryz.prog w1 = .ok v w1 := by
      rcases hown1.2 with ⟨rfl, _⟩ | ⟨g, cap, cur, rfl, _, _, hn, _⟩
      · simp [Builtin.append_, run_underlying Tryz.underlying107, sizeOf, typeInfo, hi, Builtin.lenOf, Builtin.firstCells]
      · simp [Builtin.append_, run_underlying Tryz.underlying107, sizeOf, typeInfo, hi, Builtin.lenOf, Builtin.firstCells, hn, storeCells]
    have hy0 : ys = [] := hyl
    subst hy0
    exact ⟨v, w1, hrun, ListO.app hb hown hls hb1 hyl (by simpa using hown1) (World.grownBy.refl _ _) (.inl rfl), World.grownBy.refl _ _, .inl rfl⟩
  · have hcells : ∀ j u, ys[j]? = some u → w1.cell? (ad.add j) = some u := by
      rcases hyc with rfl | ⟨ad', e, h⟩
      · have hy0 : ys = [] := hyl
        subst hy0
        intro j u hu
        simp at hu
      · cases e
        exact h
    obtain ⟨v', w2, hrun, h2, h3, _, h5⟩ := run_append_own_at (P := Tryz.prog) w1 w.heap.size 107 107 118 i _ 5 80 Tryz.underlying107 hi hz hsz hby rfl (by decide) v l.length xs hown1 ad m.length c ys (hyl.length) hcells hyl.oneCell (by unfold maxLen; omega) (by omega) (by have := hb.size; have := hb1.size; omega)
    exact ⟨v', w2, hrun, ListO.app hb hown hls hb1 hyl h2 h3 h5, h3, h5⟩
end Go.Proofs.YtpffmpjdkpfpmaaGreatDoor
