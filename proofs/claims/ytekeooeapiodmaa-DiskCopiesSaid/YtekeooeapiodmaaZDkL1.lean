/- Package disk: calls that come in; few. -/
import Derived.Test.YtekeooeapiodmaaZKd
namespace Go.Proofs.Ytekeooeapiodmaa
open Go Go.RowKit Go.Shelf
set_option linter.unusedSimpArgs false
set_option linter.unusedVariables false
set_option maxRecDepth 100000

attribute [local go_sem] Oper.semAt_some

/-- A call that comes in. -/
structure AcT where
  what : Int
  ka : Int
  mo : Int
  bt : UInt8
  kA : Option Addr
  kC : Nat
  keep : List Bool
def AcT.cells (x : AcT) : List Value := [.int .i64 x.what, .int .i64 x.ka, .int .i64 x.mo, .int .u8 (x.bt.toNat : Int), .slice x.kA x.keep.length x.kC]
/-- Its numbers, its truths. -/
def AcT.fit (x : AcT) (w : World) (B : Nat) : Prop := (-9223372036854775808 ≤ x.ka ∧ x.ka < 9223372036854775808) ∧ (-9223372036854775808 ≤ x.mo ∧ x.mo < 9223372036854775808) ∧ RdT w B x.kA x.keep
def RdAc (w : World) (B : Nat) (A : Option Addr) (l : List AcT) : Prop :=
  l = [] ∨ ∃ g o, A = some ⟨g, o, none⟩ ∧ g < B ∧ ∀ i x, l[i]? = some x → (∀ j v, x.cells[j]? = some v → w.cell? ⟨g, o + i * 5 + j, none⟩ = some v) ∧ x.fit w B
def AcT.fine (x : AcT) : Bool := decide (x.keep.length ≤ 60) && !(x.what == 0 && decide (100 < x.mo))
def fewA (l : List AcT) (most : Nat) : Bool := l.all AcT.fine && decide (l.length ≤ most)
theorem RdAc.at {w : World} {B : Nat} {A : Option Addr} {l : List AcT} {i : Nat} {x : AcT} (h : RdAc w B A l) (hx : l[i]? = some x) : ∃ g o, A = some ⟨g, o, none⟩ ∧ g < B ∧ (w.cell? ⟨g, o + i * 5, none⟩ = some (.int .i64 x.what) ∧ w.cell? ⟨g, o + i * 5 + 1, none⟩ = some (.int .i64 x.ka) ∧ w.cell? ⟨g, o + i * 5 + 2, none⟩ = some (.int .i64 x.mo) ∧ w.cell? ⟨g, o + i * 5 + 3, none⟩ = some (.int .u8 (x.bt.toNat : Int)) ∧ w.cell? ⟨g, o + i * 5 + 4, none⟩ = some (.slice x.kA x.keep.length x.kC)) ∧ x.fit w B := by
  rcases h with rfl | ⟨g, o, rfl, hg, hc⟩
  · simp at hx
  · obtain ⟨h1, h2⟩ := hc i x hx
    exact ⟨g, o, rfl, hg, ⟨h1 0 _ rfl, h1 1 _ rfl, h1 2 _ rfl, h1 3 _ rfl, h1 4 _ rfl⟩, h2⟩
theorem AcT.fit.later {x : AcT} {w w' : World} {B : Nat} (h : x.fit w B) (hb : Below B w w') : x.fit w' B := ⟨h.1, h.2.1, rdT_later h.2.2 hb⟩
theorem RdAc.later {w w' : World} {B : Nat} {A : Option Addr} {l : List AcT} (h : RdAc w B A l) (hb : Below B w w') : RdAc w' B A l := by
  rcases h with h | ⟨g, o, rfl, hg, hc⟩
  · exact .inl h
  · exact .inr ⟨g, o, rfl, hg, fun i x hx => ⟨fun j v hv => (hb.cell (p := ⟨g, o + i * 5 + j, none⟩) hg).trans ((hc i x hx).1 j v hv), (hc i x hx).2.later hb⟩⟩
theorem all_at {l : List AcT} {i : Nat} {x : AcT} (hx : l[i]? = some x) (hf : x.fine = false) : l.all AcT.fine = false := by
  rw [List.all_eq_false]
  exact ⟨x, List.mem_of_getElem? hx, by rw [hf]; decide⟩

set_option maxHeartbeats 8000000 in
theorem few_any (A : Option Addr) (C : Nat) (l : List AcT) (most : Nat) (hm : most ≤ 1000) (w : World) (hlen : l.length ≤ 9223372036854775807) (hr : RdAc w w.heap.size A l) :
    Calls Try.prog 10 #[.slice A l.length C, .int .i64 (most : Nat)] w fun e w' => e = .returned (.bool (fewA l most)) ∧ w = w' := by
  have HR := Lib.hid hr
  obtain ⟨n, hn⟩ : ∃ n, n = l.length := ⟨_, rfl⟩
  have HN := Lib.hid hn
  have HLn : Hid (n ≤ 9223372036854775807 ∧ most ≤ 1000) := ⟨by rw [hn]; exact hlen, hm⟩
  rw [← hn]
  clear hr hn hlen hm
  go_enter Try.func10, Try.ntmps10
  go_wp2_with fail
  go_loopw [5] (fun v5 wr => ∃ i : Nat, i ≤ n ∧ v5 = .int .i64 i ∧ Hid (∀ k, k < i → ∀ x, l[k]? = some x → x.fine = true) ∧ wr = w) (fun v5 _ => n - (intOf v5).toNat)
  case atStart => exact ⟨0, Nat.zero_le _, rfl, fun k hk => absurd hk (Nat.not_lt_zero _), rfl⟩
  case round =>
    obtain ⟨i, hi, rfl, HI, rfl⟩ := hrel
    have hM := HLn.out
    by_cases hlt : i < n
    · have hltI : (i : Int) < (n : Int) := by omega
      have hms := mless hlt
      obtain ⟨x, hx⟩ : ∃ x, l[i]? = some x := ⟨_, List.getElem?_eq_getElem (by have := HN.out; omega)⟩
      obtain ⟨g, o, rfl, hg, ⟨c0, c1, c2, c3, c4⟩, hfit⟩ := HR.out.at hx
      have HXx := Lib.hid hx
      clear hx hg hfit c1 c3
      have hFd : x.fine = (decide (x.keep.length ≤ 60) && !(x.what == 0 && decide (100 < x.mo))) := rfl
      have HFd := Lib.hid hFd
      clear hFd
      generalize x.keep.length = nk at *
      generalize x.what = wh at *
      generalize x.mo = mo at *
      by_cases h60 : 60 < nk
      · have h60I : (60 : Int) < (nk : Int) := by omega
        have HF : Hid (x.fine = false) := by rw [Hid, HFd.out, decide_eq_false (by omega)]; rfl
        go_wp2_with fail
        go_ret
        refine ⟨?_, rfl⟩
        rw [fewA, all_at HXx.out HF.out]
        rfl
      · have h60I : ¬ (60 : Int) < (nk : Int) := by omega
        by_cases hw : wh = 0
        · by_cases hmo : 100 < mo
          · have HF : Hid (x.fine = false) := by rw [Hid, HFd.out, hw, decide_eq_true hmo]; simp
            go_wp2_with fail
            go_ret
            refine ⟨?_, rfl⟩
            rw [fewA, all_at HXx.out HF.out]
            rfl
          · have HF : Hid (x.fine = true) := by rw [Hid, HFd.out, hw, decide_eq_false hmo, decide_eq_true (by omega)]; rfl
            go_wp2_with fail
            go_roundw
            case rel =>
              refine ⟨i + 1, hlt, by go_num, fun k hk y hy => ?_, trivial⟩
              by_cases e : k = i
              · subst e
                rw [HXx.out] at hy
                injection hy with hy
                rw [← hy]; exact HF.out
              · exact HI.out k (by omega) y hy
            case measure => exact hms
        · have HF : Hid (x.fine = true) := by rw [Hid, HFd.out, decide_eq_true (by omega), beq_false_of_ne hw]; rfl
          go_wp2_with fail
          go_roundw
          case rel =>
            refine ⟨i + 1, hlt, by go_num, fun k hk y hy => ?_, trivial⟩
            by_cases e : k = i
            · subst e
              rw [HXx.out] at hy
              injection hy with hy
              rw [← hy]; exact HF.out
            · exact HI.out k (by omega) y hy
          case measure => exact hms
    · obtain rfl : i = n := by omega
      have HA : Hid (l.all AcT.fine = true) := by
        rw [Hid, List.all_eq_true]
        intro y hy
        obtain ⟨k, hk⟩ := List.getElem?_of_mem hy
        exact HI.out k (by have := (List.getElem?_eq_some_iff.1 hk).1; have := HN.out; omega) y hk
      go_wp2_with fail
      go_ret
      refine ⟨?_, rfl⟩
      rw [fewA, HA.out, ← HN.out]
      simp

end Go.Proofs.Ytekeooeapiodmaa

