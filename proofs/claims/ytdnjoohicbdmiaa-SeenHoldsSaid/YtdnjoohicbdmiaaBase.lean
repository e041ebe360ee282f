/- How bytes are told in memory: a slice of bytes reads as a list; what is kept of it over later worlds; a text made of it. Nothing here speaks of the program's functions. -/
import Derived.Test.YtdnjoohicbdmiaaRows
import Derived.WalkKit
import Derived.WalkSpells
import Derived.WalkLawsBesides
import Derived.Lib.Hide
import Derived.Shelf.Abstract
import Derived.Deep.OwnRows
import Derived.Laws.BytesArg
import Derived.WalkMore
import Derived.ScopeJumps
namespace Go.Proofs.Ytdnjoohicbdmiaa
open Go.RowKit Go.Shelf

/-- A number of 64 bits. -/
def U64 (n : Int) : Prop := 0 ≤ n ∧ n < 18446744073709551616

theorem U64.div (n : Int) (h : U64 n) : (n / 18446744073709551616 == 0) = true := by
  unfold U64 at h
  have : n / 18446744073709551616 = 0 := by omega
  simp [this]

/-- One step more, of a call. -/
theorem below_on {a b c : World} (h : Below a.heap.size a b) (k : Below b.heap.size b c) : Below a.heap.size a c := h.trans (k.mono h.size)
/-- One step more, of a new block. -/
theorem below_al {a b : World} (h : Below a.heap.size a b) (o : Obj) : Below a.heap.size a (b.alloc o) := h.alloc h.size o
/-- One step more, of draws. -/
theorem below_dr {a b : World} (h : Below a.heap.size a b) (n : Nat) : Below a.heap.size a (b.drewN n) := ⟨h.os, h.tape, h.output, h.size, h.block⟩

/-- The number of byte k (0 behind the last one). -/
def byteAt (bs : List UInt8) (k : Nat) : Int := ((bs[k]?.getD 0).toNat : Int)

theorem byteAt_lo (bs : List UInt8) (k : Nat) : 0 ≤ byteAt bs k := by unfold byteAt; omega
theorem byteAt_hi (bs : List UInt8) (k : Nat) : byteAt bs k < 256 := by
  unfold byteAt
  have := UInt8.toNat_lt (bs[k]?.getD 0)
  omega

/-- A slice at address a reads as the bytes bs, in a block below B. -/
def RdB (w : World) (B : Nat) (a : Option Addr) (bs : List UInt8) : Prop :=
  bs = [] ∨ ∃ b o, a = some ⟨b, o, none⟩ ∧ b < B ∧ ∀ j, j < bs.length → w.cell? ⟨b, o + j, none⟩ = some (.int .u8 (byteAt bs j))

theorem RdB.nil (w : World) (B : Nat) (a : Option Addr) : RdB w B a [] := .inl rfl

theorem RdB.below {w w' : World} {B : Nat} {a : Option Addr} {bs : List UInt8} (h : RdB w B a bs) (hb : Below B w w') : RdB w' B a bs := by
  rcases h with h | ⟨b, o, e, hlt, hc⟩
  · exact .inl h
  · exact .inr ⟨b, o, e, hlt, fun j hj => (hb.cell (p := ⟨b, o + j, none⟩) hlt).trans (hc j hj)⟩

theorem RdB.mono {w : World} {B B' : Nat} {a : Option Addr} {bs : List UInt8} (h : RdB w B a bs) (hB : B ≤ B') : RdB w B' a bs := by
  rcases h with h | ⟨b, o, e, hlt, hc⟩
  · exact .inl h
  · exact .inr ⟨b, o, e, by omega, hc⟩

/-- Two steps at once: kept below a bound that lies at or above its block. -/
theorem RdB.later {w w' : World} {B : Nat} {a : Option Addr} {bs : List UInt8} (h : RdB w B a bs) (hb : Below B w w') : RdB w' w'.heap.size a bs ∨ w'.heap.size < B := by
  rcases Nat.lt_or_ge w'.heap.size B with hl | hl
  · exact .inr hl
  · exact .inl ((h.below hb).mono hl)

theorem mk_addr_add (b o j : Nat) : (⟨b, o, none⟩ : Addr).add j = ⟨b, o + j, none⟩ := by
  unfold Addr.add
  split <;> simp_all

/-- The text of bytes. -/
theorem RdB.text {P : Program} {w : World} {B : Nat} {a : Option Addr} {bs : List UInt8} (h : RdB w B a bs) (src dst e : TypeId) (n c : Nat) (hn : n = bs.length)
    (hs : P.underlying src = some (.slice e)) (he : P.underlying e = some (.int .u8)) (hd : P.underlying dst = some .string) :
    (convert src dst (.slice a n c)).run P w = .ok (.string ⟨bs.toArray⟩) w := by
  subst hn
  rcases a with _ | ad
  · rcases h with rfl | ⟨b, o, e, _⟩
    · exact run_convert_bytes_nil w src e hs he _ _ dst hd
    · cases e
  · refine run_convert_bytes_back w src dst e ad c bs hs he hd fun j hj => ?_
    rcases h with rfl | ⟨b, o, e, hlt, hc⟩
    · simp at hj
    · injection e with e
      subst e
      rw [mk_addr_add, hc j hj]
      simp [byteAt, List.getElem?_eq_getElem hj]

theorem RdB.drewN {w : World} {B : Nat} {a : Option Addr} {bs : List UInt8} (h : RdB w B a bs) (q : Nat) : RdB (w.drewN q) B a bs := h

theorem RdB.lt {w : World} {B : Nat} {a : Option Addr} {bs : List UInt8} (h : RdB w B a bs) (p : Addr) (hne : bs ≠ []) (hp : a = some p) : p.block < B := by
  rcases h with h | ⟨b, o, e, hlt, _⟩
  · exact absurd h hne
  · rw [hp] at e
    cases e
    exact hlt

theorem byteAt_take (bs : List UInt8) (n j : Nat) (h : j < n) : byteAt (bs.take n) j = byteAt bs j := by
  simp [byteAt, h]

theorem byteAt_drop (bs : List UInt8) (n j : Nat) : byteAt (bs.drop n) j = byteAt bs (n + j) := by
  simp [byteAt]

theorem RdB.take {w : World} {B : Nat} {a : Option Addr} {bs : List UInt8} (h : RdB w B a bs) (n : Nat) : RdB w B a (bs.take n) := by
  rcases h with rfl | ⟨b, o, e, hlt, hc⟩
  · exact .inl (by simp)
  · refine .inr ⟨b, o, e, hlt, fun j hj => ?_⟩
    simp at hj
    rw [byteAt_take bs n j (by omega)]
    exact hc j (by omega)

/-- A whole own row reads as bytes. -/
theorem RdB.of_row {w : World} {g : Nat} {t : TypeId} {bs : List UInt8} (h : w.rowIs g t bs.length (fun j => .int .u8 (byteAt bs j))) : RdB w w.heap.size (some ⟨g, 0, none⟩) bs :=
  .inr ⟨g, 0, rfl, h.lt, fun j hj => by rw [Nat.zero_add]; exact h.cell hj⟩

theorem ext_bytes {l m : List UInt8} (hl : l.length = m.length) (h : ∀ j, j < l.length → byteAt l j = byteAt m j) : l = m := by
  apply List.ext_getElem hl
  intro j h1 h2
  have := h j h1
  simp only [byteAt, List.getElem?_eq_getElem h1, List.getElem?_eq_getElem h2, Option.getD_some] at this
  exact UInt8.toNat_inj.1 (by omega)

/-- A scope whose jumps go forward, to one label, behind which nothing jumps any more. -/
theorem wp_scope_on {P : Program} {a : Act} {w : World} {Q : Exit → Act → World → Prop} {c rest : Code} (l : Nat) (hf : findLabel c l = some rest)
    (first : c.wp P (Exit.jump l (fun a' w' => rest.wp P (Exit.noGoto Q) a' w') Q) a w) : (Code.scope c).wp P Q a w :=
  wp_scope_jumps l _ (fun _ _ => 0) hf first fun a' w' h => wp_mono h fun e a1 w1 hq => by
    cases e with
    | goto t => exact hq.elim
    | normal => exact hq
    | exit id => exact hq
    | ret => exact hq
    | panic ch => exact hq
    | outgrown => exact hq

section
variable {l : Nat} {J : Act → World → Prop} {Q : Exit → Act → World → Prop} {a : Act} {w : World}
theorem jump_ret : Exit.jump l J Q .ret a w = Q .ret a w := rfl
theorem jump_goto (t : Nat) : Exit.jump l J Q (.goto t) a w = (t = l ∧ J a w) := rfl
end

end Go.Proofs.Ytdnjoohicbdmiaa
