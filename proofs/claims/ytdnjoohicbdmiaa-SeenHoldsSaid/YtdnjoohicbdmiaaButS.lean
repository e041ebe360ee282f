/- Worlds alike below a bound but for some blocks. -/
import Derived.Test.YtdnjoohicbdmiaaGen
import Derived.Deep.MidRow
import Derived.OwnWalkIn
import Derived.TacticsInMore
namespace Go.Proofs.Ytdnjoohicbdmiaa
open Go Go.RowKit Go.Shelf
set_option linter.unusedSimpArgs false
set_option linter.unusedVariables false
set_option maxRecDepth 100000

/-- All blocks below B but those of S are as they were. -/
structure ButS (B : Nat) (S : Nat → Prop) (w w' : World) : Prop where
  os : w'.os = w.os
  tape : w'.tape = w.tape
  output : w'.output = w.output
  size : w.heap.size ≤ w'.heap.size
  block : ∀ k, k < B → ¬ S k → w'.heap[k]? = w.heap[k]?

theorem ButS.refl (B : Nat) (S : Nat → Prop) (w : World) : ButS B S w w := ⟨rfl, rfl, rfl, Nat.le_refl _, fun _ _ _ => rfl⟩
theorem ButS.trans {B : Nat} {S : Nat → Prop} {a b c : World} (h : ButS B S a b) (k : ButS B S b c) : ButS B S a c :=
  ⟨k.os.trans h.os, k.tape.trans h.tape, k.output.trans h.output, Nat.le_trans h.size k.size, fun i hi hn => (k.block i hi hn).trans (h.block i hi hn)⟩
theorem ButS.of_below {B : Nat} {S : Nat → Prop} {w w' : World} (h : Below B w w') : ButS B S w w' := ⟨h.os, h.tape, h.output, h.size, fun k hk _ => h.block k hk⟩
theorem ButS.mono {B B' : Nat} {S T : Nat → Prop} {w w' : World} (h : ButS B S w w') (hB : B' ≤ B) (hS : ∀ b, b < B' → S b → T b) : ButS B' T w w' :=
  ⟨h.os, h.tape, h.output, h.size, fun k hk hn => h.block k (Nat.lt_of_lt_of_le hk hB) fun hs => hn (hS k hk hs)⟩
/-- Where all of S lies from b on, what is below b is as it was. -/
theorem ButS.below {B b : Nat} {S : Nat → Prop} {w w' : World} (h : ButS B S w w') (hB : b ≤ B) (hS : ∀ k, S k → b ≤ k) : Below b w w' :=
  ⟨h.os, h.tape, h.output, h.size, fun k hk => h.block k (Nat.lt_of_lt_of_le hk hB) fun hs => by have := hS k hs; omega⟩
theorem ButS.set {B : Nat} {S : Nat → Prop} {w0 w : World} (h : ButS B S w0 w) {b : Nat} (hb : S b ∨ B ≤ b) (i : Nat) (v : Value) : ButS B S w0 (w.setCell ⟨b, i, none⟩ v) := by
  refine ⟨h.os, h.tape, h.output, by rw [World.size_setCell]; exact h.size, fun k hk hn => ?_⟩
  have hne : k ≠ b := by
    rintro rfl
    rcases hb with hb | hb
    · exact hn hb
    · omega
  rw [Below.heap_setCell _ _ _ _ hne]
  exact h.block k hk hn
theorem ButS.alloc {B : Nat} {S : Nat → Prop} {w0 w : World} (h : ButS B S w0 w) (hB : B ≤ w.heap.size) (o : Obj) : ButS B S w0 (w.alloc o) :=
  h.trans (.of_below ((below_al (Below.refl w.heap.size w) o).mono hB))
theorem ButS.drew {B : Nat} {S : Nat → Prop} {w0 w : World} (h : ButS B S w0 w) : ButS B S w0 w.drew := ⟨h.os, h.tape, h.output, h.size, h.block⟩
theorem ButS.cell {B : Nat} {S : Nat → Prop} {w w' : World} (h : ButS B S w w') {p : Addr} (hb : p.block < B) (hn : ¬ S p.block) : w'.cell? p = w.cell? p := World.cell?_of_block (a := p) (h.block p.block hb hn)
theorem ButS.frozen {B : Nat} {S : Nat → Prop} {w w' : World} (h : ButS B S w w') {p : Addr} (hb : p.block < B) (hn : ¬ S p.block) : w'.frozen? p = w.frozen? p := by
  have := h.block p.block hb hn
  simp only [World.frozen?, this]
theorem ButS.on {S : Nat → Prop} {a b c : World} (h : ButS a.heap.size S a b) (k : Below b.heap.size b c) : ButS a.heap.size S a c := h.trans (.of_below (k.mono h.size))

/-- The blocks that are new. -/
def newS (w w' : World) (b : Nat) : Prop := w.heap.size ≤ b ∧ b < w'.heap.size

/-- A row of cells, kept. -/
theorem RowB.kept {w w' : World} {b : Nat} {vs : List Value} (h : RowB w b vs) (hb : w'.heap[b]? = w.heap[b]?) : RowB w' b vs :=
  ⟨fun i v hv => (World.cell?_of_block (a := ⟨b, i, none⟩) hb).trans (h.1 i v hv), fun i => by
    have := h.2 i
    simp only [World.frozen?] at this ⊢
    rw [hb]
    exact this⟩

/-- Cells that lie in a row may be read as a range. -/
theorem RowB.range {w : World} {b : Nat} {vs : List Value} (h : RowB w b vs) : w.rangeAt b 0 vs := fun j v hv => by rw [Nat.zero_add]; exact h.1 j v hv
theorem RowB.there {w : World} {b : Nat} {vs : List Value} (h : RowB w b vs) : w.there b 0 vs.length := fun j hj => by
  rw [Nat.zero_add, h.1 j _ (List.getElem?_eq_getElem hj)]
  exact ⟨rfl, h.2 j⟩
theorem RowB.lt {w : World} {b : Nat} {v : Value} {vs : List Value} (h : RowB w b (v :: vs)) : b < w.heap.size := World.block_lt_of_cell? w _ (h.1 0 v rfl)

theorem setCells_block (b : Nat) : ∀ (vs : List Value) (o : Nat) (w : World) (k : Nat), k ≠ b → (w.setCells b o vs).heap[k]? = w.heap[k]?
  | [], _, _, _, _ => rfl
  | v :: r, o, w, k, h => by
    rw [World.setCells, setCells_block b r (o + 1) _ k h, Below.heap_setCell _ _ _ _ h]
theorem setCells_size (b : Nat) : ∀ (vs : List Value) (o : Nat) (w : World), (w.setCells b o vs).heap.size = w.heap.size
  | [], _, _ => rfl
  | v :: r, o, w => by rw [World.setCells, setCells_size b r (o + 1), World.size_setCell]
theorem setCells_env (b : Nat) : ∀ (vs : List Value) (o : Nat) (w : World), (w.setCells b o vs).os = w.os ∧ (w.setCells b o vs).tape = w.tape ∧ (w.setCells b o vs).output = w.output
  | [], _, _ => ⟨rfl, rfl, rfl⟩
  | v :: r, o, w => by
    rw [World.setCells]
    obtain ⟨h1, h2, h3⟩ := setCells_env b r (o + 1) (w.setCell ⟨b, o, none⟩ v)
    exact ⟨h1.trans rfl, h2.trans rfl, h3.trans rfl⟩
theorem ButS.setCells {B : Nat} {S : Nat → Prop} {w0 w : World} (h : ButS B S w0 w) {b : Nat} (hb : S b ∨ B ≤ b) (o : Nat) (vs : List Value) : ButS B S w0 (w.setCells b o vs) := by
  obtain ⟨h1, h2, h3⟩ := setCells_env b vs o w
  refine ⟨h1.trans h.os, h2.trans h.tape, h3.trans h.output, by rw [setCells_size]; exact h.size, fun k hk hn => ?_⟩
  have hne : k ≠ b := by
    rintro rfl
    rcases hb with hb | hb
    · exact hn hb
    · omega
  rw [setCells_block _ _ _ _ _ hne]
  exact h.block k hk hn
/-- A whole row, stored. -/
theorem RowB.setAll {w : World} {b : Nat} {vs : List Value} (h : RowB w b vs) (us : List Value) (hl : us.length = vs.length) : RowB (w.setCells b 0 us) b us := by
  have h1 := World.rangeAt_setCells_same w b 0 us (by rw [hl]; exact h.there)
  exact ⟨fun i v hv => by have := h1 i v hv; rwa [Nat.zero_add] at this, fun i => by rw [World.frozen?_setCells]; exact h.2 i⟩

/-- A builtin append in a region that draws its order. -/
theorem step_app {P : Program} {ops : Array Oper} {o : Oper} {a : Act} {w : World} {K : Act → World → Prop} {Q : Exit → Act → World → Prop} {E : Prop} (hgd : o.guard = none) (s x : Operand) (t u : TypeId)
    (ho : o.op = .call { callee := .builtin .append, args := #[s, x], argTypes := #[t, u] }) (v y v' : Value) (w' : World) (hv : a.eval s = v) (hy : a.eval x = y)
    (hrun : (Builtin.append_ #[t, u] o.type #[v, y]).run P w = .ok v' w') (h : K (a.put o.dst v') w') : if Region.wanted o (yielded ops a.tmps) = true then Oper.wp P o a w K Q else E := by
  have hw : Region.wanted o (yielded ops a.tmps) = true := by simp [Region.wanted, hgd]
  rw [if_pos hw]
  unfold Oper.wp execOp
  simp only [ho, resolve, invoke, builtin, Sem.run_bind, Sem.run_pure, Result.andThen_ok, List.map_toArray, List.map_cons, List.map_nil, hv, hy, hrun]
  exact h

/-- A slice that is built in a region that draws its order. -/
theorem step_bs {P : Program} {ops : Array Oper} {o : Oper} {a : Act} {w : World} {K : Act → World → Prop} {Q : Exit → Act → World → Prop} {E : Prop} (hgd : o.guard = none) (t : TypeId) (len : Nat) (parts : Array (Nat × Operand))
    (ho : o.op = .buildSlice t len parts) (ps : Array (Nat × Value)) (hps : (parts.map fun x => (x.1, a.eval x.2)) = ps) (v' : Value) (w' : World)
    (hrun : (Instr.buildSlice t len ps).run P w = .ok v' w') (h : K (a.put o.dst v') w') : if Region.wanted o (yielded ops a.tmps) = true then Oper.wp P o a w K Q else E := by
  have hw : Region.wanted o (yielded ops a.tmps) = true := by simp [Region.wanted, hgd]
  rw [if_pos hw]
  subst hps
  unfold Oper.wp execOp
  simp only [ho, Sem.run_bind, Sem.run_pure, Result.andThen_ok, hrun]
  exact h

section
variable {F : Fence} {n : Nat} {P : Program} {ops : Array Oper} {rest : List Oper} {o : Oper} {a : Act} {w : World} {Q : Exit → Act → World → Prop}
/-- A load whose run is known. -/
theorem wpList_load (hgd : o.guard = none) (ty : TypeId) (x : Operand) (ho : o.op = .load ty x) (p v : Value) (hp : a.eval x = p) (hrun : (Instr.loadAt ty p).run P w = .ok v w)
    (h : wpList P ops Q rest (a.put o.dst v) w) : wpList P ops Q (o :: rest) a w :=
  wpList_plain hgd fun _ hK => by
    unfold Oper.wp execOp
    simp only [ho, hp, Sem.run_bind, Sem.run_pure, Result.andThen_ok, hrun]
    exact hK _ _ h
theorem wpListIn_load (hgd : o.guard = none) (ty : TypeId) (x : Operand) (ho : o.op = .load ty x) (p v : Value) (hp : a.eval x = p) (hrun : (Instr.loadAt ty p).run P w = .ok v w)
    (h : wpListIn F n P ops Q rest (a.put o.dst v) w) : wpListIn F n P ops Q (o :: rest) a w :=
  wpListIn_plain hgd fun _ hK => by
    unfold Oper.wpIn
    refine ⟨by simp [Oper.about, ho], ?_⟩
    rw [Oper.semAt_plain F _ _ (by rw [ho]; intro c' hc'; cases hc')]
    simp only [execOp, ho, hp, Sem.run_bind, Sem.run_pure, Result.andThen_ok, hrun]
    exact hK _ _ h
/-- A store whose run is known. -/
theorem wpList_store (hgd : o.guard = none) (ty : TypeId) (x y : Operand) (ho : o.op = .store ty x y) (p v : Value) (w' : World) (hp : a.eval x = p) (hv : a.eval y = v) (hrun : (Instr.storeAt ty p v).run P w = .ok () w')
    (h : wpList P ops Q rest (a.put o.dst undef) w') : wpList P ops Q (o :: rest) a w :=
  wpList_plain hgd fun _ hK => by
    unfold Oper.wp execOp
    simp only [ho, hp, hv, Sem.run_bind, Sem.run_pure, Result.andThen_ok, hrun]
    exact hK _ _ h
theorem wpListIn_store (hgd : o.guard = none) (ty : TypeId) (x y : Operand) (ho : o.op = .store ty x y) (p v : Value) (w' : World) (hp : a.eval x = p) (hv : a.eval y = v) (hrun : (Instr.storeAt ty p v).run P w = .ok () w')
    (h : wpListIn F n P ops Q rest (a.put o.dst undef) w') : wpListIn F n P ops Q (o :: rest) a w :=
  wpListIn_plain hgd fun _ hK => by
    unfold Oper.wpIn
    refine ⟨by simp [Oper.about, ho], ?_⟩
    rw [Oper.semAt_plain F _ _ (by rw [ho]; intro c' hc'; cases hc')]
    simp only [execOp, ho, hp, hv, Sem.run_bind, Sem.run_pure, Result.andThen_ok, hrun]
    exact hK _ _ h
end

/-- A result that lies in a box. -/
theorem results_cell {P : Program} {fn : Func} {tm : Array Value} {w : World} {s : Tmp} {t : TypeId} {b : Addr} {v : Value} (hf : fn.results = #[.cell s t]) (h : tm[s]? = some (.pointer (some b))) (hl : (loadVar t b).run P w = .ok v w) : (results fn tm).run P w = .ok v w := by
  unfold results
  rw [hf]
  simp [h, asAddr, hl]

end Go.Proofs.Ytdnjoohicbdmiaa
