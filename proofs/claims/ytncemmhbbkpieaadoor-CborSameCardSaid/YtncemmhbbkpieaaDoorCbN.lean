/- Package cbor's item: one of bytes, in as many lists as may be. -/
import Derived.Test.YtncemmhbbkpieaaDoorCbM
namespace Go.Proofs.YtncemmhbbkpieaaDoor
open Go.RowKit Go.Shelf

/-- So many items, one behind another. -/
def listN (g : List UInt8 → Except Nat (It × List UInt8)) : Nat → List UInt8 → Except Nat (List It × List UInt8)
  | 0, r => .ok ([], r)
  | c + 1, r => match g r with
    | .error e => .error e
    | .ok (x, r1) => match listN g c r1 with
      | .error e => .error e
      | .ok (l, r2) => .ok (x :: l, r2)

/-- The item of the first bytes, that may lie in so many lists less one; what is left. -/
def itemN : Nat → List UInt8 → Except Nat (It × List UInt8)
  | 0, _ => .error 120
  | k + 1, bs => match headN bs with
    | none => .error 121
    | some (m, n, r) =>
      if m = 0 then .ok (.mk 1 n [] [] [], r)
      else if m = 2 then (if n.toNat ≤ r.length then .ok (.mk 2 0 (r.take n.toNat) [] [], r.drop n.toNat) else .error 121)
      else if m = 3 then textN n r
      else if m = 4 then (match listN (itemN k) n.toNat r with | .error e => .error e | .ok (l, r') => .ok (.mk 4 0 [] [] l, r'))
      else if m = 7 then bareN n r
      else .error 121

/-- Behind items that are read. -/
def behind (l : List It) : Except Nat (List It × List UInt8) → Except Nat (List It × List UInt8)
  | .error e => .error e
  | .ok (l', r) => .ok (l ++ l', r)

theorem behind_nil (o : Except Nat (List It × List UInt8)) : behind [] o = o := by
  rcases o with e | ⟨l, r⟩ <;> rfl

theorem behind_step (g : List UInt8 → Except Nat (It × List UInt8)) (l : List It) (c : Nat) (r r1 : List UInt8) (x : It) (h : g r = .ok (x, r1)) : behind l (listN g (c + 1) r) = behind (l ++ [x]) (listN g c r1) := by
  simp only [listN, h]
  rcases listN g c r1 with e | ⟨l', r2⟩
  · rfl
  · simp [behind]

theorem headN_less {bs r : List UInt8} {m : Nat} {n : Int} (h : headN bs = some (m, n, r)) : r.length < bs.length := by
  cases bs with
  | nil => simp [headN] at h
  | cons f t =>
    by_cases hw : f.toNat % 32 < 24
    · simp only [headN, hw, if_true] at h
      injection h with h
      injection h with h1 h
      injection h with h2 h
      subst h
      simp
    · rw [headN_wide f t _ rfl hw] at h
      split at h
      · split at h
        · injection h with h
          injection h with h1 h
          injection h with h2 h
          subst h
          rw [List.length_drop, List.length_cons]
          exact Nat.lt_succ_of_le (Nat.sub_le _ _)
        · cases h
      · cases h

theorem headN_u64 {bs r : List UInt8} {m : Nat} {n : Int} (h : headN bs = some (m, n, r)) : U64 n ∧ m < 8 := by
  cases bs with
  | nil => simp [headN] at h
  | cons f t =>
    have hf := f.toNat_lt
    by_cases hw : f.toNat % 32 < 24
    · simp only [headN, hw, if_true] at h
      injection h with h
      injection h with h1 h
      injection h with h2 h
      subst h1 h2
      exact ⟨⟨by omega, by omega⟩, by omega⟩
    · rw [headN_wide f t _ rfl hw] at h
      split at h
      · split at h
        · injection h with h
          injection h with h1 h
          injection h with h2 h
          subst h1 h2
          exact ⟨numN_u64 _ _, by omega⟩
        · cases h
      · cases h

theorem listN_less {g : List UInt8 → Except Nat (It × List UInt8)} (hg : ∀ r x r1, g r = .ok (x, r1) → r1.length < r.length) : ∀ (c : Nat) (r : List UInt8) (l : List It) (r2 : List UInt8), listN g c r = .ok (l, r2) → r2.length ≤ r.length
  | 0, r, l, r2, h => by
    simp only [listN] at h
    injection h with h
    injection h with _ h
    rw [h]
    exact Nat.le_refl _
  | c + 1, r, l, r2, h => by
    simp only [listN] at h
    cases h1 : g r with
    | error e => simp [h1] at h
    | ok p =>
      obtain ⟨x, r1⟩ := p
      simp only [h1] at h
      cases h2 : listN g c r1 with
      | error e => simp [h2] at h
      | ok q =>
        obtain ⟨l', r2'⟩ := q
        simp only [h2] at h
        injection h with h
        injection h with _ h
        subst h
        have := hg r x r1 h1
        have := listN_less hg c r1 l' r2' h2
        omega

theorem itemN_less : ∀ (k : Nat) (r : List UInt8) (x : It) (r1 : List UInt8), itemN k r = .ok (x, r1) → r1.length < r.length
  | 0, r, x, r1, h => by simp [itemN] at h
  | k + 1, bs, x, r1, h => by
    simp only [itemN] at h
    cases hh : headN bs with
    | none => simp [hh] at h
    | some p =>
      obtain ⟨m, n, r⟩ := p
      have hl := headN_less hh
      simp only [hh] at h
      split at h
      · injection h with h
        injection h with _ h
        subst h
        exact hl
      · split at h
        · split at h
          · injection h with h
            injection h with _ h
            subst h
            rw [List.length_drop]
            omega
          · cases h
        · split at h
          · unfold textN at h
            split at h
            · split at h
              · injection h with h
                injection h with _ h
                subst h
                rw [List.length_drop]
                omega
              · cases h
            · cases h
          · split at h
            · split at h
              · cases h
              · rename_i l r' hL
                injection h with h
                injection h with _ h
                subst h
                have := listN_less (itemN_less k) _ _ _ _ hL
                omega
            · split at h
              · unfold bareN at h
                split at h
                · injection h with h
                  injection h with _ h
                  subst h
                  exact hl
                · split at h
                  · injection h with h
                    injection h with _ h
                    subst h
                    exact hl
                  · cases h
              · cases h

/-- Cells that are items', five each. -/
def LS (w : World) (S : Nat → Prop) : List Value → List It → Prop
  | xs, [] => xs = []
  | xs, x :: l => ∃ v0 v1 v2 v3 v4 rest, xs = v0 :: v1 :: v2 :: v3 :: v4 :: rest ∧ ItS w S (.agg #[v0, v1, v2, v3, v4]) x ∧ LS w S rest l

theorem LS.keep {w w' : World} {S : Nat → Prop} (hk : KeepB S w w') : ∀ {l : List It} {xs : List Value}, LS w S xs l → LS w' S xs l
  | [], _, h => h
  | x :: l, xs, h => by
    obtain ⟨v0, v1, v2, v3, v4, rest, e, hx, hr⟩ := h
    exact ⟨v0, v1, v2, v3, v4, rest, e, hx.keep hk, LS.keep hk hr⟩

theorem LS.more {w : World} {S T : Nat → Prop} (hST : ∀ b, S b → T b) : ∀ {l : List It} {xs : List Value}, LS w S xs l → LS w T xs l
  | [], _, h => h
  | x :: l, xs, h => by
    obtain ⟨v0, v1, v2, v3, v4, rest, e, hx, hr⟩ := h
    exact ⟨v0, v1, v2, v3, v4, rest, e, hx.more hST, LS.more hST hr⟩

theorem LS.snoc {w : World} {S : Nat → Prop} {x : It} {v0 v1 v2 v3 v4 : Value} (hx : ItS w S (.agg #[v0, v1, v2, v3, v4]) x) : ∀ {l : List It} {xs : List Value}, LS w S xs l → LS w S (xs ++ [v0, v1, v2, v3, v4]) (l ++ [x])
  | [], xs, h => by
    have h : xs = [] := h
    subst h
    exact ⟨v0, v1, v2, v3, v4, [], rfl, hx, rfl⟩
  | y :: l, xs, h => by
    obtain ⟨u0, u1, u2, u3, u4, rest, rfl, hy, hr⟩ := h
    exact ⟨u0, u1, u2, u3, u4, rest ++ [v0, v1, v2, v3, v4], rfl, hy, LS.snoc hx hr⟩

theorem LS.itSL {w : World} {S : Nat → Prop} {g : Nat} : ∀ {l : List It} {xs : List Value} {o : Nat}, LS w S xs l → (∀ j u, xs[j]? = some u → w.cell? ⟨g, o + j, none⟩ = some u) → ItSL w S g o l
  | [], _, _, _, _ => by simp only [ItSL]
  | x :: l, xs, o, h, hc => by
    obtain ⟨v0, v1, v2, v3, v4, rest, rfl, hx, hr⟩ := h
    simp only [ItSL]
    refine ⟨⟨_, ⟨v0, v1, v2, v3, v4, rfl, hc 0 _ rfl, hc 1 _ rfl, hc 2 _ rfl, hc 3 _ rfl, hc 4 _ rfl⟩, hx⟩, LS.itSL hr fun j u hj => ?_⟩
    have := hc (j + 5) u (by simpa using hj)
    rw [show o + 5 + j = o + (j + 5) by omega]
    exact this

theorem ItS.form {w : World} {S : Nat → Prop} {v : Value} {x : It} (h : ItS w S v x) : ∃ a c A C, v = .agg #[.int .i64 x.k, .int .u64 x.n, .slice a x.b.length c, .string ⟨x.s.toArray⟩, .slice A x.l.length C] := by
  obtain ⟨k, n, b, s, l⟩ := x
  simp only [ItS] at h
  obtain ⟨A, ⟨a, c, C, rfl, _⟩, _⟩ := h
  exact ⟨a, c, A, C, rfl⟩

theorem info_item : (Tryd.prog.info? 28).map (fun i => (i.zero, i.size, i.bytes)) = some (some (.agg #[.int .i64 0, .int .u64 0, .slice none 0 0, .string ⟨#[]⟩, .slice none 0 0]), 5, 80) := by kernel_rfl

section
variable {P : Program} (w : World)

/-- One item appended onto items of the call's own. -/
theorem wpList_app5 {ops : Array Oper} {rest : List Oper} {o : Oper} {a : Act} {Q : Exit → Act → World → Prop} (hgd : o.guard = none) (s x : Operand) (t : TypeId)
    (ho : o.op = .call { callee := .builtin .append, args := #[s, x], argTypes := #[t, t] })
    (base : Nat) (e : TypeId) (z : Value) (size bytes : Nat) (ht : P.underlying t = some (.slice e)) (hinfo : (P.info? e).map (fun i => (i.zero, i.size, i.bytes)) = some (some z, size, bytes)) (hz1 : z.cells.size = size) (hsz : 0 < size)
    (v : Value) (n : Nat) (xs : List Value) (hv : a.eval s = v) (hown : w.ownsRow base e size v n xs) (A : Addr) (m c : Nat) (ys : List Value) (hx : a.eval x = .slice (some A) m c) (hm : ys.length = m * size) (hs : ∀ j u, ys[j]? = some u → w.cell? (A.add j) = some u) (h1 : ∀ u ∈ ys, u.oneCell' = true)
    (h63 : n + m ≤ maxLen) (hbytes : (n + m) * bytes ≤ 140737488355328) (hbase : base ≤ w.heap.size)
    (h : ∀ v' w', w'.ownsRow base e size v' (n + m) (xs ++ ys) → w.grownBy w' v.ownBlock → (v'.ownBlock = v.ownBlock ∨ v'.ownBlock = some w.heap.size) → wpList P ops Q rest (a.put o.dst v') w') : wpList P ops Q (o :: rest) a w :=
  wpList_plain hgd fun _ hK => by
    obtain ⟨i, hi, hz0, hsz0, hb⟩ := info_parts hinfo
    obtain ⟨v', w', hrun, h2, h3, _, h5⟩ := run_append_own_at (P := P) w base t o.type e i z size bytes ht hi hz0 hsz0 hb hz1 hsz v n xs hown A m c ys hm hs h1 h63 hbytes hbase
    unfold Oper.wp execOp
    simp only [ho, resolve, invoke, builtin, Sem.run_bind, Sem.run_pure, Result.andThen_ok, List.map_toArray, List.map_cons, List.map_nil, hv, hx, hrun]
    exact hK _ _ (h v' w' h2 h3 h5)
end

/-- A list's items in new memory, or why there are none. -/
def ListP (w : World) (R B : Nat) (o : Except Nat (List It × List UInt8)) (e : Ending) (w' : World) : Prop :=
  But R w w' ∧ match o with
    | .error c => e = gives c
    | .ok (l, r) => ∃ A C, e = .returned (.slice A l.length C) ∧ l.length ≤ C ∧ (l = [] ∨ ∃ g o, A = some ⟨g, o, none⟩ ∧ newB w w' g ∧ ItSL w' (newB w w') g o l) ∧ RS w' R B r

/-- What is new since w, the own row apart. -/
def newButs (w wr : World) (v : Value) (b : Nat) : Prop := newB w wr b ∧ v.ownBlock ≠ some b

/-- Where the walk stands. -/
def ListI (g : List UInt8 → Except Nat (It × List UInt8)) (N : Nat) (bs : List UInt8) (w : World) (R B : Nat) (j : Nat) (v : Value) (wr : World) : Prop :=
  But R w wr ∧ ∃ xs l r, RS wr R B r ∧ wr.ownsRow w.heap.size 28 5 v j xs ∧ LS wr (newButs w wr v) xs l ∧ l.length = j ∧ listN g N bs = behind l (listN g (N - j) r) ∧ r.length + j ≤ bs.length

theorem But.low {R : Nat} {w w1 w2 : World} (h : But R w w1) (k : Below w.heap.size w1 w2) : But R w w2 :=
  ⟨k.os.trans h.os, k.tape.trans h.tape, k.output.trans h.output, Nat.le_trans h.size k.size, fun i hi hne => (k.block i hi).trans (h.block i hi hne)⟩

theorem ownsRow_but {R base n size : Nat} {e : TypeId} {w w' : World} {v : Value} {xs : List Value} (h : w.ownsRow base e size v n xs) (hb : But R w w') (hR : R < base) : w'.ownsRow base e size v n xs := by
  obtain ⟨h1, h2⟩ := h
  rcases h2 with h2 | ⟨g, cap, cur, hv, hg0, hg, r⟩
  · exact ⟨h1, .inl h2⟩
  · exact ⟨h1, .inr ⟨g, cap, cur, hv, hg0, (hb.block g (Array.getElem?_eq_some_iff.1 hg).1 (by omega)).trans hg, r⟩⟩

theorem ListI.step {g : List UInt8 → Except Nat (It × List UInt8)} {N : Nat} {bs r r1 : List UInt8} {w wr w1 w2 : World} {R B j : Nat} {v v' v0 v1 v2 v3 v4 : Value} {xs : List Value} {l : List It} {x : It} {t : TypeId}
    (hRs : R < w.heap.size) (hBR : B ≤ R) (hj : j < N) (hb : But R w wr) (hown : wr.ownsRow w.heap.size 28 5 v j xs) (hls : LS wr (newButs w wr v) xs l) (hll : l.length = j) (hcon : listN g N bs = behind l (listN g (N - j) r)) (hrj : r.length + j ≤ bs.length)
    (hgr : g r = .ok (x, r1)) (hless : r1.length < r.length) (hb1 : But R wr w1) (hx : ItS w1 (newB wr w1) (.agg #[v0, v1, v2, v3, v4]) x) (hs1 : RS w1 R B r1)
    (h2 : w2.ownsRow w.heap.size 28 5 v' (j + 1) (xs ++ [v0, v1, v2, v3, v4])) (h3 : (w1.alloc (.cells #[v0, v1, v2, v3, v4] t)).grownBy w2 v.ownBlock)
    (h5 : v'.ownBlock = v.ownBlock ∨ v'.ownBlock = some (w1.alloc (.cells #[v0, v1, v2, v3, v4] t)).heap.size) : ListI g N bs w R B (j + 1) v' w2 := by
  have hrow := World.ownsRow.lt hown
  have hsz := hb.size
  have hsz1 := hb1.size
  have hA : (w1.alloc (.cells #[v0, v1, v2, v3, v4] t)).heap.size = w1.heap.size + 1 := World.size_alloc _ _
  have hB2 : Below w.heap.size (w1.alloc (.cells #[v0, v1, v2, v3, v4] t)) w2 := (Below.refl _ _).grown h3 (by omega) (fun k hk => (hrow k hk).1)
  have hB1 : Below w1.heap.size w1 (w1.alloc (.cells #[v0, v1, v2, v3, v4] t)) := below_al (Below.refl _ _) _
  have hB12 : Below w.heap.size w1 w2 := (hB1.mono (by omega)).trans hB2
  have hsz2 := hB2.size
  have hkeep : ∀ S : Nat → Prop, (∀ b, S b → b < w1.heap.size) → (∀ r, v.ownBlock = some r → ¬ S r) → KeepB S w1 w2 := fun S hS hne =>
    KeepB.grown (S := S) (fun b hb => hB1.block b (hS b hb)) (fun b hb => by have := hS b hb; omega) h3 hne
  have k1 : KeepB (newButs w wr v) w1 w2 := hkeep _ (fun b hb => Nat.lt_of_lt_of_le hb.1.2 hsz1) (fun r hr hs => hs.2 hr)
  have k0 : KeepB (newButs w wr v) wr w2 := fun b hb => (k1 b hb).trans (hb1.block b hb.1.2 (by have := hb.1.1; omega))
  have k2 : KeepB (newB wr w1) w1 w2 := hkeep _ (fun b hb => hb.2) (fun r hr hs => by have := (hrow r hr).2; have := hs.1; omega)
  have hT : ∀ b, newB wr w1 b → newButs w w2 v' b := fun b hb => ⟨⟨by have := hb.1; omega, by have := hb.2; omega⟩, fun q => by
    rcases h5 with h5 | h5
    · rw [h5] at q
      have := (hrow b q).2
      have := hb.1
      omega
    · rw [h5, hA] at q
      injection q with q
      have := hb.2
      omega⟩
  have hS : ∀ b, newButs w wr v b → newButs w w2 v' b := fun b hb => ⟨⟨hb.1.1, by have := hb.1.2; omega⟩, fun q => by
    rcases h5 with h5 | h5
    · rw [h5] at q
      exact hb.2 q
    · rw [h5, hA] at q
      injection q with q
      have := hb.1.2
      omega⟩
  refine ⟨(hb.trans hb1).low hB12, xs ++ [v0, v1, v2, v3, v4], l ++ [x], r1, hs1.other (hB12.mono (by omega)) (hB12.block R hRs), h2, LS.snoc ((hx.keep k2).more hT) ((hls.keep k0).more hS), by simp [hll], ?_, by omega⟩
  rw [hcon, show N - j = (N - (j + 1)) + 1 by omega, behind_step g l _ r r1 x hgr]

set_option maxRecDepth 100000 in
set_option maxHeartbeats 4000000 in
theorem listed_any (R B : Nat) (g : List UInt8 → Except Nat (It × List UInt8)) (hg : ∀ r x r1, g r = .ok (x, r1) → r1.length < r.length) (N : Nat) (hN : N < 18446744073709551616) (bs : List UInt8) (hbs : bs.length ≤ 1000000) (f : Nat) (cap : Array Value) (w : World) (hS : RS w R B bs)
    (ef : ∀ args w, (callFunc f args).run Tryd.prog w = .ok (.enter f args) w)
    (hf : ∀ (r : List UInt8) (wr : World), But R w wr → RS wr R B r → r.length ≤ bs.length → Calls Tryd.prog f cap wr (RdP3 wr R B (g r))) :
    Calls Tryd.prog 35 #[.int .u64 N, .func (.func f) #[] cap] w (ListP w R B (listN g N bs)) := by
  have HG := Lib.hid hg
  have HF := Lib.hid hf
  have HS := Lib.hid hS
  have hRs : R < w.heap.size := by
    obtain ⟨_, _, _, _, _, _, _, h6, _⟩ := hS
    exact h6
  clear hg hf hS
  go_enter Tryd.func35, Tryd.ntmps35
  go_wp2_with fail
  go_loopw [5, 7] (fun v i wr => ∃ j : Nat, j ≤ N ∧ i = .int .u64 j ∧ Hid (ListI g N bs w R B j v wr)) (fun _ i _ => N - (intOf i).toNat)
  case atStart =>
    exact ⟨0, Nat.zero_le _, rfl, But.refl _ _, [], [], bs, HS.out, World.ownsRow_nil _ _ _ _, rfl, rfl, by rw [behind_nil]; rfl, by simp⟩
  case round =>
    obtain ⟨j, hj, rfl, HI⟩ := hrel
    by_cases hlt : j < N
    · obtain ⟨hb, xs, l, r, hr, hown, hls, hll, hcon, hrj⟩ := HI.out
      have HB := Lib.hid hb
      have HR := Lib.hid hr
      have HO := Lib.hid hown
      have HL := Lib.hid hls
      have HC := Lib.hid hcon
      have HLL := Lib.hid hll
      clear hb hr hown hls hcon hll
      go_wp2_with fail
      refine (HF.out r _ HB.out HR.out (by omega)).mono ?_
      rintro e w1 ⟨hb1, hm⟩
      have HB1 := Lib.hid hb1
      clear hb1
      cases hgr : g r with
      | error c =>
        rw [hgr] at hm
        simp only at hm
        subst hm
        rw [gives_def]
        have HE := Lib.hid hgr
        clear hgr
        go_wp2_with fail
        refine ⟨rfl, HB.out.trans HB1.out, ?_⟩
        have e1 : N - j = (N - (j + 1)) + 1 := by omega
        rw [HC.out, e1]
        simp only [listN, HE.out, behind]
        rfl
      | ok p =>
        obtain ⟨x, r1⟩ := p
        rw [hgr] at hm
        obtain ⟨v1, rfl, hx, hs1⟩ := hm
        obtain ⟨a', c', A', C', rfl⟩ := hx.form
        have HX := Lib.hid hx
        have HS1 := Lib.hid hs1
        have HGR := Lib.hid hgr
        have HO1 := Lib.hid (World.ownsRow.alloc (ownsRow_but HO.out HB1.out hRs) (.cells #[.int .i64 x.k, .int .u64 x.n, .slice a' x.b.length c', .string ⟨x.s.toArray⟩, .slice A' x.l.length C'] 28))
        have hsz : w.heap.size ≤ wr.heap.size := HB.out.size
        have hsz1 : wr.heap.size ≤ w1.heap.size := HB1.out.size
        have HM : Hid (∀ j u, [Value.int .i64 x.k, .int .u64 x.n, .slice a' x.b.length c', .string ⟨x.s.toArray⟩, .slice A' x.l.length C'][j]? = some u →
            (w1.alloc (.cells #[.int .i64 x.k, .int .u64 x.n, .slice a' x.b.length c', .string ⟨x.s.toArray⟩, .slice A' x.l.length C'] 28)).cell? ((⟨w1.heap.size, 0, none⟩ : Addr).add j) = some u) := by
          intro j u hu
          rw [mk_addr_add, Nat.zero_add, World.cell?_alloc_mark]
          simpa using hu
        have hjb : j ≤ 1000000 := by omega
        clear hx hs1 hgr
        go_wp2_with (at_builtin; refine wpList_app5 _ rfl _ _ 26 rfl w.heap.size 28 _ 5 80 Tryd.underlying26 info_item rfl (by decide) _ j xs rfl HO1.out ⟨w1.heap.size, 0, none⟩ 1 1 [.int .i64 x.k, .int .u64 x.n, .slice a' x.b.length c', .string ⟨x.s.toArray⟩, .slice A' x.l.length C'] rfl rfl HM.out (by intro u hu; simp at hu; rcases hu with rfl | rfl | rfl | rfl | rfl <;> rfl) (by unfold maxLen; omega) (by omega) (by rw [World.size_alloc]; omega) ?_; intro v' w2 h2 h3 h5; have HI2 := Lib.hid (ListI.step hRs (by obtain ⟨_, _, _, _, _, _, _, _, h7⟩ := HS.out; exact h7) hlt HB.out HO.out HL.out HLL.out HC.out hrj HGR.out (HG.out _ _ _ HGR.out) HB1.out HX.out HS1.out h2 h3 h5); clear h2 h3 h5)
        go_roundw
        case rel => exact ⟨j + 1, by omega, by go_num, HI2.out⟩
        case measure => simp [intOf]; omega
    · obtain rfl : j = N := by omega
      obtain ⟨hb, xs, l, r, hr, hown, hls, hll, hcon, hrj⟩ := HI.out
      rw [Nat.sub_self] at hcon
      have HB := Lib.hid hb
      have HR := Lib.hid hr
      have HO := Lib.hid hown
      have HL := Lib.hid hls
      have HC := Lib.hid hcon
      have HLL := Lib.hid hll
      clear hb hr hown hls hcon hll
      go_wp2_with fail
      go_ret
      refine ⟨HB.out, ?_⟩
      rw [HC.out]
      simp only [listN, behind, List.append_nil]
      rcases HO.out.2 with ⟨rfl, h0⟩ | ⟨gg, cp, cur, rfl, hb0, hg, hn, hm, hs, htk⟩
      · obtain rfl : l = [] := by
          have := HLL.out
          rw [h0] at this
          exact List.eq_nil_of_length_eq_zero this
        exact ⟨none, 0, rfl, Nat.le_refl _, .inl rfl, HR.out⟩
      · have hlt := (Array.getElem?_eq_some_iff.1 hg).1
        refine ⟨some ⟨gg, 0, none⟩, cp, ?_, ?_, .inr ⟨gg, 0, rfl, ⟨hb0, hlt⟩, ?_⟩, HR.out⟩
        · rw [HLL.out]
          rfl
        · rw [HLL.out]
          exact hn
        · refine ItSL.more (fun b hb => hb.1) l (LS.itSL HL.out fun i u hi => ?_)
          have h1 : wr.cell? ⟨gg, 0 + i, none⟩ = cur[i]? := by simp [World.cell?, hg]
          rw [h1]
          have hil : i < xs.length := (List.getElem?_eq_some_iff.1 hi).1
          rw [← htk, List.getElem?_take] at hi
          split at hi
          · simpa using hi
          · cases hi

end Go.Proofs.YtncemmhbbkpieaaDoor
