/- Joined texts. -/
import Derived.Test.YteldifnkeekafaaGreatDoorZKn
import Derived.Recover
set_option maxHeartbeats 8000000
namespace Go.Proofs.YteldifnkeekafaaGreatDoor
open Go.RowKit Go.Shelf

def listN (g : List UInt8 → Except Nat (It × List UInt8)) : Nat → List UInt8 → Except Nat (List It × List UInt8)
 | 0, r => .ok ([], r)
 | c + 1, r => match g r with
  | .error e => .error e
  | .ok (x, r1) => match listN g c r1 with
   | .error e => .error e
   | .ok (l, r2) => .ok (x :: l, r2)

def itemN : Nat → List UInt8 → Except Nat (It × List UInt8)
 | 0, _ => .error 120
 | k + 1, bs => match headN bs with
  | none => .error 121
  | some (m, n, r) =>
   if m = 0 then .ok (.mk 1 n [] [] [], r)
   else if m = 2 then (if n.toNat ≤ r.length then .ok (.mk 2 0 (r.take n.toNat) [] [], r.drop n.toNat) else .error 121)
   else if m = 3 then textN n r
   else if m = 4 then (match listN (itemN k) n.toNat r with | .error e => .error e | .ok (l, r') => .ok (.mk 4 0 [] [] l, r'))
   else if m = 7 then bareN n r
   else .error 121

def behind (l : List It) : Except Nat (List It × List UInt8) → Except Nat (List It × List UInt8)
 | .error e => .error e
 | .ok (l', r) => .ok (l ++ l', r)

theorem behind_nil (o : Except Nat (List It × List UInt8)) : behind [] o = o := by
 rcases o with e | ⟨l, r⟩ <;> rfl

theorem behind_step (g : List UInt8 → Except Nat (It × List UInt8)) (l : List It) (c : Nat) (r r1 : List UInt8) (x : It) (h : g r = .ok (x, r1)) : behind l (listN g (c + 1) r) = behind (l ++ [x]) (listN g c r1) := by
 simp only [listN, h]
 rcases listN g c r1 with e | ⟨l', r2⟩
 ·rfl
 ·simp [behind]

theorem headN_less {bs r : List UInt8} {m : Nat} {n : Int} (h : headN bs = some (m, n, r)) : r.length < bs.length := by
 cases bs with
 | nil => simp [headN] at h
 | cons f t =>
  by_cases hw : f.toNat % 32 < 24
  ·simp only [headN, hw, if_true] at h
   injection h with h
   injection h with h1 h
   injection h with h2 h
   subst h
   simp
  ·rw [headN_wide f t _ rfl hw] at h
   split at h
   ·split at h
    ·injection h with h
     injection h with h1 h
     injection h with h2 h
     subst h
     rw [List.length_drop, List.length_cons]
     exact Nat.lt_succ_of_le (Nat.sub_le _ _)
    ·cases h
   ·cases h

theorem headN_u64 {bs r : List UInt8} {m : Nat} {n : Int} (h : headN bs = some (m, n, r)) : U64 n ∧ m < 8 := by
 cases bs with
 | nil => simp [headN] at h
 | cons f t =>
  have hf := f.toNat_lt
  by_cases hw : f.toNat % 32 < 24
  ·simp only [headN, hw, if_true] at h
   injection h with h
   injection h with h1 h
   injection h with h2 h
   subst h1 h2
   exact ⟨⟨by omega, by omega⟩, by omega⟩
  ·rw [headN_wide f t _ rfl hw] at h
   split at h
   ·split at h
    ·injection h with h
     injection h with h1 h
     injection h with h2 h
     subst h1 h2
     exact ⟨numN_u64 _ _, by omega⟩
    ·cases h
   ·cases h

theorem listN_less {g : List UInt8 → Except Nat (It × List UInt8)} (hg : ∀ r x r1, g r = .ok (x, r1) → r1.length < r.length) : ∀ (c : Nat) (r : List UInt8) (l : List It) (r2 : List UInt8), listN g c r = .ok (l, r2) → r2.length ≤ r.length
 | 0, r, l, r2, h => by
  simp only [listN] at h
  injection h with h
  injection h with _ h
  rw [h]
  exact Nat.le_refl _
 | c + 1, r, l, r2, h => by
  simp only [listN] at h
  cases h1 : g r with
  | error e => simp [h1] at h
  | ok p =>
   obtain ⟨x, r1⟩ := p
   simp only [h1] at h
   cases h2 : listN g c r1 with
   | error e => simp [h2] at h
   | ok q =>
    obtain ⟨l', r2'⟩ := q
    simp only [h2] at h
    injection h with h
    injection h with _ h
    subst h
    have := hg r x r1 h1
    have := listN_less hg c r1 l' r2' h2
    omega

theorem itemN_less : ∀ (k : Nat) (r : List UInt8) (x : It) (r1 : List UInt8), itemN k r = .ok (x, r1) → r1.length < r.length
 | 0, r, x, r1, h => by simp [itemN] at h
 | k + 1, bs, x, r1, h => by
  simp only [itemN] at h
  cases hh : headN bs with
  | none => simp [hh] at h
  | some p =>
   obtain ⟨m, n, r⟩ := p
   have hl := headN_less hh
   simp only [hh] at h
   split at h
   ·injection h with h
    injection h with _ h
    subst h
    exact hl
   ·split at h
    ·split at h
     ·injection h with h
      injection h with _ h
      subst h
      rw [List.length_drop]
      omega
     ·cases h
    ·split at h
     ·unfold textN at h
      split at h
      ·split at h
       ·injection h with h
        injection h with _ h
        subst h
        rw [List.length_drop]
        omega
       ·cases h
      ·cases h
     ·split at h
      ·split at h
       ·cases h
       ·rename_i l r' hL
        injection h with h
        injection h with _ h
        subst h
        have := listN_less (itemN_less k) _ _ _ _ hL
        omega
      ·split at h
       ·unfold bareN at h
        split at h
        ·injection h with h
         injection h with _ h
         subst h
         exact hl
        ·split at h
         ·injection h with h
          injection h with _ h
          subst h
          exact hl
         ·cases h
       ·cases h

def LS (w : World) (S : Nat → Prop) : List Value → List It → Prop
 | xs, [] => xs = []
 | xs, x :: l => ∃ v0 v1 v2 v3 v4 rest, xs = v0 :: v1 :: v2 :: v3 :: v4 :: rest ∧ ItS w S (.agg #[v0, v1, v2, v3, v4]) x ∧ LS w S rest l

theorem LS.keep {w w' : World} {S : Nat → Prop} (hk : KeepB S w w') : ∀ {l : List It} {xs : List Value}, LS w S xs l → LS w' S xs l
 | [], _, h => h
 | x :: l, xs, h => by
  obtain ⟨v0, v1, v2, v3, v4, rest, e, hx, hr⟩ := h
  exact ⟨v0, v1, v2, v3, v4, rest, e, hx.keep hk, LS.keep hk hr⟩

theorem LS.more {w : World} {S T : Nat → Prop} (hST : ∀ b, S b → T b) : ∀ {l : List It} {xs : List Value}, LS w S xs l → LS w T xs l
 | [], _, h => h
 | x :: l, xs, h => by
  obtain ⟨v0, v1, v2, v3, v4, rest, e, hx, hr⟩ := h
  exact ⟨v0, v1, v2, v3, v4, rest, e, hx.more hST, LS.more hST hr⟩

theorem LS.snoc {w : World} {S : Nat → Prop} {x : It} {v0 v1 v2 v3 v4 : Value} (hx : ItS w S (.agg #[v0, v1, v2, v3, v4]) x) : ∀ {l : List It} {xs : List Value}, LS w S xs l → LS w S (xs ++ [v0, v1, v2, v3, v4]) (l ++ [x])
 | [], xs, h => by
  have h : xs = [] := h
  subst h
  exact ⟨v0, v1, v2, v3, v4, [], rfl, hx, rfl⟩
 | y :: l, xs, h => by
  obtain ⟨u0, u1, u2, u3, u4, rest, rfl, hy, hr⟩ := h
  exact ⟨u0, u1, u2, u3, u4, rest ++ [v0, v1, v2, v3, v4], rfl, hy, LS.snoc hx hr⟩

theorem LS.itSL {w : World} {S : Nat → Prop} {g : Nat} : ∀ {l : List It} {xs : List Value} {o : Nat}, LS w S xs l → (∀ j u, xs[j]? = some u → w.cell? ⟨g, o + j, none⟩ = some u) → ItSL w S g o l
 | [], _, _, _, _ => by simp only [ItSL]
 | x :: l, xs, o, h, hc => by
  obtain ⟨v0, v1, v2, v3, v4, rest, rfl, hx, hr⟩ := h
  simp only [ItSL]
  refine ⟨⟨_, ⟨v0, v1, v2, v3, v4, rfl, hc 0 _ rfl, hc 1 _ rfl, hc 2 _ rfl, hc 3 _ rfl, hc 4 _ rfl⟩, hx⟩, LS.itSL hr fun j u hj => ?_⟩
  have := hc (j + 5) u (by simpa using hj)
  rw [show o + 5 + j = o + (j + 5) by omega]
  exact this

theorem info_item : (Tryz.prog.info? 45).map (fun i => (i.zero, i.size, i.bytes)) = some (some (.agg #[.int .i64 0, .int .u64 0, .slice none 0 0, .string ⟨#[]⟩, .slice none 0 0]), 5, 80) := by kernel_rfl

section
variable {P : Program} (w : World)

theorem wpList_app5 {ops : Array Oper} {rest : List Oper} {o : Oper} {a : Act} {Q : Exit → Act → World → Prop} (hgd : o.guard = none) (s x : Operand) (t : TypeId)
  (ho : o.op = .call { callee := .builtin .append, args := #[s, x], argTypes := #[t, t] })
  (base : Nat) (e : TypeId) (z : Value) (size bytes : Nat) (ht : P.underlying t = some (.slice e)) (hinfo : (P.info? e).map (fun i => (i.zero, i.size, i.bytes)) = some (some z, size, bytes)) (hz1 : z.cells.size = size) (hsz : 0 < size)
  (v : Value) (n : Nat) (xs : List Value) (hv : a.eval s = v) (hown : w.ownsRow base e size v n xs) (A : Addr) (m c : Nat) (ys : List Value) (hx : a.eval x = .slice (some A) m c) (hm : ys.length = m * size) (hs : ∀ j u, ys[j]? = some u → w.cell? (A.add j) = some u) (h1 : ∀ u ∈ ys, u.oneCell' = true)
  (h63 : n + m ≤ maxLen) (hbytes : (n + m) * bytes ≤ 140737488355328) (hbase : base ≤ w.heap.size)
  (h : ∀ v' w', w'.ownsRow base e size v' (n + m) (xs ++ ys) → w.grownBy w' v.ownBlock → (v'.ownBlock = v.ownBlock ∨ v'.ownBlock = some w.heap.size) → wpList P ops Q rest (a.put o.dst v') w') : wpList P ops Q (o :: rest) a w :=
 wpList_plain hgd fun _ hK => by
  obtain ⟨i, hi, hz0, hsz0, hb⟩ := info_parts hinfo
  obtain ⟨v', w', hrun, h2, h3, _, h5⟩ := run_append_own_at (P := P) w base t o.type e i z size bytes ht hi hz0 hsz0 hb hz1 hsz v n xs hown A m c ys hm hs h1 h63 hbytes hbase
  unfold Oper.wp execOp
  simp only [ho, resolve, invoke, builtin, Sem.run_bind, Sem.run_pure, Result.andThen_ok, List.map_toArray, List.map_cons, List.map_nil, hv, hx, hrun]
  exact hK _ _ (h v' w' h2 h3 h5)
end

def ListP (w : World) (R B : Nat) (o : Except Nat (List It × List UInt8)) (e : Ending) (w' : World) : Prop :=
 But R w w' ∧ match o with
  | .error c => e = gives c
  | .ok (l, r) => ∃ A C, e = .returned (.slice A l.length C) ∧ l.length ≤ C ∧ (l = [] ∨ ∃ g o, A = some ⟨g, o, none⟩ ∧ newB w w' g ∧ ItSL w' (newB w w') g o l) ∧ RS w' R B r

def newButs (w wr : World) (v : Value) (b : Nat) : Prop := newB w wr b ∧ v.ownBlock ≠ some b

def ListI (g : List UInt8 → Except Nat (It × List UInt8)) (N : Nat) (bs : List UInt8) (w : World) (R B : Nat) (j : Nat) (v : Value) (wr : World) : Prop :=
 But R w wr ∧ ∃ xs l r, RS wr R B r ∧ wr.ownsRow w.heap.size 45 5 v j xs ∧ LS wr (newButs w wr v) xs l ∧ l.length = j ∧ listN g N bs = behind l (listN g (N - j) r) ∧ r.length + j ≤ bs.length

theorem But.low {R : Nat} {w w1 w2 : World} (h : But R w w1) (k : Below w.heap.size w1 w2) : But R w w2 :=
 ⟨k.os.trans h.os, k.tape.trans h.tape, k.output.trans h.output, Nat.le_trans h.size k.size, fun i hi hne => (k.block i hi).trans (h.block i hi hne)⟩

theorem ownsRow_but {R base n size : Nat} {e : TypeId} {w w' : World} {v : Value} {xs : List Value} (h : w.ownsRow base e size v n xs) (hb : But R w w') (hR : R < base) : w'.ownsRow base e size v n xs := by
 obtain ⟨h1, h2⟩ := h
 rcases h2 with h2 | ⟨g, cap, cur, hv, hg0, hg, r⟩
 ·exact ⟨h1, .inl h2⟩
 ·exact ⟨h1, .inr ⟨g, cap, cur, hv, hg0, (hb.block g (Array.getElem?_eq_some_iff.1 hg).1 (by omega)).trans hg, r⟩⟩

theorem ListI.step {g : List UInt8 → Except Nat (It × List UInt8)} {N : Nat} {bs r r1 : List UInt8} {w wr w1 w2 : World} {R B j : Nat} {v v' v0 v1 v2 v3 v4 : Value} {xs : List Value} {l : List It} {x : It} {t : TypeId}
  (hRs : R < w.heap.size) (hBR : B ≤ R) (hj : j < N) (hb : But R w wr) (hown : wr.ownsRow w.heap.size 45 5 v j xs) (hls : LS wr (newButs w wr v) xs l) (hll : l.length = j) (hcon : listN g N bs = behind l (listN g (N - j) r)) (hrj : r.length + j ≤ bs.length)
  (hgr : g r = .ok (x, r1)) (hless : r1.length < r.length) (hb1 : But R wr w1) (hx : ItS w1 (newB wr w1) (.agg #[v0, v1, v2, v3, v4]) x) (hs1 : RS w1 R B r1)
  (h2 : w2.ownsRow w.heap.size 45 5 v' (j + 1) (xs ++ [v0, v1, v2, v3, v4])) (h3 : (w1.alloc (.cells #[v0, v1, v2, v3, v4] t)).grownBy w2 v.ownBlock)
  (h5 : v'.ownBlock = v.ownBlock ∨ v'.ownBlock = some (w1.alloc (.cells #[v0, v1, v2, v3, v4] t)).heap.size) : ListI g N bs w R B (j + 1) v' w2 := by
 have hrow := World.ownsRow.lt hown
 have hsz := hb.size
 have hsz1 := hb1.size
 have hA : (w1.alloc (.cells #[v0, v1, v2, v3, v4] t)).heap.size = w1.heap.size + 1 := World.size_alloc _ _
 have hB2 : Below w.heap.size (w1.alloc (.cells #[v0, v1, v2, v3, v4] t)) w2 := bR.grown h3 (by omega) (fun k hk => (hrow k hk).1)
 have hB1 : Below w1.heap.size w1 (w1.alloc (.cells #[v0, v1, v2, v3, v4] t)) := below_al bR _
 have hB12 : Below w.heap.size w1 w2 := (hB1.mono (by omega)).trans hB2
 have hsz2 := hB2.size
 have hkeep : ∀ S : Nat → Prop, (∀ b, S b → b < w1.heap.size) → (∀ r, v.ownBlock = some r → ¬ S r) → KeepB S w1 w2 := fun S hS hne =>
  KeepB.grown (S := S) (fun b hb => hB1.block b (hS b hb)) (fun b hb => by have := hS b hb; omega) h3 hne
 have k1 : KeepB (newButs w wr v) w1 w2 := hkeep _ (fun b hb => Nat.lt_of_lt_of_le hb.1.2 hsz1) (fun r hr hs => hs.2 hr)
 have k0 : KeepB (newButs w wr v) wr w2 := fun b hb => (k1 b hb).trans (hb1.block b hb.1.2 (by have := hb.1.1; omega))
 have k2 : KeepB (newB wr w1) w1 w2 := hkeep _ (fun b hb => hb.2) (fun r hr hs => by have := (hrow r hr).2; have := hs.1; omega)
 have hT : ∀ b, newB wr w1 b → newButs w w2 v' b := fun b hb => ⟨⟨by have := hb.1; omega, by have := hb.2; omega⟩, fun q => by
  rcases h5 with h5 | h5
  ·rw [h5] at q
   have := (hrow b q).2
   have := hb.1
   omega
  ·rw [h5, hA] at q
   injection q with q
   have := hb.2
   omega⟩
 have hS : ∀ b, newButs w wr v b → newButs w w2 v' b := fun b hb => ⟨⟨hb.1.1, by have := hb.1.2; omega⟩, fun q => by
  rcases h5 with h5 | h5
  ·rw [h5] at q
   exact hb.2 q
  ·rw [h5, hA] at q
   injection q with q
   have := hb.1.2
   omega⟩
 refine ⟨(hb.trans hb1).low hB12, xs ++ [v0, v1, v2, v3, v4], l ++ [x], r1, hs1.other (hB12.mono (by omega)) (hB12.block R hRs), h2, LS.snoc ((hx.keep k2).more hT) ((hls.keep k0).more hS), by simp [hll], ?_, by omega⟩
 rw [hcon, show N - j = (N - (j + 1)) + 1 by omega, behind_step g l _ r r1 x hgr]

set_option maxRecDepth 100000 in
theorem listed_any (R B : Nat) (g : List UInt8 → Except Nat (It × List UInt8)) (hg : ∀ r x r1, g r = .ok (x, r1) → r1.length < r.length) (N : Nat) (hN : N < 18446744073709551616) (bs : List UInt8) (hbs : bs.length ≤ 1000000) (f : Nat) (cap : Array Value) (w : World) (hS : RS w R B bs)
  (ef : ∀ args w, (callFunc f args).run Tryz.prog w = .ok (.enter f args) w)
  (hf : ∀ (r : List UInt8) (wr : World), But R w wr → RS wr R B r → r.length ≤ bs.length → Calls Tryz.prog f cap wr (RdP3 wr R B (g r))) :
  Calls Tryz.prog 92 #[.int .u64 N, .func (.func f) #[] cap] w (ListP w R B (listN g N bs)) := by
 have HG := h_ hg
 have HF := h_ hf
 have HS := h_ hS
 have hRs : R < w.heap.size := by
  obtain ⟨_, _, _, _, _, _, _, h6, _⟩ := hS
  exact h6
 clear hg hf hS
 go_enter Tryz.func92, Tryz.ntmps92
 go_wp2_with fail
 go_loopw [5, 7] (fun v i wr => ∃ j : Nat, j ≤ N ∧ i = .int .u64 j ∧ Hid (ListI g N bs w R B j v wr)) (fun _ i _ => N - (intOf i).toNat)
 case atStart =>
  exact ⟨0, Nat.zero_le _, rfl, But.refl _ _, [], [], bs, HS.out, World.ownsRow_nil _ _ _ _, rfl, rfl, by rw [behind_nil]; rfl, by simp⟩
 case round =>
  obtain ⟨j, hj, rfl, HI⟩ := hrel
  by_cases hlt : j < N
  ·obtain ⟨hb, xs, l, r, hr, hown, hls, hll, hcon, hrj⟩ := HI.out
   have HB := h_ hb
   have HR := h_ hr
   have HO := h_ hown
   have HL := h_ hls
   have HC := h_ hcon
   have HLL := h_ hll
   clear hb hr hown hls hcon hll
   go_wp2_with fail
   refine (HF.out r _ HB.out HR.out (by omega)).mono ?_
   rintro e w1 ⟨hb1, hm⟩
   have HB1 := h_ hb1
   clear hb1
   cases hgr : g r with
   | error c =>
    rw [hgr] at hm
    simp only at hm
    subst hm
    rw [gives_def]
    have HE := h_ hgr
    clear hgr
    go_wp2_with fail
    refine ⟨rfl, HB.out.trans HB1.out, ?_⟩
    have e1 : N - j = (N - (j + 1)) + 1 := by omega
    rw [HC.out, e1]
    simp only [listN, HE.out, behind]
    rfl
   | ok p =>
    obtain ⟨x, r1⟩ := p
    rw [hgr] at hm
    obtain ⟨v1, rfl, hx, hs1⟩ := hm
    obtain ⟨a', c', A', C', rfl⟩ := hx.form
    have HX := h_ hx
    have HS1 := h_ hs1
    have HGR := h_ hgr
    have HO1 := h_ (World.ownsRow.alloc (ownsRow_but HO.out HB1.out hRs) (.cells #[.int .i64 x.k, .int .u64 x.n, .slice a' x.b.length c', .string ⟨x.s.toArray⟩, .slice A' x.l.length C'] 45))
    have hsz : w.heap.size ≤ wr.heap.size := HB.out.size
    have hsz1 : wr.heap.size ≤ w1.heap.size := HB1.out.size
    have HM : Hid (∀ j u, [Value.int .i64 x.k, .int .u64 x.n, .slice a' x.b.length c', .string ⟨x.s.toArray⟩, .slice A' x.l.length C'][j]? = some u →
      (w1.alloc (.cells #[.int .i64 x.k, .int .u64 x.n, .slice a' x.b.length c', .string ⟨x.s.toArray⟩, .slice A' x.l.length C'] 45)).cell? ((⟨w1.heap.size, 0, none⟩ : Addr).add j) = some u) := by
     intro j u hu
     rw [mk_addr_add, Nat.zero_add, World.cell?_alloc_mark]
     simpa using hu
    have hjb : j ≤ 1000000 := by omega
    clear hx hs1 hgr
    go_wp2_with (at_builtin; refine wpList_app5 _ rfl _ _ 42 rfl w.heap.size 45 _ 5 80 Tryz.underlying42 info_item rfl (by decide) _ j xs rfl HO1.out ⟨w1.heap.size, 0, none⟩ 1 1 [.int .i64 x.k, .int .u64 x.n, .slice a' x.b.length c', .string ⟨x.s.toArray⟩, .slice A' x.l.length C'] rfl rfl HM.out (by intro u hu; simp at hu; rcases hu with rfl | rfl | rfl | rfl | rfl <;> rfl) (by unfold maxLen; omega) (by omega) (by rw [World.size_alloc]; omega) ?_; intro v' w2 h2 h3 h5; have HI2 := h_ (ListI.step hRs (by obtain ⟨_, _, _, _, _, _, _, _, h7⟩ := HS.out; exact h7) hlt HB.out HO.out HL.out HLL.out HC.out hrj HGR.out (HG.out _ _ _ HGR.out) HB1.out HX.out HS1.out h2 h3 h5); clear h2 h3 h5)
    go_roundw
    case rel => exact ⟨j + 1, by omega, by go_num, HI2.out⟩
    case measure => simp [intOf]; omega
  ·obtain rfl : j = N := by omega
   obtain ⟨hb, xs, l, r, hr, hown, hls, hll, hcon, hrj⟩ := HI.out
   rw [Nat.sub_self] at hcon
   have HB := h_ hb
   have HR := h_ hr
   have HO := h_ hown
   have HL := h_ hls
   have HC := h_ hcon
   have HLL := h_ hll
   clear hb hr hown hls hcon hll
   go_wp2_with fail
   go_ret
   refine ⟨HB.out, ?_⟩
   rw [HC.out]
   simp only [listN, behind, List.append_nil]
   rcases HO.out.2 with ⟨rfl, h0⟩ | ⟨gg, cp, cur, rfl, hb0, hg, hn, hm, hs, htk⟩
   ·obtain rfl : l = [] := by
      have := HLL.out
      rw [h0] at this
      exact List.eq_nil_of_length_eq_zero this
    exact ⟨none, 0, rfl, Nat.le_refl _, .inl rfl, HR.out⟩
   ·have hlt := (Array.getElem?_eq_some_iff.1 hg).1
    refine ⟨some ⟨gg, 0, none⟩, cp, ?_, ?_, .inr ⟨gg, 0, rfl, ⟨hb0, hlt⟩, ?_⟩, HR.out⟩
    ·rw [HLL.out]
     rfl
    ·rw [HLL.out]
     exact hn
    ·refine ItSL.more (fun b hb => hb.1) l (LS.itSL HL.out fun i u hi => ?_)
     have h1 : wr.cell? ⟨gg, 0 + i, none⟩ = cur[i]? := by simp [World.cell?, hg]
     rw [h1]
     have hil : i < xs.length := (List.getElem?_eq_some_iff.1 hi).1
     rw [← htk, List.getElem?_take] at hi
     split at hi
     ·simpa using hi
     ·cases hi

end Go.Proofs.YteldifnkeekafaaGreatDoor

namespace Go.Proofs.YteldifnkeekafaaGreatDoor
open Go.RowKit Go.Shelf

def Boxes (w : World) (R g q : Nat) : Prop := w.cell? ⟨g, 0, none⟩ = some (.pointer (some ⟨R, 0, none⟩)) ∧ w.cell? ⟨g + 1, 0, none⟩ = some (.int .i64 q) ∧ g + 1 < w.heap.size ∧ R < g

theorem Boxes.on {w w' : World} {R g q : Nat} (h : Boxes w R g q) (hb : But R w w') : Boxes w' R g q :=
 ⟨(hb.cell (by have := h.2.2.1; omega) (by have := h.2.2.2; omega)).trans h.1, (hb.cell h.2.2.1 (by have := h.2.2.2; omega)).trans h.2.1, Nat.lt_of_lt_of_le h.2.2.1 hb.size, h.2.2.2⟩

theorem zero_cells {R : Nat} {w w1 : World} {t : TypeId} (hb : But R (w.alloc (.cells #[.int .i64 0, .int .u64 0, .slice none 0 0, .string ⟨#[]⟩, .slice none 0 0] t)) w1) (hR : R < w.heap.size) :
  (w1.cell? ⟨w.heap.size, 0, none⟩ = some (.int .i64 0) ∧ w1.cell? ⟨w.heap.size, 1, none⟩ = some (.int .u64 0) ∧ w1.cell? ⟨w.heap.size, 2, none⟩ = some (.slice none 0 0) ∧ w1.cell? ⟨w.heap.size, 3, none⟩ = some (.string ⟨#[]⟩) ∧ w1.cell? ⟨w.heap.size, 4, none⟩ = some (.slice none 0 0)) ∧
   ∀ i, w1.frozen? ⟨w.heap.size, i, none⟩ = false := by
 have hc : ∀ i, w1.cell? ⟨w.heap.size, i, none⟩ = (w.alloc (.cells #[.int .i64 0, .int .u64 0, .slice none 0 0, .string ⟨#[]⟩, .slice none 0 0] t)).cell? ⟨w.heap.size, i, none⟩ := fun i => hb.cell (by simp) (by omega)
 exact ⟨⟨(hc 0).trans (by simp), (hc 1).trans (by simp), (hc 2).trans (by simp), (hc 3).trans (by simp), (hc 4).trans (by simp)⟩, fun i => (hb.frozen (by simp) (by omega)).trans (by simp)⟩

theorem rdP3_put5 {R B : Nat} {w w0 w1 : World} {v0 v1 v2 v3 v4 : Value} {x : It} {r : List UInt8} (g : Nat) (h0 : But R w w0) (hb : But R w0 w1) (hg : w.heap.size ≤ g) (hg0 : g < w0.heap.size) (hR : R < w.heap.size)
  (hx : ItS w1 (newB w0 w1) (.agg #[v0, v1, v2, v3, v4]) x) (hs : RS w1 R B r) : RdP3 w R B (.ok (x, r)) (.returned (.agg #[v0, v1, v2, v3, v4])) (put5 w1 g v0 v1 v2 v3 v4) := by
 have hBR : B ≤ R := by
  obtain ⟨_, _, _, _, _, _, _, _, h7⟩ := hs
  exact h7
 refine ⟨(h0.trans hb).put5 hg _ _ _ _ _, _, rfl, ?_, hs.put5 (by omega) (by omega) _ _ _ _ _⟩
 have hk : KeepB (newB w0 w1) w1 (put5 w1 g v0 v1 v2 v3 v4) := fun b hbb => put5_block w1 g v0 v1 v2 v3 v4 b (by have := hbb.1; omega)
 exact (ItS.keep hk x hx).more fun b hbb => ⟨Nat.le_trans h0.size hbb.1, by rw [put5_size]; exact hbb.2⟩

def ItemAt (R B k : Nat) : Prop := ∀ (bs : List UInt8) (w : World), RS w R B bs → TabW w → bs.length ≤ 1000000 →
 Calls Tryz.prog 55 #[.pointer (some ⟨R, 0, none⟩), .int .i64 ((8 - k : Nat) : Int)] w (RdP3 w R B (itemN k bs))

set_option maxRecDepth 100000 in
theorem itemC_any (R B k : Nat) (hk : k < 8) (hi : ItemAt R B k) (bs : List UInt8) (w : World) (hS : RS w R B bs) (ht : TabW w) (hbs : bs.length ≤ 1000000) (g : Nat) (hx : Boxes w R g (8 - (k + 1))) :
  Calls Tryz.prog 93 #[.pointer (some ⟨g, 0, none⟩), .pointer (some ⟨g + 1, 0, none⟩)] w (RdP3 w R B (itemN k bs)) := by
 have HS := h_ hS
 have HT := h_ ht
 have HI := h_ hi
 have hB0 := below_al (Below.refl w.heap.size w) (.cells #[.int .i64 0, .int .u64 0, .slice none 0 0, .string ⟨#[]⟩, .slice none 0 0] 45)
 obtain ⟨x1, x2, x3, x4⟩ := hx.on (But.of_below hB0)
 clear hS ht hi hx
 obtain ⟨q, hq⟩ : ∃ q, q = 8 - (k + 1) := ⟨_, rfl⟩
 rw [← hq] at x2
 have hq7 : q ≤ 7 := by omega
 have HE : Hid (((8 - k : Nat) : Int) = (q : Int) + 1) := by simp only [Hid]; omega
 clear hq
 go_enter Tryz.func93, Tryz.ntmps93
 go_wp2_with fail
 have hc := HI.out bs _ (HS.out.on hB0) (HT.out.on hB0) hbs
 rw [HE.out] at hc
 have HC := h_ hc
 clear hc
 refine HC.out.mono ?_
 rintro e w1 ⟨hb1, hm⟩
 have hRw : R < w.heap.size := by
  obtain ⟨_, _, _, _, _, _, _, h6, _⟩ := HS.out
  exact h6
 obtain ⟨⟨z0, z1, z2, z3, z4⟩, zf⟩ := zero_cells hb1 hRw
 have HB1 := h_ hb1
 clear hb1
 cases hit : itemN k bs with
 | error c =>
  rw [hit] at hm
  have hm : e = gives c := hm
  subst hm
  rw [gives_def]
  go_wp2_with fail
  exact ⟨rfl, (But.of_below hB0).trans HB1.out, rfl⟩
 | ok p =>
  obtain ⟨x, r⟩ := p
  rw [hit] at hm
  obtain ⟨v, rfl, hx, hs1⟩ := hm
  obtain ⟨a', c', A', C', rfl⟩ := hx.form
  have HX := h_ hx
  have HS1 := h_ hs1
  have HIT := h_ hit
  clear hx hs1 hit
  go_wp2_with fail
  change bodyPost _ _ _ _ _ (put5 w1 w.heap.size (.int .i64 x.k) (.int .u64 x.n) (.slice a' x.b.length c') (.string ⟨x.s.toArray⟩) (.slice A' x.l.length C'))
  obtain ⟨c0, c1, c2, c3, c4⟩ := put5_cells z0 z1 z2 z3 z4 (.int .i64 x.k) (.int .u64 x.n) (.slice a' x.b.length c') (.string ⟨x.s.toArray⟩) (.slice A' x.l.length C')
  rw [HIT.out]
  have hP := rdP3_put5 w.heap.size (But.of_below hB0) HB1.out (Nat.le_refl _) (by simp) hRw HX.out HS1.out
  generalize put5 w1 w.heap.size (.int .i64 x.k) (.int .u64 x.n) (.slice a' x.b.length c') (.string ⟨x.s.toArray⟩) (.slice A' x.l.length C') = w3 at *
  exact bodyPost_ret (v := .agg #[.int .i64 x.k, .int .u64 x.n, .slice a' x.b.length c', .string ⟨x.s.toArray⟩, .slice A' x.l.length C']) (by simp [results, Tryz.results93, go_sem, c0, c1, c2, c3, c4]) rfl hP

section
variable {k m : Nat} {n : Int} {bs r : List UInt8}
theorem itemN_none (h : headN bs = none) : itemN (k + 1) bs = .error 121 := by simp only [itemN, h]
theorem itemN_uint (h : headN bs = some (0, n, r)) : itemN (k + 1) bs = .ok (.mk 1 n [] [] [], r) := by simp only [itemN, h]; rfl
theorem itemN_bytes (h : headN bs = some (2, n, r)) (hl : n.toNat ≤ r.length) : itemN (k + 1) bs = .ok (.mk 2 0 (r.take n.toNat) [] [], r.drop n.toNat) := by
 simp only [itemN, h]
 rw [if_neg (by decide), if_pos trivial, if_pos hl]
theorem itemN_bytesE (h : headN bs = some (2, n, r)) (hl : ¬ n.toNat ≤ r.length) : itemN (k + 1) bs = .error 121 := by
 simp only [itemN, h]
 rw [if_neg (by decide), if_pos trivial, if_neg hl]
theorem itemN_text (h : headN bs = some (3, n, r)) : itemN (k + 1) bs = textN n r := by simp only [itemN, h]; rfl
theorem itemN_listE {e : Nat} (h : headN bs = some (4, n, r)) (hL : listN (itemN k) n.toNat r = .error e) : itemN (k + 1) bs = .error e := by
 simp only [itemN, h, hL]
 rfl
theorem itemN_list {l : List It} {r' : List UInt8} (h : headN bs = some (4, n, r)) (hL : listN (itemN k) n.toNat r = .ok (l, r')) : itemN (k + 1) bs = .ok (.mk 4 0 [] [] l, r') := by
 simp only [itemN, h, hL]
 rfl
theorem itemN_bare (h : headN bs = some (7, n, r)) : itemN (k + 1) bs = bareN n r := by simp only [itemN, h]; rfl
theorem itemN_else (h : headN bs = some (m, n, r)) (h0 : m ≠ 0) (h2 : m ≠ 2) (h3 : m ≠ 3) (h4 : m ≠ 4) (h7 : m ≠ 7) : itemN (k + 1) bs = .error 121 := by
 simp only [itemN, h]
 rw [if_neg h0, if_neg h2, if_neg h3, if_neg h4, if_neg h7]
end

theorem RdBS.own {w0 w1 w : World} {a : Option Addr} {bs : List UInt8} (h : RdB w w.heap.size a bs) (hA : ∀ p, a = some p → w1.heap.size ≤ p.block ∧ p.block < w.heap.size) (h0 : w0.heap.size ≤ w1.heap.size) : RdBS w (newB w0 w) a bs := by
 rcases h with h | ⟨b, o, rfl, hlt, hc⟩
 ·exact .inl h
 ·exact .inr ⟨b, o, rfl, ⟨Nat.le_trans h0 (hA _ rfl).1, hlt⟩, hc⟩

theorem listN_count {g : List UInt8 → Except Nat (It × List UInt8)} (hg : ∀ r x r1, g r = .ok (x, r1) → r1.length < r.length) : ∀ (c : Nat) (r : List UInt8) (l : List It) (r2 : List UInt8), listN g c r = .ok (l, r2) → l.length + r2.length ≤ r.length
 | 0, r, l, r2, h => by
  simp only [listN] at h
  injection h with h
  injection h with h1 h
  rw [← h, ← h1]
  simp
 | c + 1, r, l, r2, h => by
  simp only [listN] at h
  cases h1 : g r with
  | error e => simp [h1] at h
  | ok p =>
   obtain ⟨x, r1⟩ := p
   simp only [h1] at h
   cases h2 : listN g c r1 with
   | error e => simp [h2] at h
   | ok q =>
    obtain ⟨l', r2'⟩ := q
    simp only [h2] at h
    injection h with h
    injection h with h3 h
    subst h h3
    have := hg r x r1 h1
    have := listN_count hg c r1 l' r2' h2
    simp
    omega

set_option maxRecDepth 100000 in
theorem item_any (R B : Nat) (hB2 : 2 ≤ B) : ∀ k, k ≤ 8 → ItemAt R B k := by
 intro k
 induction k with
 | zero =>
  intro _ bs w hS ht hbs
  have hB0 := below_al (below_al (below_al (Below.refl w.heap.size w) (.cells #[.pointer (some ⟨R, 0, none⟩)] 126)) (.cells #[.int .i64 8] 3)) (.cells #[.int .i64 0, .int .u64 0, .slice none 0 0, .string ⟨#[]⟩, .slice none 0 0] 45)
  clear hS ht hbs
  show Calls _ _ #[_, .int .i64 8] _ _
  go_enter Tryz.func55, Tryz.ntmps55
  go_wp2_with fail
  exact ⟨rfl, But.of_below hB0, rfl⟩
 | succ k ih =>
  intro hk bs w hS ht hbs
  have IH := h_ (ih (by omega))
  have HS := h_ hS
  have HT := h_ ht
  have hRw : R < w.heap.size ∧ B ≤ R := by
   obtain ⟨_, _, _, _, _, _, _, h6, h7⟩ := hS
   exact ⟨h6, h7⟩
  obtain ⟨q, hq⟩ : ∃ q, q = 8 - (k + 1) := ⟨_, rfl⟩
  rw [← hq]
  have hq7 : q ≤ 7 := by omega
  have HQ := h_ hq
  have hB0 := below_al (below_al (below_al (Below.refl w.heap.size w) (.cells #[.pointer (some ⟨R, 0, none⟩)] 126)) (.cells #[.int .i64 q] 3)) (.cells #[.int .i64 0, .int .u64 0, .slice none 0 0, .string ⟨#[]⟩, .slice none 0 0] 45)
  clear hS ht ih hq
  go_enter Tryz.func55, Tryz.ntmps55
  go_wp2_with fail
  refine (rhead_any R B bs _ (HS.out.on hB0) (HT.out.on hB0) hB2).mono ?_
  rintro e w1 ⟨hb1, ⟨m, n, r, hh, rfl, hs1⟩ | ⟨hh, rfl⟩⟩
  ·obtain ⟨hnu, hm8⟩ := headN_u64 hh
   obtain ⟨N, rfl⟩ := Int.eq_ofNat_of_zero_le hnu.1
   have hN := hnu.2
   have hrl := headN_less hh
   have HH := h_ hh
   have ZC : Hid (∀ w', But R (((w.alloc (.cells #[.pointer (some ⟨R, 0, none⟩)] 126)).alloc (.cells #[.int .i64 q] 3)).alloc (.cells #[.int .i64 0, .int .u64 0, .slice none 0 0, .string ⟨#[]⟩, .slice none 0 0] 45)) w' → (w'.cell? ⟨w.heap.size + 1 + 1, 0, none⟩ = some (.int .i64 0) ∧ w'.cell? ⟨w.heap.size + 1 + 1, 1, none⟩ = some (.int .u64 0) ∧ w'.cell? ⟨w.heap.size + 1 + 1, 2, none⟩ = some (.slice none 0 0) ∧ w'.cell? ⟨w.heap.size + 1 + 1, 3, none⟩ = some (.string ⟨#[]⟩) ∧ w'.cell? ⟨w.heap.size + 1 + 1, 4, none⟩ = some (.slice none 0 0)) ∧
     ∀ i, w'.frozen? ⟨w.heap.size + 1 + 1, i, none⟩ = false) := by
    intro w' hb
    have hz := zero_cells (w := (w.alloc (.cells #[.pointer (some ⟨R, 0, none⟩)] 126)).alloc (.cells #[.int .i64 q] 3)) hb (by simp; omega)
    simp only [World.size_alloc] at hz
    exact hz
   have y0 : w1.cell? ⟨w.heap.size, 0, none⟩ = some (.pointer (some ⟨R, 0, none⟩)) := by
    rw [hb1.cell (b := w.heap.size) (o := 0) (by simp <;> omega) (by omega), World.cell?_alloc_lt _ _ _ (by simp <;> omega), World.cell?_alloc_lt _ _ _ (by simp), World.cell?_alloc_mark]
    rfl
   have y1 : w1.cell? ⟨w.heap.size + 1, 0, none⟩ = some (.int .i64 q) := by
    rw [hb1.cell (b := w.heap.size + 1) (o := 0) (by simp) (by omega), World.cell?_alloc_lt _ _ _ (by simp), ← World.size_alloc w (.cells #[.pointer (some ⟨R, 0, none⟩)] 126), World.cell?_alloc_mark]
    rfl
   have hsz1 : w.heap.size + 3 ≤ w1.heap.size := by
    have := hb1.size
    simp at this
    omega
   have HB1 := h_ hb1
   have HS1 := h_ hs1
   have hbR : Hid (RdB w1 B none ([] : List UInt8)) := .inl rfl
   clear hb1 hs1 hh hbR
   by_cases m0 : m = 0
   ·subst m0
    obtain ⟨⟨z0, z1, z2, z3, z4⟩, zf⟩ := ZC.out w1 HB1.out
    go_wp2_with fail
    change bodyPost _ _ _ _ _ (put5 w1 (w.heap.size + 1 + 1) (.int .i64 1) (.int .u64 N) (.slice none 0 0) (.string ⟨#[]⟩) (.slice none 0 0))
    obtain ⟨c0, c1, c2, c3, c4⟩ := put5_cells z0 z1 z2 z3 z4 (.int .i64 1) (.int .u64 N) (.slice none 0 0) (.string ⟨#[]⟩) (.slice none 0 0)
    have hP := rdP3_put5 (w.heap.size + 1 + 1) (But.of_below hB0) HB1.out (by omega) (by simp) hRw.1 (itS_plain w1 _ 1 N [] (by decide) hnu (Nat.zero_le _)) HS1.out
    rw [itemN_uint HH.out]
    generalize put5 w1 (w.heap.size + 1 + 1) (.int .i64 1) (.int .u64 N) (.slice none 0 0) (.string ⟨#[]⟩) (.slice none 0 0) = w9 at *
    exact bodyPost_ret (v := .agg #[.int .i64 1, .int .u64 N, .slice none 0 0, .string ⟨#[]⟩, .slice none 0 0]) (by simp [results, Tryz.results55, go_sem, c0, c1, c2, c3, c4]) rfl hP

   by_cases m2 : m = 2
   ·subst m2
    go_wp2_with fail
    refine (take_at R B r N N rfl w1 HS1.out (by omega)).mono ?_
    rintro e w2 ⟨hb2, ⟨hl2, a2, c2, rfl, hc2, hr2, hs2⟩ | ⟨hl2, rfl⟩⟩
    ·have HB2 := h_ (HB1.out.trans hb2)
     have HS2 := h_ hs2
     have hsz2 : w1.heap.size ≤ w2.heap.size := hb2.size
     have hRB := h_ (hr2.mono (show B ≤ w2.heap.size by omega))
     have hrl47 : r.length ≤ 1000000 := by omega
     have HLn : Hid (N = (r.take N).length) := by rw [Hid, List.length_take]; omega
     clear hb2 hs2 hr2
     go_wp2_with fail
     refine (bclone_any a2 N c2 (r.take N) HLn.out w2 (by rw [← HLn.out]; omega) hRB.out).mono ?_
     rintro e w3 ⟨v, rfl, ho, hb3⟩
     obtain ⟨A, C, rfl, hC, hra, hA⟩ := ho.bytes
     have HB3 := h_ (HB2.out.trans (But.of_below hb3))
     obtain ⟨⟨z0, z1, z2, z3, z4⟩, zf⟩ := ZC.out w3 HB3.out
     have HS3 := h_ (HS2.out.on hb3)
     have hsW : (((w.alloc (.cells #[.pointer (some ⟨R, 0, none⟩)] 126)).alloc (.cells #[.int .i64 q] 3)).alloc (.cells #[.int .i64 0, .int .u64 0, .slice none 0 0, .string ⟨#[]⟩, .slice none 0 0] 45)).heap.size ≤ w2.heap.size := HB2.out.size
     have hx0 : (ItS w3 (newB (((w.alloc (.cells #[.pointer (some ⟨R, 0, none⟩)] 126)).alloc (.cells #[.int .i64 q] 3)).alloc (.cells #[.int .i64 0, .int .u64 0, .slice none 0 0, .string ⟨#[]⟩, .slice none 0 0] 45)) w3) (.agg #[.int .i64 2, .int .u64 0, .slice A (r.take N).length C, .string ⟨#[]⟩, .slice none 0 0]) (.mk 2 0 (r.take N) [] [])) := by
      simp only [ItS]
      exact ⟨none, ⟨A, C, 0, rfl, ⟨hC, Nat.le_refl _⟩, RdBS.own hra hA hsW, ⟨by decide, by decide⟩, by decide, by rw [← HLn.out]; simp only [Sz]; omega, Nat.zero_le _, Nat.zero_le _⟩, .inl trivial⟩
     rw [← HLn.out] at hx0
     have HX := h_ hx0
     clear hx0
     clear ho hra hA hb3
     go_wp2_with fail
     change bodyPost _ _ _ _ _ (put5 w3 (w.heap.size + 1 + 1) (.int .i64 2) (.int .u64 0) (.slice A N C) (.string ⟨#[]⟩) (.slice none 0 0))
     obtain ⟨c0, c1, c2, c3, c4⟩ := put5_cells z0 z1 z2 z3 z4 (.int .i64 2) (.int .u64 0) (.slice A N C) (.string ⟨#[]⟩) (.slice none 0 0)
     have hP := rdP3_put5 (w.heap.size + 1 + 1) (But.of_below hB0) HB3.out (by omega) (by simp) hRw.1 HX.out HS3.out
     rw [itemN_bytes HH.out (by rw [Int.toNat_natCast]; exact hl2), Int.toNat_natCast]
     generalize put5 w3 (w.heap.size + 1 + 1) (.int .i64 2) (.int .u64 0) (.slice A N C) (.string ⟨#[]⟩) (.slice none 0 0) = w9 at *
     exact bodyPost_ret (v := .agg #[.int .i64 2, .int .u64 0, .slice A N C, .string ⟨#[]⟩, .slice none 0 0]) (by simp [results, Tryz.results55, go_sem, c0, c1, c2, c3, c4]) rfl hP
    ·have HB2 := h_ (HB1.out.trans hb2)
     clear hb2
     rw [gives_def]
     go_wp2_with fail
     refine ⟨rfl, (But.of_below hB0).trans HB2.out, ?_⟩
     rw [itemN_bytesE HH.out (by rw [Int.toNat_natCast]; omega)]
     rfl
   by_cases m3 : m = 3
   ·subst m3
    go_wp2_with fail
    refine (text_any R B r N hnu w1 HS1.out).mono ?_
    rintro e w2 ⟨hb2, hm⟩
    have hsz2 : w1.heap.size ≤ w2.heap.size := hb2.size
    have HB2 := h_ hb2
    clear hb2
    cases htx : textN N r with
    | error c =>
     rw [htx] at hm
     have hm : e = gives c := hm
     subst hm
     have HTX := h_ htx
     clear htx
     rw [gives_def]
     go_wp2_with fail
     refine ⟨rfl, (But.of_below hB0).trans (HB1.out.trans HB2.out), ?_⟩
     rw [itemN_text HH.out, HTX.out]
     rfl
    | ok p =>
     obtain ⟨x, r'⟩ := p
     rw [htx] at hm
     obtain ⟨v, rfl, hx, hs2⟩ := hm
     obtain ⟨a', c', A', C', rfl⟩ := hx.form
     have HX := h_ hx
     have HS2 := h_ hs2
     have HTX := h_ htx
     obtain ⟨⟨z0, z1, z2, z3, z4⟩, zf⟩ := ZC.out w2 (HB1.out.trans HB2.out)
     clear hx hs2 htx
     go_wp2_with fail
     change bodyPost _ _ _ _ _ (put5 w2 (w.heap.size + 1 + 1) (.int .i64 x.k) (.int .u64 x.n) (.slice a' x.b.length c') (.string ⟨x.s.toArray⟩) (.slice A' x.l.length C'))
     obtain ⟨c0, c1, c2, c3, c4⟩ := put5_cells z0 z1 z2 z3 z4 (.int .i64 x.k) (.int .u64 x.n) (.slice a' x.b.length c') (.string ⟨x.s.toArray⟩) (.slice A' x.l.length C')
     have hP := rdP3_put5 (w.heap.size + 1 + 1) ((But.of_below hB0).trans HB1.out) HB2.out (by omega) (by omega) hRw.1 HX.out HS2.out
     rw [itemN_text HH.out, HTX.out]
     generalize put5 w2 (w.heap.size + 1 + 1) (.int .i64 x.k) (.int .u64 x.n) (.slice a' x.b.length c') (.string ⟨x.s.toArray⟩) (.slice A' x.l.length C') = w9 at *
     exact bodyPost_ret (v := .agg #[.int .i64 x.k, .int .u64 x.n, .slice a' x.b.length c', .string ⟨x.s.toArray⟩, .slice A' x.l.length C']) (by simp [results, Tryz.results55, go_sem, c0, c1, c2, c3, c4]) rfl hP
   by_cases m4 : m = 4
   ·subst m4
    have hmf : ∀ (fn : Fn) (first cap : Array Value) (w : World), (Instr.makeFunc fn first cap).run Tryz.prog w = .ok (.func fn first cap) w := fun _ _ _ _ => rfl
    have hbx : Boxes w1 R w.heap.size (8 - (k + 1)) := ⟨y0, by rw [← HQ.out]; exact y1, by omega, hRw.1⟩
    have HBX := h_ hbx
    have hrl47 : r.length ≤ 1000000 := by omega
    clear hbx y0 y1
    go_wp2_with fail
    refine (listed_any R B (itemN k) (itemN_less k) N (by omega) r hrl47 93 #[.pointer (some ⟨w.heap.size, 0, none⟩), .pointer (some ⟨w.heap.size + 1, 0, none⟩)] w1 HS1.out (enters_of Tryz.func93 (by kernel_rfl) rfl) (fun r' wr hbu hrs hln => ?_)).mono ?_
    ·exact itemC_any R B k (by omega) IH.out r' wr hrs (HT.out.below ((((But.of_below hB0).trans HB1.out).trans hbu).below hRw.2 (by omega)) hB2) (by omega) w.heap.size (HBX.out.on hbu)
    rintro e w2 ⟨hb2, hm⟩
    have hsz2 : w1.heap.size ≤ w2.heap.size := hb2.size
    have HB2 := h_ hb2
    clear hb2
    cases hls : listN (itemN k) N r with
    | error c =>
     rw [hls] at hm
     have hm : e = gives c := hm
     subst hm
     have HLS := h_ hls
     clear hls
     rw [gives_def]
     go_wp2_with fail
     refine ⟨rfl, (But.of_below hB0).trans (HB1.out.trans HB2.out), ?_⟩
     rw [itemN_listE HH.out (by rw [Int.toNat_natCast]; exact HLS.out)]
     rfl
    | ok p =>
     obtain ⟨l, r'⟩ := p
     rw [hls] at hm
     obtain ⟨A, C, rfl, hlC, hl, hs2⟩ := hm
     have hcnt := listN_count (itemN_less k) N r l r' hls
     have HS2 := h_ hs2
     have HLS := h_ hls
     have HX : Hid (ItS w2 (newB w1 w2) (.agg #[.int .i64 4, .int .u64 0, .slice none 0 0, .string ⟨#[]⟩, .slice A l.length C]) (.mk 4 0 [] [] l)) := by
      simp only [Hid, ItS]
      exact ⟨A, ⟨none, 0, C, rfl, ⟨Nat.le_refl _, hlC⟩, .inl rfl, ⟨by decide, by decide⟩, by decide, Nat.zero_le _, Nat.zero_le _, by simp only [Sz]; omega⟩, hl⟩
     obtain ⟨⟨z0, z1, z2, z3, z4⟩, zf⟩ := ZC.out w2 (HB1.out.trans HB2.out)
     clear hl hs2 hls
     go_wp2_with fail
     change bodyPost _ _ _ _ _ (put5 w2 (w.heap.size + 1 + 1) (.int .i64 4) (.int .u64 0) (.slice none 0 0) (.string ⟨#[]⟩) (.slice A l.length C))
     obtain ⟨c0, c1, c2, c3, c4⟩ := put5_cells z0 z1 z2 z3 z4 (.int .i64 4) (.int .u64 0) (.slice none 0 0) (.string ⟨#[]⟩) (.slice A l.length C)
     have hP := rdP3_put5 (w.heap.size + 1 + 1) ((But.of_below hB0).trans HB1.out) HB2.out (by omega) (by omega) hRw.1 HX.out HS2.out
     rw [itemN_list HH.out (by rw [Int.toNat_natCast]; exact HLS.out)]
     generalize put5 w2 (w.heap.size + 1 + 1) (.int .i64 4) (.int .u64 0) (.slice none 0 0) (.string ⟨#[]⟩) (.slice A l.length C) = w9 at *
     exact bodyPost_ret (v := .agg #[.int .i64 4, .int .u64 0, .slice none 0 0, .string ⟨#[]⟩, .slice A l.length C]) (by simp [results, Tryz.results55, go_sem, c0, c1, c2, c3, c4]) rfl hP
   by_cases m7 : m = 7
   ·subst m7
    go_wp2_with fail
    refine (bare_any N hnu w1).mono ?_
    rintro e w2 ⟨hb2, ⟨hn, rfl⟩ | ⟨hn, rfl⟩ | ⟨hn, rfl⟩⟩
    ·have HB2 := h_ hb2
     obtain ⟨⟨z0, z1, z2, z3, z4⟩, zf⟩ := ZC.out w2 (HB1.out.trans (But.of_below HB2.out))
     have HS2 := h_ (HS1.out.on HB2.out)
     have HBn : Hid (bareN N r = .ok (.mk 5 ((N : Int) - 20) [] [] [], r)) := if_pos hn
     have hu2 : U64 ((N : Int) - 20) := ⟨by omega, by omega⟩
     clear hb2 hn
     unfold itemV
     go_wp2_with fail
     change bodyPost _ _ _ _ _ (put5 w2 (w.heap.size + 1 + 1) (.int .i64 5) (.int .u64 ((N : Int) - 20)) (.slice none 0 0) (.string ⟨#[]⟩) (.slice none 0 0))
     obtain ⟨c0, c1, c2, c3, c4⟩ := put5_cells z0 z1 z2 z3 z4 (.int .i64 5) (.int .u64 ((N : Int) - 20)) (.slice none 0 0) (.string ⟨#[]⟩) (.slice none 0 0)
     have hP := rdP3_put5 (w.heap.size + 1 + 1) ((But.of_below hB0).trans HB1.out) (But.of_below HB2.out) (by omega) (by omega) hRw.1 (itS_plain w2 _ 5 ((N : Int) - 20) [] (by decide) hu2 (Nat.zero_le _)) HS2.out
     rw [itemN_bare HH.out, HBn.out]
     generalize put5 w2 (w.heap.size + 1 + 1) (.int .i64 5) (.int .u64 ((N : Int) - 20)) (.slice none 0 0) (.string ⟨#[]⟩) (.slice none 0 0) = w9 at *
     exact bodyPost_ret (v := .agg #[.int .i64 5, .int .u64 ((N : Int) - 20), .slice none 0 0, .string ⟨#[]⟩, .slice none 0 0]) (by simp [results, Tryz.results55, go_sem, c0, c1, c2, c3, c4]) rfl hP
    ·have HB2 := h_ hb2
     obtain ⟨⟨z0, z1, z2, z3, z4⟩, zf⟩ := ZC.out w2 (HB1.out.trans (But.of_below HB2.out))
     have HS2 := h_ (HS1.out.on HB2.out)
     have HBn : Hid (bareN N r = .ok (.mk 6 0 [] [] [], r)) := by
      rw [Hid, bareN, if_neg (by omega), if_pos hn]
     clear hb2 hn
     unfold itemV
     go_wp2_with fail
     change bodyPost _ _ _ _ _ (put5 w2 (w.heap.size + 1 + 1) (.int .i64 6) (.int .u64 0) (.slice none 0 0) (.string ⟨#[]⟩) (.slice none 0 0))
     obtain ⟨c0, c1, c2, c3, c4⟩ := put5_cells z0 z1 z2 z3 z4 (.int .i64 6) (.int .u64 0) (.slice none 0 0) (.string ⟨#[]⟩) (.slice none 0 0)
     have hP := rdP3_put5 (w.heap.size + 1 + 1) ((But.of_below hB0).trans HB1.out) (But.of_below HB2.out) (by omega) (by omega) hRw.1 (itS_plain w2 _ 6 0 [] (by decide) ⟨by decide, by decide⟩ (Nat.zero_le _)) HS2.out
     rw [itemN_bare HH.out, HBn.out]
     generalize put5 w2 (w.heap.size + 1 + 1) (.int .i64 6) (.int .u64 0) (.slice none 0 0) (.string ⟨#[]⟩) (.slice none 0 0) = w9 at *
     exact bodyPost_ret (v := .agg #[.int .i64 6, .int .u64 0, .slice none 0 0, .string ⟨#[]⟩, .slice none 0 0]) (by simp [results, Tryz.results55, go_sem, c0, c1, c2, c3, c4]) rfl hP
    ·have HB2 := h_ hb2
     have HBn : Hid (bareN N r = .error 121) := by
      rw [Hid, bareN, if_neg (by omega), if_neg hn.2.2]
     clear hb2 hn
     rw [gives_def]
     go_wp2_with fail
     refine ⟨rfl, (But.of_below hB0).trans (HB1.out.trans (But.of_below HB2.out)), ?_⟩
     rw [itemN_bare HH.out, HBn.out]
     rfl
   have f0 : ((m : Int) == 0) = false := by simp; omega
   have f2 : ((m : Int) == 2) = false := by simp; omega
   have f3 : ((m : Int) == 3) = false := by simp; omega
   have f4 : ((m : Int) == 4) = false := by simp; omega
   have f7 : ((m : Int) == 7) = false := by simp; omega
   go_wp2_with fail
   refine ⟨rfl, (But.of_below hB0).trans HB1.out, ?_⟩
   rw [itemN_else HH.out m0 m2 m3 m4 m7]
   rfl
  ·have HB1 := h_ hb1
   have HH := h_ hh
   clear hb1 hh
   rw [gives_def]
   go_wp2_with fail
   refine ⟨rfl, (But.of_below hB0).trans HB1.out, ?_⟩
   rw [itemN_none HH.out]
   rfl

end Go.Proofs.YteldifnkeekafaaGreatDoor
