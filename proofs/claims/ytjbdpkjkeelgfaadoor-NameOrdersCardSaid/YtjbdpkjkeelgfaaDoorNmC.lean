/- The library's numbers at base 10: strconv.FormatUint, strconv.ParseUint; package name's digits, need, number. -/
import Derived.Test.YtjbdpkjkeelgfaaDoorNmA
import Derived.Test.YtjbdpkjkeelgfaaDoorBase
import Derived.Shelf.Strconv.Itoa1
import Derived.Shelf.Strconv.Itoa2
import Derived.Lib.ItoaMem
import Derived.Shelf.Pu.ErrVarParseUint
import Derived.Lib.Hide
import Derived.Recover
namespace Go.Proofs.YtjbdpkjkeelgfaaDoor
open Go Go.RowKit Go.Shelf Go.Sort
set_option linter.unusedSimpArgs false
set_option linter.unusedVariables false

def Tryd.fiLays_ren : Go.Shelf.Ren := ⟨fun | 246 => 135 | 283 => 103 | 284 => 104 | 285 => 105 | 286 => 106 | 129 => 102 | 317 => 115 | 318 => 116 | 319 => 117 | 320 => 118 | 337 => 129 | 338 => 130 | n => n, fun | 2 => 2 | 3 => 3 | 9 => 9 | 4 => 4 | 171 => 143 | 0 => 0 | 53 => 29 | 37 => 30 | 5 => 5 | 173 => 145 | 212 => 156 | 51 => 22 | 20 => 20 | 213 => 157 | 46 => 123 | 232 => 173 | 233 => 174 | n => n, fun | 17 => 0 | 18 => 3 | 19 => 4 | n => n⟩

theorem Tryd.fiLays : Go.Proofs.LaysM.n246 Tryd.prog Tryd.fiLays_ren := {
  mixed := by kernel_rfl,
  f129 := Tryd.func102.trans (congrArg some (by kernel_rfl)),
  f246 := Tryd.func135.trans (congrArg some (by kernel_rfl)),
  f283 := Tryd.func103.trans (congrArg some (by kernel_rfl)),
  f284 := Tryd.func104.trans (congrArg some (by kernel_rfl)),
  f285 := Tryd.func105.trans (congrArg some (by kernel_rfl)),
  f286 := Tryd.func106.trans (congrArg some (by kernel_rfl)),
  f317 := Tryd.func115.trans (congrArg some (by kernel_rfl)),
  f318 := Tryd.func116.trans (congrArg some (by kernel_rfl)),
  f319 := Tryd.func117.trans (congrArg some (by kernel_rfl)),
  f320 := Tryd.func118.trans (congrArg some (by kernel_rfl)),
  f337 := Tryd.func129.trans (congrArg some (by kernel_rfl)),
  f338 := Tryd.func130.trans (congrArg some (by kernel_rfl)),
  t0 := Tryd.underlying0,
  a0 := Tryd.isAgg0,
  z0 := Tryd.sizeOf0,
  v0 := Tryd.zeroValue0,
  t2 := Tryd.underlying2,
  a2 := Tryd.isAgg2,
  z2 := Tryd.sizeOf2,
  v2 := Tryd.zeroValue2,
  t3 := Tryd.underlying3,
  a3 := Tryd.isAgg3,
  z3 := Tryd.sizeOf3,
  v3 := Tryd.zeroValue3,
  t4 := Tryd.underlying4,
  a4 := Tryd.isAgg4,
  z4 := Tryd.sizeOf4,
  v4 := Tryd.zeroValue4,
  t5 := Tryd.underlying5,
  a5 := Tryd.isAgg5,
  z5 := Tryd.sizeOf5,
  v5 := Tryd.zeroValue5,
  t9 := Tryd.underlying9,
  a9 := Tryd.isAgg9,
  z9 := Tryd.sizeOf9,
  v9 := Tryd.zeroValue9,
  t20 := Tryd.underlying20,
  a20 := Tryd.isAgg20,
  z20 := Tryd.sizeOf20,
  v20 := Tryd.zeroValue20,
  t37 := Tryd.underlying30,
  a37 := Tryd.isAgg30,
  z37 := Tryd.sizeOf30,
  v37 := Tryd.zeroValue30,
  t46 := Tryd.underlying123,
  a46 := Tryd.isAgg123,
  z46 := Tryd.sizeOf123,
  v46 := Tryd.zeroValue123,
  t51 := Tryd.underlying22,
  a51 := Tryd.isAgg22,
  z51 := Tryd.sizeOf22,
  v51 := Tryd.zeroValue22,
  t53 := Tryd.underlying29,
  a53 := Tryd.isAgg29,
  z53 := Tryd.sizeOf29,
  v53 := Tryd.zeroValue29,
  t171 := Tryd.underlying143,
  a171 := Tryd.isAgg143,
  z171 := Tryd.sizeOf143,
  v171 := Tryd.zeroValue143,
  t173 := Tryd.underlying145,
  a173 := Tryd.isAgg145,
  z173 := Tryd.sizeOf145,
  v173 := Tryd.zeroValue145,
  t212 := Tryd.underlying156,
  a212 := Tryd.isAgg156,
  z212 := Tryd.sizeOf156,
  v212 := Tryd.zeroValue156,
  t213 := Tryd.underlying157,
  a213 := Tryd.isAgg157,
  z213 := Tryd.sizeOf157,
  t232 := Tryd.underlying173,
  a232 := Tryd.isAgg173,
  z232 := Tryd.sizeOf173,
  v232 := Tryd.zeroValue173,
  t233 := Tryd.underlying174,
  a233 := Tryd.isAgg174,
  z233 := Tryd.sizeOf174,
  v233 := Tryd.zeroValue174,
  g17 := by kernel_rfl,
  g18 := by kernel_rfl,
  g19 := by kernel_rfl,
  i0 := by kernel_rfl,
  i2 := by kernel_rfl,
  i3 := by kernel_rfl,
  i4 := by kernel_rfl,
  i5 := by kernel_rfl,
  i9 := by kernel_rfl,
  i20 := by kernel_rfl,
  i37 := by kernel_rfl,
  i46 := by kernel_rfl,
  i51 := by kernel_rfl,
  i53 := by kernel_rfl,
  i171 := by kernel_rfl,
  i173 := by kernel_rfl,
  i212 := by kernel_rfl,
  i232 := by kernel_rfl,
  i233 := by kernel_rfl,
  m17 := by kernel_rfl,
  m18 := by kernel_rfl,
  m19 := by kernel_rfl }

def Tryd.puLays_ren : Go.Shelf.Ren := ⟨fun | 14 => 89 | 16 => 107 | 17 => 108 | 19 => 119 | 20 => 120 | 21 => 121 | 22 => 122 | 23 => 123 | 24 => 124 | 25 => 131 | 27 => 133 | 26 => 132 | 28 => 134 | 29 => 135 | 30 => 103 | 31 => 104 | 32 => 105 | 33 => 106 | 35 => 102 | 34 => 115 | 36 => 116 | 37 => 117 | 38 => 118 | 39 => 129 | 40 => 130 | n => n, fun | 9 => 9 | 3 => 3 | 22 => 29 | 24 => 128 | 25 => 129 | 4 => 4 | 34 => 159 | 5 => 5 | 36 => 123 | 37 => 30 | 0 => 0 | 39 => 161 | 21 => 21 | 44 => 171 | 47 => 175 | 50 => 178 | 48 => 176 | 2 => 2 | 52 => 143 | 55 => 145 | 59 => 156 | 60 => 22 | 20 => 20 | 61 => 157 | 65 => 173 | 66 => 174 | 67 => 113 | n => n, fun | 0 => 1 | 1 => 2 | 2 => 0 | 3 => 3 | 4 => 4 | n => n⟩

theorem Tryd.puLays : Go.Proofs.LaysPu.n14 Tryd.prog Tryd.puLays_ren := {
  mixed := by kernel_rfl,
  f14 := Tryd.func89.trans (congrArg some (by kernel_rfl)),
  f16 := Tryd.func107.trans (congrArg some (by kernel_rfl)),
  f17 := Tryd.func108.trans (congrArg some (by kernel_rfl)),
  f19 := Tryd.func119.trans (congrArg some (by kernel_rfl)),
  f20 := Tryd.func120.trans (congrArg some (by kernel_rfl)),
  f21 := Tryd.func121.trans (congrArg some (by kernel_rfl)),
  f22 := Tryd.func122.trans (congrArg some (by kernel_rfl)),
  f23 := Tryd.func123.trans (congrArg some (by kernel_rfl)),
  f24 := Tryd.func124.trans (congrArg some (by kernel_rfl)),
  f25 := Tryd.func131.trans (congrArg some (by kernel_rfl)),
  f26 := Tryd.func132.trans (congrArg some (by kernel_rfl)),
  f27 := Tryd.func133.trans (congrArg some (by kernel_rfl)),
  f28 := Tryd.func134.trans (congrArg some (by kernel_rfl)),
  f29 := Tryd.func135.trans (congrArg some (by kernel_rfl)),
  f30 := Tryd.func103.trans (congrArg some (by kernel_rfl)),
  f31 := Tryd.func104.trans (congrArg some (by kernel_rfl)),
  f32 := Tryd.func105.trans (congrArg some (by kernel_rfl)),
  f33 := Tryd.func106.trans (congrArg some (by kernel_rfl)),
  f34 := Tryd.func115.trans (congrArg some (by kernel_rfl)),
  f35 := Tryd.func102.trans (congrArg some (by kernel_rfl)),
  f36 := Tryd.func116.trans (congrArg some (by kernel_rfl)),
  f37 := Tryd.func117.trans (congrArg some (by kernel_rfl)),
  f38 := Tryd.func118.trans (congrArg some (by kernel_rfl)),
  f39 := Tryd.func129.trans (congrArg some (by kernel_rfl)),
  f40 := Tryd.func130.trans (congrArg some (by kernel_rfl)),
  t0 := Tryd.underlying0,
  a0 := Tryd.isAgg0,
  z0 := Tryd.sizeOf0,
  v0 := Tryd.zeroValue0,
  i0 := by kernel_rfl,
  t2 := Tryd.underlying2,
  a2 := Tryd.isAgg2,
  z2 := Tryd.sizeOf2,
  v2 := Tryd.zeroValue2,
  i2 := by kernel_rfl,
  t3 := Tryd.underlying3,
  a3 := Tryd.isAgg3,
  z3 := Tryd.sizeOf3,
  v3 := Tryd.zeroValue3,
  i3 := by kernel_rfl,
  t4 := Tryd.underlying4,
  a4 := Tryd.isAgg4,
  z4 := Tryd.sizeOf4,
  v4 := Tryd.zeroValue4,
  i4 := by kernel_rfl,
  t5 := Tryd.underlying5,
  a5 := Tryd.isAgg5,
  z5 := Tryd.sizeOf5,
  v5 := Tryd.zeroValue5,
  i5 := by kernel_rfl,
  t9 := Tryd.underlying9,
  a9 := Tryd.isAgg9,
  z9 := Tryd.sizeOf9,
  v9 := Tryd.zeroValue9,
  i9 := by kernel_rfl,
  t20 := Tryd.underlying20,
  a20 := Tryd.isAgg20,
  z20 := Tryd.sizeOf20,
  v20 := Tryd.zeroValue20,
  i20 := by kernel_rfl,
  t21 := Tryd.underlying21,
  a21 := Tryd.isAgg21,
  z21 := Tryd.sizeOf21,
  v21 := Tryd.zeroValue21,
  i21 := by kernel_rfl,
  t22 := Tryd.underlying29,
  a22 := Tryd.isAgg29,
  z22 := Tryd.sizeOf29,
  v22 := Tryd.zeroValue29,
  i22 := by kernel_rfl,
  t24 := Tryd.underlying128,
  a24 := Tryd.isAgg128,
  z24 := Tryd.sizeOf128,
  v24 := Tryd.zeroValue128,
  i24 := by kernel_rfl,
  t25 := Tryd.underlying129,
  a25 := Tryd.isAgg129,
  z25 := Tryd.sizeOf129,
  v25 := Tryd.zeroValue129,
  i25 := by kernel_rfl,
  t34 := Tryd.underlying159,
  a34 := Tryd.isAgg159,
  z34 := Tryd.sizeOf159,
  v34 := Tryd.zeroValue159,
  i34 := by kernel_rfl,
  c34 := by kernel_rfl,
  t36 := Tryd.underlying123,
  a36 := Tryd.isAgg123,
  z36 := Tryd.sizeOf123,
  v36 := Tryd.zeroValue123,
  i36 := by kernel_rfl,
  t37 := Tryd.underlying30,
  a37 := Tryd.isAgg30,
  z37 := Tryd.sizeOf30,
  v37 := Tryd.zeroValue30,
  i37 := by kernel_rfl,
  t39 := Tryd.underlying161,
  a39 := Tryd.isAgg161,
  z39 := Tryd.sizeOf161,
  v39 := Tryd.zeroValue161,
  i39 := by kernel_rfl,
  t44 := Tryd.underlying171,
  a44 := Tryd.isAgg171,
  z44 := Tryd.sizeOf171,
  v44 := Tryd.zeroValue171,
  i44 := by kernel_rfl,
  t47 := Tryd.underlying175,
  a47 := Tryd.isAgg175,
  z47 := Tryd.sizeOf175,
  v47 := Tryd.zeroValue175,
  i47 := by kernel_rfl,
  t48 := Tryd.underlying176,
  a48 := Tryd.isAgg176,
  z48 := Tryd.sizeOf176,
  v48 := Tryd.zeroValue176,
  i48 := by kernel_rfl,
  t50 := Tryd.underlying178,
  a50 := Tryd.isAgg178,
  z50 := Tryd.sizeOf178,
  v50 := Tryd.zeroValue178,
  i50 := by kernel_rfl,
  t52 := Tryd.underlying143,
  a52 := Tryd.isAgg143,
  z52 := Tryd.sizeOf143,
  v52 := Tryd.zeroValue143,
  i52 := by kernel_rfl,
  t55 := Tryd.underlying145,
  a55 := Tryd.isAgg145,
  z55 := Tryd.sizeOf145,
  v55 := Tryd.zeroValue145,
  i55 := by kernel_rfl,
  t59 := Tryd.underlying156,
  a59 := Tryd.isAgg156,
  z59 := Tryd.sizeOf156,
  v59 := Tryd.zeroValue156,
  i59 := by kernel_rfl,
  t60 := Tryd.underlying22,
  a60 := Tryd.isAgg22,
  z60 := Tryd.sizeOf22,
  v60 := Tryd.zeroValue22,
  i60 := by kernel_rfl,
  t61 := Tryd.underlying157,
  a61 := Tryd.isAgg157,
  z61 := Tryd.sizeOf157,
  t65 := Tryd.underlying173,
  a65 := Tryd.isAgg173,
  z65 := Tryd.sizeOf173,
  v65 := Tryd.zeroValue173,
  i65 := by kernel_rfl,
  t66 := Tryd.underlying174,
  a66 := Tryd.isAgg174,
  z66 := Tryd.sizeOf174,
  v66 := Tryd.zeroValue174,
  i66 := by kernel_rfl,
  t67 := Tryd.underlying113,
  a67 := Tryd.isAgg113,
  z67 := Tryd.sizeOf113,
  v67 := Tryd.zeroValue113,
  i67 := by kernel_rfl,
  g0 := by kernel_rfl,
  m0 := by kernel_rfl,
  g1 := by kernel_rfl,
  m1 := by kernel_rfl,
  g2 := by kernel_rfl,
  m2 := by kernel_rfl,
  g3 := by kernel_rfl,
  m3 := by kernel_rfl,
  g4 := by kernel_rfl,
  m4 := by kernel_rfl }

/-- What the walks need of the library's variables. -/
def TabN (w : World) : Prop :=
  Lib.TabIs Tryd.prog w "internal/strconv.uint64pow10" .u64 Lib.pow10Tab ∧ (∃ tp p, w.var? Tryd.prog "strconv.ErrSyntax" = some #[.iface tp p]) ∧ (∃ tp p, w.var? Tryd.prog "strconv.ErrRange" = some #[.iface tp p])

theorem var_below {P : Program} {w w' : World} {name : String} {cs : Array Value} (h : w.var? P name = some cs) (hb : Below w.heap.size w w') : w'.var? P name = some cs := by
  unfold World.var? at h ⊢
  cases hg : P.globalNamed name with
  | none => simp [hg] at h
  | some g =>
    simp only [hg, Option.bind_some] at h ⊢
    cases hc : w.heap[g]? with
    | none => simp [hc] at h
    | some o =>
      have hlt : g < w.heap.size := (Array.getElem?_eq_some_iff.1 hc).1
      rw [hb.block g hlt]
      exact h

theorem TabN.on {w w' : World} (h : TabN w) (hb : Below w.heap.size w w') : TabN w' := by
  obtain ⟨h1, ⟨t2, p2, h2⟩, ⟨t3, p3, h3⟩⟩ := h
  exact ⟨var_below h1 hb, ⟨t2, p2, var_below h2 hb⟩, ⟨t3, p3, var_below h3 hb⟩⟩

/-- The new block's bytes are a row of noughts. -/
theorem holds_zero0 (w : World) (T : TypeId) (nd : Nat) (hs : nd ≤ 24) : Holds (fun (b : UInt8) => Value.int .u8 (b.toNat : Int)) (w.alloc (.cells Lib.zeros24 T)) w.heap.size 0 (Array.replicate nd (0 : UInt8)) := fun j hj => by
  have hj' : j < nd := by simpa using hj
  refine ⟨?_, World.frozen?_alloc_new _ _ _ _⟩
  rw [World.cell?_alloc_new, Lib.zeros24_at _ (by omega), getElem!_pos _ j hj]
  simp

theorem fin_pos0 (w : World) (o : Obj) (dk : Array UInt8) (k : Nat) : ∃ os, (putRow (fun (b : UInt8) => Value.int .u8 (b.toNat : Int)) (w.alloc o) w.heap.size 0 dk).drewN k = grow (w.drewN k) os := by
  rw [alloc_eq_grow]
  obtain ⟨os', _, e⟩ := putRow_grow_new (fun (b : UInt8) => Value.int .u8 (b.toNat : Int)) w #[o] w.heap.size 0 dk (Nat.le_refl _)
  exact ⟨os', by rw [e]; rfl⟩

theorem below_grow (w : World) (k : Nat) (os : Array Obj) : Below w.heap.size w (grow (w.drewN k) os) := by
  refine ⟨rfl, rfl, rfl, by simp [grow], fun b hb => ?_⟩
  show ((w.drewN k).heap ++ os)[b]? = w.heap[b]?
  exact Array.getElem?_append_left hb

theorem small_at (i : Nat) (h : i < 100) (w : World) : Calls Tryd.prog 103 #[.int .i64 i] w fun e w' => e = .returned (.string ⟨(Lib.decDigits i).toArray⟩) ∧ w' = w :=
  Any.internal_strconv_small { Tryd.fiLays with } i h w

theorem nd_at (u : Nat) (h1 : 1 ≤ u) (h2 : u < 18446744073709551616) (w : World) (htab : Lib.TabIs Tryd.prog w "internal/strconv.uint64pow10" .u64 Lib.pow10Tab) :
    Calls Tryd.prog 104 #[.int .u64 u] w fun e w' => e = .returned (.int .i64 (Lib.nDigits u)) ∧ w' = w :=
  Any.internal_strconv_numDigits { Tryd.fiLays with } u h1 h2 w htab

theorem fmt_at (blk off cap : Nat) (u : Nat) (d : Array UInt8) (w : World) (hH : Holds (fun (b : UInt8) => Value.int .u8 (b.toNat : Int)) w blk off d) (hu : u < 10 ^ d.size) (hu64 : u < 18446744073709551616) (hsz : d.size < 4611686018427387904) :
    Calls Tryd.prog 105 #[.slice (some ⟨blk, off, none⟩) d.size cap, .int .u64 u] w fun e w' =>
      e = .returned (.tuple #[]) ∧ ∃ (n v' : Nat) (dk : Array UInt8), w' = (putRow (fun (b : UInt8) => Value.int .u8 (b.toNat : Int)) w blk off dk).drewN n ∧ Lib.FmtInv d.size u 0 v' dk :=
  Any.internal_strconv_formatBase10 { Tryd.fiLays with } blk off cap u d w hH hu hu64 hsz

set_option maxHeartbeats 6400000 in
set_option maxRecDepth 100000 in
theorem fmtUint_any (u : Nat) (hu : u < 18446744073709551616) (w : World) (ht : TabN w) :
    Calls Tryd.prog 86 #[.int .u64 u, .int .i64 10] w fun e w' => e = .returned (.string ⟨(Lib.decDigits u).toArray⟩) ∧ Below w.heap.size w w' := by
  by_cases hs : u < 100
  · have HS := Lib.hid (small_at u hs)
    go_enter Tryd.func86, Tryd.ntmps86
    go_wp2_with fail
    refine (HS.out _).mono ?_
    rintro e w' ⟨rfl, rfl⟩
    go_wp2
    go_ret
    exact ⟨rfl, Below.refl _ _⟩
  · have hu1 : 1 ≤ u := by omega
    have hnd20 : Lib.nDigits u ≤ 20 := by have := Lib.numDigits_eq u hu1 hu; split at this <;> omega
    have hal : Tryd.prog.arrayLen 143 = 24 := by simp [Program.arrayLen, Tryd.underlying143]
    have hsl : ∀ W, (Instr.sliceAt 143 (.pointer (some ⟨w.heap.size, 0, none⟩)) none (some (.int .i64 (Lib.nDigits u : Int))) none).run Tryd.prog W = .ok (.slice (some ⟨w.heap.size, 0, none⟩) (Lib.nDigits u) 24) W := fun W => by
      rw [run_sliceAt_array_h W 143 ⟨w.heap.size, 0, none⟩ (by simp [Program.arrayLen, Program.elem, Tryd.underlying143]) .i64 (Lib.nDigits u : Int) (by omega) (by rw [hal]; omega)]
      go_simp
    have hH0 := holds_zero0 w 143 (Lib.nDigits u) (by omega)
    have hfmt := fmt_at w.heap.size 0 24 u (Array.replicate (Lib.nDigits u) 0) (w.alloc (.cells Lib.zeros24 143)) hH0 (by rw [Array.size_replicate]; exact Lib.lt_pow_nDigits u) hu (by rw [Array.size_replicate]; omega)
    rw [Array.size_replicate] at hfmt
    have HH0 := Lib.hid hH0
    have HF := Lib.hid hfmt
    have HT := Lib.hid (nd_at u hu1 hu _ (Lib.tabIs_alloc ht.1 (.cells Lib.zeros24 143)))
    have h100 : ¬ (u : Int) < 100 := by omega
    have hlo : (0 : Int) ≤ (Lib.nDigits u : Int) := by omega
    clear hH0 hal hfmt ht
    go_enter Tryd.func86, Tryd.ntmps86
    go_wp2_with fail
    refine HT.out.mono ?_
    rintro e w' ⟨rfl, rfl⟩
    go_wp2_with fail
    refine HF.out.mono ?_
    rintro e w' ⟨rfl, k, v', dk, rfl, hF⟩
    have hcv : (convert 30 9 (.slice (some ⟨w.heap.size, 0, none⟩) (Lib.nDigits u) 24)).run Tryd.prog ((putRow (fun (b : UInt8) => Value.int .u8 (b.toNat : Int)) (w.alloc (.cells Lib.zeros24 143)) w.heap.size 0 dk).drewN k) = .ok (.string ⟨(Lib.decDigits u).toArray⟩) ((putRow (fun (b : UInt8) => Value.int .u8 (b.toNat : Int)) (w.alloc (.cells Lib.zeros24 143)) w.heap.size 0 dk).drewN k) := by
      have h := run_convert_bytes_back (P := Tryd.prog) ((putRow (fun (b : UInt8) => Value.int .u8 (b.toNat : Int)) (w.alloc (.cells Lib.zeros24 143)) w.heap.size 0 dk).drewN k) 30 9 5 ⟨w.heap.size, 0, none⟩ 24 (Lib.decDigits u) Tryd.underlying30 Tryd.underlying5 Tryd.underlying9 (fun j hj => by
        rw [Lib.row_is_numeral hF j hj, Lib.add_plain, World.cell?_drewN]
        exact cell?_putRow (fun (b : UInt8) => Value.int .u8 (b.toNat : Int)) _ w.heap.size 0 _ dk HH0.out (by rw [hF.size, Array.size_replicate]) j (by rw [hF.size]; rw [Lib.decDigits_length] at hj; exact hj))
      rw [Lib.decDigits_length] at h
      exact h
    obtain ⟨os, eo⟩ := fin_pos0 w (.cells Lib.zeros24 143) dk k
    have HB : Hid (Below w.heap.size w ((putRow (fun (b : UInt8) => Value.int .u8 (b.toNat : Int)) (w.alloc (.cells Lib.zeros24 143)) w.heap.size 0 dk).drewN k)) := by rw [eo]; exact below_grow w k os
    clear eo hF
    go_wp2
    go_ret
    exact ⟨rfl, HB.out⟩

set_option maxHeartbeats 1000000 in
theorem digits_any (u : Nat) (hu : u < 18446744073709551616) (w : World) (ht : TabN w) :
    Calls Tryd.prog 37 #[.int .u64 u] w fun e w' => e = .returned (.string ⟨(Lib.decDigits u).toArray⟩) ∧ Below w.heap.size w w' := by
  have HF := Lib.hid (fmtUint_any u hu w ht)
  have hf : Hid (Calls Tryd.prog 69 #[.int .u64 u, .int .i64 10] w fun e w' => e = .returned (.string ⟨(Lib.decDigits u).toArray⟩) ∧ Below w.heap.size w w') := by
    go_enter Tryd.func69, Tryd.ntmps69
    go_wp2_with fail
    refine HF.out.mono ?_
    rintro e w' ⟨rfl, hb⟩
    have HB := Lib.hid hb
    clear hb
    go_wp2
    go_ret
    exact ⟨rfl, HB.out⟩
  clear ht
  go_enter Tryd.func37, Tryd.ntmps37
  go_wp2_with fail
  refine hf.out.mono ?_
  rintro e w' ⟨rfl, hb⟩
  have HB := Lib.hid hb
  clear hb
  go_wp2
  go_ret
  exact ⟨rfl, HB.out⟩

/-- Who reads gives up. -/
def gives (c : Int) : Ending := .panicked [{ v := .iface 25 (.int .i64 c), recovered := false }]
theorem gives_def (c : Int) : gives c = .panicked [{ v := .iface 25 (.int .i64 c), recovered := false }] := rfl

theorem need_yes (w : World) : Calls Tryd.prog 72 #[.bool true] w fun e w' => e = .returned (.tuple #[]) ∧ w' = w := by
  go_enter Tryd.func72, Tryd.ntmps72
  go_wp2_with fail
  first | go_end0 | skip
  exact ⟨rfl, rfl⟩

theorem need_no (w : World) : Calls Tryd.prog 72 #[.bool false] w fun e w' => e = gives 130 ∧ w' = w := by
  go_enter Tryd.func72, Tryd.ntmps72
  go_wp2_with fail
  exact ⟨rfl, rfl, rfl⟩

/-- What ParseUint answers: a number and none, or an error. -/
def ParseP (w : World) (s : List UInt8) (e : Ending) (w' : World) : Prop :=
  Below w.heap.size w w' ∧ ((∃ u : Nat, Lib.parseUintB 64 s = .ok u ∧ u < 18446744073709551616 ∧ e = .returned (.tuple #[.int .u64 u, .nilIface])) ∨
    (numN s = none ∧ ∃ (u : Int) (t : TypeId) (v : Value), (0 ≤ u ∧ u ≤ 18446744073709551615) ∧ e = .returned (.tuple #[.int .u64 u, .iface t v])))

theorem bytes_eq (s : ByteArray) : (⟨s.data.toList.toArray⟩ : ByteArray) = s := by cases s; simp

theorem parse_any (s : List UInt8) (hs : s.length ≤ 140737488355328) (w : World) (ht : TabN w) :
    Calls Tryd.prog 89 #[.string ⟨s.toArray⟩, .int .i64 10, .int .i64 64] w (ParseP w s) := by
  have hsz : (⟨s.toArray⟩ : ByteArray).size = s.length := by simp [ByteArray.size]
  have hd : (⟨s.toArray⟩ : ByteArray).data.toList = s := by simp
  obtain ⟨_, ⟨t2, p2, h2⟩, ⟨t3, p3, h3⟩⟩ := ht
  have nn : (∀ u, Lib.parseUintB 64 s ≠ .ok u) → numN s = none := fun h => by
    unfold numN
    split
    · rename_i u hu; exact absurd hu (h u)
    · rfl
  cases hp : Lib.parseUintB 64 s with
  | ok u =>
    refine (Any.strconv_ParseUint_10_at64_ok Tryd.puLays ⟨s.toArray⟩ (by rw [hsz]; omega) u (by rw [hd]; exact hp) w).mono ?_
    rintro e w' ⟨rfl, hw⟩
    refine ⟨?_, .inl ⟨u, hp, ?_, rfl⟩⟩
    · rcases hw with rfl | rfl
      · exact Below.refl _ _
      · exact Lib.bytesWorld_below _ _ _
    · have h2 := Lib.parseUintB_le hp
      have e : (2 : Nat) ^ 64 - 1 = 18446744073709551615 := by decide
      omega
  | «syntax» =>
    refine (Any.strconv_ParseUint_10_at64_syntax_var Tryd.puLays ⟨s.toArray⟩ (by rw [hsz]; omega) (by rw [hd]; exact hp) t2 p2 w h2).mono ?_
    rintro e w' ⟨N, rfl, _, _, hb⟩
    exact ⟨hb, .inr ⟨nn (fun u h => by rw [hp] at h; cases h), 0, _, _, by omega, rfl⟩⟩
  | range =>
    refine (Any.strconv_ParseUint_10_at64_range_var Tryd.puLays ⟨s.toArray⟩ (by rw [hsz]; omega) (by rw [hd]; exact hp) t3 p3 w h3).mono ?_
    rintro e w' ⟨N, rfl, _, _, hb⟩
    exact ⟨hb, .inr ⟨nn (fun u h => by rw [hp] at h; cases h), 18446744073709551615, _, _, by omega, rfl⟩⟩

/-- What number answers. -/
def NumP (w : World) (s : List UInt8) (e : Ending) (w' : World) : Prop :=
  Below w.heap.size w w' ∧ match numN s with
    | some n => e = .returned (.int .u64 n)
    | none => e = gives 130

theorem numP_none {w w' : World} {s : List UInt8} (hb : Below w.heap.size w w') (h : numN s = none) : NumP w s (gives 130) w' := ⟨hb, by rw [h]⟩
theorem numP_some {w w' : World} {s : List UInt8} {n : Nat} (hb : Below w.heap.size w w') (h : numN s = some n) : NumP w s (.returned (.int .u64 n)) w' := ⟨hb, by rw [h]⟩

set_option maxRecDepth 100000 in
set_option maxHeartbeats 2000000 in
theorem number_any (s : List UInt8) (hs : s.length ≤ 140737488355328) (w : World) (ht : TabN w) :
    Calls Tryd.prog 75 #[.string ⟨s.toArray⟩] w (NumP w s) := by
  have HT := Lib.hid ht
  have HP := Lib.hid (parse_any s hs w ht)
  clear ht
  go_enter Tryd.func75, Tryd.ntmps75
  go_wp2_with fail
  refine HP.out.mono ?_
  rintro e w1 ⟨hb1, ⟨u, hu, hlt, rfl⟩ | ⟨hn, u, t, v, ⟨h0, h1⟩, rfl⟩⟩
  · have HB1 := Lib.hid hb1
    obtain ⟨b, hb⟩ : ∃ b, b = (Lib.decDigits u == s) := ⟨_, rfl⟩
    have HD := Lib.hid (digits_any u hlt w1 (HT.out.on hb1))
    have HU := Lib.hid hu
    have HBb := Lib.hid hb
    clear hb1 hu hb
    go_wp2_with fail
    refine HD.out.mono ?_
    rintro e w2 ⟨rfl, hb2⟩
    have HB2 := Lib.hid (below_on HB1.out hb2)
    clear hb2
    cases b
    · go_wp2_with fail
      rw [← HBb.out]
      refine (need_no _).mono ?_
      rintro e w3 ⟨rfl, rfl⟩
      rw [gives_def]
      go_wp2_with fail
      refine ⟨rfl, numP_none HB2.out ?_⟩
      unfold numN
      rw [HU.out]
      have := HBb.out
      simp at this
      simp [this]
    · go_wp2_with fail
      rw [← HBb.out]
      refine (need_yes _).mono ?_
      rintro e w3 ⟨rfl, rfl⟩
      go_wp2_with fail
      go_ret
      refine numP_some HB2.out ?_
      unfold numN
      rw [HU.out]
      have := HBb.out
      simp at this
      simp [this]
  · have HB1 := Lib.hid hb1
    have HN := Lib.hid hn
    clear hb1 hn
    go_wp2_with fail
    refine (need_no _).mono ?_
    rintro e w3 ⟨rfl, rfl⟩
    rw [gives_def]
    go_wp2_with fail
    exact ⟨rfl, numP_none HB1.out HN.out⟩

end Go.Proofs.YtjbdpkjkeelgfaaDoor
