/-
  Contract of the program's slotCmp. Plain facts: one operation by what its run comes to; a block whose cells are stored whole. No program is named here. Plain facts: one number more behind an own row of numbers, where no order is drawn; what a row of its own leaves alone. No program is named here. The library functions that this program calls, by the contracts that lie compiled in the library, laid at this program by the shelf's own command in plain words. Contract of the program's usedApart.
-/
import Derived.Test.YtaehfeobfkaicaaGreatCacheGetG11
import Derived.Test.YtaehfeobfkaicaaGreatCacheGetG15
import Derived.Test.YtaehfeobfkaicaaGreatCacheGetG08
import Derived.Test.YtaehfeobfkaicaaGreatCacheGetG02
import Derived.Deep.MidRow
import Derived.Test.YtaehfeobfkaicaaGreatCacheGetG04
import Derived.Shelf.Small.Wraps
import Derived.Shelf.Sort.Plain
import Derived.Ground.Names2Prog
import Derived.Shelf.Slices.CompactI
import Derived.Shelf.Slices.Cells
import Derived.Shelf.Slices.In.SortNone
import Derived.Test.YtaehfeobfkaicaaGreatProg
import Derived.Sort.OwnSortedInts
namespace Go.Proofs.YtaehfeobfkaicaaGreat
open Go.RowKit
set_option linter.unusedVariables false

set_option maxHeartbeats 1000000 in
set_option maxRecDepth 100000 in
theorem slotCmp_has {vn vr un ur : Value} {a b : Slt} {w : World} (h : HasS2 w vn vr a) (h' : HasS2 w un ur b) :
  Calls Tryz.prog 79 #[.agg #[vn, .int .i64 a.type, .int .i64 a.kind, vr, .int .i64 a.rank, .int .i64 a.till, .int .i64 a.used], .agg #[un, .int .i64 b.type, .int .i64 b.kind, ur, .int .i64 b.rank, .int .i64 b.till, .int .i64 b.used]] w fun e w' => e = .returned (.int .i64 (slotCmpI a b)) ∧ Below w.heap.size w w' := by
 obtain ⟨na, nc, rfl, _⟩ := h.name.form
 obtain ⟨ra, rc, rfl, _⟩ := h.rrs.form
 obtain ⟨na', nc', rfl, _⟩ := h'.name.form
 obtain ⟨ra', rc', rfl, _⟩ := h'.rrs.form
 have b0 := below2 w (.cells #[.slice na a.name.length nc, .int .i64 a.type, .int .i64 a.kind, .slice ra a.rrs.length rc, .int .i64 a.rank, .int .i64 a.till, .int .i64 a.used] 71) (.cells #[.slice na' b.name.length nc', .int .i64 b.type, .int .i64 b.kind, .slice ra' b.rrs.length rc', .int .i64 b.rank, .int .i64 b.till, .int .i64 b.used] 71)
 obtain ⟨hsz, k0, x0⟩ := box2 w (.cells #[.slice na a.name.length nc, .int .i64 a.type, .int .i64 a.kind, .slice ra a.rrs.length rc, .int .i64 a.rank, .int .i64 a.till, .int .i64 a.used] 71) #[.slice na' b.name.length nc', .int .i64 b.type, .int .i64 b.kind, .slice ra' b.rrs.length rc', .int .i64 b.rank, .int .i64 b.till, .int .i64 b.used] 71
 have NC := implNameCmp_has (h.below b0).name (h'.below b0).name
 have KK := UC k0
 have XX := UC x0
 obtain ⟨d0, d1, d2, d3, d4, d5, d6⟩ := UJ k0
 obtain ⟨f0, f1, f2, f3, f4, f5, f6⟩ := UJ x0
 clear h h' k0 x0 hsz
 unfold slotCmpI
 generalize nameCmp a.name b.name = N at *
 replace NC := UC NC
 by_cases e1 : N = 0
 ·subst e1
  rw [if_neg (by simp)]
  go_enter Tryz.func79, Tryz.ntmps79
  go_wp2_with fail
  clear d0 d1 d2 d3 d4 d5 d6 f0 f1 f2 f3 f4 f5 f6
  refine (UB NC).mono ?_
  rintro e w1 ⟨rfl, b1⟩
  replace b0 := UG b0 b1
  replace KK := UC (UE b1 (UB KK))
  replace XX := UC (UE b1 (UB XX))
  clear b1
  obtain ⟨d0, d1, d2, d3, d4, d5, d6⟩ := UJ (UB KK)
  obtain ⟨f0, f1, f2, f3, f4, f5, f6⟩ := UJ (UB XX)
  go_wp2_with fail
  refine (cmpCompare_int _ _ _).mono ?_
  rintro e w2 ⟨rfl, rfl⟩
  go_wp2_with fail
  go_ret
  exact ⟨rfl, b0⟩
 ·have q1 : (N != 0) = true := by simpa using e1
  rw [if_pos e1]
  clear e1
  go_enter Tryz.func79, Tryz.ntmps79
  go_wp2_with fail
  refine (UB NC).mono ?_
  rintro e w1 ⟨rfl, b1⟩
  go_wp2_with fail
  go_ret
  exact ⟨rfl, UG b0 b1⟩
theorem list_run {P : Program} {w w' : World} {ops : Array Oper} {rest : List Oper} {o : Oper} {a : Act} {Q : Exit → Act → World → Prop} {v : Value} (hgd : o.guard = none)
  (hrun : (execOp a.eval o).run P w = .ok (.value v) w') (h : wpList P ops Q rest (a.put o.dst v) w') : wpList P ops Q (o :: rest) a w := by
 refine wpList_plain hgd fun K' hK' => ?_
 unfold Oper.wp
 rw [hrun]
 exact hK' _ _ h
theorem below_grow {w W w' : World} {row : Option Nat} (hb : Below w.heap.size w W) (hg : W.grownBy w' row) (hr : ∀ j, row = some j → w.heap.size ≤ j) : Below w.heap.size w w' :=
 ⟨by first | exact hg.os.trans hb.os | exact hb.os.trans hg.os, by first | exact hg.tape.trans hb.tape | exact hb.tape.trans hg.tape, by first | exact hg.output.trans hb.output | exact hb.output.trans hg.output, Nat.le_trans hb.size hg.size, fun k hk => (hg.block k (Nat.lt_of_lt_of_le hk hb.size) (fun e => by have := hr k e.symm; omega)).trans (hb.block k hk)⟩
theorem append_int1 {P : Program} {w : World} {ops : Array Oper} {rest : List Oper} {o : Oper} {a : Act} {Q : Exit → Act → World → Prop} (hgd : o.guard = none) (s x : Operand) (t e : TypeId)
  (ho : o.op = .call { callee := .builtin .append, args := #[s, x], argTypes := #[t, t] }) (ht : P.underlying t = some (.slice e))
  (hinfo : (P.info? e).map (fun i => (i.zero, i.size, i.bytes)) = some (some (.int .i64 0), 1, 8))
  (base : Nat) (v : Value) (l : List Int) (W : World) (z : Int) (q : Nat) (hq : W.heap.size = q) (hs : a.eval s = v) (hx : a.eval x = .slice (some ⟨q, 0, none⟩) 1 1) (hw : w = W.alloc (.cells #[.int .i64 z] e)) (hown : OwnI base e W v l)
  (hlen : l.length + 1 ≤ 1099511627776) (hbase : base ≤ W.heap.size)
  (h : ∀ v' w', OwnI base e w' v' (l ++ [z]) → w.grownBy w' v.ownBlock → wpList P ops Q rest (a.put o.dst v') w') : wpList P ops Q (o :: rest) a w := by
 subst hq
 obtain ⟨i0, hi, hzz⟩ := Option.map_eq_some_iff.1 hinfo
 simp only [Prod.mk.injEq] at hzz
 obtain ⟨hz0, hz1, hz2⟩ := hzz
 have hown2 : w.ownsRow base e 1 v l.length (l.map (Value.int .i64)) := by rw [hw]; exact OwnI.alloc hown _
 rcases one_more W e (.int .i64 z) with ⟨h0, _⟩ | ⟨ad, cap, hv, hc⟩
 ·cases h0
 ·rw [← hw] at hc
  obtain ⟨v', w', h1, h2, h3, _⟩ := run_append_own (P := P) w base t o.type e i0 (.int .i64 0) 1 8 ht hi hz0 hz1 hz2 rfl (by decide) v l.length (l.map (Value.int .i64)) hown2 ad 1 cap [.int .i64 z] (by simp) hc (by intro y hy; simp at hy; subst hy; rfl) (by unfold maxLen; omega) (by omega) (by rw [hw]; exact Nat.le_trans hbase (UI _).size)
  have hx2 : a.eval x = .slice (some ad) 1 cap := by rw [hx]; exact hv
  refine list_run hgd (v := v') (w' := w') ?_ (h v' w' (by simpa [OwnI] using h2) h3)
  unfold execOp
  simp only [ho, resolve, invoke, builtin, Sem.run_bind, Sem.run_pure, Result.andThen_ok, List.map_toArray, List.map_cons, List.map_nil, hs, hx2, h1]
end Go.Proofs.YtaehfeobfkaicaaGreat

namespace Go.Proofs
open Go.Shelf
def Tryz.lays215_ren : Go.Shelf.Ren := ⟨fun | 215 => 126 | n => n, fun | 3 => 3 | 4 => 4 | n => n, fun | n => n⟩
theorem Tryz.lays215 : Go.Proofs.Lays.n215 Tryz.prog Tryz.lays215_ren := {
  mixed := by kernel_rfl
  f215 := Tryz.func126.trans (congrArg some (by kernel_rfl))
  t3 := Tryz.underlying3
  a3 := Tryz.isAgg3
  z3 := Tryz.sizeOf3
  v3 := Tryz.zeroValue3
  t4 := Tryz.underlying4
  a4 := Tryz.isAgg4
  z4 := Tryz.sizeOf4
  v4 := Tryz.zeroValue4 }
open Go.RowKit in
theorem Tryz.cmp_isNaN_int (x : Int) (w : World) :
    Calls Tryz.prog 126 #[.int .i64 x] w fun e w' => e = .returned (.bool false) ∧ w' = w := Any.cmp_isNaN_int Tryz.lays215 x w
def Tryz.lays122_ren : Go.Shelf.Ren := ⟨fun | 122 => 108 | 215 => 126 | n => n, fun | 3 => 3 | 4 => 4 | n => n, fun | n => n⟩
theorem Tryz.lays122 : Go.Proofs.Lays.n122 Tryz.prog Tryz.lays122_ren := {
  mixed := by kernel_rfl
  f122 := Tryz.func108.trans (congrArg some (by kernel_rfl))
  f215 := Tryz.func126.trans (congrArg some (by kernel_rfl))
  t3 := Tryz.underlying3
  a3 := Tryz.isAgg3
  z3 := Tryz.sizeOf3
  v3 := Tryz.zeroValue3
  t4 := Tryz.underlying4
  a4 := Tryz.isAgg4
  z4 := Tryz.sizeOf4
  v4 := Tryz.zeroValue4 }
open Go.RowKit in
theorem Tryz.cmp_Compare_int (x y : Int) (w : World) :
    Calls Tryz.prog 108 #[.int .i64 x, .int .i64 y] w fun e w' => e = .returned (.int .i64 (Lib.compareInt x y)) ∧ w' = w := Any.cmp_Compare_int Tryz.lays122 x y w
def Tryz.lays189_ren : Go.Shelf.Ren := ⟨fun | 189 => 109 | 125 => 128 | 257 => 127 | 128 => 145 | 129 => 146 | 294 => 136 | 295 => 137 | 296 => 138 | 297 => 139 | 298 => 140 | 299 => 141 | 216 => 142 | 300 => 143 | 301 => 144 | 328 => 151 | 329 => 152 | 330 => 153 | 331 => 154 | 332 => 155 | 215 => 126 | 343 => 165 | n => n, fun | 28 => 57 | 3 => 3 | 46 => 153 | 0 => 0 | 51 => 184 | 53 => 186 | 4 => 4 | 183 => 177 | 182 => 176 | 131 => 181 | 5 => 5 | 9 => 9 | 218 => 197 | 222 => 201 | 228 => 209 | 229 => 210 | n => n, fun | n => n⟩
theorem Tryz.lays189 : Go.Proofs.Lays.n189 Tryz.prog Tryz.lays189_ren := {
  mixed := by kernel_rfl
  f125 := Tryz.func128.trans (congrArg some (by kernel_rfl))
  f128 := Tryz.func145.trans (congrArg some (by kernel_rfl))
  f129 := Tryz.func146.trans (congrArg some (by kernel_rfl))
  f189 := Tryz.func109.trans (congrArg some (by kernel_rfl))
  f215 := Tryz.func126.trans (congrArg some (by kernel_rfl))
  f216 := Tryz.func142.trans (congrArg some (by kernel_rfl))
  f257 := Tryz.func127.trans (congrArg some (by kernel_rfl))
  f294 := Tryz.func136.trans (congrArg some (by kernel_rfl))
  f295 := Tryz.func137.trans (congrArg some (by kernel_rfl))
  f296 := Tryz.func138.trans (congrArg some (by kernel_rfl))
  f297 := Tryz.func139.trans (congrArg some (by kernel_rfl))
  f298 := Tryz.func140.trans (congrArg some (by kernel_rfl))
  f299 := Tryz.func141.trans (congrArg some (by kernel_rfl))
  f300 := Tryz.func143.trans (congrArg some (by kernel_rfl))
  f301 := Tryz.func144.trans (congrArg some (by kernel_rfl))
  f328 := Tryz.func151.trans (congrArg some (by kernel_rfl))
  f329 := Tryz.func152.trans (congrArg some (by kernel_rfl))
  f330 := Tryz.func153.trans (congrArg some (by kernel_rfl))
  f331 := Tryz.func154.trans (congrArg some (by kernel_rfl))
  f332 := Tryz.func155.trans (congrArg some (by kernel_rfl))
  f343 := Tryz.func165.trans (congrArg some (by kernel_rfl))
  t0 := Tryz.underlying0
  a0 := Tryz.isAgg0
  z0 := Tryz.sizeOf0
  v0 := Tryz.zeroValue0
  t3 := Tryz.underlying3
  a3 := Tryz.isAgg3
  z3 := Tryz.sizeOf3
  v3 := Tryz.zeroValue3
  t4 := Tryz.underlying4
  a4 := Tryz.isAgg4
  z4 := Tryz.sizeOf4
  v4 := Tryz.zeroValue4
  t5 := Tryz.underlying5
  a5 := Tryz.isAgg5
  z5 := Tryz.sizeOf5
  v5 := Tryz.zeroValue5
  t9 := Tryz.underlying9
  a9 := Tryz.isAgg9
  z9 := Tryz.sizeOf9
  v9 := Tryz.zeroValue9
  t28 := Tryz.underlying57
  a28 := Tryz.isAgg57
  z28 := Tryz.sizeOf57
  v28 := Tryz.zeroValue57
  t46 := Tryz.underlying153
  a46 := Tryz.isAgg153
  z46 := Tryz.sizeOf153
  v46 := Tryz.zeroValue153
  t51 := Tryz.underlying184
  a51 := Tryz.isAgg184
  z51 := Tryz.sizeOf184
  v51 := Tryz.zeroValue184
  t53 := Tryz.underlying186
  a53 := Tryz.isAgg186
  z53 := Tryz.sizeOf186
  v53 := Tryz.zeroValue186
  t131 := Tryz.underlying181
  a131 := Tryz.isAgg181
  z131 := Tryz.sizeOf181
  v131 := Tryz.zeroValue181
  t182 := Tryz.underlying176
  a182 := Tryz.isAgg176
  z182 := Tryz.sizeOf176
  v182 := Tryz.zeroValue176
  t183 := Tryz.underlying177
  a183 := Tryz.isAgg177
  z183 := Tryz.sizeOf177
  v183 := Tryz.zeroValue177
  t218 := Tryz.underlying197
  a218 := Tryz.isAgg197
  z218 := Tryz.sizeOf197
  v218 := Tryz.zeroValue197
  t222 := Tryz.underlying201
  a222 := Tryz.isAgg201
  z222 := Tryz.sizeOf201
  v222 := Tryz.zeroValue201
  t228 := Tryz.underlying209
  a228 := Tryz.isAgg209
  z228 := Tryz.sizeOf209
  v228 := Tryz.zeroValue209
  t229 := Tryz.underlying210
  a229 := Tryz.isAgg210
  z229 := Tryz.sizeOf210
  v229 := Tryz.zeroValue210 }
open Go.Sort Go.RowKit in
theorem Tryz.slices_Sort_int (blk off cap : Nat) (zs : List Int) (w : World) (hH : Holds (Value.int .i64) w blk off zs.toArray) (hblk : blk < w.heap.size) (hsz : zs.length < 4611686018427387904) :
    Calls Tryz.prog 109 #[.slice (some ⟨blk, off, none⟩) zs.length cap] w fun e w' =>
      e = .returned (.tuple #[]) ∧ ∃ n os, w' = grow (putRow (Value.int .i64) (Sort.ahead w n) blk off (zs.mergeSort fun x y => decide (x ≤ y)).toArray) os := Any.slices_Sort_int Tryz.lays189 blk off cap zs w hH hblk hsz
def Tryz.lays190_ren : Go.Shelf.Ren := ⟨fun | 190 => 134 | 125 => 128 | 258 => 150 | 128 => 145 | 129 => 146 | 302 => 156 | 303 => 157 | 304 => 158 | 305 => 159 | 306 => 160 | 307 => 161 | 308 => 162 | 309 => 163 | 310 => 164 | 333 => 166 | 329 => 152 | 330 => 153 | 334 => 167 | 335 => 168 | 336 => 169 | 344 => 170 | n => n, fun | 31 => 127 | 9 => 9 | 3 => 3 | 46 => 153 | 0 => 0 | 51 => 184 | 53 => 186 | 4 => 4 | 183 => 177 | 182 => 176 | 131 => 181 | 5 => 5 | 218 => 197 | 222 => 201 | 228 => 209 | 229 => 210 | n => n, fun | n => n⟩
theorem Tryz.lays190 : Go.Proofs.Lays.n190 Tryz.prog Tryz.lays190_ren := {
  mixed := by kernel_rfl
  f125 := Tryz.func128.trans (congrArg some (by kernel_rfl))
  f128 := Tryz.func145.trans (congrArg some (by kernel_rfl))
  f129 := Tryz.func146.trans (congrArg some (by kernel_rfl))
  f190 := Tryz.func134.trans (congrArg some (by kernel_rfl))
  f258 := Tryz.func150.trans (congrArg some (by kernel_rfl))
  f302 := Tryz.func156.trans (congrArg some (by kernel_rfl))
  f303 := Tryz.func157.trans (congrArg some (by kernel_rfl))
  f304 := Tryz.func158.trans (congrArg some (by kernel_rfl))
  f305 := Tryz.func159.trans (congrArg some (by kernel_rfl))
  f306 := Tryz.func160.trans (congrArg some (by kernel_rfl))
  f307 := Tryz.func161.trans (congrArg some (by kernel_rfl))
  f308 := Tryz.func162.trans (congrArg some (by kernel_rfl))
  f309 := Tryz.func163.trans (congrArg some (by kernel_rfl))
  f310 := Tryz.func164.trans (congrArg some (by kernel_rfl))
  f329 := Tryz.func152.trans (congrArg some (by kernel_rfl))
  f330 := Tryz.func153.trans (congrArg some (by kernel_rfl))
  f333 := Tryz.func166.trans (congrArg some (by kernel_rfl))
  f334 := Tryz.func167.trans (congrArg some (by kernel_rfl))
  f335 := Tryz.func168.trans (congrArg some (by kernel_rfl))
  f336 := Tryz.func169.trans (congrArg some (by kernel_rfl))
  f344 := Tryz.func170.trans (congrArg some (by kernel_rfl))
  t0 := Tryz.underlying0
  a0 := Tryz.isAgg0
  z0 := Tryz.sizeOf0
  v0 := Tryz.zeroValue0
  t3 := Tryz.underlying3
  a3 := Tryz.isAgg3
  z3 := Tryz.sizeOf3
  v3 := Tryz.zeroValue3
  t4 := Tryz.underlying4
  a4 := Tryz.isAgg4
  z4 := Tryz.sizeOf4
  v4 := Tryz.zeroValue4
  t5 := Tryz.underlying5
  a5 := Tryz.isAgg5
  z5 := Tryz.sizeOf5
  v5 := Tryz.zeroValue5
  t9 := Tryz.underlying9
  a9 := Tryz.isAgg9
  z9 := Tryz.sizeOf9
  v9 := Tryz.zeroValue9
  t31 := Tryz.underlying127
  a31 := Tryz.isAgg127
  z31 := Tryz.sizeOf127
  v31 := Tryz.zeroValue127
  t46 := Tryz.underlying153
  a46 := Tryz.isAgg153
  z46 := Tryz.sizeOf153
  v46 := Tryz.zeroValue153
  t51 := Tryz.underlying184
  a51 := Tryz.isAgg184
  z51 := Tryz.sizeOf184
  v51 := Tryz.zeroValue184
  t53 := Tryz.underlying186
  a53 := Tryz.isAgg186
  z53 := Tryz.sizeOf186
  v53 := Tryz.zeroValue186
  t131 := Tryz.underlying181
  a131 := Tryz.isAgg181
  z131 := Tryz.sizeOf181
  v131 := Tryz.zeroValue181
  t182 := Tryz.underlying176
  a182 := Tryz.isAgg176
  z182 := Tryz.sizeOf176
  v182 := Tryz.zeroValue176
  t183 := Tryz.underlying177
  a183 := Tryz.isAgg177
  z183 := Tryz.sizeOf177
  v183 := Tryz.zeroValue177
  t218 := Tryz.underlying197
  a218 := Tryz.isAgg197
  z218 := Tryz.sizeOf197
  v218 := Tryz.zeroValue197
  t222 := Tryz.underlying201
  a222 := Tryz.isAgg201
  z222 := Tryz.sizeOf201
  v222 := Tryz.zeroValue201
  t228 := Tryz.underlying209
  a228 := Tryz.isAgg209
  z228 := Tryz.sizeOf209
  v228 := Tryz.zeroValue209
  t229 := Tryz.underlying210
  a229 := Tryz.isAgg210
  z229 := Tryz.sizeOf210
  v229 := Tryz.zeroValue210 }
open Go.Sort Go.RowKit in
theorem Tryz.slices_Sort_string (blk off cap : Nat) (ss : List (List UInt8)) (w : World) (hH : Holds encStr w blk off ss.toArray) (hblk : blk < w.heap.size) (hsz : ss.length < 4611686018427387904) :
    Calls Tryz.prog 134 #[.slice (some ⟨blk, off, none⟩) ss.length cap] w fun e w' =>
      e = .returned (.tuple #[]) ∧ ∃ n os, w' = grow (putRow encStr (Sort.ahead w n) blk off (ss.mergeSort fun x y => decide (x ≤ y)).toArray) os := Any.slices_Sort_string Tryz.lays190 blk off cap ss w hH hblk hsz
def Tryz.laysNm220_ren : Go.Shelf.Ren := ⟨fun | 20 => 110 | n => n, fun | 22 => 57 | 3 => 3 | 4 => 4 | 0 => 0 | n => n, fun | n => n⟩
theorem Tryz.laysNm220 : Go.Proofs.Lays2.n20 Tryz.prog Tryz.laysNm220_ren := {
  mixed := by kernel_rfl
  f20 := Tryz.func110.trans (congrArg some (by kernel_rfl))
  t0 := Tryz.underlying0
  a0 := Tryz.isAgg0
  z0 := Tryz.sizeOf0
  v0 := Tryz.zeroValue0
  t3 := Tryz.underlying3
  a3 := Tryz.isAgg3
  z3 := Tryz.sizeOf3
  v3 := Tryz.zeroValue3
  t4 := Tryz.underlying4
  a4 := Tryz.isAgg4
  z4 := Tryz.sizeOf4
  v4 := Tryz.zeroValue4
  t22 := Tryz.underlying57
  a22 := Tryz.isAgg57
  z22 := Tryz.sizeOf57
  v22 := Tryz.zeroValue57
  i3 := by kernel_rfl }
open Go.RowKit Go.Lib Go.Sort in
theorem Tryz.slices_Compact_int_arr (blk off cap : Nat) (d : Array Int) (w : World) (hH : Holds encI w blk off d) (hsz : d.size ≤ 9223372036854775807) (hcap : d.size ≤ cap) :
    Calls Tryz.prog 110 #[.slice (some ⟨blk, off, none⟩) d.size cap] w fun e w' => e = .returned (.slice (some ⟨blk, off, none⟩) (compactUpTo d d.size).length cap) ∧ ∃ q, w' = putRow encI (Sort.ahead w q) blk off (compactUpTo d d.size ++ List.replicate (d.size - (compactUpTo d d.size).length) 0).toArray := Any.slices_Compact_int_arr Tryz.laysNm220 blk off cap d w hH hsz hcap
open Go.RowKit Go.Lib Go.Sort in
theorem Tryz.slices_Compact_int (blk off cap : Nat) (zs : List Int) (w : World) (hH : Holds (Value.int .i64) w blk off zs.toArray) (hsz : zs.length ≤ 9223372036854775807) (hcap : zs.length ≤ cap) :
    Calls Tryz.prog 110 #[.slice (some ⟨blk, off, none⟩) zs.length cap] w fun e w' => e = .returned (.slice (some ⟨blk, off, none⟩) (Lib.compact zs).length cap) ∧ ∃ q, w' = putRow (Value.int .i64) (Sort.ahead w q) blk off (Lib.compact zs ++ List.replicate (zs.length - (Lib.compact zs).length) 0).toArray := Any.slices_Compact_int Tryz.laysNm220 blk off cap zs w hH hsz hcap
open Go.RowKit Go.Lib Go.Sort in
theorem Tryz.slices_Compact_int_empty (a : Option Addr) (cap : Nat) (w : World) :
    Calls Tryz.prog 110 #[.slice a 0 cap] w fun e w' => e = .returned (.slice a 0 cap) ∧ w' = w := Any.slices_Compact_int_empty Tryz.laysNm220 a cap w
open Go.RowKit Go.Lib Go.Sort in
theorem Tryz.slices_Compact_int_cells (b off n c : Nat) (zs : List Int) (w : World) (hz : n ≤ zs.length) (hbig : n ≤ 9223372036854775807) (hcap : n ≤ c) (hc : ∀ j, j < zs.length → w.cell? ⟨b, off + j, none⟩ = some (.int .i64 (zs.getD j 0))) (hf : ∀ j, j < n → w.frozen? ⟨b, off + j, none⟩ = false) :
    Calls Tryz.prog 110 #[.slice (some ⟨b, off, none⟩) n c] w fun e w' => e = .returned (.slice (some ⟨b, off, none⟩) (Lib.compact (zs.take n)).length c) ∧ ∃ q, w' = (w.drewN q).setCells b off ((Lib.compact (zs.take n) ++ List.replicate (n - (Lib.compact (zs.take n)).length) 0).map (Value.int .i64)) := Any.slices_Compact_int_cells Tryz.laysNm220 b off n c zs w hz hbig hcap hc hf
open Go.RowKit Go.Sort in
theorem Tryz.slices_Sort_string_none (p : Option Addr) (cap : Nat) (w : World) :
    Calls Tryz.prog 134 #[.slice p 0 cap] w fun e w' => e = .returned (.tuple #[]) ∧ w' = w := Any.slices_Sort_string_none Tryz.lays190 p cap w
open Go.RowKit Go.Sort in
theorem Tryz.slices_Sort_int_none (p : Option Addr) (cap : Nat) (w : World) :
    Calls Tryz.prog 109 #[.slice p 0 cap] w fun e w' => e = .returned (.tuple #[]) ∧ w' = w := Any.slices_Sort_int_none Tryz.lays189 p cap w
end Go.Proofs

namespace Go.Proofs.YtaehfeobfkaicaaGreat
open Go.RowKit Go.Sort
set_option linter.unusedVariables false

theorem info_intU : (Tryz.prog.info? 3).map (fun i => (i.zero, i.size, i.bytes)) = some (some (.int .i64 0), 1, 8) := by kernel_rfl
set_option maxHeartbeats 4000000 in
set_option maxRecDepth 100000 in
theorem usedApart_has {v : Value} {l : List Slt} {w : World} (h : HasSs w v l) (hl : l.length ≤ 1048576) :
  Calls Tryz.prog 80 #[v] w fun e w' => e = .returned (.bool (apartB l)) ∧ Below w.heap.size w w' := by
 obtain ⟨a, cap, rfl, _⟩ := h.form
 rw [← used_apart l]
 have HZ : ∀ k, k < l.length → (l.map Slt.used).take (k + 1) = (l.map Slt.used).take k ++ [(l.getD k VK).used] := fun k hk => by
  rw [List.take_add_one, List.getElem?_eq_getElem (by simpa using hk)]
  simp [List.getD, hk]
 have hzl : (l.map Slt.used).length = l.length := List.length_map _
 generalize l.map Slt.used = zs at *
 generalize hn : l.length = n at *
 generalize hR : decide ((Lib.compact (zs.mergeSort fun x y => decide (x ≤ y))).length = n) = R
 have HR := UC hR.symm
 have HN := UC hn
 have H := UC h
 have HL := UC hzl
 replace HZ := UC HZ
 clear hn h hR hzl
 go_enter Tryz.func80, Tryz.ntmps80
 go_wp2
 go_loopw [3, 8] (fun s i wr => ∃ k : Nat, k ≤ n ∧ i = .int .i64 k ∧ OwnI w.heap.size 3 wr s (zs.take k) ∧ Below w.heap.size w wr) (fun _ i _ => n - (intOf i).toNat)
 case atStart => exact ⟨0, Nat.zero_le _, rfl, World.ownsRow_nil _ _ _ _, Below.refl _ _⟩
 case round =>
  obtain ⟨k, hk, rfl, ho, hb⟩ := hrel
  by_cases hlt : k < n
  ·obtain ⟨b, off, vs, rfl, hbl, hc, vn, vr, rfl, hu⟩ := (VF (UB H) hb).here (k := k) (by rw [UB HN]; exact hlt)
   obtain ⟨na, nc, rfl, _⟩ := hu.name.form
   obtain ⟨ra, rc, rfl, _⟩ := hu.rrs.form
   have HTK := UC (UB HZ k hlt)
   have hlen : (zs.take k).length + 1 ≤ 1099511627776 := by rw [List.length_take]; omega
   generalize l.getD k VK = rk at *
   generalize zs.take k = ys at *
   obtain ⟨c0, c1, c2, c3, c4, c5, c6⟩ := VH hc
   have HO := UC ho
   have z1 : (wr.alloc (.cells #[.slice na rk.name.length nc, .int .i64 rk.type, .int .i64 rk.kind, .slice ra rk.rrs.length rc, .int .i64 rk.rank, .int .i64 rk.till, .int .i64 rk.used] 71)).heap.size = wr.heap.size + 1 := by show (wr.heap.push _).size = _; simp
   have HZ1 := UC z1
   have zb := hb.size
   have ba := UI (w := wr) (.cells #[.slice na rk.name.length nc, .int .i64 rk.type, .int .i64 rk.kind, .slice ra rk.rrs.length rc, .int .i64 rk.rank, .int .i64 rk.till, .int .i64 rk.used] 71)
   have b1 := UG hb ba
   have HB1 := UC (fun o => UG b1 (UI (w := wr.alloc (.cells #[.slice na rk.name.length nc, .int .i64 rk.type, .int .i64 rk.kind, .slice ra rk.rrs.length rc, .int .i64 rk.rank, .int .i64 rk.till, .int .i64 rk.used] 71)) o))
   clear hc hu ho z1 ba b1
   go_wp2_with (at_builtin; refine append_int1 rfl _ _ 57 3 rfl Tryz.underlying57 info_intU w.heap.size _ ys (wr.alloc (.cells #[.slice na rk.name.length nc, .int .i64 rk.type, .int .i64 rk.kind, .slice ra rk.rrs.length rc, .int .i64 rk.rank, .int .i64 rk.till, .int .i64 rk.used] 71)) rk.used (wr.heap.size + 1) (UB HZ1) rfl rfl rfl ((UB HO).alloc _) hlen (by rw [UB HZ1]; omega) ?_)
   intro v' w' o' g'
   have b9 := below_grow (UB HB1 _) g' (fun j hj => ((UB HO).lt j hj).1)
   clear g' HB1
   have O9 := UC o'
   clear o'
   go_wp2
   exact ⟨⟨k + 1, by omega, by go_num, by rw [UB HTK]; exact UB O9, b9⟩, by simp [intOf]; omega⟩
  ·obtain rfl : k = n := by omega
   have hza : zs.take k = zs := List.take_of_length_le (by rw [UB HL]; exact Nat.le_refl _)
   rw [hza] at ho
   have ho' := ho
   rcases ho.form with ⟨rfl, hnil⟩ | ⟨g, cg, rfl, hgB, hglt, hlc, hcm, hcell, hfr⟩
   ·have hk0 : k = 0 := by rw [← UB HL, hnil]; rfl
    have hR : R = true := by rw [UB HR, hnil, hk0]; simp [Lib.compact, Lib.compactUpTo]
    subst hR
    subst hk0
    clear hza ho ho' hnil HR HL HN HZ H
    go_wp2_with fail
    refine (Tryz.slices_Sort_int_none _ _ _).mono ?_
    rintro e w1 ⟨rfl, rfl⟩
    go_wp2_with fail
    refine (Tryz.slices_Compact_int_empty _ _ _).mono ?_
    rintro e w1 ⟨rfl, rfl⟩
    go_wp2_with fail
    go_ret
    exact ⟨rfl, hb⟩
   ·rcases ho.2 with ⟨h0, _⟩ | ⟨g', cg', cur, hv, hB', hgb, hn', hm', hs', ht'⟩
    ·cases h0
    simp only [Value.slice.injEq, Option.some.injEq, Addr.mk.injEq, and_true] at hv
    obtain ⟨rfl, _, rfl⟩ := hv
    rw [Nat.mul_one] at ht'
    have SO := Tryz.slices_Sort_int g 0 cg zs wr (holds_of_blockI hgb ht') hglt (by rw [UB HL]; omega)
    have O2 := UC (fun m os => ownsRow_sortedI (w := wr) (base := w.heap.size) (g := g) (cap := cg) (n := m) (e := 3) (os := os) (cur := cur) (ss := zs) (ts := zs.mergeSort fun x y => decide (x ≤ y)) (List.length_mergeSort _) hB' hgb hn' hm' hs')
    have G2 := UC (fun m os => below_grow hb (grownBy_sortedI (w := wr) (g := g) (n := m) (os := os) (zs.mergeSort fun x y => decide (x ≤ y)).toArray) (fun j hj => by cases hj; exact hB'))
    have hzl : (zs.mergeSort fun x y => decide (x ≤ y)).length = zs.length := List.length_mergeSort _
    generalize (zs.mergeSort fun x y => decide (x ≤ y)) = ys at *
    have hll := UB HL
    rw [hll] at SO O2 hzl
    rw [hll]
    replace SO := UC SO
    have HYL := UC hzl
    clear hza ho ho' hcell hfr HL HN HZ H hgb ht' hs' hn' hm' hzl hlc
    go_wp2_with fail
    refine (UB SO).mono ?_
    rintro e w1 ⟨rfl, m, os, rfl⟩
    have o2 := UB O2 m os
    have b2 := UB G2 m os
    clear SO O2 G2
    generalize grow (putRow (Value.int .i64) (Sort.ahead wr m) g 0 ys.toArray) os = W2 at *
    rcases o2.2 with ⟨h0, _⟩ | ⟨g', cg', cur2, hv, hB2, hgb2, hn2, hm2, hs2, ht2⟩
    ·cases h0
    simp only [Value.slice.injEq, Option.some.injEq, Addr.mk.injEq, and_true] at hv
    obtain ⟨rfl, _, rfl⟩ := hv
    rw [Nat.mul_one] at ht2
    have CP := Tryz.slices_Compact_int g 0 cg ys W2 (holds_of_blockI hgb2 (by rw [UB HYL]; exact ht2)) (by rw [UB HYL]; omega) (by rw [UB HYL]; exact hn2)
    rw [UB HYL] at CP
    have G3 := UC (fun q (d : Array Int) => below_grow b2 (show W2.grownBy (putRow (Value.int .i64) (Sort.ahead W2 q) g 0 d) (some g) by have := grownBy_sortedI (w := W2) (g := g) (n := q) (os := #[]) d; rwa [grow_empty] at this) (fun j hj => by cases hj; exact hB2))
    generalize (Lib.compact ys).length = M at *
    replace CP := UC CP
    clear o2 hgb2 ht2 hs2 hn2 hm2
    go_wp2_with fail
    refine (UB CP).mono ?_
    rintro e w3 ⟨rfl, q, rfl⟩
    have b3 := UB G3 q
    by_cases hM : M = k
    ·have hR : R = true := by rw [UB HR, decide_eq_true hM]
     subst hR
     subst hM
     go_wp2_with fail
     go_ret
     exact ⟨rfl, b3 _⟩
    ·have hR : R = false := by rw [UB HR, decide_eq_false hM]
     subst hR
     have qM : ((M : Int) == (k : Int)) = false := by rw [beq_eq_false_iff_ne]; omega
     clear hM
     go_wp2_with fail
     go_ret
     exact ⟨rfl, b3 _⟩
end Go.Proofs.YtaehfeobfkaicaaGreat
