/-
  The library functions that gather and sort the keys of maps, by the contracts that lie compiled in the library, laid at this program by the shelf's own command in plain words. slices.Sorted(maps.Keys(m)) of the library, at maps of records: the keys, ascending. slices.Backward of the library at lists of texts, as what a loop ranges over. The program's ascending, at pages, as what a loop ranges over: the records by ascending keys.
-/
import Derived.Shelf.SlIter.Nil
import Derived.Shelf.SortM.Plain
import Derived.Shelf.SortM.SortNone
import Derived.Ground.GgzProg
import Derived.Ground.SlgmProg
import Derived.Test.YtfneahdnpmamkaaGreatProg
import Derived.Test.YtfneahdnpmamkaaGreatFnOwnersG33
namespace Go.Proofs
open Go.Shelf
def Tryz.sort100_ren : Go.Shelf.Ren := ⟨fun | 6 => 100 | 8 => 109 | 9 => 108 | 19 => 119 | 20 => 120 | 21 => 110 | 22 => 111 | 23 => 112 | 24 => 113 | 25 => 114 | 26 => 115 | 27 => 116 | 28 => 117 | 29 => 118 | 36 => 121 | 31 => 122 | 32 => 123 | 37 => 124 | 38 => 125 | 39 => 126 | 41 => 127 | n => n, fun | 27 => 68 | 29 => 9 | 3 => 3 | 32 => 94 | 26 => 68 | 0 => 0 | 44 => 90 | 46 => 150 | 4 => 4 | 36 => 141 | 35 => 140 | 41 => 146 | 5 => 5 | 9 => 9 | 53 => 151 | 57 => 155 | 63 => 157 | 64 => 158 | n => n, fun | n => n⟩
theorem Tryz.sort100 : Go.Proofs.SlLaysM.n6 Tryz.prog Tryz.sort100_ren := {
  mixed := by kernel_rfl
  f6 := ⟨Tryz.f100.name, by decide, Tryz.func100.trans (congrArg some (by kernel_rfl))⟩
  f8 := Tryz.func109.trans (congrArg some (by kernel_rfl))
  f9 := ⟨Tryz.f108.name, by decide, Tryz.func108.trans (congrArg some (by kernel_rfl))⟩
  f19 := Tryz.func119.trans (congrArg some (by kernel_rfl))
  f20 := Tryz.func120.trans (congrArg some (by kernel_rfl))
  f21 := ⟨Tryz.f110.name, by decide, Tryz.func110.trans (congrArg some (by kernel_rfl))⟩
  f22 := ⟨Tryz.f111.name, by decide, Tryz.func111.trans (congrArg some (by kernel_rfl))⟩
  f23 := ⟨Tryz.f112.name, by decide, Tryz.func112.trans (congrArg some (by kernel_rfl))⟩
  f24 := ⟨Tryz.f113.name, by decide, Tryz.func113.trans (congrArg some (by kernel_rfl))⟩
  f25 := ⟨Tryz.f114.name, by decide, Tryz.func114.trans (congrArg some (by kernel_rfl))⟩
  f26 := ⟨Tryz.f115.name, by decide, Tryz.func115.trans (congrArg some (by kernel_rfl))⟩
  f27 := ⟨Tryz.f116.name, by decide, Tryz.func116.trans (congrArg some (by kernel_rfl))⟩
  f28 := ⟨Tryz.f117.name, by decide, Tryz.func117.trans (congrArg some (by kernel_rfl))⟩
  f29 := ⟨Tryz.f118.name, by decide, Tryz.func118.trans (congrArg some (by kernel_rfl))⟩
  f31 := Tryz.func122.trans (congrArg some (by kernel_rfl))
  f32 := Tryz.func123.trans (congrArg some (by kernel_rfl))
  f36 := ⟨Tryz.f121.name, by decide, Tryz.func121.trans (congrArg some (by kernel_rfl))⟩
  f37 := ⟨Tryz.f124.name, by decide, Tryz.func124.trans (congrArg some (by kernel_rfl))⟩
  f38 := ⟨Tryz.f125.name, by decide, Tryz.func125.trans (congrArg some (by kernel_rfl))⟩
  f39 := ⟨Tryz.f126.name, by decide, Tryz.func126.trans (congrArg some (by kernel_rfl))⟩
  f41 := ⟨Tryz.f127.name, by decide, Tryz.func127.trans (congrArg some (by kernel_rfl))⟩
  t0 := Tryz.underlying0
  a0 := Tryz.isAgg0
  z0 := Tryz.sizeOf0
  v0 := Tryz.zeroValue0
  t3 := Tryz.underlying3
  a3 := Tryz.isAgg3
  z3 := Tryz.sizeOf3
  v3 := Tryz.zeroValue3
  t4 := Tryz.underlying4
  a4 := Tryz.isAgg4
  z4 := Tryz.sizeOf4
  v4 := Tryz.zeroValue4
  t5 := Tryz.underlying5
  a5 := Tryz.isAgg5
  z5 := Tryz.sizeOf5
  v5 := Tryz.zeroValue5
  t9 := Tryz.underlying9
  a9 := Tryz.isAgg9
  z9 := Tryz.sizeOf9
  v9 := Tryz.zeroValue9
  t26 := Tryz.underlying68
  a26 := Tryz.isAgg68
  z26 := Tryz.sizeOf68
  v26 := Tryz.zeroValue68
  t27 := Tryz.underlying68
  a27 := Tryz.isAgg68
  z27 := Tryz.sizeOf68
  v27 := Tryz.zeroValue68
  t29 := Tryz.underlying9
  a29 := Tryz.isAgg9
  z29 := Tryz.sizeOf9
  v29 := Tryz.zeroValue9
  t32 := Tryz.underlying94
  a32 := Tryz.isAgg94
  z32 := Tryz.sizeOf94
  v32 := Tryz.zeroValue94
  t35 := Tryz.underlying140
  a35 := Tryz.isAgg140
  z35 := Tryz.sizeOf140
  v35 := Tryz.zeroValue140
  t36 := Tryz.underlying141
  a36 := Tryz.isAgg141
  z36 := Tryz.sizeOf141
  v36 := Tryz.zeroValue141
  t41 := Tryz.underlying146
  a41 := Tryz.isAgg146
  z41 := Tryz.sizeOf146
  v41 := Tryz.zeroValue146
  t44 := Tryz.underlying90
  a44 := Tryz.isAgg90
  z44 := Tryz.sizeOf90
  v44 := Tryz.zeroValue90
  t46 := Tryz.underlying150
  a46 := Tryz.isAgg150
  z46 := Tryz.sizeOf150
  v46 := Tryz.zeroValue150
  t53 := Tryz.underlying151
  a53 := Tryz.isAgg151
  z53 := Tryz.sizeOf151
  v53 := Tryz.zeroValue151
  t57 := Tryz.underlying155
  a57 := Tryz.isAgg155
  z57 := Tryz.sizeOf155
  v57 := Tryz.zeroValue155
  t63 := Tryz.underlying157
  a63 := Tryz.isAgg157
  z63 := Tryz.sizeOf157
  v63 := Tryz.zeroValue157
  t64 := Tryz.underlying158
  a64 := Tryz.isAgg158
  z64 := Tryz.sizeOf158
  v64 := Tryz.zeroValue158 }
def Tryz.sorted74_ren : Go.Shelf.Ren := ⟨fun | 6 => 74 | 8 => 99 | 9 => 100 | 11 => 107 | 13 => 109 | 12 => 108 | 23 => 119 | 24 => 120 | 14 => 110 | 15 => 111 | 16 => 112 | 17 => 113 | 18 => 114 | 19 => 115 | 20 => 116 | 21 => 117 | 22 => 118 | 25 => 121 | 26 => 122 | 27 => 123 | 28 => 124 | 29 => 125 | 30 => 126 | 31 => 127 | n => n, fun | 26 => 9 | 28 => 101 | 24 => 68 | 0 => 0 | 3 => 3 | 37 => 94 | 48 => 90 | 50 => 150 | 4 => 4 | 40 => 141 | 39 => 140 | 45 => 146 | 5 => 5 | 9 => 9 | 51 => 151 | 55 => 155 | 57 => 157 | 58 => 158 | 33 => 121 | n => n, fun | n => n⟩
theorem Tryz.sorted74 : Go.Proofs.SlLaysZ.n6 Tryz.prog Tryz.sorted74_ren := {
  mixed := by kernel_rfl
  f6 := ⟨Tryz.f74.name, by decide, Tryz.func74.trans (congrArg some (by kernel_rfl))⟩
  f8 := ⟨Tryz.f99.name, by decide, Tryz.func99.trans (congrArg some (by kernel_rfl))⟩
  f11 := ⟨Tryz.f107.name, by decide, Tryz.func107.trans (congrArg some (by kernel_rfl))⟩
  t0 := Tryz.underlying0
  a0 := Tryz.isAgg0
  z0 := Tryz.sizeOf0
  v0 := Tryz.zeroValue0
  t24 := Tryz.underlying68
  a24 := Tryz.isAgg68
  z24 := Tryz.sizeOf68
  v24 := Tryz.zeroValue68
  t26 := Tryz.underlying9
  a26 := Tryz.isAgg9
  z26 := Tryz.sizeOf9
  v26 := Tryz.zeroValue9
  t28 := Tryz.underlying101
  a28 := Tryz.isAgg101
  z28 := Tryz.sizeOf101
  v28 := Tryz.zeroValue101
  i26 := by kernel_rfl }
def Tryz.keys75_ren : Go.Shelf.Ren := ⟨fun | 7 => 75 | 10 => 101 | n => n, fun | 23 => 78 | 26 => 9 | 3 => 39 | 28 => 101 | 0 => 0 | 27 => 100 | 33 => 121 | 4 => 4 | n => n, fun | n => n⟩
theorem Tryz.keys75 : Go.Proofs.SlLaysZ.n7 Tryz.prog Tryz.keys75_ren := {
  mixed := by kernel_rfl
  f7 := ⟨Tryz.f75.name, by decide, Tryz.func75.trans (congrArg some (by kernel_rfl))⟩
  f10 := ⟨Tryz.f101.name, by decide, Tryz.func101.trans (congrArg some (by kernel_rfl))⟩
  t0 := Tryz.underlying0
  a0 := Tryz.isAgg0
  z0 := Tryz.sizeOf0
  v0 := Tryz.zeroValue0
  t4 := Tryz.underlying4
  a4 := Tryz.isAgg4
  z4 := Tryz.sizeOf4
  v4 := Tryz.zeroValue4
  t23 := Tryz.underlying78
  a23 := Tryz.isAgg78
  z23 := Tryz.sizeOf78
  v23 := Tryz.zeroValue78
  t26 := Tryz.underlying9
  a26 := Tryz.isAgg9
  z26 := Tryz.sizeOf9
  v26 := Tryz.zeroValue9
  t27 := Tryz.underlying100
  a27 := Tryz.isAgg100
  z27 := Tryz.sizeOf100
  v27 := Tryz.zeroValue100
  t28 := Tryz.underlying101
  a28 := Tryz.isAgg101
  z28 := Tryz.sizeOf101
  v28 := Tryz.zeroValue101
  t33 := Tryz.underlying121
  a33 := Tryz.isAgg121
  z33 := Tryz.sizeOf121
  v33 := Tryz.zeroValue121 }
end Go.Proofs

namespace Go.Proofs.YtfneahdnpmamkaaGreat
open Go.RowKit Go.Maps Go.Sort Go.Shelf
open Go.WideElems (Fit rd rg rd_mk rg_of)
open Go.WideMaps (keyOf_string_mk)
set_option linter.unusedVariables false
set_option maxHeartbeats 1000000
set_option maxRecDepth 100000

theorem Yx (m : Nat) : AnyZ.SortsIn Tryz.prog Tryz.sorted74_ren Fence.wide m :=
  ⟨fun blk off cap ss W hH hblk hsz => callsIn_wide.2 (AnyM.slices_Sort_string Tryz.sort100 blk off cap ss W hH hblk hsz),
   fun p cap W => callsIn_wide.2 (AnyM.slices_Sort_string_none Tryz.sort100 p cap W)⟩

def anyR (v : Value) : Option (DataW Unit × List MemPlace) := some (.nil, [])
theorem Wh {w : World} {b : Nat} {ps : List (ByteArray × Value)} (h : MapV w b ps) (hl : ps.length ≤ maxLen) : ∃ D0 : DataW Unit, w.ownsMap Tryz.prog 9 anyR b ps.length D0 ∧ (strKeys D0).Perm (ps.map (fun p => p.1.data.toList)) ∧ Maps.size D0 = ps.length := by
  obtain ⟨es, clock, hb, hS, hK, rfl⟩ := h
  have hrd : ∀ x ∈ es.toList, rd Tryz.prog 9 anyR x = some (.string (toPV x).1.data.toList, .nil) := by
    intro x hx
    obtain ⟨s, h1, h2⟩ := hK x hx
    have hk := keyOf_string_mk (P := Tryz.prog) Tryz.underlying9 h2
    obtain ⟨key, val, born⟩ := x
    simp only at h1
    subst h1
    exact rd_mk (R := anyR) (yv := (.nil, [])) hk rfl
  have hrg : es.toList.map (rg Tryz.prog 9 anyR) = es.toList.map (fun x => (Lit.string (toPV x).1.data.toList, DataW.nil)) := List.map_congr_left (fun x hx => by rw [rg_of (hrd x hx)])
  refine ⟨_, ⟨es, clock, hb, ⟨by simpa using hl, hS, fun x hx => ⟨_, hrd x hx⟩⟩, by simp, rfl⟩, ?_, ?_⟩
  · rw [hrg]
    simp only [strKeys]
    have hp := WideShapes.sorted_perm (es.toList.map (fun x => (Lit.string (toPV x).1.data.toList, (DataW.nil : DataW Unit))))
    have h2 := hp.map (fun p => strOf p.1)
    rw [List.map_map] at h2 ⊢
    exact h2
  · simp [Maps.size, length_sorted]

theorem Wj (mb : Option Nat) (W : World) : CallsIn Fence.wide 5 Tryz.prog 75 #[.map mb] W fun e w' => e = .returned (.func (.func 101) #[] #[.pointer (some ⟨W.heap.size, 0, none⟩)]) ∧ w' = W.alloc (.cells #[.map mb] 78) :=
  AnyZ.keys_in Tryz.keys75 Fence.wide 5 trivial rfl mb W

theorem Rm {w : World} {b : Nat} {ps : List (ByteArray × Value)} (h : MapV w b ps) (hl : ps.length ≤ 1000) :
    CallsIn Fence.wide 5 Tryz.prog 74 #[.func (.func 101) #[] #[.pointer (some ⟨w.heap.size, 0, none⟩)]] (w.alloc (.cells #[.map (some b)] 78)) fun e w' => ∃ v, e = .returned v ∧
      w'.ownsRow (w.heap.size + 1) 9 1 v ps.length ((Dv ps).map encStr) ∧ Below w.heap.size w w' := by
  obtain ⟨D0, hown, hperm, hsize⟩ := Wh h (by unfold maxLen; omega)
  have hbl := hown.lt
  have hseq : SeqGives Fence.wide 2 Tryz.prog 101 #[.pointer (some ⟨w.heap.size, 0, none⟩)] encStr (fun ss => ss.Perm (strKeys D0)) (Maps.size D0) (w.alloc (.cells #[.map (some b)] 78)) :=
    AnyZ.keys_gives (ρ := Tryz.keys75_ren) { Tryz.keys75 with } Fence.wide _ trivial rfl (by omega) w.heap.size b ps.length D0 _ (by simp) (by simp) (by
      obtain ⟨es, clock, hb, Ft, hs, hD⟩ := hown
      exact ⟨es, clock, (Below.heap_alloc _ _ b hbl).trans hb, Ft, hs, hD⟩)
  have hS := AnyZ.sorted_in Tryz.sorted74 Fence.wide 5 trivial trivial trivial trivial rfl (by omega) (Yx _) (enters_of Tryz.func100 (by kernel_rfl) rfl) 101 #[.pointer (some ⟨w.heap.size, 0, none⟩)] trivial (enters_of Tryz.func101 (by kernel_rfl) rfl) _ _ (by rw [hsize]; unfold maxLen; omega) (by rw [hsize]; omega) _ hseq
  refine hS.mono ?_
  rintro e w' ⟨v, ss, rfl, hp, hrow, _, hb⟩
  have e1 : ss.length = ps.length := by rw [hp.length_eq, hperm.length_eq, List.length_map]
  have e2 : ss.mergeSort (fun x y => decide (x ≤ y)) = Dv ps := mergeSort_of_perm (hp.trans hperm)
  rw [e1, e2] at hrow
  have zs : (w.alloc (.cells #[.map (some b)] 78)).heap.size = w.heap.size + 1 := World.size_alloc w _
  rw [zs] at hrow hb
  exact ⟨v, rfl, hrow, (UI (w := w) _).trans (hb.mono (by omega))⟩

theorem Qi (w : World) :
    CallsIn Fence.wide 5 Tryz.prog 74 #[.func (.func 101) #[] #[.pointer (some ⟨w.heap.size, 0, none⟩)]] (w.alloc (.cells #[.map none] 78)) fun e w' => ∃ v, e = .returned v ∧
      w'.ownsRow (w.heap.size + 1) 9 1 v 0 [] ∧ Below w.heap.size w w' := by
  have hseq : SeqGives Fence.wide 2 Tryz.prog 101 #[.pointer (some ⟨w.heap.size, 0, none⟩)] encStr (fun ss : List (List UInt8) => ss = []) 0 (w.alloc (.cells #[.map none] 78)) :=
    AnyZ.keys_gives_nil (ρ := Tryz.keys75_ren) { Tryz.keys75 with } Fence.wide _ trivial rfl w.heap.size _ (by simp) (by simp)
  have hS := AnyZ.sorted_in Tryz.sorted74 Fence.wide 5 trivial trivial trivial trivial rfl (by omega) (Yx _) (enters_of Tryz.func100 (by kernel_rfl) rfl) 101 #[.pointer (some ⟨w.heap.size, 0, none⟩)] trivial (enters_of Tryz.func101 (by kernel_rfl) rfl) _ 0 (Nat.zero_le _) (by omega) _ hseq
  refine hS.mono ?_
  rintro e w' ⟨v, ss, rfl, hp, hrow, _, hb⟩
  subst hp
  have zs : (w.alloc (.cells #[.map none] 78)).heap.size = w.heap.size + 1 := World.size_alloc w _
  rw [zs] at hrow hb
  have hr2 : w'.ownsRow (w.heap.size + 1) 9 1 v 0 ((([] : List (List UInt8)).mergeSort (fun x y => decide (x ≤ y))).map encStr) := hrow
  exact ⟨v, rfl, by simpa using hr2, (UI (w := w) _).trans (hb.mono (by omega))⟩
end Go.Proofs.YtfneahdnpmamkaaGreat

namespace Go.Proofs.YtfneahdnpmamkaaGreat
open Go.RowKit Go.Shelf
set_option linter.unusedVariables false
set_option maxHeartbeats 4000000
set_option maxRecDepth 100000

abbrev LabV (w : World) := { p : (Nat × Value) × List Int // Has w p.1.2 p.2 ∧ p.2.length ≤ 15 }
def encL {w : World} (x : LabV w) : Array Value := #[.int .i64 x.1.1.1, x.1.1.2]
def KpB (n0 Bt : Nat) (W W' : World) : Prop := Below n0 W W' ∧ ∀ c t, W.heap[Bt]? = some (Obj.cells c t) → W'.heap[Bt]? = some (Obj.cells c t)
theorem kpB_t {n0 Bt : Nat} {A B C : World} (h : KpB n0 Bt A B) (k : KpB n0 Bt B C) : KpB n0 Bt A C := ⟨h.1.trans k.1, fun c t q => k.2 c t (h.2 c t q)⟩
theorem kpB_b {n0 Bt : Nat} {w : World} (hn : n0 ≤ w.heap.size) (W : World) (l : Nat) (o o' : Obj) (hl : w.heap.size ≤ l) (h : W.heap[l]? = some o) (h1 : o.isCells = false) (h2 : o.isWalk = false) : KpB n0 Bt W (W.putObj l o') :=
 ⟨belowK_b hn W l o o' hl h h1 h2, fun c t q => D7 (grownBy_putObj' W l o') (fun r e => by cases e; exact ⟨_, h, h1⟩) _ _ _ q⟩

theorem Xp (n : Nat) (hn : 1 ≤ n) (l Bt n0 : Nat) (w0 : World) (a : Option Addr) (cap : Nat) (ns : List (List Int)) (hn0 : n0 = w0.heap.size) (hT : HasL w0 (.slice a ns.length cap) ns) (hl : ns.length ≤ 1048576) (hs : ∀ k, k < ns.length → (ns.getD k []).length ≤ 15)
  (J Jx : List (LabV w0) → World → Prop) (W : World) (hW : Below n0 w0 W) (hJ : AbidesFrom W.heap.size J)
  (hY : ∀ pre x W1, J pre W1 → pre.length < ns.length → YieldAt Fence.wide (n - 1) Tryz.prog l (encL x) W1 fun e W' => (e = .returned (.bool true) ∧ J (pre ++ [x]) W' ∧ KpB n0 Bt W1 W') ∨ (e = .returned (.bool false) ∧ Jx (pre ++ [x]) W'))
  (hBt : W.heap[Bt]? = some (.cells #[.slice a ns.length cap] 23)) (h0 : J [] W) :
  CallsIn Fence.wide n Tryz.prog 102 #[.func (.yield l) #[] #[], .pointer (some ⟨Bt, 0, none⟩)] W fun e W' => (∃ v, e = .returned v) ∧
   ((∃ xs, xs.map (·.1.2) = ns.reverse ∧ J xs W') ∨ (∃ pre, True ∧ Jx pre W')) := by
 subst hn0
 have HT := UC hT
 have HS := UC hs
 have HJ := UC hJ
 have HY := UC hY
 have B0 := UC hW
 have H0 := UC h0
 have KB := UC hBt
 have cB := US hBt
 clear hT hs hJ hY hW h0 hBt
 generalize hm : ns.length = m at *
 have HM := UC hm
 clear hm
 refine callsIn_of_wp Tryz.func102 rfl trivial ?_ rfl
 simp only [Tryz.ntmps102, List.size_toArray, List.length_cons, List.length_nil, Nat.reduceAdd, Nat.reduceSub, Array.replicate_succ, Array.replicate_zero, List.push_toArray, List.append_toArray, List.nil_append, List.cons_append]
 gi_wp2
 clear cB
 gi_loopw [3] (fun i wr => ∃ (k : Nat) (pre : List (LabV w0)), k ≤ m ∧ i = .int .i64 ((k : Int) - 1) ∧ pre.length + k = m ∧ pre.map (·.1.2) = (ns.drop k).reverse ∧ J pre wr ∧ Below w0.heap.size w0 wr ∧ wr.heap[Bt]? = some (.cells #[.slice a m cap] 23)) (fun i _ => (intOf i + 1).toNat)
 case atStart => exact ⟨m, [], Nat.le_refl _, by go_num, by simp, by rw [← UB HM]; simp, UB H0, UB B0, UB KB⟩
 case round =>
  obtain ⟨k, pre, hk, rfl, hpl, hp, hj, hbl, hkb⟩ := hrel
  have cB := US hkb
  cases k with
  | zero =>
   simp only [List.drop_zero] at hp
   gi_wp2
   go_end0
   exact ⟨⟨_, rfl⟩, .inl ⟨pre, hp, hj⟩⟩
  | succ k =>
   obtain ⟨b, off, u, rfl, hb1, hc, hH⟩ := (UB HT).here (k := k) (by rw [UB HM]; omega)
   have hsk := UB HS k (by omega)
   have hdk := UC (show (ns.drop k).reverse = (ns.drop (k + 1)).reverse ++ [ns.getD k []] by rw [List.drop_eq_getElem_cons (i := k) (by rw [UB HM]; omega)]; simp [show k < ns.length by rw [UB HM]; omega])
   have c0 : wr.cell? ⟨b, off + k, none⟩ = some u := (hbl.cell (p := ⟨b, off + k, none⟩) hb1).trans hc
   generalize ns.getD k [] = t at *
   obtain ⟨x, hx1, hx2⟩ : ∃ x : LabV w0, encL x = #[.int .i64 (k : Int), u] ∧ x.1.2 = t := ⟨⟨((k, u), t), hH, hsk⟩, rfl, rfl⟩
   obtain ⟨fn, tmps, assign, body, hy, hRd⟩ := UB HY pre x wr hj (by omega)
   rw [hx1] at hy
   have hkk : (((k + 1 : Nat) : Int) - 1) = (k : Int) := by omega
   rw [hkk]
   have HB := UC hbl
   clear hc hH hsk hbl
   gi_wp2
   refine hRd.mono ?_
   rintro e W3 (⟨rfl, hJ3, hk3⟩ | ⟨rfl, hJx3⟩)
   ·have hb3 := (UB HB).trans hk3.1
    have hkb3 := hk3.2 _ _ hkb
    clear hy hRd hk3 HB c0 cB hkb
    gi_wp2
    go_roundw
    case rel => exact ⟨k, pre ++ [x], by omega, by go_num, by simp; omega, by rw [UB hdk, ← hp]; simp [hx2], hJ3, hb3, hkb3⟩
    case measure => simp [intOf]
   ·clear hy hRd HB c0 cB hkb
    gi_wp2
    refine bodyPost_ret (results_none rfl _ _ _) rfl ?_
    exact ⟨⟨_, rfl⟩, .inr ⟨pre ++ [x], trivial, hJx3⟩⟩
theorem Ty (Bt : Nat) (w0 w : World) (a : Option Addr) (cap : Nat) (ns : List (List Int)) (hT : HasL w0 (.slice a ns.length cap) ns) (hl : ns.length ≤ 1048576) (hs : ∀ k, k < ns.length → (ns.getD k []).length ≤ 15) (hb : Below w0.heap.size w0 w) (hBt : w.heap[Bt]? = some (.cells #[.slice a ns.length cap] 23)) :
  SeqStopsK Fence.wide 4 Tryz.prog 102 #[.pointer (some ⟨Bt, 0, none⟩)] (fun x : LabV w0 => encL x) (KpB w0.heap.size Bt) (fun xs => xs.map (·.1.2) = ns.reverse) (fun _ => True) ns.length w :=
 fun l J Jx W hW hJ hJx hY h0 => Xp 4 (by omega) l Bt _ w0 a cap ns rfl hT hl hs J Jx W (hb.trans (hW.mono hb.size)) hJ hY (UE hW hBt) h0
theorem Zh (a : Option Addr) (len cap : Nat) (w : World) : Calls Tryz.prog 76 #[.slice a len cap] w fun e w' => e = .returned (.func (.func 102) #[] #[.pointer (some ⟨w.heap.size, 0, none⟩)]) ∧ w' = w.alloc (.cells #[.slice a len cap] 23) := by
 go_enter Tryz.func76, Tryz.ntmps76
 go_wp2
 go_ret
 exact ⟨rfl, rfl⟩
end Go.Proofs.YtfneahdnpmamkaaGreat

namespace Go.Proofs.YtfneahdnpmamkaaGreat
open Go.RowKit Go.Shelf
set_option linter.unusedVariables false
set_option maxHeartbeats 4000000
set_option maxRecDepth 100000

def KpS (n0 Bt : Nat) (W W' : World) : Prop := KpB n0 Bt W W' ∧ ∀ (g : Nat) c, W.heap[g]? = some (Obj.cells c 9) → W'.heap[g]? = some (Obj.cells c 9)
theorem kpS_t {n0 Bt : Nat} {A B C : World} (h : KpS n0 Bt A B) (k : KpS n0 Bt B C) : KpS n0 Bt A C := ⟨kpB_t h.1 k.1, fun g c q => k.2 g c (h.2 g c q)⟩
theorem kpS_b {n0 Bt : Nat} {w : World} (hn : n0 ≤ w.heap.size) (W : World) (l : Nat) (o o' : Obj) (hl : w.heap.size ≤ l) (h : W.heap[l]? = some o) (h1 : o.isCells = false) (h2 : o.isWalk = false) : KpS n0 Bt W (W.putObj l o') :=
 ⟨kpB_b hn W l o o' hl h h1 h2, fun g c q => D7 (grownBy_putObj' W l o') (fun r e => by cases e; exact ⟨_, h, h1⟩) _ _ _ q⟩
theorem Wx {W W' : World} {B n s : Nat} {v : Value} {xs : List Value} (h : W.ownsRow B 9 s v n xs) (hk : ∀ (g : Nat) c, W.heap[g]? = some (Obj.cells c 9) → W'.heap[g]? = some (Obj.cells c 9)) : W'.ownsRow B 9 s v n xs := by
 obtain ⟨h1, h2⟩ := h
 rcases h2 with h2 | ⟨g, cap, c, h3, h4, h5, h6⟩
 ·exact ⟨h1, .inl h2⟩
 ·exact ⟨h1, .inr ⟨g, cap, c, h3, h4, hk _ _ h5, h6⟩⟩
theorem V9 {W : World} {B n s : Nat} {e : TypeId} {v : Value} {xs : List Value} (h : W.ownsRow B e s v n xs) : ∃ (a : Option Addr) (c : Nat), v = .slice a n c := by
 obtain ⟨_, h2⟩ := h
 rcases h2 with ⟨rfl, rfl⟩ | ⟨g, cap, c, rfl, _⟩
 ·exact ⟨none, 0, rfl⟩
 ·exact ⟨_, cap, rfl⟩
theorem Yg (w : World) : (zeroValue 39).run Tryz.prog w = .ok (.agg #[.slice none 0 0, .int .i64 0, .int .i64 0, .int .i64 0, .slice none 0 0, .slice none 0 0, .slice none 0 0]) w := by
 have h : (Tryz.prog.info? 39).map (fun i => i.zero) = some (some (.agg #[.slice none 0 0, .int .i64 0, .int .i64 0, .int .i64 0, .slice none 0 0, .slice none 0 0, .slice none 0 0])) := by kernel_rfl
 obtain ⟨i, h1, h2⟩ := Option.map_eq_some_iff.1 h
 simp [zeroValue, typeInfo, h1, h2, go_sem]
theorem Qz {w : World} {mb : Option Nat} {P : Pg} (h : Hf w mb P) (hl : P.length ≤ 1000) :
  CallsIn Fence.wide 5 Tryz.prog 74 #[.func (.func 101) #[] #[.pointer (some ⟨w.heap.size, 0, none⟩)]] (w.alloc (.cells #[.map mb] 78)) fun e w' => ∃ v, e = .returned v ∧
   w'.ownsRow (w.heap.size + 1) 9 1 v (Dv P).length ((Dv P).map encStr) ∧ Below w.heap.size w w' := by
 rcases h with ⟨rfl, rfl⟩ | ⟨p, rfl, ps, hM, hT⟩
 ·refine (Qi w).mono ?_
  rintro e w' ⟨v, he, hr, hb⟩
  exact ⟨v, he, by simpa [Dv] using hr, hb⟩
 ·have e1 := O8 hT
  have e2 : ps.length = P.length := by rw [← Ea ps, e1, Ea]
  refine (Rm hM (by omega)).mono ?_
  rintro e w' ⟨v, he, hr, hb⟩
  rw [e1, e2, ← Ea P] at hr
  exact ⟨v, he, hr, hb⟩
theorem at_key {w : World} {mb : Option Nat} {P : Pg} (h : Hf w mb P) {k : List UInt8} (hk : k ∈ Dv P) : ∃ p ps vn vt vx vi u, mb = some p ∧ MapV w p ps ∧ Aw ⟨k.toArray⟩ ps = some (.agg #[vn, .int .i64 u.type, .int .i64 u.ttl, .int .i64 u.addr, vt, vx, vi]) ∧ Aw ⟨k.toArray⟩ P = some u ∧ HasR w vn vt vx vi u := by
 rcases h with ⟨rfl, rfl⟩ | ⟨p, rfl, ps, hM, hT⟩
 ·simp [Dv] at hk
 ·rw [← O8 hT] at hk
  obtain ⟨v, hv⟩ := Wv hk
  obtain ⟨u, h1, vn, vt, vx, vi, rfl, h2⟩ := Zx hT hM.apart hv
  exact ⟨p, ps, vn, vt, vx, vi, u, rfl, hM, Ix hM.apart hv, h1, h2⟩
theorem Xm {w : World} {p : Nat} {ps : List (ByteArray × Value)} (h : MapV w p ps) {k : ByteArray} {v : Value} (hk : Aw k ps = some v) : k.size ≤ maxLen := by
 obtain ⟨es, clock, _, _, hK, rfl⟩ := h
 obtain ⟨x, hx, he⟩ := List.mem_map.1 (Is hk)
 obtain ⟨s, h1, h2⟩ := hK x hx
 simp only [toPV, h1, keyE, Prod.mk.injEq] at he
 rw [← he.1]
 exact h2

theorem Zs (l Bt n0 : Nat) (w0 : World) (mb : Option Nat) (P : Pg) (hn0 : n0 = w0.heap.size) (hP : Hf w0 mb P) (hl : P.length ≤ 1000) (hsh : ∀ x ∈ P, Em x.2)
  (J Jx : List (RecV w0) → World → Prop) (W : World) (hW : Below n0 w0 W) (hJ : AbidesFrom W.heap.size J)
  (hY : ∀ pre x W1, J pre W1 → pre.length < (Dv P).length → YieldAt Fence.wide 5 Tryz.prog l (encV x) W1 fun e W' => (e = .returned (.bool true) ∧ J (pre ++ [x]) W' ∧ KpS n0 Bt W1 W') ∨ (e = .returned (.bool false) ∧ Jx (pre ++ [x]) W'))
  (hBt : W.heap[Bt]? = some (.cells #[.map mb] 78)) (h0 : J [] W) :
  CallsIn Fence.wide 6 Tryz.prog 73 #[.func (.yield l) #[] #[], .pointer (some ⟨Bt, 0, none⟩)] W fun e W' => (∃ v, e = .returned v) ∧
   ((∃ xs, xs.map (·.1.2) = Nw P ∧ J xs W') ∨ (∃ pre, True ∧ Jx pre W')) := by
 subst hn0
 have hPW : Hf W mb P := by
  rcases hP with hP | ⟨p, h1, h2⟩
  ·exact .inl hP
  ·exact .inr ⟨p, h1, h2.kept (hW.block p h2.lt) (Da (hW.mono (Nat.le_refl _)))⟩
 have HSO := UC (Qz hPW hl)
 have HP := UC hP
 have HS := UC hsh
 have HJ := UC hJ
 have HY := UC hY
 have B0 := UC hW
 have H0 := UC h0
 have KB := UC hBt
 have cB := US hBt
 have zB := VC hBt
 clear hP hPW hsh hJ hY hW h0 hBt
 refine callsIn_of_wp Tryz.func73 rfl trivial ?_ rfl
 simp only [Tryz.ntmps73, List.size_toArray, List.length_cons, List.length_nil, Nat.reduceAdd, Nat.reduceSub, Array.replicate_succ, Array.replicate_zero, List.push_toArray, List.append_toArray, List.nil_append, List.cons_append]
 gi_wp2_with (first
  | (refine ⟨trivial, ?_⟩; gi_at_call 75; refine (Wj _ _).mono ?_; rintro e w' ⟨rfl, rfl⟩)
  | (refine ⟨trivial, ?_⟩; gi_at_call 74; refine (UB HSO).mono ?_; rintro e w2 ⟨v2, rfl, hrow, b2⟩; have hrow' := hrow; obtain ⟨g2, c2, rfl⟩ := V9 hrow'))
 clear cB HSO hrow'
 have hj2 : J [] w2 := UB HJ [] W w2 none (UB H0) ⟨b2.os, b2.tape, b2.output, b2.size, fun k hk _ => b2.block k hk⟩ (fun r e => by cases e)
 have kb2 := UE b2 (UB KB)
 have bb2 := (UB B0).trans (b2.mono (UB B0).size)
 have ROW := UC hrow
 have hkl : (Dv P).length ≤ 1000 := by rw [Ea]; exact hl
 generalize hks : Dv P = ks at *
 have HKS := UC hks
 clear hrow hks H0 KB
 generalize hm : ks.length = m at *
 have HM := UC hm
 clear hm
 gi_loopw [9] (fun i wr => ∃ (k : Nat) (pre : List (RecV w0)), k ≤ m ∧ i = .int .i64 k ∧ pre.length = k ∧ pre.map (·.1.2) = (ks.take k).map (P0 P) ∧ J pre wr ∧ Below w0.heap.size w0 wr ∧ wr.heap[Bt]? = some (.cells #[.map mb] 78) ∧ wr.ownsRow (W.heap.size + 1) 9 1 (.slice g2 m c2) m (ks.map encStr)) (fun i _ => m - (intOf i).toNat)
 case atStart => exact ⟨0, [], Nat.zero_le _, rfl, rfl, by simp, hj2, bb2, kb2, UB ROW⟩
 case round =>
  obtain ⟨k, pre, hk, rfl, hpl, hp, hj, hbl, hkb, hrw⟩ := hrel
  by_cases hlt : k < m
  ·have hkk : k < ks.length := by rw [UB HM]; exact hlt
   obtain ⟨p, ps, vn, vt, vx, vi, u, rfl, hMp, hlk, hlu, hR⟩ := at_key (k := ks[k]) (UB HP) (by rw [UB HKS]; exact List.getElem_mem hkk)
   have hs := UB HS _ (Is hlu)
   simp only at hs
   obtain ⟨na, nc, rfl, _⟩ := hR.name.form
   obtain ⟨ta, tc, rfl, _⟩ := hR.to.form
   obtain ⟨xa, xc, rfl, _⟩ := hR.text.form
   obtain ⟨ia, ic, rfl, _⟩ := hR.nums.form
   have htk := UC (show (ks.take (k + 1)).map (P0 P) = (ks.take k).map (P0 P) ++ [u] by rw [List.take_succ_eq_append_getElem hkk, List.map_append, List.map_cons, List.map_nil]; simp only [P0, hlu, Option.getD_some])
   have hlook := Kf (t := 78) Tryz.underlying78 Tryz.underlying9 (Yg wr) (hMp.kept (hbl.block p hMp.lt)) ⟨ks[k].toArray⟩ (Xm hMp hlk)
   rw [hlk] at hlook
   simp only [Option.getD_some] at hlook
   have hgs : ∃ gg, g2 = some ⟨gg, 0, none⟩ := by
    rcases hrw.2 with ⟨h1, h2⟩ | ⟨gg, cap, cc, h1, _⟩
    ·omega
    ·simp only [Value.slice.injEq] at h1
     exact ⟨gg, h1.1⟩
   obtain ⟨gg, rfl⟩ := hgs
   have ck := World.ownsRow.cellAt hrw k (by omega)
   rw [List.getElem?_map, List.getElem?_eq_getElem hkk] at ck
   simp only [Option.map_some] at ck
   have cB := US hkb
   obtain ⟨x, hx1, hx2⟩ : ∃ x : RecV w0, encV x = #[.agg #[.slice na u.name.length nc, .int .i64 u.type, .int .i64 u.ttl, .int .i64 u.addr, .slice ta u.to.length tc, .slice xa u.text.length xc, .slice ia u.nums.length ic]] ∧ x.1.2 = u := ⟨⟨((.slice na u.name.length nc, .slice ta u.to.length tc, .slice xa u.text.length xc, .slice ia u.nums.length ic), u), hR, hs⟩, rfl, rfl⟩
   obtain ⟨fn, tmps, assign, body, hy, hRd⟩ := UB HY pre x wr hj (by omega)
   rw [hx1] at hy
   have HB := UC hbl
   have HRW := UC hrw
   have KBB := UC hkb
   generalize ks[k] = kk at *
   clear hR hs hbl hrw hkb hMp hlk hlu hj
   gi_wp2
   refine hRd.mono ?_
   rintro e W3 (⟨rfl, hJ3, hk3⟩ | ⟨rfl, hJx3⟩)
   ·have hb3 := (UB HB).trans hk3.1.1
    have hkb3 := hk3.1.2 _ _ (UB KBB)
    have hrw3 := Wx (UB HRW) hk3.2
    clear hy hRd hk3 HB ck cB hlook KBB HRW
    gi_wp2
    go_roundw
    case rel => exact ⟨k + 1, pre ++ [x], by omega, by go_num, by simp [hpl], by rw [UB htk, ← hp]; simp [hx2], hJ3, hb3, hkb3, hrw3⟩
    case measure => simp [intOf]; omega
   ·clear hy hRd HB ck cB hlook KBB HRW
    gi_wp2
    refine bodyPost_ret (results_none rfl _ _ _) rfl ?_
    exact ⟨⟨_, rfl⟩, .inr ⟨pre ++ [x], trivial, hJx3⟩⟩
  ·obtain rfl : k = m := by omega
   have hall : ks.take k = ks := List.take_of_length_le (by rw [UB HM]; exact Nat.le_refl _)
   rw [hall] at hp
   clear hall
   gi_wp2
   go_end0
   exact ⟨⟨_, rfl⟩, .inl ⟨pre, by rw [hp]; unfold Nw; rw [UB HKS], hj⟩⟩
theorem Xb (Bt : Nat) (w0 w : World) (mb : Option Nat) (P : Pg) (hP : Hf w0 mb P) (hl : P.length ≤ 1000) (hsh : ∀ x ∈ P, Em x.2) (hb : Below w0.heap.size w0 w) (hBt : w.heap[Bt]? = some (.cells #[.map mb] 78)) :
  SeqStopsK Fence.wide 6 Tryz.prog 73 #[.pointer (some ⟨Bt, 0, none⟩)] (fun x : RecV w0 => encV x) (KpS w0.heap.size Bt) (fun xs => xs.map (·.1.2) = Nw P) (fun _ => True) (Dv P).length w :=
 fun l J Jx W hW hJ hJx hY h0 => Zs l Bt _ w0 mb P rfl hP hl hsh J Jx W (hb.trans (hW.mono hb.size)) hJ hY (UE hW hBt) h0
theorem Z3 (mb : Option Nat) (w : World) : Calls Tryz.prog 44 #[.map mb] w fun e w' => e = .returned (.func (.func 73) #[] #[.pointer (some ⟨w.heap.size, 0, none⟩)]) ∧ w' = w.alloc (.cells #[.map mb] 78) := by
 go_enter Tryz.func44, Tryz.ntmps44
 go_wp2
 go_ret
 exact ⟨rfl, rfl⟩
end Go.Proofs.YtfneahdnpmamkaaGreat
