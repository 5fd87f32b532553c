/-
  The library functions that gather and sort the keys of maps, by the contracts that lie compiled in the library, laid at this program by the shelf's own command in plain words. Plain facts: maps whose keys are texts, whatever their elements, and ranges over them. No program is named here. Steps of a region that draws its order: an append to a row of the call's own. No program is named here.
-/
import Derived.Shelf.SlIter.Nil
import Derived.Shelf.SortM.Plain
import Derived.Shelf.SortM.SortNone
import Derived.Ground.GgzProg
import Derived.Ground.SlgmProg
import Derived.Test.YtmnlhjdjjinbiaaGreatProg
import Derived.Test.YtmnlhjdjjinbiaaGreatOwnerG00
import Derived.Maps.RangeWalk
import Derived.RangeFuncNested
import Derived.Deep.RegionLaw
namespace Go.Proofs
open Go.Shelf
def Tryz.sort131_ren : Go.Shelf.Ren := ⟨fun | 6 => 131 | 8 => 139 | 9 => 138 | 19 => 149 | 20 => 150 | 21 => 140 | 22 => 141 | 23 => 142 | 24 => 143 | 25 => 144 | 26 => 145 | 27 => 146 | 28 => 147 | 29 => 148 | 36 => 151 | 31 => 152 | 32 => 153 | 37 => 154 | 38 => 155 | 39 => 156 | 41 => 157 | n => n, fun | 27 => 138 | 29 => 9 | 3 => 3 | 32 => 154 | 26 => 138 | 0 => 0 | 44 => 168 | 46 => 170 | 4 => 4 | 36 => 160 | 35 => 159 | 41 => 165 | 5 => 5 | 9 => 9 | 53 => 171 | 57 => 175 | 63 => 177 | 64 => 178 | n => n, fun | n => n⟩
theorem Tryz.sort131 : Go.Proofs.SlLaysM.n6 Tryz.prog Tryz.sort131_ren := {
  mixed := by kernel_rfl
  f6 := ⟨Tryz.f131.name, by decide, Tryz.func131.trans (congrArg some (by kernel_rfl))⟩
  f8 := Tryz.func139.trans (congrArg some (by kernel_rfl))
  f9 := ⟨Tryz.f138.name, by decide, Tryz.func138.trans (congrArg some (by kernel_rfl))⟩
  f19 := Tryz.func149.trans (congrArg some (by kernel_rfl))
  f20 := Tryz.func150.trans (congrArg some (by kernel_rfl))
  f21 := ⟨Tryz.f140.name, by decide, Tryz.func140.trans (congrArg some (by kernel_rfl))⟩
  f22 := ⟨Tryz.f141.name, by decide, Tryz.func141.trans (congrArg some (by kernel_rfl))⟩
  f23 := ⟨Tryz.f142.name, by decide, Tryz.func142.trans (congrArg some (by kernel_rfl))⟩
  f24 := ⟨Tryz.f143.name, by decide, Tryz.func143.trans (congrArg some (by kernel_rfl))⟩
  f25 := ⟨Tryz.f144.name, by decide, Tryz.func144.trans (congrArg some (by kernel_rfl))⟩
  f26 := ⟨Tryz.f145.name, by decide, Tryz.func145.trans (congrArg some (by kernel_rfl))⟩
  f27 := ⟨Tryz.f146.name, by decide, Tryz.func146.trans (congrArg some (by kernel_rfl))⟩
  f28 := ⟨Tryz.f147.name, by decide, Tryz.func147.trans (congrArg some (by kernel_rfl))⟩
  f29 := ⟨Tryz.f148.name, by decide, Tryz.func148.trans (congrArg some (by kernel_rfl))⟩
  f31 := Tryz.func152.trans (congrArg some (by kernel_rfl))
  f32 := Tryz.func153.trans (congrArg some (by kernel_rfl))
  f36 := ⟨Tryz.f151.name, by decide, Tryz.func151.trans (congrArg some (by kernel_rfl))⟩
  f37 := ⟨Tryz.f154.name, by decide, Tryz.func154.trans (congrArg some (by kernel_rfl))⟩
  f38 := ⟨Tryz.f155.name, by decide, Tryz.func155.trans (congrArg some (by kernel_rfl))⟩
  f39 := ⟨Tryz.f156.name, by decide, Tryz.func156.trans (congrArg some (by kernel_rfl))⟩
  f41 := ⟨Tryz.f157.name, by decide, Tryz.func157.trans (congrArg some (by kernel_rfl))⟩
  t0 := Tryz.underlying0
  a0 := Tryz.isAgg0
  z0 := Tryz.sizeOf0
  v0 := Tryz.zeroValue0
  t3 := Tryz.underlying3
  a3 := Tryz.isAgg3
  z3 := Tryz.sizeOf3
  v3 := Tryz.zeroValue3
  t4 := Tryz.underlying4
  a4 := Tryz.isAgg4
  z4 := Tryz.sizeOf4
  v4 := Tryz.zeroValue4
  t5 := Tryz.underlying5
  a5 := Tryz.isAgg5
  z5 := Tryz.sizeOf5
  v5 := Tryz.zeroValue5
  t9 := Tryz.underlying9
  a9 := Tryz.isAgg9
  z9 := Tryz.sizeOf9
  v9 := Tryz.zeroValue9
  t26 := Tryz.underlying138
  a26 := Tryz.isAgg138
  z26 := Tryz.sizeOf138
  v26 := Tryz.zeroValue138
  t27 := Tryz.underlying138
  a27 := Tryz.isAgg138
  z27 := Tryz.sizeOf138
  v27 := Tryz.zeroValue138
  t29 := Tryz.underlying9
  a29 := Tryz.isAgg9
  z29 := Tryz.sizeOf9
  v29 := Tryz.zeroValue9
  t32 := Tryz.underlying154
  a32 := Tryz.isAgg154
  z32 := Tryz.sizeOf154
  v32 := Tryz.zeroValue154
  t35 := Tryz.underlying159
  a35 := Tryz.isAgg159
  z35 := Tryz.sizeOf159
  v35 := Tryz.zeroValue159
  t36 := Tryz.underlying160
  a36 := Tryz.isAgg160
  z36 := Tryz.sizeOf160
  v36 := Tryz.zeroValue160
  t41 := Tryz.underlying165
  a41 := Tryz.isAgg165
  z41 := Tryz.sizeOf165
  v41 := Tryz.zeroValue165
  t44 := Tryz.underlying168
  a44 := Tryz.isAgg168
  z44 := Tryz.sizeOf168
  v44 := Tryz.zeroValue168
  t46 := Tryz.underlying170
  a46 := Tryz.isAgg170
  z46 := Tryz.sizeOf170
  v46 := Tryz.zeroValue170
  t53 := Tryz.underlying171
  a53 := Tryz.isAgg171
  z53 := Tryz.sizeOf171
  v53 := Tryz.zeroValue171
  t57 := Tryz.underlying175
  a57 := Tryz.isAgg175
  z57 := Tryz.sizeOf175
  v57 := Tryz.zeroValue175
  t63 := Tryz.underlying177
  a63 := Tryz.isAgg177
  z63 := Tryz.sizeOf177
  v63 := Tryz.zeroValue177
  t64 := Tryz.underlying178
  a64 := Tryz.isAgg178
  z64 := Tryz.sizeOf178
  v64 := Tryz.zeroValue178 }
def Tryz.sorted118_ren : Go.Shelf.Ren := ⟨fun | 6 => 118 | 8 => 130 | 9 => 131 | 11 => 137 | 13 => 139 | 12 => 138 | 23 => 149 | 24 => 150 | 14 => 140 | 15 => 141 | 16 => 142 | 17 => 143 | 18 => 144 | 19 => 145 | 20 => 146 | 21 => 147 | 22 => 148 | 25 => 151 | 26 => 152 | 27 => 153 | 28 => 154 | 29 => 155 | 30 => 156 | 31 => 157 | n => n, fun | 26 => 9 | 28 => 141 | 24 => 138 | 0 => 0 | 3 => 3 | 37 => 154 | 48 => 168 | 50 => 170 | 4 => 4 | 40 => 160 | 39 => 159 | 45 => 165 | 5 => 5 | 9 => 9 | 51 => 171 | 55 => 175 | 57 => 177 | 58 => 178 | 33 => 152 | n => n, fun | n => n⟩
theorem Tryz.sorted118 : Go.Proofs.SlLaysZ.n6 Tryz.prog Tryz.sorted118_ren := {
  mixed := by kernel_rfl
  f6 := ⟨Tryz.f118.name, by decide, Tryz.func118.trans (congrArg some (by kernel_rfl))⟩
  f8 := ⟨Tryz.f130.name, by decide, Tryz.func130.trans (congrArg some (by kernel_rfl))⟩
  f11 := ⟨Tryz.f137.name, by decide, Tryz.func137.trans (congrArg some (by kernel_rfl))⟩
  t0 := Tryz.underlying0
  a0 := Tryz.isAgg0
  z0 := Tryz.sizeOf0
  v0 := Tryz.zeroValue0
  t24 := Tryz.underlying138
  a24 := Tryz.isAgg138
  z24 := Tryz.sizeOf138
  v24 := Tryz.zeroValue138
  t26 := Tryz.underlying9
  a26 := Tryz.isAgg9
  z26 := Tryz.sizeOf9
  v26 := Tryz.zeroValue9
  t28 := Tryz.underlying141
  a28 := Tryz.isAgg141
  z28 := Tryz.sizeOf141
  v28 := Tryz.zeroValue141
  i26 := by kernel_rfl }
def Tryz.keys119_ren : Go.Shelf.Ren := ⟨fun | 7 => 119 | 10 => 132 | n => n, fun | 23 => 74 | 26 => 9 | 3 => 109 | 28 => 141 | 0 => 0 | 27 => 140 | 33 => 152 | 4 => 4 | n => n, fun | n => n⟩
theorem Tryz.keys119 : Go.Proofs.SlLaysZ.n7 Tryz.prog Tryz.keys119_ren := {
  mixed := by kernel_rfl
  f7 := ⟨Tryz.f119.name, by decide, Tryz.func119.trans (congrArg some (by kernel_rfl))⟩
  f10 := ⟨Tryz.f132.name, by decide, Tryz.func132.trans (congrArg some (by kernel_rfl))⟩
  t0 := Tryz.underlying0
  a0 := Tryz.isAgg0
  z0 := Tryz.sizeOf0
  v0 := Tryz.zeroValue0
  t4 := Tryz.underlying4
  a4 := Tryz.isAgg4
  z4 := Tryz.sizeOf4
  v4 := Tryz.zeroValue4
  t23 := Tryz.underlying74
  a23 := Tryz.isAgg74
  z23 := Tryz.sizeOf74
  v23 := Tryz.zeroValue74
  t26 := Tryz.underlying9
  a26 := Tryz.isAgg9
  z26 := Tryz.sizeOf9
  v26 := Tryz.zeroValue9
  t27 := Tryz.underlying140
  a27 := Tryz.isAgg140
  z27 := Tryz.sizeOf140
  v27 := Tryz.zeroValue140
  t28 := Tryz.underlying141
  a28 := Tryz.isAgg141
  z28 := Tryz.sizeOf141
  v28 := Tryz.zeroValue141
  t33 := Tryz.underlying152
  a33 := Tryz.isAgg152
  z33 := Tryz.sizeOf152
  v33 := Tryz.zeroValue152 }
def Tryz.keys121_ren : Go.Shelf.Ren := ⟨fun | 7 => 121 | 10 => 133 | n => n, fun | 23 => 108 | 26 => 9 | 3 => 42 | 28 => 141 | 0 => 0 | 27 => 140 | 33 => 152 | 4 => 4 | n => n, fun | n => n⟩
theorem Tryz.keys121 : Go.Proofs.SlLaysZ.n7 Tryz.prog Tryz.keys121_ren := {
  mixed := by kernel_rfl
  f7 := ⟨Tryz.f121.name, by decide, Tryz.func121.trans (congrArg some (by kernel_rfl))⟩
  f10 := ⟨Tryz.f133.name, by decide, Tryz.func133.trans (congrArg some (by kernel_rfl))⟩
  t0 := Tryz.underlying0
  a0 := Tryz.isAgg0
  z0 := Tryz.sizeOf0
  v0 := Tryz.zeroValue0
  t4 := Tryz.underlying4
  a4 := Tryz.isAgg4
  z4 := Tryz.sizeOf4
  v4 := Tryz.zeroValue4
  t23 := Tryz.underlying108
  a23 := Tryz.isAgg108
  z23 := Tryz.sizeOf108
  v23 := Tryz.zeroValue108
  t26 := Tryz.underlying9
  a26 := Tryz.isAgg9
  z26 := Tryz.sizeOf9
  v26 := Tryz.zeroValue9
  t27 := Tryz.underlying140
  a27 := Tryz.isAgg140
  z27 := Tryz.sizeOf140
  v27 := Tryz.zeroValue140
  t28 := Tryz.underlying141
  a28 := Tryz.isAgg141
  z28 := Tryz.sizeOf141
  v28 := Tryz.zeroValue141
  t33 := Tryz.underlying152
  a33 := Tryz.isAgg152
  z33 := Tryz.sizeOf152
  v33 := Tryz.zeroValue152 }
end Go.Proofs

namespace Go.Proofs.YtmnlhjdjjinbiaaGreat
open Go.RowKit
open Go.ChangeMaps (setBlock heap_setBlock_same heap_setBlock_other modify_eq_set)
open Go.MapKept (stamped_iff stamped_empty stamped_push stamped_modify Stamped)
open Go.Maps (Keyed string_keyed)
open Go.WideMaps (keyOf_string_mk)
set_option linter.unusedVariables false

section lists
variable {α β : Type} [DecidableEq α]
/-- What stands at a key. -/
def lookA (k : α) : List (α × β) → Option β
  | [] => none
  | (a, v) :: t => if a = k then some v else lookA k t
/-- One more, or another at its key. -/
def putA (k : α) (v : β) : List (α × β) → List (α × β)
  | [] => [(k, v)]
  | (a, u) :: t => if a = k then (k, v) :: t else (a, u) :: putA k v t
theorem lookA_none {k : α} : ∀ {ps : List (α × β)}, (∀ p ∈ ps, p.1 ≠ k) → lookA k ps = none
  | [], _ => rfl
  | (a, v) :: t, h => by
    rw [lookA, if_neg (h (a, v) (List.mem_cons_self ..))]
    exact lookA_none (fun p hp => h p (List.mem_cons_of_mem _ hp))
theorem putA_none {k : α} {v : β} : ∀ {ps : List (α × β)}, (∀ p ∈ ps, p.1 ≠ k) → putA k v ps = ps ++ [(k, v)]
  | [], _ => rfl
  | (a, u) :: t, h => by
    rw [putA, if_neg (h (a, u) (List.mem_cons_self ..)), putA_none (fun p hp => h p (List.mem_cons_of_mem _ hp))]
    rfl
theorem lookA_at {k : α} {v : β} : ∀ {ps : List (α × β)} {j : Nat}, ps.Pairwise (fun p q => p.1 ≠ q.1) → ps[j]? = some (k, v) → lookA k ps = some v
  | [], j, _, h => by simp at h
  | (a, u) :: t, 0, hd, h => by
    simp only [List.getElem?_cons_zero, Option.some.injEq, Prod.mk.injEq] at h
    rw [lookA, if_pos h.1, h.2]
  | (a, u) :: t, j + 1, hd, h => by
    simp only [List.getElem?_cons_succ] at h
    obtain ⟨h1, h2⟩ := List.pairwise_cons.1 hd
    rw [lookA, if_neg (h1 _ (List.mem_of_getElem? h)), lookA_at h2 h]
theorem putA_at {k : α} {v v' : β} : ∀ {ps : List (α × β)} {j : Nat}, ps.Pairwise (fun p q => p.1 ≠ q.1) → ps[j]? = some (k, v) → putA k v' ps = ps.set j (k, v')
  | [], j, _, h => by simp at h
  | (a, u) :: t, 0, hd, h => by
    simp only [List.getElem?_cons_zero, Option.some.injEq, Prod.mk.injEq] at h
    rw [putA, if_pos h.1]
    rfl
  | (a, u) :: t, j + 1, hd, h => by
    simp only [List.getElem?_cons_succ] at h
    obtain ⟨h1, h2⟩ := List.pairwise_cons.1 hd
    rw [putA, if_neg (h1 _ (List.mem_of_getElem? h)), putA_at h2 h]
    rfl
end lists

def keyE : Value → ByteArray
  | .string s => s
  | _ => default
def toPV (e : MapEntry) : ByteArray × Value := (keyE e.key, e.val)
/-- The map in block b has these keys and elements. -/
def MapV (w : World) (b : Nat) (ps : List (ByteArray × Value)) : Prop :=
  ∃ es clock, w.heap[b]? = some (.map es clock) ∧ Stamped es clock ∧ (∀ e ∈ es.toList, ∃ s : ByteArray, e.key = .string s ∧ s.size ≤ maxLen) ∧ ps = es.toList.map toPV
theorem MapV.lt {w : World} {b : Nat} {ps : List (ByteArray × Value)} (h : MapV w b ps) : b < w.heap.size := by
  obtain ⟨es, clock, hb, _⟩ := h
  exact (Array.getElem?_eq_some_iff.1 hb).1
theorem MapV.kept {w w' : World} {b : Nat} {ps : List (ByteArray × Value)} (h : MapV w b ps) (hk : w'.heap[b]? = w.heap[b]?) : MapV w' b ps := by
  obtain ⟨es, clock, hb, rest⟩ := h
  exact ⟨es, clock, hk.trans hb, rest⟩
theorem MapV.below {w w' : World} {b : Nat} {ps : List (ByteArray × Value)} (h : MapV w b ps) (hb : Below w.heap.size w w') : MapV w' b ps := h.kept (hb.block b h.lt)
theorem MapV.grown {w w' : World} {b : Nat} {row : Option Nat} {ps : List (ByteArray × Value)} (h : MapV w b ps) (hg : w.grownBy w' row) (hr : row ≠ some b) : MapV w' b ps := h.kept (hg.block b h.lt (fun e => hr e.symm))
theorem mapV_made (w : World) : MapV (w.alloc (.map #[] 0)) w.heap.size [] := ⟨#[], 0, heap_alloc_new w _, stamped_empty 0, by simp, by simp⟩
theorem pv_apart {es : Array MapEntry} {clock : Nat} (hS : Stamped es clock) (hK : ∀ e ∈ es.toList, ∃ s : ByteArray, e.key = .string s ∧ s.size ≤ maxLen) : (es.toList.map toPV).Pairwise (fun p q => p.1 ≠ q.1) := by
  rw [List.pairwise_map]
  refine List.Pairwise.imp_of_mem ?_ ((stamped_iff es clock).1 hS).2.2
  intro a b ha hb h e
  obtain ⟨s, h1, _⟩ := hK a ha
  obtain ⟨s', h2, _⟩ := hK b hb
  simp only [toPV, h1, h2, keyE] at e
  rw [h1, h2, e] at h
  exact h rfl
theorem MapV.apart {w : World} {b : Nat} {ps : List (ByteArray × Value)} (h : MapV w b ps) : ps.Pairwise (fun p q => p.1 ≠ q.1) := by
  obtain ⟨es, clock, _, hS, hK, rfl⟩ := h
  exact pv_apart hS hK

section
variable {P : Program} {t k e : TypeId} {w : World} {b : Nat} {ps : List (ByteArray × Value)}
theorem keys_of {es : Array MapEntry} (hk : P.underlying k = some .string) (hK : ∀ e ∈ es.toList, ∃ s : ByteArray, e.key = .string s ∧ s.size ≤ maxLen) : ∀ e ∈ es.toList, ∃ l, keyOf P k e.key = some l := fun e he => by
  obtain ⟨s, h1, h2⟩ := hK e he
  exact ⟨_, h1 ▸ keyOf_string_mk hk h2⟩
theorem not_key {es : Array MapEntry} {s : ByteArray} (hK : ∀ e ∈ es.toList, ∃ s : ByteArray, e.key = .string s ∧ s.size ≤ maxLen) (h : ∀ e ∈ es.toList, e.key ≠ .string s) : ∀ p ∈ es.toList.map toPV, p.1 ≠ s := by
  intro p hp e
  obtain ⟨x, hx, rfl⟩ := List.mem_map.1 hp
  obtain ⟨s', h1, _⟩ := hK x hx
  refine h x hx ?_
  rw [h1, ← e, toPV, h1]
  rfl
theorem the_key {es : Array MapEntry} {s : ByteArray} {j : Nat} {e0 : MapEntry} (h2 : es.toList[j]? = some e0) (h3 : e0.key = .string s) : (es.toList.map toPV)[j]? = some (s, e0.val) := by
  rw [List.getElem?_map, h2]
  simp [toPV, h3, keyE]
/-- 'm[k]'. -/
theorem mapV_look (ht : P.underlying t = some (.map k e)) (hk : P.underlying k = some .string) {z : Value} (hz : (zeroValue e).run P w = .ok z w) (h : MapV w b ps) (s : ByteArray) (hs : s.size ≤ maxLen) :
    (Instr.lookup t (.map (some b)) (.string s) false).run P w = .ok ((lookA s ps).getD z) w := by
  have hA := h.apart
  obtain ⟨es, clock, hb, hS, hK, rfl⟩ := h
  have hkey := keyOf_string_mk hk hs
  have K := string_keyed hk
  rcases K.find w hkey es.toList (keys_of hk hK) with ⟨h1, h2⟩ | ⟨j, e0, h1, h2, h3⟩
  · rw [lookA_none (not_key hK h2)]
    simp [Instr.lookup, run_underlying ht, MapKept.run_getObj_map hb, K.check w _ hkey, h1, hz, Result.andThen]
  · rw [lookA_at hA (the_key h2 h3)]
    simp [Instr.lookup, run_underlying ht, MapKept.run_getObj_map hb, K.check w _ hkey, h1, Result.andThen]
/-- 'm[k] = v'. -/
theorem mapV_put (ht : P.underlying t = some (.map k e)) (hk : P.underlying k = some .string) (h : MapV w b ps) (s : ByteArray) (hs : s.size ≤ maxLen) (v : Value) :
    ∃ w', (Instr.mapUpdate t (.map (some b)) (.string s) v).run P w = .ok () w' ∧ MapV w' b (putA s v ps) ∧ w.grownBy w' (some b) := by
  have hA := h.apart
  obtain ⟨es, clock, hb, hS, hK, rfl⟩ := h
  have hkey := keyOf_string_mk hk hs
  have K := string_keyed hk
  rcases K.find w hkey es.toList (keys_of hk hK) with ⟨h1, h2⟩ | ⟨j, e0, h1, h2, h3⟩
  · refine ⟨setBlock w b (.map (es.push ⟨.string s, v, clock⟩) (clock + 1)), ?_, ⟨_, _, heap_setBlock_same hb _, stamped_push hS h2, ?_, ?_⟩, ⟨rfl, rfl, rfl, by simp [setBlock], fun i _ hi => heap_setBlock_other hb _ (fun e => hi (by rw [e]))⟩⟩
    · simp [Instr.mapUpdate, run_underlying ht, MapKept.run_getObj_map hb, K.check w false hkey, h1, MapKept.run_setObj_map _ hb, Result.andThen, setBlock]
    · intro x hx
      simp only [Array.toList_push, List.mem_append, List.mem_singleton] at hx
      rcases hx with hx | rfl
      · exact hK x hx
      · exact ⟨s, rfl, hs⟩
    · rw [putA_none (not_key hK h2)]
      simp [toPV, keyE]
  · have hj : es[j]? = some e0 := by simpa using h2
    have hkeyf : ∀ e', es[j]? = some e' → ({ e' with key := .string s, val := v } : MapEntry).key = e'.key := fun e' he' => by rw [hj] at he'; cases he'; exact h3.symm
    have hlist : (es.modify j (fun e' => { e' with key := .string s, val := v })).toList = es.toList.set j { e0 with key := .string s, val := v } := by rw [Array.toList_modify, modify_eq_set _ _ _ _ h2]
    refine ⟨setBlock w b (.map (es.modify j (fun e' => { e' with key := .string s, val := v })) clock), ?_, ⟨_, _, heap_setBlock_same hb _, stamped_modify hS _ _ (fun _ _ => rfl) (fun e' _ he' => hkeyf e' he'), ?_, ?_⟩, ⟨rfl, rfl, rfl, by simp [setBlock], fun i _ hi => heap_setBlock_other hb _ (fun e => hi (by rw [e]))⟩⟩
    · simp [Instr.mapUpdate, run_underlying ht, MapKept.run_getObj_map hb, K.check w false hkey, h1, hj, h3, K.stays w hkey, MapKept.run_setObj_map _ hb, Result.andThen, setBlock]
    · intro x hx
      rw [hlist] at hx
      rcases List.mem_or_eq_of_mem_set hx with hx | rfl
      · exact hK x hx
      · exact ⟨s, rfl, hs⟩
    · rw [putA_at hA (the_key h2 h3), hlist, List.map_set]
      simp [toPV, keyE]
/-- A range under way: what is still to come. -/
def RangeV (w : World) (b r : Nat) (ps L : List (ByteArray × Value)) : Prop :=
  ∃ es clock since seen c0, w.heap[b]? = some (.map es clock) ∧ Stamped es clock ∧ (∀ e ∈ es.toList, ∃ s : ByteArray, e.key = .string s ∧ s.size ≤ maxLen) ∧ ps = es.toList.map toPV ∧ w.heap[r]? = some (.mapIter (some b) since seen c0) ∧
    (∀ x ∈ es.toList, x.born < since) ∧ since ≤ c0 ∧ since ≤ clock ∧ L = (leftOf es seen).toList.map toPV
theorem RangeV.lt {r : Nat} {L : List (ByteArray × Value)} (h : RangeV w b r ps L) : b < w.heap.size ∧ r < w.heap.size ∧ r ≠ b := by
  obtain ⟨es, clock, since, seen, c0, hb, _, _, _, hr, _⟩ := h
  refine ⟨(Array.getElem?_eq_some_iff.1 hb).1, (Array.getElem?_eq_some_iff.1 hr).1, fun e => ?_⟩
  rw [e, hb] at hr
  cases hr
theorem RangeV.kept {w' : World} {r : Nat} {L : List (ByteArray × Value)} (h : RangeV w b r ps L) (hk : w'.heap[b]? = w.heap[b]?) (hk' : w'.heap[r]? = w.heap[r]?) : RangeV w' b r ps L := by
  obtain ⟨es, clock, since, seen, c0, hb, h1, h2, h3, hr, rest⟩ := h
  exact ⟨es, clock, since, seen, c0, hk.trans hb, h1, h2, h3, hk'.trans hr, rest⟩
theorem RangeV.below {w' : World} {r : Nat} {L : List (ByteArray × Value)} (h : RangeV w b r ps L) (hb : Below w.heap.size w w') : RangeV w' b r ps L := h.kept (hb.block b h.lt.1) (hb.block r h.lt.2.1)
theorem RangeV.left_eq {r : Nat} {L : List (ByteArray × Value)} (h : RangeV w b r ps L) : w.rangeLeft b r = L.length := by
  obtain ⟨es, clock, since, seen, c0, hb, _, _, _, hr, _, _, _, rfl⟩ := h
  simp [World.rangeLeft, hb, hr]
/-- 'range m'. -/
theorem mapV_range (ht : P.underlying t = some (.map k e)) (h : MapV w b ps) :
    ∃ o : Obj, (Instr.range t (.map (some b))).run P w = .ok (.pointer (some ⟨w.heap.size, 0, none⟩)) (w.alloc o) ∧ RangeV (w.alloc o) b w.heap.size ps ps ∧ o.isCells = false := by
  have hlt := h.lt
  obtain ⟨es, clock, hb, hS, hK, rfl⟩ := h
  refine ⟨_, run_range_map w t k e b es clock ht hb, ⟨es, clock, clock, #[], clock, ((MapKept.heap_alloc w _).2 b hlt).trans hb, hS, hK, rfl, (MapKept.heap_alloc w _).1, ((stamped_iff es clock).1 hS).1, Nat.le_refl _, Nat.le_refl _, ?_⟩, rfl⟩
  rw [show leftOf es #[] = es from Array.filter_eq_self.2 (fun _ _ => by simp)]
/-- The step. -/
theorem rangeV_next {r : Nat} {L : List (ByteArray × Value)} (ty : TypeId) (h : RangeV w b r ps L) :
    (L = [] ∧ (Instr.next (.pointer (some ⟨r, 0, none⟩)) false ty).run P w = .ok (.tuple #[.bool false]) w) ∨
    ∃ p L' w', p ∈ L ∧ L'.length < L.length ∧ (∀ q ∈ L, q = p ∨ q ∈ L') ∧ (∀ q ∈ L', q ∈ L) ∧ (Instr.next (.pointer (some ⟨r, 0, none⟩)) false ty).run P w = .ok (.tuple #[.bool true, .string p.1, p.2]) w' ∧ RangeV w' b r ps L' ∧ w.grownBy w' (some r) ∧ w'.heap.size = w.heap.size ∧
      (Instr.entry (.pointer (some ⟨r, 0, none⟩))).run P w' = .ok (.tuple #[.string p.1, p.2]) w' := by
  have hne := h.lt.2.2
  obtain ⟨es, clock, since, seen, c0, hb, hS, hK, rfl, hr, hold, hsc, hsk, rfl⟩ := h
  rcases run_next_at (P := P) w ty r b since c0 seen es clock hr hb hold hsc with ⟨h0, hrun⟩ | ⟨e, he, w1, hal, hrun⟩
  · refine Or.inl ⟨?_, hrun⟩
    rw [List.map_eq_nil_iff]
    exact List.eq_nil_of_length_eq_zero (by simpa using h0)
  · obtain ⟨hem, hes⟩ := mem_left he
    obtain ⟨s, hs1, hs2⟩ := hK e hem
    have hpe : toPV e = (s, e.val) := by simp [toPV, hs1, keyE]
    have hr1 : w1.heap[r]? = some (.mapIter (some b) since seen c0) := by rcases hal with rfl | rfl <;> exact hr
    have hb1 : w1.heap[b]? = some (.map es clock) := by rcases hal with rfl | rfl <;> exact hb
    have hset := MapKept.heap_set (o' := .mapIter (some b) since (seen.push e.born) clock) hr1
    have hb' : (setBlock w1 r (.mapIter (some b) since (seen.push e.born) clock)).heap[b]? = some (.map es clock) := (hset.2 b (fun e1 => hne e1.symm)).trans hb1
    rw [hs1] at hrun
    have hen := run_entry_at (P := P) _ r b since seen es clock e hset.1 hb' hem ((stamped_iff es clock).1 hS).2.1
    rw [hs1] at hen
    refine Or.inr ⟨(s, e.val), (leftOf es (seen.push e.born)).toList.map toPV, _, ?_, ?_, ?_, ?_, hrun, ⟨es, clock, since, seen.push e.born, clock, hb', hS, hK, rfl, hset.1, hold, hsk, hsk, rfl⟩, ?_, ?_, hen⟩
    · rw [← hpe]; exact List.mem_map.2 ⟨e, he, rfl⟩
    · simpa using left_shrinks es seen e he
    · intro q hq
      obtain ⟨x, hx, rfl⟩ := List.mem_map.1 hq
      obtain ⟨hxm, hxs⟩ := mem_left hx
      by_cases hbo : x.born = e.born
      · left
        rw [born_inj ((stamped_iff es clock).1 hS).2.1 hxm hem hbo, hpe]
      · right
        refine List.mem_map.2 ⟨x, ?_, rfl⟩
        simp only [leftOf, Array.toList_filter, List.mem_filter, contains_push, hxs, Bool.false_or, Bool.not_eq_true']
        exact ⟨hxm, by simp [hbo]⟩
    · intro q hq
      obtain ⟨x, hx, rfl⟩ := List.mem_map.1 hq
      obtain ⟨hxm, hxs⟩ := mem_left hx
      refine List.mem_map.2 ⟨x, ?_, rfl⟩
      rw [contains_push, Bool.or_eq_false_iff] at hxs
      simp only [leftOf, Array.toList_filter, List.mem_filter, hxs.1]
      exact ⟨hxm, rfl⟩
    · rcases hal with rfl | rfl <;> exact ⟨rfl, rfl, rfl, by simp [setBlock], fun i _ hi => hset.2 i (fun e1 => hi (by rw [e1]))⟩
    · rcases hal with rfl | rfl <;> simp [setBlock]
end
end Go.Proofs.YtmnlhjdjjinbiaaGreat

namespace Go.Proofs.YtmnlhjdjjinbiaaGreat
open Go.RowKit

section
variable {P : Program} {w : World}

theorem run_append_bytes (t ty e : TypeId) (ht : P.underlying t = some (.slice e)) (hinfo : (P.info? e).map (fun i => (i.zero, i.size, i.bytes)) = some (some (.int .u8 0), 1, 1))
    (base : Nat) (v vx : Value) (l m : List Int) (hown : Own base e w v l) (hr : Reads w vx m) (hlen : l.length + m.length ≤ 1099511627776) (hbase : base ≤ w.heap.size) :
    ∃ v' w', (Builtin.append_ #[t, t] ty #[v, vx]).run P w = .ok v' w' ∧ Own base e w' v' (l ++ m) ∧ w.grownBy w' v.ownBlock := by
  obtain ⟨i0, hi, hz0, hz1, hz2⟩ := info_parts hinfo
  rcases hr with ⟨rfl, rfl⟩ | ⟨ad, cap, rfl, hc⟩
  · exact ⟨v, w, run_append_owned_none w base t ty e i0 1 ht hi v l.length (l.map (Value.int .u8)) hown, by simpa using hown, ⟨rfl, rfl, rfl, Nat.le_refl _, fun _ _ _ => rfl⟩⟩
  · obtain ⟨v', w', h1, h2, h3, _⟩ := run_append_own (P := P) w base t ty e i0 (.int .u8 0) 1 1 ht hi hz0 hz1 hz2 rfl (by decide) v l.length (l.map (Value.int .u8)) hown ad m.length cap (m.map (Value.int .u8)) (by simp) (news_of hc) (one_of m) (by unfold maxLen; omega) (by omega) hbase
    exact ⟨v', w', h1, by simpa [Own] using h2, h3⟩

/-- 'append(s, x...)' of bytes, as a step of a region. -/
theorem step_append_bytes {ops : Array Oper} {o : Oper} {a : Act} {K : Act → World → Prop} {Q : Exit → Act → World → Prop} {E : Prop} (hgd : o.guard = none) (s x : Operand) (t e : TypeId)
    (ho : o.op = .call { callee := .builtin .append, args := #[s, x], argTypes := #[t, t] }) (ht : P.underlying t = some (.slice e))
    (hinfo : (P.info? e).map (fun i => (i.zero, i.size, i.bytes)) = some (some (.int .u8 0), 1, 1))
    (base : Nat) (v vx : Value) (l m : List Int) (hs : a.eval s = v) (hx : a.eval x = vx) (hown : Own base e w v l) (hr : Reads w vx m) (hlen : l.length + m.length ≤ 1099511627776) (hbase : base ≤ w.heap.size)
    (h : ∀ v' w', Own base e w' v' (l ++ m) → w.grownBy w' v.ownBlock → K (a.put o.dst v') w') : if Region.wanted o (yielded ops a.tmps) = true then Oper.wp P o a w K Q else E := by
  have hw : Region.wanted o (yielded ops a.tmps) = true := by simp [Region.wanted, hgd]
  rw [if_pos hw]
  obtain ⟨v', w', hr', h2, h3⟩ := run_append_bytes (P := P) t o.type e ht hinfo base v vx l m hown hr hlen hbase
  unfold Oper.wp execOp
  simp only [ho, resolve, invoke, builtin, Sem.run_bind, Sem.run_pure, Result.andThen_ok, List.map_toArray, List.map_cons, List.map_nil, hs, hx, hr']
  exact h v' w' h2 h3

/-- Some values more behind an own row of values of one cell each. -/
theorem run_append_row (t ty e : TypeId) (ht : P.underlying t = some (.slice e)) (hinfo : (P.info? e).map (fun i => (i.zero, i.size, i.bytes)) = some (some (.slice none 0 0), 1, 24))
    (base : Nat) (v vx : Value) (xs us : List Value) (hown : w.ownsRow base e 1 v xs.length xs)
    (hr : (vx = .slice none 0 0 ∧ us = []) ∨ ∃ ad cap, vx = .slice (some ad) us.length cap ∧ ∀ j y, us[j]? = some y → w.cell? (ad.add j) = some y) (hu : ∀ y ∈ us, y.oneCell' = true)
    (hlen : xs.length + us.length ≤ 1099511627776) (hbase : base ≤ w.heap.size) :
    ∃ v' w', (Builtin.append_ #[t, t] ty #[v, vx]).run P w = .ok v' w' ∧ w'.ownsRow base e 1 v' (xs.length + us.length) (xs ++ us) ∧ w.grownBy w' v.ownBlock := by
  obtain ⟨i0, hi, hz0, hz1, hz2⟩ := info_parts hinfo
  rcases hr with ⟨rfl, rfl⟩ | ⟨ad, cap, rfl, hc⟩
  · exact ⟨v, w, run_append_owned_none w base t ty e i0 1 ht hi v xs.length xs hown, by simpa using hown, ⟨rfl, rfl, rfl, Nat.le_refl _, fun _ _ _ => rfl⟩⟩
  · obtain ⟨v', w', h1, h2, h3, _⟩ := run_append_own (P := P) w base t ty e i0 (.slice none 0 0) 1 24 ht hi hz0 hz1 hz2 rfl (by decide) v xs.length xs hown ad us.length cap us (by simp) hc hu (by unfold maxLen; omega) (by omega) hbase
    exact ⟨v', w', h1, h2, h3⟩

/-- 'append(s, x...)' of slices, as a step of a region. -/
theorem step_append_row {ops : Array Oper} {o : Oper} {a : Act} {K : Act → World → Prop} {Q : Exit → Act → World → Prop} {E : Prop} (hgd : o.guard = none) (s x : Operand) (t e : TypeId)
    (ho : o.op = .call { callee := .builtin .append, args := #[s, x], argTypes := #[t, t] }) (ht : P.underlying t = some (.slice e))
    (hinfo : (P.info? e).map (fun i => (i.zero, i.size, i.bytes)) = some (some (.slice none 0 0), 1, 24))
    (base : Nat) (v vx : Value) (xs us : List Value) (hs : a.eval s = v) (hx : a.eval x = vx) (hown : w.ownsRow base e 1 v xs.length xs)
    (hr : (vx = .slice none 0 0 ∧ us = []) ∨ ∃ ad cap, vx = .slice (some ad) us.length cap ∧ ∀ j y, us[j]? = some y → w.cell? (ad.add j) = some y) (hu : ∀ y ∈ us, y.oneCell' = true)
    (hlen : xs.length + us.length ≤ 1099511627776) (hbase : base ≤ w.heap.size)
    (h : ∀ v' w', w'.ownsRow base e 1 v' (xs.length + us.length) (xs ++ us) → w.grownBy w' v.ownBlock → K (a.put o.dst v') w') : if Region.wanted o (yielded ops a.tmps) = true then Oper.wp P o a w K Q else E := by
  have hw : Region.wanted o (yielded ops a.tmps) = true := by simp [Region.wanted, hgd]
  rw [if_pos hw]
  obtain ⟨v', w', hr', h2, h3⟩ := run_append_row (P := P) t o.type e ht hinfo base v vx xs us hown hr hu hlen hbase
  unfold Oper.wp execOp
  simp only [ho, resolve, invoke, builtin, Sem.run_bind, Sem.run_pure, Result.andThen_ok, List.map_toArray, List.map_cons, List.map_nil, hs, hx, hr']
  exact h v' w' h2 h3

/-- One value more: what the row of the append's second argument is, in a world that has just been given it. -/
theorem one_more (w : World) (e : TypeId) (u : Value) : (Value.slice (some ⟨w.heap.size, 0, none⟩) 1 1 = .slice none 0 0 ∧ [u] = []) ∨ ∃ ad cap, Value.slice (some ⟨w.heap.size, 0, none⟩) 1 1 = .slice (some ad) [u].length cap ∧ ∀ j y, [u][j]? = some y → (w.alloc (.cells #[u] e)).cell? (ad.add j) = some y := by
  refine .inr ⟨_, 1, rfl, fun j y hj => ?_⟩
  have hj0 : j = 0 := by
    have := (List.getElem?_eq_some_iff.1 hj).1
    simp at this
    exact this
  subst hj0
  have hh : (w.alloc (.cells #[u] e)).heap[w.heap.size]? = some (.cells #[u] e) := by
    show (w.heap.push _)[w.heap.size]? = _
    simp
  rw [Addr.add_lit]
  unfold World.cell?
  simp only [hh]
  simpa using hj
end
end Go.Proofs.YtmnlhjdjjinbiaaGreat
