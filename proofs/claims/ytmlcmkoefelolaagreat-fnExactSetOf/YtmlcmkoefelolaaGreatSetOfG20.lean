/-
  Plain facts: a page's records by ascending keys. No program is named here. slices.Sorted(maps.Keys(m)) of the library, at maps of records: the keys, ascending. slices.Backward of the library at lists of texts, as what a loop ranges over.
-/
import Derived.Test.YtmlcmkoefelolaaGreatSetOfG19
import Derived.Test.YtmlcmkoefelolaaGreatSetOfG11
import Derived.Test.YtmlcmkoefelolaaGreatSetOfG04
import Derived.Test.YtmlcmkoefelolaaGreatSetOfG00
import Derived.RangeFuncNested
import Derived.RangeFuncBound
import Derived.RangeFuncCalls
import Derived.RangeFuncLeaves
import Derived.Shelf.Abstract
import Derived.Shelf.RegionOpen
import Derived.WalkKit
import Derived.OwnWalkIn
import Derived.TacticsInMore
import Derived.LoopNIn
import Derived.LoopIn
namespace Go.Proofs.YtmlcmkoefelolaaGreat
open Go.RowKit
set_option linter.unusedVariables false

/-- A page's keys, ascending. -/
def keysP {α : Type} (P : List (ByteArray × α)) : List (List UInt8) := (P.map (fun p => p.1.data.toList)).mergeSort leB
theorem keysP_length {α : Type} (P : List (ByteArray × α)) : (keysP P).length = P.length := by simp [keysP]
def atKey (P : Pg) (k : List UInt8) : Rec := (lookA ⟨k.toArray⟩ P).getD recZ
/-- A page's records, by ascending keys. -/
def sortP (P : Pg) : List Rec := (keysP P).map (atKey P)
theorem keysP_mem {α : Type} {P : List (ByteArray × α)} {k : List UInt8} (h : k ∈ keysP P) : ∃ v, ((⟨k.toArray⟩ : ByteArray), v) ∈ P := by
 unfold keysP at h
 rw [List.mem_mergeSort] at h
 obtain ⟨p, hp, rfl⟩ := List.mem_map.1 h
 exact ⟨p.2, by simpa using hp⟩
theorem two_keysP {α β : Type} {Q : α → β → Prop} {l : List (ByteArray × α)} {m : List (ByteArray × β)} (h : Two (AtKeys ByteArray Q) l m) : keysP l = keysP m := by
 unfold keysP
 congr 1
 induction h with
 | nil => rfl
 | cons h1 _ ih => rw [List.map_cons, List.map_cons, h1.1, ih]
/-- What is at hand: no page, or one. -/
def OptPage (w : World) (mb : Option Nat) (P : Pg) : Prop := (mb = none ∧ P = []) ∨ ∃ p, mb = some p ∧ PageM w p P
theorem sortP_page {n : List (List Int)} {rs : List Rec} (hasc : rs.Pairwise (fun a b => a.name = b.name → cmpB (keyD a) (keyD b) = -1)) (hA : ((ofName n rs).map (fun r => (keyR r, r))).Pairwise (fun p q => p.1 ≠ q.1)) : sortP ((ofName n rs).map (fun r => (keyR r, r))) = ofName n rs := by
 unfold sortP keysP
 rw [List.map_map]
 have := page_sorted (n := n) hasc
 rw [show ((fun p : ByteArray × Rec => p.1.data.toList) ∘ fun r => (keyR r, r)) = fun r => (keyR r).data.toList from rfl, this, List.map_map]
 conv => rhs; rw [← List.map_id (ofName n rs)]
 refine List.map_congr_left (fun r hr => ?_)
 simp only [Function.comp, atKey, id]
 have hl : lookA (keyR r) ((ofName n rs).map (fun r => (keyR r, r))) = some r := lookA_mem hA (List.mem_map.2 ⟨r, hr, rfl⟩)
 rw [show (⟨(keyR r).data.toList.toArray⟩ : ByteArray) = keyR r by simp, hl]
 rfl
end Go.Proofs.YtmlcmkoefelolaaGreat

namespace Go.Proofs.YtmlcmkoefelolaaGreat
open Go.RowKit Go.Maps Go.Sort Go.Shelf
open Go.WideElems (Fit rd rg rd_mk rg_of)
open Go.WideMaps (keyOf_string_mk)
set_option linter.unusedVariables false

theorem sortsK (m : Nat) : AnyZ.SortsIn Tryz.prog Tryz.sorted131_ren Fence.wide m :=
  ⟨fun blk off cap ss W hH hblk hsz => callsIn_wide.2 (AnyM.slices_Sort_string Tryz.sort156 blk off cap ss W hH hblk hsz),
   fun p cap W => callsIn_wide.2 (AnyM.slices_Sort_string_none Tryz.sort156 p cap W)⟩

/-- Whatever an element is. -/
def anyR (v : Value) : Option (DataW Unit × List MemPlace) := some (.nil, [])
theorem mapV_owns {w : World} {b : Nat} {ps : List (ByteArray × Value)} (h : MapV w b ps) (hl : ps.length ≤ maxLen) : ∃ D0 : DataW Unit, w.ownsMap Tryz.prog 9 anyR b ps.length D0 ∧ (strKeys D0).Perm (ps.map (fun p => p.1.data.toList)) ∧ Maps.size D0 = ps.length := by
  obtain ⟨es, clock, hb, hS, hK, rfl⟩ := h
  have hrd : ∀ x ∈ es.toList, rd Tryz.prog 9 anyR x = some (.string (toPV x).1.data.toList, .nil) := by
    intro x hx
    obtain ⟨s, h1, h2⟩ := hK x hx
    have hk := keyOf_string_mk (P := Tryz.prog) Tryz.underlying9 h2
    obtain ⟨key, val, born⟩ := x
    simp only at h1
    subst h1
    exact rd_mk (R := anyR) (yv := (.nil, [])) hk rfl
  have hrg : es.toList.map (rg Tryz.prog 9 anyR) = es.toList.map (fun x => (Lit.string (toPV x).1.data.toList, DataW.nil)) := List.map_congr_left (fun x hx => by rw [rg_of (hrd x hx)])
  refine ⟨_, ⟨es, clock, hb, ⟨by simpa using hl, hS, fun x hx => ⟨_, hrd x hx⟩⟩, by simp, rfl⟩, ?_, ?_⟩
  · rw [hrg]
    simp only [strKeys]
    have hp := WideShapes.sorted_perm (es.toList.map (fun x => (Lit.string (toPV x).1.data.toList, (DataW.nil : DataW Unit))))
    have h2 := hp.map (fun p => strOf p.1)
    rw [List.map_map] at h2 ⊢
    exact h2
  · simp [Maps.size, length_sorted]

theorem keysOf_in (mb : Option Nat) (W : World) : CallsIn Fence.wide 5 Tryz.prog 132 #[.map mb] W fun e w' => e = .returned (.func (.func 157) #[] #[.pointer (some ⟨W.heap.size, 0, none⟩)]) ∧ w' = W.alloc (.cells #[.map mb] 115) :=
  AnyZ.keys_in Tryz.keys132 Fence.wide 5 trivial rfl mb W

set_option maxHeartbeats 1000000 in
theorem sortedOf_in {w : World} {b : Nat} {ps : List (ByteArray × Value)} (h : MapV w b ps) (hl : ps.length ≤ 1000) :
    CallsIn Fence.wide 5 Tryz.prog 131 #[.func (.func 157) #[] #[.pointer (some ⟨w.heap.size, 0, none⟩)]] (w.alloc (.cells #[.map (some b)] 115)) fun e w' => ∃ v, e = .returned v ∧
      w'.ownsRow (w.heap.size + 1) 9 1 v ps.length ((keysP ps).map encStr) ∧ Below w.heap.size w w' := by
  obtain ⟨D0, hown, hperm, hsize⟩ := mapV_owns h (by unfold maxLen; omega)
  have hbl := hown.lt
  have hseq : SeqGives Fence.wide 2 Tryz.prog 157 #[.pointer (some ⟨w.heap.size, 0, none⟩)] encStr (fun ss => ss.Perm (strKeys D0)) (Maps.size D0) (w.alloc (.cells #[.map (some b)] 115)) :=
    AnyZ.keys_gives (ρ := Tryz.keys132_ren) { Tryz.keys132 with } Fence.wide _ trivial rfl (by omega) w.heap.size b ps.length D0 _ (by simp) (by simp) (by
      obtain ⟨es, clock, hb, Ft, hs, hD⟩ := hown
      exact ⟨es, clock, (Below.heap_alloc _ _ b hbl).trans hb, Ft, hs, hD⟩)
  have hS := AnyZ.sorted_in Tryz.sorted131 Fence.wide 5 trivial trivial trivial trivial rfl (by omega) (sortsK _) (enters_of Tryz.func156 (by kernel_rfl) rfl) 157 #[.pointer (some ⟨w.heap.size, 0, none⟩)] trivial (enters_of Tryz.func157 (by kernel_rfl) rfl) _ _ (by rw [hsize]; unfold maxLen; omega) (by rw [hsize]; omega) _ hseq
  refine hS.mono ?_
  rintro e w' ⟨v, ss, rfl, hp, hrow, _, hb⟩
  have e1 : ss.length = ps.length := by rw [hp.length_eq, hperm.length_eq, List.length_map]
  have e2 : ss.mergeSort (fun x y => decide (x ≤ y)) = keysP ps := mergeSort_of_perm (hp.trans hperm)
  rw [e1, e2] at hrow
  have zs : (w.alloc (.cells #[.map (some b)] 115)).heap.size = w.heap.size + 1 := World.size_alloc w _
  rw [zs] at hrow hb
  exact ⟨v, rfl, hrow, (below_alloc (w := w) _).trans (hb.mono (by omega))⟩

set_option maxHeartbeats 1000000 in
theorem sortedNil_in (w : World) :
    CallsIn Fence.wide 5 Tryz.prog 131 #[.func (.func 157) #[] #[.pointer (some ⟨w.heap.size, 0, none⟩)]] (w.alloc (.cells #[.map none] 115)) fun e w' => ∃ v, e = .returned v ∧
      w'.ownsRow (w.heap.size + 1) 9 1 v 0 [] ∧ Below w.heap.size w w' := by
  have hseq : SeqGives Fence.wide 2 Tryz.prog 157 #[.pointer (some ⟨w.heap.size, 0, none⟩)] encStr (fun ss : List (List UInt8) => ss = []) 0 (w.alloc (.cells #[.map none] 115)) :=
    AnyZ.keys_gives_nil (ρ := Tryz.keys132_ren) { Tryz.keys132 with } Fence.wide _ trivial rfl w.heap.size _ (by simp) (by simp)
  have hS := AnyZ.sorted_in Tryz.sorted131 Fence.wide 5 trivial trivial trivial trivial rfl (by omega) (sortsK _) (enters_of Tryz.func156 (by kernel_rfl) rfl) 157 #[.pointer (some ⟨w.heap.size, 0, none⟩)] trivial (enters_of Tryz.func157 (by kernel_rfl) rfl) _ 0 (Nat.zero_le _) (by omega) _ hseq
  refine hS.mono ?_
  rintro e w' ⟨v, ss, rfl, hp, hrow, _, hb⟩
  subst hp
  have zs : (w.alloc (.cells #[.map none] 115)).heap.size = w.heap.size + 1 := World.size_alloc w _
  rw [zs] at hrow hb
  have hr2 : w'.ownsRow (w.heap.size + 1) 9 1 v 0 ((([] : List (List UInt8)).mergeSort (fun x y => decide (x ≤ y))).map encStr) := hrow
  exact ⟨v, rfl, by simpa using hr2, (below_alloc (w := w) _).trans (hb.mono (by omega))⟩
end Go.Proofs.YtmlcmkoefelolaaGreat

namespace Go.Proofs.YtmlcmkoefelolaaGreat
open Go.RowKit Go.Shelf
set_option linter.unusedVariables false

/-- A label, with its place and the slice that has it. -/
abbrev LabV (w : World) := { p : (Nat × Value) × List Int // Has w p.1.2 p.2 ∧ p.2.length ≤ 15 }
def encL {w : World} (x : LabV w) : Array Value := #[.int .i64 x.1.1.1, x.1.1.2]
/-- What a round keeps: what lay below n0, and the iterator's own box. -/
def KpB (n0 Bt : Nat) (W W' : World) : Prop := Below n0 W W' ∧ ∀ c t, W.heap[Bt]? = some (Obj.cells c t) → W'.heap[Bt]? = some (Obj.cells c t)
theorem kpB_t {n0 Bt : Nat} {A B C : World} (h : KpB n0 Bt A B) (k : KpB n0 Bt B C) : KpB n0 Bt A C := ⟨h.1.trans k.1, fun c t q => k.2 c t (h.2 c t q)⟩
theorem kpB_b {n0 Bt : Nat} {w : World} (hn : n0 ≤ w.heap.size) (W : World) (l : Nat) (o o' : Obj) (hl : w.heap.size ≤ l) (h : W.heap[l]? = some o) (h1 : o.isCells = false) (h2 : o.isWalk = false) : KpB n0 Bt W (W.putObj l o') :=
 ⟨belowK_b hn W l o o' hl h h1 h2, fun c t q => keptC_of (grownBy_putObj' W l o') (fun r e => by cases e; exact ⟨_, h, h1⟩) _ _ _ q⟩

set_option maxHeartbeats 4000000 in
set_option maxRecDepth 100000 in
theorem back1_in (n : Nat) (hn : 1 ≤ n) (l Bt n0 : Nat) (w0 : World) (a : Option Addr) (cap : Nat) (ns : List (List Int)) (hn0 : n0 = w0.heap.size) (hT : HasL w0 (.slice a ns.length cap) ns) (hl : ns.length ≤ 1048576) (hs : ∀ k, k < ns.length → (ns.getD k []).length ≤ 15)
  (J Jx : List (LabV w0) → World → Prop) (W : World) (hW : Below n0 w0 W) (hJ : AbidesFrom W.heap.size J)
  (hY : ∀ pre x W1, J pre W1 → pre.length < ns.length → YieldAt Fence.wide (n - 1) Tryz.prog l (encL x) W1 fun e W' => (e = .returned (.bool true) ∧ J (pre ++ [x]) W' ∧ KpB n0 Bt W1 W') ∨ (e = .returned (.bool false) ∧ Jx (pre ++ [x]) W'))
  (hBt : W.heap[Bt]? = some (.cells #[.slice a ns.length cap] 22)) (h0 : J [] W) :
  CallsIn Fence.wide n Tryz.prog 158 #[.func (.yield l) #[] #[], .pointer (some ⟨Bt, 0, none⟩)] W fun e W' => (∃ v, e = .returned v) ∧
   ((∃ xs, xs.map (·.1.2) = ns.reverse ∧ J xs W') ∨ (∃ pre, True ∧ Jx pre W')) := by
 subst hn0
 have HT := hide hT
 have HS := hide hs
 have HJ := hide hJ
 have HY := hide hY
 have B0 := hide hW
 have H0 := hide h0
 have KB := hide hBt
 have cB := block_one hBt
 clear hT hs hJ hY hW h0 hBt
 generalize hm : ns.length = m at *
 have HM := hide hm
 clear hm
 refine callsIn_of_wp Tryz.func158 rfl trivial ?_ rfl
 simp only [Tryz.ntmps158, List.size_toArray, List.length_cons, List.length_nil, Nat.reduceAdd, Nat.reduceSub, Array.replicate_succ, Array.replicate_zero, List.push_toArray, List.append_toArray, List.nil_append, List.cons_append]
 gi_wp2
 clear cB
 gi_loopw [3] (fun i wr => ∃ (k : Nat) (pre : List (LabV w0)), k ≤ m ∧ i = .int .i64 ((k : Int) - 1) ∧ pre.length + k = m ∧ pre.map (·.1.2) = (ns.drop k).reverse ∧ J pre wr ∧ Below w0.heap.size w0 wr ∧ wr.heap[Bt]? = some (.cells #[.slice a m cap] 22)) (fun i _ => (intOf i + 1).toNat)
 case atStart => exact ⟨m, [], Nat.le_refl _, by go_num, by simp, by rw [← unhide HM]; simp, unhide H0, unhide B0, unhide KB⟩
 case round =>
  obtain ⟨k, pre, hk, rfl, hpl, hp, hj, hbl, hkb⟩ := hrel
  have cB := block_one hkb
  cases k with
  | zero =>
   simp only [List.drop_zero] at hp
   gi_wp2
   go_end0
   exact ⟨⟨_, rfl⟩, .inl ⟨pre, hp, hj⟩⟩
  | succ k =>
   obtain ⟨b, off, u, rfl, hb1, hc, hH⟩ := (unhide HT).here (k := k) (by rw [unhide HM]; omega)
   have hsk := unhide HS k (by omega)
   have hdk := hide (show (ns.drop k).reverse = (ns.drop (k + 1)).reverse ++ [ns.getD k []] by rw [List.drop_eq_getElem_cons (i := k) (by rw [unhide HM]; omega)]; simp [show k < ns.length by rw [unhide HM]; omega])
   have c0 : wr.cell? ⟨b, off + k, none⟩ = some u := (hbl.cell (p := ⟨b, off + k, none⟩) hb1).trans hc
   generalize ns.getD k [] = t at *
   obtain ⟨x, hx1, hx2⟩ : ∃ x : LabV w0, encL x = #[.int .i64 (k : Int), u] ∧ x.1.2 = t := ⟨⟨((k, u), t), hH, hsk⟩, rfl, rfl⟩
   obtain ⟨fn, tmps, assign, body, hy, hRd⟩ := unhide HY pre x wr hj (by omega)
   rw [hx1] at hy
   have hkk : (((k + 1 : Nat) : Int) - 1) = (k : Int) := by omega
   rw [hkk]
   have HB := hide hbl
   clear hc hH hsk hbl
   gi_wp2
   refine hRd.mono ?_
   rintro e W3 (⟨rfl, hJ3, hk3⟩ | ⟨rfl, hJx3⟩)
   ·have hb3 := (unhide HB).trans hk3.1
    have hkb3 := hk3.2 _ _ hkb
    clear hy hRd hk3 HB c0 cB hkb
    gi_wp2
    go_roundw
    case rel => exact ⟨k, pre ++ [x], by omega, by go_num, by simp; omega, by rw [unhide hdk, ← hp]; simp [hx2], hJ3, hb3, hkb3⟩
    case measure => simp [intOf]
   ·clear hy hRd HB c0 cB hkb
    gi_wp2
    refine bodyPost_ret (results_none rfl _ _ _) rfl ?_
    exact ⟨⟨_, rfl⟩, .inr ⟨pre ++ [x], trivial, hJx3⟩⟩
theorem back_stops (Bt : Nat) (w0 w : World) (a : Option Addr) (cap : Nat) (ns : List (List Int)) (hT : HasL w0 (.slice a ns.length cap) ns) (hl : ns.length ≤ 1048576) (hs : ∀ k, k < ns.length → (ns.getD k []).length ≤ 15) (hb : Below w0.heap.size w0 w) (hBt : w.heap[Bt]? = some (.cells #[.slice a ns.length cap] 22)) :
  SeqStopsK Fence.wide 4 Tryz.prog 158 #[.pointer (some ⟨Bt, 0, none⟩)] (fun x : LabV w0 => encL x) (KpB w0.heap.size Bt) (fun xs => xs.map (·.1.2) = ns.reverse) (fun _ => True) ns.length w :=
 fun l J Jx W hW hJ hJx hY h0 => back1_in 4 (by omega) l Bt _ w0 a cap ns rfl hT hl hs J Jx W (hb.trans (hW.mono hb.size)) hJ hY (block_kept hW hBt) h0
set_option maxHeartbeats 400000 in
set_option maxRecDepth 100000 in
theorem back_any (a : Option Addr) (len cap : Nat) (w : World) : Calls Tryz.prog 133 #[.slice a len cap] w fun e w' => e = .returned (.func (.func 158) #[] #[.pointer (some ⟨w.heap.size, 0, none⟩)]) ∧ w' = w.alloc (.cells #[.slice a len cap] 22) := by
 go_enter Tryz.func133, Tryz.ntmps133
 go_wp2
 go_ret
 exact ⟨rfl, rfl⟩
end Go.Proofs.YtmlcmkoefelolaaGreat
