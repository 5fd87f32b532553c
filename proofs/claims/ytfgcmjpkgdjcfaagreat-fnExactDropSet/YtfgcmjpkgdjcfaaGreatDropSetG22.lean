/-
  Plain facts: a page's records by ascending keys. No program is named here. slices.Sorted(maps.Keys(m)) of the library, at maps of records: the keys, ascending. Contracts of the program's copyName: a name of its own with the same labels. Plain facts: an append to a literal without elements turns nothing that was there. No program is named here.
-/
import Derived.Test.YtfgcmjpkgdjcfaaGreatDropSetG21
import Derived.Test.YtfgcmjpkgdjcfaaGreatDropSetG09
import Derived.Test.YtfgcmjpkgdjcfaaGreatDropSetG18
import Derived.Test.YtfgcmjpkgdjcfaaGreatDropSetG11
import Derived.Test.YtfgcmjpkgdjcfaaGreatDropSetG04
import Derived.Test.YtfgcmjpkgdjcfaaGreatDropSetG06
import Derived.Test.YtfgcmjpkgdjcfaaGreatDropSetG01
namespace Go.Proofs.YtfgcmjpkgdjcfaaGreat
open Go.RowKit
set_option linter.unusedVariables false

/-- A page's keys, ascending. -/
def keysP {α : Type} (P : List (ByteArray × α)) : List (List UInt8) := (P.map (fun p => p.1.data.toList)).mergeSort leB
theorem keysP_length {α : Type} (P : List (ByteArray × α)) : (keysP P).length = P.length := by simp [keysP]
def atKey (P : Pg) (k : List UInt8) : Rec := (lookA ⟨k.toArray⟩ P).getD recZ
/-- A page's records, by ascending keys. -/
def sortP (P : Pg) : List Rec := (keysP P).map (atKey P)
theorem keysP_mem {α : Type} {P : List (ByteArray × α)} {k : List UInt8} (h : k ∈ keysP P) : ∃ v, ((⟨k.toArray⟩ : ByteArray), v) ∈ P := by
 unfold keysP at h
 rw [List.mem_mergeSort] at h
 obtain ⟨p, hp, rfl⟩ := List.mem_map.1 h
 exact ⟨p.2, by simpa using hp⟩
theorem two_keysP {α β : Type} {Q : α → β → Prop} {l : List (ByteArray × α)} {m : List (ByteArray × β)} (h : Two (AtKeys ByteArray Q) l m) : keysP l = keysP m := by
 unfold keysP
 congr 1
 induction h with
 | nil => rfl
 | cons h1 _ ih => rw [List.map_cons, List.map_cons, h1.1, ih]
/-- What is at hand: no page, or one. -/
def OptPage (w : World) (mb : Option Nat) (P : Pg) : Prop := (mb = none ∧ P = []) ∨ ∃ p, mb = some p ∧ PageM w p P
theorem sortP_page {n : List (List Int)} {rs : List Rec} (hasc : rs.Pairwise (fun a b => a.name = b.name → cmpB (keyD a) (keyD b) = -1)) (hA : ((ofName n rs).map (fun r => (keyR r, r))).Pairwise (fun p q => p.1 ≠ q.1)) : sortP ((ofName n rs).map (fun r => (keyR r, r))) = ofName n rs := by
 unfold sortP keysP
 rw [List.map_map]
 have := page_sorted (n := n) hasc
 rw [show ((fun p : ByteArray × Rec => p.1.data.toList) ∘ fun r => (keyR r, r)) = fun r => (keyR r).data.toList from rfl, this, List.map_map]
 conv => rhs; rw [← List.map_id (ofName n rs)]
 refine List.map_congr_left (fun r hr => ?_)
 simp only [Function.comp, atKey, id]
 have hl : lookA (keyR r) ((ofName n rs).map (fun r => (keyR r, r))) = some r := lookA_mem hA (List.mem_map.2 ⟨r, hr, rfl⟩)
 rw [show (⟨(keyR r).data.toList.toArray⟩ : ByteArray) = keyR r by simp, hl]
 rfl
end Go.Proofs.YtfgcmjpkgdjcfaaGreat

namespace Go.Proofs.YtfgcmjpkgdjcfaaGreat
open Go.RowKit Go.Maps Go.Sort Go.Shelf
open Go.WideElems (Fit rd rg rd_mk rg_of)
open Go.WideMaps (keyOf_string_mk)
set_option linter.unusedVariables false

theorem sortsK (m : Nat) : AnyZ.SortsIn Tryz.prog Tryz.sorted103_ren Fence.wide m :=
  ⟨fun blk off cap ss W hH hblk hsz => callsIn_wide.2 (AnyM.slices_Sort_string Tryz.sort126 blk off cap ss W hH hblk hsz),
   fun p cap W => callsIn_wide.2 (AnyM.slices_Sort_string_none Tryz.sort126 p cap W)⟩

/-- Whatever an element is. -/
def anyR (v : Value) : Option (DataW Unit × List MemPlace) := some (.nil, [])
theorem mapV_owns {w : World} {b : Nat} {ps : List (ByteArray × Value)} (h : MapV w b ps) (hl : ps.length ≤ maxLen) : ∃ D0 : DataW Unit, w.ownsMap Tryz.prog 9 anyR b ps.length D0 ∧ (strKeys D0).Perm (ps.map (fun p => p.1.data.toList)) ∧ Maps.size D0 = ps.length := by
  obtain ⟨es, clock, hb, hS, hK, rfl⟩ := h
  have hrd : ∀ x ∈ es.toList, rd Tryz.prog 9 anyR x = some (.string (toPV x).1.data.toList, .nil) := by
    intro x hx
    obtain ⟨s, h1, h2⟩ := hK x hx
    have hk := keyOf_string_mk (P := Tryz.prog) Tryz.underlying9 h2
    obtain ⟨key, val, born⟩ := x
    simp only at h1
    subst h1
    exact rd_mk (R := anyR) (yv := (.nil, [])) hk rfl
  have hrg : es.toList.map (rg Tryz.prog 9 anyR) = es.toList.map (fun x => (Lit.string (toPV x).1.data.toList, DataW.nil)) := List.map_congr_left (fun x hx => by rw [rg_of (hrd x hx)])
  refine ⟨_, ⟨es, clock, hb, ⟨by simpa using hl, hS, fun x hx => ⟨_, hrd x hx⟩⟩, by simp, rfl⟩, ?_, ?_⟩
  · rw [hrg]
    simp only [strKeys]
    have hp := WideShapes.sorted_perm (es.toList.map (fun x => (Lit.string (toPV x).1.data.toList, (DataW.nil : DataW Unit))))
    have h2 := hp.map (fun p => strOf p.1)
    rw [List.map_map] at h2 ⊢
    exact h2
  · simp [Maps.size, length_sorted]

theorem keysOf_in (mb : Option Nat) (W : World) : CallsIn Fence.wide 5 Tryz.prog 104 #[.map mb] W fun e w' => e = .returned (.func (.func 127) #[] #[.pointer (some ⟨W.heap.size, 0, none⟩)]) ∧ w' = W.alloc (.cells #[.map mb] 97) :=
  AnyZ.keys_in Tryz.keys104 Fence.wide 5 trivial rfl mb W

set_option maxHeartbeats 1000000 in
theorem sortedOf_in {w : World} {b : Nat} {ps : List (ByteArray × Value)} (h : MapV w b ps) (hl : ps.length ≤ 1000) :
    CallsIn Fence.wide 5 Tryz.prog 103 #[.func (.func 127) #[] #[.pointer (some ⟨w.heap.size, 0, none⟩)]] (w.alloc (.cells #[.map (some b)] 97)) fun e w' => ∃ v, e = .returned v ∧
      w'.ownsRow (w.heap.size + 1) 9 1 v ps.length ((keysP ps).map encStr) ∧ Below w.heap.size w w' := by
  obtain ⟨D0, hown, hperm, hsize⟩ := mapV_owns h (by unfold maxLen; omega)
  have hbl := hown.lt
  have hseq : SeqGives Fence.wide 2 Tryz.prog 127 #[.pointer (some ⟨w.heap.size, 0, none⟩)] encStr (fun ss => ss.Perm (strKeys D0)) (Maps.size D0) (w.alloc (.cells #[.map (some b)] 97)) :=
    AnyZ.keys_gives (ρ := Tryz.keys104_ren) { Tryz.keys104 with } Fence.wide _ trivial rfl (by omega) w.heap.size b ps.length D0 _ (by simp) (by simp) (by
      obtain ⟨es, clock, hb, Ft, hs, hD⟩ := hown
      exact ⟨es, clock, (Below.heap_alloc _ _ b hbl).trans hb, Ft, hs, hD⟩)
  have hS := AnyZ.sorted_in Tryz.sorted103 Fence.wide 5 trivial trivial trivial trivial rfl (by omega) (sortsK _) (enters_of Tryz.func126 (by kernel_rfl) rfl) 127 #[.pointer (some ⟨w.heap.size, 0, none⟩)] trivial (enters_of Tryz.func127 (by kernel_rfl) rfl) _ _ (by rw [hsize]; unfold maxLen; omega) (by rw [hsize]; omega) _ hseq
  refine hS.mono ?_
  rintro e w' ⟨v, ss, rfl, hp, hrow, _, hb⟩
  have e1 : ss.length = ps.length := by rw [hp.length_eq, hperm.length_eq, List.length_map]
  have e2 : ss.mergeSort (fun x y => decide (x ≤ y)) = keysP ps := mergeSort_of_perm (hp.trans hperm)
  rw [e1, e2] at hrow
  have zs : (w.alloc (.cells #[.map (some b)] 97)).heap.size = w.heap.size + 1 := World.size_alloc w _
  rw [zs] at hrow hb
  exact ⟨v, rfl, hrow, (below_alloc (w := w) _).trans (hb.mono (by omega))⟩

set_option maxHeartbeats 1000000 in
theorem sortedNil_in (w : World) :
    CallsIn Fence.wide 5 Tryz.prog 103 #[.func (.func 127) #[] #[.pointer (some ⟨w.heap.size, 0, none⟩)]] (w.alloc (.cells #[.map none] 97)) fun e w' => ∃ v, e = .returned v ∧
      w'.ownsRow (w.heap.size + 1) 9 1 v 0 [] ∧ Below w.heap.size w w' := by
  have hseq : SeqGives Fence.wide 2 Tryz.prog 127 #[.pointer (some ⟨w.heap.size, 0, none⟩)] encStr (fun ss : List (List UInt8) => ss = []) 0 (w.alloc (.cells #[.map none] 97)) :=
    AnyZ.keys_gives_nil (ρ := Tryz.keys104_ren) { Tryz.keys104 with } Fence.wide _ trivial rfl w.heap.size _ (by simp) (by simp)
  have hS := AnyZ.sorted_in Tryz.sorted103 Fence.wide 5 trivial trivial trivial trivial rfl (by omega) (sortsK _) (enters_of Tryz.func126 (by kernel_rfl) rfl) 127 #[.pointer (some ⟨w.heap.size, 0, none⟩)] trivial (enters_of Tryz.func127 (by kernel_rfl) rfl) _ 0 (Nat.zero_le _) (by omega) _ hseq
  refine hS.mono ?_
  rintro e w' ⟨v, ss, rfl, hp, hrow, _, hb⟩
  subst hp
  have zs : (w.alloc (.cells #[.map none] 97)).heap.size = w.heap.size + 1 := World.size_alloc w _
  rw [zs] at hrow hb
  have hr2 : w'.ownsRow (w.heap.size + 1) 9 1 v 0 ((([] : List (List UInt8)).mergeSort (fun x y => decide (x ≤ y))).map encStr) := hrow
  exact ⟨v, rfl, by simpa using hr2, (below_alloc (w := w) _).trans (hb.mono (by omega))⟩
end Go.Proofs.YtfgcmjpkgdjcfaaGreat

namespace Go.Proofs.YtfgcmjpkgdjcfaaGreat
open Go.RowKit
set_option linter.unusedVariables false

theorem info_sl : (Tryz.prog.info? 56).map (fun i => (i.zero, i.size, i.bytes)) = some (some (.slice none 0 0), 1, 24) := by kernel_rfl

set_option maxHeartbeats 2000000 in
set_option maxRecDepth 100000 in
theorem copyName_has {v : Value} {n : List (List Int)} {w : World} (h : HasL w v n) (hs : n.length ≤ 6) (hs2 : ∀ k, k < n.length → (n.getD k []).length ≤ 15) :
  Calls Tryz.prog 75 #[.agg #[v]] w fun e w' => ∃ v', e = .returned (.agg #[v']) ∧ OwnL w.heap.size 56 5 w' v' n ∧ Below w.heap.size w w' := by
 obtain ⟨a, cap, rfl, hcl, hcm⟩ := h.form
 unfold maxLen at hcm
 obtain ⟨hsz, h1, h2⟩ := box3 w (.cells #[.slice a n.length cap] 30) #[.slice none 0 0] #[.slice none 0 0] 30 30
 have bb : Below w.heap.size w (((w.alloc (.cells #[.slice a n.length cap] 30)).alloc (.cells #[.slice none 0 0] 30)).alloc (.cells #[.slice none 0 0] 30)) :=
  ((below_alloc _).alloc (below_alloc _).size _).alloc ((below_alloc _).alloc (below_alloc _).size _).size _
 have H := hide h
 clear h
 have HS2 := hide hs2
 clear hs2
 generalize hn : n.length = m at *
 have HN := hide hn
 clear hn
 go_enter Tryz.func75, Tryz.ntmps75
 go_wp2
 generalize ((w.alloc (.cells #[.slice a m cap] 30)).alloc (.cells #[.slice none 0 0] 30)).alloc (.cells #[.slice none 0 0] 30) = W at *
 go_loopw [9] (fun i wr => ∃ (k : Nat) (o : Value), k ≤ m ∧ i = .int .i64 k ∧ wr.heap[w.heap.size + 1]? = some (.cells #[.slice none 0 0] 30) ∧ wr.heap[w.heap.size + 1 + 1]? = some (.cells #[o] 30) ∧ OwnL (w.heap.size + 3) 56 5 wr o (n.take k) ∧ Below w.heap.size w wr) (fun i _ => m - (intOf i).toNat)
 case atStart => exact ⟨0, .slice none 0 0, Nat.zero_le _, rfl, h1, h2, ⟨[], by simpa using World.ownsRow_nil _ _ _ _, by simp, by simp⟩, bb⟩
 case round =>
  obtain ⟨k, o, hk, rfl, hr1, hr2, ho, hb⟩ := hrel
  by_cases hlt : k < m
  ·obtain ⟨b, off, u, rfl, hbl, hc, hu⟩ := ((unhide H).below hb).here (k := k) (by rw [unhide HN]; exact hlt)
   have hlk := unhide HS2 k hlt
   have htk := hide (show n.take (k + 1) = n.take k ++ [n.getD k []] by rw [List.take_succ_eq_append_getElem (by rw [unhide HN]; exact hlt)]; simp [show k < n.length by rw [unhide HN]; exact hlt])
   have htl : (n.take k).length = k := by rw [List.length_take, unhide HN]; omega
   generalize n.getD k [] = lab at *
   generalize n.take k = nk at *
   subst htl
   have HU := hide hu
   obtain ⟨ua, uc, rfl, _⟩ := hu.form
   clear hu
   obtain ⟨oa, oc, rfl, _⟩ := ho.hasL.form
   have hod := ho.below (below_drew (w := wr))
   clear ho
   have HO := hide hod
   obtain ⟨vs, hvs, hva, hvd⟩ := hod
   have hvl : vs.length = nk.length := by have := hvs.1; simpa using this
   have kd2 := block_kept (below_drew (w := wr)) hr2
   have kd1 := block_kept (below_drew (w := wr)) hr1
   have bd := below_next hb (below_drew (w := wr))
   have cod := block_one kd2
   have HUd := hide ((unhide HU).below below_drew)
   have HVS := hide hvs
   have HVA := hide hva
   have HVD := hide hvd
   have z3 := block_lt hr2
   have zb : w.heap.size + 3 ≤ wr.drew.heap.size := by show w.heap.size + 3 ≤ wr.heap.size; omega
   clear hva hvd hvs
   have KD2 := hide kd2
   have KD1 := hide kd1
   clear kd2 kd1
   go_wp2_with fail
   go_region_law (first
    | (refine step_append_row rfl (.tmp 14) (.tmp 17) 22 56 rfl Tryz.underlying22 info_sl (w.heap.size + 3) (.slice oa nk.length oc) _ vs [.slice u1a lab.length u1c] (by simp [Act.eval]) (by simp [Act.eval]) (by rw [hvl]; exact World.ownsRow.alloc (ownsRow_kept' (unhide HVS) (unhide B1)) _) (one_more w1 56 _) (by intro y hy; simp at hy; subst hy; rfl) (by rw [hvl]; simp; omega) (by have := (unhide B1).size; simp; omega) ?_; intro v2 w2 o2 g2; obtain ⟨p2, k2, y2⟩ := snoc_step g2 o2 rfl (unhide HVS) (unhide HVA) (unhide HVD) ((unhide B1).alloc (unhide B1).size _) ((unhide OU).alloc _) zb (by decide) (block_kept (below_alloc _) (block_kept (unhide B1) (unhide KD2))) (by decide); obtain ⟨v2a, v2c, rfl, _⟩ := p2.hasL.form; have co2 := block_one k2; have fo2 := block_frozen k2 0)
    | (go_simp; go_at_call 106; refine (copyBytes_reads (unhide HUd).reads (by omega)).mono ?_; rintro e w1 ⟨u1, rfl, ou, b1⟩; obtain ⟨u1a, u1c, rfl, _⟩ := ou.lies; have OU := hide ou; have B1 := hide b1; have co1 := block_one (block_kept b1 (unhide KD2)); have ca1 : ∀ o, (w1.alloc o).cell? ⟨w.heap.size + 1 + 1, 0, none⟩ = some (.slice oa nk.length oc) := (fun o => block_one (block_kept (below_alloc o) (block_kept b1 (unhide KD2)))); clear ou b1))
   all_goals
    go_wp2_with fail
    have k1 := (y2.block (w.heap.size + 1) (by omega)).trans (unhide KD1)
    refine ⟨⟨nk.length + 1, _, by omega, by go_num, block_other k1 (by omega) 0 _, block_set k2 _, ?_, (bd.trans (y2.mono (by omega))).setCell (by show w.heap.size ≤ w.heap.size + 1 + 1; omega) _⟩, by simp [intOf]; omega⟩
    rw [unhide htk]
    simp only [List.length_append, List.length_cons, List.length_nil] at p2
    exact p2.kept (grown_setCell _ _ _) (by show w.heap.size + 1 + 1 < _; omega)
  ·obtain rfl : k = m := by omega
   obtain ⟨oa, oc, rfl, _⟩ := ho.hasL.form
   have htk : n.take k = n := List.take_of_length_le (by rw [unhide HN]; omega)
   rw [htk] at ho
   have HLK := hide (show (n.take k).length = n.length by rw [htk])
   rw [unhide HLK] at hr2
   have HO := hide ho
   have c2 := block_one hr2
   have c1 := block_one hr1
   have f1 := block_frozen hr1 0
   have M1 := hide (block_set hr1 (.slice oa n.length oc))
   clear ho htk hr1 hr2 HLK
   go_wp2
   refine bodyPost_ret (results_cell_row rfl _ _ (w.heap.size + 1) 30 #[.slice oa n.length oc] (0, 0) _ rfl (unhide M1) Tryz.underlying30 rfl (by kernel_rfl)) rfl ?_
   exact ⟨_, rfl, ((unhide HO).kept (grown_setCell _ _ _) (by show w.heap.size + 1 < _; omega)).mono (by omega), hb.setCell (by show w.heap.size ≤ w.heap.size + 1; omega) _⟩
end Go.Proofs.YtfgcmjpkgdjcfaaGreat

namespace Go.Proofs.YtfgcmjpkgdjcfaaGreat
open Go.RowKit

section
variable {P : Program} {w : World}

theorem row_empty (B p : Nat) (e : TypeId) (hB : B ≤ p) (hp : w.heap[p]? = some (.cells #[] e)) : w.ownsRow B e 1 (.slice (some ⟨p, 0, none⟩) 0 0) 0 [] :=
 ⟨rfl, .inr ⟨p, 0, #[], rfl, hB, hp, Nat.le_refl _, Nat.zero_le _, rfl, rfl⟩⟩

theorem run_append_fresh (t ty e : TypeId) (z : Value) (bytes : Nat) (ht : P.underlying t = some (.slice e)) (hinfo : (P.info? e).map (fun i => (i.zero, i.size, i.bytes)) = some (some z, 1, bytes))
  (hzs : z.cells.size = 1) (hby : bytes ≤ 100) (B p : Nat) (hB : B ≤ p) (hp : w.heap[p]? = some (.cells #[] e)) (vx : Value) (us : List Value)
  (hr : (vx = .slice none 0 0 ∧ us = []) ∨ ∃ ad cap, vx = .slice (some ad) us.length cap ∧ ∀ j y, us[j]? = some y → w.cell? (ad.add j) = some y) (hu : ∀ y ∈ us, y.oneCell' = true)
  (hlen : us.length ≤ 1099511627776) :
  ∃ v' w', (Builtin.append_ #[t, t] ty #[.slice (some ⟨p, 0, none⟩) 0 0, vx]).run P w = .ok v' w' ∧ w'.ownsRow B e 1 v' us.length us ∧ Below w.heap.size w w' := by
 obtain ⟨i0, hi, hz0, hz1, hz2⟩ := info_parts hinfo
 have hown := row_empty B p e hB hp
 have hpl := block_lt hp
 rcases hr with ⟨rfl, rfl⟩ | ⟨ad, cap, rfl, hc⟩
 ·exact ⟨_, w, run_append_owned_none w B t ty e i0 1 ht hi _ 0 [] hown, hown, Below.refl _ _⟩
 ·have hbb : us.length * bytes ≤ 1099511627776 * 100 := Nat.mul_le_mul hlen hby
  obtain ⟨v', w', h1, h2, h3, _⟩ := run_append_own (P := P) w B t ty e i0 z 1 bytes ht hi hz0 hz1 hz2 hzs (by decide) _ 0 [] hown ad us.length cap us (by simp) hc hu (by unfold maxLen; omega) (by rw [Nat.zero_add]; omega) (by omega)
  refine ⟨v', w', h1, by simpa using h2, ⟨h3.os, h3.tape, h3.output, h3.size, fun k hk => ?_⟩⟩
  by_cases e1 : k = p
  ·subst e1
   by_cases h0 : us.length = 0
   ·have hus : us = [] := List.eq_nil_of_length_eq_zero h0
    subst hus
    rw [run_append_room (P := P) w t ty e i0 ht hi k 0 0 #[] hp ad ([] : List Value).length cap [] (by simp) (by simp) (by simp) (by simp) (by simp)] at h1
    simp only [Result.ok.injEq] at h1
    rw [← h1.2, hp]
    simpa using setRow_heap w k #[] #[] e _ hp
   ·rw [run_append_grow (P := P) w t ty e i0 z ht hi hz0 ⟨k, 0, none⟩ 0 0 [] (by simp) (by simp) ad us.length cap us (by simp [hz1]) hc (by omega) (by omega) (growslice_fits (by omega) (by rw [hz2, Nat.zero_add]; omega))] at h1
    simp only [Result.ok.injEq] at h1
    rw [← h1.2]
    exact heap_alloc_old w.drew _ hk
  ·exact h3.block k hk (by simp [Value.ownBlock]; omega)

/-- 'append([]T{}, x...)' as a step of a region, with the literal at p. -/
theorem step_fresh {ops : Array Oper} {o : Oper} {a : Act} {K : Act → World → Prop} {Q : Exit → Act → World → Prop} {E : Prop} (hgd : o.guard = none) (s x : Operand) (t e : TypeId)
  (ho : o.op = .call { callee := .builtin .append, args := #[s, x], argTypes := #[t, t] }) (ht : P.underlying t = some (.slice e)) (z : Value) (bytes : Nat)
  (hinfo : (P.info? e).map (fun i => (i.zero, i.size, i.bytes)) = some (some z, 1, bytes)) (hzs : z.cells.size = 1) (hby : bytes ≤ 100) (B p : Nat) (hB : B ≤ p) (hp : w.heap[p]? = some (.cells #[] e)) (vx : Value) (us : List Value)
  (hs : a.eval s = .slice (some ⟨p, 0, none⟩) 0 0) (hx : a.eval x = vx)
  (hr : (vx = .slice none 0 0 ∧ us = []) ∨ ∃ ad cap, vx = .slice (some ad) us.length cap ∧ ∀ j y, us[j]? = some y → w.cell? (ad.add j) = some y) (hu : ∀ y ∈ us, y.oneCell' = true)
  (hlen : us.length ≤ 1099511627776)
  (h : ∀ v' w', w'.ownsRow B e 1 v' us.length us → Below w.heap.size w w' → K (a.put o.dst v') w') : if Region.wanted o (yielded ops a.tmps) = true then Oper.wp P o a w K Q else E := by
 have hw : Region.wanted o (yielded ops a.tmps) = true := by simp [Region.wanted, hgd]
 rw [if_pos hw]
 obtain ⟨v', w', hr', h2, h3⟩ := run_append_fresh (P := P) t o.type e z bytes ht hinfo hzs hby B p hB hp vx us hr hu hlen
 unfold Oper.wp execOp
 simp only [ho, resolve, invoke, builtin, Sem.run_bind, Sem.run_pure, Result.andThen_ok, List.map_toArray, List.map_cons, List.map_nil, hs, hx, hr']
 exact h v' w' h2 h3
end
theorem Has.readsV {w : World} {v : Value} {l : List Int} (h : Has w v l) : (v = .slice none 0 0 ∧ l.map (Value.int .u8) = []) ∨ ∃ ad cap, v = .slice (some ad) (l.map (Value.int .u8)).length cap ∧ ∀ j y, (l.map (Value.int .u8))[j]? = some y → w.cell? (ad.add j) = some y := by
 rcases h.reads with ⟨h1, h2⟩ | ⟨ad, cap, h1, h2⟩
 ·exact .inl ⟨h1, by rw [h2]; rfl⟩
 ·exact .inr ⟨ad, cap, by rw [List.length_map]; exact h1, news_of h2⟩
theorem HasI.readsV {w : World} {v : Value} {l : List Int} (h : HasI w v l) : (v = .slice none 0 0 ∧ l.map (Value.int .i64) = []) ∨ ∃ ad cap, v = .slice (some ad) (l.map (Value.int .i64)).length cap ∧ ∀ j y, (l.map (Value.int .i64))[j]? = some y → w.cell? (ad.add j) = some y := by
 rcases h with ⟨h1, h2⟩ | ⟨g, off, cap, h1, _, _, _, h2⟩
 ·exact .inl ⟨h1, by rw [h2]; rfl⟩
 ·refine .inr ⟨⟨g, off, none⟩, cap, by rw [List.length_map]; exact h1, fun j y hj => ?_⟩
  have hj2 : j < l.length := by
   have := (List.getElem?_eq_some_iff.1 hj).1
   simpa using this
  rw [map_atI l j hj2] at hj
  rw [← hj, Addr.add_lit]
  exact h2 j hj2
theorem one_ofI (l : List Int) : ∀ u ∈ l.map (Value.int .i64), u.oneCell' = true := by
 intro u hu
 obtain ⟨x, _, rfl⟩ := List.mem_map.1 hu
 rfl
end Go.Proofs.YtfgcmjpkgdjcfaaGreat
