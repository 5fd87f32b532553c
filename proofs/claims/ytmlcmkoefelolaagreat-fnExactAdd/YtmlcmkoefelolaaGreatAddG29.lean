/-
  Plain facts: what an update asks for. No program is named here. Plain facts: what Drop and DropSet answer, and how large a zone's book is. No program is named here. Plain facts: what Add answers, and how large the book behind it is. No program is named here. Contract of the program's add.
-/
import Derived.Test.YtmlcmkoefelolaaGreatAddG11
import Derived.Test.YtmlcmkoefelolaaGreatAddG28
import Derived.Test.YtmlcmkoefelolaaGreatAddG12
import Derived.Test.YtmlcmkoefelolaaGreatAddG05
import Derived.Test.YtmlcmkoefelolaaGreatAddG25
import Derived.Test.YtmlcmkoefelolaaGreatAddG23
namespace Go.Proofs.YtmlcmkoefelolaaGreat
open Go.RowKit
set_option linter.unusedVariables false

def asked (t : Int) : Bool := typeOk t || decide (t = 255)
end Go.Proofs.YtmlcmkoefelolaaGreat

namespace Go.Proofs.YtmlcmkoefelolaaGreat
open Go.RowKit
set_option linter.unusedVariables false

/-- At most m pages of at most m records. -/
def SizeB (m : Nat) (B : Bk) : Prop := B.length ≤ m ∧ ∀ q ∈ B, q.2.length ≤ m
theorem putA_length {κ α : Type} [DecidableEq κ] {k : κ} {v : α} : ∀ {l : List (κ × α)}, (putA k v l).length ≤ l.length + 1
 | [] => by simp [putA]
 | (a, u) :: t => by
  unfold putA
  split
  ·simp
  ·have := putA_length (k := k) (v := v) (l := t)
   simp only [List.length_cons]
   omega
theorem delA_length {κ β : Type} [DecidableEq κ] {k : κ} : ∀ {l : List (κ × β)}, (delA k l).length ≤ l.length
 | [] => by simp [delA]
 | (a, u) :: t => by
  unfold delA
  split
  ·simp
  ·have := delA_length (k := k) (l := t)
   simp only [List.length_cons]
   omega
theorem SizeB.put {m : Nat} {B : Bk} (h : SizeB m B) (kn kd : ByteArray) (r : Rec) : SizeB (m + 1) (bkPut kn kd r B) := by
 unfold bkPut
 refine ⟨Nat.le_trans putA_length (by have := h.1; omega), fun q hq => ?_⟩
 rcases mem_putA hq with rfl | hq
 ·refine Nat.le_trans putA_length ?_
  have : ((lookA kn B).getD []).length ≤ m := by
   cases hl : lookA kn B with
   | none => simp
   | some P => exact h.2 _ (lookA_in hl)
  omega
 ·have := h.2 q hq
  omega
theorem SizeB.mono {m m' : Nat} {B : Bk} (h : SizeB m B) (hm : m ≤ m') : SizeB m' B := ⟨Nat.le_trans h.1 hm, fun q hq => Nat.le_trans (h.2 q hq) hm⟩
theorem SizeB.del {m : Nat} {B : Bk} (h : SizeB m B) (kn kd : ByteArray) : SizeB m (bkDel kn kd B) := by
 unfold bkDel
 refine ⟨by rw [List.length_map]; exact h.1, fun q hq => ?_⟩
 obtain ⟨x, hx, rfl⟩ := List.mem_map.1 hq
 split
 ·exact Nat.le_trans delA_length (h.2 x hx)
 ·exact h.2 x hx
theorem SizeB.drop {m : Nat} {B : Bk} (h : SizeB m B) (r : Rec) : SizeB m (bkDrop r B).1 := by
 unfold bkDrop
 split
 ·exact h.del _ _
 ·exact h
theorem bookZ_size : ∀ (rs : List Rec) (m : Nat) (B : Bk), SizeB m B → SizeB (m + rs.length) (rs.foldl (fun B r => bkPut (strOfNums (keyN r.name)) (keyR r) r B) B)
 | [], m, B, h => h
 | r :: t, m, B, h => by
  have := bookZ_size t (m + 1) _ (h.put (strOfNums (keyN r.name)) (keyR r) r)
  simp only [List.foldl_cons, List.length_cons]
  exact this.mono (by omega)
theorem book_60 {o : List (List Int)} {rs : List Rec} (hz : zoneOk o rs = true) : SizeB 60 (bookZ rs) :=
 (bookZ_size rs 0 [] ⟨Nat.le_refl _, fun q hq => by simp at hq⟩).mono (by have := (zone_short hz).2.2; omega)
theorem good_short {B : Bk} (h : GoodB B) : ∀ q ∈ B, ∀ x ∈ q.2, ShortR x.2 := fun q hq x hx => short_rec ((h.pages q hq).keys x hx).2.1

theorem zone_size {o : List (List Int)} {rs : List Rec} (ho : nameOk o = true) (h60 : rs.length ≤ 60) (hr : ∀ i, i < rs.length → rrOk (rs.getD i recZ) = true) : SizeZ 1048576 o rs :=
 ⟨Nat.le_trans (nameOk_parts ho).1 (by omega), fun i hi => Nat.le_trans (labelOk_length ((nameOk_parts ho).2 i hi)).2 (by omega), by omega, fun i hi => size_of_short (short_rec (hr i hi))⟩
end Go.Proofs.YtmlcmkoefelolaaGreat

namespace Go.Proofs.YtmlcmkoefelolaaGreat
open Go.RowKit
set_option linter.unusedVariables false

/-- A record, with another one's time. -/
def withTtl (r x : Rec) : Rec := ⟨x.name, x.type, r.ttl, x.addr, x.to, x.text, x.nums⟩
def addOf (o : List (List Int)) (rs : List Rec) (r : Rec) : (List (List Int) × List Rec) × Bool :=
 if zoneOk o rs = true ∧ rrOk r = true then (if zoneOk o (addL r rs false) = true then ((o, addL r rs false), true) else ((o, rs), false)) else (([], []), false)
theorem add_size (o : List (List Int)) (rs : List Rec) (r : Rec) : SizeZ 1048576 (addOf o rs r).1.1 (addOf o rs r).1.2 := by
 have key : ∀ q : List Rec, zoneOk o q = true → SizeZ 1048576 o q := fun q hq => zone_size (of_decide_eq_true hq).1 (zone_short hq).2.2 (zone_oks hq)
 unfold addOf
 by_cases h : zoneOk o rs = true ∧ rrOk r = true
 ·rw [if_pos h]
  by_cases h2 : zoneOk o (addL r rs false) = true
  ·rw [if_pos h2]; exact key _ h2
  ·rw [if_neg h2]; exact key _ h.1
 ·rw [if_neg h]
  exact ⟨Nat.zero_le _, fun i hi => absurd hi (Nat.not_lt_zero _), Nat.zero_le _, fun i hi => absurd hi (Nat.not_lt_zero _)⟩
/-- What add finds of the record's set, once the record is put. -/
def setA (r : Rec) (B : Bk) : List Rec := setB r.name r.type (bkPut (strOfNums (keyN r.name)) (keyR r) r B)
theorem setA_ok {B : Bk} (h : GoodB B) {r : Rec} (hr : rrOk r = true) : ∀ x ∈ setA r B, rrOk x = true ∧ rrOk (withTtl r x) = true := fun x hx => by
 have hB1 := h.put hr
 have hm := (mem_setB hB1 (rrOk_parts hr).1).1 hx
 have h1 := InB.ok hB1 hm.1
 refine ⟨h1, ?_⟩
 have := upd_ok hr h1
 rwa [upd_set hm.2.1 ((selT_type (type_small hr).2).1 hm.2.2)] at this
theorem bkAdd_is (r : Rec) (B : Bk) : bkAdd r B = putAll ((setA r B).map (withTtl r)) (bkPut (strOfNums (keyN r.name)) (keyR r) r B) := rfl
theorem putAll_step {r : Rec} {L : List Rec} {k : Nat} {B : Bk} (h : k < L.length) : putAll ((L.take (k + 1)).map (withTtl r)) B = bkPut (strOfNums (keyN (L.getD k recZ).name)) (strOfNums (keyD (withTtl r (L.getD k recZ)))) (withTtl r (L.getD k recZ)) (putAll ((L.take k).map (withTtl r)) B) := by
 have e : L.take (k + 1) = L.take k ++ [L.getD k recZ] := by
  rw [List.take_succ_eq_append_getElem h, List.getD_eq_getElem?_getD, List.getElem?_eq_getElem h]
  rfl
 rw [e, List.map_append]
 unfold putAll
 rw [List.foldl_append]
 rfl
theorem putAll_size {L : List Rec} {B : Bk} {m : Nat} (h : SizeB m B) : SizeB (m + L.length) (putAll L B) := bookZ_size L m B h
theorem setB_length {n : List (List Int)} {t : Int} {B : Bk} {m : Nat} (h : SizeB m B) : (setB n t B).length ≤ m := by
 unfold setB
 refine Nat.le_trans (List.length_filter_le _ _) ?_
 unfold sortP
 rw [List.length_map, keysP_length]
 cases hl : lookA (strOfNums (keyN n)) B with
 | none => simp
 | some P => exact h.2 _ (lookA_in hl)
theorem page_fits {B : Bk} (hg : GoodB B) {m : Nat} (hm : SizeB m B) (h : m ≤ 1000) (kn : ByteArray) : ((lookA kn B).getD []).length ≤ 1000 ∧ ∀ x ∈ (lookA kn B).getD [], ShortR x.2 := by
 cases hl : lookA kn B with
 | none => exact ⟨by simp, fun x hx => by simp at hx⟩
 | some P => exact ⟨Nat.le_trans (hm.2 _ (lookA_in hl)) h, fun x hx => good_short hg _ (lookA_in hl) x hx⟩
theorem addL_length {r : Rec} : ∀ (rs : List Rec) (put : Bool), (addL r rs put).length ≤ 2 * rs.length + 1
 | [], put => by unfold addL; split <;> simp
 | x :: t, put => by
  have := addL_length (r := r) t (put || decide (cmpR r x ≤ 0))
  unfold addL
  simp only [List.length_append, List.length_cons]
  split <;> split <;> simp only [List.length_cons, List.length_nil] <;> omega
end Go.Proofs.YtmlcmkoefelolaaGreat

namespace Go.Proofs.YtmlcmkoefelolaaGreat
open Go.RowKit Go.Shelf
set_option linter.unusedVariables false

set_option maxHeartbeats 4000000 in
set_option maxRecDepth 100000 in
theorem bookAdd_has {n0 b : Nat} {B : Bk} {vn vt vx vi : Value} {r : Rec} {w : World} (hB : BookM n0 w b B) (hg : GoodB B) (h60 : SizeB 60 B) (h : HasR w vn vt vx vi r) (hok : rrOk r = true) (hz : n0 ≤ w.heap.size) :
  Calls Tryz.prog 68 #[.map (some b), .agg #[vn, .int .i64 r.type, .int .i64 r.ttl, .int .i64 r.addr, vt, vx, vi]] w fun e w' => (∃ v, e = .returned v) ∧ BookM n0 w' b (bkAdd r B) ∧ KeptO w w' ∧ Below n0 w w' := by
 obtain ⟨na, nc, rfl, _⟩ := h.name.form
 obtain ⟨ta, tc, rfl, _⟩ := h.to.form
 obtain ⟨xa, xc, rfl, _⟩ := h.text.form
 obtain ⟨ia, ic, rfl, _⟩ := h.nums.form
 have b0 := below_alloc (w := w) (.cells #[.slice na r.name.length nc, .int .i64 r.type, .int .i64 r.ttl, .int .i64 r.addr, .slice ta r.to.length tc, .slice xa r.text.length xc, .slice ia r.nums.length ic] 52)
 have k0 := heap_alloc_new w (.cells #[.slice na r.name.length nc, .int .i64 r.type, .int .i64 r.ttl, .int .i64 r.addr, .slice ta r.to.length tc, .slice xa r.text.length xc, .slice ia r.nums.length ic] 52)
 have PT := hide (bookPut_has (hB.below b0) (h.below b0) hok (by have := b0.size; omega))
 have hgp := hg.put hok
 have hsp := h60.put (strOfNums (keyN r.name)) (strOfNums (keyD r)) r
 have hpf := page_fits hgp hsp (by omega) (strOfNums (keyN r.name))
 have hsl : (setA r B).length ≤ 61 := setB_length hsp
 have hsok := setA_ok hg hok
 have hsn := short_name (rrOk_parts hok).1
 rw [bkAdd_is]
 generalize hL : setA r B = L at *
 have HLdef := hide hL
 generalize hB1 : bkPut (strOfNums (keyN r.name)) (keyR r) r B = B1 at *
 replace hB1 : bkPut (strOfNums (keyN r.name)) (strOfNums (keyD r)) r B = B1 := hB1
 rw [hB1] at PT
 have hset : (sortP ((lookA (strOfNums (keyN r.name)) B1).getD [])).filter (selT r.type) = L := by
  rw [← hL, ← hB1]
  rfl
 have HSET := hide hset
 have HPF := hide hpf
 have HSOK := hide hsok
 have HN := hide h.name
 have KX := hide k0
 obtain ⟨c0, c1, c2, c3, c4, c5, c6⟩ := cells7 k0
 have B0 := hide b0
 clear hB hg h60 h k0 hgp hsp hpf hsok hL hset hB1 b0
 go_enter Tryz.func68, Tryz.ntmps68
 go_wp2_with fail
 refine (unhide PT).mono ?_
 rintro e w1 ⟨⟨v1, rfl⟩, hB1, ko1, b1⟩
 have KO1 := (keptO_below (unhide B0)).trans ko1
 have BB1 : Below n0 w w1 := ((unhide B0).mono hz).trans b1
 have kx1 := ko1.2 _ _ (unhide KX) rfl
 have hn1 := (unhide HN).keptX KO1.x
 have SB := hide ((callsIn_wide (n := 7)).1 (set_in r.type hB1 hn1 hsn (unhide HPF).1 (unhide HPF).2))
 rw [unhide HSET] at SB
 have HB1 := hide hB1
 clear c0 c1 c2 c3 c4 c5 c6 PT ko1 b1 KX B0
 obtain ⟨c0, c1, c2, c3, c4, c5, c6⟩ := cells7 kx1
 have KX1 := hide kx1
 have HKO1 := hide KO1
 have HBB1 := hide BB1
 have zz1 := BB1.size
 clear kx1 KO1 BB1 hB1 hn1
 go_wp2_with fail
 refine (unhide SB).mono ?_
 rintro e w2 ⟨u2, rfl, o2, b2⟩
 obtain ⟨la, lc, rfl, _⟩ := o2.form
 have HL2 := hide o2
 have HB2 := hide ((unhide HB1).below b2)
 have KX2 := hide (block_kept b2 (unhide KX1))
 have KO2 := hide ((unhide HKO1).trans (keptO_below b2))
 have BB2 := hide ((unhide HBB1).trans (b2.mono (by omega)))
 have z2 := b2.size
 generalize hm : L.length = m at *
 have HM := hide hm
 clear c0 c1 c2 c3 c4 c5 c6 SB o2 b2 KX1 HKO1 HBB1 HB1 hm
 go_wp2_with fail
 go_loopw [16] (fun i wr => ∃ k : Nat, k ≤ m ∧ i = .int .i64 k ∧ BookM n0 wr b (putAll ((L.take k).map (withTtl r)) B1) ∧ KeptO w2 wr ∧ Below n0 w2 wr) (fun i _ => m - (intOf i).toNat)
 case atStart => exact ⟨0, Nat.zero_le _, rfl, by rw [List.take_zero]; exact unhide HB2, KeptO.refl _, Below.refl _ _⟩
 case round =>
  obtain ⟨k, hk, rfl, hBk, hko, hbk⟩ := hrel
  have zk := hbk.size
  by_cases hlt : k < m
  ·obtain ⟨g, off, pa, pc, qa, qc, ya, yc, ja, jc, rfl, hbl, hc, hu⟩ := ((unhide HL2).keptC (fun g c t q => hko.2 g _ q rfl)).has.here (k := k) (by rw [unhide HM]; exact hlt)
   have hkl : k < L.length := by rw [unhide HM]; exact hlt
   have hmem : L.getD k recZ ∈ L := by
    rw [List.getD_eq_getElem?_getD, List.getElem?_eq_getElem hkl]
    exact List.getElem_mem hkl
   have hrk := (unhide HSOK _ hmem).2
   have hstep := putAll_step (r := r) (L := L) (k := k) (B := B1) hkl
   generalize hrkk : L.getD k recZ = rk at *
   have bx := below_alloc (w := wr) (.cells #[.slice pa rk.name.length pc, .int .i64 rk.type, .int .i64 r.ttl, .int .i64 rk.addr, .slice qa rk.to.length qc, .slice ya rk.text.length yc, .slice ja rk.nums.length jc] 52)
   have kx := heap_alloc_new wr (.cells #[.slice pa rk.name.length pc, .int .i64 rk.type, .int .i64 r.ttl, .int .i64 rk.addr, .slice qa rk.to.length qc, .slice ya rk.text.length yc, .slice ja rk.nums.length jc] 52)
   have hu' : HasR wr (.slice pa rk.name.length pc) (.slice qa rk.to.length qc) (.slice ya rk.text.length yc) (.slice ja rk.nums.length jc) (withTtl r rk) := ⟨hu.name, hu.to, hu.text, hu.nums⟩
   have PT := hide (bookPut_has (hBk.below bx) (hu'.below bx) hrk (by have := bx.size; omega))
   obtain ⟨c0, c1, c2, c3, c4, c5, c6⟩ := range7 hc
   obtain ⟨r0, r1, r2, r3, r4, r5, r6⟩ := cells7 (block_kept (below_alloc (w := wr) (.cells #[.slice pa rk.name.length pc, .int .i64 rk.type, .int .i64 rk.ttl, .int .i64 rk.addr, .slice qa rk.to.length qc, .slice ya rk.text.length yc, .slice ja rk.nums.length jc] 52)) (hko.2 _ _ (unhide KX2) rfl))
   obtain ⟨x0, x1, x2, x3, x4, x5, x6⟩ := cells7 kx
   have hkm : (k : Int) < m := by omega
   have KO3 := hide (hko.trans (keptO_below bx))
   have BK3 := hide (hbk.trans (bx.mono (by omega)))
   have HSTEP := hide hstep
   clear hc hu hu' hrkk hBk hko hbk bx kx hstep hmem
   go_wp2_with fail
   clear c0 c1 c2 c3 c4 c5 c6 x0 x1 x2 x3 x4 x5 x6 r0 r1 r2 r3 r4 r5 r6
   refine (show Calls _ _ #[.map (some b), .agg #[.slice pa rk.name.length pc, .int .i64 rk.type, .int .i64 r.ttl, .int .i64 rk.addr, .slice qa rk.to.length qc, .slice ya rk.text.length yc, .slice ja rk.nums.length jc]] _ _ from unhide PT).mono ?_
   rintro e w6 ⟨⟨v6, rfl⟩, hB6, ko6, b6⟩
   go_wp2_with fail
   exact ⟨⟨k + 1, by omega, by go_num, by rw [unhide HSTEP]; exact hB6, (unhide KO3).trans ko6, (unhide BK3).trans b6⟩, by simp [intOf]; omega⟩
  ·obtain rfl : k = m := by omega
   have hall : L.take k = L := List.take_of_length_le (by rw [unhide HM]; exact Nat.le_refl _)
   rw [hall] at hBk
   go_wp2_with fail
   go_end0
   exact ⟨⟨_, rfl⟩, hBk, (unhide KO2).trans hko, (unhide BB2).trans hbk⟩
end Go.Proofs.YtmlcmkoefelolaaGreat
