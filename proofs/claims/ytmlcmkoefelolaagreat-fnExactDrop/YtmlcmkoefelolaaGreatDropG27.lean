/-
  Plain facts: a record put into a zone, as the specification does it and as a book does. No program is named here. Plain facts: what a book does to add a record is what the specification does. No program is named here. Plain facts: what a book does to drop records of a name and a type is what the specification does. No program is named here. Contract of the program's bookOf: the book of a zone's records.
-/
import Derived.Test.YtmlcmkoefelolaaGreatDropG26
import Derived.Test.YtmlcmkoefelolaaGreatDropG18
import Derived.Test.YtmlcmkoefelolaaGreatDropG05
import Derived.Test.YtmlcmkoefelolaaGreatDropG02
namespace Go.Proofs.YtmlcmkoefelolaaGreat
open Go.RowKit
set_option linter.unusedVariables false

end Go.Proofs.YtmlcmkoefelolaaGreat

namespace Go.Proofs.YtmlcmkoefelolaaGreat
open Go.RowKit
set_option linter.unusedVariables false

/-- The book has the record. -/
def InB (B : Bk) (x : Rec) : Prop := ∃ q ∈ B, (keyR x, x) ∈ q.2
theorem InB.ok {B : Bk} (h : GoodB B) {x : Rec} (hx : InB B x) : rrOk x = true := by
 obtain ⟨q, hq, hm⟩ := hx
 exact ((h.pages q hq).keys _ hm).2.1
theorem cmpR_type {a b : Rec} (h : cmpR a b = 0) : a.type = b.type := by
 unfold cmpR at h
 by_cases e : cmpN a.name b.name = 0
 ·rw [if_neg (by simp [e])] at h
  by_cases q : byLength a.type b.type = 0
  ·exact byLength_zero q
  ·rw [if_pos q] at h
   exact absurd h q
 ·rw [if_pos e] at h
  exact absurd h e
end Go.Proofs.YtmlcmkoefelolaaGreat

namespace Go.Proofs.YtmlcmkoefelolaaGreat
open Go.RowKit
set_option linter.unusedVariables false

/-- What drop does to a book, and what it says: the one record of its type that makes a zone stays. -/
def bkDrop (r : Rec) (B : Bk) : Bk × Bool := if (lookA (keyR r) ((lookA (strOfNums (keyN r.name)) B).getD [])).isSome = true ∧ r.type ≠ 6 then (bkDel (strOfNums (keyN r.name)) (keyR r) B, true) else (B, false)
theorem had_iff {B : Bk} (h : GoodB B) {r : Rec} (hr : rrOk r = true) : (lookA (keyR r) ((lookA (strOfNums (keyN r.name)) B).getD [])).isSome = true ↔ ∃ x, InB B x ∧ cmpR x r = 0 := by
 have hp := h.page (strOfNums (keyN r.name))
 constructor
 ·intro hs
  obtain ⟨x, hx⟩ := Option.isSome_iff_exists.1 hs
  have hm := lookA_in hx
  have hk := hp.keys _ hm
  simp only at hk
  obtain ⟨P, p1, p2⟩ := page_of _ B hm
  rw [hk.1] at p2
  exact ⟨x, ⟨_, p1, p2⟩, (cmpR_zero_iff hk.2.1 hr).2 ⟨(keyN_inj (rrOk_parts hr).1 (rrOk_parts hk.2.1).1 hk.2.2).symm, hk.1.symm⟩⟩
 ·rintro ⟨x, ⟨q, hq, hm⟩, hc⟩
  have hk := (h.pages q hq).keys _ hm
  simp only at hk
  obtain ⟨e1, e2⟩ := (cmpR_zero_iff hk.2.1 hr).1 hc
  have hl := lookA_mem h.apart (k := q.1) (v := q.2) hq
  rw [hk.2.2, e1] at hl
  rw [hl, Option.getD_some, ← e2, lookA_mem (h.pages q hq).apart hm]
  rfl
theorem bkDrop_good {B : Bk} (h : GoodB B) (r : Rec) : GoodB (bkDrop r B).1 := by
 unfold bkDrop
 split
 ·exact h.del _ _
 ·exact h
theorem bkDrop_mem {B : Bk} (h : GoodB B) {r : Rec} (hr : rrOk r = true) {x : Rec} (hx : rrOk x = true) : InB (bkDrop r B).1 x ↔ InB B x ∧ ¬ (cmpR x r = 0 ∧ r.type ≠ 6) := by
 unfold bkDrop
 by_cases e : (lookA (keyR r) ((lookA (strOfNums (keyN r.name)) B).getD [])).isSome = true ∧ r.type ≠ 6
 ·rw [if_pos e]
  rw [show InB (bkDel (strOfNums (keyN r.name)) (keyR r) B) x ↔ _ from bkDel_mem h hr hx]
  constructor
  ·rintro ⟨h1, h2⟩
   exact ⟨h1, fun q => h2 q.1⟩
  ·rintro ⟨h1, h2⟩
   exact ⟨h1, fun q => h2 ⟨q, e.2⟩⟩
 ·rw [if_neg e]
  constructor
  ·intro hx'
   refine ⟨hx', fun q => e ⟨(had_iff h hr).2 ⟨x, hx', q.1⟩, q.2⟩⟩
  ·exact fun q => q.1
end Go.Proofs.YtmlcmkoefelolaaGreat

namespace Go.Proofs.YtmlcmkoefelolaaGreat
open Go.RowKit
set_option linter.unusedVariables false

/-- The book of these records. -/
def bookIn (rs : List Rec) : Bk := rs.foldl (fun B r => bkPut (strOfNums (keyN r.name)) (strOfNums (keyD r)) r B) []
theorem bookIn_snoc (rs : List Rec) (r : Rec) : bookIn (rs ++ [r]) = bkPut (strOfNums (keyN r.name)) (strOfNums (keyD r)) r (bookIn rs) := by simp [bookIn]

set_option maxHeartbeats 2000000 in
set_option maxRecDepth 100000 in
theorem bookOf_has {vo vr : Value} {o : List (List Int)} {rs : List Rec} {w : World} (h : HasZ w vo vr o rs) (hok : ∀ i, i < rs.length → rrOk (rs.getD i recZ) = true) (hlen : rs.length ≤ 1000) :
  Calls Tryz.prog 51 #[.agg #[vo, vr]] w fun e w' => e = .returned (.map (some (w.heap.size + 1))) ∧ BookM w.heap.size w' (w.heap.size + 1) (bookIn rs) ∧ Below w.heap.size w w' := by
 obtain ⟨oa, oc, rfl, _⟩ := h.name.form
 obtain ⟨ra, rc, rfl, _⟩ := h.recs.form
 have b0 := below_alloc (w := w) (.cells #[.slice oa o.length oc, .slice ra rs.length rc] 34)
 have k0 := heap_alloc_new w (.cells #[.slice oa o.length oc, .slice ra rs.length rc] 34)
 have z0 : (w.alloc (.cells #[.slice oa o.length oc, .slice ra rs.length rc] 34)).heap.size = w.heap.size + 1 := World.size_alloc w _
 have hmk := run_makeMap (P := Tryz.prog) 79 (w.alloc (.cells #[.slice oa o.length oc, .slice ra rs.length rc] 34))
 have b1 := below_alloc (w := w.alloc (.cells #[.slice oa o.length oc, .slice ra rs.length rc] 34)) (.map #[] 0)
 have BM := hide (bookM_made (n0 := w.heap.size) (w.alloc (.cells #[.slice oa o.length oc, .slice ra rs.length rc] 34)) (by omega))
 obtain ⟨c0, c1⟩ := cells2 (block_kept b1 k0)
 have bb := below_next b0 b1
 have HT := hide h.recs
 have HOK := hide hok
 clear h hok b0 b1 k0
 generalize hm : rs.length = m at *
 have HM := hide hm
 go_enter Tryz.func51, Tryz.ntmps51
 go_wp2_with fail
 clear c0 c1 hmk hm
 rw [z0] at BM
 clear z0
 generalize (w.alloc (.cells #[.slice oa o.length oc, .slice ra m rc] 34)).alloc (.map #[] 0) = W at *
 go_loopw [10] (fun i wr => ∃ k : Nat, k ≤ m ∧ i = .int .i64 k ∧ BookM w.heap.size wr (w.heap.size + 1) (bookIn (rs.take k)) ∧ Below w.heap.size w wr) (fun i _ => m - (intOf i).toNat)
 case atStart => exact ⟨0, Nat.zero_le _, rfl, by simpa [bookIn] using unhide BM, bb⟩
 case round =>
  obtain ⟨k, hk, rfl, hBk, hbl⟩ := hrel
  by_cases hlt : k < m
  ·obtain ⟨b, off, na, nc, ta, tc, xa, xc, ia, ic, rfl, hb1, hc, hR⟩ := (unhide HT).here (k := k) (by rw [unhide HM]; exact hlt)
   have hsk := unhide HOK k hlt
   have htk := hide (show rs.take (k + 1) = rs.take k ++ [rs.getD k recZ] by rw [List.take_succ_eq_append_getElem (by rw [unhide HM]; exact hlt)]; simp [show k < rs.length by rw [unhide HM]; exact hlt])
   obtain ⟨c0, c1, c2, c3, c4, c5, c6⟩ := range7 (range_below hc hb1 hbl)
   generalize rs.getD k recZ = r at *
   have ba := below_alloc (w := wr) (.cells #[.slice na r.name.length nc, .int .i64 r.type, .int .i64 r.ttl, .int .i64 r.addr, .slice ta r.to.length tc, .slice xa r.text.length xc, .slice ia r.nums.length ic] 52)
   obtain ⟨d0, d1, d2, d3, d4, d5, d6⟩ := cells7 (heap_alloc_new wr (.cells #[.slice na r.name.length nc, .int .i64 r.type, .int .i64 r.ttl, .int .i64 r.addr, .slice ta r.to.length tc, .slice xa r.text.length xc, .slice ia r.nums.length ic] 52))
   have HP := hide (bookPut_has (hBk.below ba) ((hR.below hbl).below ba) hsk (Nat.le_trans hbl.size ba.size))
   have HB := hide (below_next hbl ba)
   clear ba hc hR hsk hbl hBk
   go_wp2_with fail
   refine (unhide HP).mono ?_
   rintro e w3 ⟨⟨v3, rfl⟩, hB3, hK3, hb3⟩
   have hb4 := (unhide HB).trans hb3
   clear HP HB d0 d1 d2 d3 d4 d5 d6 c0 c1 c2 c3 c4 c5 c6 hb3 hK3
   go_wp2
   go_roundw
   case rel => exact ⟨k + 1, by omega, by go_num, by rw [unhide htk, bookIn_snoc]; exact hB3, hb4⟩
   case measure => simp [intOf]; omega
  ·obtain rfl : k = m := by omega
   have hall : rs.take k = rs := List.take_of_length_le (by rw [unhide HM]; exact Nat.le_refl _)
   rw [hall] at hBk
   clear hall
   go_wp2
   go_ret
   exact ⟨rfl, hBk, hbl⟩
end Go.Proofs.YtmlcmkoefelolaaGreat
