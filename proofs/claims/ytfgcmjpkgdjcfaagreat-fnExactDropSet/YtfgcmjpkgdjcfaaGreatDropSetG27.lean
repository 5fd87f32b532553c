/-
  Plain facts: a record put into a zone, as the specification does it and as a book does. No program is named here. Plain facts: what a book does to add a record is what the specification does. No program is named here. Plain facts: what a book does to drop records of a name and a type is what the specification does. No program is named here. Contract of the program's bookOf: the book of a zone's records.
-/
import Derived.Test.YtfgcmjpkgdjcfaaGreatDropSetG26
import Derived.Test.YtfgcmjpkgdjcfaaGreatDropSetG18
import Derived.Test.YtfgcmjpkgdjcfaaGreatDropSetG05
import Derived.Test.YtfgcmjpkgdjcfaaGreatDropSetG02
namespace Go.Proofs.YtfgcmjpkgdjcfaaGreat
open Go.RowKit
set_option linter.unusedVariables false

end Go.Proofs.YtfgcmjpkgdjcfaaGreat

namespace Go.Proofs.YtfgcmjpkgdjcfaaGreat
open Go.RowKit
set_option linter.unusedVariables false

/-- The book has the record. -/
def InB (B : Bk) (x : Rec) : Prop := ∃ q ∈ B, (keyR x, x) ∈ q.2
theorem InB.ok {B : Bk} (h : GoodB B) {x : Rec} (hx : InB B x) : rrOk x = true := by
 obtain ⟨q, hq, hm⟩ := hx
 exact ((h.pages q hq).keys _ hm).2.1
/-- What set gives. -/
def setB (n : List (List Int)) (t : Int) (B : Bk) : List Rec := (sortP ((lookA (strOfNums (keyN n)) B).getD [])).filter (selT t)
theorem mem_setB {B : Bk} (h : GoodB B) {n : List (List Int)} (hn : nameOk n = true) {t : Int} {x : Rec} : x ∈ setB n t B ↔ InB B x ∧ x.name = n ∧ selT t x = true := by
 unfold setB
 rw [List.mem_filter, mem_sortP (h.page _)]
 constructor
 ·rintro ⟨h1, h2⟩
  obtain ⟨P, p1, p2⟩ := page_of _ B h1
  have hk := (h.pages _ p1).keys _ p2
  simp only at hk
  exact ⟨⟨_, p1, p2⟩, (keyN_inj hn (rrOk_parts hk.2.1).1 hk.2.2).symm, h2⟩
 ·rintro ⟨⟨q, hq, hm⟩, rfl, h2⟩
  have hk := (h.pages q hq).keys _ hm
  simp only at hk
  have hl := lookA_mem h.apart (k := q.1) (v := q.2) hq
  rw [hk.2.2] at hl
  rw [hl]
  exact ⟨hm, h2⟩
theorem cmpR_type {a b : Rec} (h : cmpR a b = 0) : a.type = b.type := by
 unfold cmpR at h
 by_cases e : cmpN a.name b.name = 0
 ·rw [if_neg (by simp [e])] at h
  by_cases q : byLength a.type b.type = 0
  ·exact byLength_zero q
  ·rw [if_pos q] at h
   exact absurd h q
 ·rw [if_pos e] at h
  exact absurd h e
end Go.Proofs.YtfgcmjpkgdjcfaaGreat

namespace Go.Proofs.YtfgcmjpkgdjcfaaGreat
open Go.RowKit
set_option linter.unusedVariables false

/-- What drop does to a book, and what it says: the one record of its type that makes a zone stays. -/
def bkDrop (r : Rec) (B : Bk) : Bk × Bool := if (lookA (keyR r) ((lookA (strOfNums (keyN r.name)) B).getD [])).isSome = true ∧ r.type ≠ 6 then (bkDel (strOfNums (keyN r.name)) (keyR r) B, true) else (B, false)
theorem had_iff {B : Bk} (h : GoodB B) {r : Rec} (hr : rrOk r = true) : (lookA (keyR r) ((lookA (strOfNums (keyN r.name)) B).getD [])).isSome = true ↔ ∃ x, InB B x ∧ cmpR x r = 0 := by
 have hp := h.page (strOfNums (keyN r.name))
 constructor
 ·intro hs
  obtain ⟨x, hx⟩ := Option.isSome_iff_exists.1 hs
  have hm := lookA_in hx
  have hk := hp.keys _ hm
  simp only at hk
  obtain ⟨P, p1, p2⟩ := page_of _ B hm
  rw [hk.1] at p2
  exact ⟨x, ⟨_, p1, p2⟩, (cmpR_zero_iff hk.2.1 hr).2 ⟨(keyN_inj (rrOk_parts hr).1 (rrOk_parts hk.2.1).1 hk.2.2).symm, hk.1.symm⟩⟩
 ·rintro ⟨x, ⟨q, hq, hm⟩, hc⟩
  have hk := (h.pages q hq).keys _ hm
  simp only at hk
  obtain ⟨e1, e2⟩ := (cmpR_zero_iff hk.2.1 hr).1 hc
  have hl := lookA_mem h.apart (k := q.1) (v := q.2) hq
  rw [hk.2.2, e1] at hl
  rw [hl, Option.getD_some, ← e2, lookA_mem (h.pages q hq).apart hm]
  rfl
theorem bkDrop_good {B : Bk} (h : GoodB B) (r : Rec) : GoodB (bkDrop r B).1 := by
 unfold bkDrop
 split
 ·exact h.del _ _
 ·exact h
theorem bkDrop_mem {B : Bk} (h : GoodB B) {r : Rec} (hr : rrOk r = true) {x : Rec} (hx : rrOk x = true) : InB (bkDrop r B).1 x ↔ InB B x ∧ ¬ (cmpR x r = 0 ∧ r.type ≠ 6) := by
 unfold bkDrop
 by_cases e : (lookA (keyR r) ((lookA (strOfNums (keyN r.name)) B).getD [])).isSome = true ∧ r.type ≠ 6
 ·rw [if_pos e]
  rw [show InB (bkDel (strOfNums (keyN r.name)) (keyR r) B) x ↔ _ from bkDel_mem h hr hx]
  constructor
  ·rintro ⟨h1, h2⟩
   exact ⟨h1, fun q => h2 q.1⟩
  ·rintro ⟨h1, h2⟩
   exact ⟨h1, fun q => h2 ⟨q, e.2⟩⟩
 ·rw [if_neg e]
  constructor
  ·intro hx'
   refine ⟨hx', fun q => e ⟨(had_iff h hr).2 ⟨x, hx', q.1⟩, q.2⟩⟩
  ·exact fun q => q.1
/-- Several, and how many were there. -/
def dropAll : List Rec → Bk → Bk × Nat
 | [], B => (B, 0)
 | r :: t, B => ((dropAll t (bkDrop r B).1).1, (dropAll t (bkDrop r B).1).2 + if (bkDrop r B).2 = true then 1 else 0)
theorem dropAll_mem : ∀ {L : List Rec} {B : Bk}, GoodB B → (∀ l ∈ L, rrOk l = true) → GoodB (dropAll L B).1 ∧ ∀ {x : Rec}, rrOk x = true → (InB (dropAll L B).1 x ↔ InB B x ∧ ∀ l ∈ L, ¬ (cmpR x l = 0 ∧ l.type ≠ 6))
 | [], B, h, _ => ⟨h, fun {x} _ => by simp [dropAll]⟩
 | l :: t, B, h, hL => by
  have hl := hL l (List.mem_cons_self ..)
  obtain ⟨i1, i2⟩ := dropAll_mem (L := t) (bkDrop_good h l) (fun z hz => hL z (List.mem_cons_of_mem _ hz))
  refine ⟨i1, fun {x} hx => ?_⟩
  show InB (dropAll t (bkDrop l B).1).1 x ↔ _
  rw [i2 hx, bkDrop_mem h hl hx]
  constructor
  ·rintro ⟨⟨h1, h2⟩, h3⟩
   refine ⟨h1, fun z hz => ?_⟩
   rcases List.mem_cons.1 hz with rfl | hz
   ·exact h2
   ·exact h3 z hz
  ·rintro ⟨h1, h2⟩
   exact ⟨⟨h1, h2 l (List.mem_cons_self ..)⟩, fun z hz => h2 z (List.mem_cons_of_mem _ hz)⟩
/-- All of a list that is in the book, no two alike: as many as are not the zone's own. -/
theorem dropAll_count : ∀ {L : List Rec} {B : Bk}, GoodB B → (∀ l ∈ L, rrOk l = true ∧ InB B l) → L.Pairwise (fun a b => cmpR a b ≠ 0) → (dropAll L B).2 = (L.filter (fun l => decide (l.type ≠ 6))).length
 | [], B, _, _, _ => rfl
 | l :: t, B, h, hL, hd => by
  obtain ⟨d1, d2⟩ := List.pairwise_cons.1 hd
  have hl := hL l (List.mem_cons_self ..)
  have ih := dropAll_count (L := t) (bkDrop_good h l) (fun z hz => by
   have hz' := hL z (List.mem_cons_of_mem _ hz)
   refine ⟨hz'.1, (bkDrop_mem h hl.1 hz'.1).2 ⟨hz'.2, fun q => ?_⟩⟩
   have := cmpR_swap l z
   exact d1 z hz (by omega)) d2
  show (dropAll t (bkDrop l B).1).2 + _ = _
  rw [ih]
  have hs : (lookA (keyR l) ((lookA (strOfNums (keyN l.name)) B).getD [])).isSome = true := (had_iff h hl.1).2 ⟨l, hl.2, cmpR_self l⟩
  by_cases e : l.type = 6
  ·have : (bkDrop l B).2 = false := by unfold bkDrop; rw [if_neg (fun q => q.2 e)]
   rw [this, List.filter_cons_of_neg (by simp [e])]
   simp
  ·have : (bkDrop l B).2 = true := by unfold bkDrop; rw [if_pos ⟨hs, e⟩]
   rw [this, List.filter_cons_of_pos (by simp [e])]
   simp
def goneS (n : List (List Int)) (t : Int) (x : Rec) : Bool := selB n t x && decide (x.type ≠ 6)
/-- What DropSet leaves, and how many it takes. -/
theorem droppedSet_sorted {o n : List (List Int)} {rs : List Rec} (hz : zoneOk o rs = true) (hn : nameOk n = true) (t : Int) :
  sortB (dropAll (setB n t (bookZ rs)) (bookZ rs)).1 = rs.filter (fun x => !goneS n t x) ∧ (dropAll (setB n t (bookZ rs)) (bookZ rs)).2 = (rs.filter (goneS n t)).length ∧ GoodB (dropAll (setB n t (bookZ rs)) (bookZ rs)).1 := by
 have hB := bookZ_good hz
 have ms : ∀ x, x ∈ setB n t (bookZ rs) ↔ x ∈ rs ∧ x.name = n ∧ selT t x = true := fun x => by
  rw [mem_setB hB hn, show InB (bookZ rs) x ↔ x ∈ rs from (bookZ_mem hz x).symm]
 have hset : setB n t (bookZ rs) = rs.filter (selB n t) := by
  have := set_is hz hn t
  rw [selK_filter] at this
  rw [← this]
  unfold setB
  rw [show (lookA (strOfNums (keyN n)) (bookZ rs)).getD [] = (ofName n rs).map (fun r => (keyR r, r)) from page_of_zone hz hn]
 have hok : ∀ l ∈ setB n t (bookZ rs), rrOk l = true := fun l hl => oks_of hz l ((ms l).1 hl).1
 obtain ⟨g, hm⟩ := dropAll_mem hB hok
 refine ⟨?_, ?_, g⟩
 ·refine sortB_is g ((zone_asc hz).filter _) (fun x => ?_)
  have key : ∀ (hx : x ∈ rs), (selB n t x = true ↔ x.name = n ∧ selT t x = true) := fun hx => by
   have : x ∈ rs.filter (selB n t) ↔ x ∈ rs ∧ x.name = n ∧ selT t x = true := by rw [← hset, ms]
   rw [List.mem_filter] at this
   exact ⟨fun h => (this.1 ⟨hx, h⟩).2, fun h => (this.2 ⟨hx, h⟩).2⟩
  rw [List.mem_filter]
  constructor
  ·rintro ⟨h1, h2⟩
   have ho := oks_of hz x h1
   refine (hm ho).2 ⟨(bookZ_mem hz x).1 h1, fun l hl hq => ?_⟩
   have hl' := (ms l).1 hl
   have e := (cmpR_zero_iff ho (hok l hl)).1 hq.1
   have et := cmpR_type hq.1
   have hsel : selB n t x = true := (key h1).2 ⟨e.1.trans hl'.2.1, by have := hl'.2.2; unfold selT at this ⊢; rwa [et]⟩
   have : goneS n t x = true := by
    unfold goneS
    rw [hsel, Bool.true_and, decide_eq_true_iff, et]
    exact hq.2
   rw [this] at h2
   cases h2
  ·intro hx
   have ho := InB.ok g hx
   obtain ⟨h1, h2⟩ := (hm ho).1 hx
   have hxr := (bookZ_mem hz x).2 h1
   refine ⟨hxr, ?_⟩
   rw [Bool.not_eq_true']
   cases hgo : goneS n t x with
   | false => rfl
   | true =>
    unfold goneS at hgo
    rw [Bool.and_eq_true, decide_eq_true_iff] at hgo
    exact absurd ⟨cmpR_self x, hgo.2⟩ (h2 x ((ms x).2 ⟨hxr, (key hxr).1 hgo.1⟩))
 ·rw [dropAll_count hB (fun l hl => ⟨hok l hl, (bookZ_mem hz l).1 ((ms l).1 hl).1⟩), hset, List.filter_filter]
  ·congr 1
   refine List.filter_congr (fun x _ => ?_)
   unfold goneS
   rw [Bool.and_comm]
  ·rw [hset]
   exact ((zone_asc hz).filter _).imp (fun {a b} h => by omega)
end Go.Proofs.YtfgcmjpkgdjcfaaGreat

namespace Go.Proofs.YtfgcmjpkgdjcfaaGreat
open Go.RowKit
set_option linter.unusedVariables false

/-- The book of these records. -/
def bookIn (rs : List Rec) : Bk := rs.foldl (fun B r => bkPut (strOfNums (keyN r.name)) (strOfNums (keyD r)) r B) []
theorem bookIn_snoc (rs : List Rec) (r : Rec) : bookIn (rs ++ [r]) = bkPut (strOfNums (keyN r.name)) (strOfNums (keyD r)) r (bookIn rs) := by simp [bookIn]

set_option maxHeartbeats 2000000 in
set_option maxRecDepth 100000 in
theorem bookOf_has {vo vr : Value} {o : List (List Int)} {rs : List Rec} {w : World} (h : HasZ w vo vr o rs) (hok : ∀ i, i < rs.length → rrOk (rs.getD i recZ) = true) (hlen : rs.length ≤ 1000) :
  Calls Tryz.prog 33 #[.agg #[vo, vr]] w fun e w' => e = .returned (.map (some (w.heap.size + 1))) ∧ BookM w.heap.size w' (w.heap.size + 1) (bookIn rs) ∧ Below w.heap.size w w' := by
 obtain ⟨oa, oc, rfl, _⟩ := h.name.form
 obtain ⟨ra, rc, rfl, _⟩ := h.recs.form
 have b0 := below_alloc (w := w) (.cells #[.slice oa o.length oc, .slice ra rs.length rc] 33)
 have k0 := heap_alloc_new w (.cells #[.slice oa o.length oc, .slice ra rs.length rc] 33)
 have z0 : (w.alloc (.cells #[.slice oa o.length oc, .slice ra rs.length rc] 33)).heap.size = w.heap.size + 1 := World.size_alloc w _
 have hmk := run_makeMap (P := Tryz.prog) 64 (w.alloc (.cells #[.slice oa o.length oc, .slice ra rs.length rc] 33))
 have b1 := below_alloc (w := w.alloc (.cells #[.slice oa o.length oc, .slice ra rs.length rc] 33)) (.map #[] 0)
 have BM := hide (bookM_made (n0 := w.heap.size) (w.alloc (.cells #[.slice oa o.length oc, .slice ra rs.length rc] 33)) (by omega))
 obtain ⟨c0, c1⟩ := cells2 (block_kept b1 k0)
 have bb := below_next b0 b1
 have HT := hide h.recs
 have HOK := hide hok
 clear h hok b0 b1 k0
 generalize hm : rs.length = m at *
 have HM := hide hm
 go_enter Tryz.func33, Tryz.ntmps33
 go_wp2_with fail
 clear c0 c1 hmk hm
 rw [z0] at BM
 clear z0
 generalize (w.alloc (.cells #[.slice oa o.length oc, .slice ra m rc] 33)).alloc (.map #[] 0) = W at *
 go_loopw [10] (fun i wr => ∃ k : Nat, k ≤ m ∧ i = .int .i64 k ∧ BookM w.heap.size wr (w.heap.size + 1) (bookIn (rs.take k)) ∧ Below w.heap.size w wr) (fun i _ => m - (intOf i).toNat)
 case atStart => exact ⟨0, Nat.zero_le _, rfl, by simpa [bookIn] using unhide BM, bb⟩
 case round =>
  obtain ⟨k, hk, rfl, hBk, hbl⟩ := hrel
  by_cases hlt : k < m
  ·obtain ⟨b, off, na, nc, ta, tc, xa, xc, ia, ic, rfl, hb1, hc, hR⟩ := (unhide HT).here (k := k) (by rw [unhide HM]; exact hlt)
   have hsk := unhide HOK k hlt
   have htk := hide (show rs.take (k + 1) = rs.take k ++ [rs.getD k recZ] by rw [List.take_succ_eq_append_getElem (by rw [unhide HM]; exact hlt)]; simp [show k < rs.length by rw [unhide HM]; exact hlt])
   obtain ⟨c0, c1, c2, c3, c4, c5, c6⟩ := range7 (range_below hc hb1 hbl)
   generalize rs.getD k recZ = r at *
   have ba := below_alloc (w := wr) (.cells #[.slice na r.name.length nc, .int .i64 r.type, .int .i64 r.ttl, .int .i64 r.addr, .slice ta r.to.length tc, .slice xa r.text.length xc, .slice ia r.nums.length ic] 59)
   obtain ⟨d0, d1, d2, d3, d4, d5, d6⟩ := cells7 (heap_alloc_new wr (.cells #[.slice na r.name.length nc, .int .i64 r.type, .int .i64 r.ttl, .int .i64 r.addr, .slice ta r.to.length tc, .slice xa r.text.length xc, .slice ia r.nums.length ic] 59))
   have HP := hide (bookPut_has (hBk.below ba) ((hR.below hbl).below ba) hsk (Nat.le_trans hbl.size ba.size))
   have HB := hide (below_next hbl ba)
   clear ba hc hR hsk hbl hBk
   go_wp2_with fail
   refine (unhide HP).mono ?_
   rintro e w3 ⟨⟨v3, rfl⟩, hB3, hK3, hb3⟩
   have hb4 := (unhide HB).trans hb3
   clear HP HB d0 d1 d2 d3 d4 d5 d6 c0 c1 c2 c3 c4 c5 c6 hb3 hK3
   go_wp2
   go_roundw
   case rel => exact ⟨k + 1, by omega, by go_num, by rw [unhide htk, bookIn_snoc]; exact hB3, hb4⟩
   case measure => simp [intOf]; omega
  ·obtain rfl : k = m := by omega
   have hall : rs.take k = rs := List.take_of_length_le (by rw [unhide HM]; exact Nat.le_refl _)
   rw [hall] at hBk
   clear hall
   go_wp2
   go_ret
   exact ⟨rfl, hBk, hbl⟩
end Go.Proofs.YtfgcmjpkgdjcfaaGreat
