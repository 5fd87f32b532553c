/-
  Contracts of the laws' helpers for the sizes of caches: with how many records there are. Plain facts: rows of names. No program is named here. Plain facts: a record's data as bytes. No program is named here. Plain facts: what DataPut and RrPut answer. No program is named here. Plain facts: which messages may be, and their bytes. No program is named here.
-/
import Derived.Test.YtpolekinfobecaaGreatCacheNamesG10
import Derived.Test.YtpolekinfobecaaGreatCacheNamesG14
import Derived.Test.YtpolekinfobecaaGreatCacheNamesG08
import Derived.Test.YtpolekinfobecaaGreatCacheNamesG09
namespace Go.Proofs.YtpolekinfobecaaGreat
open Go.RowKit
set_option linter.unusedVariables false

set_option maxHeartbeats 1000000 in
set_option maxRecDepth 100000 in
theorem szRrS_tot (a : Option Addr) (cap : Nat) (xs : List Rec) (left : Int) (w : World) (h : LiesRs w a xs) (hm : xs.length ≤ maxLen) (hm2 : ∀ i, i < xs.length → SizeR maxLen (xs.getD i recZ)) (h0 : 0 ≤ left) (h1 : left ≤ 1048576) :
  Calls Tryz.prog 67 #[.slice a xs.length cap, .int .i64 left] w fun e w' => (∃ y : Int, e = .returned (.int .i64 y) ∧ -1 ≤ y ∧ y ≤ left ∧ (0 ≤ y → y + xs.length ≤ left ∧ ∀ i, i < xs.length → SizeR left.toNat (xs.getD i recZ))) ∧ Below w.heap.size w w' := by
 generalize hn : xs.length = m at *
 have HN := hide hn
 clear hn
 have HM := hide hm2
 clear hm2
 unfold maxLen at hm
 by_cases hlen : (m : Int) ≤ left
 ·go_enter Tryz.func67, Tryz.ntmps67
  go_wp2
  go_loopw [1, 5] (fun r i wr => ∃ (k : Nat) (x : Int), k ≤ m ∧ i = .int .i64 k ∧ r = .int .i64 x ∧ 0 ≤ x ∧ x ≤ left - m ∧ Hid (∀ j, j < k → SizeR left.toNat (xs.getD j recZ)) ∧ Below w.heap.size w wr) (fun _ i _ => m - (intOf i).toNat)
  case atStart => exact ⟨0, left - m, Nat.zero_le _, rfl, rfl, by omega, by omega, hide (fun j hj => absurd hj (Nat.not_lt_zero _)), Below.refl _ _⟩
  case round =>
   obtain ⟨k, x, hk, rfl, rfl, hx0, hx1, hall, hb⟩ := hrel
   by_cases hlt : k < m
   ·have hIk := (h.below hb)
    obtain ⟨b, off, an, cn, ato, ct, ax, cx, ai, ci, rfl, hbl, hc, hIn⟩ := hIk.here (k := k) (by rw [unhide HN]; exact hlt)
    clear hIk
    have hmk := unhide HM k hlt
    have hone := hide (fun (hs : SizeR left.toNat (xs.getD k recZ)) => (show ∀ j, j < k + 1 → SizeR left.toNat (xs.getD j recZ) from fun j hj => by
      by_cases e : j = k
      ·subst e; exact hs
      ·exact unhide hall j (by omega)))
    generalize xs.getD k recZ = rk at *
    obtain ⟨c0, c1, c2, c3, c4, c5, c6⟩ := range7 hc
    have HI := hide hIn
    have HMK := hide hmk
    clear hIn hmk hc
    go_wp2_with fail
    refine (szRr_any an cn ato ct ax cx ai ci rk x _ (unhide HI) (unhide HMK) hx0 (by omega)).mono ?_
    rintro e w1 ⟨⟨y, rfl, hy0, hy1, hy2⟩, b1⟩
    have hb1 := below_next hb b1
    have HY := hide hy2
    clear hy2 c0 c1 c2 c3 c4 c5 c6 b1 hb
    by_cases hle : y < 0
    ·go_wp2
     go_ret
     exact ⟨⟨-1, rfl, by omega, by omega, fun hneg => by omega⟩, hb1⟩
    ·go_wp2
     exact ⟨⟨k + 1, y, by omega, by go_num, rfl, by omega, by omega, hide (unhide hone ((unhide HY (by omega)).mono (by omega))), hb1⟩, by simp [intOf]; omega⟩
   ·obtain rfl : k = m := by omega
    go_wp2
    go_ret
    exact ⟨⟨x, rfl, by omega, by omega, fun _ => ⟨by omega, unhide hall⟩⟩, hb⟩
 ·go_enter Tryz.func67, Tryz.ntmps67
  go_wp2
  go_ret
  exact ⟨⟨-1, rfl, by omega, by omega, fun hneg => by omega⟩, Below.refl _ _⟩

set_option maxHeartbeats 1000000 in
set_option maxRecDepth 100000 in
theorem szSlot_tot (na : Option Addr) (nc : Nat) (ra : Option Addr) (rc : Nat) (x : Slt) (left : Int) (w : World) (h : InS2 w na ra x) (hm : SizeSl maxLen x) (h0 : 0 ≤ left) (h1 : left ≤ 1048576) :
  Calls Tryz.prog 43 #[.agg #[.slice na x.name.length nc, .int .i64 x.type, .int .i64 x.kind, .slice ra x.rrs.length rc, .int .i64 x.rank, .int .i64 x.till, .int .i64 x.used], .int .i64 left] w fun e w' => (∃ y : Int, e = .returned (.int .i64 y) ∧ -1 ≤ y ∧ y ≤ left ∧ (0 ≤ y → y + x.rrs.length ≤ left ∧ SizeSl left.toNat x)) ∧ Below w.heap.size w w' := by
 have b0 := below_alloc (w := w) (.cells #[.slice na x.name.length nc, .int .i64 x.type, .int .i64 x.kind, .slice ra x.rrs.length rc, .int .i64 x.rank, .int .i64 x.till, .int .i64 x.used] 75)
 have KK := hide (heap_alloc_new w (.cells #[.slice na x.name.length nc, .int .i64 x.type, .int .i64 x.kind, .slice ra x.rrs.length rc, .int .i64 x.rank, .int .i64 x.till, .int .i64 x.used] 75))
 have HI := hide h
 have HM := hide hm
 clear h hm
 obtain ⟨d0, d1, d2, d3, d4, d5, d6⟩ := cells7 (unhide KK)
 go_enter Tryz.func43, Tryz.ntmps43
 go_wp2_with fail
 clear d0 d1 d2 d3 d4 d5 d6
 generalize w.alloc (.cells #[.slice na x.name.length nc, .int .i64 x.type, .int .i64 x.kind, .slice ra x.rrs.length rc, .int .i64 x.rank, .int .i64 x.till, .int .i64 x.used] 75) = W at *
 refine (szName_any na nc x.name left _ ((unhide HI).below b0).name (unhide HM).name (unhide HM).names (by omega) (by omega)).mono ?_
 rintro e w1 ⟨⟨y1, rfl, ya1, yb1, yc1⟩, b1⟩
 replace b0 := below_next b0 b1
 replace KK := hide (block_kept b1 (unhide KK))
 have Y1 := hide yc1
 clear yc1 b1
 by_cases n1 : y1 < 0
 ·go_wp2
  go_ret
  exact ⟨⟨-1, rfl, by omega, by omega, fun q => by omega⟩, b0⟩
 obtain ⟨d0, d1, d2, d3, d4, d5, d6⟩ := cells7 (unhide KK)
 go_wp2_with fail
 clear d0 d1 d2 d3 d4 d5 d6
 refine (szRrS_tot ra rc x.rrs y1 _ ((unhide HI).below b0).rrs (unhide HM).rrs (unhide HM).rrss (by omega) (by omega)).mono ?_
 rintro e w2 ⟨⟨y2, rfl, ya2, yb2, yc2⟩, b2⟩
 replace b0 := below_next b0 b2
 have Y2 := hide yc2
 clear yc2 b2 KK
 by_cases n2 : y2 < 0
 ·go_wp2
  go_ret
  exact ⟨⟨-1, rfl, by omega, by omega, fun q => by omega⟩, b0⟩
 go_wp2
 go_ret
 have p1 := unhide Y1 (by omega)
 have p2 := unhide Y2 (by omega)
 exact ⟨⟨y2, rfl, by omega, by omega, fun _ => ⟨by omega, ⟨by omega, fun i hi => by have := p1.2 i hi; omega, by omega, fun i hi => (p2.2 i hi).mono (by omega)⟩⟩⟩, b0⟩

set_option maxHeartbeats 1000000 in
set_option maxRecDepth 100000 in
theorem szSlotS_tot (a : Option Addr) (cap : Nat) (xs : List Slt) (left : Int) (w : World) (h : LiesSs w a xs) (hm : xs.length ≤ maxLen) (hm2 : ∀ i, i < xs.length → SizeSl maxLen (xs.getD i sltZ)) (h0 : 0 ≤ left) (h1 : left ≤ 1048576) :
  Calls Tryz.prog 20 #[.slice a xs.length cap, .int .i64 left] w fun e w' => (∃ y : Int, e = .returned (.int .i64 y) ∧ -1 ≤ y ∧ y ≤ left ∧ (0 ≤ y → y + xs.length + totR xs xs.length ≤ left ∧ ∀ i, i < xs.length → SizeSl left.toNat (xs.getD i sltZ))) ∧ Below w.heap.size w w' := by
 have HT := hide (show ∀ k, totR xs (k + 1) = totR xs k + (xs.getD k sltZ).rrs.length from fun _ => rfl)
 have HT0 := hide (show totR xs 0 = 0 from rfl)
 generalize totR xs = T at *
 generalize hn : xs.length = m at *
 have HN := hide hn
 clear hn
 have HM := hide hm2
 clear hm2
 unfold maxLen at hm
 by_cases hlen : (m : Int) ≤ left
 ·go_enter Tryz.func20, Tryz.ntmps20
  go_wp2
  go_loopw [1, 5] (fun r i wr => ∃ (k : Nat) (x : Int), k ≤ m ∧ i = .int .i64 k ∧ r = .int .i64 x ∧ 0 ≤ x ∧ x + T k ≤ left - m ∧ Hid (∀ j, j < k → SizeSl left.toNat (xs.getD j sltZ)) ∧ Below w.heap.size w wr) (fun _ i _ => m - (intOf i).toNat)
  case atStart => exact ⟨0, left - m, Nat.zero_le _, rfl, rfl, by omega, by rw [unhide HT0]; omega, hide (fun j hj => absurd hj (Nat.not_lt_zero _)), Below.refl _ _⟩
  case round =>
   obtain ⟨k, x, hk, rfl, rfl, hx0, hx1, hall, hb⟩ := hrel
   by_cases hlt : k < m
   ·have hIk := (lowSs h hb)
    obtain ⟨b, off, vs, rfl, hbl, hc, na, nc, ra, rc, rfl, hIn⟩ := hIk.here (k := k) (by rw [unhide HN]; exact hlt)
    clear hIk
    have hmk := unhide HM k hlt
    have hT := unhide HT k
    have hone := hide (fun (hs : SizeSl left.toNat (xs.getD k sltZ)) => (show ∀ j, j < k + 1 → SizeSl left.toNat (xs.getD j sltZ) from fun j hj => by
      by_cases e : j = k
      ·subst e; exact hs
      ·exact unhide hall j (by omega)))
    generalize xs.getD k sltZ = rk at *
    obtain ⟨c0, c1, c2, c3, c4, c5, c6⟩ := range7 hc
    have HI := hide hIn
    have HMK := hide hmk
    clear hIn hmk hc
    go_wp2_with fail
    refine (szSlot_tot na nc ra rc rk x _ (unhide HI) (unhide HMK) hx0 (by omega)).mono ?_
    rintro e w1 ⟨⟨y, rfl, hy0, hy1, hy2⟩, b1⟩
    have hb1 := below_next hb b1
    have HY := hide hy2
    clear hy2 c0 c1 c2 c3 c4 c5 c6 b1 hb
    by_cases hle : y < 0
    ·go_wp2
     go_ret
     exact ⟨⟨-1, rfl, by omega, by omega, fun hneg => by omega⟩, hb1⟩
    ·have hy3 := (unhide HY (by omega)).1
     go_wp2
     exact ⟨⟨k + 1, y, by omega, by go_num, rfl, by omega, by omega, hide (unhide hone ((unhide HY (by omega)).2.mono (by omega))), hb1⟩, by simp [intOf]; omega⟩
   ·obtain rfl : k = m := by omega
    go_wp2
    go_ret
    exact ⟨⟨x, rfl, by omega, by omega, fun _ => ⟨by omega, unhide hall⟩⟩, hb⟩
 ·go_enter Tryz.func20, Tryz.ntmps20
  go_wp2
  go_ret
  exact ⟨⟨-1, rfl, by omega, by omega, fun hneg => by omega⟩, Below.refl _ _⟩

set_option maxHeartbeats 1000000 in
set_option maxRecDepth 100000 in
theorem szCache_tot (a : Option Addr) (k : Nat) (c : Ca) (left : Int) (w : World) (h : LiesSs w a c.slots) (hm : SizeCa maxLen c) (h0 : 0 ≤ left) (h1 : left ≤ 1048576) :
  Calls Tryz.prog 6 #[.agg #[.int .i64 c.now, .int .i64 c.turn, .slice a c.slots.length k], .int .i64 left] w fun e w' => (∃ y : Int, e = .returned (.int .i64 y) ∧ -1 ≤ y ∧ y ≤ left ∧ (0 ≤ y → c.slots.length + totR c.slots c.slots.length ≤ left ∧ SizeCa left.toNat c)) ∧ Below w.heap.size w w' := by
 have b0 := below_alloc (w := w) (.cells #[.int .i64 c.now, .int .i64 c.turn, .slice a c.slots.length k] 24)
 have KK := hide (heap_alloc_new w (.cells #[.int .i64 c.now, .int .i64 c.turn, .slice a c.slots.length k] 24))
 have HC := hide (szSlotS_tot a k c.slots left _ (lowSs h b0) hm.slots hm.each h0 h1)
 clear h hm
 obtain ⟨d0, d1, d2⟩ := cells3 (unhide KK)
 go_enter Tryz.func6, Tryz.ntmps6
 go_wp2_with fail
 clear d0 d1 d2
 generalize w.alloc (.cells #[.int .i64 c.now, .int .i64 c.turn, .slice a c.slots.length k] 24) = W at *
 refine (unhide HC).mono ?_
 rintro e w1 ⟨⟨y1, rfl, ya1, yb1, yc1⟩, b1⟩
 replace b0 := below_next b0 b1
 have Y1 := hide yc1
 clear yc1 b1 HC KK
 by_cases n1 : y1 < 0
 ·go_wp2
  go_ret
  exact ⟨⟨-1, rfl, by omega, by omega, fun q => by omega⟩, b0⟩
 go_wp2
 go_ret
 have p1 := unhide Y1 (by omega)
 exact ⟨⟨y1, rfl, by omega, by omega, fun _ => ⟨by omega, ⟨by omega, p1.2⟩⟩⟩, b0⟩
end Go.Proofs.YtpolekinfobecaaGreat

namespace Go.Proofs.YtpolekinfobecaaGreat
open Go.RowKit
set_option linter.unusedVariables false

def namZ : List (List Int) := []
def HasNm (w : World) (vs : List Value) (n : List (List Int)) : Prop := ∃ v, vs = [v] ∧ HasL w v n
def OwnNm (el eb : TypeId) (B E : Nat) (w : World) (vs : List Value) (n : List (List Int)) : Prop := ∃ v, vs = [v] ∧ OwnN B E el eb w v n
theorem stays_HasNm : Stays HasNm := fun h hb => by obtain ⟨v, h1, h2⟩ := h; exact ⟨v, h1, h2.below hb⟩
theorem ownsNm (el eb : TypeId) : OwnsG 1 (OwnNm el eb) where
 cells := fun h => by obtain ⟨v, rfl, _⟩ := h; rfl
 below := fun h hb => by obtain ⟨v, h1, h2⟩ := h; exact ⟨v, h1, h2.below hb⟩
 outside := fun h u hd => by obtain ⟨v, h1, h2⟩ := h; exact ⟨v, h1, h2.outside u hd⟩
 wide := fun h h1 h2 => by obtain ⟨v, h3, h4⟩ := h; exact ⟨v, h3, h4.wide h1 h2⟩
theorem OwnNm.has {el eb : TypeId} {B E : Nat} {w : World} {vs : List Value} {n : List (List Int)} (h : OwnNm el eb B E w vs n) : HasNm w vs n := by obtain ⟨v, h1, h2⟩ := h; exact ⟨v, h1, h2.hasL⟩
structure SizeNm (m : Nat) (n : List (List Int)) : Prop where
 name : n.length ≤ m
 names : ∀ i, i < n.length → (n.getD i []).length ≤ m
theorem SizeNm.mono {m m' : Nat} {q : List (List Int)} (h : SizeNm m q) (hm : m ≤ m') : SizeNm m' q := ⟨Nat.le_trans h.name hm, fun i hi => Nat.le_trans (h.names i hi) hm⟩
abbrev HasNms (w : World) (v : Value) (l : List (List (List Int))) : Prop := HasG 1 HasNm namZ w v l
theorem keptNms {w w' : World} {v : Value} {l : List (List (List Int))} (h : HasNms w v l) (hb : Below w.heap.size w w') : HasNms w' v l := HasG.below stays_HasNm h hb
theorem range1 {w : World} {b o : Nat} {v : Value} (h : w.rangeAt b o [v]) : w.cell? ⟨b, o, none⟩ = some v := h 0 v rfl
def posNs (l : List (List (List Int))) (k : Int) : Nat → Int
 | 0 => k
 | i + 1 => pos (l.getD i namZ) (posNs l k i) (l.getD i namZ).length
def markNs (l : List (List (List Int))) (k : Int) (m : Nat) : List (List (List Int)) := (List.range l.length).map (fun j => if j < m then markL (l.getD j namZ) (posNs l k j) else l.getD j namZ)
theorem markNs_length (l : List (List (List Int))) (k : Int) (m : Nat) : (markNs l k m).length = l.length := by simp [markNs]
theorem markNs_getD (l : List (List (List Int))) (k : Int) (m j : Nat) (h : j < l.length) : (markNs l k m).getD j namZ = if j < m then markL (l.getD j namZ) (posNs l k j) else l.getD j namZ := by simp [markNs, h]
theorem markNs_zero (l : List (List (List Int))) (k : Int) : markNs l k 0 = l := by
 apply List.ext_getElem?
 intro j
 by_cases hj : j < l.length <;> simp [markNs, hj]
theorem markNs_succ (l : List (List (List Int))) (k : Int) (m : Nat) (hm : m < l.length) : (markNs l k m).set m (markL (l.getD m namZ) (posNs l k m)) = markNs l k (m + 1) := by
 apply List.ext_getElem?
 intro j
 by_cases e : j = m
 ·subst e
  simp [markNs, hm]
 ·rw [List.getElem?_set_ne (Ne.symm e)]
  by_cases hj : j < l.length
  ·by_cases hjm : j < m
   ·simp [markNs, hj, hjm, show j < m + 1 by omega]
   ·simp [markNs, hj, hjm, show ¬ j < m + 1 by omega]
  ·simp [markNs, hj]
theorem posNs_bound {l : List (List (List Int))} (hs : ∀ i, i < l.length → SizeNm 1048576 (l.getD i namZ)) (k : Int) : ∀ i, i ≤ l.length → k ≤ posNs l k i ∧ posNs l k i ≤ k + i * 2199025352707
 | 0, _ => by simp [posNs]
 | i + 1, hi => by
  have h1 := posNs_bound hs k i (by omega)
  have h2 := pos_bound' (l.getD i namZ) (posNs l k i) (hs i (by omega)).name (hs i (by omega)).names
  unfold posNs
  push_cast
  omega
end Go.Proofs.YtpolekinfobecaaGreat

namespace Go.Proofs.YtpolekinfobecaaGreat
open Go.RowKit

/-- The data, as bytes. -/
def dataB (r : Rec) : List Int :=
 if r.type = 1 then put32 [] r.addr else if r.type = 6 then put32 (put32 (wire r.to) (r.nums.getD 0 0)) (r.nums.getD 1 0) else if named r.type = true then wire r.to else (r.text.length : Int) :: r.text

/-- What the data of a record that may be are: of its four kinds one. -/
theorem data_kinds {r : Rec} (ht : typeOk r.type = true) (h : dataOk r = true) :
  (r.type = 1 ∧ 0 ≤ r.addr ∧ r.addr ≤ 4294967295 ∧ dataB r = put32 [] r.addr) ∨ ((r.type = 2 ∨ r.type = 5 ∨ r.type = 12) ∧ nameOk r.to = true ∧ dataB r = wire r.to) ∨
  (r.type = 6 ∧ nameOk r.to = true ∧ (∃ x y, r.nums = [x, y] ∧ 0 ≤ x ∧ x ≤ 4294967295 ∧ 0 ≤ y ∧ y ≤ 100000 ∧ dataB r = put32 (put32 (wire r.to) x) y)) ∨ ((r.type = 16 ∨ r.type = 49) ∧ r.text.length ≤ 40 ∧ dataB r = (r.text.length : Int) :: r.text) := by
 have ht' : r.type = 1 ∨ r.type = 2 ∨ r.type = 5 ∨ r.type = 6 ∨ r.type = 12 ∨ r.type = 16 ∨ r.type = 49 := of_decide_eq_true ht
 unfold dataOk at h
 simp only [Bool.and_eq_true] at h
 obtain ⟨h1, h2, h3, h4⟩ := h
 by_cases e1 : r.type = 1
 ·left
  rw [if_pos e1] at h1
  have := of_decide_eq_true h1
  exact ⟨e1, this.1, this.2, by unfold dataB; rw [if_pos e1]⟩
 by_cases e6 : r.type = 6
 ·right; right; left
  have hn : named r.type = true := decide_eq_true (by omega)
  rw [if_pos hn] at h2
  rw [if_pos e6] at h4
  have h5 := of_decide_eq_true h4
  obtain ⟨x, y, hxy⟩ := two_of h5.1
  rw [hxy] at h5
  refine ⟨e6, h2, x, y, hxy, h5.2.1, h5.2.2.1, h5.2.2.2.1, h5.2.2.2.2, ?_⟩
  unfold dataB
  rw [if_neg e1, if_pos e6, hxy]
  rfl
 by_cases en : r.type = 2 ∨ r.type = 5 ∨ r.type = 12
 ·right; left
  have hn : named r.type = true := decide_eq_true (by omega)
  rw [if_pos hn] at h2
  exact ⟨en, h2, by unfold dataB; rw [if_neg e1, if_neg e6, if_pos hn]⟩
 ·right; right; right
  have hx : texted r.type = true := decide_eq_true (by omega)
  have hn : ¬ named r.type = true := by
   intro hh
   have : r.type = 2 ∨ r.type = 5 ∨ r.type = 6 ∨ r.type = 12 := of_decide_eq_true hh
   omega
  rw [if_pos hx] at h3
  exact ⟨by omega, of_decide_eq_true h3, by unfold dataB; rw [if_neg e1, if_neg e6, if_neg hn]⟩
theorem rrOk_parts {r : Rec} (h : rrOk r = true) : nameOk r.name = true ∧ typeOk r.type = true ∧ 0 ≤ r.ttl ∧ r.ttl ≤ 100000 ∧ dataOk r = true := by
 unfold rrOk at h
 simp only [Bool.and_eq_true] at h
 have := of_decide_eq_true h.2.2.1
 exact ⟨h.1, h.2.1, this.1, this.2, h.2.2.2⟩
end Go.Proofs.YtpolekinfobecaaGreat

namespace Go.Proofs.YtpolekinfobecaaGreat
open Go.RowKit

end Go.Proofs.YtpolekinfobecaaGreat

namespace Go.Proofs.YtpolekinfobecaaGreat
open Go.RowKit
set_option linter.unusedVariables false

def rrsOk (l : List Rec) : Bool := decide (l.length ≤ 12) && l.all rrOk
theorem all_take {α : Type} {p : α → Bool} (l : List α) (d : α) : ∀ k, (∀ j, j < k → j < l.length → p (l.getD j d) = true) → (l.take k).all p = true := by
 intro k hk
 rw [List.all_eq_true]
 intro x hx
 obtain ⟨j, hj, e⟩ := List.getElem_of_mem hx
 rw [List.length_take] at hj
 have := hk j (by omega) (by omega)
 rw [List.getD_eq_getElem?_getD, List.getElem?_eq_getElem (by omega), Option.getD_some] at this
 rw [← e, List.getElem_take]
 exact this
theorem all_of {α : Type} {p : α → Bool} (l : List α) (d : α) (h : ∀ j, j < l.length → p (l.getD j d) = true) : l.all p = true := by
 have := all_take (p := p) l d l.length (fun j _ hj => h j hj)
 rwa [List.take_length] at this
theorem all_not {α : Type} {p : α → Bool} (l : List α) (d : α) {k : Nat} (hk : k < l.length) (h : p (l.getD k d) = false) : l.all p = false := by
 rw [List.all_eq_false]
 refine ⟨l[k], List.getElem_mem hk, ?_⟩
 rw [List.getD_eq_getElem?_getD, List.getElem?_eq_getElem hk, Option.getD_some] at h
 simp [h]
theorem all_at {α : Type} {p : α → Bool} {l : List α} (d : α) (h : l.all p = true) {k : Nat} (hk : k < l.length) : p (l.getD k d) = true := by
 rw [List.all_eq_true] at h
 rw [List.getD_eq_getElem?_getD, List.getElem?_eq_getElem hk, Option.getD_some]
 exact h _ (List.getElem_mem hk)

/-! Bytes. -/
end Go.Proofs.YtpolekinfobecaaGreat
