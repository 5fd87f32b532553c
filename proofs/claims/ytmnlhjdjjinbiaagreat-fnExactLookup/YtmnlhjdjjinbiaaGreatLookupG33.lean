/-
  Contract of the program's set, at the book of a zone that may be and a name that may be. Plain facts: what an update asks for. No program is named here. Plain facts: what Lookup answers. No program is named here.
-/
import Derived.Test.YtmnlhjdjjinbiaaGreatLookupG32
import Derived.Test.YtmnlhjdjjinbiaaGreatLookupG14
import Derived.Test.YtmnlhjdjjinbiaaGreatLookupG17
import Derived.Test.YtmnlhjdjjinbiaaGreatLookupG18
namespace Go.Proofs.YtmnlhjdjjinbiaaGreat
open Go.RowKit Go.Shelf
set_option linter.unusedVariables false

theorem setB_own {n0 b : Nat} {v : Value} {o n : List (List Int)} {rs : List Rec} (t : Int) {w : World} (hB : BookM n0 w b (bookIn rs)) (hz : zoneOk o rs = true) (hnm : nameOk n = true) (hn : HasL w v n) :
    Calls Tryz.prog 64 #[.map (some b), .agg #[v], .int .i64 t] w fun e w' => ∃ u, e = .returned u ∧ RowO w.heap.size w'.heap.size 42 28 5 3 w' u (selK n t rs rs.length) ∧ Below w.heap.size w w' := by
  have hpg := page_of_zone hz hnm
  have hsh := ofName_short (n := n) hz
  have hset := set_is hz hnm t
  refine ((callsIn_wide (n := 7)).1 (set_in t hB hn (short_name hnm) (by unfold bookIn; rw [hpg]; exact hsh.1) (by unfold bookIn; rw [hpg]; exact hsh.2))).mono ?_
  rintro e w' ⟨u, rfl, h, hb⟩
  unfold bookIn at h
  rw [hpg, hset] at h
  exact ⟨u, rfl, h, hb⟩
end Go.Proofs.YtmnlhjdjjinbiaaGreat

namespace Go.Proofs.YtmnlhjdjjinbiaaGreat
open Go.RowKit
set_option linter.unusedVariables false

def asked (t : Int) : Bool := typeOk t || decide (t = 255)
def emptyOk (r : Rec) : Bool := decide (r.addr = 0 ∧ r.to.length = 0 ∧ r.text.length = 0 ∧ r.nums.length = 0)
def bareOk (r : Rec) : Bool := nameOk r.name && (asked r.type && (decide (r.ttl = 0) && emptyOk r))
def wantOk (r : Rec) (c : Int) (b : Bool) : Bool := if b = true then decide (c = 254 ∨ c = 255) && bareOk r else if c = 1 then rrOk r else if c = 254 then rrOk r && decide (r.ttl = 0) else false

theorem cells9 {w : World} {b : Nat} {c0 c1 c2 c3 c4 c5 c6 c7 c8 : Value} {t : TypeId} (h : w.heap[b]? = some (.cells #[c0, c1, c2, c3, c4, c5, c6, c7, c8] t)) :
    w.cell? ⟨b, 0, none⟩ = some c0 ∧ w.cell? ⟨b, 1, none⟩ = some c1 ∧ w.cell? ⟨b, 2, none⟩ = some c2 ∧ w.cell? ⟨b, 3, none⟩ = some c3 ∧ w.cell? ⟨b, 4, none⟩ = some c4 ∧ w.cell? ⟨b, 5, none⟩ = some c5 ∧ w.cell? ⟨b, 6, none⟩ = some c6 ∧ w.cell? ⟨b, 7, none⟩ = some c7 ∧ w.cell? ⟨b, 8, none⟩ = some c8 :=
  ⟨block_cell h 0, block_cell h 1, block_cell h 2, block_cell h 3, block_cell h 4, block_cell h 5, block_cell h 6, block_cell h 7, block_cell h 8⟩
theorem frozen9 {w : World} {b : Nat} {c : Array Value} {t : TypeId} (h : w.heap[b]? = some (.cells c t)) :
    w.frozen? ⟨b, 0, none⟩ = false ∧ w.frozen? ⟨b, 1, none⟩ = false ∧ w.frozen? ⟨b, 2, none⟩ = false ∧ w.frozen? ⟨b, 3, none⟩ = false ∧ w.frozen? ⟨b, 4, none⟩ = false ∧ w.frozen? ⟨b, 5, none⟩ = false ∧ w.frozen? ⟨b, 6, none⟩ = false ∧ w.frozen? ⟨b, 7, none⟩ = false ∧ w.frozen? ⟨b, 8, none⟩ = false :=
  ⟨block_frozen h 0, block_frozen h 1, block_frozen h 2, block_frozen h 3, block_frozen h 4, block_frozen h 5, block_frozen h 6, block_frozen h 7, block_frozen h 8⟩
/-- All nine cells of a struct, one behind the other. -/
def set9 (w : World) (b : Nat) (c0 c1 c2 c3 c4 c5 c6 c7 c8 : Value) : World := ((((((((w.setCell ⟨b, 0, none⟩ c0).setCell ⟨b, 1, none⟩ c1).setCell ⟨b, 2, none⟩ c2).setCell ⟨b, 3, none⟩ c3).setCell ⟨b, 4, none⟩ c4).setCell ⟨b, 5, none⟩ c5).setCell ⟨b, 6, none⟩ c6).setCell ⟨b, 7, none⟩ c7).setCell ⟨b, 8, none⟩ c8
theorem set9_is {w : World} {b : Nat} {c0 c1 c2 c3 c4 c5 c6 c7 c8 a0 a1 a2 a3 a4 a5 a6 a7 a8 : Value} {t : TypeId} (h : w.heap[b]? = some (.cells #[a0, a1, a2, a3, a4, a5, a6, a7, a8] t)) :
    (set9 w b c0 c1 c2 c3 c4 c5 c6 c7 c8).heap[b]? = some (.cells #[c0, c1, c2, c3, c4, c5, c6, c7, c8] t) ∧ Outside b (b + 1) w (set9 w b c0 c1 c2 c3 c4 c5 c6 c7 c8) := by
  have h1 : (w.setCell ⟨b, 0, none⟩ c0).heap[b]? = some (.cells #[c0, a1, a2, a3, a4, a5, a6, a7, a8] t) := block_setAt h 0 c0
  have h2 : ((w.setCell ⟨b, 0, none⟩ c0).setCell ⟨b, 1, none⟩ c1).heap[b]? = some (.cells #[c0, c1, a2, a3, a4, a5, a6, a7, a8] t) := block_setAt h1 1 c1
  have u2 : Outside b (b + 1) w ((w.setCell ⟨b, 0, none⟩ c0).setCell ⟨b, 1, none⟩ c1) := (outside_set _ _ _ _).trans (outside_set _ _ _ _)
  unfold set9
  generalize (w.setCell ⟨b, 0, none⟩ c0).setCell ⟨b, 1, none⟩ c1 = w2 at *
  have h3 : (w2.setCell ⟨b, 2, none⟩ c2).heap[b]? = some (.cells #[c0, c1, c2, a3, a4, a5, a6, a7, a8] t) := block_setAt h2 2 c2
  have u3 := u2.trans (outside_set w2 b 2 c2)
  generalize w2.setCell ⟨b, 2, none⟩ c2 = w3 at *
  have h4 : (w3.setCell ⟨b, 3, none⟩ c3).heap[b]? = some (.cells #[c0, c1, c2, c3, a4, a5, a6, a7, a8] t) := block_setAt h3 3 c3
  have u4 := u3.trans (outside_set w3 b 3 c3)
  generalize w3.setCell ⟨b, 3, none⟩ c3 = w4 at *
  have h5 : (w4.setCell ⟨b, 4, none⟩ c4).heap[b]? = some (.cells #[c0, c1, c2, c3, c4, a5, a6, a7, a8] t) := block_setAt h4 4 c4
  have u5 := u4.trans (outside_set w4 b 4 c4)
  generalize w4.setCell ⟨b, 4, none⟩ c4 = w5 at *
  have h6 : (w5.setCell ⟨b, 5, none⟩ c5).heap[b]? = some (.cells #[c0, c1, c2, c3, c4, c5, a6, a7, a8] t) := block_setAt h5 5 c5
  have u6 := u5.trans (outside_set w5 b 5 c5)
  generalize w5.setCell ⟨b, 5, none⟩ c5 = w6 at *
  have h7 : (w6.setCell ⟨b, 6, none⟩ c6).heap[b]? = some (.cells #[c0, c1, c2, c3, c4, c5, c6, a7, a8] t) := block_setAt h6 6 c6
  have u7 := u6.trans (outside_set w6 b 6 c6)
  generalize w6.setCell ⟨b, 6, none⟩ c6 = w7 at *
  have h8 : (w7.setCell ⟨b, 7, none⟩ c7).heap[b]? = some (.cells #[c0, c1, c2, c3, c4, c5, c6, c7, a8] t) := block_setAt h7 7 c7
  have u8 := u7.trans (outside_set w7 b 7 c7)
  generalize w7.setCell ⟨b, 7, none⟩ c7 = w8 at *
  exact ⟨block_setAt h8 8 c8, u8.trans (outside_set w8 b 8 c8)⟩
end Go.Proofs.YtmnlhjdjjinbiaaGreat

namespace Go.Proofs.YtmnlhjdjjinbiaaGreat
open Go.RowKit
set_option linter.unusedVariables false

/-- Of the names that have all but k - 1, .., all but none of n's labels: the servers of the first that has some. -/
def handedOf (n : List (List Int)) (rs : List Rec) : Nat → List Rec
  | 0 => []
  | k + 1 => if 0 < (selK (n.drop k) 2 rs rs.length).length then selK (n.drop k) 2 rs rs.length else handedOf n rs k
/-- And that name, by how many labels it lacks; none where k is met. -/
def cutOf (n : List (List Int)) (rs : List Rec) : Nat → Option Nat
  | 0 => none
  | k + 1 => if 0 < (selK (n.drop k) 2 rs rs.length).length then some k else cutOf n rs k
theorem handed_cut (n : List (List Int)) (rs : List Rec) : ∀ k, (match cutOf n rs k with | none => handedOf n rs k = [] | some j => j < k ∧ handedOf n rs k = selK (n.drop j) 2 rs rs.length ∧ 0 < (handedOf n rs k).length)
  | 0 => rfl
  | k + 1 => by
    unfold cutOf handedOf
    by_cases h : 0 < (selK (n.drop k) 2 rs rs.length).length
    · rw [if_pos h, if_pos h]
      exact ⟨by omega, rfl, h⟩
    · rw [if_neg h, if_neg h]
      have ih := handed_cut n rs k
      cases hc : cutOf n rs k with
      | none => rw [hc] at ih; exact ih
      | some j => rw [hc] at ih; exact ⟨by omega, ih.2⟩
def lookB (o : List (List Int)) (rs : List Rec) (n : List (List Int)) (t : Int) : List Rec × Int :=
  if under n o = false then ([], 5) else
  if 0 < (handedOf n rs (n.length - o.length)).length then (handedOf n rs (n.length - o.length), 2) else
  if 0 < (selK n t rs rs.length).length then (selK n t rs rs.length, 0) else
  if 0 < (selK n 5 rs rs.length).length then (selK n 5 rs rs.length, 1) else
  if hasAny rs n = true then ([], 3) else ([], 4)
def lookupOf (o : List (List Int)) (rs : List Rec) (n : List (List Int)) (t : Int) : List Rec × Int :=
  if zoneOk o rs = true ∧ nameOk n = true ∧ asked t = true then lookB o rs n t else ([], 5)
theorem under_le {n o : List (List Int)} (h : under n o = true) : o.length ≤ n.length := by
  unfold under at h
  by_cases hl : n.length < o.length
  · rw [endsWith_no hl] at h
    simp at h
  · omega
theorem handed_short {o n : List (List Int)} {rs : List Rec} (hz : zoneOk o rs = true) : ∀ k, (handedOf n rs k).length ≤ 60 ∧ ∀ i, i < (handedOf n rs k).length → rrOk ((handedOf n rs k).getD i recZ) = true
  | 0 => ⟨Nat.zero_le _, fun i hi => absurd hi (Nat.not_lt_zero _)⟩
  | k + 1 => by
    unfold handedOf
    by_cases h : 0 < (selK (n.drop k) 2 rs rs.length).length
    · rw [if_pos h]; exact selK_short hz 2
    · rw [if_neg h]; exact handed_short hz k
theorem lookB_short {o n : List (List Int)} {rs : List Rec} (hz : zoneOk o rs = true) (t : Int) : (lookB o rs n t).1.length ≤ 60 ∧ ∀ i, i < (lookB o rs n t).1.length → rrOk ((lookB o rs n t).1.getD i recZ) = true := by
  have e : ∀ l : List Rec, l = [] → l.length ≤ 60 ∧ ∀ i, i < l.length → rrOk (l.getD i recZ) = true := fun l hl => by
    subst hl
    exact ⟨Nat.zero_le _, fun i hi => absurd hi (Nat.not_lt_zero _)⟩
  unfold lookB
  split
  · exact e _ rfl
  · split
    · exact handed_short hz _
    · split
      · exact selK_short hz t
      · split
        · exact selK_short hz 5
        · split <;> exact e _ rfl
theorem lookup_size (o : List (List Int)) (rs : List Rec) (n : List (List Int)) (t : Int) : (lookupOf o rs n t).1.length ≤ 60 ∧ ∀ i, i < (lookupOf o rs n t).1.length → SizeR 1048576 ((lookupOf o rs n t).1.getD i recZ) := by
  unfold lookupOf
  by_cases h : zoneOk o rs = true ∧ nameOk n = true ∧ asked t = true
  · rw [if_pos h]
    have := lookB_short (n := n) h.1 t
    exact ⟨this.1, fun i hi => size_of_short (short_rec (this.2 i hi))⟩
  · rw [if_neg h]
    exact ⟨Nat.zero_le _, fun i hi => absurd hi (Nat.not_lt_zero _)⟩
end Go.Proofs.YtmnlhjdjjinbiaaGreat
