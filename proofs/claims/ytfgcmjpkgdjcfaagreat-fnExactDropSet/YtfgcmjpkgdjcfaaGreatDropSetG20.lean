/-
  Plain facts: zones that may be are short; a new zone. No program is named here. Plain facts: a zone's records of a name and a type, the first SOA, and a row of records that is appended to. No program is named here. Plain facts: what one zone has alone. No program is named here. Plain facts: what HasName answers. No program is named here.
-/
import Derived.Test.YtfgcmjpkgdjcfaaGreatDropSetG19
import Derived.Test.YtfgcmjpkgdjcfaaGreatDropSetG18
namespace Go.Proofs.YtfgcmjpkgdjcfaaGreat
open Go.RowKit

theorem short_rec {r : Rec} (h : rrOk r = true) : ShortR r := by
 unfold rrOk dataOk at h
 simp only [Bool.and_eq_true] at h
 obtain ⟨h1, h2, h3, h4, h5, h6, h7⟩ := h
 refine ⟨short_name h1, ?_, ?_, ?_⟩
 ·by_cases e : named r.type = true
  ·rw [if_pos e] at h5
   exact short_name h5
  ·rw [if_neg e] at h5
   have := of_decide_eq_true h5
   rw [List.eq_nil_of_length_eq_zero this]
   exact short_nil
 ·by_cases e : texted r.type = true
  ·rw [if_pos e] at h6
   have := of_decide_eq_true h6
   omega
  ·rw [if_neg e] at h6
   have := of_decide_eq_true h6
   omega
 ·by_cases e : r.type = 6
  ·rw [if_pos e] at h7
   have := (of_decide_eq_true h7).1
   omega
  ·rw [if_neg e] at h7
   have := of_decide_eq_true h7
   omega
theorem zone_short {o : List (List Int)} {rs : List Rec} (h : zoneOk o rs = true) : ShortN o ∧ (∀ i, i < rs.length → ShortR (rs.getD i recZ)) ∧ rs.length ≤ 60 := by
 obtain ⟨h1, h2, h3, _⟩ := of_decide_eq_true h
 exact ⟨short_name h1, fun i hi => short_rec (goodI_parts (h3 i hi)).1, h2⟩
theorem size_of_short {r : Rec} (h : ShortR r) : SizeR 1048576 r :=
 ⟨Nat.le_trans h.1.1 (by decide), fun i hi => Nat.le_trans (h.1.2 i hi) (by decide), Nat.le_trans h.2.1.1 (by decide), fun i hi => Nat.le_trans (h.2.1.2 i hi) (by decide), h.2.2.1, h.2.2.2⟩
end Go.Proofs.YtfgcmjpkgdjcfaaGreat

namespace Go.Proofs.YtfgcmjpkgdjcfaaGreat
open Go.RowKit

def selB (n : List (List Int)) (t : Int) (r : Rec) : Bool := (cmpN r.name n == 0) && ((t == 255) || (r.type == t))
/-- Those of the first k. -/
def selK (n : List (List Int)) (t : Int) (rs : List Rec) : Nat → List Rec
 | 0 => []
 | k + 1 => if selB n t (rs.getD k recZ) = true then selK n t rs k ++ [rs.getD k recZ] else selK n t rs k
theorem selK_length (n : List (List Int)) (t : Int) (rs : List Rec) : ∀ k, (selK n t rs k).length ≤ k
 | 0 => Nat.le_refl _
 | k + 1 => by
  have := selK_length n t rs k
  unfold selK
  split
  ·simp; omega
  ·omega
/-- A row of records that the slice v owns, from block B on; their lists lie as they did in W. -/
def RowS (B : Nat) (e : TypeId) (W w : World) (v : Value) (rs : List Rec) : Prop :=
 ∃ xs, w.ownsRow B e 7 v rs.length xs ∧ ∀ i, i < rs.length → ∃ vn vt vx vi, (∀ j u, (cellsR vn vt vx vi (rs.getD i recZ))[j]? = some u → xs[i * 7 + j]? = some u) ∧ HasR W vn vt vx vi (rs.getD i recZ)
theorem RowS.nil (B : Nat) (e : TypeId) (W w : World) : RowS B e W w (.slice none 0 0) [] := ⟨[], World.ownsRow_nil _ _ _ _, fun i hi => absurd hi (by simp)⟩
theorem RowS.snoc {B : Nat} {e : TypeId} {W w' : World} {v' : Value} {rs : List Rec} {xs : List Value} {r : Rec} {vn vt vx vi : Value} (hl : xs.length = rs.length * 7)
  (hx : ∀ i, i < rs.length → ∃ vn vt vx vi, (∀ j u, (cellsR vn vt vx vi (rs.getD i recZ))[j]? = some u → xs[i * 7 + j]? = some u) ∧ HasR W vn vt vx vi (rs.getD i recZ))
  (ho : w'.ownsRow B e 7 v' (rs.length + 1) (xs ++ cellsR vn vt vx vi r)) (hr : HasR W vn vt vx vi r) : RowS B e W w' v' (rs ++ [r]) := by
 refine ⟨xs ++ cellsR vn vt vx vi r, by rw [List.length_append]; exact ho, fun i hi => ?_⟩
 rw [List.length_append] at hi
 simp only [List.length_cons, List.length_nil] at hi
 by_cases h : i < rs.length
 ·obtain ⟨un, ut, ux, ui, q1, q2⟩ := hx i h
  have e1 : (rs ++ [r]).getD i recZ = rs.getD i recZ := by rw [List.getD_eq_getElem?_getD, List.getElem?_append_left h, ← List.getD_eq_getElem?_getD]
  rw [e1]
  refine ⟨un, ut, ux, ui, fun j u hj => ?_, q2⟩
  have hj7 : j < 7 := by
   have := (List.getElem?_eq_some_iff.1 hj).1
   simpa [cellsR] using this
  rw [List.getElem?_append_left (by omega)]
  exact q1 j u hj
 ·obtain rfl : i = rs.length := by omega
  have e1 : (rs ++ [r]).getD rs.length recZ = r := by rw [List.getD_eq_getElem?_getD]; simp
  rw [e1]
  refine ⟨vn, vt, vx, vi, fun j u hj => ?_, hr⟩
  rw [List.getElem?_append_right (by omega), hl, Nat.add_sub_cancel_left]
  exact hj
theorem RowS.has {B : Nat} {e : TypeId} {W w : World} {v : Value} {rs : List Rec} (h : RowS B e W w v rs) (hb : Below W.heap.size W w) : HasRs w v rs := by
 obtain ⟨xs, ho, hx⟩ := h
 have ho' := ho
 rcases ho.2 with ⟨rfl, hn⟩ | ⟨g, cap, cur, rfl, hB, hg, hn, hm, hs, ht⟩
 ·exact .inl ⟨rfl, List.eq_nil_of_length_eq_zero hn⟩
 ·refine .inr ⟨g, 0, cap, rfl, block_lt hg, hn, hm, fun i hi => ?_⟩
  obtain ⟨vn, vt, vx, vi, q1, q2⟩ := hx i hi
  refine ⟨vn, vt, vx, vi, fun j u hj => ?_, q2.below hb⟩
  have hj7 : j < 7 := by
   have := (List.getElem?_eq_some_iff.1 hj).1
   simpa [cellsR] using this
  rw [Nat.zero_add, World.ownsRow.cellAt ho' (i * 7 + j) (by omega)]
  exact q1 j u hj
end Go.Proofs.YtfgcmjpkgdjcfaaGreat

namespace Go.Proofs.YtfgcmjpkgdjcfaaGreat
open Go.RowKit
set_option linter.unusedVariables false

theorem zone_oks {o : List (List Int)} {rs : List Rec} (h : zoneOk o rs = true) : ∀ i, i < rs.length → rrOk (rs.getD i recZ) = true := fun i hi => (goodI_parts ((of_decide_eq_true h).2.2.1 i hi)).1
end Go.Proofs.YtfgcmjpkgdjcfaaGreat

namespace Go.Proofs.YtfgcmjpkgdjcfaaGreat
open Go.RowKit
set_option linter.unusedVariables false

theorem names_ok {rs : List Rec} (h : ∀ i, i < rs.length → rrOk (rs.getD i recZ) = true) : ∀ r ∈ rs, nameOk r.name = true := by
 intro r hr
 obtain ⟨i, hi, rfl⟩ := List.getElem_of_mem hr
 have := h i hi
 simp only [List.getD_eq_getElem?_getD, List.getElem?_eq_getElem hi, Option.getD_some] at this
 exact (rrOk_parts this).1
end Go.Proofs.YtfgcmjpkgdjcfaaGreat
