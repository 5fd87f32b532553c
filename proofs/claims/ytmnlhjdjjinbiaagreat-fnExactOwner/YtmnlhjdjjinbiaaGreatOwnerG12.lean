/-
  Plain facts: records that may be are short. No program is named here. Plain facts: zones that may be are short; a new zone. No program is named here. Plain facts: a zone's records of a name and a type, the first SOA, and a row of records that is appended to. No program is named here.
-/
import Derived.Test.YtmnlhjdjjinbiaaGreatOwnerG02
import Derived.Test.YtmnlhjdjjinbiaaGreatOwnerG00
import Derived.Test.YtmnlhjdjjinbiaaGreatOwnerG11
namespace Go.Proofs.YtmnlhjdjjinbiaaGreat
open Go.RowKit

/-- A name is short. -/
def ShortN (n : List (List Int)) : Prop := n.length ≤ 6 ∧ ∀ k, k < n.length → (n.getD k []).length ≤ 15
/-- A record is short. -/
def ShortR (r : Rec) : Prop := (r.name.length ≤ 6 ∧ ∀ k, k < r.name.length → (r.name.getD k []).length ≤ 15) ∧ (r.to.length ≤ 6 ∧ ∀ k, k < r.to.length → (r.to.getD k []).length ≤ 15) ∧ r.text.length ≤ 1048576 ∧ r.nums.length ≤ 1048576
theorem short_name {n : List (List Int)} (h : nameOk n = true) : ShortN n := ⟨(nameOk_parts h).1, fun k hk => (labelOk_length ((nameOk_parts h).2 k hk)).2⟩
theorem short_nil : ShortN [] := ⟨by simp, fun k hk => absurd hk (by simp)⟩
end Go.Proofs.YtmnlhjdjjinbiaaGreat

namespace Go.Proofs.YtmnlhjdjjinbiaaGreat
open Go.RowKit

theorem short_rec {r : Rec} (h : rrOk r = true) : ShortR r := by
  unfold rrOk dataOk at h
  simp only [Bool.and_eq_true] at h
  obtain ⟨h1, h2, h3, h4, h5, h6, h7⟩ := h
  refine ⟨short_name h1, ?_, ?_, ?_⟩
  · by_cases e : named r.type = true
    · rw [if_pos e] at h5
      exact short_name h5
    · rw [if_neg e] at h5
      have := of_decide_eq_true h5
      rw [List.eq_nil_of_length_eq_zero this]
      exact short_nil
  · by_cases e : texted r.type = true
    · rw [if_pos e] at h6
      have := of_decide_eq_true h6
      omega
    · rw [if_neg e] at h6
      have := of_decide_eq_true h6
      omega
  · by_cases e : r.type = 6
    · rw [if_pos e] at h7
      have := (of_decide_eq_true h7).1
      omega
    · rw [if_neg e] at h7
      have := of_decide_eq_true h7
      omega
theorem zone_short {o : List (List Int)} {rs : List Rec} (h : zoneOk o rs = true) : ShortN o ∧ (∀ i, i < rs.length → ShortR (rs.getD i recZ)) ∧ rs.length ≤ 60 := by
  obtain ⟨h1, h2, h3, _⟩ := of_decide_eq_true h
  exact ⟨short_name h1, fun i hi => short_rec (goodI_parts (h3 i hi)).1, h2⟩
/-- The one record of a new zone. -/
def soaOf (o : List (List Int)) (s : Int) : Rec := ⟨o, 6, 60, 0, o, [], [s, 60]⟩
def zoneNewOf (o : List (List Int)) (s : Int) : (List (List Int) × List Rec) × Bool := if zoneOk o [soaOf o s] = true then ((o, [soaOf o s]), true) else (([], []), false)
theorem zoneNewOf_size (o : List (List Int)) (s : Int) : ShortN (zoneNewOf o s).1.1 ∧ (∀ i, i < (zoneNewOf o s).1.2.length → ShortR ((zoneNewOf o s).1.2.getD i recZ)) ∧ (zoneNewOf o s).1.2.length ≤ 60 := by
  unfold zoneNewOf
  by_cases h : zoneOk o [soaOf o s] = true
  · rw [if_pos h]
    exact zone_short h
  · rw [if_neg h]
    exact ⟨short_nil, fun i hi => absurd hi (by simp), by simp⟩
theorem size_of_short {r : Rec} (h : ShortR r) : SizeR 1048576 r :=
  ⟨Nat.le_trans h.1.1 (by decide), fun i hi => Nat.le_trans (h.1.2 i hi) (by decide), Nat.le_trans h.2.1.1 (by decide), fun i hi => Nat.le_trans (h.2.1.2 i hi) (by decide), h.2.2.1, h.2.2.2⟩
end Go.Proofs.YtmnlhjdjjinbiaaGreat

namespace Go.Proofs.YtmnlhjdjjinbiaaGreat
open Go.RowKit

def selB (n : List (List Int)) (t : Int) (r : Rec) : Bool := (cmpN r.name n == 0) && ((t == 255) || (r.type == t))
/-- Those of the first k. -/
def selK (n : List (List Int)) (t : Int) (rs : List Rec) : Nat → List Rec
  | 0 => []
  | k + 1 => if selB n t (rs.getD k recZ) = true then selK n t rs k ++ [rs.getD k recZ] else selK n t rs k
theorem selK_length (n : List (List Int)) (t : Int) (rs : List Rec) : ∀ k, (selK n t rs k).length ≤ k
  | 0 => Nat.le_refl _
  | k + 1 => by
    have := selK_length n t rs k
    unfold selK
    split
    · simp; omega
    · omega
theorem selK_none {n : List (List Int)} {t : Int} {rs : List Rec} : ∀ {k : Nat}, (∀ j, j < k → selB n t (rs.getD j recZ) = false) → selK n t rs k = []
  | 0, _ => rfl
  | k + 1, h => by
    unfold selK
    rw [h k (by omega), if_neg (by simp)]
    exact selK_none (fun j hj => h j (by omega))
/-- The first one that is met is the first of all. -/
theorem selK_first {n : List (List Int)} {t : Int} {rs : List Rec} {s : Nat} (h1 : selB n t (rs.getD s recZ) = true) (h0 : ∀ j, j < s → selB n t (rs.getD j recZ) = false) : ∀ d, 1 ≤ (selK n t rs (s + 1 + d)).length ∧ (selK n t rs (s + 1 + d)).getD 0 recZ = rs.getD s recZ
  | 0 => by
    rw [Nat.add_zero]
    unfold selK
    rw [if_pos h1, selK_none h0]
    simp
  | d + 1 => by
    obtain ⟨q1, q2⟩ := selK_first h1 h0 d
    have e : selK n t rs (s + 1 + (d + 1)) = if selB n t (rs.getD (s + 1 + d) recZ) = true then selK n t rs (s + 1 + d) ++ [rs.getD (s + 1 + d) recZ] else selK n t rs (s + 1 + d) := rfl
    rw [e]
    by_cases hq : selB n t (rs.getD (s + 1 + d) recZ) = true
    · rw [if_pos hq]
      refine ⟨by simp, ?_⟩
      rw [List.getD_eq_getElem?_getD, List.getElem?_append_left (by omega), ← List.getD_eq_getElem?_getD]
      exact q2
    · rw [if_neg hq]
      exact ⟨q1, q2⟩
/-- Where the SOA stands. -/
theorem soas_some {rs : List Rec} : ∀ {k : Nat}, 0 < soas rs k → ∃ s, s < k ∧ (rs.getD s recZ).type = 6 ∧ ∀ j, j < s → (rs.getD j recZ).type ≠ 6
  | 0, h => by simp [soas] at h
  | k + 1, h => by
    by_cases h0 : 0 < soas rs k
    · obtain ⟨s, h1, h2, h3⟩ := soas_some h0
      exact ⟨s, by omega, h2, h3⟩
    · unfold soas at h
      split at h
      · rename_i h6
        refine ⟨k, by omega, h6, fun j hj e => ?_⟩
        have : ∀ i, j < i → i ≤ k → 0 < soas rs i := by
          intro i hi hik
          induction i with
          | zero => omega
          | succ i ih =>
            unfold soas
            by_cases e2 : j = i
            · subst e2
              rw [if_pos e]
              omega
            · have := ih (by omega) (by omega)
              split <;> omega
        have := this k hj (Nat.le_refl _)
        omega
      · omega
/-- The serial's record. -/
theorem zone_soa {o : List (List Int)} {rs : List Rec} (h : zoneOk o rs = true) : ∃ s, s < rs.length ∧ (rs.getD s recZ).type = 6 ∧ (∀ j, j < s → (rs.getD j recZ).type ≠ 6) ∧ 1 ≤ (selK o 6 rs rs.length).length ∧ (selK o 6 rs rs.length).getD 0 recZ = rs.getD s recZ ∧ (rs.getD s recZ).nums.length = 2 := by
  have h' := of_decide_eq_true h
  obtain ⟨ho, h60, hg, h1⟩ := h'
  have hS := (good_iff ho).1 hg
  obtain ⟨s, hs, h6, hb⟩ := soas_some (rs := rs) (k := rs.length) (by omega)
  have q1 : selB o 6 (rs.getD s recZ) = true := by
    unfold selB
    rw [(hS s hs).soa h6, h6]
    rfl
  have q0 : ∀ j, j < s → selB o 6 (rs.getD j recZ) = false := fun j hj => by
    unfold selB
    have : ((rs.getD j recZ).type == (6 : Int)) = false := by
      rw [beq_eq_false_iff_ne]
      exact hb j hj
    rw [this]
    simp
  have hf := selK_first q1 q0 (rs.length - (s + 1))
  rw [show s + 1 + (rs.length - (s + 1)) = rs.length by omega] at hf
  refine ⟨s, hs, h6, hb, hf.1, hf.2, ?_⟩
  have hok := (hS s hs).ok
  unfold rrOk dataOk at hok
  simp only [Bool.and_eq_true, h6, if_true] at hok
  have := of_decide_eq_true hok.2.2.2.2.2.2
  exact this.1

/-- A row of records that the slice v owns, from block B on; their lists lie as they did in W. -/
def RowS (B : Nat) (e : TypeId) (W w : World) (v : Value) (rs : List Rec) : Prop :=
  ∃ xs, w.ownsRow B e 7 v rs.length xs ∧ ∀ i, i < rs.length → ∃ vn vt vx vi, (∀ j u, (cellsR vn vt vx vi (rs.getD i recZ))[j]? = some u → xs[i * 7 + j]? = some u) ∧ HasR W vn vt vx vi (rs.getD i recZ)
theorem RowS.nil (B : Nat) (e : TypeId) (W w : World) : RowS B e W w (.slice none 0 0) [] := ⟨[], World.ownsRow_nil _ _ _ _, fun i hi => absurd hi (by simp)⟩
theorem RowS.snoc {B : Nat} {e : TypeId} {W w' : World} {v' : Value} {rs : List Rec} {xs : List Value} {r : Rec} {vn vt vx vi : Value} (hl : xs.length = rs.length * 7)
    (hx : ∀ i, i < rs.length → ∃ vn vt vx vi, (∀ j u, (cellsR vn vt vx vi (rs.getD i recZ))[j]? = some u → xs[i * 7 + j]? = some u) ∧ HasR W vn vt vx vi (rs.getD i recZ))
    (ho : w'.ownsRow B e 7 v' (rs.length + 1) (xs ++ cellsR vn vt vx vi r)) (hr : HasR W vn vt vx vi r) : RowS B e W w' v' (rs ++ [r]) := by
  refine ⟨xs ++ cellsR vn vt vx vi r, by rw [List.length_append]; exact ho, fun i hi => ?_⟩
  rw [List.length_append] at hi
  simp only [List.length_cons, List.length_nil] at hi
  by_cases h : i < rs.length
  · obtain ⟨un, ut, ux, ui, q1, q2⟩ := hx i h
    have e1 : (rs ++ [r]).getD i recZ = rs.getD i recZ := by rw [List.getD_eq_getElem?_getD, List.getElem?_append_left h, ← List.getD_eq_getElem?_getD]
    rw [e1]
    refine ⟨un, ut, ux, ui, fun j u hj => ?_, q2⟩
    have hj7 : j < 7 := by
      have := (List.getElem?_eq_some_iff.1 hj).1
      simpa [cellsR] using this
    rw [List.getElem?_append_left (by omega)]
    exact q1 j u hj
  · obtain rfl : i = rs.length := by omega
    have e1 : (rs ++ [r]).getD rs.length recZ = r := by rw [List.getD_eq_getElem?_getD]; simp
    rw [e1]
    refine ⟨vn, vt, vx, vi, fun j u hj => ?_, hr⟩
    rw [List.getElem?_append_right (by omega), hl, Nat.add_sub_cancel_left]
    exact hj
theorem RowS.has {B : Nat} {e : TypeId} {W w : World} {v : Value} {rs : List Rec} (h : RowS B e W w v rs) (hb : Below W.heap.size W w) : HasRs w v rs := by
  obtain ⟨xs, ho, hx⟩ := h
  have ho' := ho
  rcases ho.2 with ⟨rfl, hn⟩ | ⟨g, cap, cur, rfl, hB, hg, hn, hm, hs, ht⟩
  · exact .inl ⟨rfl, List.eq_nil_of_length_eq_zero hn⟩
  · refine .inr ⟨g, 0, cap, rfl, block_lt hg, hn, hm, fun i hi => ?_⟩
    obtain ⟨vn, vt, vx, vi, q1, q2⟩ := hx i hi
    refine ⟨vn, vt, vx, vi, fun j u hj => ?_, q2.below hb⟩
    have hj7 : j < 7 := by
      have := (List.getElem?_eq_some_iff.1 hj).1
      simpa [cellsR] using this
    rw [Nat.zero_add, World.ownsRow.cellAt ho' (i * 7 + j) (by omega)]
    exact q1 j u hj
/-- The serial of a zone. -/
def serialOf (o : List (List Int)) (rs : List Rec) : Int := if zoneOk o rs = true then ((selK o 6 rs rs.length).getD 0 recZ).nums.getD 0 0 else 0

end Go.Proofs.YtmnlhjdjjinbiaaGreat
