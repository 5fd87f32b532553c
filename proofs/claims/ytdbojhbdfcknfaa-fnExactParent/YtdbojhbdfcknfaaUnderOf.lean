/-
  Plain facts: a name that ends with another, and the end of a list of texts in memory. No program is named here.
-/
import Derived.Test.YtdbojhbdfcknfaaCmp
namespace Go.Proofs.Ytdbojhbdfcknfaa
open Go.RowKit

/-- n ends with all labels of z. -/
def endsWith (n z : List (List Int)) : Bool := decide (z.length ≤ n.length) && (cmpN (n.drop (n.length - z.length)) z == 0)
def under (n z : List (List Int)) : Bool := nameOk n && (nameOk z && endsWith n z)

theorem endsWith_no {n z : List (List Int)} (h : n.length < z.length) : endsWith n z = false := by
  unfold endsWith
  rw [decide_eq_false (by omega)]
  rfl
theorem endsWith_yes {n z : List (List Int)} (h : z.length ≤ n.length) : endsWith n z = (cmpN (n.drop (n.length - z.length)) z == 0) := by
  unfold endsWith
  rw [decide_eq_true h]
  rfl

theorem nameOk_drop {n : List (List Int)} (h : nameOk n = true) (k : Nat) : nameOk (n.drop k) = true := by
  obtain ⟨h1, h2⟩ := nameOk_parts h
  refine nameOk_yes (by simp; omega) fun j hj => ?_
  simp at hj
  have := h2 (k + j) (by omega)
  have e : (n.drop k).getD j [] = n.getD (k + j) [] := by simp [List.getD]
  rw [e]; exact this

theorem HasL.drop {w : World} {a : Option Addr} {m cap k : Nat} {n : List (List Int)} (h : HasL w (.slice a m cap) n) (hn : n.length = m) (hk : k ≤ m) :
    (a = none ∧ m = 0 ∧ cap = 0) ∨ ∃ g off, a = some ⟨g, off, none⟩ ∧ HasL w (.slice (if cap = k then some ⟨g, off, none⟩ else some ⟨g, off + k, none⟩) (m - k) (cap - k)) (n.drop k) := by
  subst hn
  rcases h with ⟨hv, rfl⟩ | ⟨g, off, cap', hv, hlt, hl, hm, hc⟩
  · simp only [Value.slice.injEq] at hv
    exact .inl ⟨hv.1, rfl, hv.2.2⟩
  · simp only [Value.slice.injEq, true_and] at hv
    obtain ⟨rfl, rfl⟩ := hv
    right
    refine ⟨g, off, rfl, ?_⟩
    have hlen : (n.drop k).length = n.length - k := by simp
    by_cases e : cap = k
    · rw [if_pos e]
      refine .inr ⟨g, off, cap - k, by rw [hlen], hlt, by rw [hlen]; omega, by omega, fun i hi => ?_⟩
      rw [hlen] at hi
      omega
    · rw [if_neg e]
      refine .inr ⟨g, off + k, cap - k, by rw [hlen], hlt, by rw [hlen]; omega, by omega, fun i hi => ?_⟩
      rw [hlen] at hi
      obtain ⟨u, h1, h2⟩ := hc (k + i) (by omega)
      refine ⟨u, by rw [Nat.add_assoc]; exact h1, ?_⟩
      have e2 : (n.drop k).getD i [] = n.getD (k + i) [] := by simp [List.getD]
      rw [e2]; exact h2

theorem HasL.drop_cases {w : World} {g off m cap k : Nat} {n : List (List Int)} (h : HasL w (.slice (if cap = k then some ⟨g, off, none⟩ else some ⟨g, off + k, none⟩) (m - k) (cap - k)) (n.drop k)) :
    (cap = k ∧ HasL w (.slice (some ⟨g, off, none⟩) (m - k) 0) (n.drop k)) ∨ (cap ≠ k ∧ HasL w (.slice (some ⟨g, off + k, none⟩) (m - k) (cap - k)) (n.drop k)) := by
  by_cases e : cap = k
  · rw [if_pos e, e, Nat.sub_self] at h
    exact .inl ⟨e, h⟩
  · rw [if_neg e] at h
    exact .inr ⟨e, h⟩
end Go.Proofs.Ytdbojhbdfcknfaa
