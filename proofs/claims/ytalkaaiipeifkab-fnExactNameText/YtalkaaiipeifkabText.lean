/-
  Plain facts: a name's text, label by label. No program is named here.
-/
import Derived.Test.YtalkaaiipeifkabLabel
namespace Go.Proofs.Ytalkaaiipeifkab
open Go.RowKit

/-- The first k labels, a dot behind each. -/
def dots (n : List (List Int)) (k : Nat) : List Int := ((n.take k).map (fun l => l ++ [46])).flatten

theorem dots_zero (n : List (List Int)) : dots n 0 = [] := by simp [dots]
theorem dots_succ (n : List (List Int)) (k : Nat) (h : k < n.length) : dots n (k + 1) = dots n k ++ n.getD k [] ++ [46] := by
  unfold dots
  rw [List.take_succ_eq_append_getElem h, List.map_append, List.flatten_append, show n.getD k [] = n[k] by simp [h]]
  simp only [List.map_cons, List.map_nil, List.flatten_cons, List.flatten_nil, List.append_nil, List.append_assoc]

theorem dots_length (n : List (List Int)) (h : nameOk n = true) (k : Nat) : (dots n k).length ≤ 16 * k := by
  induction k with
  | zero => simp [dots]
  | succ k ih =>
    by_cases hk : k < n.length
    · rw [dots_succ n k hk]
      have := (labelOk_length ((nameOk_parts h).2 k hk)).2
      simp only [List.length_append, List.length_cons, List.length_nil]
      omega
    · have e : dots n (k + 1) = dots n k := by unfold dots; rw [List.take_of_length_le (by omega), List.take_of_length_le (by omega)]
      rw [e]; omega

/-- A name's text. -/
def nameText (n : List (List Int)) : List Int := if nameOk n = true then (if n.length = 0 then [46] else dots n n.length) else []

theorem nameText_no {n : List (List Int)} (h : nameOk n = false) : nameText n = [] := by simp [nameText, h]
theorem nameText_root {n : List (List Int)} (h : nameOk n = true) (h0 : n.length = 0) : nameText n = [46] := by simp [nameText, h, h0]
theorem nameText_some {n : List (List Int)} (h : nameOk n = true) (h0 : n.length ≠ 0) : nameText n = dots n n.length := by simp [nameText, h, h0]
theorem nameText_length (n : List (List Int)) : (nameText n).length ≤ 96 := by
  unfold nameText
  split
  · rename_i h
    split
    · simp
    · have := dots_length n h n.length
      have := (nameOk_parts h).1
      omega
  · simp
end Go.Proofs.Ytalkaaiipeifkab
