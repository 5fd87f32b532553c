/-
  Contracts of the laws' same. Plain facts: a name's text, label by label. No program is named here.
-/
import Derived.Test.YtkmjghecjlgjpaaDoorFnReverseG16
import Derived.WalkKit
import Derived.Test.YtkmjghecjlgjpaaDoorFnReverseG01
namespace Go.Proofs.YtkmjghecjlgjpaaDoor
open Go.RowKit
set_option linter.unusedVariables false

set_option maxHeartbeats 400000 in
set_option maxRecDepth 100000 in
theorem same_has {v v' : Value} {l l' : List Int} {w : World} (h : Has w v l) (h' : Has w v' l') (hb : ∀ c ∈ l, 0 ≤ c ∧ c ≤ 255) (hb' : ∀ c ∈ l', 0 ≤ c ∧ c ≤ 255) :
    Calls Tryd.prog 41 #[v, v'] w fun e w' => e = .returned (.bool (decide (l = l'))) ∧ w = w' := by
  have hc := conv_has h
  have hc' := conv_has h'
  have hs := str_eq l l' hb hb'
  generalize decide (l = l') = d at *
  clear h h' hb hb'
  go_enter Tryd.func41, Tryd.ntmps41
  go_wp2
  go_ret
  exact ⟨rfl, rfl⟩

theorem same_own {B B' : Nat} {v v' : Value} {l l' : List Int} {w : World} (h : Own B 5 w v l) (h' : Own B' 5 w v' l') (hb : ∀ c ∈ l, 0 ≤ c ∧ c ≤ 255) (hb' : ∀ c ∈ l', 0 ≤ c ∧ c ≤ 255) :
    Calls Tryd.prog 41 #[v, v'] w fun e w' => e = .returned (.bool (decide (l = l'))) ∧ w = w' := same_has h.has h'.has hb hb'
end Go.Proofs.YtkmjghecjlgjpaaDoor

namespace Go.Proofs.YtkmjghecjlgjpaaDoor
open Go.RowKit

/-- The first k labels, a dot behind each. -/
def dots (n : List (List Int)) (k : Nat) : List Int := ((n.take k).map (fun l => l ++ [46])).flatten

theorem dots_zero (n : List (List Int)) : dots n 0 = [] := by simp [dots]
theorem dots_succ (n : List (List Int)) (k : Nat) (h : k < n.length) : dots n (k + 1) = dots n k ++ n.getD k [] ++ [46] := by
  unfold dots
  rw [List.take_succ_eq_append_getElem h, List.map_append, List.flatten_append, show n.getD k [] = n[k] by simp [h]]
  simp only [List.map_cons, List.map_nil, List.flatten_cons, List.flatten_nil, List.append_nil, List.append_assoc]

theorem dots_length (n : List (List Int)) (h : nameOk n = true) (k : Nat) : (dots n k).length ≤ 16 * k := by
  induction k with
  | zero => simp [dots]
  | succ k ih =>
    by_cases hk : k < n.length
    · rw [dots_succ n k hk]
      have := (labelOk_length ((nameOk_parts h).2 k hk)).2
      simp only [List.length_append, List.length_cons, List.length_nil]
      omega
    · have e : dots n (k + 1) = dots n k := by unfold dots; rw [List.take_of_length_le (by omega), List.take_of_length_le (by omega)]
      rw [e]; omega

/-- A name's text. -/
def nameText (n : List (List Int)) : List Int := if nameOk n = true then (if n.length = 0 then [46] else dots n n.length) else []

theorem nameText_no {n : List (List Int)} (h : nameOk n = false) : nameText n = [] := by simp [nameText, h]
theorem nameText_root {n : List (List Int)} (h : nameOk n = true) (h0 : n.length = 0) : nameText n = [46] := by simp [nameText, h, h0]
theorem nameText_some {n : List (List Int)} (h : nameOk n = true) (h0 : n.length ≠ 0) : nameText n = dots n n.length := by simp [nameText, h, h0]
theorem nameText_length (n : List (List Int)) : (nameText n).length ≤ 96 := by
  unfold nameText
  split
  · rename_i h
    split
    · simp
    · have := dots_length n h n.length
      have := (nameOk_parts h).1
      omega
  · simp
end Go.Proofs.YtkmjghecjlgjpaaDoor
