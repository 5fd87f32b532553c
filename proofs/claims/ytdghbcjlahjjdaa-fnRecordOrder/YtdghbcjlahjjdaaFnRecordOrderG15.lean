/-
  What NameRead reads, in plain words. A slice of bytes made into a text.
-/
import Derived.Test.YtdghbcjlahjjdaaFnRecordOrderG14
import Derived.Test.YtdghbcjlahjjdaaFnRecordOrderG02
namespace Go.Proofs.Ytdghbcjlahjjdaa
set_option linter.unusedVariables false

/-- The labels that are still to come, cur being what has been read of one; e: was there anything at all. -/
def rest (e : Bool) : List Int → List Int → List (List Int)
  | [], cur => if cur.length = 0 ∧ e = true then [] else [lowered cur cur.length]
  | x :: xs, cur => if x = 46 then lowered cur cur.length :: rest e xs [] else rest e xs (cur ++ [x])

def labelsIn (l : List Int) : List (List Int) := rest (decide (0 < l.length)) l []

def nameRead (l : List Int) : List (List Int) × Bool := if l = [46] then ([], true) else if nameOk (labelsIn l) = true then (labelsIn l, true) else ([], false)

theorem drop_at {l : List Int} {i : Nat} (h : i < l.length) : l.drop i = l.getD i 0 :: l.drop (i + 1) := by
  rw [List.drop_eq_getElem_cons h, List.getD_eq_getElem?_getD, List.getElem?_eq_getElem h]; rfl
theorem rest_label {e : Bool} {l cur : List Int} {i : Nat} (h : i < l.length) (hx : l.getD i 0 ≠ 46) : rest e (l.drop i) cur = rest e (l.drop (i + 1)) (cur ++ [l.getD i 0]) := by
  rw [drop_at h, rest, if_neg hx]
theorem rest_dot {e : Bool} {l cur : List Int} {i : Nat} (h : i < l.length) (hx : l.getD i 0 = 46) : rest e (l.drop i) cur = lowered cur cur.length :: rest e (l.drop (i + 1)) [] := by
  rw [drop_at h, rest, if_pos hx]
theorem rest_end {e : Bool} {l cur : List Int} : rest e (l.drop l.length) cur = if cur.length = 0 ∧ e = true then [] else [lowered cur cur.length] := by
  rw [List.drop_length, rest]

theorem bytes8_nil : Bytes8 [] := fun k => by simp
theorem bytes8_snoc {l : List Int} (h : Bytes8 l) {x : Int} (h0 : 0 ≤ x) (h1 : x ≤ 255) : Bytes8 (l ++ [x]) := by
  intro k
  have := h k
  rw [List.getD_eq_getElem?_getD] at this ⊢
  by_cases hk : k < l.length
  · rw [List.getElem?_append_left hk]; exact this
  · rw [List.getElem?_append_right (by omega)]
    cases hq : k - l.length with
    | zero => simp; omega
    | succ q => simp
theorem nameRead_bound (l : List Int) : (nameRead l).1.length ≤ 6 ∧ ∀ i, i < (nameRead l).1.length → ((nameRead l).1.getD i []).length ≤ 15 := by
  unfold nameRead
  split
  · simp
  · split
    · rename_i hok
      exact ⟨(nameOk_parts hok).1, fun i hi => (labelOk_length ((nameOk_parts hok).2 i hi)).2⟩
    · simp
end Go.Proofs.Ytdghbcjlahjjdaa

namespace Go.Proofs.Ytdghbcjlahjjdaa
open Go.RowKit

theorem conv_own {B : Nat} {v : Value} {l : List Int} {w : World} (h : Own B 5 w v l) : (convert 22 9 v).run Try.prog w = .ok (.string (strOfNums l)) w := by
  rcases h.form with ⟨rfl, rfl⟩ | ⟨g, cap, rfl, _, _, _, _, hc, _⟩
  · exact run_convert_bytes_nil w 22 5 Try.underlying22 Try.underlying5 0 0 9 Try.underlying9
  · exact run_convert_bytes_arg w 22 5 Try.underlying22 Try.underlying5 g 0 l.length cap l rfl (fun i hi => by rw [Nat.zero_add]; exact hc i hi) 9 Try.underlying9

theorem conv_has {v : Value} {l : List Int} {w : World} (h : Has w v l) : (convert 22 9 v).run Try.prog w = .ok (.string (strOfNums l)) w := by
  rcases h with ⟨rfl, rfl⟩ | ⟨g, off, cap, rfl, _, _, _, hc⟩
  · exact run_convert_bytes_nil w 22 5 Try.underlying22 Try.underlying5 0 0 9 Try.underlying9
  · exact run_convert_bytes_arg w 22 5 Try.underlying22 Try.underlying5 g off l.length cap l rfl hc 9 Try.underlying9
end Go.Proofs.Ytdghbcjlahjjdaa
