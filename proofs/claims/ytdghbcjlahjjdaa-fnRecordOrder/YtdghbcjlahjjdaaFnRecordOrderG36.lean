/-
  Plain facts: what the law of the order of names asks for. No program is named here. Plain facts: the order of records. No program is named here.
-/
import Derived.Test.YtdghbcjlahjjdaaFnRecordOrderG35
import Derived.Test.YtdghbcjlahjjdaaFnRecordOrderG06
import Derived.Test.YtdghbcjlahjjdaaFnRecordOrderG33
namespace Go.Proofs.Ytdghbcjlahjjdaa
open Go.RowKit

theorem cmpL_cases : ∀ (a b : List (List Int)), cmpL a b = -1 ∨ cmpL a b = 0 ∨ cmpL a b = 1
  | [], [] => .inr (.inl rfl)
  | [], _ :: _ => .inl rfl
  | _ :: _, [] => .inr (.inr rfl)
  | x :: a, y :: b => by
    unfold cmpL
    split
    · exact cmpB_cases x y
    · exact cmpL_cases a b
theorem cmpN_cases (a b : List (List Int)) : cmpN a b = -1 ∨ cmpN a b = 0 ∨ cmpN a b = 1 := by
  rw [cmpN_eq]
  exact cmpL_cases _ _
theorem nameCmp_ok {a b : List (List Int)} (ha : nameOk a = true) (hb : nameOk b = true) : nameCmp a b = cmpN a b := by
  unfold nameCmp
  rw [if_pos ⟨ha, hb⟩]
theorem nameCmp_no {a b : List (List Int)} (h : nameOk a = false ∨ nameOk b = false) : nameCmp a b = 0 := by
  unfold nameCmp
  rw [if_neg]
  rintro ⟨h1, h2⟩
  rcases h with h | h
  · rw [h] at h1
    cases h1
  · rw [h] at h2
    cases h2
theorem under_no {a b : List (List Int)} (h : nameOk a = false ∨ nameOk b = false) : under a b = false := by
  unfold under
  rcases h with h | h
  · rw [h]
    rfl
  · rw [h, Bool.false_and, Bool.and_false]
theorem text_same {a b : List (List Int)} (ha : nameOk a = true) (hb : nameOk b = true) : decide (nameText a = nameText b) = (cmpN a b == 0) := by
  rw [Bool.eq_iff_iff, decide_eq_true_iff, beq_iff_eq, nameText_inj ha hb, cmpN_zero (nameOk_bytes ha) (nameOk_bytes hb)]
theorem under_behind {a b : List (List Int)} (ha : nameOk a = true) (hb : nameOk b = true) (h : under a b = true) : ¬ cmpN a b < 0 := by
  obtain ⟨p, rfl⟩ := (under_iff ha hb).1 h
  by_cases hp : p = []
  · subst hp
    rw [List.nil_append, cmpN_self]
    omega
  · rw [cmpN_longer b p hp]
    omega
theorem under_parent {a : List (List Int)} (ha : nameOk a = true) : under a (a.drop 1) = true := (under_iff ha (nameOk_drop ha 1)).2 ⟨a.take 1, (List.take_append_drop 1 a).symm⟩
theorem parent_not {a : List (List Int)} (ha : nameOk a = true) (h0 : a.length ≠ 0) : under (a.drop 1) a = false := by
  cases h : under (a.drop 1) a with
  | false => rfl
  | true =>
    obtain ⟨p, hp⟩ := (under_iff (nameOk_drop ha 1) ha).1 h
    have := congrArg List.length hp
    simp at this
    omega
theorem child_ok {a : List (List Int)} {l : List Int} (ha : nameOk a = true) (h6 : a.length ≠ 6) (hl : labelOk l = true) : nameOk (l :: a) = true := by
  obtain ⟨h1, h2⟩ := nameOk_parts ha
  refine nameOk_yes (by simp; omega) fun j hj => ?_
  cases j with
  | zero => exact hl
  | succ j =>
    have := h2 j (by simpa using hj)
    simpa using this
theorem under_child {a : List (List Int)} {l : List Int} (ha : nameOk a = true) (hk : nameOk (l :: a) = true) : under (l :: a) a = true := (under_iff hk ha).2 ⟨[l], rfl⟩
theorem cmp_child {a : List (List Int)} {l : List Int} (ha : nameOk a = true) (hk : nameOk (l :: a) = true) : nameCmp (l :: a) a = 1 := by
  rw [nameCmp_ok hk ha]
  exact cmpN_longer a [l] (by simp)
theorem parent_child {a : List (List Int)} {l : List Int} (hk : nameOk (l :: a) = true) : parentOf (l :: a) = (a, true) := by
  rw [parentOf_yes hk (by simp)]
  rfl
theorem under_root {a : List (List Int)} (ha : nameOk a = true) : under a [] = true := (under_iff ha (by decide)).2 ⟨a, by simp⟩
end Go.Proofs.Ytdghbcjlahjjdaa

namespace Go.Proofs.Ytdghbcjlahjjdaa
open Go.RowKit

theorem byLength_swap (x y : Int) : byLength x y = - byLength y x := by
  unfold byLength
  by_cases h1 : x < y
  · simp [h1, show ¬ y < x by omega]
  · by_cases h2 : y < x
    · simp [h1, h2]
    · simp [h1, h2]
theorem cmpR_swap (a b : Rec) : cmpR a b = - cmpR b a := by
  unfold cmpR
  have h1 := cmpN_swap a.name b.name
  have h2 := byLength_swap a.type b.type
  have h3 := cmpB_swap (dataB a) (dataB b)
  by_cases e1 : cmpN b.name a.name = 0
  · rw [e1] at h1
    by_cases e2 : byLength b.type a.type = 0
    · rw [e2] at h2
      simp only [h1, h2, e1, e2]
      simpa using h3
    · have e2' : byLength a.type b.type ≠ 0 := by omega
      simp only [h1, e1]
      simp [e2, e2']
      exact h2
  · have e1' : cmpN a.name b.name ≠ 0 := by omega
    simp [e1, e1']
    exact h1
theorem cmpR_cases (a b : Rec) : cmpR a b = -1 ∨ cmpR a b = 0 ∨ cmpR a b = 1 := by
  unfold cmpR
  have h1 := cmpN_cases a.name b.name
  have h2 : byLength a.type b.type = -1 ∨ byLength a.type b.type = 0 ∨ byLength a.type b.type = 1 := by
    unfold byLength
    split
    · exact .inl rfl
    · split
      · exact .inr (.inr rfl)
      · exact .inr (.inl rfl)
  have h3 := cmpB_cases (dataB a) (dataB b)
  split
  · exact h1
  · split
    · exact h2
    · exact h3
theorem cmpR_self (a : Rec) : cmpR a a = 0 := by
  have := cmpR_swap a a
  omega
/-- Times play no part. -/
theorem cmpR_time (a b : Rec) (t : Int) : cmpR ⟨a.name, a.type, t, a.addr, a.to, a.text, a.nums⟩ b = cmpR a b := rfl
theorem cmpR_time2 (a b : Rec) (t : Int) : cmpR a ⟨b.name, b.type, t, b.addr, b.to, b.text, b.nums⟩ = cmpR a b := rfl
theorem rrOk_time {a : Rec} (h : rrOk a = true) (t : Int) (h0 : 0 ≤ t) (h1 : t ≤ 100000) : rrOk ⟨a.name, a.type, t, a.addr, a.to, a.text, a.nums⟩ = true := by
  unfold rrOk at h ⊢
  simp only [Bool.and_eq_true] at h ⊢
  exact ⟨h.1, h.2.1, decide_eq_true ⟨h0, h1⟩, h.2.2.2⟩
end Go.Proofs.Ytdghbcjlahjjdaa
