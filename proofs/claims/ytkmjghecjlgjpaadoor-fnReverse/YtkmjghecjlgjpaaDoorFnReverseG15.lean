/-
  What NameGet reads, in plain words: one step after another, each a label or a pointer. What NameRead reads, in plain words.
-/
import Derived.Test.YtkmjghecjlgjpaaDoorFnReverseG01
import Derived.Test.YtkmjghecjlgjpaaDoorFnReverseG14
namespace Go.Proofs.YtkmjghecjlgjpaaDoor
set_option linter.unusedVariables false

/-- Every number of the list is a byte. -/
def Bytes8 (l : List Int) : Prop := ∀ k, 0 ≤ l.getD k 0 ∧ l.getD k 0 ≤ 255

/-- Reads on at p, behind the labels n and h pointers; e: the end, once it is known. f: how many steps there may be. -/
def getName (l : List Int) : Nat → List (List Int) → Int → Nat → Int → List (List Int) × Int
  | 0, _, _, _, _ => ([], -1)
  | f + 1, n, p, h, e =>
    if p < 0 ∨ (l.length : Int) ≤ p then ([], -1)
    else if l.getD p.toNat 0 = 0 then (if nameOk n = true then (n, if e < 0 then p + 1 else e) else ([], -1))
    else if 192 ≤ l.getD p.toNat 0 then
      (if (get16 l p).2 < 0 ∨ p ≤ (get16 l p).1 - 49152 ∨ 8 ≤ h then ([], -1) else getName l f n ((get16 l p).1 - 49152) (h + 1) (if e < 0 then (get16 l p).2 else e))
    else if 15 < l.getD p.toNat 0 ∨ 6 ≤ n.length then ([], -1)
    else if (takeOf l (p + 1) (l.getD p.toNat 0)).2 < 0 then ([], -1)
    else getName l f (n ++ [lowered (takeOf l (p + 1) (l.getD p.toNat 0)).1 (takeOf l (p + 1) (l.getD p.toNat 0)).1.length]) (takeOf l (p + 1) (l.getD p.toNat 0)).2 h e

def nameGet (l : List Int) (p : Int) : List (List Int) × Int := if 512 < l.length then ([], -1) else getName l 20 [] p 0 (-1)

/-- The number behind a pointer at p, and what is behind it; (0, -1) if there is none that leads back. -/
def pointerOf (l : List Int) (p : Int) : Int × Int :=
  if (get16 l p).2 < 0 ∨ (get16 l p).1 < 49152 ∨ p ≤ (get16 l p).1 - 49152 then (0, -1) else ((get16 l p).1 - 49152, (get16 l p).2)

/-- A counted text at p. -/
def countedOf (l : List Int) (p : Int) : List Int × Int :=
  if (takeOf l p 1).2 < 0 then ([], -1) else takeOf l (takeOf l p 1).2 (l.getD p.toNat 0)

/-- A label at p, in small letters. -/
def labelOf (l : List Int) (p : Int) : List Int × Int :=
  if 15 < (countedOf l p).1.length then ([], -1) else (lowered (countedOf l p).1 (countedOf l p).1.length, (countedOf l p).2)

theorem bytes8_take {l : List Int} (h : Bytes8 l) (p n : Int) : Bytes8 (takeOf l p n).1 := by
  intro k
  unfold takeOf
  split
  · simp only [List.getD_eq_getElem?_getD, List.getElem?_take, List.getElem?_drop]
    split
    · have := h (p.toNat + k); rwa [List.getD_eq_getElem?_getD] at this
    · simp
  · simp

theorem get16_bound {l : List Int} (h : Bytes8 l) (p : Int) : 0 ≤ (get16 l p).1 ∧ (get16 l p).1 ≤ 65535 := by
  unfold get16
  split
  · have h1 := h p.toNat; have h2 := h (p.toNat + 1)
    exact ⟨by show 0 ≤ l.getD p.toNat 0 * 256 + l.getD (p.toNat + 1) 0; omega, by show l.getD p.toNat 0 * 256 + l.getD (p.toNat + 1) 0 ≤ 65535; omega⟩
  · simp

/-- Where a byte stands at p: the counted text behind it. -/
theorem countedOf_at {l : List Int} {i : Nat} (h : i < l.length) : countedOf l i = takeOf l ((i : Int) + 1) (l.getD i 0) := by
  have e1 : (takeOf l (i : Int) 1).2 = (i : Int) + 1 := by
    have := takeOf_yes (l := l) (i := i) (m := 1) (by omega)
    rw [show ((1 : Nat) : Int) = 1 from rfl] at this
    rw [this]
  unfold countedOf
  rw [e1, if_neg (by omega)]
  simp
theorem countedOf_out {l : List Int} {p : Int} (h : p < 0 ∨ (l.length : Int) ≤ p) : countedOf l p = ([], -1) := by
  have e1 : takeOf l p 1 = ([], -1) := takeOf_no (by omega)
  unfold countedOf
  rw [e1]; rfl

theorem takeOf_cases {l : List Int} (i : Nat) {x : Int} (h0 : 0 ≤ x) :
    ((i : Int) + 1 + x ≤ l.length ∧ ((takeOf l ((i : Int) + 1) x).1.length : Int) = x ∧ (takeOf l ((i : Int) + 1) x).2 = (i : Int) + 1 + x) ∨ ((l.length : Int) < (i : Int) + 1 + x ∧ takeOf l ((i : Int) + 1) x = ([], -1)) := by
  by_cases h : (i : Int) + 1 + x ≤ l.length
  · left
    refine ⟨h, ?_, ?_⟩
    · unfold takeOf; rw [if_pos ⟨by omega, h0, h⟩]; simp only [List.length_take, List.length_drop]; omega
    · unfold takeOf; rw [if_pos ⟨by omega, h0, h⟩]
  · exact .inr ⟨by omega, takeOf_no (by omega)⟩

/-- A pointer is one. -/
theorem get_pointer {l : List Int} (hb : Bytes8 l) {p : Int} (hp : 0 ≤ (pointerOf l p).2) (f : Nat) (n : List (List Int)) (h : Nat) (e : Int) :
    getName l (f + 1) n p h e = if 8 ≤ h then ([], -1) else getName l f n (pointerOf l p).1 (h + 1) (if e < 0 then (pointerOf l p).2 else e) := by
  by_cases hc : (get16 l p).2 < 0 ∨ (get16 l p).1 < 49152 ∨ p ≤ (get16 l p).1 - 49152
  · unfold pointerOf at hp; rw [if_pos hc] at hp; simp at hp
  have e1 : pointerOf l p = ((get16 l p).1 - 49152, (get16 l p).2) := by unfold pointerOf; rw [if_neg hc]
  rw [e1]
  by_cases hr : 0 ≤ p ∧ p + 2 ≤ l.length
  · have e2 : (get16 l p).1 = l.getD p.toNat 0 * 256 + l.getD (p.toNat + 1) 0 := by unfold get16; rw [if_pos hr]
    have hx := hb p.toNat
    have hy := hb (p.toNat + 1)
    rw [getName, if_neg (by omega), if_neg (by omega), if_pos (by omega)]
    by_cases h8 : 8 ≤ h
    · rw [if_pos (.inr (.inr h8)), if_pos h8]
    · rw [if_neg (by omega), if_neg h8]
  · have e2 : get16 l p = (0, -1) := by unfold get16; rw [if_neg hr]
    rw [e2] at hc; simp at hc

theorem no_pointer {l : List Int} {i : Nat} (hb : Bytes8 l) (hi : i < l.length) (hp : (pointerOf l (i : Int)).2 < 0) (hx : 192 ≤ l.getD i 0) : (get16 l (i : Int)).2 < 0 ∨ (i : Int) ≤ (get16 l (i : Int)).1 - 49152 := by
  by_cases hr : (i : Int) + 2 ≤ l.length
  · have e2 : get16 l (i : Int) = (l.getD i 0 * 256 + l.getD (i + 1) 0, (i : Int) + 2) := by unfold get16; rw [if_pos ⟨by omega, hr⟩]; simp
    have hy := hb (i + 1)
    right
    by_cases hq : (i : Int) ≤ (get16 l (i : Int)).1 - 49152
    · exact hq
    · exfalso
      unfold pointerOf at hp
      rw [if_neg (by rw [e2] at hq ⊢; simp only [] at hq ⊢; omega)] at hp
      rw [e2] at hp; simp only [] at hp; omega
  · left; unfold get16; rw [if_neg (by omega)]; simp

theorem get_none {l : List Int} (hb : Bytes8 l) {p : Int} (hp : (pointerOf l p).2 < 0) (hl : (labelOf l p).2 < 0) (f : Nat) (n : List (List Int)) (h : Nat) (e : Int) : getName l (f + 1) n p h e = ([], -1) := by
  by_cases hr : p < 0 ∨ (l.length : Int) ≤ p
  · rw [getName, if_pos hr]
  obtain ⟨i, rfl⟩ := Int.eq_ofNat_of_zero_le (show 0 ≤ p by omega)
  have hil : i < l.length := by omega
  have hx := hb i
  have hcn := countedOf_at hil
  rw [getName, if_neg hr]
  simp only [Int.toNat_natCast]
  unfold labelOf at hl
  rw [hcn] at hl
  rcases takeOf_cases (l := l) i hx.1 with ⟨h1, h2, h3⟩ | ⟨h1, h2⟩
  · by_cases h15 : 15 < (takeOf l ((i : Int) + 1) (l.getD i 0)).1.length
    · rw [if_neg (by omega)]
      by_cases h192 : 192 ≤ l.getD i 0
      · rw [if_pos h192, if_pos (by rcases no_pointer hb hil hp h192 with q | q <;> simp [q])]
      · rw [if_neg h192, if_pos (by omega)]
    · rw [if_neg h15] at hl; simp only [] at hl; omega
  · rw [if_neg (by omega)]
    by_cases h192 : 192 ≤ l.getD i 0
    · rw [if_pos h192, if_pos (by rcases no_pointer hb hil hp h192 with q | q <;> simp [q])]
    · rw [if_neg h192]
      by_cases h15 : 15 < l.getD i 0 ∨ 6 ≤ n.length
      · rw [if_pos h15]
      · rw [if_neg h15, h2]; simp

theorem label_some {l : List Int} (hb : Bytes8 l) {p : Int} (hl : 0 ≤ (labelOf l p).2) : ∃ i : Nat, p = i ∧ i < l.length ∧ l.getD i 0 ≤ 15 ∧ (i : Int) + 1 + l.getD i 0 ≤ l.length ∧ ((labelOf l p).1.length : Int) = l.getD i 0 ∧ (labelOf l p).2 = (i : Int) + 1 + l.getD i 0 ∧
    (takeOf l ((i : Int) + 1) (l.getD i 0)).2 = (i : Int) + 1 + l.getD i 0 ∧ (labelOf l p).1 = lowered (takeOf l ((i : Int) + 1) (l.getD i 0)).1 (takeOf l ((i : Int) + 1) (l.getD i 0)).1.length := by
  by_cases hr : p < 0 ∨ (l.length : Int) ≤ p
  · unfold labelOf at hl; rw [countedOf_out hr] at hl; simp at hl
  obtain ⟨i, rfl⟩ := Int.eq_ofNat_of_zero_le (show 0 ≤ p by omega)
  have hil : i < l.length := by omega
  have hx := hb i
  have hcn := countedOf_at hil
  have hl' := hl
  unfold labelOf at hl' ⊢
  rw [hcn] at hl' ⊢
  rcases takeOf_cases (l := l) i hx.1 with ⟨h1, h2, h3⟩ | ⟨h1, h2⟩
  · by_cases h15 : 15 < (takeOf l ((i : Int) + 1) (l.getD i 0)).1.length
    · rw [if_pos h15] at hl'; simp at hl'
    · rw [if_neg h15]
      refine ⟨i, rfl, hil, by omega, h1, ?_, h3, h3, rfl⟩
      simp only [lowered_length]; exact h2
  · rw [h2] at hl'; simp at hl'

theorem get_end {l : List Int} (hb : Bytes8 l) {p : Int} (hl : 0 ≤ (labelOf l p).2) (h0 : (labelOf l p).1.length = 0) (f : Nat) (n : List (List Int)) (h : Nat) (e : Int) :
    getName l (f + 1) n p h e = if nameOk n = true then (n, if e < 0 then (labelOf l p).2 else e) else ([], -1) := by
  obtain ⟨i, rfl, hil, h15, hle, hlen, h2, _⟩ := label_some hb hl
  rw [getName, if_neg (by omega)]
  simp only [Int.toNat_natCast]
  rw [if_pos (by omega), h2, show l.getD i 0 = 0 by omega]
  simp

theorem get_label {l : List Int} (hb : Bytes8 l) {p : Int} (hl : 0 ≤ (labelOf l p).2) (h0 : (labelOf l p).1.length ≠ 0) (f : Nat) (n : List (List Int)) (h : Nat) (e : Int) :
    getName l (f + 1) n p h e = if 6 ≤ n.length then ([], -1) else getName l f (n ++ [(labelOf l p).1]) (labelOf l p).2 h e := by
  obtain ⟨i, rfl, hil, h15, hle, hlen, h2, ht, h1⟩ := label_some hb hl
  rw [getName, if_neg (by omega)]
  simp only [Int.toNat_natCast]
  rw [if_neg (by omega), if_neg (by omega)]
  by_cases h6 : 6 ≤ n.length
  · rw [if_pos (.inr h6), if_pos h6]
  · rw [if_neg (by omega), if_neg h6, if_neg (by omega), h1, h2, ht]

theorem labelOf_bound {l : List Int} (hb : Bytes8 l) (p : Int) : (labelOf l p).1.length ≤ 15 ∧ (labelOf l p).2 ≤ l.length := by
  by_cases hl : 0 ≤ (labelOf l p).2
  · obtain ⟨i, rfl, hil, h15, hle, hlen, h2, _⟩ := label_some hb hl
    omega
  · refine ⟨?_, by omega⟩
    unfold labelOf
    split
    · simp
    · simp only [lowered_length]; omega
theorem pointerOf_bound {l : List Int} (hb : Bytes8 l) (p : Int) : (pointerOf l p).1 ≤ 65535 ∧ (pointerOf l p).2 ≤ l.length := by
  have h1 := get16_bound hb p
  have h2 : (get16 l p).2 ≤ l.length := by unfold get16; split <;> simp only [] <;> omega
  unfold pointerOf
  split <;> simp only [] <;> omega

theorem getName_bound {l : List Int} : ∀ (f : Nat) (n : List (List Int)) (p : Int) (h : Nat) (e : Int), (getName l f n p h e).1.length ≤ 6 ∧ ∀ i, i < (getName l f n p h e).1.length → ((getName l f n p h e).1.getD i []).length ≤ 15
  | 0, _, _, _, _ => by simp [getName]
  | f + 1, n, p, h, e => by
    rw [getName]
    split
    · simp
    split
    · split
      · rename_i hok
        exact ⟨(nameOk_parts hok).1, fun i hi => (labelOk_length ((nameOk_parts hok).2 i hi)).2⟩
      · simp
    split
    · split
      · simp
      · exact getName_bound f _ _ _ _
    split
    · simp
    split
    · simp
    · exact getName_bound f _ _ _ _
theorem nameGet_bound (l : List Int) (p : Int) : (nameGet l p).1.length ≤ 6 ∧ ∀ i, i < (nameGet l p).1.length → ((nameGet l p).1.getD i []).length ≤ 15 := by
  unfold nameGet
  split
  · simp
  · exact getName_bound _ _ _ _ _
end Go.Proofs.YtkmjghecjlgjpaaDoor

namespace Go.Proofs.YtkmjghecjlgjpaaDoor
set_option linter.unusedVariables false

/-- The labels that are still to come, cur being what has been read of one; e: was there anything at all. -/
def rest (e : Bool) : List Int → List Int → List (List Int)
  | [], cur => if cur.length = 0 ∧ e = true then [] else [lowered cur cur.length]
  | x :: xs, cur => if x = 46 then lowered cur cur.length :: rest e xs [] else rest e xs (cur ++ [x])

def labelsIn (l : List Int) : List (List Int) := rest (decide (0 < l.length)) l []

def nameRead (l : List Int) : List (List Int) × Bool := if l = [46] then ([], true) else if nameOk (labelsIn l) = true then (labelsIn l, true) else ([], false)

theorem drop_at {l : List Int} {i : Nat} (h : i < l.length) : l.drop i = l.getD i 0 :: l.drop (i + 1) := by
  rw [List.drop_eq_getElem_cons h, List.getD_eq_getElem?_getD, List.getElem?_eq_getElem h]; rfl
theorem rest_label {e : Bool} {l cur : List Int} {i : Nat} (h : i < l.length) (hx : l.getD i 0 ≠ 46) : rest e (l.drop i) cur = rest e (l.drop (i + 1)) (cur ++ [l.getD i 0]) := by
  rw [drop_at h, rest, if_neg hx]
theorem rest_dot {e : Bool} {l cur : List Int} {i : Nat} (h : i < l.length) (hx : l.getD i 0 = 46) : rest e (l.drop i) cur = lowered cur cur.length :: rest e (l.drop (i + 1)) [] := by
  rw [drop_at h, rest, if_pos hx]
theorem rest_end {e : Bool} {l cur : List Int} : rest e (l.drop l.length) cur = if cur.length = 0 ∧ e = true then [] else [lowered cur cur.length] := by
  rw [List.drop_length, rest]

theorem bytes8_nil : Bytes8 [] := fun k => by simp
theorem bytes8_snoc {l : List Int} (h : Bytes8 l) {x : Int} (h0 : 0 ≤ x) (h1 : x ≤ 255) : Bytes8 (l ++ [x]) := by
  intro k
  have := h k
  rw [List.getD_eq_getElem?_getD] at this ⊢
  by_cases hk : k < l.length
  · rw [List.getElem?_append_left hk]; exact this
  · rw [List.getElem?_append_right (by omega)]
    cases hq : k - l.length with
    | zero => simp; omega
    | succ q => simp
theorem nameRead_bound (l : List Int) : (nameRead l).1.length ≤ 6 ∧ ∀ i, i < (nameRead l).1.length → ((nameRead l).1.getD i []).length ≤ 15 := by
  unfold nameRead
  split
  · simp
  · split
    · rename_i hok
      exact ⟨(nameOk_parts hok).1, fun i hi => (labelOk_length ((nameOk_parts hok).2 i hi)).2⟩
    · simp
end Go.Proofs.YtkmjghecjlgjpaaDoor
