/-
  Plain facts: a text of bytes gone through rune by rune, and great letters turned into small ones. No program is named here. What NameGet reads, in plain words: one step after another, each a label or a pointer. What NameRead reads, in plain words. A slice of bytes made into a text. Plain facts: the decimal digits of a byte, and an address as four numbers with dots between. No program is named here. Plain facts: an address read from its text, as the program does it and as the specification does it, and that both read the same. No program is named here.
-/
import Derived.Test.YthmihglfffeedaaGreatDoorFnRecordsG00
import Derived.Lib.OthersKept
import Derived.Test.YthmihglfffeedaaGreatDoorFnRecordsG02
import Derived.Lib.ItoaNum
import Derived.Lib.UnsafeStr
import Derived.Lib.Split
import Derived.Lib.SplitLaws
namespace Go.Proofs.YthmihglfffeedaaGreatDoor
open Go.RowKit

def low (x : Int) : Int := if 65 ≤ x ∧ x ≤ 90 then x + 32 else x
def lowered (l : List Int) (k : Nat) : List Int := (List.range l.length).map fun (j : Nat) => if j < k then low (l.getD j 0) else l.getD j 0

theorem lowered_length (l : List Int) (k : Nat) : (lowered l k).length = l.length := by simp [lowered]
theorem lowered_zero (l : List Int) : lowered l 0 = l := by
  apply List.ext_getElem?
  intro j
  by_cases hj : j < l.length <;> simp [lowered, hj]
theorem lowered_getD (l : List Int) (k i : Nat) (h : k ≤ i) : (lowered l k).getD i 0 = l.getD i 0 := by
  by_cases hi : i < l.length
  · simp [lowered, hi, Nat.not_lt.2 h]
  · simp [lowered, hi]
theorem lowered_succ (l : List Int) (k : Nat) : (lowered l k).set k (low (l.getD k 0)) = lowered l (k + 1) := by
  apply List.ext_getElem?
  intro j
  rw [List.getElem?_set]
  by_cases hj : j < l.length
  · by_cases e : k = j
    · subst e; simp [lowered, hj]
    · have : j < k + 1 ↔ j < k := by omega
      simp [lowered, hj, e, this]
  · simp [lowered, hj]
    omega
theorem low_high (x : Int) (h : x < 65 ∨ 90 < x) : low x = x := by unfold low; rw [if_neg (by omega)]
theorem low_great (x : Int) (h : 65 ≤ x) (h' : x ≤ 90) : low x = x + 32 := by unfold low; rw [if_pos ⟨h, h'⟩]
theorem lowered_same (l : List Int) (k k' : Nat) (hk : k ≤ k') (h : ∀ j, k ≤ j → j < k' → l.getD j 0 < 65 ∨ 90 < l.getD j 0) : lowered l k' = lowered l k := by
  unfold lowered
  apply List.map_congr_left
  intro j hj
  by_cases h1 : j < k
  · rw [if_pos h1, if_pos (by omega)]
  · rw [if_neg h1]
    by_cases h2 : j < k'
    · rw [if_pos h2, low_high _ (h j (by omega) h2)]
    · rw [if_neg h2]

theorem str_get (l : List Int) (k : Nat) (h : k < l.length) : (strOfNums l).get! k = UInt8.ofNat (l.getD k 0).toNat := by
  have hs : k < (strOfNums l).size := by rw [strOfNums_size]; exact h
  simp [ByteArray.get!, strOfNums, h]

theorem str_toNat (l : List Int) (hb : ∀ k, 0 ≤ l.getD k 0 ∧ l.getD k 0 ≤ 255) (k : Nat) (h : k < l.length) : (((strOfNums l).get! k).toNat : Int) = l.getD k 0 := by
  rw [str_get l k h]
  have := hb k
  rw [UInt8.toNat_ofNat']
  omega

theorem decode_l (l : List Int) (hb : ∀ k, 0 ≤ l.getD k 0 ∧ l.getD k 0 ≤ 255) (pos : Nat) (h : pos < l.length) :
    1 ≤ (Utf8.decode (strOfNums l) pos).2 ∧ pos + (Utf8.decode (strOfNums l) pos).2 ≤ l.length ∧
      ((l.getD pos 0 < 128 ∧ ((Utf8.decode (strOfNums l) pos).1 : Int) = l.getD pos 0 ∧ (Utf8.decode (strOfNums l) pos).2 = 1) ∨
       (128 ≤ (Utf8.decode (strOfNums l) pos).1 ∧ ∀ j, pos ≤ j → j < pos + (Utf8.decode (strOfNums l) pos).2 → 128 ≤ l.getD j 0)) := by
  have h0 := str_toNat l hb pos h
  have hs := strOfNums_size l
  have hc : ∀ k, pos + k < l.length → (((strOfNums l).get! (pos + k)).toNat : Int) = l.getD (pos + k) 0 := fun k hk => str_toNat l hb (pos + k) hk
  have hlt : ∀ k, ((strOfNums l).get! (pos + k)).toNat < 256 := fun k => UInt8.toNat_lt _
  simp only [Utf8.decode, hs, Nat.add_zero]
  by_cases ha : ((strOfNums l).get! pos).toNat < 128
  · rw [if_pos ha]
    exact ⟨Nat.le_refl _, by show pos + 1 ≤ _; omega, .inl ⟨by omega, by simpa using h0, rfl⟩⟩
  · rw [if_neg ha]
    have hp : 128 ≤ l.getD pos 0 := by omega
    have one : ∀ j, pos ≤ j → j < pos + 1 → 128 ≤ l.getD j 0 := fun j h1 h2 => by
      have e : j = pos := by omega
      rw [e]; exact hp
    have step : ∀ k, decide (pos + k < l.length) = true → ((strOfNums l).get! (pos + k)).toNat / 64 = 2 → 128 ≤ l.getD (pos + k) 0 := fun k hk h2 => by
      have := hc k (by simpa using hk)
      omega
    have fin : ∀ r : Nat × Nat, (1 ≤ r.2 ∧ pos + r.2 ≤ l.length ∧ 128 ≤ r.1 ∧ ∀ j, pos ≤ j → j < pos + r.2 → 128 ≤ l.getD j 0) →
        1 ≤ r.2 ∧ pos + r.2 ≤ l.length ∧ ((l.getD pos 0 < 128 ∧ (r.1 : Int) = l.getD pos 0 ∧ r.2 = 1) ∨ (128 ≤ r.1 ∧ ∀ j, pos ≤ j → j < pos + r.2 → 128 ≤ l.getD j 0)) := fun r hr => ⟨hr.1, hr.2.1, .inr hr.2.2⟩
    apply fin
    have err : 1 ≤ (Utf8.runeError, 1).2 ∧ pos + (Utf8.runeError, 1).2 ≤ l.length ∧ 128 ≤ (Utf8.runeError, 1).1 ∧ ∀ j, pos ≤ j → j < pos + (Utf8.runeError, 1).2 → 128 ≤ l.getD j 0 :=
      ⟨Nat.le_refl _, by show pos + 1 ≤ _; omega, by decide, one⟩
    have h1 := hlt 0
    rw [Nat.add_zero] at h1
    split
    · rename_i hx
      simp only [Bool.and_eq_true, decide_eq_true_eq, beq_iff_eq] at hx
      have s1 := step 1 (by simpa using hx.2.1) hx.2.2
      split
      · rename_i hge
        refine ⟨by show 1 ≤ 2; omega, by show pos + 2 ≤ _; omega, by show 128 ≤ _; omega, fun j hj hj' => ?_⟩
        have hj2 : j < pos + 2 := hj'
        by_cases e : j = pos
        · rw [e]; exact hp
        · have e1 : j = pos + 1 := by omega
          rw [e1]; exact s1
      · exact err
    · split
      · rename_i hx
        simp only [Bool.and_eq_true, decide_eq_true_eq, beq_iff_eq] at hx
        have s1 := step 1 (by simpa using hx.1.2.1) hx.1.2.2
        have s2 := step 2 (by simpa using hx.2.1) hx.2.2
        split
        · rename_i hge
          simp only [Bool.and_eq_true, decide_eq_true_eq] at hge
          refine ⟨by show 1 ≤ 3; omega, by show pos + 3 ≤ _; omega, by show 128 ≤ _; omega, fun j hj hj' => ?_⟩
          have hj2 : j < pos + 3 := hj'
          by_cases e : j = pos
          · rw [e]; exact hp
          · by_cases e1 : j = pos + 1
            · rw [e1]; exact s1
            · have e2 : j = pos + 2 := by omega
              rw [e2]; exact s2
        · exact err
      · split
        · rename_i hx
          simp only [Bool.and_eq_true, decide_eq_true_eq, beq_iff_eq] at hx
          have s1 := step 1 (by simpa using hx.1.1.2.1) hx.1.1.2.2
          have s2 := step 2 (by simpa using hx.1.2.1) hx.1.2.2
          have s3 := step 3 (by simpa using hx.2.1) hx.2.2
          split
          · rename_i hge
            simp only [Bool.and_eq_true, decide_eq_true_eq] at hge
            refine ⟨by show 1 ≤ 4; omega, by show pos + 4 ≤ _; omega, by show 128 ≤ _; omega, fun j hj hj' => ?_⟩
            have hj2 : j < pos + 4 := hj'
            by_cases e : j = pos
            · rw [e]; exact hp
            · by_cases e1 : j = pos + 1
              · rw [e1]; exact s1
              · by_cases e2 : j = pos + 2
                · rw [e2]; exact s2
                · have e3 : j = pos + 3 := by omega
                  rw [e3]; exact s3
          · exact err
        · exact err

theorem ownsRow_iter {w : World} {base : Nat} {e : TypeId} {size : Nat} {v : Value} {n : Nat} {xs : List Value} (h : w.ownsRow base e size v n xs) {k : Nat} {s : ByteArray} {pos : Nat} (hk : w.heap[k]? = some (.stringIter s pos)) (p : Nat) : (w.iterAt k s p).ownsRow base e size v n xs := by
  refine ⟨h.1, ?_⟩
  rcases h.2 with hn | ⟨g, cap, cur, a, b, c, d⟩
  · exact .inl hn
  · have hkg : g ≠ k := by
      intro e1
      rw [e1, hk] at c
      cases c
    exact .inr ⟨g, cap, cur, a, b, (Lib.iterAt_other w k g s p hkg).trans c, d⟩

theorem iter_setCell {w : World} {k g : Nat} {s : ByteArray} {pos j : Nat} {u : Value} (hk : w.heap[k]? = some (.stringIter s pos)) (hne : k ≠ g) : (w.setCell ⟨g, j, none⟩ u).heap[k]? = some (.stringIter s pos) := by
  rw [Below.heap_setCell _ _ _ _ hne]; exact hk

theorem iterPos_eq {w : World} {k : Nat} {s : ByteArray} {pos : Nat} (hk : w.heap[k]? = some (.stringIter s pos)) : w.iterPos k = pos := by
  simp [World.iterPos, hk]
end Go.Proofs.YthmihglfffeedaaGreatDoor

namespace Go.Proofs.YthmihglfffeedaaGreatDoor
set_option linter.unusedVariables false

def Bytes8 (l : List Int) : Prop := ∀ k, 0 ≤ l.getD k 0 ∧ l.getD k 0 ≤ 255

def getName (l : List Int) : Nat → List (List Int) → Int → Nat → Int → List (List Int) × Int
 | 0, _, _, _, _ => ([], -1)
 | f + 1, n, p, h, e =>
  if p < 0 ∨ (l.length : Int) ≤ p then ([], -1)
  else if l.getD p.toNat 0 = 0 then (if nameOk n = true then (n, if e < 0 then p + 1 else e) else ([], -1))
  else if 192 ≤ l.getD p.toNat 0 then
   (if (get16 l p).2 < 0 ∨ p ≤ (get16 l p).1 - 49152 ∨ 8 ≤ h then ([], -1) else getName l f n ((get16 l p).1 - 49152) (h + 1) (if e < 0 then (get16 l p).2 else e))
  else if 15 < l.getD p.toNat 0 ∨ 6 ≤ n.length then ([], -1)
  else if (takeOf l (p + 1) (l.getD p.toNat 0)).2 < 0 then ([], -1)
  else getName l f (n ++ [lowered (takeOf l (p + 1) (l.getD p.toNat 0)).1 (takeOf l (p + 1) (l.getD p.toNat 0)).1.length]) (takeOf l (p + 1) (l.getD p.toNat 0)).2 h e

def nameGet (l : List Int) (p : Int) : List (List Int) × Int := if 512 < l.length then ([], -1) else getName l 20 [] p 0 (-1)

def pointerOf (l : List Int) (p : Int) : Int × Int :=
 if (get16 l p).2 < 0 ∨ (get16 l p).1 < 49152 ∨ p ≤ (get16 l p).1 - 49152 then (0, -1) else ((get16 l p).1 - 49152, (get16 l p).2)

def countedOf (l : List Int) (p : Int) : List Int × Int :=
 if (takeOf l p 1).2 < 0 then ([], -1) else takeOf l (takeOf l p 1).2 (l.getD p.toNat 0)

def labelOf (l : List Int) (p : Int) : List Int × Int :=
 if 15 < (countedOf l p).1.length then ([], -1) else (lowered (countedOf l p).1 (countedOf l p).1.length, (countedOf l p).2)

theorem bytes8_take {l : List Int} (h : Bytes8 l) (p n : Int) : Bytes8 (takeOf l p n).1 := by
 intro k
 unfold takeOf
 split
 ·simp only [List.getD_eq_getElem?_getD, List.getElem?_take, List.getElem?_drop]
  split
  ·have := h (p.toNat + k); rwa [List.getD_eq_getElem?_getD] at this
  ·simp
 ·simp

theorem get16_bound {l : List Int} (h : Bytes8 l) (p : Int) : 0 ≤ (get16 l p).1 ∧ (get16 l p).1 ≤ 65535 := by
 unfold get16
 split
 ·have h1 := h p.toNat; have h2 := h (p.toNat + 1)
  exact ⟨by show 0 ≤ l.getD p.toNat 0 * 256 + l.getD (p.toNat + 1) 0; omega, by show l.getD p.toNat 0 * 256 + l.getD (p.toNat + 1) 0 ≤ 65535; omega⟩
 ·simp

theorem countedOf_at {l : List Int} {i : Nat} (h : i < l.length) : countedOf l i = takeOf l ((i : Int) + 1) (l.getD i 0) := by
 have e1 : (takeOf l (i : Int) 1).2 = (i : Int) + 1 := by
  have := takeOf_yes (l := l) (i := i) (m := 1) (by omega)
  rw [show ((1 : Nat) : Int) = 1 from rfl] at this
  rw [this]
 unfold countedOf
 rw [e1, if_neg (by omega)]
 simp
theorem countedOf_out {l : List Int} {p : Int} (h : p < 0 ∨ (l.length : Int) ≤ p) : countedOf l p = ([], -1) := by
 have e1 : takeOf l p 1 = ([], -1) := takeOf_no (by omega)
 unfold countedOf
 rw [e1]; rfl

theorem takeOf_cases {l : List Int} (i : Nat) {x : Int} (h0 : 0 ≤ x) :
  ((i : Int) + 1 + x ≤ l.length ∧ ((takeOf l ((i : Int) + 1) x).1.length : Int) = x ∧ (takeOf l ((i : Int) + 1) x).2 = (i : Int) + 1 + x) ∨ ((l.length : Int) < (i : Int) + 1 + x ∧ takeOf l ((i : Int) + 1) x = ([], -1)) := by
 by_cases h : (i : Int) + 1 + x ≤ l.length
 ·left
  refine ⟨h, ?_, ?_⟩
  ·unfold takeOf; rw [if_pos ⟨by omega, h0, h⟩]; simp only [List.length_take, List.length_drop]; omega
  ·unfold takeOf; rw [if_pos ⟨by omega, h0, h⟩]
 ·exact .inr ⟨by omega, takeOf_no (by omega)⟩

theorem get_pointer {l : List Int} (hb : Bytes8 l) {p : Int} (hp : 0 ≤ (pointerOf l p).2) (f : Nat) (n : List (List Int)) (h : Nat) (e : Int) :
  getName l (f + 1) n p h e = if 8 ≤ h then ([], -1) else getName l f n (pointerOf l p).1 (h + 1) (if e < 0 then (pointerOf l p).2 else e) := by
 by_cases hc : (get16 l p).2 < 0 ∨ (get16 l p).1 < 49152 ∨ p ≤ (get16 l p).1 - 49152
 ·unfold pointerOf at hp; rw [if_pos hc] at hp; simp at hp
 have e1 : pointerOf l p = ((get16 l p).1 - 49152, (get16 l p).2) := by unfold pointerOf; rw [if_neg hc]
 rw [e1]
 by_cases hr : 0 ≤ p ∧ p + 2 ≤ l.length
 ·have e2 : (get16 l p).1 = l.getD p.toNat 0 * 256 + l.getD (p.toNat + 1) 0 := by unfold get16; rw [if_pos hr]
  have hx := hb p.toNat
  have hy := hb (p.toNat + 1)
  rw [getName, if_neg (by omega), if_neg (by omega), if_pos (by omega)]
  by_cases h8 : 8 ≤ h
  ·rw [if_pos (.inr (.inr h8)), if_pos h8]
  ·rw [if_neg (by omega), if_neg h8]
 ·have e2 : get16 l p = (0, -1) := by unfold get16; rw [if_neg hr]
  rw [e2] at hc; simp at hc

theorem no_pointer {l : List Int} {i : Nat} (hb : Bytes8 l) (hi : i < l.length) (hp : (pointerOf l (i : Int)).2 < 0) (hx : 192 ≤ l.getD i 0) : (get16 l (i : Int)).2 < 0 ∨ (i : Int) ≤ (get16 l (i : Int)).1 - 49152 := by
 by_cases hr : (i : Int) + 2 ≤ l.length
 ·have e2 : get16 l (i : Int) = (l.getD i 0 * 256 + l.getD (i + 1) 0, (i : Int) + 2) := by unfold get16; rw [if_pos ⟨by omega, hr⟩]; simp
  have hy := hb (i + 1)
  right
  by_cases hq : (i : Int) ≤ (get16 l (i : Int)).1 - 49152
  ·exact hq
  ·exfalso
   unfold pointerOf at hp
   rw [if_neg (by rw [e2] at hq ⊢; simp only [] at hq ⊢; omega)] at hp
   rw [e2] at hp; simp only [] at hp; omega
 ·left; unfold get16; rw [if_neg (by omega)]; simp

theorem get_none {l : List Int} (hb : Bytes8 l) {p : Int} (hp : (pointerOf l p).2 < 0) (hl : (labelOf l p).2 < 0) (f : Nat) (n : List (List Int)) (h : Nat) (e : Int) : getName l (f + 1) n p h e = ([], -1) := by
 by_cases hr : p < 0 ∨ (l.length : Int) ≤ p
 ·rw [getName, if_pos hr]
 obtain ⟨i, rfl⟩ := Int.eq_ofNat_of_zero_le (show 0 ≤ p by omega)
 have hil : i < l.length := by omega
 have hx := hb i
 have hcn := countedOf_at hil
 rw [getName, if_neg hr]
 simp only [Int.toNat_natCast]
 unfold labelOf at hl
 rw [hcn] at hl
 rcases takeOf_cases (l := l) i hx.1 with ⟨h1, h2, h3⟩ | ⟨h1, h2⟩
 ·by_cases h15 : 15 < (takeOf l ((i : Int) + 1) (l.getD i 0)).1.length
  ·rw [if_neg (by omega)]
   by_cases h192 : 192 ≤ l.getD i 0
   ·rw [if_pos h192, if_pos (by rcases no_pointer hb hil hp h192 with q | q <;> simp [q])]
   ·rw [if_neg h192, if_pos (by omega)]
  ·rw [if_neg h15] at hl; simp only [] at hl; omega
 ·rw [if_neg (by omega)]
  by_cases h192 : 192 ≤ l.getD i 0
  ·rw [if_pos h192, if_pos (by rcases no_pointer hb hil hp h192 with q | q <;> simp [q])]
  ·rw [if_neg h192]
   by_cases h15 : 15 < l.getD i 0 ∨ 6 ≤ n.length
   ·rw [if_pos h15]
   ·rw [if_neg h15, h2]; simp

theorem label_some {l : List Int} (hb : Bytes8 l) {p : Int} (hl : 0 ≤ (labelOf l p).2) : ∃ i : Nat, p = i ∧ i < l.length ∧ l.getD i 0 ≤ 15 ∧ (i : Int) + 1 + l.getD i 0 ≤ l.length ∧ ((labelOf l p).1.length : Int) = l.getD i 0 ∧ (labelOf l p).2 = (i : Int) + 1 + l.getD i 0 ∧
  (takeOf l ((i : Int) + 1) (l.getD i 0)).2 = (i : Int) + 1 + l.getD i 0 ∧ (labelOf l p).1 = lowered (takeOf l ((i : Int) + 1) (l.getD i 0)).1 (takeOf l ((i : Int) + 1) (l.getD i 0)).1.length := by
 by_cases hr : p < 0 ∨ (l.length : Int) ≤ p
 ·unfold labelOf at hl; rw [countedOf_out hr] at hl; simp at hl
 obtain ⟨i, rfl⟩ := Int.eq_ofNat_of_zero_le (show 0 ≤ p by omega)
 have hil : i < l.length := by omega
 have hx := hb i
 have hcn := countedOf_at hil
 have hl' := hl
 unfold labelOf at hl' ⊢
 rw [hcn] at hl' ⊢
 rcases takeOf_cases (l := l) i hx.1 with ⟨h1, h2, h3⟩ | ⟨h1, h2⟩
 ·by_cases h15 : 15 < (takeOf l ((i : Int) + 1) (l.getD i 0)).1.length
  ·rw [if_pos h15] at hl'; simp at hl'
  ·rw [if_neg h15]
   refine ⟨i, rfl, hil, by omega, h1, ?_, h3, h3, rfl⟩
   simp only [lowered_length]; exact h2
 ·rw [h2] at hl'; simp at hl'

theorem get_end {l : List Int} (hb : Bytes8 l) {p : Int} (hl : 0 ≤ (labelOf l p).2) (h0 : (labelOf l p).1.length = 0) (f : Nat) (n : List (List Int)) (h : Nat) (e : Int) :
  getName l (f + 1) n p h e = if nameOk n = true then (n, if e < 0 then (labelOf l p).2 else e) else ([], -1) := by
 obtain ⟨i, rfl, hil, h15, hle, hlen, h2, _⟩ := label_some hb hl
 rw [getName, if_neg (by omega)]
 simp only [Int.toNat_natCast]
 rw [if_pos (by omega), h2, show l.getD i 0 = 0 by omega]
 simp

theorem get_label {l : List Int} (hb : Bytes8 l) {p : Int} (hl : 0 ≤ (labelOf l p).2) (h0 : (labelOf l p).1.length ≠ 0) (f : Nat) (n : List (List Int)) (h : Nat) (e : Int) :
  getName l (f + 1) n p h e = if 6 ≤ n.length then ([], -1) else getName l f (n ++ [(labelOf l p).1]) (labelOf l p).2 h e := by
 obtain ⟨i, rfl, hil, h15, hle, hlen, h2, ht, h1⟩ := label_some hb hl
 rw [getName, if_neg (by omega)]
 simp only [Int.toNat_natCast]
 rw [if_neg (by omega), if_neg (by omega)]
 by_cases h6 : 6 ≤ n.length
 ·rw [if_pos (.inr h6), if_pos h6]
 ·rw [if_neg (by omega), if_neg h6, if_neg (by omega), h1, h2, ht]

theorem labelOf_bound {l : List Int} (hb : Bytes8 l) (p : Int) : (labelOf l p).1.length ≤ 15 ∧ (labelOf l p).2 ≤ l.length := by
 by_cases hl : 0 ≤ (labelOf l p).2
 ·obtain ⟨i, rfl, hil, h15, hle, hlen, h2, _⟩ := label_some hb hl
  omega
 ·refine ⟨?_, by omega⟩
  unfold labelOf
  split
  ·simp
  ·simp only [lowered_length]; omega
theorem pointerOf_bound {l : List Int} (hb : Bytes8 l) (p : Int) : (pointerOf l p).1 ≤ 65535 ∧ (pointerOf l p).2 ≤ l.length := by
 have h1 := get16_bound hb p
 have h2 : (get16 l p).2 ≤ l.length := by unfold get16; split <;> simp only [] <;> omega
 unfold pointerOf
 split <;> simp only [] <;> omega

end Go.Proofs.YthmihglfffeedaaGreatDoor

namespace Go.Proofs.YthmihglfffeedaaGreatDoor
set_option linter.unusedVariables false

def rest (e : Bool) : List Int → List Int → List (List Int)
 | [], cur => if cur.length = 0 ∧ e = true then [] else [lowered cur cur.length]
 | x :: xs, cur => if x = 46 then lowered cur cur.length :: rest e xs [] else rest e xs (cur ++ [x])

def labelsIn (l : List Int) : List (List Int) := rest (decide (0 < l.length)) l []

def nameRead (l : List Int) : List (List Int) × Bool := if l = [46] then ([], true) else if nameOk (labelsIn l) = true then (labelsIn l, true) else ([], false)

theorem drop_at {l : List Int} {i : Nat} (h : i < l.length) : l.drop i = l.getD i 0 :: l.drop (i + 1) := by
 rw [List.drop_eq_getElem_cons h, List.getD_eq_getElem?_getD, List.getElem?_eq_getElem h]; rfl
theorem rest_label {e : Bool} {l cur : List Int} {i : Nat} (h : i < l.length) (hx : l.getD i 0 ≠ 46) : rest e (l.drop i) cur = rest e (l.drop (i + 1)) (cur ++ [l.getD i 0]) := by
 rw [drop_at h, rest, if_neg hx]
theorem rest_dot {e : Bool} {l cur : List Int} {i : Nat} (h : i < l.length) (hx : l.getD i 0 = 46) : rest e (l.drop i) cur = lowered cur cur.length :: rest e (l.drop (i + 1)) [] := by
 rw [drop_at h, rest, if_pos hx]
theorem rest_end {e : Bool} {l cur : List Int} : rest e (l.drop l.length) cur = if cur.length = 0 ∧ e = true then [] else [lowered cur cur.length] := by
 rw [List.drop_length, rest]

theorem bytes8_nil : Bytes8 [] := fun k => by simp
theorem bytes8_snoc {l : List Int} (h : Bytes8 l) {x : Int} (h0 : 0 ≤ x) (h1 : x ≤ 255) : Bytes8 (l ++ [x]) := by
 intro k
 have := h k
 rw [List.getD_eq_getElem?_getD] at this ⊢
 by_cases hk : k < l.length
 ·rw [List.getElem?_append_left hk]; exact this
 ·rw [List.getElem?_append_right (by omega)]
  cases hq : k - l.length with
  | zero => simp; omega
  | succ q => simp
theorem nameRead_bound (l : List Int) : (nameRead l).1.length ≤ 6 ∧ ∀ i, i < (nameRead l).1.length → ((nameRead l).1.getD i []).length ≤ 15 := by
 unfold nameRead
 split
 ·simp
 ·split
  ·rename_i hok
   exact ⟨(nameOk_parts hok).1, fun i hi => (labelOk_length ((nameOk_parts hok).2 i hi)).2⟩
  ·simp
end Go.Proofs.YthmihglfffeedaaGreatDoor

namespace Go.Proofs.YthmihglfffeedaaGreatDoor
open Go.RowKit

theorem conv_has {v : Value} {l : List Int} {w : World} (h : Has w v l) : (convert 22 9 v).run Tryz.prog w = .ok (.string (strOfNums l)) w := by
 rcases h with ⟨rfl, rfl⟩ | ⟨g, off, cap, rfl, _, _, _, hc⟩
 ·exact run_convert_bytes_nil w 22 5 Tryz.underlying22 Tryz.underlying5 0 0 9 Tryz.underlying9
 ·exact run_convert_bytes_arg w 22 5 Tryz.underlying22 Tryz.underlying5 g off l.length cap l rfl hc 9 Tryz.underlying9
end Go.Proofs.YthmihglfffeedaaGreatDoor

namespace Go.Proofs.YthmihglfffeedaaGreatDoor
open Go.RowKit

def digs (x : Int) : List Int := (Lib.decDigits x.toNat).map fun (b : UInt8) => (b.toNat : Int)

theorem digs_lt (x : Int) (h0 : 0 ≤ x) (h : x < 10) : digs x = [48 + x] := by
 unfold digs
 rw [Lib.decDigits, dif_pos (by omega)]
 simp
 omega

theorem digs_ge (x : Int) (h : 10 ≤ x) : digs x = digs (x / 10) ++ [48 + x % 10] := by
 unfold digs
 rw [Lib.decDigits, dif_neg (by omega)]
 simp
 refine ⟨?_, by omega⟩
 congr 2
 omega

theorem digs_length (x : Int) (h0 : 0 ≤ x) (h : x ≤ 255) : 1 ≤ (digs x).length ∧ (digs x).length ≤ 3 := by
 by_cases h1 : x < 10
 ·rw [digs_lt x h0 h1]; simp
 ·rw [digs_ge x (by omega)]
  by_cases h2 : x / 10 < 10
  ·rw [digs_lt _ (by omega) h2]; simp
  ·rw [digs_ge (x / 10) (by omega), digs_lt _ (by omega) (by omega)]; simp

theorem cells_digs (x : Int) (h0 : 0 ≤ x) : Lib.byteCells (Lib.itoa x) = (digs x).map (Value.int .u8) := by
 unfold Lib.itoa digs Lib.byteCells
 rw [if_neg (by omega)]
 simp

theorem itoa_digs (x : Int) (h0 : 0 ≤ x) : (Lib.itoa x).length = (digs x).length := by
 unfold Lib.itoa digs
 rw [if_neg (by omega)]
 simp

def parts (n : Int) : List Int := [n / 16777216, n / 65536 % 256, n / 256 % 256, n % 256]
def part (n : Int) (j : Nat) : Int := (parts n).getD j 0

theorem part_bd (n : Int) (j : Nat) (h0 : 0 ≤ n) (h1 : n ≤ 4294967295) : 0 ≤ part n j ∧ part n j ≤ 255 := by
 match j with
 | 0 => simp [part, parts]; omega
 | 1 => simp [part, parts]; omega
 | 2 => simp [part, parts]; omega
 | 3 => simp [part, parts]; omega
 | k + 4 => simp [part, parts]

def idot (n : Int) : Nat → List Int
 | 0 => []
 | j + 1 => idot n j ++ (if 0 < j then [46] else []) ++ digs (part n j)

theorem idot_length (n : Int) (h0 : 0 ≤ n) (h1 : n ≤ 4294967295) (j : Nat) : (idot n j).length ≤ 4 * j := by
 induction j with
 | zero => simp [idot]
 | succ j ih =>
  have hb := part_bd n j h0 h1
  have := (digs_length _ hb.1 hb.2).2
  simp only [idot, List.length_append]
  split <;> simp <;> omega

def dotted (n : Int) : List Int := if 0 ≤ n ∧ n ≤ 4294967295 then idot n 4 else []

theorem dotted_length (n : Int) : (dotted n).length ≤ 16 := by
 unfold dotted
 split
 ·rename_i h; have := idot_length n h.1 h.2 4; omega
 ·simp

end Go.Proofs.YthmihglfffeedaaGreatDoor

namespace Go.Proofs.YthmihglfffeedaaGreatDoor
open Go.RowKit

/-! ### The library's cut at dots is this one -/

theorem str_eq (a b : List Int) (ha : ∀ c ∈ a, 0 ≤ c ∧ c ≤ 255) (hb : ∀ c ∈ b, 0 ≤ c ∧ c ≤ 255) : ((strOfNums a).toList == (strOfNums b).toList) = decide (a = b) := by
 rw [ByteArray.toList_eq, ByteArray.toList_eq, strOfNums_data, strOfNums_data]
 by_cases e : a = b
 ·subst e; simp
 ·rw [decide_eq_false e]
  apply beq_eq_false_iff_ne.2
  intro h
  apply e
  clear e
  induction a generalizing b with
  | nil => cases b with
   | nil => rfl
   | cons d b => simp at h
  | cons c a ih => cases b with
   | nil => simp at h
   | cons d b =>
    simp only [List.map_cons, List.cons.injEq] at h
    have h1 := ha c (by simp)
    have h2 := hb d (by simp)
    have h3 := congrArg UInt8.toNat h.1
    rw [UInt8.toNat_ofNat', UInt8.toNat_ofNat'] at h3
    have h4 : c = d := by omega
    rw [h4, ih b (fun x hx => ha x (by simp [hx])) (fun x hx => hb x (by simp [hx])) h.2]
end Go.Proofs.YthmihglfffeedaaGreatDoor
