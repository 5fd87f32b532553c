/-
  Contract of the specification's DrawReverse. Plain facts: a text of bytes gone through rune by rune, and great letters turned into small ones. No program is named here.
-/
import Derived.Test.YtkmjghecjlgjpaaDoorFnReverseG13
import Derived.Test.YtkmjghecjlgjpaaDoorFnReverseG00
import Derived.Lib.OthersKept
namespace Go.Proofs.YtkmjghecjlgjpaaDoor
open Go.RowKit
set_option linter.unusedVariables false

set_option maxHeartbeats 400000 in
set_option maxRecDepth 100000 in
theorem drawReverse_any {a : Option Addr} {len cap : Nat} {w : World} (l : List Int) (hL : Lies w a l) (hn : l.length = len) (hb : ∀ k, 0 ≤ l.getD k 0 ∧ l.getD k 0 ≤ 255) (hm : len ≤ maxLen) :
    Calls Tryd.prog 8 #[.slice a len cap] w fun e w' => ∃ z, e = .returned (.int .i64 z) ∧ Below w.heap.size w w' := by
  go_enter Tryd.func8, Tryd.ntmps8
  go_wp2_with fail
  refine (l1New_any (cap := cap) l hL hn hb hm).mono ?_
  rintro e w1 ⟨rfl, c1, L1, b1⟩
  go_wp2_with fail
  refine (l1num_any c1 L1 hm).mono ?_
  rintro e w2 ⟨z, rfl, _, g2⟩
  have z1 := c1.lt
  have bb := below_cursor b1 g2 (fun j e => by simp at e; omega)
  go_wp2_with fail
  go_ret
  exact ⟨z, rfl, bb⟩
end Go.Proofs.YtkmjghecjlgjpaaDoor

namespace Go.Proofs.YtkmjghecjlgjpaaDoor
open Go.RowKit

/-- One byte, a great letter as a small one. -/
def low (x : Int) : Int := if 65 ≤ x ∧ x ≤ 90 then x + 32 else x
/-- The first k bytes lowered. -/
def lowered (l : List Int) (k : Nat) : List Int := (List.range l.length).map fun (j : Nat) => if j < k then low (l.getD j 0) else l.getD j 0

theorem lowered_length (l : List Int) (k : Nat) : (lowered l k).length = l.length := by simp [lowered]
theorem lowered_zero (l : List Int) : lowered l 0 = l := by
  apply List.ext_getElem?
  intro j
  by_cases hj : j < l.length <;> simp [lowered, hj]
theorem lowered_getD (l : List Int) (k i : Nat) (h : k ≤ i) : (lowered l k).getD i 0 = l.getD i 0 := by
  by_cases hi : i < l.length
  · simp [lowered, hi, Nat.not_lt.2 h]
  · simp [lowered, hi]
theorem lowered_succ (l : List Int) (k : Nat) : (lowered l k).set k (low (l.getD k 0)) = lowered l (k + 1) := by
  apply List.ext_getElem?
  intro j
  rw [List.getElem?_set]
  by_cases hj : j < l.length
  · by_cases e : k = j
    · subst e; simp [lowered, hj]
    · have : j < k + 1 ↔ j < k := by omega
      simp [lowered, hj, e, this]
  · simp [lowered, hj]
    omega
theorem low_high (x : Int) (h : x < 65 ∨ 90 < x) : low x = x := by unfold low; rw [if_neg (by omega)]
theorem low_great (x : Int) (h : 65 ≤ x) (h' : x ≤ 90) : low x = x + 32 := by unfold low; rw [if_pos ⟨h, h'⟩]
theorem lowered_same (l : List Int) (k k' : Nat) (hk : k ≤ k') (h : ∀ j, k ≤ j → j < k' → l.getD j 0 < 65 ∨ 90 < l.getD j 0) : lowered l k' = lowered l k := by
  unfold lowered
  apply List.map_congr_left
  intro j hj
  by_cases h1 : j < k
  · rw [if_pos h1, if_pos (by omega)]
  · rw [if_neg h1]
    by_cases h2 : j < k'
    · rw [if_pos h2, low_high _ (h j (by omega) h2)]
    · rw [if_neg h2]

theorem str_get (l : List Int) (k : Nat) (h : k < l.length) : (strOfNums l).get! k = UInt8.ofNat (l.getD k 0).toNat := by
  have hs : k < (strOfNums l).size := by rw [strOfNums_size]; exact h
  simp [ByteArray.get!, strOfNums, h]

theorem str_toNat (l : List Int) (hb : ∀ k, 0 ≤ l.getD k 0 ∧ l.getD k 0 ≤ 255) (k : Nat) (h : k < l.length) : (((strOfNums l).get! k).toNat : Int) = l.getD k 0 := by
  rw [str_get l k h]
  have := hb k
  rw [UInt8.toNat_ofNat']
  omega

/-- One rune of a text: a byte below 128 is one of its own; else it is at least 128, and so is each byte of it. -/
theorem decode_l (l : List Int) (hb : ∀ k, 0 ≤ l.getD k 0 ∧ l.getD k 0 ≤ 255) (pos : Nat) (h : pos < l.length) :
    1 ≤ (Utf8.decode (strOfNums l) pos).2 ∧ pos + (Utf8.decode (strOfNums l) pos).2 ≤ l.length ∧
      ((l.getD pos 0 < 128 ∧ ((Utf8.decode (strOfNums l) pos).1 : Int) = l.getD pos 0 ∧ (Utf8.decode (strOfNums l) pos).2 = 1) ∨
       (128 ≤ (Utf8.decode (strOfNums l) pos).1 ∧ ∀ j, pos ≤ j → j < pos + (Utf8.decode (strOfNums l) pos).2 → 128 ≤ l.getD j 0)) := by
  have h0 := str_toNat l hb pos h
  have hs := strOfNums_size l
  have hc : ∀ k, pos + k < l.length → (((strOfNums l).get! (pos + k)).toNat : Int) = l.getD (pos + k) 0 := fun k hk => str_toNat l hb (pos + k) hk
  have hlt : ∀ k, ((strOfNums l).get! (pos + k)).toNat < 256 := fun k => UInt8.toNat_lt _
  simp only [Utf8.decode, hs, Nat.add_zero]
  by_cases ha : ((strOfNums l).get! pos).toNat < 128
  · rw [if_pos ha]
    exact ⟨Nat.le_refl _, by show pos + 1 ≤ _; omega, .inl ⟨by omega, by simpa using h0, rfl⟩⟩
  · rw [if_neg ha]
    have hp : 128 ≤ l.getD pos 0 := by omega
    have one : ∀ j, pos ≤ j → j < pos + 1 → 128 ≤ l.getD j 0 := fun j h1 h2 => by
      have e : j = pos := by omega
      rw [e]; exact hp
    have step : ∀ k, decide (pos + k < l.length) = true → ((strOfNums l).get! (pos + k)).toNat / 64 = 2 → 128 ≤ l.getD (pos + k) 0 := fun k hk h2 => by
      have := hc k (by simpa using hk)
      omega
    have fin : ∀ r : Nat × Nat, (1 ≤ r.2 ∧ pos + r.2 ≤ l.length ∧ 128 ≤ r.1 ∧ ∀ j, pos ≤ j → j < pos + r.2 → 128 ≤ l.getD j 0) →
        1 ≤ r.2 ∧ pos + r.2 ≤ l.length ∧ ((l.getD pos 0 < 128 ∧ (r.1 : Int) = l.getD pos 0 ∧ r.2 = 1) ∨ (128 ≤ r.1 ∧ ∀ j, pos ≤ j → j < pos + r.2 → 128 ≤ l.getD j 0)) := fun r hr => ⟨hr.1, hr.2.1, .inr hr.2.2⟩
    apply fin
    have err : 1 ≤ (Utf8.runeError, 1).2 ∧ pos + (Utf8.runeError, 1).2 ≤ l.length ∧ 128 ≤ (Utf8.runeError, 1).1 ∧ ∀ j, pos ≤ j → j < pos + (Utf8.runeError, 1).2 → 128 ≤ l.getD j 0 :=
      ⟨Nat.le_refl _, by show pos + 1 ≤ _; omega, by decide, one⟩
    have h1 := hlt 0
    rw [Nat.add_zero] at h1
    split
    · rename_i hx
      simp only [Bool.and_eq_true, decide_eq_true_eq, beq_iff_eq] at hx
      have s1 := step 1 (by simpa using hx.2.1) hx.2.2
      split
      · rename_i hge
        refine ⟨by show 1 ≤ 2; omega, by show pos + 2 ≤ _; omega, by show 128 ≤ _; omega, fun j hj hj' => ?_⟩
        have hj2 : j < pos + 2 := hj'
        by_cases e : j = pos
        · rw [e]; exact hp
        · have e1 : j = pos + 1 := by omega
          rw [e1]; exact s1
      · exact err
    · split
      · rename_i hx
        simp only [Bool.and_eq_true, decide_eq_true_eq, beq_iff_eq] at hx
        have s1 := step 1 (by simpa using hx.1.2.1) hx.1.2.2
        have s2 := step 2 (by simpa using hx.2.1) hx.2.2
        split
        · rename_i hge
          simp only [Bool.and_eq_true, decide_eq_true_eq] at hge
          refine ⟨by show 1 ≤ 3; omega, by show pos + 3 ≤ _; omega, by show 128 ≤ _; omega, fun j hj hj' => ?_⟩
          have hj2 : j < pos + 3 := hj'
          by_cases e : j = pos
          · rw [e]; exact hp
          · by_cases e1 : j = pos + 1
            · rw [e1]; exact s1
            · have e2 : j = pos + 2 := by omega
              rw [e2]; exact s2
        · exact err
      · split
        · rename_i hx
          simp only [Bool.and_eq_true, decide_eq_true_eq, beq_iff_eq] at hx
          have s1 := step 1 (by simpa using hx.1.1.2.1) hx.1.1.2.2
          have s2 := step 2 (by simpa using hx.1.2.1) hx.1.2.2
          have s3 := step 3 (by simpa using hx.2.1) hx.2.2
          split
          · rename_i hge
            simp only [Bool.and_eq_true, decide_eq_true_eq] at hge
            refine ⟨by show 1 ≤ 4; omega, by show pos + 4 ≤ _; omega, by show 128 ≤ _; omega, fun j hj hj' => ?_⟩
            have hj2 : j < pos + 4 := hj'
            by_cases e : j = pos
            · rw [e]; exact hp
            · by_cases e1 : j = pos + 1
              · rw [e1]; exact s1
              · by_cases e2 : j = pos + 2
                · rw [e2]; exact s2
                · have e3 : j = pos + 3 := by omega
                  rw [e3]; exact s3
          · exact err
        · exact err

/-- Moving an iterator on turns no own row. -/
theorem ownsRow_iter {w : World} {base : Nat} {e : TypeId} {size : Nat} {v : Value} {n : Nat} {xs : List Value} (h : w.ownsRow base e size v n xs) {k : Nat} {s : ByteArray} {pos : Nat} (hk : w.heap[k]? = some (.stringIter s pos)) (p : Nat) : (w.iterAt k s p).ownsRow base e size v n xs := by
  refine ⟨h.1, ?_⟩
  rcases h.2 with hn | ⟨g, cap, cur, a, b, c, d⟩
  · exact .inl hn
  · have hkg : g ≠ k := by
      intro e1
      rw [e1, hk] at c
      cases c
    exact .inr ⟨g, cap, cur, a, b, (Lib.iterAt_other w k g s p hkg).trans c, d⟩

theorem iter_setCell {w : World} {k g : Nat} {s : ByteArray} {pos j : Nat} {u : Value} (hk : w.heap[k]? = some (.stringIter s pos)) (hne : k ≠ g) : (w.setCell ⟨g, j, none⟩ u).heap[k]? = some (.stringIter s pos) := by
  rw [Below.heap_setCell _ _ _ _ hne]; exact hk

theorem iterPos_eq {w : World} {k : Nat} {s : ByteArray} {pos : Nat} (hk : w.heap[k]? = some (.stringIter s pos)) : w.iterPos k = pos := by
  simp [World.iterPos, hk]
end Go.Proofs.YtkmjghecjlgjpaaDoor
