/-
  Plain facts: SHA-256 of a text, in lists. No program is named here. Plain facts: what identifies a client with a name, in lists. No program is named here.
-/
import Derived.Test.YtkmjghecjlgjpaaDoorDhcidG06
import Derived.Test.YtkmjghecjlgjpaaDoorDhcidG07
import Derived.Test.YtkmjghecjlgjpaaDoorDhcidG05
namespace Go.Proofs.YtkmjghecjlgjpaaDoor
open Go.RowKit
set_option linter.unusedVariables false

/-- How many zeros are put behind. -/
def zerosN (n : Nat) : Nat := (119 - n % 64) % 64
theorem zerosN_is (n : Nat) : (n + 1 + zerosN n) % 64 = 56 := by unfold zerosN; omega
theorem zerosN_less {n j : Nat} (hj : j < zerosN n) : (n + 1 + j) % 64 ≠ 56 := by unfold zerosN at hj; omega
theorem zerosN_lt (n : Nat) : zerosN n < 64 := by unfold zerosN; omega
def padK (l : List Int) (j : Nat) : List Int := l ++ [128] ++ List.replicate j 0
theorem padK_length (l : List Int) (j : Nat) : (padK l j).length = l.length + 1 + j := by simp [padK]; omega
theorem padK_next (l : List Int) (j : Nat) : padK l j ++ [0] = padK l (j + 1) := by
 simp only [padK, List.append_assoc]
 rw [← List.replicate_succ']
/-- The first j of eight bytes of n, the highest first. -/
def be8 (n : Nat) : Nat → List Int
 | 0 => []
 | j + 1 => be8 n j ++ [((n / 2 ^ (8 * (7 - j)) % 256 : Nat) : Int)]
theorem be8_length (n j : Nat) : (be8 n j).length = j := by
 induction j with
 | zero => rfl
 | succ j ih => simp [be8, ih]
def paddedOf (l : List Int) : List Int := padK l (zerosN l.length) ++ be8 (l.length * 8) 8
theorem paddedOf_length (l : List Int) : (paddedOf l).length = l.length + 1 + zerosN l.length + 8 := by simp [paddedOf, padK_length, be8_length]
def blocksN (l : List Int) : Nat := (paddedOf l).length / 64
theorem blocksN_is (l : List Int) : (paddedOf l).length = 64 * blocksN l := by
 have := zerosN_is l.length
 unfold blocksN
 rw [paddedOf_length]
 omega
theorem be8_bytes (n j : Nat) : ∀ x ∈ be8 n j, 0 ≤ x ∧ x ≤ 255 := by
 induction j with
 | zero => intro x hx; cases hx
 | succ j ih =>
  intro x hx
  rcases List.mem_append.1 hx with h | h
  ·exact ih x h
  ·simp only [List.mem_singleton] at h
   subst h
   omega
theorem paddedOf_bytes {l : List Int} (h : ∀ x ∈ l, 0 ≤ x ∧ x ≤ 255) : ∀ x ∈ paddedOf l, 0 ≤ x ∧ x ≤ 255 := by
 intro x hx
 rcases List.mem_append.1 hx with hx | hx
 ·rcases List.mem_append.1 hx with hx | hx
  ·rcases List.mem_append.1 hx with hx | hx
   ·exact h x hx
   ·simp only [List.mem_singleton] at hx; omega
  ·have := List.eq_of_mem_replicate hx; omega
 ·exact be8_bytes _ _ x hx
theorem bytes8_of {l : List Int} (h : ∀ x ∈ l, 0 ≤ x ∧ x ≤ 255) : Bytes8 l := by
 intro k
 rw [List.getD_eq_getElem?_getD]
 cases hk : l[k]? with
 | none => simp
 | some x => exact h x (List.mem_of_getElem? hk)
theorem of_bytes8 {l : List Int} (h : Bytes8 l) : ∀ x ∈ l, 0 ≤ x ∧ x ≤ 255 := by
 intro x hx
 obtain ⟨k, hk, rfl⟩ := List.mem_iff_getElem.1 hx
 have := h k
 rwa [List.getD_eq_getElem?_getD, List.getElem?_eq_getElem hk] at this
/-- The j-th block. -/
def blockOf (p : List Int) (j : Nat) : List Int := (p.drop (64 * j)).take 64
theorem blockOf_length {p : List Int} {n j : Nat} (hp : p.length = 64 * n) (hj : j < n) : (blockOf p j).length = 64 := by
 simp only [blockOf, List.length_take, List.length_drop, hp]
 omega
theorem blockOf_getD {p : List Int} {n j i : Nat} (hp : p.length = 64 * n) (hj : j < n) (hi : i < 64) : (blockOf p j).getD i 0 = p.getD (64 * j + i) 0 := by
 simp only [blockOf, List.getD_eq_getElem?_getD, List.getElem?_take, List.getElem?_drop, hi, if_true]
theorem blockOf_bytes {p : List Int} (h : ∀ x ∈ p, 0 ≤ x ∧ x ≤ 255) (j : Nat) : Bytes8 (blockOf p j) := bytes8_of (fun x hx => h x (List.mem_of_mem_drop (List.mem_of_mem_take hx)))
def sumK (p : List Int) : Nat → S8
 | 0 => iv8
 | j + 1 => blockS (sumK p j) (blockOf p j)
/-- A word's four bytes. -/
def bytesW (x : BitVec 32) : List Int := [wv x / 16777216, wv x / 65536 % 256, wv x / 256 % 256, wv x % 256]
def outK (s : S8) : Nat → List Int
 | 0 => []
 | j + 1 => outK s j ++ bytesW ((l8 s).getD j 0)
theorem outK_length (s : S8) (j : Nat) : (outK s j).length = 4 * j := by
 induction j with
 | zero => rfl
 | succ j ih => simp [outK, ih, bytesW]; omega
def shaOf (l : List Int) : List Int := outK (sumK (paddedOf l) (blocksN l)) 8
def lenV : Value → Nat
 | .slice _ n _ => n
 | _ => 0
end Go.Proofs.YtkmjghecjlgjpaaDoor

namespace Go.Proofs.YtkmjghecjlgjpaaDoor
open Go.RowKit
set_option linter.unusedVariables false

def clientOk (l : List Int) : Bool := decide (1 ≤ l.length) && decide (l.length ≤ 16)
def dhcidOf (l : List Int) (n : List (List Int)) : List Int := if (clientOk l && nameOk n) = true then [0, 1, 1] ++ shaOf (l ++ wire n) else []
theorem shaOf_length (l : List Int) : (shaOf l).length = 32 := by unfold shaOf; rw [outK_length]
theorem dhcidOf_length (l : List Int) (n : List (List Int)) : (dhcidOf l n).length ≤ 35 := by
 unfold dhcidOf
 split
 ·rw [List.length_append, shaOf_length]; simp
 ·simp
theorem wire_bytes {n : List (List Int)} (h : nameOk n = true) : ∀ x ∈ wire n, 0 ≤ x ∧ x ≤ 255 := by
 have hp := nameOk_parts h
 intro x hx
 unfold wire wires at hx
 rw [List.take_length] at hx
 rcases List.mem_append.1 hx with hx | hx
 ·obtain ⟨l, hl, hx⟩ := List.mem_flatten.1 hx
  obtain ⟨m, hm, rfl⟩ := List.mem_map.1 hl
  obtain ⟨k, hk, rfl⟩ := List.mem_iff_getElem.1 hm
  have hok := hp.2 k hk
  rw [show n.getD k [] = n[k] by simp [hk]] at hok
  rcases List.mem_cons.1 hx with rfl | hx
  ·have := labelOk_length hok
   omega
  ·have hs := (of_decide_eq_true hok).2.2
   obtain ⟨j, hj, rfl⟩ := List.mem_iff_getElem.1 hx
   have := hs j hj
   rw [show n[k].getD j 0 = n[k][j] by simp [hj]] at this
   have := of_decide_eq_true this
   omega
 ·simp only [List.mem_singleton] at hx
  omega
theorem dhcid_bytes {l : List Int} {n : List (List Int)} (h8 : Bytes8 l) (h : nameOk n = true) : Bytes8 (l ++ wire n) := bytes8_of (fun x hx => by
 rcases List.mem_append.1 hx with hx | hx
 ·exact of_bytes8 h8 x hx
 ·exact wire_bytes h x hx)
end Go.Proofs.YtkmjghecjlgjpaaDoor
