/-
  Plain facts: SHA-256 of a text, in lists. No program is named here. Contract of the program's put: the bytes of a sum.
-/
import Derived.Test.YtkhiklemhkeakaaDoorFnSumsG02
import Derived.Test.YtkhiklemhkeakaaDoorFnSumsG08
import Derived.Test.YtkhiklemhkeakaaDoorFnSumsG13
import Derived.Test.YtkhiklemhkeakaaDoorFnSumsG14
namespace Go.Proofs.YtkhiklemhkeakaaDoor
open Go.RowKit
set_option linter.unusedVariables false

/-- How many zeros are put behind. -/
def zerosN (n : Nat) : Nat := (119 - n % 64) % 64
theorem zerosN_is (n : Nat) : (n + 1 + zerosN n) % 64 = 56 := by unfold zerosN; omega
theorem zerosN_less {n j : Nat} (hj : j < zerosN n) : (n + 1 + j) % 64 ≠ 56 := by unfold zerosN at hj; omega
theorem zerosN_lt (n : Nat) : zerosN n < 64 := by unfold zerosN; omega
def padK (l : List Int) (j : Nat) : List Int := l ++ [128] ++ List.replicate j 0
theorem padK_length (l : List Int) (j : Nat) : (padK l j).length = l.length + 1 + j := by simp [padK]; omega
theorem padK_next (l : List Int) (j : Nat) : padK l j ++ [0] = padK l (j + 1) := by
  simp only [padK, List.append_assoc]
  rw [← List.replicate_succ']
/-- The first j of eight bytes of n, the highest first. -/
def be8 (n : Nat) : Nat → List Int
  | 0 => []
  | j + 1 => be8 n j ++ [((n / 2 ^ (8 * (7 - j)) % 256 : Nat) : Int)]
theorem be8_length (n j : Nat) : (be8 n j).length = j := by
  induction j with
  | zero => rfl
  | succ j ih => simp [be8, ih]
def paddedOf (l : List Int) : List Int := padK l (zerosN l.length) ++ be8 (l.length * 8) 8
theorem paddedOf_length (l : List Int) : (paddedOf l).length = l.length + 1 + zerosN l.length + 8 := by simp [paddedOf, padK_length, be8_length]
def blocksN (l : List Int) : Nat := (paddedOf l).length / 64
theorem blocksN_is (l : List Int) : (paddedOf l).length = 64 * blocksN l := by
  have := zerosN_is l.length
  unfold blocksN
  rw [paddedOf_length]
  omega
theorem be8_bytes (n j : Nat) : ∀ x ∈ be8 n j, 0 ≤ x ∧ x ≤ 255 := by
  induction j with
  | zero => intro x hx; cases hx
  | succ j ih =>
    intro x hx
    rcases List.mem_append.1 hx with h | h
    · exact ih x h
    · simp only [List.mem_singleton] at h
      subst h
      omega
theorem paddedOf_bytes {l : List Int} (h : ∀ x ∈ l, 0 ≤ x ∧ x ≤ 255) : ∀ x ∈ paddedOf l, 0 ≤ x ∧ x ≤ 255 := by
  intro x hx
  rcases List.mem_append.1 hx with hx | hx
  · rcases List.mem_append.1 hx with hx | hx
    · rcases List.mem_append.1 hx with hx | hx
      · exact h x hx
      · simp only [List.mem_singleton] at hx; omega
    · have := List.eq_of_mem_replicate hx; omega
  · exact be8_bytes _ _ x hx
theorem bytes8_mem {l : List Int} (h : ∀ x ∈ l, 0 ≤ x ∧ x ≤ 255) : Bytes8 l := by
  intro k
  rw [List.getD_eq_getElem?_getD]
  cases hk : l[k]? with
  | none => simp
  | some x => exact h x (List.mem_of_getElem? hk)
theorem of_bytes8 {l : List Int} (h : Bytes8 l) : ∀ x ∈ l, 0 ≤ x ∧ x ≤ 255 := by
  intro x hx
  obtain ⟨k, hk, rfl⟩ := List.mem_iff_getElem.1 hx
  have := h k
  rwa [List.getD_eq_getElem?_getD, List.getElem?_eq_getElem hk] at this
/-- The j-th block. -/
def blockOf (p : List Int) (j : Nat) : List Int := (p.drop (64 * j)).take 64
theorem blockOf_length {p : List Int} {n j : Nat} (hp : p.length = 64 * n) (hj : j < n) : (blockOf p j).length = 64 := by
  simp only [blockOf, List.length_take, List.length_drop, hp]
  omega
theorem blockOf_getD {p : List Int} {n j i : Nat} (hp : p.length = 64 * n) (hj : j < n) (hi : i < 64) : (blockOf p j).getD i 0 = p.getD (64 * j + i) 0 := by
  simp only [blockOf, List.getD_eq_getElem?_getD, List.getElem?_take, List.getElem?_drop, hi, if_true]
theorem blockOf_bytes {p : List Int} (h : ∀ x ∈ p, 0 ≤ x ∧ x ≤ 255) (j : Nat) : Bytes8 (blockOf p j) := bytes8_mem (fun x hx => h x (List.mem_of_mem_drop (List.mem_of_mem_take hx)))
def sumK (p : List Int) : Nat → S8
  | 0 => iv8
  | j + 1 => blockS (sumK p j) (blockOf p j)
/-- A word's four bytes. -/
def bytesW (x : BitVec 32) : List Int := [wv x / 16777216, wv x / 65536 % 256, wv x / 256 % 256, wv x % 256]
def outK (s : S8) : Nat → List Int
  | 0 => []
  | j + 1 => outK s j ++ bytesW ((l8 s).getD j 0)
theorem outK_length (s : S8) (j : Nat) : (outK s j).length = 4 * j := by
  induction j with
  | zero => rfl
  | succ j ih => simp [outK, ih, bytesW]; omega
def shaOf (l : List Int) : List Int := outK (sumK (paddedOf l) (blocksN l)) 8
def lenV : Value → Nat
  | .slice _ n _ => n
  | _ => 0
end Go.Proofs.YtkhiklemhkeakaaDoor

namespace Go.Proofs.YtkhiklemhkeakaaDoor
open Go.RowKit
set_option linter.unusedVariables false
set_option linter.unusedSimpArgs false

set_option maxHeartbeats 600000 in
set_option maxRecDepth 100000 in
theorem put_is {b : Nat} {t : TypeId} {s : S8} {w : World} (hk : w.heap[b]? = some (.cells (cellsU (l8 s)) t)) :
    Calls Tryd.prog 14 #[.pointer (some ⟨b, 0, none⟩)] w fun e w' => ∃ v, e = .returned v ∧ Own w.heap.size 5 w' v (outK s 8) ∧ Below w.heap.size w w' := by
  have HK := hide hk
  clear hk
  go_enter Tryd.func14, Tryd.ntmps14
  go_wp2_with (refine list_loadU rfl 35 (.tmp 7) rfl b rfl (l8 s) (unhide HK) Tryd.underlying35 rfl sizeSum ?_; simp only [Act.put, List.setIfInBounds_toArray, List.set_cons_zero, List.set_cons_succ])
  go_loopw [3, 9] (fun o i wr => ∃ (j : Nat), j ≤ 8 ∧ i = .int .i64 j ∧ Hid (Own w.heap.size 5 wr o (outK s j)) ∧ Hid (Below w.heap.size w wr)) (fun _ i _ => 8 - (intOf i).toNat)
  case atStart => exact ⟨0, by omega, rfl, hide (World.ownsRow_nil _ _ _ _), hide (Below.refl _ _)⟩
  case round =>
    obtain ⟨i, hi, rfl, ho, hb⟩ := hrel
    by_cases hlt : i < 8
    · have HX := hide (show outK s (i + 1) = outK s i ++ bytesW ((l8 s).getD i 0) from rfl)
      have hix := cellsU_get (l8 s) (i := i) hlt
      have hin := run_indexU wr (t := 35) (cs := cellsU (l8 s)) Tryd.underlying35 Tryd.underlying33 size78 hlt hix
      have hL := hide (show (outK s i).length ≤ 1048576 by rw [outK_length]; omega)
      generalize (l8 s).getD i 0 = x at *
      have xl := wv_lt x
      have x0 : 0 ≤ wv x := by unfold wv; omega
      have hw : IntKind.i64.wrap (wv x) = wv x := by simp only [IntKind.wrap, IntKind.bits, IntKind.signed]; simp; omega
      have XL := hide xl
      have X0 := hide x0
      have li : (i : Int) < 8 := by omega
      have HLT := hide hlt
      clear hix xl x0 hlt hi
      go_wp2_with fail
      refine (implPut32_yes (wv x) (unhide ho) (unhide hL) (unhide X0) (by have := unhide XL; omega)).mono ?_
      rintro e w1 ⟨v1, rfl, o1, b1⟩
      have O1 := hide o1
      rw [show outK s i ++ [wv x / 16777216, wv x / 65536 % 256, wv x / 256 % 256, wv x % 256] = outK s (i + 1) from (unhide HX).symm] at O1
      replace O1 := hide ((unhide O1).mono (unhide hb).size)
      have B1 := hide (below_next (unhide hb) b1)
      clear o1 b1 hin hw li
      have hlt := unhide HLT
      go_wp2_with fail
      exact ⟨⟨i + 1, by omega, by go_num, O1, B1⟩, by simp [intOf]; omega⟩
    · have e : ¬ ((i : Int) < 8) := by omega
      have HO : Hid (Own w.heap.size 5 wr u3 (outK s 8)) := by rw [show (8 : Nat) = i by omega]; exact ho
      clear ho hlt hi
      go_wp2_with fail
      go_ret
      exact ⟨_, rfl, unhide HO, unhide hb⟩
end Go.Proofs.YtkhiklemhkeakaaDoor
