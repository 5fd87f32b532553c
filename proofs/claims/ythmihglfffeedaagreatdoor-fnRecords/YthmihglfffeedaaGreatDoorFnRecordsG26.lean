/-
  Plain facts: the labels of a text, cut at its dots.
-/
import Derived.Test.YthmihglfffeedaaGreatDoorFnRecordsG05
import Derived.Lib.IndexLaws
import Derived.Lib.Bytes
namespace Go.Proofs.YthmihglfffeedaaGreatDoor
open Go.RowKit
set_option linter.unusedVariables false

def headOf : List Int → List Int
 | [] => []
 | x :: xs => if x = 46 then [] else x :: headOf xs
def tailOf : List Int → List Int
 | [] => []
 | x :: xs => if x = 46 then xs else tailOf xs
def hasDot : List Int → Bool
 | [] => false
 | x :: xs => if x = 46 then true else hasDot xs
def pieces : List Int → List (List Int)
 | [] => [[]]
 | x :: xs => if x = 46 then [] :: pieces xs else (x :: (pieces xs).headD []) :: (pieces xs).tail

theorem pieces_cons : ∀ l, ∃ p ps, pieces l = p :: ps
 | [] => ⟨_, _, rfl⟩
 | x :: xs => by
  rw [pieces]
  split
  ·exact ⟨_, _, rfl⟩
  ·exact ⟨_, _, rfl⟩
theorem pieces_eq : ∀ l, pieces l = headOf l :: if hasDot l = true then pieces (tailOf l) else []
 | [] => rfl
 | x :: xs => by
  by_cases h : x = 46
  ·rw [pieces, if_pos h, headOf, if_pos h, hasDot, if_pos h, tailOf, if_pos h]; rfl
  ·rw [pieces, if_neg h, headOf, if_neg h, hasDot, if_neg h, tailOf, if_neg h, pieces_eq xs]; rfl
theorem tail_le : ∀ l, hasDot l = true → (tailOf l).length < l.length
 | [], h => by cases h
 | x :: xs, h => by
  by_cases hx : x = 46
  ·rw [tailOf, if_pos hx]; simp
  ·rw [hasDot, if_neg hx] at h
   rw [tailOf, if_neg hx]
   have := tail_le xs h
   simp; omega
theorem dot_none : ∀ l, hasDot l = false → headOf l = l ∧ tailOf l = []
 | [], _ => ⟨rfl, rfl⟩
 | x :: xs, h => by
  by_cases hx : x = 46
  ·rw [hasDot, if_pos hx] at h; cases h
  ·rw [hasDot, if_neg hx] at h
   have := dot_none xs h
   rw [headOf, if_neg hx, tailOf, if_neg hx, this.1]
   exact ⟨rfl, this.2⟩
theorem dot_some : ∀ l, hasDot l = true → ∃ i : Nat, i < l.length ∧ headOf l = l.take i ∧ tailOf l = l.drop (i + 1)
 | [], h => by cases h
 | x :: xs, h => by
  by_cases hx : x = 46
  ·exact ⟨0, by simp, by rw [headOf, if_pos hx]; rfl, by rw [tailOf, if_pos hx]; rfl⟩
  ·rw [hasDot, if_neg hx] at h
   obtain ⟨i, h1, h2, h3⟩ := dot_some xs h
   exact ⟨i + 1, by simp; omega, by rw [headOf, if_neg hx, h2]; rfl, by rw [tailOf, if_neg hx, h3]; rfl⟩

theorem byte_dot {x : Int} (h0 : 0 ≤ x) (h1 : x ≤ 255) : (UInt8.ofNat x.toNat == (46 : Int).toNat.toUInt8) = decide (x = 46) := by
 obtain ⟨n, rfl⟩ := Int.eq_ofNat_of_zero_le h0
 have hn : n < 256 := by omega
 have hc : (46 : Int).toNat.toUInt8 = UInt8.ofNat 46 := rfl
 rw [hc, Int.toNat_natCast]
 by_cases h : n = 46
 ·subst h; rfl
 ·rw [decide_eq_false (by omega), beq_eq_false_iff_ne]
  intro e
  have := congrArg UInt8.toNat e
  rw [UInt8.toNat_ofNat_of_lt' (by simpa using hn), UInt8.toNat_ofNat_of_lt' (by decide)] at this
  exact h this
theorem index46 : ∀ l, (∀ x ∈ l, 0 ≤ x ∧ x ≤ 255) → (hasDot l = false → Lib.indexByte (Lib.bytesOf l) (46 : Int).toNat.toUInt8 = -1) ∧ (∀ i : Nat, hasDot l = true → headOf l = l.take i → i < l.length → Lib.indexByte (Lib.bytesOf l) (46 : Int).toNat.toUInt8 = i)
 | [], _ => ⟨fun _ => rfl, fun i h => by cases h⟩
 | x :: xs, hb => by
  have hx := hb x (by simp)
  obtain ⟨ih1, ih2⟩ := index46 xs (fun y hy => hb y (by simp [hy]))
  have e : Lib.bytesOf (x :: xs) = UInt8.ofNat x.toNat :: Lib.bytesOf xs := rfl
  rw [e, Lib.indexByte, byte_dot hx.1 hx.2]
  by_cases h : x = 46
  ·rw [decide_eq_true h, if_pos rfl]
   refine ⟨fun q => ?_, fun i q r hi => ?_⟩
   ·rw [hasDot, if_pos h] at q; cases q
   ·rw [headOf, if_pos h] at r
    cases i with
    | zero => rfl
    | succ i => simp at r
  ·rw [decide_eq_false h, if_neg (by simp)]
   refine ⟨fun q => ?_, fun i q r hi => ?_⟩
   ·rw [hasDot, if_neg h] at q
    rw [ih1 q]; rfl
   ·rw [hasDot, if_neg h] at q
    rw [headOf, if_neg h] at r
    cases i with
    | zero => simp at r
    | succ i =>
     simp only [List.take_succ_cons, List.cons.injEq, true_and] at r
     have := ih2 i q r (by simp at hi; omega)
     rw [this, if_neg (by simp)]
     simp

def dropE : List (List Int) → List (List Int)
 | [] => []
 | [p] => if p.length = 0 then [] else [p]
 | p :: q :: r => p :: dropE (q :: r)
def lowL (p : List Int) : List Int := lowered p p.length
theorem rest_pieces : ∀ l cur, rest true l cur = (dropE ((cur ++ (pieces l).headD []) :: (pieces l).tail)).map lowL
 | [], cur => by
  rw [rest, pieces]
  simp only [List.headD_cons, List.append_nil, List.tail_cons, dropE, and_true]
  split <;> rfl
 | x :: xs, cur => by
  obtain ⟨p, ps, hp⟩ := pieces_cons xs
  rw [rest, pieces]
  by_cases h : x = 46
  ·rw [if_pos h, if_pos h, rest_pieces xs [], hp]
   simp only [List.headD_cons, List.append_nil, List.tail_cons, List.nil_append, dropE, List.map_cons, lowL]
  ·rw [if_neg h, if_neg h, rest_pieces xs (cur ++ [x]), hp]
   simp
theorem pieces_dot : ∀ m, pieces (m ++ [46]) = pieces m ++ [[]]
 | [] => rfl
 | x :: xs => by
  obtain ⟨p, ps, hp⟩ := pieces_cons xs
  rw [List.cons_append, pieces, pieces, pieces_dot xs, hp]
  by_cases h : x = 46
  ·rw [if_pos h, if_pos h]; rfl
  ·rw [if_neg h, if_neg h]; rfl
theorem dropE_dot : ∀ q : List (List Int), dropE (q ++ [[]]) = q
 | [] => rfl
 | [p] => rfl
 | p :: q :: r => by
  have := dropE_dot (q :: r)
  rw [List.cons_append] at this ⊢
  rw [List.cons_append, dropE, this]
theorem dropE_not : ∀ (m : List Int) (y : Int) (cur : List Int), y ≠ 46 → dropE ((cur ++ (pieces (m ++ [y])).headD []) :: (pieces (m ++ [y])).tail) = (cur ++ (pieces (m ++ [y])).headD []) :: (pieces (m ++ [y])).tail
 | [], y, cur, h => by
  have e : pieces ([] ++ [y]) = [[y]] := by show pieces [y] = _; rw [pieces, if_neg h]; rfl
  rw [e]
  simp [dropE]
 | x :: xs, y, cur, h => by
  obtain ⟨p, ps, hp⟩ := pieces_cons (xs ++ [y])
  rw [List.cons_append, pieces]
  by_cases hx : x = 46
  ·have ih := dropE_not xs y [] h
   rw [hp] at ih
   rw [if_pos hx, hp]
   simp only [List.headD_cons, List.append_nil, List.tail_cons, List.nil_append] at ih ⊢
   rw [dropE, ih]
  ·have ih := dropE_not xs y (cur ++ [x]) h
   rw [hp] at ih
   rw [if_neg hx, hp]
   simp only [List.headD_cons, List.tail_cons] at ih ⊢
   simpa using ih
theorem pieces_whole (l : List Int) : (pieces l).headD [] :: (pieces l).tail = pieces l := by
 obtain ⟨p, ps, hp⟩ := pieces_cons l
 rw [hp]; rfl
def trimD (l : List Int) : List Int := if l.getLast? = some 46 then l.dropLast else l
theorem labelsIn_eq (l : List Int) : labelsIn l = (pieces (trimD l)).map lowL := by
 unfold labelsIn trimD
 rcases List.eq_nil_or_concat l with rfl | ⟨m, y, rfl⟩
 ·rfl
 ·rw [List.concat_eq_append]
  have hd : decide (0 < (m ++ [y]).length) = true := by simp
  rw [hd, rest_pieces, List.getLast?_append]
  simp only [List.getLast?_singleton, Option.some_or, Option.some.injEq, List.nil_append]
  by_cases h : y = 46
  ·subst h
   rw [if_pos rfl, List.dropLast_concat, pieces_whole, pieces_dot, dropE_dot]
  ·rw [if_neg h]
   have := dropE_not m y [] h
   rw [List.nil_append] at this
   rw [this, pieces_whole]
end Go.Proofs.YthmihglfffeedaaGreatDoor
