/-
  Plain facts: what DataPut and RrPut answer. No program is named here.
-/
import Derived.Test.YtnloenkjfjlmeaaDataB
namespace Go.Proofs.Ytnloenkjfjlmeaa
open Go.RowKit

/-- What DataPut answers. -/
def dataPut (r : Rec) : List Int × Bool := if rrOk r = true then (dataB r, true) else ([], false)
theorem dataPut_yes {r : Rec} (h : rrOk r = true) : dataPut r = (dataB r, true) := by unfold dataPut; rw [if_pos h]
theorem dataPut_no {r : Rec} (h : rrOk r = false) : dataPut r = ([], false) := by unfold dataPut; rw [if_neg (by simp [h])]
theorem dataPut_length (r : Rec) : (dataPut r).1.length ≤ 105 := by
  cases h : rrOk r with
  | true => rw [dataPut_yes h]; exact dataB_length h
  | false => rw [dataPut_no h]; simp
/-- A record's bytes behind some. -/
def rrB (l : List Int) (r : Rec) : List Int := put16 (put32 (put16 (put16 (l ++ wire r.name) r.type) 1) r.ttl) (dataB r).length ++ dataB r
def rrPut (l : List Int) (r : Rec) : List Int × Bool := if rrOk r = true then (rrB l r, true) else ([], false)
theorem rrPut_yes {l : List Int} {r : Rec} (h : rrOk r = true) : rrPut l r = (rrB l r, true) := by unfold rrPut; rw [if_pos h]
theorem rrPut_no {l : List Int} {r : Rec} (h : rrOk r = false) : rrPut l r = ([], false) := by unfold rrPut; rw [if_neg (by simp [h])]
theorem rrB_length (l : List Int) {r : Rec} (h : rrOk r = true) : (rrB l r).length ≤ l.length + 212 := by
  have h1 := wire_length r.name (rrOk_parts h).1
  have h2 := dataB_length h
  have h3 := put16_length (l ++ wire r.name) r.type
  have h4 := put16_length (put16 (l ++ wire r.name) r.type) 1
  have h5 := put32_length (put16 (put16 (l ++ wire r.name) r.type) 1) r.ttl
  have h6 := put16_length (put32 (put16 (put16 (l ++ wire r.name) r.type) 1) r.ttl) (dataB r).length
  unfold rrB
  rw [List.length_append] at h3 ⊢
  omega
theorem rrPut_length (l : List Int) (r : Rec) : (rrPut l r).1.length ≤ l.length + 212 := by
  cases h : rrOk r with
  | true => rw [rrPut_yes h]; exact rrB_length l h
  | false => rw [rrPut_no h]; simp
end Go.Proofs.Ytnloenkjfjlmeaa
