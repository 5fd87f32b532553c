/-
  Plain facts: which records may be. No program is named here.
-/
import Derived.Test.YtnnhdmjdkbkclaaRecP
import Derived.Test.YtnnhdmjdkbkclaaKind
namespace Go.Proofs.Ytnnhdmjdkbkclaa
open Go.RowKit

def named (t : Int) : Bool := decide (t = 2 ∨ t = 5 ∨ t = 6 ∨ t = 12)
def texted (t : Int) : Bool := decide (t = 16 ∨ t = 49)

/-- The data are as the type wants them. -/
def dataOk (r : Rec) : Bool :=
  (if r.type = 1 then decide (0 ≤ r.addr ∧ r.addr ≤ 4294967295) else decide (r.addr = 0)) && ((if named r.type = true then nameOk r.to else decide (r.to.length = 0)) && ((if texted r.type = true then decide (r.text.length ≤ 40) else decide (r.text.length = 0)) &&
  (if r.type = 6 then decide (r.nums.length = 2 ∧ 0 ≤ r.nums.getD 0 0 ∧ r.nums.getD 0 0 ≤ 4294967295 ∧ 0 ≤ r.nums.getD 1 0 ∧ r.nums.getD 1 0 ≤ 100000) else decide (r.nums.length = 0))))
def rrOk (r : Rec) : Bool := nameOk r.name && (typeOk r.type && (decide (0 ≤ r.ttl ∧ r.ttl ≤ 100000) && dataOk r))

theorem HasI.two {w : World} {v : Value} {x y : Int} (h : HasI w v [x, y]) : ∃ g off cap, v = .slice (some ⟨g, off, none⟩) 2 cap ∧ g < w.heap.size ∧ w.cell? ⟨g, off, none⟩ = some (.int .i64 x) ∧ w.cell? ⟨g, off + 1, none⟩ = some (.int .i64 y) := by
  rcases h with ⟨_, h⟩ | ⟨g, off, cap, hv, hlt, _, _, hc⟩
  · cases h
  · exact ⟨g, off, cap, hv, hlt, hc 0 (by simp), hc 1 (by simp)⟩
theorem two_of {l : List Int} (h : l.length = 2) : ∃ x y, l = [x, y] := by
  match l, h with
  | [x, y], _ => exact ⟨x, y, rfl⟩
theorem nil_of {α : Type} {l : List α} (h : l.length = 0) : l = [] := List.eq_nil_of_length_eq_zero h
end Go.Proofs.Ytnnhdmjdkbkclaa
