/-
  Plain facts: what an update asks for. No program is named here.
-/
import Derived.Test.YtnnhdmjdkbkclaaRecOk
namespace Go.Proofs.Ytnnhdmjdkbkclaa
open Go.RowKit
set_option linter.unusedVariables false

def asked (t : Int) : Bool := typeOk t || decide (t = 255)
def emptyOk (r : Rec) : Bool := decide (r.addr = 0 ∧ r.to.length = 0 ∧ r.text.length = 0 ∧ r.nums.length = 0)
def bareOk (r : Rec) : Bool := nameOk r.name && (asked r.type && (decide (r.ttl = 0) && emptyOk r))
def wantOk (r : Rec) (c : Int) (b : Bool) : Bool := if b = true then decide (c = 254 ∨ c = 255) && bareOk r else if c = 1 then rrOk r else if c = 254 then rrOk r && decide (r.ttl = 0) else false

theorem cells9 {w : World} {b : Nat} {c0 c1 c2 c3 c4 c5 c6 c7 c8 : Value} {t : TypeId} (h : w.heap[b]? = some (.cells #[c0, c1, c2, c3, c4, c5, c6, c7, c8] t)) :
    w.cell? ⟨b, 0, none⟩ = some c0 ∧ w.cell? ⟨b, 1, none⟩ = some c1 ∧ w.cell? ⟨b, 2, none⟩ = some c2 ∧ w.cell? ⟨b, 3, none⟩ = some c3 ∧ w.cell? ⟨b, 4, none⟩ = some c4 ∧ w.cell? ⟨b, 5, none⟩ = some c5 ∧ w.cell? ⟨b, 6, none⟩ = some c6 ∧ w.cell? ⟨b, 7, none⟩ = some c7 ∧ w.cell? ⟨b, 8, none⟩ = some c8 :=
  ⟨block_cell h 0, block_cell h 1, block_cell h 2, block_cell h 3, block_cell h 4, block_cell h 5, block_cell h 6, block_cell h 7, block_cell h 8⟩
theorem frozen9 {w : World} {b : Nat} {c : Array Value} {t : TypeId} (h : w.heap[b]? = some (.cells c t)) :
    w.frozen? ⟨b, 0, none⟩ = false ∧ w.frozen? ⟨b, 1, none⟩ = false ∧ w.frozen? ⟨b, 2, none⟩ = false ∧ w.frozen? ⟨b, 3, none⟩ = false ∧ w.frozen? ⟨b, 4, none⟩ = false ∧ w.frozen? ⟨b, 5, none⟩ = false ∧ w.frozen? ⟨b, 6, none⟩ = false ∧ w.frozen? ⟨b, 7, none⟩ = false ∧ w.frozen? ⟨b, 8, none⟩ = false :=
  ⟨block_frozen h 0, block_frozen h 1, block_frozen h 2, block_frozen h 3, block_frozen h 4, block_frozen h 5, block_frozen h 6, block_frozen h 7, block_frozen h 8⟩
/-- All nine cells of a struct, one behind the other. -/
def set9 (w : World) (b : Nat) (c0 c1 c2 c3 c4 c5 c6 c7 c8 : Value) : World := ((((((((w.setCell ⟨b, 0, none⟩ c0).setCell ⟨b, 1, none⟩ c1).setCell ⟨b, 2, none⟩ c2).setCell ⟨b, 3, none⟩ c3).setCell ⟨b, 4, none⟩ c4).setCell ⟨b, 5, none⟩ c5).setCell ⟨b, 6, none⟩ c6).setCell ⟨b, 7, none⟩ c7).setCell ⟨b, 8, none⟩ c8
theorem set9_is {w : World} {b : Nat} {c0 c1 c2 c3 c4 c5 c6 c7 c8 a0 a1 a2 a3 a4 a5 a6 a7 a8 : Value} {t : TypeId} (h : w.heap[b]? = some (.cells #[a0, a1, a2, a3, a4, a5, a6, a7, a8] t)) :
    (set9 w b c0 c1 c2 c3 c4 c5 c6 c7 c8).heap[b]? = some (.cells #[c0, c1, c2, c3, c4, c5, c6, c7, c8] t) ∧ Outside b (b + 1) w (set9 w b c0 c1 c2 c3 c4 c5 c6 c7 c8) := by
  have h1 : (w.setCell ⟨b, 0, none⟩ c0).heap[b]? = some (.cells #[c0, a1, a2, a3, a4, a5, a6, a7, a8] t) := block_setAt h 0 c0
  have h2 : ((w.setCell ⟨b, 0, none⟩ c0).setCell ⟨b, 1, none⟩ c1).heap[b]? = some (.cells #[c0, c1, a2, a3, a4, a5, a6, a7, a8] t) := block_setAt h1 1 c1
  have u2 : Outside b (b + 1) w ((w.setCell ⟨b, 0, none⟩ c0).setCell ⟨b, 1, none⟩ c1) := (outside_set _ _ _ _).trans (outside_set _ _ _ _)
  unfold set9
  generalize (w.setCell ⟨b, 0, none⟩ c0).setCell ⟨b, 1, none⟩ c1 = w2 at *
  have h3 : (w2.setCell ⟨b, 2, none⟩ c2).heap[b]? = some (.cells #[c0, c1, c2, a3, a4, a5, a6, a7, a8] t) := block_setAt h2 2 c2
  have u3 := u2.trans (outside_set w2 b 2 c2)
  generalize w2.setCell ⟨b, 2, none⟩ c2 = w3 at *
  have h4 : (w3.setCell ⟨b, 3, none⟩ c3).heap[b]? = some (.cells #[c0, c1, c2, c3, a4, a5, a6, a7, a8] t) := block_setAt h3 3 c3
  have u4 := u3.trans (outside_set w3 b 3 c3)
  generalize w3.setCell ⟨b, 3, none⟩ c3 = w4 at *
  have h5 : (w4.setCell ⟨b, 4, none⟩ c4).heap[b]? = some (.cells #[c0, c1, c2, c3, c4, a5, a6, a7, a8] t) := block_setAt h4 4 c4
  have u5 := u4.trans (outside_set w4 b 4 c4)
  generalize w4.setCell ⟨b, 4, none⟩ c4 = w5 at *
  have h6 : (w5.setCell ⟨b, 5, none⟩ c5).heap[b]? = some (.cells #[c0, c1, c2, c3, c4, c5, a6, a7, a8] t) := block_setAt h5 5 c5
  have u6 := u5.trans (outside_set w5 b 5 c5)
  generalize w5.setCell ⟨b, 5, none⟩ c5 = w6 at *
  have h7 : (w6.setCell ⟨b, 6, none⟩ c6).heap[b]? = some (.cells #[c0, c1, c2, c3, c4, c5, c6, a7, a8] t) := block_setAt h6 6 c6
  have u7 := u6.trans (outside_set w6 b 6 c6)
  generalize w6.setCell ⟨b, 6, none⟩ c6 = w7 at *
  have h8 : (w7.setCell ⟨b, 7, none⟩ c7).heap[b]? = some (.cells #[c0, c1, c2, c3, c4, c5, c6, c7, a8] t) := block_setAt h7 7 c7
  have u8 := u7.trans (outside_set w7 b 7 c7)
  generalize w7.setCell ⟨b, 7, none⟩ c7 = w8 at *
  exact ⟨block_setAt h8 8 c8, u8.trans (outside_set w8 b 8 c8)⟩
end Go.Proofs.Ytnnhdmjdkbkclaa
