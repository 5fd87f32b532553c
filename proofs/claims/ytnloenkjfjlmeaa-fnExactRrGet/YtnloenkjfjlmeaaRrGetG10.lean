/-
  Plain facts: which records may be. No program is named here. What DataGet and RrGet read, in plain words.
-/
import Derived.Test.YtnloenkjfjlmeaaRrGetG04
import Derived.Test.YtnloenkjfjlmeaaRrGetG09
namespace Go.Proofs.Ytnloenkjfjlmeaa
open Go.RowKit

def named (t : Int) : Bool := decide (t = 2 ∨ t = 5 ∨ t = 6 ∨ t = 12)
def texted (t : Int) : Bool := decide (t = 16 ∨ t = 49)

/-- The data are as the type wants them. -/
def dataOk (r : Rec) : Bool :=
  (if r.type = 1 then decide (0 ≤ r.addr ∧ r.addr ≤ 4294967295) else decide (r.addr = 0)) && ((if named r.type = true then nameOk r.to else decide (r.to.length = 0)) && ((if texted r.type = true then decide (r.text.length ≤ 40) else decide (r.text.length = 0)) &&
  (if r.type = 6 then decide (r.nums.length = 2 ∧ 0 ≤ r.nums.getD 0 0 ∧ r.nums.getD 0 0 ≤ 4294967295 ∧ 0 ≤ r.nums.getD 1 0 ∧ r.nums.getD 1 0 ≤ 100000) else decide (r.nums.length = 0))))
def rrOk (r : Rec) : Bool := nameOk r.name && (typeOk r.type && (decide (0 ≤ r.ttl ∧ r.ttl ≤ 100000) && dataOk r))

theorem HasI.two {w : World} {v : Value} {x y : Int} (h : HasI w v [x, y]) : ∃ g off cap, v = .slice (some ⟨g, off, none⟩) 2 cap ∧ g < w.heap.size ∧ w.cell? ⟨g, off, none⟩ = some (.int .i64 x) ∧ w.cell? ⟨g, off + 1, none⟩ = some (.int .i64 y) := by
  rcases h with ⟨_, h⟩ | ⟨g, off, cap, hv, hlt, _, _, hc⟩
  · cases h
  · exact ⟨g, off, cap, hv, hlt, hc 0 (by simp), hc 1 (by simp)⟩
theorem two_of {l : List Int} (h : l.length = 2) : ∃ x y, l = [x, y] := by
  match l, h with
  | [x, y], _ => exact ⟨x, y, rfl⟩
theorem nil_of {α : Type} {l : List α} (h : l.length = 0) : l = [] := List.eq_nil_of_length_eq_zero h
end Go.Proofs.Ytnloenkjfjlmeaa

namespace Go.Proofs.Ytnloenkjfjlmeaa
open Go.RowKit
set_option linter.unusedVariables false

def emptyR (t : Int) : Rec := ⟨[], t, 0, 0, [], [], []⟩

/-- Data of a type that stand at p, and the place behind them. -/
def kindGet (t : Int) (l : List Int) (p : Int) : Rec × Int :=
  if t = 1 then (⟨[], t, 0, (get32 l p).1, [], [], []⟩, (get32 l p).2)
  else if t = 6 then (⟨[], t, 0, 0, (nameGet l p).1, [], [(get32 l (nameGet l p).2).1, (get32 l (get32 l (nameGet l p).2).2).1]⟩, (get32 l (get32 l (nameGet l p).2).2).2)
  else if named t = true then (⟨[], t, 0, 0, (nameGet l p).1, [], []⟩, (nameGet l p).2)
  else (⟨[], t, 0, 0, [], (countedOf l p).1, []⟩, (countedOf l p).2)

def dataGet (t : Int) (l : List Int) (p n : Int) : Rec × Bool :=
  if typeOk t = false ∨ 512 < l.length ∨ p < 0 ∨ n < 0 ∨ 512 < n ∨ (kindGet t l p).2 < 0 ∨ (kindGet t l p).2 - p ≠ n ∨ rrOk (kindGet t l p).1 = false then (emptyR 0, false) else ((kindGet t l p).1, true)

theorem get32_end (l : List Int) (p : Int) : (get32 l p).2 = -1 ∨ (0 ≤ p ∧ (get32 l p).2 = p + 4 ∧ p + 4 ≤ l.length) := by
  unfold get32
  split
  · rename_i h; right; exact ⟨h.1, rfl, h.2⟩
  · left; rfl
theorem get32_at {l : List Int} {p : Int} (h : p < 0) : get32 l p = (0, -1) := by
  unfold get32; rw [if_neg (by omega)]
theorem get32_byte {l : List Int} (hb : Bytes8 l) (p : Int) : 0 ≤ (get32 l p).1 ∧ (get32 l p).1 ≤ 4294967295 := by
  unfold get32
  split
  · have h1 := hb p.toNat; have h2 := hb (p.toNat + 1); have h3 := hb (p.toNat + 2); have h4 := hb (p.toNat + 3)
    constructor
    · show 0 ≤ l.getD p.toNat 0 * 16777216 + l.getD (p.toNat + 1) 0 * 65536 + l.getD (p.toNat + 2) 0 * 256 + l.getD (p.toNat + 3) 0; omega
    · show l.getD p.toNat 0 * 16777216 + l.getD (p.toNat + 1) 0 * 65536 + l.getD (p.toNat + 2) 0 * 256 + l.getD (p.toNat + 3) 0 ≤ 4294967295; omega
  · simp
theorem takeOf_end (l : List Int) (p m : Int) : (takeOf l p m).2 = -1 ∨ (0 ≤ p ∧ 0 ≤ m ∧ (takeOf l p m).2 = p + m ∧ p + m ≤ l.length) := by
  unfold takeOf
  split
  · rename_i h; right; exact ⟨h.1, h.2.1, rfl, h.2.2⟩
  · left; rfl
theorem countedOf_end (l : List Int) (p : Int) : (countedOf l p).2 = -1 ∨ (0 ≤ p ∧ p ≤ l.length ∧ 0 ≤ (countedOf l p).2 ∧ (countedOf l p).2 ≤ l.length) := by
  unfold countedOf
  split
  · left; rfl
  · rcases takeOf_end l p 1 with h | h
    · omega
    · rcases takeOf_end l (takeOf l p 1).2 (l.getD p.toNat 0) with h2 | h2
      · left; exact h2
      · right; exact ⟨h.1, by omega, by omega, by omega⟩
theorem get16_end (l : List Int) (p : Int) : (get16 l p).2 = -1 ∨ (0 ≤ p ∧ (get16 l p).2 = p + 2 ∧ p + 2 ≤ l.length) := by
  unfold get16
  split
  · rename_i h; right; exact ⟨h.1, rfl, h.2⟩
  · left; rfl
theorem getName_end {l : List Int} : ∀ (f : Nat) (n : List (List Int)) (p : Int) (h : Nat) (e : Int), -1 ≤ e → e ≤ l.length → ((getName l f n p h e).2 = -1 ∨ (0 ≤ p ∧ p ≤ l.length ∧ 0 ≤ (getName l f n p h e).2 ∧ (getName l f n p h e).2 ≤ l.length))
  | 0, _, _, _, _, _, _ => by simp [getName]
  | f + 1, n, p, h, e, h1, h2 => by
    rw [getName]
    split
    · exact .inl rfl
    rename_i hp
    split
    · split
      · right
        refine ⟨by omega, by omega, ?_, ?_⟩
        · show 0 ≤ (if e < 0 then p + 1 else e); split <;> omega
        · show (if e < 0 then p + 1 else e) ≤ (l.length : Int); split <;> omega
      · exact .inl rfl
    split
    · split
      · exact .inl rfl
      · have q := get16_end l p
        rcases getName_end (l := l) f n ((get16 l p).1 - 49152) (h + 1) (if e < 0 then (get16 l p).2 else e) (by split <;> omega) (by split <;> omega) with r | r
        · exact .inl r
        · exact .inr ⟨by omega, by omega, r.2.2⟩
    split
    · exact .inl rfl
    split
    · exact .inl rfl
    · rcases getName_end (l := l) f _ _ h e h1 h2 with r | r
      · exact .inl r
      · exact .inr ⟨by omega, by omega, r.2.2⟩
theorem nameGet_end (l : List Int) (p : Int) : (nameGet l p).2 = -1 ∨ (0 ≤ p ∧ p ≤ l.length ∧ 0 ≤ (nameGet l p).2 ∧ (nameGet l p).2 ≤ l.length) := by
  unfold nameGet
  split
  · exact .inl rfl
  · exact getName_end (l := l) _ _ _ _ _ (by omega) (by omega)
theorem kindGet_end (t : Int) (l : List Int) (p : Int) : (kindGet t l p).2 = -1 ∨ (0 ≤ p ∧ p ≤ l.length ∧ 0 ≤ (kindGet t l p).2 ∧ (kindGet t l p).2 ≤ l.length) := by
  unfold kindGet
  split
  · rcases get32_end l p with h | h
    · exact .inl h
    · exact .inr ⟨h.1, by omega, by show 0 ≤ (get32 l p).2; omega, by show (get32 l p).2 ≤ _; omega⟩
  split
  · have a := nameGet_end l p
    have b := get32_end l (nameGet l p).2
    have c := get32_end l (get32 l (nameGet l p).2).2
    show (get32 l (get32 l (nameGet l p).2).2).2 = -1 ∨ (0 ≤ p ∧ p ≤ l.length ∧ 0 ≤ (get32 l (get32 l (nameGet l p).2).2).2 ∧ (get32 l (get32 l (nameGet l p).2).2).2 ≤ l.length)
    omega
  split
  · exact nameGet_end l p
  · exact countedOf_end l p
end Go.Proofs.Ytnloenkjfjlmeaa
