/-
  Plain facts: which records may be. No program is named here. Plain facts: a record's data as bytes. No program is named here.
-/
import Derived.Test.YtdghbcjlahjjdaaHasNameG04
import Derived.Test.YtdghbcjlahjjdaaHasNameG14
namespace Go.Proofs.Ytdghbcjlahjjdaa
open Go.RowKit

def named (t : Int) : Bool := decide (t = 2 ∨ t = 5 ∨ t = 6 ∨ t = 12)
def texted (t : Int) : Bool := decide (t = 16 ∨ t = 49)

/-- The data are as the type wants them. -/
def dataOk (r : Rec) : Bool :=
  (if r.type = 1 then decide (0 ≤ r.addr ∧ r.addr ≤ 4294967295) else decide (r.addr = 0)) && ((if named r.type = true then nameOk r.to else decide (r.to.length = 0)) && ((if texted r.type = true then decide (r.text.length ≤ 40) else decide (r.text.length = 0)) &&
  (if r.type = 6 then decide (r.nums.length = 2 ∧ 0 ≤ r.nums.getD 0 0 ∧ r.nums.getD 0 0 ≤ 4294967295 ∧ 0 ≤ r.nums.getD 1 0 ∧ r.nums.getD 1 0 ≤ 100000) else decide (r.nums.length = 0))))
def rrOk (r : Rec) : Bool := nameOk r.name && (typeOk r.type && (decide (0 ≤ r.ttl ∧ r.ttl ≤ 100000) && dataOk r))

theorem HasI.two {w : World} {v : Value} {x y : Int} (h : HasI w v [x, y]) : ∃ g off cap, v = .slice (some ⟨g, off, none⟩) 2 cap ∧ g < w.heap.size ∧ w.cell? ⟨g, off, none⟩ = some (.int .i64 x) ∧ w.cell? ⟨g, off + 1, none⟩ = some (.int .i64 y) := by
  rcases h with ⟨_, h⟩ | ⟨g, off, cap, hv, hlt, _, _, hc⟩
  · cases h
  · exact ⟨g, off, cap, hv, hlt, hc 0 (by simp), hc 1 (by simp)⟩
theorem two_of {l : List Int} (h : l.length = 2) : ∃ x y, l = [x, y] := by
  match l, h with
  | [x, y], _ => exact ⟨x, y, rfl⟩
theorem nil_of {α : Type} {l : List α} (h : l.length = 0) : l = [] := List.eq_nil_of_length_eq_zero h
end Go.Proofs.Ytdghbcjlahjjdaa

namespace Go.Proofs.Ytdghbcjlahjjdaa
open Go.RowKit

/-- The data, as bytes. -/
def dataB (r : Rec) : List Int :=
  if r.type = 1 then put32 [] r.addr else if r.type = 6 then put32 (put32 (wire r.to) (r.nums.getD 0 0)) (r.nums.getD 1 0) else if named r.type = true then wire r.to else (r.text.length : Int) :: r.text

/-- What the data of a record that may be are: of its four kinds one. -/
theorem data_kinds {r : Rec} (ht : typeOk r.type = true) (h : dataOk r = true) :
    (r.type = 1 ∧ 0 ≤ r.addr ∧ r.addr ≤ 4294967295 ∧ dataB r = put32 [] r.addr) ∨ ((r.type = 2 ∨ r.type = 5 ∨ r.type = 12) ∧ nameOk r.to = true ∧ dataB r = wire r.to) ∨
    (r.type = 6 ∧ nameOk r.to = true ∧ (∃ x y, r.nums = [x, y] ∧ 0 ≤ x ∧ x ≤ 4294967295 ∧ 0 ≤ y ∧ y ≤ 100000 ∧ dataB r = put32 (put32 (wire r.to) x) y)) ∨ ((r.type = 16 ∨ r.type = 49) ∧ r.text.length ≤ 40 ∧ dataB r = (r.text.length : Int) :: r.text) := by
  have ht' : r.type = 1 ∨ r.type = 2 ∨ r.type = 5 ∨ r.type = 6 ∨ r.type = 12 ∨ r.type = 16 ∨ r.type = 49 := of_decide_eq_true ht
  unfold dataOk at h
  simp only [Bool.and_eq_true] at h
  obtain ⟨h1, h2, h3, h4⟩ := h
  by_cases e1 : r.type = 1
  · left
    rw [if_pos e1] at h1
    have := of_decide_eq_true h1
    exact ⟨e1, this.1, this.2, by unfold dataB; rw [if_pos e1]⟩
  by_cases e6 : r.type = 6
  · right; right; left
    have hn : named r.type = true := decide_eq_true (by omega)
    rw [if_pos hn] at h2
    rw [if_pos e6] at h4
    have h5 := of_decide_eq_true h4
    obtain ⟨x, y, hxy⟩ := two_of h5.1
    rw [hxy] at h5
    refine ⟨e6, h2, x, y, hxy, h5.2.1, h5.2.2.1, h5.2.2.2.1, h5.2.2.2.2, ?_⟩
    unfold dataB
    rw [if_neg e1, if_pos e6, hxy]
    rfl
  by_cases en : r.type = 2 ∨ r.type = 5 ∨ r.type = 12
  · right; left
    have hn : named r.type = true := decide_eq_true (by omega)
    rw [if_pos hn] at h2
    exact ⟨en, h2, by unfold dataB; rw [if_neg e1, if_neg e6, if_pos hn]⟩
  · right; right; right
    have hx : texted r.type = true := decide_eq_true (by omega)
    have hn : ¬ named r.type = true := by
      intro hh
      have : r.type = 2 ∨ r.type = 5 ∨ r.type = 6 ∨ r.type = 12 := of_decide_eq_true hh
      omega
    rw [if_pos hx] at h3
    exact ⟨by omega, of_decide_eq_true h3, by unfold dataB; rw [if_neg e1, if_neg e6, if_neg hn]⟩
theorem rrOk_parts {r : Rec} (h : rrOk r = true) : nameOk r.name = true ∧ typeOk r.type = true ∧ 0 ≤ r.ttl ∧ r.ttl ≤ 100000 ∧ dataOk r = true := by
  unfold rrOk at h
  simp only [Bool.and_eq_true] at h
  have := of_decide_eq_true h.2.2.1
  exact ⟨h.1, h.2.1, this.1, this.2, h.2.2.2⟩
theorem dataB_length {r : Rec} (h : rrOk r = true) : (dataB r).length ≤ 105 := by
  obtain ⟨_, ht, _, _, hd⟩ := rrOk_parts h
  rcases data_kinds ht hd with ⟨_, _, _, e⟩ | ⟨_, hn, e⟩ | ⟨_, hn, x, y, _, _, _, _, _, e⟩ | ⟨_, hx, e⟩
  · rw [e]; have := put32_length [] r.addr; simp at this; omega
  · rw [e]; have := wire_length r.to hn; omega
  · rw [e]
    have h1 := wire_length r.to hn
    have h2 := put32_length (wire r.to) x
    have h3 := put32_length (put32 (wire r.to) x) y
    omega
  · rw [e]; simp; omega
end Go.Proofs.Ytdghbcjlahjjdaa
