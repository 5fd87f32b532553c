/-
  Contracts of the laws' names: a name is read, and written. Plain facts: a record's data as bytes. No program is named here.
-/
import Derived.Test.YtdghbcjlahjjdaaFnRecordOrderG25
import Derived.Test.YtdghbcjlahjjdaaFnRecordOrderG30
import Derived.Test.YtdghbcjlahjjdaaFnRecordOrderG31
import Derived.Lib.SlBytesConst
import Derived.Test.YtdghbcjlahjjdaaFnRecordOrderG12
namespace Go.Proofs.Ytdghbcjlahjjdaa
open Go.RowKit
set_option linter.unusedVariables false

theorem nameRead_ab : nameRead [65, 46, 98] = ([[97], [98]], true) := by decide +kernel
theorem nameText_ab : nameText [[97], [98]] = [97, 46, 98, 46] := by decide +kernel
theorem bytes8_of {l : List Int} (h : ∀ x ∈ l, 0 ≤ x ∧ x ≤ 255) : Bytes8 l := fun k => by
  rw [List.getD_eq_getElem?_getD]
  cases hk : l[k]? with
  | none => simp
  | some y => exact h y (List.mem_of_getElem? hk)

set_option maxHeartbeats 1000000 in
set_option maxRecDepth 100000 in
theorem names_any (w : World) : Calls Try.prog 10 #[] w fun e w' => e = .returned (.bool true) ∧ Below w.heap.size w w' := by
  have hcid := fun (w : World) (C : Array Value) (n c : Nat) => Lib.run_convert_bytes_const (P := Try.prog) w 22 5 C n c Try.underlying22 Try.underlying5
  have b0 := below_alloc (w := w) (.cells #[.int .u8 65, .int .u8 46, .int .u8 98] 5 (3, 4))
  have HR := implNameRead_has (l := [65, 46, 98]) (has_const w 5 [65, 46, 98] (3, 4) (by simp [maxLen])) (by simp) (bytes8_of (by simp))
  rw [nameRead_ab] at HR
  have HR := hide HR
  have HT := hide (fun (w : World) (v : Value) (h : HasL w v [[97], [98]]) => implNameText_has h)
  have HTB := hide nameText_ab
  go_enter Try.func10, Try.ntmps10
  go_wp2_with fail
  refine (unhide HR).mono ?_
  rintro e w1 ⟨v1, rfl, o1, b1⟩
  obtain ⟨oa, oc, rfl, _⟩ := o1.hasL.form
  have bm := below_alloc (w := w1) (.cells #[.slice oa 2 oc] 25)
  have K2 := hide (heap_alloc_new w1 (.cells #[.slice oa 2 oc] 25))
  have O2 := hide (o1.below bm).hasL
  have bb2 := below_next (below_next b0 b1) bm
  clear o1 b1 bm b0 HR
  have c2 := block_one (unhide K2)
  go_wp2_with fail
  generalize w1.alloc (.cells #[.slice oa 2 oc] 25) = w2 at *
  refine (unhide HT _ _ (unhide O2)).mono ?_
  rw [unhide HTB]
  rintro e w3 ⟨v3, rfl, o3, b3⟩
  have bb3 := below_next bb2 b3
  clear c2 K2 O2 bb2 b3
  have b4 := below_alloc (w := w3) (.cells #[.int .u8 97, .int .u8 46, .int .u8 98, .int .u8 46] 5 (4, 5))
  have HS := same_has (o3.alloc (.cells #[.int .u8 97, .int .u8 46, .int .u8 98, .int .u8 46] 5 (4, 5))).has (has_const w3 5 [97, 46, 98, 46] (4, 5) (by simp [maxLen])) (by simp) (by simp)
  rw [decide_eq_true rfl] at HS
  have HS := hide HS
  obtain ⟨va, vc, rfl, _⟩ := o3.lies
  clear o3
  go_wp2_with fail
  refine (unhide HS).mono ?_
  rintro e w4 ⟨rfl, rfl⟩
  go_wp2_with fail
  go_ret
  exact ⟨rfl, below_next bb3 b4⟩
end Go.Proofs.Ytdghbcjlahjjdaa

namespace Go.Proofs.Ytdghbcjlahjjdaa
open Go.RowKit

/-- The data, as bytes. -/
def dataB (r : Rec) : List Int :=
  if r.type = 1 then put32 [] r.addr else if r.type = 6 then put32 (put32 (wire r.to) (r.nums.getD 0 0)) (r.nums.getD 1 0) else if named r.type = true then wire r.to else (r.text.length : Int) :: r.text

/-- What the data of a record that may be are: of its four kinds one. -/
theorem data_kinds {r : Rec} (ht : typeOk r.type = true) (h : dataOk r = true) :
    (r.type = 1 ∧ 0 ≤ r.addr ∧ r.addr ≤ 4294967295 ∧ dataB r = put32 [] r.addr) ∨ ((r.type = 2 ∨ r.type = 5 ∨ r.type = 12) ∧ nameOk r.to = true ∧ dataB r = wire r.to) ∨
    (r.type = 6 ∧ nameOk r.to = true ∧ (∃ x y, r.nums = [x, y] ∧ 0 ≤ x ∧ x ≤ 4294967295 ∧ 0 ≤ y ∧ y ≤ 100000 ∧ dataB r = put32 (put32 (wire r.to) x) y)) ∨ ((r.type = 16 ∨ r.type = 49) ∧ r.text.length ≤ 40 ∧ dataB r = (r.text.length : Int) :: r.text) := by
  have ht' : r.type = 1 ∨ r.type = 2 ∨ r.type = 5 ∨ r.type = 6 ∨ r.type = 12 ∨ r.type = 16 ∨ r.type = 49 := of_decide_eq_true ht
  unfold dataOk at h
  simp only [Bool.and_eq_true] at h
  obtain ⟨h1, h2, h3, h4⟩ := h
  by_cases e1 : r.type = 1
  · left
    rw [if_pos e1] at h1
    have := of_decide_eq_true h1
    exact ⟨e1, this.1, this.2, by unfold dataB; rw [if_pos e1]⟩
  by_cases e6 : r.type = 6
  · right; right; left
    have hn : named r.type = true := decide_eq_true (by omega)
    rw [if_pos hn] at h2
    rw [if_pos e6] at h4
    have h5 := of_decide_eq_true h4
    obtain ⟨x, y, hxy⟩ := two_of h5.1
    rw [hxy] at h5
    refine ⟨e6, h2, x, y, hxy, h5.2.1, h5.2.2.1, h5.2.2.2.1, h5.2.2.2.2, ?_⟩
    unfold dataB
    rw [if_neg e1, if_pos e6, hxy]
    rfl
  by_cases en : r.type = 2 ∨ r.type = 5 ∨ r.type = 12
  · right; left
    have hn : named r.type = true := decide_eq_true (by omega)
    rw [if_pos hn] at h2
    exact ⟨en, h2, by unfold dataB; rw [if_neg e1, if_neg e6, if_pos hn]⟩
  · right; right; right
    have hx : texted r.type = true := decide_eq_true (by omega)
    have hn : ¬ named r.type = true := by
      intro hh
      have : r.type = 2 ∨ r.type = 5 ∨ r.type = 6 ∨ r.type = 12 := of_decide_eq_true hh
      omega
    rw [if_pos hx] at h3
    exact ⟨by omega, of_decide_eq_true h3, by unfold dataB; rw [if_neg e1, if_neg e6, if_neg hn]⟩
theorem rrOk_parts {r : Rec} (h : rrOk r = true) : nameOk r.name = true ∧ typeOk r.type = true ∧ 0 ≤ r.ttl ∧ r.ttl ≤ 100000 ∧ dataOk r = true := by
  unfold rrOk at h
  simp only [Bool.and_eq_true] at h
  have := of_decide_eq_true h.2.2.1
  exact ⟨h.1, h.2.1, this.1, this.2, h.2.2.2⟩
theorem dataB_length {r : Rec} (h : rrOk r = true) : (dataB r).length ≤ 105 := by
  obtain ⟨_, ht, _, _, hd⟩ := rrOk_parts h
  rcases data_kinds ht hd with ⟨_, _, _, e⟩ | ⟨_, hn, e⟩ | ⟨_, hn, x, y, _, _, _, _, _, e⟩ | ⟨_, hx, e⟩
  · rw [e]; have := put32_length [] r.addr; simp at this; omega
  · rw [e]; have := wire_length r.to hn; omega
  · rw [e]
    have h1 := wire_length r.to hn
    have h2 := put32_length (wire r.to) x
    have h3 := put32_length (put32 (wire r.to) x) y
    omega
  · rw [e]; simp; omega
end Go.Proofs.Ytdghbcjlahjjdaa
