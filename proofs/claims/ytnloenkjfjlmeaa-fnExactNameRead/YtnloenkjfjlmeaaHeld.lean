/-
  Contracts of the name helpers of the laws (heldByteSS, heldName).
-/
import Derived.Test.YtnloenkjfjlmeaaMarks
namespace Go.Proofs.Ytnloenkjfjlmeaa
open Go.RowKit
set_option linter.unusedVariables false

set_option maxHeartbeats 800000 in
set_option maxRecDepth 100000 in
theorem heldByteSS_has {v : Value} {n : List (List Int)} (k0 : Int) {w : World} (h : HasL w v (markL n k0)) (hl : n.length ≤ 1048576) (hl2 : ∀ i, i < n.length → (n.getD i []).length ≤ 1048576) (hk0 : 0 ≤ k0) (hk1 : k0 ≤ 1152921504606846976) :
    Calls Try.prog 84 #[v, .int .i64 k0] w fun e w' => e = .returned (.int .i64 (pos n k0 n.length)) ∧ w = w' := by
  have hML := markL_length n k0
  obtain ⟨a, cap, rfl, hcl, hcm⟩ := h.form
  unfold maxLen at hcm
  rw [hML] at hcl h ⊢
  have hP := hide (fun j (hj : j ≤ n.length) => (show k0 ≤ pos n k0 j ∧ pos n k0 j ≤ 2305843009213693952 from by
    have := pos_le n k0 1048576 hl2 j hj
    have : j * 1048576 ≤ 1048576 * 1048576 := Nat.mul_le_mul_right _ (by omega)
    omega))
  have hPS := hide (pos_succ n k0)
  have hP0 := hide (pos_zero n k0)
  have hMG := hide (markL_getD n k0)
  have HML := hide hML
  have HL2 := hide hl2
  clear hl2 hML
  generalize pos n k0 = P at *
  generalize markL n k0 = M at *
  generalize hn : n.length = m at *
  have HN := hide hn
  clear hn
  go_enter Try.func84, Try.ntmps84
  go_wp2
  go_loop [1, 5] (fun kk i => ∃ k : Nat, k ≤ m ∧ i = .int .i64 k ∧ kk = .int .i64 (P k)) (fun _ i => m - (intOf i).toNat)
  case atStart => exact ⟨0, Nat.zero_le _, rfl, by rw [unhide hP0]⟩
  case round =>
    obtain ⟨k, hk, rfl, rfl⟩ := hrel
    by_cases hlt : k < m
    · obtain ⟨b, off, u, rfl, hbl, hc, hu⟩ := h.here (k := k) (by rw [unhide HML]; exact hlt)
      have hlk := unhide HL2 k hlt
      have hpk := unhide hP k (by omega)
      have hpk1 := unhide hP (k + 1) (by omega)
      have hps := unhide hPS k hlt
      rw [unhide hMG k hlt] at hu
      generalize (n.getD k []).length = lk at *
      obtain ⟨ua, uc, rfl, hLu⟩ := hu.form
      rw [marks_length] at hc
      have HLU := hide hLu
      clear hu hLu
      go_wp2_with fail
      refine (heldByteS_marks ua uc lk (P k) _ (unhide HLU) (by omega) (by omega) (by omega)).mono ?_
      rintro e w1 ⟨rfl, rfl⟩
      have hneg : ¬ P k + (lk : Int) < 0 := by omega
      go_wp2
      exact ⟨⟨k + 1, by omega, by go_num, by rw [hps]⟩, by simp [intOf]; omega⟩
    · obtain rfl : k = m := by omega
      go_wp2
      go_ret
      exact ⟨rfl, rfl⟩

set_option maxHeartbeats 400000 in
set_option maxRecDepth 100000 in
theorem heldName_has {v : Value} {n : List (List Int)} (k0 : Int) {w : World} (h : HasL w v (markL n k0)) (hl : n.length ≤ 1048576) (hl2 : ∀ i, i < n.length → (n.getD i []).length ≤ 1048576) (hk0 : 0 ≤ k0) (hk1 : k0 ≤ 1152921504606846976) :
    Calls Try.prog 39 #[.agg #[v], .int .i64 k0] w fun e w' => e = .returned (.int .i64 (pos n k0 n.length)) ∧ Below w.heap.size w w' := by
  have hb := below_alloc (w := w) (.cells #[v] 25)
  have hc := hide (heldByteSS_has k0 (h.below hb) hl hl2 hk0 hk1)
  have hp := (pos_le n k0 1048576 hl2 n.length (Nat.le_refl _)).1
  obtain ⟨a, cap, rfl, _⟩ := h.form
  have HL2 := hide hl2
  clear h hl2
  generalize pos n k0 n.length = P at *
  have hneg : ¬ P < 0 := by omega
  go_enter Try.func39, Try.ntmps39
  go_wp2_with fail
  refine (unhide hc).mono ?_
  rintro e w1 ⟨rfl, rfl⟩
  go_wp2_with fail
  go_ret
  exact ⟨rfl, hb⟩
end Go.Proofs.Ytnloenkjfjlmeaa
