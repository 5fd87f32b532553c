/-
  Contracts of the helpers of the laws for records (markRr). Contracts of the name helpers of the laws (heldByteSS, heldName).
-/
import Derived.Test.YtnloenkjfjlmeaaDataGetG07
import Derived.Test.YtnloenkjfjlmeaaDataGetG32
namespace Go.Proofs.Ytnloenkjfjlmeaa
open Go.RowKit
set_option linter.unusedVariables false

theorem pos_bound (n : List (List Int)) (k : Int) (hl : n.length ≤ 1048576) (hl2 : ∀ i, i < n.length → (n.getD i []).length ≤ 1048576) : k ≤ pos n k n.length ∧ pos n k n.length ≤ k + 1099511627776 := by
  have h1 := pos_le n k 1048576 hl2 n.length (Nat.le_refl _)
  have h2 : n.length * 1048576 ≤ 1048576 * 1048576 := Nat.mul_le_mul_right _ hl
  omega

set_option maxHeartbeats 1000000 in
set_option maxRecDepth 100000 in
theorem markRr_any {r : Rec} (hs : SizeR 1048576 r) (k0 : Int) (hk0 : 0 ≤ k0) (hk1 : k0 ≤ 4294967296) :
    ∃ P : Int, k0 ≤ P ∧ P ≤ k0 + 4398046511104 ∧ ∀ (B E : Nat) (vn vt vx vi : Value) (w : World), E ≤ w.heap.size → OwnR B E 22 5 3 w vn vt vx vi r →
      Calls Try.prog 43 #[.agg #[vn, .int .i64 r.type, .int .i64 r.ttl, .int .i64 r.addr, vt, vx, vi], .int .i64 k0] w fun e w' => e = .returned (.int .i64 P) ∧ Outside B E w w' := by
  have p1 := pos_bound r.name k0 hs.name hs.names
  have p2 := pos_bound r.to (pos r.name k0 r.name.length) hs.to hs.tos
  refine ⟨pos r.to (pos r.name k0 r.name.length) r.to.length + r.text.length + r.nums.length, ?_, ?_, ?_⟩
  · have := hs.text; have := hs.nums; omega
  · have := hs.text; have := hs.nums; omega
  intro B E vn vt vx vi w hEw h
  obtain ⟨na, nc, rfl, _⟩ := h.hasR.name.form
  obtain ⟨ta, tc, rfl, _⟩ := h.hasR.to.form
  obtain ⟨xa, xc, rfl, _⟩ := h.hasR.text.form
  obtain ⟨ia, ic, rfl, _⟩ := h.hasR.nums.form
  have b0 := below_alloc (w := w) (.cells #[.slice na r.name.length nc, .int .i64 r.type, .int .i64 r.ttl, .int .i64 r.addr, .slice ta r.to.length tc, .slice xa r.text.length xc, .slice ia r.nums.length ic] 50)
  have k0' := heap_alloc_new w (.cells #[.slice na r.name.length nc, .int .i64 r.type, .int .i64 r.ttl, .int .i64 r.addr, .slice ta r.to.length tc, .slice xa r.text.length xc, .slice ia r.nums.length ic] 50)
  obtain ⟨s1, s2, s3, a1, a2, a3, a4, h1, h2, h3, h4⟩ := h.below b0
  have HT := hs.text
  have HN := hs.nums
  have M1 := hide (fun (w : World) (v : Value) (hh : OwnN B s1 22 5 w v r.name) => markName_any k0 hh hs.name hs.names hk0 (by omega))
  have M2 := hide (fun (w : World) (v : Value) (hh : OwnN s1 s2 22 5 w v r.to) => markName_any (pos r.name k0 r.name.length) hh hs.to hs.tos (by omega) (by omega))
  generalize pos r.to (pos r.name k0 r.name.length) r.to.length = P2 at *
  generalize pos r.name k0 r.name.length = P1 at *
  have K0 := hide k0'
  have H1 := hide h1
  have H2 := hide h2
  have H3 := hide h3
  have H4 := hide h4
  clear h k0' h1 h2 h3 h4 hs
  go_enter Try.func43, Try.ntmps43
  go_wp2_with fail
  have u0 : Outside B E w (w.alloc (.cells #[.slice na r.name.length nc, .int .i64 r.type, .int .i64 r.ttl, .int .i64 r.addr, .slice ta r.to.length tc, .slice xa r.text.length xc, .slice ia r.nums.length ic] 50)) := Below.outside b0
  generalize w.alloc (.cells #[.slice na r.name.length nc, .int .i64 r.type, .int .i64 r.ttl, .int .i64 r.addr, .slice ta r.to.length tc, .slice xa r.text.length xc, .slice ia r.nums.length ic] 50) = W at *
  refine (unhide M1 _ _ (unhide H1)).mono ?_
  rintro e w1 ⟨rfl, _, u1⟩
  have U1 := u0.trans (u1.wide (B' := B) (E' := E) (by omega) (by omega))
  have K1 := hide (u1.kept (unhide K0) (by omega))
  have T1 := hide ((unhide H2).outside u1 (by omega))
  have X1 := hide ((unhide H3).outside u1 (by omega))
  have Y1 := hide ((unhide H4).outside u1 (by omega))
  obtain ⟨d0, d1, d2, d3, d4, d5, d6⟩ := cells7 (unhide K1)
  clear u0 u1 K0 H1 H2 H3 H4
  go_wp2_with fail
  clear d0 d1 d2 d3 d4 d5 d6
  refine (unhide M2 _ _ (unhide T1)).mono ?_
  rintro e w2 ⟨rfl, _, u2⟩
  have U2 := U1.trans (u2.wide (B' := B) (E' := E) (by omega) (by omega))
  have K2 := hide (u2.kept (unhide K1) (by omega))
  have X2 := hide ((unhide X1).outside u2 (by omega))
  have Y2 := hide ((unhide Y1).outside u2 (by omega))
  obtain ⟨d0, d1, d2, d3, d4, d5, d6⟩ := cells7 (unhide K2)
  clear U1 u2 K1 T1 X1 Y1
  go_wp2_with fail
  clear d0 d1 d2 d3 d4 d5 d6
  refine (markByteS_any P2 (unhide X2).1 (by omega) (by omega) (by omega)).mono ?_
  rintro e w3 ⟨rfl, o3, g3⟩
  obtain ⟨_, u3⟩ := (unhide X2).marks o3 g3
  have U3 := U2.trans (u3.wide (B' := B) (E' := E) (by omega) (by omega))
  have K3 := hide (u3.kept (unhide K2) (by omega))
  have Y3 := hide ((unhide Y2).outside u3 (by omega))
  obtain ⟨d0, d1, d2, d3, d4, d5, d6⟩ := cells7 (unhide K3)
  clear U2 u3 K2 X2 Y2 o3 g3
  go_wp2_with fail
  clear d0 d1 d2 d3 d4 d5 d6
  refine (markIntS_any (P2 + r.text.length) (unhide Y3).1 (by omega) (by omega) (by omega)).mono ?_
  rintro e w4 ⟨rfl, o4, g4⟩
  obtain ⟨_, u4⟩ := (unhide Y3).marks o4 g4
  have U4 := U3.trans (u4.wide (B' := B) (E' := E) (by omega) (by omega))
  go_wp2_with fail
  go_ret
  exact ⟨rfl, U4⟩
end Go.Proofs.Ytnloenkjfjlmeaa

namespace Go.Proofs.Ytnloenkjfjlmeaa
open Go.RowKit
set_option linter.unusedVariables false

set_option maxHeartbeats 800000 in
set_option maxRecDepth 100000 in
theorem heldByteSS_has {v : Value} {n : List (List Int)} (k0 : Int) {w : World} (h : HasL w v (markL n k0)) (hl : n.length ≤ 1048576) (hl2 : ∀ i, i < n.length → (n.getD i []).length ≤ 1048576) (hk0 : 0 ≤ k0) (hk1 : k0 ≤ 1152921504606846976) :
    Calls Try.prog 84 #[v, .int .i64 k0] w fun e w' => e = .returned (.int .i64 (pos n k0 n.length)) ∧ w = w' := by
  have hML := markL_length n k0
  obtain ⟨a, cap, rfl, hcl, hcm⟩ := h.form
  unfold maxLen at hcm
  rw [hML] at hcl h ⊢
  have hP := hide (fun j (hj : j ≤ n.length) => (show k0 ≤ pos n k0 j ∧ pos n k0 j ≤ 2305843009213693952 from by
    have := pos_le n k0 1048576 hl2 j hj
    have : j * 1048576 ≤ 1048576 * 1048576 := Nat.mul_le_mul_right _ (by omega)
    omega))
  have hPS := hide (pos_succ n k0)
  have hP0 := hide (pos_zero n k0)
  have hMG := hide (markL_getD n k0)
  have HML := hide hML
  have HL2 := hide hl2
  clear hl2 hML
  generalize pos n k0 = P at *
  generalize markL n k0 = M at *
  generalize hn : n.length = m at *
  have HN := hide hn
  clear hn
  go_enter Try.func84, Try.ntmps84
  go_wp2
  go_loop [1, 5] (fun kk i => ∃ k : Nat, k ≤ m ∧ i = .int .i64 k ∧ kk = .int .i64 (P k)) (fun _ i => m - (intOf i).toNat)
  case atStart => exact ⟨0, Nat.zero_le _, rfl, by rw [unhide hP0]⟩
  case round =>
    obtain ⟨k, hk, rfl, rfl⟩ := hrel
    by_cases hlt : k < m
    · obtain ⟨b, off, u, rfl, hbl, hc, hu⟩ := h.here (k := k) (by rw [unhide HML]; exact hlt)
      have hlk := unhide HL2 k hlt
      have hpk := unhide hP k (by omega)
      have hpk1 := unhide hP (k + 1) (by omega)
      have hps := unhide hPS k hlt
      rw [unhide hMG k hlt] at hu
      generalize (n.getD k []).length = lk at *
      obtain ⟨ua, uc, rfl, hLu⟩ := hu.form
      rw [marks_length] at hc
      have HLU := hide hLu
      clear hu hLu
      go_wp2_with fail
      refine (heldByteS_marks ua uc lk (P k) _ (unhide HLU) (by omega) (by omega) (by omega)).mono ?_
      rintro e w1 ⟨rfl, rfl⟩
      have hneg : ¬ P k + (lk : Int) < 0 := by omega
      go_wp2
      exact ⟨⟨k + 1, by omega, by go_num, by rw [hps]⟩, by simp [intOf]; omega⟩
    · obtain rfl : k = m := by omega
      go_wp2
      go_ret
      exact ⟨rfl, rfl⟩

set_option maxHeartbeats 400000 in
set_option maxRecDepth 100000 in
theorem heldName_has {v : Value} {n : List (List Int)} (k0 : Int) {w : World} (h : HasL w v (markL n k0)) (hl : n.length ≤ 1048576) (hl2 : ∀ i, i < n.length → (n.getD i []).length ≤ 1048576) (hk0 : 0 ≤ k0) (hk1 : k0 ≤ 1152921504606846976) :
    Calls Try.prog 39 #[.agg #[v], .int .i64 k0] w fun e w' => e = .returned (.int .i64 (pos n k0 n.length)) ∧ Below w.heap.size w w' := by
  have hb := below_alloc (w := w) (.cells #[v] 25)
  have hc := hide (heldByteSS_has k0 (h.below hb) hl hl2 hk0 hk1)
  have hp := (pos_le n k0 1048576 hl2 n.length (Nat.le_refl _)).1
  obtain ⟨a, cap, rfl, _⟩ := h.form
  have HL2 := hide hl2
  clear h hl2
  generalize pos n k0 n.length = P at *
  have hneg : ¬ P < 0 := by omega
  go_enter Try.func39, Try.ntmps39
  go_wp2_with fail
  refine (unhide hc).mono ?_
  rintro e w1 ⟨rfl, rfl⟩
  go_wp2_with fail
  go_ret
  exact ⟨rfl, hb⟩
end Go.Proofs.Ytnloenkjfjlmeaa
