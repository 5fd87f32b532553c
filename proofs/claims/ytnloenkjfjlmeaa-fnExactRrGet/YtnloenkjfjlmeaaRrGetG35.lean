/-
  Contracts of the name helpers of the laws (heldByteSS, heldName). Contracts of the helpers of the laws for records that are answers (markRr once more, heldRr).
-/
import Derived.Test.YtnloenkjfjlmeaaRrGetG34
namespace Go.Proofs.Ytnloenkjfjlmeaa
open Go.RowKit
set_option linter.unusedVariables false

set_option maxHeartbeats 800000 in
set_option maxRecDepth 100000 in
theorem heldByteSS_has {v : Value} {n : List (List Int)} (k0 : Int) {w : World} (h : HasL w v (markL n k0)) (hl : n.length ≤ 1048576) (hl2 : ∀ i, i < n.length → (n.getD i []).length ≤ 1048576) (hk0 : 0 ≤ k0) (hk1 : k0 ≤ 1152921504606846976) :
    Calls Try.prog 84 #[v, .int .i64 k0] w fun e w' => e = .returned (.int .i64 (pos n k0 n.length)) ∧ w = w' := by
  have hML := markL_length n k0
  obtain ⟨a, cap, rfl, hcl, hcm⟩ := h.form
  unfold maxLen at hcm
  rw [hML] at hcl h ⊢
  have hP := hide (fun j (hj : j ≤ n.length) => (show k0 ≤ pos n k0 j ∧ pos n k0 j ≤ 2305843009213693952 from by
    have := pos_le n k0 1048576 hl2 j hj
    have : j * 1048576 ≤ 1048576 * 1048576 := Nat.mul_le_mul_right _ (by omega)
    omega))
  have hPS := hide (pos_succ n k0)
  have hP0 := hide (pos_zero n k0)
  have hMG := hide (markL_getD n k0)
  have HML := hide hML
  have HL2 := hide hl2
  clear hl2 hML
  generalize pos n k0 = P at *
  generalize markL n k0 = M at *
  generalize hn : n.length = m at *
  have HN := hide hn
  clear hn
  go_enter Try.func84, Try.ntmps84
  go_wp2
  go_loop [1, 5] (fun kk i => ∃ k : Nat, k ≤ m ∧ i = .int .i64 k ∧ kk = .int .i64 (P k)) (fun _ i => m - (intOf i).toNat)
  case atStart => exact ⟨0, Nat.zero_le _, rfl, by rw [unhide hP0]⟩
  case round =>
    obtain ⟨k, hk, rfl, rfl⟩ := hrel
    by_cases hlt : k < m
    · obtain ⟨b, off, u, rfl, hbl, hc, hu⟩ := h.here (k := k) (by rw [unhide HML]; exact hlt)
      have hlk := unhide HL2 k hlt
      have hpk := unhide hP k (by omega)
      have hpk1 := unhide hP (k + 1) (by omega)
      have hps := unhide hPS k hlt
      rw [unhide hMG k hlt] at hu
      generalize (n.getD k []).length = lk at *
      obtain ⟨ua, uc, rfl, hLu⟩ := hu.form
      rw [marks_length] at hc
      have HLU := hide hLu
      clear hu hLu
      go_wp2_with fail
      refine (heldByteS_marks ua uc lk (P k) _ (unhide HLU) (by omega) (by omega) (by omega)).mono ?_
      rintro e w1 ⟨rfl, rfl⟩
      have hneg : ¬ P k + (lk : Int) < 0 := by omega
      go_wp2
      exact ⟨⟨k + 1, by omega, by go_num, by rw [hps]⟩, by simp [intOf]; omega⟩
    · obtain rfl : k = m := by omega
      go_wp2
      go_ret
      exact ⟨rfl, rfl⟩

set_option maxHeartbeats 400000 in
set_option maxRecDepth 100000 in
theorem heldName_has {v : Value} {n : List (List Int)} (k0 : Int) {w : World} (h : HasL w v (markL n k0)) (hl : n.length ≤ 1048576) (hl2 : ∀ i, i < n.length → (n.getD i []).length ≤ 1048576) (hk0 : 0 ≤ k0) (hk1 : k0 ≤ 1152921504606846976) :
    Calls Try.prog 39 #[.agg #[v], .int .i64 k0] w fun e w' => e = .returned (.int .i64 (pos n k0 n.length)) ∧ Below w.heap.size w w' := by
  have hb := below_alloc (w := w) (.cells #[v] 25)
  have hc := hide (heldByteSS_has k0 (h.below hb) hl hl2 hk0 hk1)
  have hp := (pos_le n k0 1048576 hl2 n.length (Nat.le_refl _)).1
  obtain ⟨a, cap, rfl, _⟩ := h.form
  have HL2 := hide hl2
  clear h hl2
  generalize pos n k0 n.length = P at *
  have hneg : ¬ P < 0 := by omega
  go_enter Try.func39, Try.ntmps39
  go_wp2_with fail
  refine (unhide hc).mono ?_
  rintro e w1 ⟨rfl, rfl⟩
  go_wp2_with fail
  go_ret
  exact ⟨rfl, hb⟩
end Go.Proofs.Ytnloenkjfjlmeaa

namespace Go.Proofs.Ytnloenkjfjlmeaa
open Go.RowKit
set_option linter.unusedVariables false

def posR (r : Rec) (k : Int) : Int := pos r.to (pos r.name k r.name.length) r.to.length + r.text.length + r.nums.length
def markR (r : Rec) (k : Int) : Rec :=
  ⟨markL r.name k, r.type, r.ttl, r.addr, markL r.to (pos r.name k r.name.length), marks (pos r.to (pos r.name k r.name.length) r.to.length) r.text.length, marksI (pos r.to (pos r.name k r.name.length) r.to.length + r.text.length) r.nums.length⟩

theorem posR_bound {r : Rec} (hs : SizeR 1048576 r) (k : Int) : k ≤ posR r k ∧ posR r k ≤ k + 4398046511104 := by
  have p1 := pos_bound r.name k hs.name hs.names
  have p2 := pos_bound r.to (pos r.name k r.name.length) hs.to hs.tos
  have := hs.text
  have := hs.nums
  unfold posR
  omega
theorem has_lies {w : World} {a : Option Addr} {n cap : Nat} {l : List Int} (h : Has w (.slice a n cap) l) (hn : l.length = n) : Lies w a l := by
  obtain ⟨a', cap', e, hl⟩ := h.form
  injection e with e1 e2 e3
  subst e1
  exact hl
theorem hasI_lies {w : World} {a : Option Addr} {n cap : Nat} {l : List Int} (h : HasI w (.slice a n cap) l) (hn : l.length = n) : LiesI w a l := by
  obtain ⟨a', cap', e, hl⟩ := h.form
  injection e with e1 e2 e3
  subst e1
  exact hl

set_option maxHeartbeats 1000000 in
set_option maxRecDepth 100000 in
theorem markRr_own {r : Rec} (hs : SizeR 1048576 r) (k0 : Int) (hk0 : 0 ≤ k0) (hk1 : k0 ≤ 4294967296) (B E : Nat) (vn vt vx vi : Value) (w : World) (hEw : E ≤ w.heap.size) (h : OwnR B E 22 5 3 w vn vt vx vi r) :
      Calls Try.prog 43 #[.agg #[vn, .int .i64 r.type, .int .i64 r.ttl, .int .i64 r.addr, vt, vx, vi], .int .i64 k0] w fun e w' => e = .returned (.int .i64 (posR r k0)) ∧ OwnR B E 22 5 3 w' vn vt vx vi (markR r k0) ∧ Outside B E w w' := by
  have p1 := pos_bound r.name k0 hs.name hs.names
  have p2 := pos_bound r.to (pos r.name k0 r.name.length) hs.to hs.tos
  unfold posR markR
  obtain ⟨na, nc, rfl, _⟩ := h.hasR.name.form
  obtain ⟨ta, tc, rfl, _⟩ := h.hasR.to.form
  obtain ⟨xa, xc, rfl, _⟩ := h.hasR.text.form
  obtain ⟨ia, ic, rfl, _⟩ := h.hasR.nums.form
  have b0 := below_alloc (w := w) (.cells #[.slice na r.name.length nc, .int .i64 r.type, .int .i64 r.ttl, .int .i64 r.addr, .slice ta r.to.length tc, .slice xa r.text.length xc, .slice ia r.nums.length ic] 50)
  have k0' := heap_alloc_new w (.cells #[.slice na r.name.length nc, .int .i64 r.type, .int .i64 r.ttl, .int .i64 r.addr, .slice ta r.to.length tc, .slice xa r.text.length xc, .slice ia r.nums.length ic] 50)
  obtain ⟨s1, s2, s3, a1, a2, a3, a4, h1, h2, h3, h4⟩ := h.below b0
  have HT := hs.text
  have HN := hs.nums
  have M1 := hide (fun (w : World) (v : Value) (hh : OwnN B s1 22 5 w v r.name) => markName_any k0 hh hs.name hs.names hk0 (by omega))
  have M2 := hide (fun (w : World) (v : Value) (hh : OwnN s1 s2 22 5 w v r.to) => markName_any (pos r.name k0 r.name.length) hh hs.to hs.tos (by omega) (by omega))
  have e1 : ∀ w v, OwnN B s1 22 5 w v (markL r.name k0) → OwnN B s1 22 5 w v (markL r.name k0) := fun w v h => h
  generalize hMT : markL r.to (pos r.name k0 r.name.length) = MT at *
  generalize hMN : markL r.name k0 = MN at *
  generalize pos r.to (pos r.name k0 r.name.length) r.to.length = P2 at *
  generalize pos r.name k0 r.name.length = P1 at *
  clear hMT hMN e1
  have K0 := hide k0'
  have H1 := hide h1
  have H2 := hide h2
  have H3 := hide h3
  have H4 := hide h4
  clear h k0' h1 h2 h3 h4 hs
  go_enter Try.func43, Try.ntmps43
  go_wp2_with fail
  have u0 : Outside B E w (w.alloc (.cells #[.slice na r.name.length nc, .int .i64 r.type, .int .i64 r.ttl, .int .i64 r.addr, .slice ta r.to.length tc, .slice xa r.text.length xc, .slice ia r.nums.length ic] 50)) := Below.outside b0
  generalize w.alloc (.cells #[.slice na r.name.length nc, .int .i64 r.type, .int .i64 r.ttl, .int .i64 r.addr, .slice ta r.to.length tc, .slice xa r.text.length xc, .slice ia r.nums.length ic] 50) = W at *
  refine (unhide M1 _ _ (unhide H1)).mono ?_
  rintro e w1 ⟨rfl, n1, u1⟩
  have N1 := hide n1
  have U1 := u0.trans (u1.wide (B' := B) (E' := E) (by omega) (by omega))
  have K1 := hide (u1.kept (unhide K0) (by omega))
  have T1 := hide ((unhide H2).outside u1 (by omega))
  have X1 := hide ((unhide H3).outside u1 (by omega))
  have Y1 := hide ((unhide H4).outside u1 (by omega))
  obtain ⟨d0, d1, d2, d3, d4, d5, d6⟩ := cells7 (unhide K1)
  clear u0 u1 n1 K0 H1 H2 H3 H4
  go_wp2_with fail
  clear d0 d1 d2 d3 d4 d5 d6
  refine (unhide M2 _ _ (unhide T1)).mono ?_
  rintro e w2 ⟨rfl, t2, u2⟩
  have N2 := hide ((unhide N1).outside u2 (by omega))
  have TT2 := hide t2
  have U2 := U1.trans (u2.wide (B' := B) (E' := E) (by omega) (by omega))
  have K2 := hide (u2.kept (unhide K1) (by omega))
  have X2 := hide ((unhide X1).outside u2 (by omega))
  have Y2 := hide ((unhide Y1).outside u2 (by omega))
  obtain ⟨d0, d1, d2, d3, d4, d5, d6⟩ := cells7 (unhide K2)
  clear U1 u2 t2 N1 K1 T1 X1 Y1
  go_wp2_with fail
  clear d0 d1 d2 d3 d4 d5 d6
  refine (markByteS_any P2 (unhide X2).1 (by omega) (by omega) (by omega)).mono ?_
  rintro e w3 ⟨rfl, o3, g3⟩
  obtain ⟨x3, u3⟩ := (unhide X2).marks o3 g3
  have N3 := hide ((unhide N2).outside u3 (by omega))
  have TT3 := hide ((unhide TT2).outside u3 (by omega))
  have XX3 := hide x3
  have U3 := U2.trans (u3.wide (B' := B) (E' := E) (by omega) (by omega))
  have K3 := hide (u3.kept (unhide K2) (by omega))
  have Y3 := hide ((unhide Y2).outside u3 (by omega))
  obtain ⟨d0, d1, d2, d3, d4, d5, d6⟩ := cells7 (unhide K3)
  clear U2 u3 x3 N2 TT2 K2 X2 Y2 o3 g3
  go_wp2_with fail
  clear d0 d1 d2 d3 d4 d5 d6
  refine (markIntS_any (P2 + r.text.length) (unhide Y3).1 (by omega) (by omega) (by omega)).mono ?_
  rintro e w4 ⟨rfl, o4, g4⟩
  obtain ⟨y4, u4⟩ := (unhide Y3).marks o4 g4
  have N4 := hide ((unhide N3).outside u4 (by omega))
  have TT4 := hide ((unhide TT3).outside u4 (by omega))
  have XX4 := hide ((unhide XX3).outside u4 (by omega))
  have YY4 := hide y4
  clear y4
  have U4 := U3.trans (u4.wide (B' := B) (E' := E) (by omega) (by omega))
  go_wp2_with fail
  go_ret
  exact ⟨rfl, ⟨s1, s2, s3, a1, a2, a3, a4, unhide N4, unhide TT4, unhide XX4, unhide YY4⟩, U4⟩

set_option maxHeartbeats 1000000 in
set_option maxRecDepth 100000 in
theorem heldRr_has {r : Rec} (hs : SizeR 1048576 r) (k0 : Int) (hk0 : 0 ≤ k0) (hk1 : k0 ≤ 4294967296) {vn vt vx vi : Value} {w : World} (h : HasR w vn vt vx vi (markR r k0)) :
      Calls Try.prog 44 #[.agg #[vn, .int .i64 r.type, .int .i64 r.ttl, .int .i64 r.addr, vt, vx, vi], .int .i64 k0] w fun e w' => e = .returned (.int .i64 (posR r k0)) ∧ Below w.heap.size w w' := by
  have p1 := pos_bound r.name k0 hs.name hs.names
  have p2 := pos_bound r.to (pos r.name k0 r.name.length) hs.to hs.tos
  have q1 : (markR r k0).name.length = r.name.length := markL_length _ _
  have q2 : (markR r k0).to.length = r.to.length := markL_length _ _
  have q3 : (markR r k0).text.length = r.text.length := marks_length _ _
  have q4 : (markR r k0).nums.length = r.nums.length := marks_lengthI _ _
  obtain ⟨na, nc, rfl, _⟩ := h.name.form
  obtain ⟨ta, tc, rfl, _⟩ := h.to.form
  obtain ⟨xa, xc, rfl, _⟩ := h.text.form
  obtain ⟨ia, ic, rfl, _⟩ := h.nums.form
  rw [q1, q2, q3, q4] at *
  have b0 := below_alloc (w := w) (.cells #[.slice na r.name.length nc, .int .i64 r.type, .int .i64 r.ttl, .int .i64 r.addr, .slice ta r.to.length tc, .slice xa r.text.length xc, .slice ia r.nums.length ic] 50)
  have K0 := hide (heap_alloc_new w (.cells #[.slice na r.name.length nc, .int .i64 r.type, .int .i64 r.ttl, .int .i64 r.addr, .slice ta r.to.length tc, .slice xa r.text.length xc, .slice ia r.nums.length ic] 50))
  have H0 := h.below b0
  have H1 := hide H0.name
  have H2 := hide H0.to
  have H3 := hide H0.text
  have H4 := hide H0.nums
  have hT := hs.text
  have hN := hs.nums
  unfold markR at H1 H2 H3 H4
  unfold posR
  have M1 := hide (fun (w : World) (v : Value) (hh : HasL w v (markL r.name k0)) => heldName_has k0 hh hs.name hs.names hk0 (by omega))
  have M2 := hide (fun (w : World) (v : Value) (hh : HasL w v (markL r.to (pos r.name k0 r.name.length))) => heldName_has (pos r.name k0 r.name.length) hh hs.to hs.tos (by omega) (by omega))
  clear h H0 q1 q2 q3 q4 hs
  dsimp only at H1 H2 H3 H4
  generalize markL r.to (pos r.name k0 r.name.length) = MT at *
  generalize markL r.name k0 = MN at *
  generalize pos r.to (pos r.name k0 r.name.length) r.to.length = P2 at *
  generalize pos r.name k0 r.name.length = P1 at *
  have n1 : ¬ P1 < 0 := by omega
  have n2 : ¬ P2 < 0 := by omega
  have n3 : ¬ P2 + (r.text.length : Int) < 0 := by omega
  have n4 : ¬ P2 + (r.text.length : Int) + (r.nums.length : Int) < 0 := by omega
  go_enter Try.func44, Try.ntmps44
  go_wp2_with fail
  generalize w.alloc (.cells #[.slice na r.name.length nc, .int .i64 r.type, .int .i64 r.ttl, .int .i64 r.addr, .slice ta r.to.length tc, .slice xa r.text.length xc, .slice ia r.nums.length ic] 50) = W at *
  refine (unhide M1 _ _ (unhide H1)).mono ?_
  rintro e w1 ⟨rfl, b1⟩
  have bb1 := below_next b0 b1
  have K1 := hide (block_kept b1 (unhide K0))
  have T1 := hide ((unhide H2).below b1)
  have X1 := hide ((unhide H3).below b1)
  have Y1 := hide ((unhide H4).below b1)
  obtain ⟨d0, d1, d2, d3, d4, d5, d6⟩ := cells7 (unhide K1)
  clear b0 b1 K0 H1 H2 H3 H4
  go_wp2_with fail
  clear d0 d1 d2 d3 d4 d5 d6
  refine (unhide M2 _ _ (unhide T1)).mono ?_
  rintro e w2 ⟨rfl, b2⟩
  have bb2 := below_next bb1 b2
  have K2 := hide (block_kept b2 (unhide K1))
  have X2 := hide ((unhide X1).below b2)
  have Y2 := hide ((unhide Y1).below b2)
  obtain ⟨d0, d1, d2, d3, d4, d5, d6⟩ := cells7 (unhide K2)
  clear bb1 b2 K1 T1 X1 Y1
  go_wp2_with fail
  refine (heldByteS_marks xa xc r.text.length P2 w2 (by have := (unhide X2); exact has_lies this (by rw [marks_length])) (by omega) (by omega) (by omega)).mono ?_
  rintro e w3 ⟨rfl, rfl⟩
  go_wp2_with fail
  refine (heldIntS_marks ia ic r.nums.length (P2 + r.text.length) w2 (by have := (unhide Y2); exact hasI_lies this (by rw [marks_lengthI])) (by omega) (by omega) (by omega)).mono ?_
  rintro e w4 ⟨rfl, rfl⟩
  go_wp2_with fail
  go_ret
  exact ⟨rfl, bb2⟩
end Go.Proofs.Ytnloenkjfjlmeaa
