/-
  Contract of a helper of the laws for rows of records that are answers (heldRrS). Contracts of helpers of the laws for rows of questions that are answers (heldQuestionS), and for no wants (markWantS, heldWantS).
-/
import Derived.Test.YtnplmeifhebhhaaGreatReplyToG04
import Derived.Test.YtnplmeifhebhhaaGreatReplyToG42
import Derived.Test.YtnplmeifhebhhaaGreatReplyToG43
import Derived.Test.YtnplmeifhebhhaaGreatReplyToG41
namespace Go.Proofs.YtnplmeifhebhhaaGreat
open Go.RowKit
set_option linter.unusedVariables false

theorem wrap_intH (x : Int) (h0 : 0 ≤ x) (h1 : x < 9223372036854775808) : IntKind.i64.wrap x = x := by
 have := wrap_small x.toNat (by omega)
 rwa [Int.toNat_of_nonneg h0] at this
set_option maxHeartbeats 4000000 in
set_option maxRecDepth 100000 in
theorem heldRrS_has {rs : List Rec} (hs : ∀ i, i < rs.length → SizeR 1048576 (rs.getD i recZ)) (hl : rs.length ≤ 1048576) (k0 : Int) (hk0 : 0 ≤ k0) (hk1 : k0 ≤ 4620000000000000000) {v : Value} {w : World}
  (h : HasRs w v (markRs rs k0 rs.length)) :
  Calls Tryz.prog 54 #[v, .int .i64 k0] w fun e w' => e = .returned (.int .i64 (posRs rs k0 rs.length)) ∧ w = w' := by
 obtain ⟨a, cap, rfl, _⟩ := h.form
 rw [markRs_length] at *
 have HP := hide (fun i (hi : i ≤ rs.length) => (show k0 ≤ posRs rs k0 i ∧ posRs rs k0 i ≤ 6930000000000000000 from by
  have q := posRs_bound hs k0 i hi
  have : i * 2199025352707 ≤ 1048576 * 2199025352707 := Nat.mul_le_mul_right _ (by omega)
  omega))
 have HS := hide hs
 have HPS := hide (fun i => (show posRs rs k0 (i + 1) = posQ (rs.getD i recZ) (posRs rs k0 i) from rfl))
 have HMG := hide (fun j (hj : j < rs.length) => (show (markRs rs k0 rs.length).getD j recZ = markQ (rs.getD j recZ) (posRs rs k0 j) by rw [markRs_getD rs k0 rs.length j hj, if_pos hj]))
 have HML := hide (markRs_length rs k0 rs.length)
 have H0 := hide h
 have HZ := hide (show posRs rs k0 0 = k0 from rfl)
 clear h hs
 generalize markRs rs k0 rs.length = M at *
 generalize posRs rs k0 = P at *
 generalize hn : rs.length = m at *
 have HN := hide hn
 clear hn
 go_enter Tryz.func54, Tryz.ntmps54
 go_wp2
 go_loopw [1, 5] (fun kk i wr => ∃ k : Nat, k ≤ m ∧ i = .int .i64 k ∧ kk = .int .i64 (P k) ∧ wr = w) (fun _ i _ => m - (intOf i).toNat)
 case atStart => exact ⟨0, Nat.zero_le _, rfl, by rw [unhide HZ], rfl⟩
 case round =>
  obtain ⟨k, hk, rfl, rfl, rfl⟩ := hrel
  by_cases hlt : k < m
  ·have hmk := unhide HMG k hlt
   obtain ⟨b, off, na, nc, ta, tc, xa, xc, ia, ic, rfl, hbl, hc, hR⟩ := (unhide H0).here (k := k) (by rw [unhide HML]; exact hlt)
   have hps := unhide HPS k
   have hpk := unhide HP k (by omega)
   have hsk := unhide HS k hlt
   rw [hmk] at hc hR
   generalize rs.getD k recZ = r at *
   have hpb := posQ_bound hsk (P k)
   have q1 : (markQ r (P k)).name.length = r.name.length := markL_length _ _
   have q2 : (markQ r (P k)).to.length = r.to.length := markL_length _ _
   have q3 : (markQ r (P k)).text.length = r.text.length := marks_length _ _
   have q4 : (markQ r (P k)).nums.length = r.nums.length := marks_lengthI _ _
   rw [q1, q2, q3, q4] at hc hR
   have c0 := (range7 hc).1
   have c1 : wr.cell? ⟨b, off + k * 7 + 1, none⟩ = some (.int .i64 (posN r (P k))) := (range7 hc).2.1
   have c2 : wr.cell? ⟨b, off + k * 7 + 2, none⟩ = some (.int .i64 (posN r (P k) + 1)) := (range7 hc).2.2.1
   have c3 : wr.cell? ⟨b, off + k * 7 + 3, none⟩ = some (.int .i64 (posN r (P k) + 2)) := (range7 hc).2.2.2.1
   have c4 := (range7 hc).2.2.2.2.1
   have c5 := (range7 hc).2.2.2.2.2.1
   have c6 := (range7 hc).2.2.2.2.2.2
   have R1 : HasL wr (.slice na r.name.length nc) (markL r.name (P k)) := hR.name
   have R2 : HasL wr (.slice ta r.to.length tc) (markL r.to (posN r (P k) + 3)) := hR.to
   have R3 : Has wr (.slice xa r.text.length xc) (marks (posT r (P k)) r.text.length) := hR.text
   have R4 : HasI wr (.slice ia r.nums.length ic) (marksI (posT r (P k) + r.text.length) r.nums.length) := hR.nums
   have M1 := hide (heldByteSS_has (P k) R1 hsk.name hsk.names (by omega) (by omega))
   have M2 := hide (heldByteSS_has (posN r (P k) + 3) R2 hsk.to hsk.tos (by omega) (by omega))
   have hXl := hsk.text
   have hIl := hsk.nums
   have M3 := hide (heldByteS_marks xa xc r.text.length (posT r (P k)) wr (has_lies R3 (by rw [marks_length])) (by omega) (by omega) (by omega))
   have M4 := hide (heldIntS_marks ia ic r.nums.length (posT r (P k) + r.text.length) wr (hasI_lies R4 (by rw [marks_lengthI])) (by omega) (by omega) (by omega))
   have eP1 : pos r.name (P k) r.name.length = posN r (P k) := rfl
   have eP2 : pos r.to (posN r (P k) + 3) r.to.length = posT r (P k) := rfl
   rw [eP1] at M1
   rw [eP2] at M2
   have hpq : posQ r (P k) = posT r (P k) + r.text.length + r.nums.length := rfl
   rw [hpq] at hps hpb
   have HPSK := hide hps
   clear hps hpq eP1 eP2 R1 R2 R3 R4 hR hc q1 q2 q3 q4 hmk hsk
   generalize posT r (P k) = P2 at *
   generalize posN r (P k) = P1 at *
   have hw1 := wrap_intH (P1 + 1) (by omega) (by omega)
   have hw2 : IntKind.i64.wrap (P1 + 1 + 1) = P1 + 2 := by rw [show P1 + 1 + 1 = P1 + 2 by omega]; exact wrap_intH _ (by omega) (by omega)
   have hw3 : IntKind.i64.wrap (P1 + 2 + 1) = P1 + 3 := by rw [show P1 + 2 + 1 = P1 + 3 by omega]; exact wrap_intH _ (by omega) (by omega)
   have n1 : ¬ P1 < 0 := by omega
   have n2 : ¬ P2 < 0 := by omega
   have n3 : ¬ P2 + (r.text.length : Int) < 0 := by omega
   have n4 : ¬ P2 + (r.text.length : Int) + (r.nums.length : Int) < 0 := by omega
   go_wp2_with fail
   refine (unhide M1).mono ?_
   rintro e w1 ⟨rfl, rfl⟩
   go_wp2_with fail
   refine (unhide M2).mono ?_
   rintro e w2 ⟨rfl, rfl⟩
   go_wp2_with fail
   refine (unhide M3).mono ?_
   rintro e w3 ⟨rfl, rfl⟩
   go_wp2_with fail
   refine (unhide M4).mono ?_
   rintro e w4 ⟨rfl, rfl⟩
   have hps := unhide HPSK
   go_wp2_with fail
   exact ⟨⟨k + 1, by omega, by go_num, by rw [hps], by first | rfl | trivial⟩, by simp [intOf]; omega⟩
  ·obtain rfl : k = m := by omega
   go_wp2
   go_ret
   exact ⟨rfl, rfl⟩
end Go.Proofs.YtnplmeifhebhhaaGreat

namespace Go.Proofs.YtnplmeifhebhhaaGreat
open Go.RowKit
set_option linter.unusedVariables false

set_option maxHeartbeats 1000000 in
set_option maxRecDepth 100000 in
theorem heldQuestionS_has {l : List Que} (hs : ∀ i, i < l.length → SizeQu 1048576 (l.getD i queZ)) (hl : l.length ≤ 1048576) (k0 : Int) (hk0 : 0 ≤ k0) (hk1 : k0 ≤ 4620000000000000000) {v : Value} {w : World}
  (h : HasQs w v (markQs l k0 l.length)) :
  Calls Tryz.prog 53 #[v, .int .i64 k0] w fun e w' => e = .returned (.int .i64 (posQs l k0 l.length)) ∧ w = w' := by
 obtain ⟨a, cap, rfl, _⟩ := h.form
 rw [markQs_length] at *
 have HP := hide (fun i (hi : i ≤ l.length) => (show k0 ≤ posQs l k0 i ∧ posQs l k0 i ≤ 6930000000000000000 from by
  have q := posQs_bound hs k0 i hi
  have : i * 2199025352707 ≤ 1048576 * 2199025352707 := Nat.mul_le_mul_right _ (by omega)
  omega))
 have HS := hide hs
 have HPS := hide (fun i => (show posQs l k0 (i + 1) = posQu (l.getD i queZ) (posQs l k0 i) from rfl))
 have HMG := hide (fun j (hj : j < l.length) => (show (markQs l k0 l.length).getD j queZ = markQu (l.getD j queZ) (posQs l k0 j) by rw [markQs_getD l k0 l.length j hj, if_pos hj]))
 have HML := hide (markQs_length l k0 l.length)
 have H0 := hide h
 have HZ := hide (show posQs l k0 0 = k0 from rfl)
 clear h hs
 generalize markQs l k0 l.length = M at *
 generalize posQs l k0 = P at *
 generalize hn : l.length = m at *
 have HN := hide hn
 clear hn
 go_enter Tryz.func53, Tryz.ntmps53
 go_wp2
 go_loopw [1, 5] (fun kk i wr => ∃ k : Nat, k ≤ m ∧ i = .int .i64 k ∧ kk = .int .i64 (P k) ∧ wr = w) (fun _ i _ => m - (intOf i).toNat)
 case atStart => exact ⟨0, Nat.zero_le _, rfl, by rw [unhide HZ], rfl⟩
 case round =>
  obtain ⟨k, hk, rfl, rfl, rfl⟩ := hrel
  by_cases hlt : k < m
  ·have hmk := unhide HMG k hlt
   obtain ⟨b, off, vs, rfl, hbl, hc, vn, rfl, hR⟩ := (unhide H0).here (k := k) (by rw [unhide HML]; exact hlt)
   have hps := unhide HPS k
   have hpk := unhide HP k (by omega)
   have hsk := unhide HS k hlt
   rw [hmk] at hc hR
   generalize l.getD k queZ = r at *
   have hpb := pos_bound' r.name (P k) hsk.name hsk.names
   have hmq : markQu r (P k) = ⟨markL r.name (P k), pos r.name (P k) r.name.length⟩ := rfl
   have hpq : posQu r (P k) = pos r.name (P k) r.name.length + 1 := rfl
   rw [hpq] at hps
   rw [hmq] at hc hR
   obtain ⟨na, nc, rfl, _⟩ := hR.form
   have c0 := (range2 hc).1
   have c1 : wr.cell? ⟨b, off + k * 2 + 1, none⟩ = some (.int .i64 (pos r.name (P k) r.name.length)) := (range2 hc).2
   have q1 : (markL r.name (P k)).length = r.name.length := markL_length _ _
   simp only [q1] at c0 hR
   have hw1 : IntKind.i64.wrap (pos r.name (P k) r.name.length + 1) = pos r.name (P k) r.name.length + 1 := wrap_intM _ (by omega) (by omega)
   have M1 := hide (heldByteSS_has (P k) hR hsk.name hsk.names (by omega) (by omega))
   have hneg : ¬ pos r.name (P k) r.name.length < 0 := by omega
   have HPS2 := hide hps
   clear hps hpq hmq hmk hc hR q1
   generalize pos r.name (P k) r.name.length = P1 at *
   have heq : (P1 != P1) = false := by simp
   go_wp2_with fail
   refine (unhide M1).mono ?_
   rintro e w1 ⟨rfl, rfl⟩
   go_wp2_with fail
   have hps := unhide HPS2
   exact ⟨⟨k + 1, by omega, by go_num, by rw [hps], by trivial⟩, by simp [intOf]; omega⟩
  ·obtain rfl : k = m := by omega
   go_wp2
   go_ret
   exact ⟨rfl, rfl⟩

set_option maxHeartbeats 1000000 in
set_option maxRecDepth 100000 in
theorem markWantS_nil (k0 : Int) {a : Option Addr} {cap : Nat} {w : World} :
  Calls Tryz.prog 48 #[.slice a 0 cap, .int .i64 k0] w fun e w' => e = .returned (.int .i64 k0) ∧ w = w' := by
 go_enter Tryz.func48, Tryz.ntmps48
 go_wp2
 go_loopw [1, 5] (fun kk i wr => i = .int .i64 0 ∧ kk = .int .i64 k0 ∧ wr = w) (fun _ _ _ => 0)
 case atStart => exact ⟨rfl, rfl, rfl⟩
 case round =>
  obtain ⟨rfl, rfl, rfl⟩ := hrel
  go_wp2
  go_ret
  exact ⟨rfl, rfl⟩

set_option maxHeartbeats 1000000 in
set_option maxRecDepth 100000 in
theorem heldWantS_nil (k0 : Int) {a : Option Addr} {cap : Nat} {w : World} :
  Calls Tryz.prog 55 #[.slice a 0 cap, .int .i64 k0] w fun e w' => e = .returned (.int .i64 k0) ∧ w = w' := by
 go_enter Tryz.func55, Tryz.ntmps55
 go_wp2
 go_loopw [1, 5] (fun kk i wr => i = .int .i64 0 ∧ kk = .int .i64 k0 ∧ wr = w) (fun _ _ _ => 0)
 case atStart => exact ⟨rfl, rfl, rfl⟩
 case round =>
  obtain ⟨rfl, rfl, rfl⟩ := hrel
  go_wp2
  go_ret
  exact ⟨rfl, rfl⟩
end Go.Proofs.YtnplmeifhebhhaaGreat
