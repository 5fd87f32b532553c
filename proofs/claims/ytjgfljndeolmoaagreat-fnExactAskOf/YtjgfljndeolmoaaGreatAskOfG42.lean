/-
  Contract of a helper of the laws for rows of questions that are answers (markQuestionS). Contracts of helpers of the laws for rows of questions that are answers (heldQuestionS), and for no wants (markWantS, heldWantS).
-/
import Derived.Test.YtjgfljndeolmoaaGreatAskOfG41
import Derived.Test.YtjgfljndeolmoaaGreatAskOfG39
namespace Go.Proofs.YtjgfljndeolmoaaGreat
open Go.RowKit
set_option linter.unusedVariables false

set_option maxHeartbeats 4000000 in
set_option maxRecDepth 100000 in
theorem markQuestionS_own {l : List Que} (hs : ∀ i, i < l.length → SizeQu 1048576 (l.getD i queZ)) (hl : l.length ≤ 1048576) (k0 : Int) (hk0 : 0 ≤ k0) (hk1 : k0 ≤ 4620000000000000000) {B E : Nat} {v : Value} {w : World} (hEw : E ≤ w.heap.size)
  (h : RowX 2 (OwnQu 27 5) queZ B E 59 w v l) :
  Calls Tryz.prog 58 #[v, .int .i64 k0] w fun e w' => e = .returned (.int .i64 (posQs l k0 l.length)) ∧ RowX 2 (OwnQu 27 5) queZ B E 59 w' v (markQs l k0 l.length) ∧ Outside B E w w' := by
 obtain ⟨a, cap, rfl, _⟩ := h.form
 have HP := hide (fun i (hi : i ≤ l.length) => (show k0 ≤ posQs l k0 i ∧ posQs l k0 i ≤ 6930000000000000000 from by
  have q := posQs_bound hs k0 i hi
  have : i * 2199025352707 ≤ 1048576 * 2199025352707 := Nat.mul_le_mul_right _ (by omega)
  omega))
 have HS := hide hs
 have HPS := hide (fun i => (show posQs l k0 (i + 1) = posQu (l.getD i queZ) (posQs l k0 i) from rfl))
 have HMS := hide (fun i (hi : i < l.length) => markQs_succ l k0 i hi)
 have HMG := hide (fun m j (hj : j < l.length) => markQs_getD l k0 m j hj)
 have HML := hide (markQs_length l k0)
 have H0 := hide (show RowX 2 (OwnQu 27 5) queZ B E 59 w (.slice a l.length cap) (markQs l k0 0) by rw [markQs_zero]; exact h)
 have HZ := hide (show posQs l k0 0 = k0 from rfl)
 clear h hs
 generalize posQs l k0 = P at *
 generalize markQs l k0 = M at *
 generalize hn : l.length = m at *
 have HN := hide hn
 clear hn
 go_enter Tryz.func58, Tryz.ntmps58
 go_wp2
 go_loopw [1, 5] (fun kk i wr => ∃ k : Nat, k ≤ m ∧ i = .int .i64 k ∧ kk = .int .i64 (P k) ∧ Outside B E w wr ∧ RowX 2 (OwnQu 27 5) queZ B E 59 wr (.slice a m cap) (M k)) (fun _ i _ => m - (intOf i).toNat)
 case atStart => exact ⟨0, Nat.zero_le _, rfl, by rw [unhide HZ], Outside.refl _ _ _, unhide H0⟩
 case round =>
  clear H0
  obtain ⟨k, hk, rfl, rfl, hout, hrow⟩ := hrel
  by_cases hlt : k < m
  ·obtain ⟨xs, f, g, ho, hq, hx⟩ := hrow
   have hMl : (M k).length = m := unhide HML k
   rw [hMl] at ho hx
   have hmg : (M k).getD k queZ = l.getD k queZ := by rw [unhide HMG k k hlt, if_neg (Nat.lt_irrefl _)]
   have hms := unhide HMS k hlt
   have hps := unhide HPS k
   have hpk := unhide HP k (by omega)
   have hsk := unhide HS k hlt
   obtain ⟨hB1, hE1, hlow, hqk, vs, hcs, vn, rfl, hR⟩ := hx k hlt
   rw [hmg] at hcs hR
   generalize l.getD k queZ = r at *
   have hpb := pos_bound' r.name (P k) hsk.name hsk.names
   obtain ⟨q, cur, rfl, _, hBq, hg, hnc, hcm, hcz, htk⟩ := ownsRow_atX ho (by omega)
   have hqE := hq q rfl
   have hqs := hqk q rfl
   have hzw := hout.size
   obtain ⟨na, nc, rfl, _⟩ := hR.hasL.form
   have hcur : ∀ j u, ([.slice na r.name.length nc, .int .i64 r.type] : List Value)[j]? = some u → cur[k * 2 + j]? = some u := fun j u hj => by
    have := hcs j u hj
    have hj2 : j < 2 := (List.getElem?_eq_some_iff.1 hj).1
    rw [← htk, take_atX (by omega)] at this
    exact this
   have e0 : cur[k * 2]? = some (.slice na r.name.length nc) := hcur 0 _ rfl
   have e1 : cur[k * 2 + 1]? = some (.int .i64 r.type) := hcur 1 _ rfl
   have hbig : k * 2 + 1 < cur.size := by rw [hcz]; omega
   have M1 := hide (fun (w : World) (v : Value) (hh : OwnN (f k) (g k) 27 5 w v r.name) => markByteSS_any (P k) hh hsk.name hsk.names (by omega) (by omega))
   have hmq : markQu r (P k) = ⟨markL r.name (P k), pos r.name (P k) r.name.length⟩ := rfl
   have hpq : posQu r (P k) = pos r.name (P k) r.name.length + 1 := rfl
   rw [hpq] at hps
   rw [hmq] at hms
   have hw1 : IntKind.i64.wrap (pos r.name (P k) r.name.length + 1) = pos r.name (P k) r.name.length + 1 := wrap_intM _ (by omega) (by omega)
   have HMSK := hide hms
   have HPSK := hide hps
   clear hms hps hpq hmq hcur hcs
   generalize pos r.name (P k) r.name.length = P1 at *
   generalize markL r.name (P k) = MN at *
   have HX := hide hx
   have HG := hide hg
   have HQ := hide hq
   have HO := hide ho
   have c0 := (block_cell hg (k * 2)).trans e0
   have E0 := hide e0
   have E1 := hide e1
   have HN1 := hide hR
   have HTK := hide htk
   clear hx hg hR hq ho e0 e1 hmg htk hsk
   go_wp2_with fail
   refine (unhide M1 _ _ (unhide HN1)).mono ?_
   rintro e w1 ⟨rfl, n1, u1⟩
   have z1 := u1.size
   have G1 := u1.kept (unhide HG) (by omega)
   have N1 := hide n1
   have U1 := hide u1
   have d1 := (block_cell G1 (k * 2 + 1)).trans (unhide E1)
   have f1 := block_frozen G1 (k * 2 + 1)
   have KG1 := hide G1
   clear n1 u1 G1 HN1 HG c0
   obtain ⟨cur2, g2, z2c, y1, yo, u2⟩ := one_set (n := k * 2 + 1) (unhide KG1) (.int .i64 P1) (by omega)
   have N2 := hide ((unhide N1).outside u2 (by omega))
   have KG := hide g2
   have YO := hide yo
   have YA := hide y1
   have OUT : Hid (Outside B E w (w1.setCell ⟨q, k * 2 + 1, none⟩ (.int .i64 P1))) := (hout.trans ((unhide U1).wide (by omega) (by omega))).trans (u2.wide (by omega) (by omega))
   have U2 := hide u2
   clear u2 g2 yo y1
   have ROW : Hid (RowX 2 (OwnQu 27 5) queZ B E 59 (w1.setCell ⟨q, k * 2 + 1, none⟩ (.int .i64 P1)) (.slice (some ⟨q, 0, none⟩) m cap) (M (k + 1))) := by
    have hMl : (M k).length = m := unhide HML k
    rw [← unhide HMSK]
    have htk := unhide HTK
    have HX' := unhide HX
    refine RowX.mark (ownsQu 27 5) (m := k) (cs := xs) (cs' := cur2.toList.take (m * 2)) (vs' := [.slice na r.name.length nc, .int .i64 P1]) (f := f) (g := g) (w := wr) (by rw [hMl]; exact hlt) (unhide HQ) (by rw [hMl]; exact HX') ?_ ?_ ?_ ⟨_, rfl, unhide N2⟩ ?_
    ·rw [hMl]
     exact ⟨by rw [List.length_take, Array.length_toList, z2c, hcz]; omega, .inr ⟨q, cap, cur2, rfl, hBq, unhide KG, hnc, hcm, by rw [z2c, hcz], rfl⟩⟩
    ·intro i j hij hj2
     rw [← htk]
     by_cases hin : i * 2 + j < m * 2
     ·rw [take_atX hin, take_atX hin]
      exact unhide YO _ (by omega)
     ·rw [List.getElem?_eq_none (by rw [List.length_take]; omega), List.getElem?_eq_none (by rw [List.length_take]; omega)]
    ·intro j u hj
     have hj2 : j < 2 := (List.getElem?_eq_some_iff.1 hj).1
     rw [take_atX (by omega)]
     match j, hj2, hj with
     | 0, _, hj => cases hj; exact (unhide YO (k * 2 + 0) (by omega)).trans (unhide E0)
     | 1, _, hj => cases hj; exact unhide YA
    ·intro i hi hik us hR
     rw [hMl] at hi
     obtain ⟨i1, i2, i3, i4, _⟩ := HX' i hi
     have hqi := i4 q rfl
     have hdis : g i ≤ f k ∨ g k ≤ f i := by
      by_cases hlt' : i < k
      ·exact .inl (hlow i hlt')
      ·exact .inr (i3 k (by omega))
     exact (ownsQu 27 5).outside ((ownsQu 27 5).outside hR (unhide U1) (by omega)) (unhide U2) (by omega)
   have hps := unhide HPSK
   clear N1 N2 U1 U2 KG YO YA HX HTK E0 E1 M1 HO HQ KG1
   go_wp2_with fail
   exact ⟨⟨k + 1, by omega, by go_num, by rw [hps], unhide OUT, unhide ROW⟩, by simp [intOf]; omega⟩
  ·obtain rfl : k = m := by omega
   go_wp2
   go_ret
   exact ⟨rfl, hrow, hout⟩
end Go.Proofs.YtjgfljndeolmoaaGreat

namespace Go.Proofs.YtjgfljndeolmoaaGreat
open Go.RowKit
set_option linter.unusedVariables false

set_option maxHeartbeats 1000000 in
set_option maxRecDepth 100000 in
theorem heldQuestionS_has {l : List Que} (hs : ∀ i, i < l.length → SizeQu 1048576 (l.getD i queZ)) (hl : l.length ≤ 1048576) (k0 : Int) (hk0 : 0 ≤ k0) (hk1 : k0 ≤ 4620000000000000000) {v : Value} {w : World}
  (h : HasQs w v (markQs l k0 l.length)) :
  Calls Tryz.prog 60 #[v, .int .i64 k0] w fun e w' => e = .returned (.int .i64 (posQs l k0 l.length)) ∧ w = w' := by
 obtain ⟨a, cap, rfl, _⟩ := h.form
 rw [markQs_length] at *
 have HP := hide (fun i (hi : i ≤ l.length) => (show k0 ≤ posQs l k0 i ∧ posQs l k0 i ≤ 6930000000000000000 from by
  have q := posQs_bound hs k0 i hi
  have : i * 2199025352707 ≤ 1048576 * 2199025352707 := Nat.mul_le_mul_right _ (by omega)
  omega))
 have HS := hide hs
 have HPS := hide (fun i => (show posQs l k0 (i + 1) = posQu (l.getD i queZ) (posQs l k0 i) from rfl))
 have HMG := hide (fun j (hj : j < l.length) => (show (markQs l k0 l.length).getD j queZ = markQu (l.getD j queZ) (posQs l k0 j) by rw [markQs_getD l k0 l.length j hj, if_pos hj]))
 have HML := hide (markQs_length l k0 l.length)
 have H0 := hide h
 have HZ := hide (show posQs l k0 0 = k0 from rfl)
 clear h hs
 generalize markQs l k0 l.length = M at *
 generalize posQs l k0 = P at *
 generalize hn : l.length = m at *
 have HN := hide hn
 clear hn
 go_enter Tryz.func60, Tryz.ntmps60
 go_wp2
 go_loopw [1, 5] (fun kk i wr => ∃ k : Nat, k ≤ m ∧ i = .int .i64 k ∧ kk = .int .i64 (P k) ∧ wr = w) (fun _ i _ => m - (intOf i).toNat)
 case atStart => exact ⟨0, Nat.zero_le _, rfl, by rw [unhide HZ], rfl⟩
 case round =>
  obtain ⟨k, hk, rfl, rfl, rfl⟩ := hrel
  by_cases hlt : k < m
  ·have hmk := unhide HMG k hlt
   obtain ⟨b, off, vs, rfl, hbl, hc, vn, rfl, hR⟩ := (unhide H0).here (k := k) (by rw [unhide HML]; exact hlt)
   have hps := unhide HPS k
   have hpk := unhide HP k (by omega)
   have hsk := unhide HS k hlt
   rw [hmk] at hc hR
   generalize l.getD k queZ = r at *
   have hpb := pos_bound' r.name (P k) hsk.name hsk.names
   have hmq : markQu r (P k) = ⟨markL r.name (P k), pos r.name (P k) r.name.length⟩ := rfl
   have hpq : posQu r (P k) = pos r.name (P k) r.name.length + 1 := rfl
   rw [hpq] at hps
   rw [hmq] at hc hR
   obtain ⟨na, nc, rfl, _⟩ := hR.form
   have c0 := (range2 hc).1
   have c1 : wr.cell? ⟨b, off + k * 2 + 1, none⟩ = some (.int .i64 (pos r.name (P k) r.name.length)) := (range2 hc).2
   have q1 : (markL r.name (P k)).length = r.name.length := markL_length _ _
   simp only [q1] at c0 hR
   have hw1 : IntKind.i64.wrap (pos r.name (P k) r.name.length + 1) = pos r.name (P k) r.name.length + 1 := wrap_intM _ (by omega) (by omega)
   have M1 := hide (heldByteSS_has (P k) hR hsk.name hsk.names (by omega) (by omega))
   have hneg : ¬ pos r.name (P k) r.name.length < 0 := by omega
   have HPS2 := hide hps
   clear hps hpq hmq hmk hc hR q1
   generalize pos r.name (P k) r.name.length = P1 at *
   have heq : (P1 != P1) = false := by simp
   go_wp2_with fail
   refine (unhide M1).mono ?_
   rintro e w1 ⟨rfl, rfl⟩
   go_wp2_with fail
   have hps := unhide HPS2
   exact ⟨⟨k + 1, by omega, by go_num, by rw [hps], by trivial⟩, by simp [intOf]; omega⟩
  ·obtain rfl : k = m := by omega
   go_wp2
   go_ret
   exact ⟨rfl, rfl⟩

set_option maxHeartbeats 1000000 in
set_option maxRecDepth 100000 in
theorem markWantS_nil (k0 : Int) {a : Option Addr} {cap : Nat} {w : World} :
  Calls Tryz.prog 59 #[.slice a 0 cap, .int .i64 k0] w fun e w' => e = .returned (.int .i64 k0) ∧ w = w' := by
 go_enter Tryz.func59, Tryz.ntmps59
 go_wp2
 go_loopw [1, 5] (fun kk i wr => i = .int .i64 0 ∧ kk = .int .i64 k0 ∧ wr = w) (fun _ _ _ => 0)
 case atStart => exact ⟨rfl, rfl, rfl⟩
 case round =>
  obtain ⟨rfl, rfl, rfl⟩ := hrel
  go_wp2
  go_ret
  exact ⟨rfl, rfl⟩

set_option maxHeartbeats 1000000 in
set_option maxRecDepth 100000 in
theorem heldWantS_nil (k0 : Int) {a : Option Addr} {cap : Nat} {w : World} :
  Calls Tryz.prog 62 #[.slice a 0 cap, .int .i64 k0] w fun e w' => e = .returned (.int .i64 k0) ∧ w = w' := by
 go_enter Tryz.func62, Tryz.ntmps62
 go_wp2
 go_loopw [1, 5] (fun kk i wr => i = .int .i64 0 ∧ kk = .int .i64 k0 ∧ wr = w) (fun _ _ _ => 0)
 case atStart => exact ⟨rfl, rfl, rfl⟩
 case round =>
  obtain ⟨rfl, rfl, rfl⟩ := hrel
  go_wp2
  go_ret
  exact ⟨rfl, rfl⟩
end Go.Proofs.YtjgfljndeolmoaaGreat
