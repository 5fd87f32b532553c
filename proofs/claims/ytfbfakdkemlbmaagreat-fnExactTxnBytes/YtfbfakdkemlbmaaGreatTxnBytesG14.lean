/-
  Contract of a helper of the laws for rows of wants that came in (markWantS). Plain facts: what a slice has lies behind its head. No program is named here. Contracts of the helpers of the laws for rows of records that are answers (markRrS, heldRrS).
-/
import Derived.Test.YtfbfakdkemlbmaaGreatTxnBytesG13
import Derived.Test.YtfbfakdkemlbmaaGreatTxnBytesG02
import Derived.Test.YtfbfakdkemlbmaaGreatTxnBytesG04
namespace Go.Proofs.YtfbfakdkemlbmaaGreat
open Go.RowKit
set_option linter.unusedVariables false

set_option maxHeartbeats 4000000 in
set_option maxRecDepth 100000 in
theorem markWantS_any {l : List Wnt} (hs : ∀ i, i < l.length → SizeR 1048576 (l.getD i wntZ).rr) (hl : l.length ≤ 1048576) (k0 : Int) (hk0 : 0 ≤ k0) (hk1 : k0 ≤ 4620000000000000000) {B E : Nat} {v : Value} {w : World} (hEw : E ≤ w.heap.size)
  (h : RowX 9 (OwnWn 27 5 3) wntZ B E 107 w v l) :
  Calls Tryz.prog 43 #[v, .int .i64 k0] w fun e w' => (∃ P : Int, e = .returned (.int .i64 P) ∧ k0 ≤ P ∧ P ≤ k0 + l.length * 2199025352709) ∧ Outside B E w w' := by
 obtain ⟨a, cap, rfl, _⟩ := h.form
 have HS := hide hs
 have H0 := hide h
 clear h hs
 generalize hn : l.length = m at *
 have HN := hide hn
 clear hn
 go_enter Tryz.func43, Tryz.ntmps43
 go_wp2
 go_loopw [1, 5] (fun kk i wr => ∃ (k : Nat) (P : Int) (l' : List Wnt), k ≤ m ∧ i = .int .i64 k ∧ kk = .int .i64 P ∧ k0 ≤ P ∧ P ≤ k0 + k * 2199025352709 ∧ Outside B E w wr ∧ l'.length = m ∧ Hid (∀ j, k ≤ j → j < m → l'.getD j wntZ = l.getD j wntZ) ∧ RowX 9 (OwnWn 27 5 3) wntZ B E 107 wr (.slice a m cap) l') (fun _ i _ => m - (intOf i).toNat)
 case atStart => exact ⟨0, k0, l, Nat.zero_le _, rfl, rfl, by omega, by omega, Outside.refl _ _ _, unhide HN, hide (fun _ _ _ => rfl), unhide H0⟩
 case round =>
  clear H0
  obtain ⟨k, P, l', hk, rfl, rfl, hP0, hP1, hout, hl', hsame, hrow⟩ := hrel
  by_cases hlt : k < m
  ·have hPm : k * 2199025352709 ≤ 1048576 * 2199025352709 := Nat.mul_le_mul_right _ (by omega)
   obtain ⟨xs, f, g, ho, hq, hx⟩ := hrow
   rw [hl'] at ho hx
   have hmg := unhide hsame k (Nat.le_refl _) hlt
   have hsk := unhide HS k hlt
   obtain ⟨hB1, hE1, hlow, hqk, vs, hcs, vn, vt, vx, vi, rfl, hR⟩ := hx k hlt
   rw [hmg] at hcs hR
   generalize l.getD k wntZ = x at *
   generalize x.rr = r at *
   have hpb := posQ_bound hsk P
   have hNn := hsk.name
   have hNs := hsk.names
   have hTn := hsk.to
   have hTs := hsk.tos
   have hXl := hsk.text
   have hIl := hsk.nums
   obtain ⟨q, cur, rfl, _, hBq, hg, hnc, hcm, hcz, htk⟩ := ownsRow_atX ho (by omega)
   have hqE := hq q rfl
   have hqs := hqk q rfl
   have hzw := hout.size
   obtain ⟨na, nc, rfl, _⟩ := hR.hasR.name.form
   obtain ⟨ta, tc, rfl, _⟩ := hR.hasR.to.form
   obtain ⟨xa, xc, rfl, _⟩ := hR.hasR.text.form
   obtain ⟨ia, ic, rfl, _⟩ := hR.hasR.nums.form
   obtain ⟨s1, s2, s3, a1, a2, a3, a4, h1, h2, h3, h4⟩ := hR
   have hcur : ∀ j u, ([.slice na r.name.length nc, .int .i64 r.type, .int .i64 r.ttl, .int .i64 r.addr, .slice ta r.to.length tc, .slice xa r.text.length xc, .slice ia r.nums.length ic, .int .i64 x.cls, .bool x.bare] : List Value)[j]? = some u → cur[k * 9 + j]? = some u := fun j u hj => by
    have := hcs j u hj
    have hj9 : j < 9 := (List.getElem?_eq_some_iff.1 hj).1
    rw [← htk, take_atX (by omega)] at this
    exact this
   have e0 : cur[k * 9]? = some (.slice na r.name.length nc) := hcur 0 _ rfl
   have e1 : cur[k * 9 + 1]? = some (.int .i64 r.type) := hcur 1 _ rfl
   have e2 : cur[k * 9 + 2]? = some (.int .i64 r.ttl) := hcur 2 _ rfl
   have e3 : cur[k * 9 + 3]? = some (.int .i64 r.addr) := hcur 3 _ rfl
   have e4 : cur[k * 9 + 4]? = some (.slice ta r.to.length tc) := hcur 4 _ rfl
   have e5 : cur[k * 9 + 5]? = some (.slice xa r.text.length xc) := hcur 5 _ rfl
   have e6 : cur[k * 9 + 6]? = some (.slice ia r.nums.length ic) := hcur 6 _ rfl
   have e7 : cur[k * 9 + 7]? = some (.int .i64 x.cls) := hcur 7 _ rfl
   have e8 : cur[k * 9 + 8]? = some (.bool x.bare) := hcur 8 _ rfl
   have hbig : k * 9 + 8 < cur.size := by rw [hcz]; omega
   have M1 := hide (fun (w : World) (v : Value) (hh : OwnN (f k) s1 27 5 w v r.name) => markByteSS_any P hh hNn hNs (by omega) (by omega))
   have M2 := hide (fun (w : World) (v : Value) (hh : OwnN s1 s2 27 5 w v r.to) => markByteSS_any (posN r P + 3) hh hTn hTs (by omega) (by omega))
   have hwrap : ∀ j : Int, 0 ≤ j → j ≤ 3 → IntKind.i64.wrap (posN r P + j) = posN r P + j := fun j _ _ => wrap_intM _ (by omega) (by omega)
   have hpq : posQ r P = posT r P + r.text.length + r.nums.length := rfl
   have hv1 : IntKind.i64.wrap (posT r P + r.text.length + r.nums.length + 1) = posT r P + r.text.length + r.nums.length + 1 := wrap_intM _ (by omega) (by omega)
   have hv2 : IntKind.i64.wrap (posT r P + r.text.length + r.nums.length + 1 + 1) = posT r P + r.text.length + r.nums.length + 2 := by rw [wrap_intM _ (by omega) (by omega)]; omega
   have eP1 : pos r.name P r.name.length = posN r P := rfl
   have eP2 : pos r.to (posN r P + 3) r.to.length = posT r P := rfl
   rw [eP1] at M1
   rw [eP2] at M2
   rw [hpq] at hpb
   clear eP1 eP2 hpq hcur hcs hmg
   generalize markL r.to (posN r P + 3) = MT at *
   generalize markL r.name P = MN at *
   generalize posT r P = P2 at *
   generalize posN r P = P1 at *
   have HX := hide hx
   have HH2 := hide h2
   have HH3 := hide h3
   have HH4 := hide h4
   have HG := hide hg
   have HQ := hide hq
   have c0 := (block_cell hg (k * 9)).trans e0
   have hw1 := hwrap 1 (by omega) (by omega)
   have hw2 := hwrap 2 (by omega) (by omega)
   have hw3 := hwrap 3 (by omega) (by omega)
   have E0 := hide e0
   have E1 := hide e1
   have E2 := hide e2
   have E3 := hide e3
   have E4 := hide e4
   have E5 := hide e5
   have E6 := hide e6
   have E7 := hide e7
   have E8 := hide e8
   have HN1 := hide h1
   have HTK := hide htk
   clear hx hg h1 h2 h3 h4 hq ho e0 e1 e2 e3 e4 e5 e6 e7 e8 hwrap htk hsk
   have hw2b : IntKind.i64.wrap (P1 + 1 + 1) = P1 + 2 := by rw [show P1 + 1 + 1 = P1 + 2 by omega]; exact hw2
   have hw3b : IntKind.i64.wrap (P1 + 2 + 1) = P1 + 3 := by rw [show P1 + 2 + 1 = P1 + 3 by omega]; exact hw3
   go_wp2_with fail
   refine (unhide M1 _ _ (unhide HN1)).mono ?_
   rintro e w1 ⟨rfl, n1, u1⟩
   have z1 := u1.size
   have G1 := u1.kept (unhide HG) (by omega)
   have T1 := hide ((unhide HH2).outside u1 (by omega))
   have X1 := hide ((unhide HH3).outside u1 (by omega))
   have Y1 := hide ((unhide HH4).outside u1 (by omega))
   have N1 := hide n1
   have U1 := hide u1
   have d1 := (block_cell G1 (k * 9 + 1)).trans (unhide E1)
   have d2 := (block_cell G1 (k * 9 + 2)).trans (unhide E2)
   have d3 := (block_cell G1 (k * 9 + 3)).trans (unhide E3)
   have d4 := (block_cell G1 (k * 9 + 4)).trans (unhide E4)
   have f1 := block_frozen G1 (k * 9 + 1)
   have f2 := block_frozen G1 (k * 9 + 2)
   have f3 := block_frozen G1 (k * 9 + 3)
   have KG1 := hide G1
   clear n1 u1 G1 HH2 HH3 HH4 HN1 HG c0
   go_wp2_with fail
   clear d1 d2 d3 d4 f1 f2 f3 hw1 hw2 hw3 hw2b hw3b
   obtain ⟨cur2, g2, z2c, y1, y2, y3, yo, u2⟩ := three_sets (n := k * 9) (unhide KG1) (.int .i64 P1) (.int .i64 (P1 + 1)) (.int .i64 (P1 + 2)) (by omega)
   generalize ((w1.setCell ⟨q, k * 9 + 1, none⟩ (.int .i64 P1)).setCell ⟨q, k * 9 + 2, none⟩ (.int .i64 (P1 + 1))).setCell ⟨q, k * 9 + 3, none⟩ (.int .i64 (P1 + 2)) = w2 at *
   replace N1 := hide ((unhide N1).outside u2 (by omega))
   replace T1 := hide ((unhide T1).outside u2 (by omega))
   replace X1 := hide ((unhide X1).outside u2 (by omega))
   replace Y1 := hide ((unhide Y1).outside u2 (by omega))
   have z2 := u2.size
   have U2 := hide u2
   have KG := hide g2
   have YO := hide yo
   have YA := hide y1
   have YB := hide y2
   have YC := hide y3
   clear u2 g2 yo y1 y2 y3 KG1
   refine (unhide M2 _ _ (unhide T1)).mono ?_
   rintro e w3 ⟨rfl, n3, u3⟩
   replace KG := hide (u3.kept (unhide KG) (by omega))
   replace N1 := hide ((unhide N1).outside u3 (by omega))
   replace X1 := hide ((unhide X1).outside u3 (by omega))
   replace Y1 := hide ((unhide Y1).outside u3 (by omega))
   have N3 := hide n3
   have U3 := hide u3
   have z3 := u3.size
   have d5 := (block_cell (unhide KG) (k * 9 + 5)).trans ((unhide YO (k * 9 + 5) (by omega) (by omega) (by omega)).trans (unhide E5))
   clear n3 u3 T1
   go_wp2_with fail
   clear d5
   refine (markByteS_any P2 (unhide X1).1 (by omega) (by omega) (by omega)).mono ?_
   rintro e w4 ⟨rfl, o4, g4⟩
   obtain ⟨x4, u4⟩ := (unhide X1).marks o4 g4
   replace KG := hide (u4.kept (unhide KG) (by omega))
   replace N1 := hide ((unhide N1).outside u4 (by omega))
   replace N3 := hide ((unhide N3).outside u4 (by omega))
   replace Y1 := hide ((unhide Y1).outside u4 (by omega))
   have X4 := hide x4
   have U4 := hide u4
   have z4 := u4.size
   have d6 := (block_cell (unhide KG) (k * 9 + 6)).trans ((unhide YO (k * 9 + 6) (by omega) (by omega) (by omega)).trans (unhide E6))
   clear o4 g4 x4 u4 X1
   go_wp2_with fail
   clear d6
   refine (markIntS_any (P2 + r.text.length) (unhide Y1).1 (by omega) (by omega) (by omega)).mono ?_
   rintro e w5 ⟨rfl, o5, g5⟩
   obtain ⟨x5, u5⟩ := (unhide Y1).marks o5 g5
   replace KG := hide (u5.kept (unhide KG) (by omega))
   replace N1 := hide ((unhide N1).outside u5 (by omega))
   replace N3 := hide ((unhide N3).outside u5 (by omega))
   replace X4 := hide ((unhide X4).outside u5 (by omega))
   have Y5 := hide x5
   have U5 := hide u5
   have z5 := u5.size
   clear o5 g5 x5 u5 Y1
   generalize P2 + (r.text.length : Int) + r.nums.length = P6 at *
   have d7 := (block_cell (unhide KG) (k * 9 + 7)).trans ((unhide YO (k * 9 + 7) (by omega) (by omega) (by omega)).trans (unhide E7))
   have d8 := (block_cell (unhide KG) (k * 9 + 8)).trans ((unhide YO (k * 9 + 8) (by omega) (by omega) (by omega)).trans (unhide E8))
   have f7 := block_frozen (unhide KG) (k * 9 + 7)
   have f8 := block_frozen (unhide KG) (k * 9 + 8)
   have ALL : Hid (∀ X : Bool, Outside B E w ((w5.setCell ⟨q, k * 9 + 7, none⟩ (.int .i64 P6)).setCell ⟨q, k * 9 + 8, none⟩ (.bool X)) ∧ ∃ x', RowX 9 (OwnWn 27 5 3) wntZ B E 107 ((w5.setCell ⟨q, k * 9 + 7, none⟩ (.int .i64 P6)).setCell ⟨q, k * 9 + 8, none⟩ (.bool X)) (.slice (some ⟨q, 0, none⟩) m cap) (l'.set k x')) := by
    intro X
    obtain ⟨cur3, g3, z3c, t7, to7, v7⟩ := one_set (n := k * 9 + 7) (unhide KG) (.int .i64 P6) (by omega)
    obtain ⟨cur4, g4, z4c, t8, to8, v8⟩ := one_set (n := k * 9 + 8) g3 (.bool X) (by omega)
    have v9 := v7.trans v8
    have OUT : Outside B E w ((w5.setCell ⟨q, k * 9 + 7, none⟩ (.int .i64 P6)).setCell ⟨q, k * 9 + 8, none⟩ (.bool X)) := (((((hout.trans ((unhide U1).wide (by omega) (by omega))).trans ((unhide U2).wide (by omega) (by omega))).trans ((unhide U3).wide (by omega) (by omega))).trans ((unhide U4).wide (by omega) (by omega))).trans ((unhide U5).wide (by omega) (by omega))).trans (v9.wide (by omega) (by omega))
    refine ⟨OUT, ⟨⟨MN, P1, P1 + 1, P1 + 2, MT, marks P2 r.text.length, marksI (P2 + r.text.length) r.nums.length⟩, P6, X⟩, ?_⟩
    have htk := unhide HTK
    have HX' := unhide HX
    refine RowX.mark (ownsWn 27 5 3) (m := k) (cs := xs) (cs' := cur4.toList.take (m * 9)) (vs' := [.slice na r.name.length nc, .int .i64 P1, .int .i64 (P1 + 1), .int .i64 (P1 + 2), .slice ta r.to.length tc, .slice xa r.text.length xc, .slice ia r.nums.length ic, .int .i64 P6, .bool X]) (f := f) (g := g) (w := wr) (by rw [hl']; exact hlt) (unhide HQ) (by rw [hl']; exact HX') ?_ ?_ ?_ ⟨_, _, _, _, rfl, s1, s2, s3, a1, a2, a3, a4, (unhide N1).outside v9 (by omega), (unhide N3).outside v9 (by omega), (unhide X4).outside v9 (by omega), (unhide Y5).outside v9 (by omega)⟩ ?_
    ·rw [hl']
     exact ⟨by rw [List.length_take, Array.length_toList, z4c, z3c, z2c, hcz]; omega, .inr ⟨q, cap, cur4, rfl, hBq, g4, hnc, hcm, by rw [z4c, z3c, z2c, hcz], rfl⟩⟩
    ·intro i j hij hj9
     rw [← htk]
     by_cases hin : i * 9 + j < m * 9
     ·rw [take_atX hin, take_atX hin, to8 _ (by omega), to7 _ (by omega)]
      exact unhide YO _ (by omega) (by omega) (by omega)
     ·rw [List.getElem?_eq_none (by rw [List.length_take]; omega), List.getElem?_eq_none (by rw [List.length_take]; omega)]
    ·intro j u hj
     have hj9 : j < 9 := (List.getElem?_eq_some_iff.1 hj).1
     rw [take_atX (by omega)]
     match j, hj9, hj with
     | 0, _, hj => cases hj; exact ((to8 _ (by omega)).trans (to7 _ (by omega))).trans ((unhide YO (k * 9 + 0) (by omega) (by omega) (by omega)).trans (unhide E0))
     | 1, _, hj => cases hj; exact ((to8 _ (by omega)).trans (to7 _ (by omega))).trans (unhide YA)
     | 2, _, hj => cases hj; exact ((to8 _ (by omega)).trans (to7 _ (by omega))).trans (unhide YB)
     | 3, _, hj => cases hj; exact ((to8 _ (by omega)).trans (to7 _ (by omega))).trans (unhide YC)
     | 4, _, hj => cases hj; exact ((to8 _ (by omega)).trans (to7 _ (by omega))).trans ((unhide YO (k * 9 + 4) (by omega) (by omega) (by omega)).trans (unhide E4))
     | 5, _, hj => cases hj; exact ((to8 _ (by omega)).trans (to7 _ (by omega))).trans ((unhide YO (k * 9 + 5) (by omega) (by omega) (by omega)).trans (unhide E5))
     | 6, _, hj => cases hj; exact ((to8 _ (by omega)).trans (to7 _ (by omega))).trans ((unhide YO (k * 9 + 6) (by omega) (by omega) (by omega)).trans (unhide E6))
     | 7, _, hj => cases hj; exact (to8 _ (by omega)).trans t7
     | 8, _, hj => cases hj; exact t8
    ·intro i hi hik us hR
     rw [hl'] at hi
     obtain ⟨i1, i2, i3, i4, _⟩ := HX' i hi
     have hqi := i4 q rfl
     have hdis : g i ≤ f k ∨ g k ≤ f i := by
      by_cases hlt' : i < k
      ·exact .inl (hlow i hlt')
      ·exact .inr (i3 k (by omega))
     have Ow := ownsWn 27 5 3
     exact Ow.outside (Ow.outside (Ow.outside (Ow.outside (Ow.outside (Ow.outside hR (unhide U1) (by omega)) (unhide U2) (by omega)) (unhide U3) (by omega)) (unhide U4) (by omega)) (unhide U5) (by omega)) v9 (by omega)
   have HSM : Hid (∀ x' j, k + 1 ≤ j → j < m → (l'.set k x').getD j wntZ = l.getD j wntZ) := fun x' j h1 h2 => by
    rw [← unhide hsame j (by omega) h2, List.getD_eq_getElem?_getD, List.getElem?_set_ne (by omega), ← List.getD_eq_getElem?_getD]
   clear N1 N3 X4 Y5 U1 U2 U3 U4 U5 KG YO YA YB YC HX HTK E0 E1 E2 E3 E4 E5 E6 E7 E8 M1 M2 HQ hsame hout
   go_wp2_with fail
   refine ⟨⟨k + 1, P6 + 2, l'.set k (unhide ALL _).2.choose, by omega, by go_num, rfl, by omega, by omega, (unhide ALL _).1, by rw [List.length_set]; exact hl', hide (unhide HSM _), (unhide ALL _).2.choose_spec⟩, by simp [intOf]; omega⟩
  ·obtain rfl : k = m := by omega
   go_wp2
   go_ret
   exact ⟨⟨P, rfl, hP0, hP1⟩, hout⟩
end Go.Proofs.YtfbfakdkemlbmaaGreat

namespace Go.Proofs.YtfbfakdkemlbmaaGreat
open Go.RowKit
set_option linter.unusedVariables false

end Go.Proofs.YtfbfakdkemlbmaaGreat

namespace Go.Proofs.YtfbfakdkemlbmaaGreat
open Go.RowKit
set_option linter.unusedVariables false

theorem wrap_int (x : Int) (h0 : 0 ≤ x) (h1 : x < 9223372036854775808) : IntKind.i64.wrap x = x := by
 have := wrap_small x.toNat (by omega)
 rwa [Int.toNat_of_nonneg h0] at this
theorem ownsRow_at {B m cap n : Nat} {e : TypeId} {w : World} {a : Option Addr} {xs : List Value} (h : w.ownsRow B e 7 (.slice a m cap) n xs) (hn : 0 < n) : ∃ q cur, a = some ⟨q, 0, none⟩ ∧ m = n ∧ B ≤ q ∧ w.heap[q]? = some (.cells cur e) ∧ n ≤ cap ∧ cap ≤ maxLen ∧ cur.size = cap * 7 ∧ cur.toList.take (n * 7) = xs := by
 rcases h.2 with ⟨_, h0⟩ | ⟨q, cap', cur, hv, hB, hg, h1, h2, h3, h4⟩
 ·omega
 ·simp only [Value.slice.injEq] at hv
  obtain ⟨rfl, rfl, rfl⟩ := hv
  exact ⟨q, cur, rfl, rfl, hB, hg, h1, h2, h3, h4⟩
theorem take_at {cur : Array Value} {n j : Nat} (hj : j < n) : (cur.toList.take n)[j]? = cur[j]? := by
 rw [List.getElem?_take, if_pos hj, Array.getElem?_toList]

set_option maxHeartbeats 4000000 in
set_option maxRecDepth 100000 in
theorem markRrS_own {rs : List Rec} (hs : ∀ i, i < rs.length → SizeR 1048576 (rs.getD i recZ)) (hl : rs.length ≤ 1048576) (k0 : Int) (hk0 : 0 ≤ k0) (hk1 : k0 ≤ 4620000000000000000) {B E : Nat} {v : Value} {w : World} (hEw : E ≤ w.heap.size)
  (h : RowO B E 105 27 5 3 w v rs) :
  Calls Tryz.prog 42 #[v, .int .i64 k0] w fun e w' => e = .returned (.int .i64 (posRs rs k0 rs.length)) ∧ RowO B E 105 27 5 3 w' v (markRs rs k0 rs.length) ∧ Outside B E w w' := by
 obtain ⟨a, cap, rfl, _⟩ := h.form
 have HP := hide (fun i (hi : i ≤ rs.length) => (show k0 ≤ posRs rs k0 i ∧ posRs rs k0 i ≤ 6930000000000000000 from by
  have q := posRs_bound hs k0 i hi
  have : i * 2199025352707 ≤ 1048576 * 2199025352707 := Nat.mul_le_mul_right _ (by omega)
  omega))
 have HS := hide hs
 have HPS := hide (fun i => (show posRs rs k0 (i + 1) = posQ (rs.getD i recZ) (posRs rs k0 i) from rfl))
 have HMS := hide (fun i (hi : i < rs.length) => markRs_succ rs k0 i hi)
 have HMG := hide (fun m j (hj : j < rs.length) => markRs_getD rs k0 m j hj)
 have HML := hide (markRs_length rs k0)
 have H0 := hide (show RowO B E 105 27 5 3 w (.slice a rs.length cap) (markRs rs k0 0) by rw [markRs_zero]; exact h)
 have HZ := hide (show posRs rs k0 0 = k0 from rfl)
 clear h hs
 generalize posRs rs k0 = P at *
 generalize markRs rs k0 = M at *
 generalize hn : rs.length = m at *
 have HN := hide hn
 clear hn
 go_enter Tryz.func42, Tryz.ntmps42
 go_wp2
 go_loopw [1, 5] (fun kk i wr => ∃ k : Nat, k ≤ m ∧ i = .int .i64 k ∧ kk = .int .i64 (P k) ∧ Outside B E w wr ∧ RowO B E 105 27 5 3 wr (.slice a m cap) (M k)) (fun _ i _ => m - (intOf i).toNat)
 case atStart => exact ⟨0, Nat.zero_le _, rfl, by rw [unhide HZ], Outside.refl _ _ _, unhide H0⟩
 case round =>
  clear H0
  obtain ⟨k, hk, rfl, rfl, hout, hrow⟩ := hrel
  by_cases hlt : k < m
  ·obtain ⟨xs, f, g, ho, hq, hx⟩ := hrow
   have hMl : (M k).length = m := unhide HML k
   rw [hMl] at ho hx
   have hmg : (M k).getD k recZ = rs.getD k recZ := by rw [unhide HMG k k hlt, if_neg (Nat.lt_irrefl _)]
   have hms := unhide HMS k hlt
   have hps := unhide HPS k
   have hpk := unhide HP k (by omega)
   have hsk := unhide HS k hlt
   obtain ⟨hB1, hE1, hlow, hqk, vn, vt, vx, vi, hcs, hR⟩ := hx k hlt
   rw [hmg] at hcs hR
   generalize rs.getD k recZ = r at *
   have hpb := posQ_bound hsk (P k)
   have hNn := hsk.name
   have hNs := hsk.names
   have hTn := hsk.to
   have hTs := hsk.tos
   have hXl := hsk.text
   have hIl := hsk.nums
   obtain ⟨q, cur, rfl, _, hBq, hg, hnc, hcm, hcz, htk⟩ := ownsRow_at ho (by omega)
   have hqE := hq q rfl
   have hqs := hqk q rfl
   have hzw := hout.size
   obtain ⟨na, nc, rfl, _⟩ := hR.hasR.name.form
   obtain ⟨ta, tc, rfl, _⟩ := hR.hasR.to.form
   obtain ⟨xa, xc, rfl, _⟩ := hR.hasR.text.form
   obtain ⟨ia, ic, rfl, _⟩ := hR.hasR.nums.form
   obtain ⟨s1, s2, s3, a1, a2, a3, a4, h1, h2, h3, h4⟩ := hR
   have hcur : ∀ j u, (cellsR (.slice na r.name.length nc) (.slice ta r.to.length tc) (.slice xa r.text.length xc) (.slice ia r.nums.length ic) r)[j]? = some u → cur[k * 7 + j]? = some u := fun j u hj => by
    have := hcs j u hj
    rw [← htk, take_at (by have := cells_lt hj; omega)] at this
    exact this
   have e0 : cur[k * 7]? = some (.slice na r.name.length nc) := hcur 0 _ rfl
   have e1 : cur[k * 7 + 1]? = some (.int .i64 r.type) := hcur 1 _ rfl
   have e2 : cur[k * 7 + 2]? = some (.int .i64 r.ttl) := hcur 2 _ rfl
   have e3 : cur[k * 7 + 3]? = some (.int .i64 r.addr) := hcur 3 _ rfl
   have e4 : cur[k * 7 + 4]? = some (.slice ta r.to.length tc) := hcur 4 _ rfl
   have e5 : cur[k * 7 + 5]? = some (.slice xa r.text.length xc) := hcur 5 _ rfl
   have e6 : cur[k * 7 + 6]? = some (.slice ia r.nums.length ic) := hcur 6 _ rfl
   have hbig : k * 7 + 6 < cur.size := by rw [hcz]; omega
   have M1 := hide (fun (w : World) (v : Value) (hh : OwnN (f k) s1 27 5 w v r.name) => markByteSS_any (P k) hh hNn hNs (by omega) (by omega))
   have M2 := hide (fun (w : World) (v : Value) (hh : OwnN s1 s2 27 5 w v r.to) => markByteSS_any (posN r (P k) + 3) hh hTn hTs (by omega) (by omega))
   have hwrap : ∀ j : Int, 0 ≤ j → j ≤ 3 → IntKind.i64.wrap (posN r (P k) + j) = posN r (P k) + j := fun j _ _ => wrap_int _ (by omega) (by omega)
   have eP1 : pos r.name (P k) r.name.length = posN r (P k) := rfl
   have eP2 : pos r.to (posN r (P k) + 3) r.to.length = posT r (P k) := rfl
   rw [eP1] at M1
   rw [eP2] at M2
   have HR9 := hide (show ∀ (w : World) (vn vt vx vi : Value), OwnR (f k) (g k) 27 5 3 w vn vt vx vi ⟨markL r.name (P k), posN r (P k), posN r (P k) + 1, posN r (P k) + 2, markL r.to (posN r (P k) + 3), marks (posT r (P k)) r.text.length, marksI (posT r (P k) + r.text.length) r.nums.length⟩ → OwnR (f k) (g k) 27 5 3 w vn vt vx vi (markQ r (P k)) from fun _ _ _ _ _ q => q)
   have HCQ := hide (show ∀ (vn vt vx vi : Value), cellsR vn vt vx vi (markQ r (P k)) = [vn, .int .i64 (posN r (P k)), .int .i64 (posN r (P k) + 1), .int .i64 (posN r (P k) + 2), vt, vx, vi] from fun _ _ _ _ => rfl)
   have hpq : posQ r (P k) = posT r (P k) + r.text.length + r.nums.length := rfl
   rw [hpq] at hps hpb
   have HMSK := hide hms
   have HPSK := hide hps
   clear hms hps hpq eP1 eP2 hcur hcs
   generalize markQ r (P k) = RQ at *
   generalize markL r.to (posN r (P k) + 3) = MT at *
   generalize markL r.name (P k) = MN at *
   generalize posT r (P k) = P2 at *
   generalize posN r (P k) = P1 at *
   have HX := hide hx
   have HH2 := hide h2
   have HH3 := hide h3
   have HH4 := hide h4
   have HG := hide hg
   have HQ := hide hq
   have HO := hide ho
   have c0 := (block_cell hg (k * 7)).trans e0
   have hw1 := hwrap 1 (by omega) (by omega)
   have hw2 := hwrap 2 (by omega) (by omega)
   have hw3 := hwrap 3 (by omega) (by omega)
   have E4 := hide e4
   have E5 := hide e5
   have E6 := hide e6
   have E0 := hide e0
   have E1 := hide e1
   have E2 := hide e2
   have E3 := hide e3
   have HN1 := hide h1
   have HTK := hide htk
   clear hx hg h1 h2 h3 h4 hq ho e0 e1 e2 e3 e4 e5 e6 hwrap hmg htk hsk
   have hw2b : IntKind.i64.wrap (P1 + 1 + 1) = P1 + 2 := by rw [show P1 + 1 + 1 = P1 + 2 by omega]; exact hw2
   have hw3b : IntKind.i64.wrap (P1 + 2 + 1) = P1 + 3 := by rw [show P1 + 2 + 1 = P1 + 3 by omega]; exact hw3
   go_wp2_with fail
   refine (unhide M1 _ _ (unhide HN1)).mono ?_
   rintro e w1 ⟨rfl, n1, u1⟩
   have z1 := u1.size
   have G1 := u1.kept (unhide HG) (by omega)
   have T1 := hide ((unhide HH2).outside u1 (by omega))
   have X1 := hide ((unhide HH3).outside u1 (by omega))
   have Y1 := hide ((unhide HH4).outside u1 (by omega))
   have N1 := hide n1
   have U1 := hide u1
   have d1 := (block_cell G1 (k * 7 + 1)).trans (unhide E1)
   have d2 := (block_cell G1 (k * 7 + 2)).trans (unhide E2)
   have d3 := (block_cell G1 (k * 7 + 3)).trans (unhide E3)
   have d4 := (block_cell G1 (k * 7 + 4)).trans (unhide E4)
   have f1 := block_frozen G1 (k * 7 + 1)
   have f2 := block_frozen G1 (k * 7 + 2)
   have f3 := block_frozen G1 (k * 7 + 3)
   have KG1 := hide G1
   clear n1 u1 G1 HH2 HH3 HH4 HN1 HG c0
   go_wp2_with fail
   clear d1 d2 d3 d4 f1 f2 f3 hw1 hw2 hw3 hw2b hw3b
   obtain ⟨cur2, g2, z2c, y1, y2, y3, yo, u2⟩ := three_sets (n := k * 7) (unhide KG1) (.int .i64 P1) (.int .i64 (P1 + 1)) (.int .i64 (P1 + 2)) (by omega)
   generalize ((w1.setCell ⟨q, k * 7 + 1, none⟩ (.int .i64 P1)).setCell ⟨q, k * 7 + 2, none⟩ (.int .i64 (P1 + 1))).setCell ⟨q, k * 7 + 3, none⟩ (.int .i64 (P1 + 2)) = w2 at *
   replace N1 := hide ((unhide N1).outside u2 (by omega))
   replace T1 := hide ((unhide T1).outside u2 (by omega))
   replace X1 := hide ((unhide X1).outside u2 (by omega))
   replace Y1 := hide ((unhide Y1).outside u2 (by omega))
   have z2 := u2.size
   have U2 := hide u2
   have KG := hide g2
   have YO := hide yo
   have YA := hide y1
   have YB := hide y2
   have YC := hide y3
   clear u2 g2 yo y1 y2 y3 KG1
   refine (unhide M2 _ _ (unhide T1)).mono ?_
   rintro e w3 ⟨rfl, n3, u3⟩
   replace KG := hide (u3.kept (unhide KG) (by omega))
   replace N1 := hide ((unhide N1).outside u3 (by omega))
   replace X1 := hide ((unhide X1).outside u3 (by omega))
   replace Y1 := hide ((unhide Y1).outside u3 (by omega))
   have N3 := hide n3
   have U3 := hide u3
   have z3 := u3.size
   have d5 := (block_cell (unhide KG) (k * 7 + 5)).trans ((unhide YO (k * 7 + 5) (by omega) (by omega) (by omega)).trans (unhide E5))
   clear n3 u3 T1
   go_wp2_with fail
   clear d5
   refine (markByteS_any P2 (unhide X1).1 (by omega) (by omega) (by omega)).mono ?_
   rintro e w4 ⟨rfl, o4, g4⟩
   obtain ⟨x4, u4⟩ := (unhide X1).marks o4 g4
   replace KG := hide (u4.kept (unhide KG) (by omega))
   replace N1 := hide ((unhide N1).outside u4 (by omega))
   replace N3 := hide ((unhide N3).outside u4 (by omega))
   replace Y1 := hide ((unhide Y1).outside u4 (by omega))
   have X4 := hide x4
   have U4 := hide u4
   have z4 := u4.size
   have d6 := (block_cell (unhide KG) (k * 7 + 6)).trans ((unhide YO (k * 7 + 6) (by omega) (by omega) (by omega)).trans (unhide E6))
   clear o4 g4 x4 u4 X1
   go_wp2_with fail
   clear d6
   refine (markIntS_any (P2 + r.text.length) (unhide Y1).1 (by omega) (by omega) (by omega)).mono ?_
   rintro e w5 ⟨rfl, o5, g5⟩
   obtain ⟨x5, u5⟩ := (unhide Y1).marks o5 g5
   replace KG := hide (u5.kept (unhide KG) (by omega))
   replace N1 := hide ((unhide N1).outside u5 (by omega))
   replace N3 := hide ((unhide N3).outside u5 (by omega))
   replace X4 := hide ((unhide X4).outside u5 (by omega))
   have Y5 := hide x5
   have U5 := hide u5
   have z5 := u5.size
   clear o5 g5 x5 u5 Y1
   have RR := hide (unhide HR9 w5 (.slice na r.name.length nc) (.slice ta r.to.length tc) (.slice xa r.text.length xc) (.slice ia r.nums.length ic) ⟨s1, s2, s3, a1, a2, a3, a4, unhide N1, unhide N3, unhide X4, unhide Y5⟩)
   have OUT : Hid (Outside B E w w5) := ((((hout.trans ((unhide U1).wide (by omega) (by omega))).trans ((unhide U2).wide (by omega) (by omega))).trans ((unhide U3).wide (by omega) (by omega))).trans ((unhide U4).wide (by omega) (by omega))).trans ((unhide U5).wide (by omega) (by omega))
   have ROW : Hid (RowO B E 105 27 5 3 w5 (.slice (some ⟨q, 0, none⟩) m cap) (M (k + 1))) := by
    have hMl : (M k).length = m := unhide HML k
    rw [← unhide HMSK]
    have htk := unhide HTK
    have HX' := unhide HX
    refine RowO.mark (m := k) (xs := xs) (xs' := cur2.toList.take (m * 7)) (f := f) (g := g) (w := wr) (by rw [hMl]; exact hlt) (unhide HQ) (by rw [hMl]; exact HX') ?_ ?_ ?_ (unhide RR) ?_
    ·rw [hMl]
     exact ⟨by rw [List.length_take, Array.length_toList, z2c, hcz]; omega, .inr ⟨q, cap, cur2, rfl, hBq, unhide KG, hnc, hcm, by rw [z2c, hcz], rfl⟩⟩
    ·intro i j hij hj7
     rw [← htk]
     by_cases hin : i * 7 + j < m * 7
     ·rw [take_at hin, take_at hin]
      exact unhide YO _ (by omega) (by omega) (by omega)
     ·rw [List.getElem?_eq_none (by rw [List.length_take]; omega), List.getElem?_eq_none (by rw [List.length_take]; omega)]
    ·intro j u hj
     have hj7 := cells_lt hj
     rw [take_at (by omega)]
     rw [unhide HCQ] at hj
     match j, hj7, hj with
     | 0, _, hj => cases hj; exact (unhide YO (k * 7 + 0) (by omega) (by omega) (by omega)).trans (unhide E0)
     | 1, _, hj => cases hj; exact unhide YA
     | 2, _, hj => cases hj; exact unhide YB
     | 3, _, hj => cases hj; exact unhide YC
     | 4, _, hj => cases hj; exact (unhide YO (k * 7 + 4) (by omega) (by omega) (by omega)).trans (unhide E4)
     | 5, _, hj => cases hj; exact (unhide YO (k * 7 + 5) (by omega) (by omega) (by omega)).trans (unhide E5)
     | 6, _, hj => cases hj; exact (unhide YO (k * 7 + 6) (by omega) (by omega) (by omega)).trans (unhide E6)
    ·intro i hi hik un ut ux ui hR
     rw [hMl] at hi
     obtain ⟨i1, i2, i3, i4, _⟩ := HX' i hi
     have hqi := i4 q rfl
     have hdis : g i ≤ f k ∨ g k ≤ f i := by
      by_cases hlt' : i < k
      ·exact .inl (hlow i hlt')
      ·exact .inr (i3 k (by omega))
     exact ((((hR.outside (unhide U1) (by omega)).outside (unhide U2) (by omega)).outside (unhide U3) (by omega)).outside (unhide U4) (by omega)).outside (unhide U5) (by omega)
   have hps := unhide HPSK
   clear N1 N3 X4 Y5 U1 U2 U3 U4 U5 RR KG YO YA YB YC HX HTK E0 E1 E2 E3 E4 E5 E6 HCQ HR9 M1 M2 HO HQ
   go_wp2_with fail
   exact ⟨⟨k + 1, by omega, by go_num, by rw [hps], unhide OUT, unhide ROW⟩, by simp [intOf]; omega⟩
  ·obtain rfl : k = m := by omega
   go_wp2
   go_ret
   exact ⟨rfl, hrow, hout⟩
end Go.Proofs.YtfbfakdkemlbmaaGreat
