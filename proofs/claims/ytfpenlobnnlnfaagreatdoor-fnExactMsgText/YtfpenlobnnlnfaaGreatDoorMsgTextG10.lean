/-
  Contracts of the helpers of the laws for rows of records that are answers (markRrS, heldRrS). Contract of a helper of the laws for messages that came in (markMsg). Plain facts: a record's data as bytes. No program is named here. Plain facts: what DataPut and RrPut answer. No program is named here.
-/
import Derived.Test.YtfpenlobnnlnfaaGreatDoorMsgTextG03
import Derived.Test.YtfpenlobnnlnfaaGreatDoorMsgTextG09
import Derived.Test.YtfpenlobnnlnfaaGreatDoorMsgTextG08
import Derived.Test.YtfpenlobnnlnfaaGreatDoorMsgTextG04
namespace Go.Proofs.YtfpenlobnnlnfaaGreatDoor
open Go.RowKit
set_option linter.unusedVariables false

theorem wrap_int (x : Int) (h0 : 0 ≤ x) (h1 : x < 9223372036854775808) : IntKind.i64.wrap x = x := by
 have := wrap_small x.toNat (by omega)
 rwa [Int.toNat_of_nonneg h0] at this
theorem ownsRow_at {B m cap n : Nat} {e : TypeId} {w : World} {a : Option Addr} {xs : List Value} (h : w.ownsRow B e 7 (.slice a m cap) n xs) (hn : 0 < n) : ∃ q cur, a = some ⟨q, 0, none⟩ ∧ m = n ∧ B ≤ q ∧ w.heap[q]? = some (.cells cur e) ∧ n ≤ cap ∧ cap ≤ maxLen ∧ cur.size = cap * 7 ∧ cur.toList.take (n * 7) = xs := by
 rcases h.2 with ⟨_, h0⟩ | ⟨q, cap', cur, hv, hB, hg, h1, h2, h3, h4⟩
 ·omega
 ·simp only [Value.slice.injEq] at hv
  obtain ⟨rfl, rfl, rfl⟩ := hv
  exact ⟨q, cur, rfl, rfl, hB, hg, h1, h2, h3, h4⟩
theorem take_at {cur : Array Value} {n j : Nat} (hj : j < n) : (cur.toList.take n)[j]? = cur[j]? := by
 rw [List.getElem?_take, if_pos hj, Array.getElem?_toList]

set_option maxHeartbeats 4000000 in
set_option maxRecDepth 100000 in
theorem markRrS_own {rs : List Rec} (hs : ∀ i, i < rs.length → SizeR 1048576 (rs.getD i recZ)) (hl : rs.length ≤ 1048576) (k0 : Int) (hk0 : 0 ≤ k0) (hk1 : k0 ≤ 4620000000000000000) {B E : Nat} {v : Value} {w : World} (hEw : E ≤ w.heap.size)
  (h : RowO B E 77 28 5 3 w v rs) :
  Calls Tryz.prog 32 #[v, .int .i64 k0] w fun e w' => e = .returned (.int .i64 (posRs rs k0 rs.length)) ∧ RowO B E 77 28 5 3 w' v (markRs rs k0 rs.length) ∧ Outside B E w w' := by
 obtain ⟨a, cap, rfl, _⟩ := h.form
 have HP := UC (fun i (hi : i ≤ rs.length) => (show k0 ≤ posRs rs k0 i ∧ posRs rs k0 i ≤ 6930000000000000000 from by
  have q := posRs_bound hs k0 i hi
  have : i * 2199025352707 ≤ 1048576 * 2199025352707 := Nat.mul_le_mul_right _ (by omega)
  omega))
 have HS := UC hs
 have HPS := UC (fun i => (show posRs rs k0 (i + 1) = posQ (rs.getD i recZ) (posRs rs k0 i) from rfl))
 have HMS := UC (fun i (hi : i < rs.length) => markRs_succ rs k0 i hi)
 have HMG := UC (fun m j (hj : j < rs.length) => markRs_getD rs k0 m j hj)
 have HML := UC (markRs_length rs k0)
 have H0 := UC (show RowO B E 77 28 5 3 w (.slice a rs.length cap) (markRs rs k0 0) by rw [markRs_zero]; exact h)
 have HZ := UC (show posRs rs k0 0 = k0 from rfl)
 clear h hs
 generalize posRs rs k0 = P at *
 generalize markRs rs k0 = M at *
 generalize hn : rs.length = m at *
 have HN := UC hn
 clear hn
 go_enter Tryz.func32, Tryz.ntmps32
 go_wp2
 go_loopw [1, 5] (fun kk i wr => ∃ k : Nat, k ≤ m ∧ i = .int .i64 k ∧ kk = .int .i64 (P k) ∧ Outside B E w wr ∧ RowO B E 77 28 5 3 wr (.slice a m cap) (M k)) (fun _ i _ => m - (intOf i).toNat)
 case atStart => exact ⟨0, Nat.zero_le _, rfl, by rw [UB HZ], Outside.refl _ _ _, UB H0⟩
 case round =>
  clear H0
  obtain ⟨k, hk, rfl, rfl, hout, hrow⟩ := hrel
  by_cases hlt : k < m
  ·obtain ⟨xs, f, g, ho, hq, hx⟩ := hrow
   have hMl : (M k).length = m := UB HML k
   rw [hMl] at ho hx
   have hmg : (M k).getD k recZ = rs.getD k recZ := by rw [UB HMG k k hlt, if_neg (Nat.lt_irrefl _)]
   have hms := UB HMS k hlt
   have hps := UB HPS k
   have hpk := UB HP k (by omega)
   have hsk := UB HS k hlt
   obtain ⟨hB1, hE1, hlow, hqk, vn, vt, vx, vi, hcs, hR⟩ := hx k hlt
   rw [hmg] at hcs hR
   generalize rs.getD k recZ = r at *
   have hpb := posQ_bound hsk (P k)
   have hNn := hsk.name
   have hNs := hsk.names
   have hTn := hsk.to
   have hTs := hsk.tos
   have hXl := hsk.text
   have hIl := hsk.nums
   obtain ⟨q, cur, rfl, _, hBq, hg, hnc, hcm, hcz, htk⟩ := ownsRow_at ho (by omega)
   have hqE := hq q rfl
   have hqs := hqk q rfl
   have hzw := hout.size
   obtain ⟨na, nc, rfl, _⟩ := hR.hasR.name.form
   obtain ⟨ta, tc, rfl, _⟩ := hR.hasR.to.form
   obtain ⟨xa, xc, rfl, _⟩ := hR.hasR.text.form
   obtain ⟨ia, ic, rfl, _⟩ := hR.hasR.nums.form
   obtain ⟨s1, s2, s3, a1, a2, a3, a4, h1, h2, h3, h4⟩ := hR
   have hcur : ∀ j u, (cellsR (.slice na r.name.length nc) (.slice ta r.to.length tc) (.slice xa r.text.length xc) (.slice ia r.nums.length ic) r)[j]? = some u → cur[k * 7 + j]? = some u := fun j u hj => by
    have := hcs j u hj
    rw [← htk, take_at (by have := cells_lt hj; omega)] at this
    exact this
   have e0 : cur[k * 7]? = some (.slice na r.name.length nc) := hcur 0 _ rfl
   have e1 : cur[k * 7 + 1]? = some (.int .i64 r.type) := hcur 1 _ rfl
   have e2 : cur[k * 7 + 2]? = some (.int .i64 r.ttl) := hcur 2 _ rfl
   have e3 : cur[k * 7 + 3]? = some (.int .i64 r.addr) := hcur 3 _ rfl
   have e4 : cur[k * 7 + 4]? = some (.slice ta r.to.length tc) := hcur 4 _ rfl
   have e5 : cur[k * 7 + 5]? = some (.slice xa r.text.length xc) := hcur 5 _ rfl
   have e6 : cur[k * 7 + 6]? = some (.slice ia r.nums.length ic) := hcur 6 _ rfl
   have hbig : k * 7 + 6 < cur.size := by rw [hcz]; omega
   have M1 := UC (fun (w : World) (v : Value) (hh : OwnN (f k) s1 28 5 w v r.name) => markByteSS_any (P k) hh hNn hNs (by omega) (by omega))
   have M2 := UC (fun (w : World) (v : Value) (hh : OwnN s1 s2 28 5 w v r.to) => markByteSS_any (posN r (P k) + 3) hh hTn hTs (by omega) (by omega))
   have hwrap : ∀ j : Int, 0 ≤ j → j ≤ 3 → IntKind.i64.wrap (posN r (P k) + j) = posN r (P k) + j := fun j _ _ => wrap_int _ (by omega) (by omega)
   have eP1 : pos r.name (P k) r.name.length = posN r (P k) := rfl
   have eP2 : pos r.to (posN r (P k) + 3) r.to.length = posT r (P k) := rfl
   rw [eP1] at M1
   rw [eP2] at M2
   have HR9 := UC (show ∀ (w : World) (vn vt vx vi : Value), OwnR (f k) (g k) 28 5 3 w vn vt vx vi ⟨markL r.name (P k), posN r (P k), posN r (P k) + 1, posN r (P k) + 2, markL r.to (posN r (P k) + 3), marks (posT r (P k)) r.text.length, marksI (posT r (P k) + r.text.length) r.nums.length⟩ → OwnR (f k) (g k) 28 5 3 w vn vt vx vi (markQ r (P k)) from fun _ _ _ _ _ q => q)
   have HCQ := UC (show ∀ (vn vt vx vi : Value), cellsR vn vt vx vi (markQ r (P k)) = [vn, .int .i64 (posN r (P k)), .int .i64 (posN r (P k) + 1), .int .i64 (posN r (P k) + 2), vt, vx, vi] from fun _ _ _ _ => rfl)
   have hpq : posQ r (P k) = posT r (P k) + r.text.length + r.nums.length := rfl
   rw [hpq] at hps hpb
   have HMSK := UC hms
   have HPSK := UC hps
   clear hms hps hpq eP1 eP2 hcur hcs
   generalize markQ r (P k) = RQ at *
   generalize markL r.to (posN r (P k) + 3) = MT at *
   generalize markL r.name (P k) = MN at *
   generalize posT r (P k) = P2 at *
   generalize posN r (P k) = P1 at *
   have HX := UC hx
   have HH2 := UC h2
   have HH3 := UC h3
   have HH4 := UC h4
   have HG := UC hg
   have HQ := UC hq
   have HO := UC ho
   have c0 := (VE hg (k * 7)).trans e0
   have hw1 := hwrap 1 (by omega) (by omega)
   have hw2 := hwrap 2 (by omega) (by omega)
   have hw3 := hwrap 3 (by omega) (by omega)
   have E4 := UC e4
   have E5 := UC e5
   have E6 := UC e6
   have E0 := UC e0
   have E1 := UC e1
   have E2 := UC e2
   have E3 := UC e3
   have HN1 := UC h1
   have HTK := UC htk
   clear hx hg h1 h2 h3 h4 hq ho e0 e1 e2 e3 e4 e5 e6 hwrap hmg htk hsk
   have hw2b : IntKind.i64.wrap (P1 + 1 + 1) = P1 + 2 := by rw [show P1 + 1 + 1 = P1 + 2 by omega]; exact hw2
   have hw3b : IntKind.i64.wrap (P1 + 2 + 1) = P1 + 3 := by rw [show P1 + 2 + 1 = P1 + 3 by omega]; exact hw3
   go_wp2_with fail
   refine (UB M1 _ _ (UB HN1)).mono ?_
   rintro e w1 ⟨rfl, n1, u1⟩
   have z1 := u1.size
   have G1 := u1.kept (UB HG) (by omega)
   have T1 := UC ((UB HH2).outside u1 (by omega))
   have X1 := UC ((UB HH3).outside u1 (by omega))
   have Y1 := UC ((UB HH4).outside u1 (by omega))
   have N1 := UC n1
   have U1 := UC u1
   have d1 := (VE G1 (k * 7 + 1)).trans (UB E1)
   have d2 := (VE G1 (k * 7 + 2)).trans (UB E2)
   have d3 := (VE G1 (k * 7 + 3)).trans (UB E3)
   have d4 := (VE G1 (k * 7 + 4)).trans (UB E4)
   have f1 := VG G1 (k * 7 + 1)
   have f2 := VG G1 (k * 7 + 2)
   have f3 := VG G1 (k * 7 + 3)
   have KG1 := UC G1
   clear n1 u1 G1 HH2 HH3 HH4 HN1 HG c0
   go_wp2_with fail
   clear d1 d2 d3 d4 f1 f2 f3 hw1 hw2 hw3 hw2b hw3b
   obtain ⟨cur2, g2, z2c, y1, y2, y3, yo, u2⟩ := three_sets (n := k * 7) (UB KG1) (.int .i64 P1) (.int .i64 (P1 + 1)) (.int .i64 (P1 + 2)) (by omega)
   generalize ((w1.setCell ⟨q, k * 7 + 1, none⟩ (.int .i64 P1)).setCell ⟨q, k * 7 + 2, none⟩ (.int .i64 (P1 + 1))).setCell ⟨q, k * 7 + 3, none⟩ (.int .i64 (P1 + 2)) = w2 at *
   replace N1 := UC ((UB N1).outside u2 (by omega))
   replace T1 := UC ((UB T1).outside u2 (by omega))
   replace X1 := UC ((UB X1).outside u2 (by omega))
   replace Y1 := UC ((UB Y1).outside u2 (by omega))
   have z2 := u2.size
   have U2 := UC u2
   have KG := UC g2
   have YO := UC yo
   have YA := UC y1
   have YB := UC y2
   have YC := UC y3
   clear u2 g2 yo y1 y2 y3 KG1
   refine (UB M2 _ _ (UB T1)).mono ?_
   rintro e w3 ⟨rfl, n3, u3⟩
   replace KG := UC (u3.kept (UB KG) (by omega))
   replace N1 := UC ((UB N1).outside u3 (by omega))
   replace X1 := UC ((UB X1).outside u3 (by omega))
   replace Y1 := UC ((UB Y1).outside u3 (by omega))
   have N3 := UC n3
   have U3 := UC u3
   have z3 := u3.size
   have d5 := (VE (UB KG) (k * 7 + 5)).trans ((UB YO (k * 7 + 5) (by omega) (by omega) (by omega)).trans (UB E5))
   clear n3 u3 T1
   go_wp2_with fail
   clear d5
   refine (markByteS_any P2 (UB X1).1 (by omega) (by omega) (by omega)).mono ?_
   rintro e w4 ⟨rfl, o4, g4⟩
   obtain ⟨x4, u4⟩ := (UB X1).marks o4 g4
   replace KG := UC (u4.kept (UB KG) (by omega))
   replace N1 := UC ((UB N1).outside u4 (by omega))
   replace N3 := UC ((UB N3).outside u4 (by omega))
   replace Y1 := UC ((UB Y1).outside u4 (by omega))
   have X4 := UC x4
   have U4 := UC u4
   have z4 := u4.size
   have d6 := (VE (UB KG) (k * 7 + 6)).trans ((UB YO (k * 7 + 6) (by omega) (by omega) (by omega)).trans (UB E6))
   clear o4 g4 x4 u4 X1
   go_wp2_with fail
   clear d6
   refine (markIntS_any (P2 + r.text.length) (UB Y1).1 (by omega) (by omega) (by omega)).mono ?_
   rintro e w5 ⟨rfl, o5, g5⟩
   obtain ⟨x5, u5⟩ := (UB Y1).marks o5 g5
   replace KG := UC (u5.kept (UB KG) (by omega))
   replace N1 := UC ((UB N1).outside u5 (by omega))
   replace N3 := UC ((UB N3).outside u5 (by omega))
   replace X4 := UC ((UB X4).outside u5 (by omega))
   have Y5 := UC x5
   have U5 := UC u5
   have z5 := u5.size
   clear o5 g5 x5 u5 Y1
   have RR := UC (UB HR9 w5 (.slice na r.name.length nc) (.slice ta r.to.length tc) (.slice xa r.text.length xc) (.slice ia r.nums.length ic) ⟨s1, s2, s3, a1, a2, a3, a4, UB N1, UB N3, UB X4, UB Y5⟩)
   have OUT : Hid (Outside B E w w5) := ((((hout.trans ((UB U1).wide (by omega) (by omega))).trans ((UB U2).wide (by omega) (by omega))).trans ((UB U3).wide (by omega) (by omega))).trans ((UB U4).wide (by omega) (by omega))).trans ((UB U5).wide (by omega) (by omega))
   have ROW : Hid (RowO B E 77 28 5 3 w5 (.slice (some ⟨q, 0, none⟩) m cap) (M (k + 1))) := by
    have hMl : (M k).length = m := UB HML k
    rw [← UB HMSK]
    have htk := UB HTK
    have HX' := UB HX
    refine RowO.mark (m := k) (xs := xs) (xs' := cur2.toList.take (m * 7)) (f := f) (g := g) (w := wr) (by rw [hMl]; exact hlt) (UB HQ) (by rw [hMl]; exact HX') ?_ ?_ ?_ (UB RR) ?_
    ·rw [hMl]
     exact ⟨by rw [List.length_take, Array.length_toList, z2c, hcz]; omega, .inr ⟨q, cap, cur2, rfl, hBq, UB KG, hnc, hcm, by rw [z2c, hcz], rfl⟩⟩
    ·intro i j hij hj7
     rw [← htk]
     by_cases hin : i * 7 + j < m * 7
     ·rw [take_at hin, take_at hin]
      exact UB YO _ (by omega) (by omega) (by omega)
     ·rw [List.getElem?_eq_none (by rw [List.length_take]; omega), List.getElem?_eq_none (by rw [List.length_take]; omega)]
    ·intro j u hj
     have hj7 := cells_lt hj
     rw [take_at (by omega)]
     rw [UB HCQ] at hj
     match j, hj7, hj with
     | 0, _, hj => cases hj; exact (UB YO (k * 7 + 0) (by omega) (by omega) (by omega)).trans (UB E0)
     | 1, _, hj => cases hj; exact UB YA
     | 2, _, hj => cases hj; exact UB YB
     | 3, _, hj => cases hj; exact UB YC
     | 4, _, hj => cases hj; exact (UB YO (k * 7 + 4) (by omega) (by omega) (by omega)).trans (UB E4)
     | 5, _, hj => cases hj; exact (UB YO (k * 7 + 5) (by omega) (by omega) (by omega)).trans (UB E5)
     | 6, _, hj => cases hj; exact (UB YO (k * 7 + 6) (by omega) (by omega) (by omega)).trans (UB E6)
    ·intro i hi hik un ut ux ui hR
     rw [hMl] at hi
     obtain ⟨i1, i2, i3, i4, _⟩ := HX' i hi
     have hqi := i4 q rfl
     have hdis : g i ≤ f k ∨ g k ≤ f i := by
      by_cases hlt' : i < k
      ·exact .inl (hlow i hlt')
      ·exact .inr (i3 k (by omega))
     exact ((((hR.outside (UB U1) (by omega)).outside (UB U2) (by omega)).outside (UB U3) (by omega)).outside (UB U4) (by omega)).outside (UB U5) (by omega)
   have hps := UB HPSK
   clear N1 N3 X4 Y5 U1 U2 U3 U4 U5 RR KG YO YA YB YC HX HTK E0 E1 E2 E3 E4 E5 E6 HCQ HR9 M1 M2 HO HQ
   go_wp2_with fail
   exact ⟨⟨k + 1, by omega, by go_num, by rw [hps], UB OUT, UB ROW⟩, by simp [intOf]; omega⟩
  ·obtain rfl : k = m := by omega
   go_wp2
   go_ret
   exact ⟨rfl, hrow, hout⟩
set_option maxHeartbeats 4000000 in
set_option maxRecDepth 100000 in
theorem markMsg_out {m : Mg} (hs : SizeM 1048576 m) (hc : m.count ≤ 1048576) (B E : Nat) (vq va vb vm vp vu : Value) (w : World) (hEw : E ≤ w.heap.size) (h : OwnM B E w vq va vb vm vp vu m) :
  Calls Tryz.prog 10 #[.agg #[.int .i64 m.id, .bool m.reply, .int .i64 m.op, .bool m.auth, .int .i64 m.code, vq, va, vb, vm, vp, vu], .int .i64 1] w fun e w' => (∃ P : Int, e = .returned (.int .i64 P) ∧ 0 ≤ P ∧ P ≤ 8000000000000000000) ∧ Outside B E w w' := by
 obtain ⟨s1, s2, s3, s4, s5, a0, a1, a2, a3, a4, a5, h0, h1, h2, h3, h4, h5⟩ := h
 obtain ⟨xq, yq, rfl, _⟩ := h0.form
 obtain ⟨xa, ya, rfl, _⟩ := h1.form
 obtain ⟨xb, yb, rfl, _⟩ := h2.form
 obtain ⟨xm, ym, rfl, _⟩ := h3.form
 obtain ⟨xp, yp, rfl, _⟩ := h4.form
 obtain ⟨xu, yu, rfl, _⟩ := h5.form
 have b0 := UI (w := w) (.cells #[.int .i64 m.id, .bool m.reply, .int .i64 m.op, .bool m.auth, .int .i64 m.code, .slice xq m.qs.length yq, .slice xa m.ans.length ya, .slice xb m.aus.length yb, .slice xm m.more.length ym, .slice xp m.pres.length yp, .slice xu m.ups.length yu] 34)
 have KK := UC (heap_alloc_new w (.cells #[.int .i64 m.id, .bool m.reply, .int .i64 m.op, .bool m.auth, .int .i64 m.code, .slice xq m.qs.length yq, .slice xa m.ans.length ya, .slice xb m.aus.length yb, .slice xm m.more.length ym, .slice xp m.pres.length yp, .slice xu m.ups.length yu] 34))
 unfold Mg.count at hc
 have H0 := UC (RowX.below (ownsQu 28 5) h0 b0)
 have H1 := UC (RowO.below h1 b0)
 have H2 := UC (RowO.below h2 b0)
 have H3 := UC (RowO.below h3 b0)
 have H4 := UC (RowX.below (ownsWn 28 5 3) h4 b0)
 have H5 := UC (RowX.below (ownsWn 28 5 3) h5 b0)
 have bz := b0.size
 have HS := UC hs
 clear h0 h1 h2 h3 h4 h5 hs
 have q0 := posQs_bound (l := m.qs) (UB HS).qs 1 m.qs.length (Nat.le_refl _)
 obtain ⟨d0, d1, d2, d3, d4, d5, d6, d7, d8, d9, d10⟩ := cells11 (UB KK)
 go_enter Tryz.func10, Tryz.ntmps10
 go_wp2_with fail
 clear d0 d1 d2 d3 d4 d5 d6 d7 d8 d9 d10
 generalize w.alloc (.cells #[.int .i64 m.id, .bool m.reply, .int .i64 m.op, .bool m.auth, .int .i64 m.code, .slice xq m.qs.length yq, .slice xa m.ans.length ya, .slice xb m.aus.length yb, .slice xm m.more.length ym, .slice xp m.pres.length yp, .slice xu m.ups.length yu] 34) = W at *
 have OUT := UC (Outside.refl B E W)
 refine (markQuestionS_own (UB HS).qs (by omega) 1 (by omega) (by omega) (by omega) (UB H0)).mono ?_
 rintro e w1 ⟨rfl, _, u1⟩
 generalize posQs m.qs 1 m.qs.length = P1 at *
 have z1 := u1.size
 replace H1 := UC (RowO.outside (UB H1) u1 (by omega))
 replace H2 := UC (RowO.outside (UB H2) u1 (by omega))
 replace H3 := UC (RowO.outside (UB H3) u1 (by omega))
 replace H4 := UC (RowX.outside (ownsWn 28 5 3) (UB H4) u1 (by omega))
 replace H5 := UC (RowX.outside (ownsWn 28 5 3) (UB H5) u1 (by omega))
 replace KK := UC (u1.kept (UB KK) (by omega))
 replace OUT := UC ((UB OUT).trans (u1.wide (by omega) (by omega)))
 clear u1 H0
 obtain ⟨d0, d1, d2, d3, d4, d5, d6, d7, d8, d9, d10⟩ := cells11 (UB KK)
 go_wp2_with fail
 clear d0 d1 d2 d3 d4 d5 d6 d7 d8 d9 d10
 have q1 := posRs_bound (rs := m.ans) (UB HS).ans P1 m.ans.length (Nat.le_refl _)
 refine (markRrS_own (UB HS).ans (by omega) P1 (by omega) (by omega) (by omega) (UB H1)).mono ?_
 rintro e w2 ⟨rfl, _, u2⟩
 generalize posRs m.ans P1 m.ans.length = P2 at *
 have z2 := u2.size
 replace H2 := UC (RowO.outside (UB H2) u2 (by omega))
 replace H3 := UC (RowO.outside (UB H3) u2 (by omega))
 replace H4 := UC (RowX.outside (ownsWn 28 5 3) (UB H4) u2 (by omega))
 replace H5 := UC (RowX.outside (ownsWn 28 5 3) (UB H5) u2 (by omega))
 replace KK := UC (u2.kept (UB KK) (by omega))
 replace OUT := UC ((UB OUT).trans (u2.wide (by omega) (by omega)))
 clear u2 H1
 obtain ⟨d0, d1, d2, d3, d4, d5, d6, d7, d8, d9, d10⟩ := cells11 (UB KK)
 go_wp2_with fail
 clear d0 d1 d2 d3 d4 d5 d6 d7 d8 d9 d10
 have q2 := posRs_bound (rs := m.aus) (UB HS).aus P2 m.aus.length (Nat.le_refl _)
 refine (markRrS_own (UB HS).aus (by omega) P2 (by omega) (by omega) (by omega) (UB H2)).mono ?_
 rintro e w3 ⟨rfl, _, u3⟩
 generalize posRs m.aus P2 m.aus.length = P3 at *
 have z3 := u3.size
 replace H3 := UC (RowO.outside (UB H3) u3 (by omega))
 replace H4 := UC (RowX.outside (ownsWn 28 5 3) (UB H4) u3 (by omega))
 replace H5 := UC (RowX.outside (ownsWn 28 5 3) (UB H5) u3 (by omega))
 replace KK := UC (u3.kept (UB KK) (by omega))
 replace OUT := UC ((UB OUT).trans (u3.wide (by omega) (by omega)))
 clear u3 H2
 obtain ⟨d0, d1, d2, d3, d4, d5, d6, d7, d8, d9, d10⟩ := cells11 (UB KK)
 go_wp2_with fail
 clear d0 d1 d2 d3 d4 d5 d6 d7 d8 d9 d10
 have q3 := posRs_bound (rs := m.more) (UB HS).more P3 m.more.length (Nat.le_refl _)
 refine (markRrS_own (UB HS).more (by omega) P3 (by omega) (by omega) (by omega) (UB H3)).mono ?_
 rintro e w4 ⟨rfl, _, u4⟩
 generalize posRs m.more P3 m.more.length = P4 at *
 have z4 := u4.size
 replace H4 := UC (RowX.outside (ownsWn 28 5 3) (UB H4) u4 (by omega))
 replace H5 := UC (RowX.outside (ownsWn 28 5 3) (UB H5) u4 (by omega))
 replace KK := UC (u4.kept (UB KK) (by omega))
 replace OUT := UC ((UB OUT).trans (u4.wide (by omega) (by omega)))
 clear u4 H3
 obtain ⟨d0, d1, d2, d3, d4, d5, d6, d7, d8, d9, d10⟩ := cells11 (UB KK)
 go_wp2_with fail
 clear d0 d1 d2 d3 d4 d5 d6 d7 d8 d9 d10
 refine (markWantS_any (UB HS).pres (by omega) P4 (by omega) (by omega) (by omega) (UB H4)).mono ?_
 rintro e w5 ⟨⟨P5, rfl, p5a, p5b⟩, u5⟩
 have z5 := u5.size
 replace H5 := UC (RowX.outside (ownsWn 28 5 3) (UB H5) u5 (by omega))
 replace KK := UC (u5.kept (UB KK) (by omega))
 replace OUT := UC ((UB OUT).trans (u5.wide (by omega) (by omega)))
 clear u5 H4
 obtain ⟨d0, d1, d2, d3, d4, d5, d6, d7, d8, d9, d10⟩ := cells11 (UB KK)
 go_wp2_with fail
 clear d0 d1 d2 d3 d4 d5 d6 d7 d8 d9 d10
 refine (markWantS_any (UB HS).ups (by omega) P5 (by omega) (by omega) (by omega) (UB H5)).mono ?_
 rintro e w6 ⟨⟨P6, rfl, p6a, p6b⟩, u6⟩
 have z6 := u6.size
 replace KK := UC (u6.kept (UB KK) (by omega))
 replace OUT := UC ((UB OUT).trans (u6.wide (by omega) (by omega)))
 clear u6 H5
 go_wp2_with fail
 go_ret
 have u := UB OUT
 exact ⟨⟨P6, rfl, by omega, by omega⟩, ⟨u.os.trans b0.os, u.tape.trans b0.tape, u.output.trans b0.output, by omega, fun k hk hn => (u.block k (by omega) hn).trans (b0.block k hk)⟩⟩
end Go.Proofs.YtfpenlobnnlnfaaGreatDoor

namespace Go.Proofs.YtfpenlobnnlnfaaGreatDoor
open Go.RowKit

def dataB (r : Rec) : List Int :=
 if r.type = 1 then put32 [] r.addr else if r.type = 6 then put32 (put32 (wire r.to) (r.nums.getD 0 0)) (r.nums.getD 1 0) else if named r.type = true then wire r.to else (r.text.length : Int) :: r.text

theorem data_kinds {r : Rec} (ht : typeOk r.type = true) (h : dataOk r = true) :
  (r.type = 1 ∧ 0 ≤ r.addr ∧ r.addr ≤ 4294967295 ∧ dataB r = put32 [] r.addr) ∨ ((r.type = 2 ∨ r.type = 5 ∨ r.type = 12) ∧ nameOk r.to = true ∧ dataB r = wire r.to) ∨
  (r.type = 6 ∧ nameOk r.to = true ∧ (∃ x y, r.nums = [x, y] ∧ 0 ≤ x ∧ x ≤ 4294967295 ∧ 0 ≤ y ∧ y ≤ 100000 ∧ dataB r = put32 (put32 (wire r.to) x) y)) ∨ ((r.type = 16 ∨ r.type = 49) ∧ r.text.length ≤ 40 ∧ dataB r = (r.text.length : Int) :: r.text) := by
 have ht' : r.type = 1 ∨ r.type = 2 ∨ r.type = 5 ∨ r.type = 6 ∨ r.type = 12 ∨ r.type = 16 ∨ r.type = 49 := of_decide_eq_true ht
 unfold dataOk at h
 simp only [Bool.and_eq_true] at h
 obtain ⟨h1, h2, h3, h4⟩ := h
 by_cases e1 : r.type = 1
 ·left
  rw [if_pos e1] at h1
  have := of_decide_eq_true h1
  exact ⟨e1, this.1, this.2, by unfold dataB; rw [if_pos e1]⟩
 by_cases e6 : r.type = 6
 ·right; right; left
  have hn : named r.type = true := decide_eq_true (by omega)
  rw [if_pos hn] at h2
  rw [if_pos e6] at h4
  have h5 := of_decide_eq_true h4
  obtain ⟨x, y, hxy⟩ := two_of h5.1
  rw [hxy] at h5
  refine ⟨e6, h2, x, y, hxy, h5.2.1, h5.2.2.1, h5.2.2.2.1, h5.2.2.2.2, ?_⟩
  unfold dataB
  rw [if_neg e1, if_pos e6, hxy]
  rfl
 by_cases en : r.type = 2 ∨ r.type = 5 ∨ r.type = 12
 ·right; left
  have hn : named r.type = true := decide_eq_true (by omega)
  rw [if_pos hn] at h2
  exact ⟨en, h2, by unfold dataB; rw [if_neg e1, if_neg e6, if_pos hn]⟩
 ·right; right; right
  have hx : texted r.type = true := decide_eq_true (by omega)
  have hn : ¬ named r.type = true := by
   intro hh
   have : r.type = 2 ∨ r.type = 5 ∨ r.type = 6 ∨ r.type = 12 := of_decide_eq_true hh
   omega
  rw [if_pos hx] at h3
  exact ⟨by omega, of_decide_eq_true h3, by unfold dataB; rw [if_neg e1, if_neg e6, if_neg hn]⟩
theorem rrOk_parts {r : Rec} (h : rrOk r = true) : nameOk r.name = true ∧ typeOk r.type = true ∧ 0 ≤ r.ttl ∧ r.ttl ≤ 100000 ∧ dataOk r = true := by
 unfold rrOk at h
 simp only [Bool.and_eq_true] at h
 have := of_decide_eq_true h.2.2.1
 exact ⟨h.1, h.2.1, this.1, this.2, h.2.2.2⟩
theorem dataB_length {r : Rec} (h : rrOk r = true) : (dataB r).length ≤ 105 := by
 obtain ⟨_, ht, _, _, hd⟩ := rrOk_parts h
 rcases data_kinds ht hd with ⟨_, _, _, e⟩ | ⟨_, hn, e⟩ | ⟨_, hn, x, y, _, _, _, _, _, e⟩ | ⟨_, hx, e⟩
 ·rw [e]; have := put32_length [] r.addr; simp at this; omega
 ·rw [e]; have := wire_length r.to hn; omega
 ·rw [e]
  have h1 := wire_length r.to hn
  have h2 := put32_length (wire r.to) x
  have h3 := put32_length (put32 (wire r.to) x) y
  omega
 ·rw [e]; simp; omega
end Go.Proofs.YtfpenlobnnlnfaaGreatDoor

namespace Go.Proofs.YtfpenlobnnlnfaaGreatDoor
open Go.RowKit

def classB (l : List Int) (r : Rec) (c : Int) (D : List Int) : List Int := put16 (put32 (put16 (put16 (l ++ wire r.name) r.type) c) r.ttl) D.length ++ D
end Go.Proofs.YtfpenlobnnlnfaaGreatDoor
