/-
  Contracts of helpers of the laws for slots and caches that are answers (markSlotS, markCache). Contracts of the name helpers of the laws (heldByteSS, heldName). Contracts of the helpers of the laws for []int: markIntS, heldIntS. Contract of a helper of the laws for rows of records that are answers (heldRrS).
-/
import Derived.Test.YtaehfeobfkaicaaGreatCacheGetG07
import Derived.Test.YtaehfeobfkaicaaGreatCacheGetG44
import Derived.Test.YtaehfeobfkaicaaGreatCacheGetG05
namespace Go.Proofs.YtaehfeobfkaicaaGreat
open Go.RowKit
set_option linter.unusedVariables false
set_option maxHeartbeats 8000000
set_option maxRecDepth 100000

theorem markSlotS_own {l : List Slt} (hs : ∀ i, i < l.length → SizeSl 1048576 (l.getD i VK)) (hl : l.length + totR l l.length ≤ 1048576) (k0 : Int) (hk0 : 0 ≤ k0) (hk1 : k0 ≤ 1000000000000000000) {B E : Nat} {v : Value} {w : World} (hEw : E ≤ w.heap.size)
  (h : RowX 7 (OwnSl 67 56 5 3) VK B E 71 w (v) (l)) :
  Calls Tryz.prog 40 #[v, .int .i64 k0] w fun e w' => e = .returned (.int .i64 (posSs l k0 l.length)) ∧ RowX 7 (OwnSl 67 56 5 3) VK B E 71 w' (v) (markSs l k0 l.length) ∧ Outside B E w w' := by
 obtain ⟨a, cap, rfl, _⟩ := h.form
 have HP := UC (fun i (hi : i ≤ l.length) => (show k0 ≤ posSs l k0 i ∧ posSs l k0 i ≤ 4465000000000000000 from by
  have q := posSs_bound hs k0 i hi
  have ht := totR_mono l (l.length - i) i
  rw [show i + (l.length - i) = l.length by omega] at ht
  have : i * 1099511627781 ≤ 1048576 * 1099511627781 := Nat.mul_le_mul_right _ (by omega)
  have : totR l i * 2199025352707 ≤ 1048576 * 2199025352707 := Nat.mul_le_mul_right _ (by omega)
  omega))
 have HS := UC hs
 have HPS := UC (fun i => (show posSs l k0 (i + 1) = posSl (l.getD i VK) (posSs l k0 i) from rfl))
 have HMS := UC (fun i (hi : i < l.length) => markSs_succ l k0 i hi)
 have HMG := UC (fun m j (hj : j < l.length) => markSs_getD l k0 m j hj)
 have HML := UC (markSs_length l k0)
 have H0 := UC (show RowX 7 (OwnSl 67 56 5 3) VK B E 71 w (.slice a l.length cap) (markSs l k0 0) by rw [markSs_zero]; exact h)
 have HZ := UC (show posSs l k0 0 = k0 from rfl)
 have hlm : l.length ≤ 1048576 := by omega
 clear h hs hl
 generalize posSs l k0 = P at *
 generalize markSs l k0 = M at *
 generalize hn : l.length = m at *
 have HN := UC hn
 clear hn
 go_enter Tryz.func40, Tryz.ntmps40
 go_wp2
 go_loopw [1, 5] (fun kk i wr => ∃ k : Nat, k ≤ m ∧ i = .int .i64 k ∧ kk = .int .i64 (P k) ∧ Outside B E w wr ∧ RowX 7 (OwnSl 67 56 5 3) VK B E 71 wr (.slice a m cap) (M k)) (fun _ i _ => m - (intOf i).toNat)
 case atStart => exact ⟨0, Nat.zero_le _, rfl, by rw [UB HZ], Outside.refl _ _ _, UB H0⟩
 case round =>
  clear H0
  obtain ⟨k, hk, rfl, rfl, hout, hrow⟩ := hrel
  by_cases hlt : k < m
  ·obtain ⟨xs, f, g, ho, hq, hx⟩ := hrow
   have hMl : (M k).length = m := UB HML k
   rw [hMl] at ho hx
   have hmg : (M k).getD k VK = l.getD k VK := by rw [UB HMG k k hlt, if_neg (Nat.lt_irrefl _)]
   have hms := UB HMS k hlt
   have hps := UB HPS k
   have hpk := UB HP k (by omega)
   have hsk := UB HS k hlt
   obtain ⟨hB1, hE1, hlow, hqk, vs, hcs, vn, vr, rfl, hR⟩ := hx k hlt
   rw [hmg] at hcs hR
   generalize l.getD k VK = r at *
   have hpb := posSl_bound hsk (P k)
   have hrl := hsk.rrs
   obtain ⟨q, cur, rfl, _, hBq, hg, hnc, hcm, hcz, htk⟩ := ownsRow_atX ho (by omega)
   have hqE := hq q rfl
   have hqs := hqk q rfl
   have hzw := hout.size
   obtain ⟨s, a1, a2, hN1, hR1⟩ := hR
   obtain ⟨na, nc, rfl, _⟩ := hN1.hasL.form
   obtain ⟨ra, rc, rfl, _⟩ := hR1.form
   have hcur : ∀ j u, ([.slice na r.name.length nc, .int .i64 r.type, .int .i64 r.kind, .slice ra r.rrs.length rc, .int .i64 r.rank, .int .i64 r.till, .int .i64 r.used] : List Value)[j]? = some u → cur[k * 7 + j]? = some u := fun j u hj => by
    have := hcs j u hj
    have hj2 : j < 7 := (List.getElem?_eq_some_iff.1 hj).1
    rw [← htk, take_atX (by omega)] at this
    exact this
   have e0 : cur[k * 7]? = some (.slice na r.name.length nc) := hcur 0 _ rfl
   have e1 : cur[k * 7 + 1]? = some (.int .i64 r.type) := hcur 1 _ rfl
   have e2 : cur[k * 7 + 2]? = some (.int .i64 r.kind) := hcur 2 _ rfl
   have e3 : cur[k * 7 + 3]? = some (.slice ra r.rrs.length rc) := hcur 3 _ rfl
   have e4 : cur[k * 7 + 4]? = some (.int .i64 r.rank) := hcur 4 _ rfl
   have e5 : cur[k * 7 + 5]? = some (.int .i64 r.till) := hcur 5 _ rfl
   have e6 : cur[k * 7 + 6]? = some (.int .i64 r.used) := hcur 6 _ rfl
   have hbig : k * 7 + 6 < cur.size := by rw [hcz]; omega
   have M1 := UC (fun (w : World) (v : Value) (hh : OwnN (f k) s 56 5 w v r.name) => markByteSS_any (P k) hh hsk.name hsk.names (by omega) (by omega))
   have hmq : markSlt r (P k) = ⟨markL r.name (P k), pos r.name (P k) r.name.length, pos r.name (P k) r.name.length + 1, markRs r.rrs (pos r.name (P k) r.name.length + 2) r.rrs.length, posRs r.rrs (pos r.name (P k) r.name.length + 2) r.rrs.length, posRs r.rrs (pos r.name (P k) r.name.length + 2) r.rrs.length + 1, posRs r.rrs (pos r.name (P k) r.name.length + 2) r.rrs.length + 2⟩ := rfl
   have hpq : posSl r (P k) = posRs r.rrs (pos r.name (P k) r.name.length + 2) r.rrs.length + 3 := rfl
   rw [hpq] at hps
   rw [hmq] at hms
   have hrr := hsk.rrss
   have hmrl := markRs_length r.rrs (pos r.name (P k) r.name.length + 2) r.rrs.length
   have hmnl := markL_length r.name (P k)
   generalize pos r.name (P k) r.name.length = P1 at *
   have M2 := UC (fun (w : World) (v : Value) (hE : g k ≤ w.heap.size) (hh : RowO s (g k) 67 56 5 3 w v r.rrs) => markRrS_own hrr hrl (P1 + 2) (by omega) (by omega) hE hh)
   generalize posRs r.rrs (P1 + 2) r.rrs.length = P2 at *
   have hw1 : IntKind.i64.wrap (P1 + 1) = P1 + 1 := wrap_intM _ (by omega) (by omega)
   have hw2 : IntKind.i64.wrap (P1 + 2) = P1 + 2 := wrap_intM _ (by omega) (by omega)
   have hw2b : IntKind.i64.wrap (P1 + 1 + 1) = P1 + 2 := by rw [show P1 + 1 + 1 = P1 + 2 by omega]; exact hw2
   have hv1 : IntKind.i64.wrap (P2 + 1) = P2 + 1 := wrap_intM _ (by omega) (by omega)
   have hv2 : IntKind.i64.wrap (P2 + 2) = P2 + 2 := wrap_intM _ (by omega) (by omega)
   have hv3 : IntKind.i64.wrap (P2 + 3) = P2 + 3 := wrap_intM _ (by omega) (by omega)
   have hv2b : IntKind.i64.wrap (P2 + 1 + 1) = P2 + 2 := by rw [show P2 + 1 + 1 = P2 + 2 by omega]; exact hv2
   have hv3b : IntKind.i64.wrap (P2 + 2 + 1) = P2 + 3 := by rw [show P2 + 2 + 1 = P2 + 3 by omega]; exact hv3
   have HW1 := UC hw1
   have HW2 := UC hw2b
   have HV1 := UC hv1
   have HV2 := UC hv2b
   have HV3 := UC hv3b
   have HLT := UC hlt
   clear hw1 hw2 hw2b hv1 hv2 hv3 hv2b hv3b
   have HMSK := UC hms
   have HPSK := UC hps
   clear hms hps hpq hmq hcur hcs hsk hpb hrr
   generalize markL r.name (P k) = MN at *
   generalize markRs r.rrs (P1 + 2) r.rrs.length = MR at *
   have HMN := UC hmnl
   have HMR := UC hmrl
   have HX := UC hx
   have HG := UC hg
   have HQ := UC hq
   have HO := UC ho
   have c0 := (VE hg (k * 7)).trans e0
   have E0 := UC e0
   have E1 := UC e1
   have E2 := UC e2
   have E3 := UC e3
   have E4 := UC e4
   have E5 := UC e5
   have E6 := UC e6
   have HN1 := UC hN1
   have HR1 := UC hR1
   have HTK := UC htk
   clear hx hg hN1 hR1 hq ho e0 e1 e2 e3 e4 e5 e6 hmg htk hmnl hmrl
   go_wp2_with fail
   refine (UB M1 _ _ (UB HN1)).mono ?_
   rintro e w1 ⟨rfl, n1, u1⟩
   have z1 := u1.size
   have G1 := u1.kept (UB HG) (by omega)
   have N1 := UC n1
   have R1 := UC (RowO.outside (UB HR1) u1 (by omega))
   have U1 := UC u1
   have d1 := (VE G1 (k * 7 + 1)).trans (UB E1)
   have d2 := (VE G1 (k * 7 + 2)).trans (UB E2)
   have d3 := (VE G1 (k * 7 + 3)).trans (UB E3)
   have f1 := VG G1 (k * 7 + 1)
   have f2 := VG G1 (k * 7 + 2)
   have KG1 := UC G1
   clear n1 u1 G1 HN1 HR1 HG c0
   as_aux_lemma =>
    have hw1 := UB HW1
    have hw2b := UB HW2
    go_wp2_with fail
    clear d1 d2 d3 f1 f2 hw1 hw2b HW1 HW2
    obtain ⟨cur2, g2, z2c, y1, y2, yo, u2⟩ := two_sets (n := k * 7) (UB KG1) (.int .i64 P1) (.int .i64 (P1 + 1)) (by omega)
    generalize (w1.setCell ⟨q, k * 7 + 1, none⟩ (.int .i64 P1)).setCell ⟨q, k * 7 + 2, none⟩ (.int .i64 (P1 + 1)) = w2 at *
    have z2 := u2.size
    replace N1 := UC ((UB N1).outside u2 (by omega))
    replace R1 := UC (RowO.outside (UB R1) u2 (by omega))
    have U2 := UC u2
    have KG2 := UC g2
    have YO := UC yo
    have YA := UC y1
    have YB := UC y2
    clear u2 g2 yo y1 y2 KG1
    refine (UB M2 _ _ (by omega) (UB R1)).mono ?_
    rintro e w3 ⟨rfl, r3, u3⟩
    have z3 := u3.size
    have KG3 := UC (u3.kept (UB KG2) (by omega))
    replace N1 := UC ((UB N1).outside u3 (by omega))
    have R3 := UC r3
    have U3 := UC u3
    have d4 := (VE (UB KG3) (k * 7 + 4)).trans ((UB YO (k * 7 + 4) (by omega) (by omega)).trans (UB E4))
    have d5 := (VE (UB KG3) (k * 7 + 5)).trans ((UB YO (k * 7 + 5) (by omega) (by omega)).trans (UB E5))
    have d6 := (VE (UB KG3) (k * 7 + 6)).trans ((UB YO (k * 7 + 6) (by omega) (by omega)).trans (UB E6))
    have f4 := VG (UB KG3) (k * 7 + 4)
    have f5 := VG (UB KG3) (k * 7 + 5)
    have f6 := VG (UB KG3) (k * 7 + 6)
    as_aux_lemma =>
     obtain ⟨cur4, g4, z4c, x1, x2, x3, xo, u4⟩ := three_sets (n := k * 7 + 3) (UB KG3) (.int .i64 P2) (.int .i64 (P2 + 1)) (.int .i64 (P2 + 2)) (by omega)
     have N4 := UC ((UB N1).outside u4 (by omega))
     have R4 := UC (RowO.outside (UB R3) u4 (by omega))
     have OUT := UC (((hout.trans ((UB U1).wide (by omega) (by omega))).trans (((UB U2).wide (B' := B) (E' := E) (by omega) (by omega)).trans ((UB U3).wide (by omega) (by omega)))).trans (u4.wide (by omega) (by omega)))
     have ROW := UC (show RowX 7 (OwnSl 67 56 5 3) VK B E 71 (((w3.setCell ⟨q, k * 7 + 3 + 1, none⟩ (.int .i64 P2)).setCell ⟨q, k * 7 + 3 + 2, none⟩ (.int .i64 (P2 + 1))).setCell ⟨q, k * 7 + 3 + 3, none⟩ (.int .i64 (P2 + 2))) (.slice (some ⟨q, 0, none⟩) m cap) (M (k + 1)) from by
      have hMl : (M k).length = m := UB HML k
      rw [← UB HMSK]
      have htk := UB HTK
      have HX' := UB HX
      refine RowX.mark (ownsSl 67 56 5 3) (m := k) (cs := xs) (cs' := cur4.toList.take (m * 7)) (vs' := [.slice na r.name.length nc, .int .i64 P1, .int .i64 (P1 + 1), .slice ra r.rrs.length rc, .int .i64 P2, .int .i64 (P2 + 1), .int .i64 (P2 + 2)]) (f := f) (g := g) (w := wr) (by rw [hMl]; exact hlt) (UB HQ) (by rw [hMl]; exact HX') ?_ ?_ ?_ ⟨_, _, rfl, s, a1, a2, UB N4, UB R4⟩ ?_
      ·rw [hMl]
       exact ⟨by rw [List.length_take, Array.length_toList, z4c, z2c, hcz]; omega, .inr ⟨q, cap, cur4, rfl, hBq, g4, hnc, hcm, by rw [z4c, z2c, hcz], rfl⟩⟩
      ·intro i j hij hj2
       rw [← htk]
       by_cases hin : i * 7 + j < m * 7
       ·rw [take_atX hin, take_atX hin, xo _ (by omega) (by omega) (by omega)]
        exact UB YO _ (by omega) (by omega)
       ·rw [List.getElem?_eq_none (by rw [List.length_take]; omega), List.getElem?_eq_none (by rw [List.length_take]; omega)]
      ·intro j u hj
       have hj2 : j < 7 := (List.getElem?_eq_some_iff.1 hj).1
       rw [take_atX (by omega)]
       match j, hj2, hj with
       | 0, _, hj => cases hj; exact (xo (k * 7 + 0) (by omega) (by omega) (by omega)).trans ((UB YO (k * 7 + 0) (by omega) (by omega)).trans (UB E0))
       | 1, _, hj => cases hj; exact (xo (k * 7 + 1) (by omega) (by omega) (by omega)).trans (UB YA)
       | 2, _, hj => cases hj; exact (xo (k * 7 + 2) (by omega) (by omega) (by omega)).trans (UB YB)
       | 3, _, hj => cases hj; exact (xo (k * 7 + 3) (by omega) (by omega) (by omega)).trans ((UB YO (k * 7 + 3) (by omega) (by omega)).trans (UB E3))
       | 4, _, hj => cases hj; exact x1
       | 5, _, hj => cases hj; exact x2
       | 6, _, hj => cases hj; exact x3
      ·intro i hi hik us hR
       rw [hMl] at hi
       obtain ⟨i1, i2, i3, i4, _⟩ := HX' i hi
       have hqi := i4 q rfl
       have hdis : g i ≤ f k ∨ g k ≤ f i := by
        by_cases hlt' : i < k
        ·exact .inl (hlow i hlt')
        ·exact .inr (i3 k (by omega))
       exact (ownsSl 67 56 5 3).outside ((ownsSl 67 56 5 3).outside ((ownsSl 67 56 5 3).outside ((ownsSl 67 56 5 3).outside hR (UB U1) (by omega)) (UB U2) (by omega)) (UB U3) (by omega)) u4 (by omega))
     have hps := UB HPSK
     have OUT' := UC (UB OUT)
     clear N1 N4 R1 R3 R4 U1 U2 U3 KG2 KG3 YO YA YB HX HTK E0 E1 E2 E3 E4 E5 E6 M1 M2 HO HQ r3 u3 x1 x2 x3 xo u4 g4 OUT
     have hv1 := UB HV1
     have hv2b := UB HV2
     have hv3b := UB HV3
     clear HV1 HV2 HV3
     go_wp2_with fail
     clear hv1 hv2b hv3b
     have hlt := UB HLT
     exact ⟨⟨k + 1, hlt, by go_num, by rw [hps], UB OUT', UB ROW⟩, by simp [intOf]; omega⟩
  ·obtain rfl : k = m := by omega
   go_wp2
   go_ret
   exact ⟨rfl, hrow, hout⟩

theorem outside_belowC {B E : Nat} {w w' : World} (h : Below w.heap.size w w') : Outside B E w w' := ⟨h.os, h.tape, h.output, h.size, fun k hk _ => h.block k hk⟩
theorem markCache_own {l : List Slt} (hs : ∀ i, i < l.length → SizeSl 1048576 (l.getD i VK)) (hl : l.length + totR l l.length ≤ 1048576) (k0 : Int) (hk0 : 0 ≤ k0) (hk1 : k0 ≤ 1000000000000000000) {B E : Nat} {v : Value} {w : World} (now turn : Int) (hEw : E ≤ w.heap.size)
  (h : RowX 7 (OwnSl 67 56 5 3) VK B E 71 w (v) (l)) :
  Calls Tryz.prog 14 #[.agg #[.int .i64 now, .int .i64 turn, v], .int .i64 k0] w fun e w' => e = .returned (.int .i64 (posSs l k0 l.length)) ∧ RowX 7 (OwnSl 67 56 5 3) VK B E 71 w' (v) (markSs l k0 l.length) ∧ Outside B E w w' := by
 obtain ⟨a, cap, rfl, _⟩ := h.form
 have b0 := UI (w := w) (.cells #[.int .i64 now, .int .i64 turn, .slice a l.length cap] 30)
 have KK := UC (heap_alloc_new w (.cells #[.int .i64 now, .int .i64 turn, .slice a l.length cap] 30))
 have HC := UC (markSlotS_own hs hl k0 hk0 hk1 (Nat.le_trans hEw b0.size) (RowX.below (ownsSl 67 56 5 3) h b0))
 clear h hs hl
 generalize posSs l k0 l.length = P at *
 obtain ⟨d0, d1, d2⟩ := UL (UB KK)
 go_enter Tryz.func14, Tryz.ntmps14
 go_wp2_with fail
 clear d0 d1 d2
 refine (UB HC).mono ?_
 rintro e w1 ⟨rfl, r1, u1⟩
 go_wp2_with fail
 go_ret
 exact ⟨rfl, r1, (outside_belowC b0).trans u1⟩
set_option maxHeartbeats 800000 in
set_option maxRecDepth 100000 in
theorem heldByteSS_has {v : Value} {n : List (List Int)} (k0 : Int) {w : World} (h : HasL w v (markL n k0)) (hl : n.length ≤ 1048576) (hl2 : ∀ i, i < n.length → (n.getD i []).length ≤ 1048576) (hk0 : 0 ≤ k0) (hk1 : k0 ≤ 8000000000000000000) :
  Calls Tryz.prog 63 #[v, .int .i64 k0] w fun e w' => e = .returned (.int .i64 (pos n k0 n.length)) ∧ w = w' := by
 have hML := markL_length n k0
 obtain ⟨a, cap, rfl, hcl, hcm⟩ := h.form
 unfold maxLen at hcm
 rw [hML] at hcl h ⊢
 have hP := UC (fun j (hj : j ≤ n.length) => (show k0 ≤ pos n k0 j ∧ pos n k0 j ≤ 8000002000000000000 from by
  have := pos_le n k0 1048576 hl2 j hj
  have : j * 1048576 ≤ 1048576 * 1048576 := Nat.mul_le_mul_right _ (by omega)
  omega))
 have hPS := UC (pos_succ n k0)
 have hP0 := UC (pos_zero n k0)
 have hMG := UC (markL_getD n k0)
 have HML := UC hML
 have HL2 := UC hl2
 clear hl2 hML
 generalize pos n k0 = P at *
 generalize markL n k0 = M at *
 generalize hn : n.length = m at *
 have HN := UC hn
 clear hn
 go_enter Tryz.func63, Tryz.ntmps63
 go_wp2
 go_loop [1, 5] (fun kk i => ∃ k : Nat, k ≤ m ∧ i = .int .i64 k ∧ kk = .int .i64 (P k)) (fun _ i => m - (intOf i).toNat)
 case atStart => exact ⟨0, Nat.zero_le _, rfl, by rw [UB hP0]⟩
 case round =>
  obtain ⟨k, hk, rfl, rfl⟩ := hrel
  by_cases hlt : k < m
  ·obtain ⟨b, off, u, rfl, hbl, hc, hu⟩ := h.here (k := k) (by rw [UB HML]; exact hlt)
   have hlk := UB HL2 k hlt
   have hpk := UB hP k (by omega)
   have hpk1 := UB hP (k + 1) (by omega)
   have hps := UB hPS k hlt
   rw [UB hMG k hlt] at hu
   generalize (n.getD k []).length = lk at *
   obtain ⟨ua, uc, rfl, hLu⟩ := hu.form
   rw [marks_length] at hc
   have HLU := UC hLu
   clear hu hLu
   go_wp2_with fail
   refine (heldByteS_marks ua uc lk (P k) _ (UB HLU) (by omega) (by omega) (by omega)).mono ?_
   rintro e w1 ⟨rfl, rfl⟩
   have hneg : ¬ P k + (lk : Int) < 0 := by omega
   go_wp2
   exact ⟨⟨k + 1, by omega, by go_num, by rw [hps]⟩, by simp [intOf]; omega⟩
  ·obtain rfl : k = m := by omega
   go_wp2
   go_ret
   exact ⟨rfl, rfl⟩
set_option maxHeartbeats 400000 in
set_option maxRecDepth 100000 in
theorem heldIntS_marks (a : Option Addr) (cap n : Nat) (k0 : Int) (w : World) (h : LiesI w a (marksI k0 n)) (hl : n ≤ 2097152) (hk0 : 0 ≤ k0) (hk1 : k0 ≤ 9000000000000000000) :
  Calls Tryz.prog 65 #[.slice a n cap, .int .i64 k0] w fun e w' => e = .returned (.int .i64 (k0 + n)) ∧ w = w' := by
 go_enter Tryz.func65, Tryz.ntmps65
 go_wp2
 go_loop [1, 5] (fun kk i => ∃ k : Nat, k ≤ n ∧ i = .int .i64 k ∧ kk = .int .i64 (k0 + k)) (fun _ i => n - (intOf i).toNat)
 case atStart => exact ⟨0, Nat.zero_le _, rfl, by simp⟩
 case round =>
  obtain ⟨k, hk, rfl, rfl⟩ := hrel
  by_cases hlt : k < n
  ·obtain ⟨b, off, rfl, hbl, hc⟩ := h.here (k := k) (by rw [marks_lengthI]; exact hlt)
   rw [marks_getDI _ _ _ hlt] at hc
   go_wp2
   exact ⟨⟨k + 1, by omega, by go_num, by go_num⟩, by simp [intOf]; omega⟩
  ·go_wp2
   go_ret
   obtain rfl : k = n := by omega
   exact ⟨rfl, rfl⟩

theorem wrap_intH (x : Int) (h0 : 0 ≤ x) (h1 : x < 9223372036854775808) : IntKind.i64.wrap x = x := by
 have := wrap_small x.toNat (by omega)
 rwa [Int.toNat_of_nonneg h0] at this
set_option maxHeartbeats 4000000 in
set_option maxRecDepth 100000 in
theorem heldRrS_has {rs : List Rec} (hs : ∀ i, i < rs.length → SizeR 1048576 (rs.getD i recZ)) (hl : rs.length ≤ 1048576) (k0 : Int) (hk0 : 0 ≤ k0) (hk1 : k0 ≤ 4620000000000000000) {v : Value} {w : World}
  (h : HasRs w v (markRs rs k0 rs.length)) :
  Calls Tryz.prog 25 #[v, .int .i64 k0] w fun e w' => e = .returned (.int .i64 (posRs rs k0 rs.length)) ∧ w = w' := by
 obtain ⟨a, cap, rfl, _⟩ := h.form
 rw [markRs_length] at *
 have HP := UC (fun i (hi : i ≤ rs.length) => (show k0 ≤ posRs rs k0 i ∧ posRs rs k0 i ≤ 6930000000000000000 from by
  have q := posRs_bound hs k0 i hi
  have : i * 2199025352707 ≤ 1048576 * 2199025352707 := Nat.mul_le_mul_right _ (by omega)
  omega))
 have HS := UC hs
 have HPS := UC (fun i => (show posRs rs k0 (i + 1) = posQ (rs.getD i recZ) (posRs rs k0 i) from rfl))
 have HMG := UC (fun j (hj : j < rs.length) => (show (markRs rs k0 rs.length).getD j recZ = markQ (rs.getD j recZ) (posRs rs k0 j) by rw [markRs_getD rs k0 rs.length j hj, if_pos hj]))
 have HML := UC (markRs_length rs k0 rs.length)
 have H0 := UC h
 have HZ := UC (show posRs rs k0 0 = k0 from rfl)
 clear h hs
 generalize markRs rs k0 rs.length = M at *
 generalize posRs rs k0 = P at *
 generalize hn : rs.length = m at *
 have HN := UC hn
 clear hn
 go_enter Tryz.func25, Tryz.ntmps25
 go_wp2
 go_loopw [1, 5] (fun kk i wr => ∃ k : Nat, k ≤ m ∧ i = .int .i64 k ∧ kk = .int .i64 (P k) ∧ wr = w) (fun _ i _ => m - (intOf i).toNat)
 case atStart => exact ⟨0, Nat.zero_le _, rfl, by rw [UB HZ], rfl⟩
 case round =>
  obtain ⟨k, hk, rfl, rfl, rfl⟩ := hrel
  by_cases hlt : k < m
  ·have hmk := UB HMG k hlt
   obtain ⟨b, off, na, nc, ta, tc, xa, xc, ia, ic, rfl, hbl, hc, hR⟩ := (UB H0).here (k := k) (by rw [UB HML]; exact hlt)
   have hps := UB HPS k
   have hpk := UB HP k (by omega)
   have hsk := UB HS k hlt
   rw [hmk] at hc hR
   generalize rs.getD k recZ = r at *
   have hpb := posQ_bound hsk (P k)
   have q1 : (markQ r (P k)).name.length = r.name.length := markL_length _ _
   have q2 : (markQ r (P k)).to.length = r.to.length := markL_length _ _
   have q3 : (markQ r (P k)).text.length = r.text.length := marks_length _ _
   have q4 : (markQ r (P k)).nums.length = r.nums.length := marks_lengthI _ _
   rw [q1, q2, q3, q4] at hc hR
   have c0 := (VH hc).1
   have c1 : wr.cell? ⟨b, off + k * 7 + 1, none⟩ = some (.int .i64 (posN r (P k))) := (VH hc).2.1
   have c2 : wr.cell? ⟨b, off + k * 7 + 2, none⟩ = some (.int .i64 (posN r (P k) + 1)) := (VH hc).2.2.1
   have c3 : wr.cell? ⟨b, off + k * 7 + 3, none⟩ = some (.int .i64 (posN r (P k) + 2)) := (VH hc).2.2.2.1
   have c4 := (VH hc).2.2.2.2.1
   have c5 := (VH hc).2.2.2.2.2.1
   have c6 := (VH hc).2.2.2.2.2.2
   have R1 : HasL wr (.slice na r.name.length nc) (markL r.name (P k)) := hR.name
   have R2 : HasL wr (.slice ta r.to.length tc) (markL r.to (posN r (P k) + 3)) := hR.to
   have R3 : Has wr (.slice xa r.text.length xc) (marks (posT r (P k)) r.text.length) := hR.text
   have R4 : HasI wr (.slice ia r.nums.length ic) (marksI (posT r (P k) + r.text.length) r.nums.length) := hR.nums
   have M1 := UC (heldByteSS_has (P k) R1 hsk.name hsk.names (by omega) (by omega))
   have M2 := UC (heldByteSS_has (posN r (P k) + 3) R2 hsk.to hsk.tos (by omega) (by omega))
   have hXl := hsk.text
   have hIl := hsk.nums
   have M3 := UC (heldByteS_marks xa xc r.text.length (posT r (P k)) wr (has_lies R3 (by rw [marks_length])) (by omega) (by omega) (by omega))
   have M4 := UC (heldIntS_marks ia ic r.nums.length (posT r (P k) + r.text.length) wr (hasI_lies R4 (by rw [marks_lengthI])) (by omega) (by omega) (by omega))
   have eP1 : pos r.name (P k) r.name.length = posN r (P k) := rfl
   have eP2 : pos r.to (posN r (P k) + 3) r.to.length = posT r (P k) := rfl
   rw [eP1] at M1
   rw [eP2] at M2
   have hpq : posQ r (P k) = posT r (P k) + r.text.length + r.nums.length := rfl
   rw [hpq] at hps hpb
   have HPSK := UC hps
   clear hps hpq eP1 eP2 R1 R2 R3 R4 hR hc q1 q2 q3 q4 hmk hsk
   generalize posT r (P k) = P2 at *
   generalize posN r (P k) = P1 at *
   have hw1 := wrap_intH (P1 + 1) (by omega) (by omega)
   have hw2 : IntKind.i64.wrap (P1 + 1 + 1) = P1 + 2 := by rw [show P1 + 1 + 1 = P1 + 2 by omega]; exact wrap_intH _ (by omega) (by omega)
   have hw3 : IntKind.i64.wrap (P1 + 2 + 1) = P1 + 3 := by rw [show P1 + 2 + 1 = P1 + 3 by omega]; exact wrap_intH _ (by omega) (by omega)
   have n1 : ¬ P1 < 0 := by omega
   have n2 : ¬ P2 < 0 := by omega
   have n3 : ¬ P2 + (r.text.length : Int) < 0 := by omega
   have n4 : ¬ P2 + (r.text.length : Int) + (r.nums.length : Int) < 0 := by omega
   go_wp2_with fail
   refine (UB M1).mono ?_
   rintro e w1 ⟨rfl, rfl⟩
   go_wp2_with fail
   refine (UB M2).mono ?_
   rintro e w2 ⟨rfl, rfl⟩
   go_wp2_with fail
   refine (UB M3).mono ?_
   rintro e w3 ⟨rfl, rfl⟩
   go_wp2_with fail
   refine (UB M4).mono ?_
   rintro e w4 ⟨rfl, rfl⟩
   have hps := UB HPSK
   go_wp2_with fail
   exact ⟨⟨k + 1, by omega, by go_num, by rw [hps], by first | rfl | trivial⟩, by simp [intOf]; omega⟩
  ·obtain rfl : k = m := by omega
   go_wp2
   go_ret
   exact ⟨rfl, rfl⟩
end Go.Proofs.YtaehfeobfkaicaaGreat
