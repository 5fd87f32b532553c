/-
  Contract of the program's hasName of a book. Plain facts: a zone's book has a name just if a record of the zone is under it. Contract of the program's askable. Contracts of the program's lookup and Lookup. Contract of the program's SetOf.
-/
import Derived.Test.YthobpbnaklnbiaaGreatFnLookupsG43
import Derived.Test.YthobpbnaklnbiaaGreatFnLookupsG37
import Derived.Test.YthobpbnaklnbiaaGreatFnLookupsG09
import Derived.Test.YthobpbnaklnbiaaGreatFnLookupsG10
import Derived.Test.YthobpbnaklnbiaaGreatFnLookupsG07
import Derived.Test.YthobpbnaklnbiaaGreatFnLookupsG34
import Derived.Test.YthobpbnaklnbiaaGreatFnLookupsG44
import Derived.Test.YthobpbnaklnbiaaGreatFnLookupsG38
import Derived.Test.YthobpbnaklnbiaaGreatFnLookupsG32
import Derived.Deep.RegionHeld3
import Derived.Test.YthobpbnaklnbiaaGreatFnLookupsG02
namespace Go.Proofs.YthobpbnaklnbiaaGreat
open Go.RowKit
set_option linter.unusedVariables false

set_option maxHeartbeats 2000000 in
set_option maxRecDepth 100000 in
theorem hasNameB_has {n0 b : Nat} {B : Bk} {v : Value} {n : List (List Int)} {w : World} (hB : BookM n0 w b B) (hn : HasL w v n) :
  Calls Tryz.prog 46 #[.map (some b), .agg #[v]] w fun e w' => e = .returned (.bool (hasB n B)) ∧ Below w.heap.size w w' := by
 obtain ⟨a, cap, rfl, _⟩ := hn.form
 obtain ⟨_, ps, hM, hT, _⟩ := hB
 have b0 := UI (w := w) (.cells #[.slice a n.length cap] 25)
 have k0 := heap_alloc_new w (.cells #[.slice a n.length cap] 25)
 have z0 : (w.alloc (.cells #[.slice a n.length cap] 25)).heap.size = w.heap.size + 1 := World.size_alloc w _
 have zb := hM.lt
 obtain ⟨o, hrun, hR, _⟩ := mapV_range (P := Tryz.prog) (t := 52) Tryz.underlying52 (hM.below b0)
 have bo := UI (w := w.alloc (.cells #[.slice a n.length cap] 25)) o
 have k1 := UE bo k0
 have bb := UG b0 bo
 rw [z0] at hR
 have HR := UC hR
 have HN := UC hn
 have HT := UC hT
 have HM := UC hM
 have KN := UC k1
 clear b0 k0 hR hn hT hM k1 bo
 generalize hres : hasB n B = res
 go_enter Tryz.func46, Tryz.ntmps46
 go_wp2_with fail
 clear hrun z0
 generalize (w.alloc (.cells #[.slice a n.length cap] 25)).alloc o = W at *
 go_loopw [] (fun wr => ∃ L, RangeV wr b (w.heap.size + 1) ps L ∧ (∀ q ∈ ps, q ∈ L ∨ ∀ u, lookA q.1 B = some u → hasP n u = false) ∧ (∀ q ∈ L, q ∈ ps) ∧ Below w.heap.size w wr ∧ wr.heap[w.heap.size]? = some (.cells #[.slice a n.length cap] 25)) (fun wr => wr.rangeLeft b (w.heap.size + 1))
 case atStart => exact ⟨ps, UB HR, fun q hq => .inl hq, fun q hq => hq, bb, UB KN⟩
 case round =>
  obtain ⟨L, hrg, hcov, hsub, hbl, hkn⟩ := hrel
  have hle := UC hrg.left_eq
  rcases rangeV_next (P := Tryz.prog) 0 hrg with ⟨rfl, hnx⟩ | ⟨⟨qk, qv⟩, L', w2, hq, hlen, hcv, hsb, hnx, hrg2, g2, hs2, hen⟩
  ·have hno : hasB n B = false := hasB_none (UB HT) (UB HM).apart (fun q hq => (hcov q hq).resolve_left (by simp))
   rw [hno] at hres
   subst hres
   go_wp2
   go_ret
   exact ⟨rfl, hbl⟩
  ·obtain ⟨P, hlk, p, rfl, _, hpb, ps2, hM2, hT2⟩ := two_mem (UB HT) (UB HM).apart (hsub _ hq)
   have bb2 : Below w.heap.size w w2 := hbl.grown g2 hbl.size (fun k e => by simp at e; omega)
   have hkn2 := block_grown g2 hkn (by simp)
   have zp := hM2.lt
   obtain ⟨o2, hrn2, hR2, _⟩ := mapV_range (P := Tryz.prog) (t := 80) Tryz.underlying80 (hM2.kept (bb2.block _ zp))
   have bo2 := UI (w := w2) o2
   have bb3 := UG bb2 bo2
   have hkn3 := UE bo2 hkn2
   have hrg3 := hrg2.below bo2
   have zr := hrg2.lt.2.1
   have zz := bb2.size
   have HC := UC hcov
   have HCV := UC hcv
   have HSB := UC hsb
   have HSU := UC hsub
   have HR2 := UC hR2
   have HR3 := UC hrg3
   have HLK := UC hlk
   have HT2 := UC hT2
   have HM2 := UC hM2
   have KN3 := UC hkn3
   clear hs2 hcov hcv hsb hsub hR2 hrg3 hrg2 hlk hT2 hM2 hkn3 hkn2 hkn bo2 hrg g2 HR KN bb hbl bb2
   go_wp2_with fail
   clear hnx hen hrn2
   generalize hr2 : w2.heap.size = r2 at *
   generalize w2.alloc o2 = w3 at *
   go_loopw [] (fun wr => ∃ L2, RangeV wr p r2 ps2 L2 ∧ (∀ q ∈ ps2, q ∈ L2 ∨ ∀ u, lookA q.1 P = some u → under u.name n = false) ∧ (∀ q ∈ L2, q ∈ ps2) ∧ RangeV wr b (w.heap.size + 1) ps L' ∧ Below w.heap.size w wr ∧ wr.heap[w.heap.size]? = some (.cells #[.slice a n.length cap] 25)) (fun wr => wr.rangeLeft p r2)
   case atStart => exact ⟨ps2, UB HR2, fun q hq => .inl hq, fun q hq => hq, UB HR3, bb3, UB KN3⟩
   case round =>
    obtain ⟨L2, hrg, hcov, hsub, hro, hbl, hkn⟩ := hrel
    have hle2 := UC hrg.left_eq
    rcases rangeV_next (P := Tryz.prog) 0 hrg with ⟨rfl, hnx⟩ | ⟨⟨xk, xv⟩, L2', w4, hq2, hlen2, hcv, hsb, hnx, hrg4, g4, hs4, hen⟩
    ·have hno : hasP n P = false := hasP_none (UB HT2) (UB HM2).apart (fun q hq => (hcov q hq).resolve_left (by simp))
     go_wp2
     go_roundw
     case rel =>
      refine ⟨L', hro, fun q hq => ?_, fun q hq => UB HSU q (UB HSB q hq), hbl, hkn⟩
      rcases UB HC q hq with h | h
      ·rcases UB HCV q h with rfl | h
       ·right
        intro u hu
        have := UB HLK
        simp only at hu
        rw [hu] at this
        cases this
        exact hno
       ·exact .inl h
      ·exact .inr h
     case measure => rw [hro.left_eq, UB hle]; exact hlen
    ·obtain ⟨r, hlr, vn, vt, vx, vi, rfl, hR⟩ := two_mem (UB HT2) (UB HM2).apart (hsub _ hq2)
     obtain ⟨na, nc, rfl, _⟩ := hR.name.form
     obtain ⟨ta, tc, rfl, _⟩ := hR.to.form
     obtain ⟨xa, xc, rfl, _⟩ := hR.text.form
     obtain ⟨ia, ic, rfl, _⟩ := hR.nums.form
     have bb4 : Below w.heap.size w w4 := hbl.grown g4 hbl.size (fun k e => by simp at e; omega)
     have hkn4 := block_grown g4 hkn (by simp; omega)
     have hro4 := hro.kept (g4.block b hro.lt.1 (by simp; omega)) (g4.block (w.heap.size + 1) hro.lt.2.1 (by simp; omega))
     have ba := UI (w := w4) (.cells #[.slice na r.name.length nc, .int .i64 r.type, .int .i64 r.ttl, .int .i64 r.addr, .slice ta r.to.length tc, .slice xa r.text.length xc, .slice ia r.nums.length ic] 39)
     obtain ⟨d0, d1, d2, d3, d4, d5, d6⟩ := UJ (heap_alloc_new w4 (.cells #[.slice na r.name.length nc, .int .i64 r.type, .int .i64 r.ttl, .int .i64 r.addr, .slice ta r.to.length tc, .slice xa r.text.length xc, .slice ia r.nums.length ic] 39))
     have cn := US (UE ba hkn4)
     have HU := UC (implUnder_has ((hR.name.below bb4).below ba) (((UB HN).below bb4).below ba))
     have KK := UC (UE ba hkn4)
     have RO := UC (hro4.below ba)
     have RG := UC (hrg4.below ba)
     have BA := UC (UG bb4 ba)
     have HC2 := UC hcov
     have HCV2 := UC hcv
     have HSB2 := UC hsb
     have HSU2 := UC hsub
     have HLR := UC hlr
     have zz4 := bb4.size
     clear hs4 hR hkn4 hkn hro4 hro hrg4 hrg ba bb4 hbl hcov hcv hsb hsub hlr g4
     go_wp2_with fail
     refine (UB HU).mono ?_
     rintro e w5 ⟨rfl, b5⟩
     clear d0 d1 d2 d3 d4 d5 d6 cn hnx hen HU
     cases hun : under r.name n with
     | true =>
      have hyes : hasB n B = true := hasB_some (UB HLK) (hasP_some (UB HLR) hun)
      rw [hyes] at hres
      subst hres
      go_wp2
      go_ret
      exact ⟨rfl, UG (UB BA) b5⟩
     | false =>
      go_wp2
      go_roundw
      case rel =>
       refine ⟨L2', (UB RG).below b5, fun q hq => ?_, fun q hq => UB HSU2 q (UB HSB2 q hq), (UB RO).below b5, UG (UB BA) b5, UE b5 (UB KK)⟩
       rcases UB HC2 q hq with h | h
       ·rcases UB HCV2 q h with rfl | h
        ·right
         intro u hu
         have := UB HLR
         simp only at hu
         rw [hu] at this
         cases this
         exact hun
        ·exact .inl h
       ·exact .inr h
      case measure => rw [((UB RG).below b5).left_eq, UB hle2]; exact hlen2
theorem book_any {rs : List Rec} {n : List (List Int)} (h : ∀ i, i < rs.length → rrOk (rs.getD i recZ) = true) : hasB n (bookIn rs) = hasAny rs n := by
 have := fold_has (n := n) (B := []) (fun q hq => by simp at hq) (names_ok h) (fun r => strOfNums (keyD r))
 unfold bookIn
 rw [this]
 simp [hasB]
set_option maxHeartbeats 1000000 in
set_option maxRecDepth 100000 in
theorem askable_any (t : Int) (w : World) : Calls Tryz.prog 23 #[.int .i64 t] w fun e w' => e = .returned (.bool (asked t)) ∧ w = w' := by
 have HT := implTypeOk_any t w
 unfold asked
 cases ht : typeOk t with
 | true =>
  rw [ht] at HT
  replace HT := UC HT
  rw [Bool.true_or]
  go_enter Tryz.func23, Tryz.ntmps23
  go_wp2_with fail
  refine (UB HT).mono ?_
  rintro e w1 ⟨rfl, rfl⟩
  go_wp2_with fail
  go_ret
  exact ⟨rfl, rfl⟩
 | false =>
  rw [ht] at HT
  replace HT := UC HT
  rw [Bool.false_or]
  by_cases h5 : t = 255
  ·rw [decide_eq_true h5]
   have h5' : (t == 255) = true := by rw [beq_iff_eq]; exact h5
   clear ht h5
   go_enter Tryz.func23, Tryz.ntmps23
   go_wp2_with fail
   refine (UB HT).mono ?_
   rintro e w1 ⟨rfl, rfl⟩
   go_wp2_with fail
   go_ret
   exact ⟨rfl, rfl⟩
  ·rw [decide_eq_false h5]
   have h5' : (t == 255) = false := by rw [beq_eq_false_iff_ne]; exact h5
   clear ht h5
   go_enter Tryz.func23, Tryz.ntmps23
   go_wp2_with fail
   refine (UB HT).mono ?_
   rintro e w1 ⟨rfl, rfl⟩
   go_wp2_with fail
   go_ret
   exact ⟨rfl, rfl⟩

end Go.Proofs.YthobpbnaklnbiaaGreat

namespace Go.Proofs.YthobpbnaklnbiaaGreat
open Go.RowKit Go.Shelf
set_option linter.unusedVariables false
set_option maxHeartbeats 2000000
set_option maxRecDepth 100000

theorem lookupB_own {n0 b : Nat} {vo v : Value} {o n : List (List Int)} {rs : List Rec} (t : Int) {w : World} (hB : BookM n0 w b (bookIn rs)) (hz : zoneOk o rs = true) (hnm : nameOk n = true) (ho : HasL w vo o) (hn : HasL w v n) :
  Calls Tryz.prog 41 #[.map (some b), .agg #[vo], .agg #[v], .int .i64 t] w fun e w' => ∃ u, e = .returned (.tuple #[u, .int .i64 (lookB o rs n t).2]) ∧ RowO w.heap.size w'.heap.size 39 22 5 3 w' u (lookB o rs n t).1 ∧ Below w.heap.size w w' := by
 obtain ⟨oa, oc, rfl, _⟩ := ho.form
 obtain ⟨a, cap, rfl, hcl, hcm⟩ := hn.form
 obtain ⟨hsz, k0, x0⟩ := box2 w (.cells #[.slice oa o.length oc] 25) #[.slice a n.length cap] 25
 have bb := below2 w (.cells #[.slice oa o.length oc] 25) (.cells #[.slice a n.length cap] 25)
 have HB := UC (hB.below bb)
 have HN := UC (hn.below bb)
 have HO := UC (ho.below bb)
 have KO := UC k0
 have KN := UC x0
 have UN := implUnder_has (hn.below bb) (ho.below bb)
 have HAN := UC (book_any (n := n) (zone_oks hz))
 have S0 := UC (fun (t : Int) (w : World) (v : Value) (hB : BookM n0 w b (bookIn rs)) (hn : HasL w v n) => setB_own t hB hz hnm hn)
 have HD := UC (fun (hu : under n o = true) (w : World) (vo v : Value) (hB : BookM n0 w b (bookIn rs)) (ho : HasL w vo o) (hn : HasL w v n) => handedTo_own hB hz hnm ho hn (under_le hu))
 have c0 := US k0
 have c1 := US x0
 clear hB ho hn k0 x0 hsz hz hnm
 unfold lookB
 cases hu : under n o with
 | false =>
  rw [if_pos rfl]
  rw [hu] at UN
  replace UN := UC UN
  clear hu S0 HD HAN
  go_enter Tryz.func41, Tryz.ntmps41
  go_wp2_with fail
  refine (UB UN).mono ?_
  rintro e w1 ⟨rfl, b1⟩
  go_wp2_with fail
  go_ret2
  exact ⟨_, rfl, RowO.nil _ _ _ _ _ _ _, UG bb b1⟩
 | true =>
  rw [if_neg (fun h => Bool.noConfusion h)]
  rw [hu] at UN
  replace UN := UC UN
  replace HD := UC (UB HD hu)
  clear hu
  generalize handedOf n rs (n.length - o.length) = H at *
  generalize hS1 : selK n t rs rs.length = S1 at *
  generalize hS2 : selK n 5 rs rs.length = S2 at *
  generalize hAny : hasAny rs n = AN at *
  have HS1 := UC hS1
  have HS2 := UC hS2
  clear hS1 hS2 hAny
  generalize hres : (if 0 < H.length then (H, (2 : Int)) else if 0 < S1.length then (S1, 0) else if 0 < S2.length then (S2, 1) else if AN = true then ([], 3) else ([], 4)) = res
  have HRES := UC hres
  clear hres
  go_enter Tryz.func41, Tryz.ntmps41
  go_wp2_with fail
  refine (UB UN).mono ?_
  rintro e w1 ⟨rfl, b1⟩
  replace bb := UG bb b1
  replace HB := UC ((UB HB).below b1)
  replace HN := UC ((UB HN).below b1)
  replace HO := UC ((UB HO).below b1)
  replace KN := UC (UE b1 (UB KN))
  replace KO := UC (UE b1 (UB KO))
  have zb := bb.size
  clear c0 c1 b1 UN
  have c0 := US (UB KO)
  have c1 := US (UB KN)
  have CD := UC (UB HD _ _ _ (UB HB) (UB HO) (UB HN))
  go_wp2_with fail
  refine (UB CD).mono ?_
  rintro e w2 ⟨u2, rfl, o2, b2⟩
  obtain ⟨ua2, uc2, rfl, _⟩ := o2.form
  replace bb := UG bb b2
  replace HB := UC ((UB HB).below b2)
  replace HN := UC ((UB HN).below b2)
  replace KN := UC (UE b2 (UB KN))
  have z2 := b2.size
  clear c0 c1 b2 CD HD HO KO
  generalize hm1 : H.length = m1 at *
  have Hm1 := UC hm1
  clear hm1
  by_cases h1 : 0 < m1
  ·have h1i : (0 : Int) < m1 := by omega
   have hr := UB HRES
   rw [if_pos h1] at hr
   subst hr
   have O2 := UC o2
   clear o2
   go_wp2_with fail
   go_ret2
   exact ⟨_, rfl, (UB O2).wide (by omega) (Nat.le_refl _), bb⟩
  have h1i : ¬ (0 : Int) < m1 := by omega
  clear o2
  have c1 := US (UB KN)
  have C1 := UB S0 t _ _ (UB HB) (UB HN)
  rw [UB HS1] at C1
  replace C1 := UC C1
  go_wp2_with fail
  refine (UB C1).mono ?_
  rintro e w3 ⟨u3, rfl, o3, b3⟩
  obtain ⟨ua3, uc3, rfl, _⟩ := o3.form
  replace bb := UG bb b3
  replace HB := UC ((UB HB).below b3)
  replace HN := UC ((UB HN).below b3)
  replace KN := UC (UE b3 (UB KN))
  have z3 := b3.size
  clear c1 b3 C1
  generalize hm2 : S1.length = m2 at *
  have Hm2 := UC hm2
  clear hm2
  by_cases h2 : 0 < m2
  ·have h2i : (0 : Int) < m2 := by omega
   have hr := UB HRES
   rw [if_neg h1, if_pos h2] at hr
   subst hr
   have O3 := UC o3
   clear o3
   go_wp2_with fail
   go_ret2
   exact ⟨_, rfl, (UB O3).wide (by omega) (Nat.le_refl _), bb⟩
  have h2i : ¬ (0 : Int) < m2 := by omega
  clear o3
  have c1 := US (UB KN)
  have C2 := UB S0 5 _ _ (UB HB) (UB HN)
  rw [UB HS2] at C2
  replace C2 := UC C2
  go_wp2_with fail
  refine (UB C2).mono ?_
  rintro e w4 ⟨u4, rfl, o4, b4⟩
  obtain ⟨ua4, uc4, rfl, _⟩ := o4.form
  replace bb := UG bb b4
  replace HB := UC ((UB HB).below b4)
  replace HN := UC ((UB HN).below b4)
  replace KN := UC (UE b4 (UB KN))
  have z4 := b4.size
  clear c1 b4 C2
  generalize hm3 : S2.length = m3 at *
  have Hm3 := UC hm3
  clear hm3
  by_cases h3 : 0 < m3
  ·have h3i : (0 : Int) < m3 := by omega
   have hr := UB HRES
   rw [if_neg h1, if_neg h2, if_pos h3] at hr
   subst hr
   have O4 := UC o4
   clear o4
   go_wp2_with fail
   go_ret2
   exact ⟨_, rfl, (UB O4).wide (by omega) (Nat.le_refl _), bb⟩
  have h3i : ¬ (0 : Int) < m3 := by omega
  clear o4
  have c1 := US (UB KN)
  have C3 := hasNameB_has (UB HB) (UB HN)
  rw [UB HAN] at C3
  have hr := UB HRES
  rw [if_neg h1, if_neg h2, if_neg h3] at hr
  cases AN with
  | true =>
   rw [if_pos rfl] at hr
   subst hr
   replace C3 := UC C3
   go_wp2_with fail
   refine (UB C3).mono ?_
   rintro e w5 ⟨rfl, b5⟩
   go_wp2_with fail
   go_ret2
   exact ⟨_, rfl, RowO.nil _ _ _ _ _ _ _, UG bb b5⟩
  | false =>
   rw [if_neg (fun h => Bool.noConfusion h)] at hr
   subst hr
   replace C3 := UC C3
   go_wp2_with fail
   refine (UB C3).mono ?_
   rintro e w5 ⟨rfl, b5⟩
   go_wp2_with fail
   go_ret2
   exact ⟨_, rfl, RowO.nil _ _ _ _ _ _ _, UG bb b5⟩

theorem implLookup_own {vo vr v : Value} {o n : List (List Int)} {rs : List Rec} (t : Int) {w : World} (h : HasZ w vo vr o rs) (hn : HasL w v n) :
  Calls Tryz.prog 15 #[.agg #[vo, vr], .agg #[v], .int .i64 t] w fun e w' => ∃ u, e = .returned (.tuple #[u, .int .i64 (lookupOf o rs n t).2]) ∧ RowO w.heap.size w'.heap.size 39 22 5 3 w' u (lookupOf o rs n t).1 ∧ Below w.heap.size w w' := by
 obtain ⟨oa, oc, rfl, _⟩ := h.name.form
 obtain ⟨ra, rc, rfl, _⟩ := h.recs.form
 obtain ⟨a, cap, rfl, _⟩ := hn.form
 obtain ⟨hsz, k0, x0⟩ := box2 w (.cells #[.slice oa o.length oc, .slice ra rs.length rc] 28) #[.slice a n.length cap] 25
 have bb := below2 w (.cells #[.slice oa o.length oc, .slice ra rs.length rc] 28) (.cells #[.slice a n.length cap] 25)
 have HH := UC (h.below bb)
 have HN := UC (hn.below bb)
 have HO := implZoneOk_has (h.below bb)
 have KZ := UC k0
 have KN := UC x0
 obtain ⟨c0, c1⟩ := UM k0
 clear h hn hsz k0 x0
 generalize hres : lookupOf o rs n t = res
 unfold lookupOf at hres
 cases hz : zoneOk o rs with
 | false =>
  rw [if_neg (fun q => by rw [hz] at q; cases q.1)] at hres
  subst hres
  rw [hz] at HO
  replace HO := UC HO
  go_enter Tryz.func15, Tryz.ntmps15
  go_wp2_with fail
  refine (UB HO).mono ?_
  rintro e w1 ⟨rfl, b1⟩
  go_wp2_with fail
  go_ret2
  exact ⟨_, rfl, RowO.nil _ _ _ _ _ _ _, UG bb b1⟩
 | true =>
  rw [hz] at HO
  replace HO := UC HO
  cases hnm : nameOk n with
  | false =>
   rw [if_neg (fun q => by rw [hnm] at q; cases q.2.1)] at hres
   subst hres
   go_enter Tryz.func15, Tryz.ntmps15
   go_wp2_with fail
   refine (UB HO).mono ?_
   rintro e w1 ⟨rfl, b1⟩
   have HM := VP ((UB HN).below b1)
   rw [hnm] at HM
   replace HM := UC HM
   have d2 := US (UE b1 (UB KN))
   replace bb := UG bb b1
   clear c0 c1
   go_wp2_with fail
   refine (UB HM).mono ?_
   rintro e w2 ⟨rfl, b2⟩
   go_wp2_with fail
   go_ret2
   exact ⟨_, rfl, RowO.nil _ _ _ _ _ _ _, UG bb b2⟩
  | true =>
   cases hq : asked t with
   | false =>
    rw [if_neg (fun q => by rw [hq] at q; cases q.2.2)] at hres
    subst hres
    have AK := UC (fun w => askable_any t w)
    rw [hq] at AK
    clear hq
    go_enter Tryz.func15, Tryz.ntmps15
    go_wp2_with fail
    refine (UB HO).mono ?_
    rintro e w1 ⟨rfl, b1⟩
    have HM := VP ((UB HN).below b1)
    rw [hnm] at HM
    replace HM := UC HM
    have d2 := US (UE b1 (UB KN))
    replace bb := UG bb b1
    clear c0 c1
    go_wp2_with fail
    refine (UB HM).mono ?_
    rintro e w2 ⟨rfl, b2⟩
    go_wp2_with fail
    refine (UB AK _).mono ?_
    rintro e w3 ⟨rfl, rfl⟩
    go_wp2_with fail
    go_ret2
    exact ⟨_, rfl, RowO.nil _ _ _ _ _ _ _, UG bb b2⟩
   | true =>
    rw [if_pos ⟨hz, hnm, hq⟩] at hres
    have AK := UC (fun w => askable_any t w)
    rw [hq] at AK
    have LK := UC (fun (n0 b : Nat) (w : World) (vo v : Value) (hB : BookM n0 w b (bookIn rs)) (ho : HasL w vo o) (hn : HasL w v n) => lookupB_own t hB hz hnm ho hn)
    rw [hres] at LK
    have HOK := UC (zone_oks hz)
    have h60 := (zone_short hz).2.2
    clear hq hres
    go_enter Tryz.func15, Tryz.ntmps15
    go_wp2_with fail
    refine (UB HO).mono ?_
    rintro e w1 ⟨rfl, b1⟩
    have HM := VP ((UB HN).below b1)
    rw [hnm] at HM
    replace HM := UC HM
    have d2 := US (UE b1 (UB KN))
    replace bb := UG bb b1
    replace HH := UC ((UB HH).below b1)
    replace HN := UC ((UB HN).below b1)
    replace KZ := UC (UE b1 (UB KZ))
    replace KN := UC (UE b1 (UB KN))
    clear c0 c1 b1 HO
    go_wp2_with fail
    refine (UB HM).mono ?_
    rintro e w2 ⟨rfl, b2⟩
    have b3 := UG b2 (UX (w := w2))
    replace bb := UG bb b3
    replace HH := UC ((UB HH).below b3)
    replace HN := UC ((UB HN).below b3)
    replace KZ := UC (UE b3 (UB KZ))
    replace KN := UC (UE b3 (UB KN))
    clear d2 b2 b3 HM
    go_wp2_with fail
    refine (UB AK _).mono ?_
    rintro e w3 ⟨rfl, rfl⟩
    go_wp2_with fail
    go_region_held3 (fun w' => (w'.cell? ⟨w.heap.size, 0, none⟩ = some (.slice oa o.length oc) ∧ w'.cell? ⟨w.heap.size, 1, none⟩ = some (.slice ra rs.length rc)) ∧ w'.cell? ⟨w.heap.size + 1, 0, none⟩ = some (.slice a n.length cap))
     (first | exact ⟨UM (UB KZ), US (UB KN)⟩ | exact ⟨UM (UE q5 (UB KZ)), US (UE q5 (UB KN))⟩ | exact ⟨UM (UE b4 (UB KZ)), US (UE b4 (UB KN))⟩)
     (first
     | (go_at_call 24; refine (bookOf_has (UB HH) (UB HOK) (by omega)).mono ?_; rintro e w4 ⟨rfl, hB4, b4⟩)
     | (go_at_call 41; refine (UB LK _ _ _ _ _ hB4 ((UB HH).name.below b4) ((UB HN).below b4)).mono ?_; rintro e w5 ⟨u5, rfl, o5, b5⟩; have q5 := UG b4 b5))
    have z4 := b4.size
    have zz := bb.size
    go_wp2_with fail
    go_ret2
    exact ⟨_, rfl, o5.wide (by omega) (Nat.le_refl _), UG bb q5⟩
end Go.Proofs.YthobpbnaklnbiaaGreat

namespace Go.Proofs.YthobpbnaklnbiaaGreat
open Go.RowKit Go.Shelf
set_option linter.unusedVariables false

set_option maxHeartbeats 2000000 in
set_option maxRecDepth 100000 in
theorem implSetOf_own {vo vr v : Value} {o n : List (List Int)} {rs : List Rec} (t : Int) {w : World} (h : HasZ w vo vr o rs) (hn : HasL w v n) :
  Calls Tryz.prog 10 #[.agg #[vo, vr], .agg #[v], .int .i64 t] w fun e w' => ∃ u, e = .returned u ∧ RowO w.heap.size w'.heap.size 39 22 5 3 w' u (setOf o rs n t) ∧ Below w.heap.size w w' := by
 obtain ⟨oa, oc, rfl, _⟩ := h.name.form
 obtain ⟨ra, rc, rfl, _⟩ := h.recs.form
 obtain ⟨a, cap, rfl, _⟩ := hn.form
 obtain ⟨hsz, k0, x0⟩ := box2 w (.cells #[.slice oa o.length oc, .slice ra rs.length rc] 28) #[.slice a n.length cap] 25
 have bb := below2 w (.cells #[.slice oa o.length oc, .slice ra rs.length rc] 28) (.cells #[.slice a n.length cap] 25)
 have HH := UC (h.below bb)
 have HN := UC (hn.below bb)
 have HO := implZoneOk_has (h.below bb)
 have KZ := UC k0
 have KN := UC x0
 obtain ⟨c0, c1⟩ := UM k0
 clear h hn hsz k0 x0
 generalize hres : setOf o rs n t = res
 unfold setOf at hres
 cases hz : zoneOk o rs with
 | false =>
  rw [if_neg (fun q => by rw [hz] at q; cases q.1)] at hres
  subst hres
  rw [hz] at HO
  replace HO := UC HO
  go_enter Tryz.func10, Tryz.ntmps10
  go_wp2_with fail
  refine (UB HO).mono ?_
  rintro e w1 ⟨rfl, b1⟩
  go_wp2_with fail
  go_ret
  exact ⟨_, rfl, RowO.nil _ _ _ _ _ _ _, UG bb b1⟩
 | true =>
  rw [hz] at HO
  replace HO := UC HO
  cases hnm : nameOk n with
  | false =>
   rw [if_neg (fun q => by rw [hnm] at q; cases q.2)] at hres
   subst hres
   go_enter Tryz.func10, Tryz.ntmps10
   go_wp2_with fail
   refine (UB HO).mono ?_
   rintro e w1 ⟨rfl, b1⟩
   have HM := VP ((UB HN).below b1)
   rw [hnm] at HM
   replace HM := UC HM
   have d2 := US (UE b1 (UB KN))
   replace bb := UG bb b1
   clear c0 c1
   go_wp2_with fail
   refine (UB HM).mono ?_
   rintro e w2 ⟨rfl, b2⟩
   go_wp2_with fail
   go_ret
   exact ⟨_, rfl, RowO.nil _ _ _ _ _ _ _, UG bb b2⟩
  | true =>
   rw [if_pos ⟨hz, hnm⟩] at hres
   have hpg := page_of_zone hz hnm
   have hsh := ofName_short (n := n) hz
   have hset := set_is hz hnm t
   rw [hres] at hset
   have HOK := UC (zone_oks hz)
   have h60 := (zone_short hz).2.2
   have hsn := short_name hnm
   clear hres
   go_enter Tryz.func10, Tryz.ntmps10
   go_wp2_with fail
   refine (UB HO).mono ?_
   rintro e w1 ⟨rfl, b1⟩
   have HM := VP ((UB HN).below b1)
   rw [hnm] at HM
   replace HM := UC HM
   have d2 := US (UE b1 (UB KN))
   replace bb := UG bb b1
   replace HH := UC ((UB HH).below b1)
   replace HN := UC ((UB HN).below b1)
   replace KZ := UC (UE b1 (UB KZ))
   replace KN := UC (UE b1 (UB KN))
   clear c0 c1 b1 HO
   go_wp2_with fail
   refine (UB HM).mono ?_
   rintro e w2 ⟨rfl, b2⟩
   have b3 := UG b2 (UX (w := w2))
   replace bb := UG bb b3
   replace HH := UC ((UB HH).below b3)
   replace HN := UC ((UB HN).below b3)
   replace KZ := UC (UE b3 (UB KZ))
   replace KN := UC (UE b3 (UB KN))
   clear d2 b2 b3 HM
   have HPG := UC hpg
   have HSH := UC hsh
   have HSET := UC hset
   clear hpg hsh hset
   go_wp2_with fail
   go_region_held3 (fun w' => (w'.cell? ⟨w.heap.size, 0, none⟩ = some (.slice oa o.length oc) ∧ w'.cell? ⟨w.heap.size, 1, none⟩ = some (.slice ra rs.length rc)) ∧ w'.cell? ⟨w.heap.size + 1, 0, none⟩ = some (.slice a n.length cap))
    (first | exact ⟨UM (UB KZ), US (UB KN)⟩ | exact ⟨UM (UE q5 (UB KZ)), US (UE q5 (UB KN))⟩ | exact ⟨UM (UE b4 (UB KZ)), US (UE b4 (UB KN))⟩)
    (first
    | (go_at_call 24; refine (bookOf_has (UB HH) (UB HOK) (by omega)).mono ?_; rintro e w4 ⟨rfl, hB4, b4⟩)
    | (go_at_call 25; refine ((callsIn_wide (n := 7)).1 (set_in t hB4 ((UB HN).below b4) hsn (by unfold bookIn; rw [UB HPG]; exact (UB HSH).1) (by unfold bookIn; rw [UB HPG]; exact (UB HSH).2))).mono ?_; rintro e w5 ⟨u5, rfl, o5, b5⟩; have q5 := UG b4 b5))
   unfold bookIn at o5
   rw [UB HPG, UB HSET] at o5
   have z4 := b4.size
   have zz := bb.size
   go_wp2_with fail
   go_ret
   exact ⟨_, rfl, o5.wide (by omega) (Nat.le_refl _), UG bb q5⟩
end Go.Proofs.YthobpbnaklnbiaaGreat
