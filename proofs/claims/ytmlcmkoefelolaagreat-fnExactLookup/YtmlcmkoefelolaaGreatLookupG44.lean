/-
  Contract of the specification's l4asked. Contracts of the specification's l5cut, l5lookup and Lookup. The walk of laws.FnExactLookup.
-/
import Derived.Test.YtmlcmkoefelolaaGreatLookupG33
import Derived.Test.YtmlcmkoefelolaaGreatLookupG41
import Derived.Test.YtmlcmkoefelolaaGreatLookupG37
import Derived.Test.YtmlcmkoefelolaaGreatLookupG38
import Derived.Test.YtmlcmkoefelolaaGreatLookupG40
import Derived.Test.YtmlcmkoefelolaaGreatLookupG43
import Derived.Test.YtmlcmkoefelolaaGreatLookupG34
import Derived.Test.YtmlcmkoefelolaaGreatLookupG04
import Derived.Test.YtmlcmkoefelolaaGreatLookupG02
import Derived.Test.YtmlcmkoefelolaaGreatLookupG05
import Derived.Test.YtmlcmkoefelolaaGreatLookupG11
import Derived.Test.YtmlcmkoefelolaaGreatLookupG10
import Derived.Test.YtmlcmkoefelolaaGreatLookupG07
import Derived.Test.YtmlcmkoefelolaaGreatLookupG36
import Derived.Deep.RegionHeld3
import Derived.Deep.RegionWith
namespace Go.Proofs.YtmlcmkoefelolaaGreat
open Go.RowKit
set_option linter.unusedVariables false

set_option maxHeartbeats 1000000 in
set_option maxRecDepth 100000 in
theorem l4asked_any (t : Int) (w : World) : Calls Tryz.prog 77 #[.int .i64 t] w fun e w' => e = .returned (.bool (asked t)) ∧ w = w' := by
 have HT := specTypeOk_any t w
 unfold asked
 cases ht : typeOk t with
 | true =>
  rw [ht] at HT
  replace HT := hide HT
  rw [Bool.true_or]
  go_enter Tryz.func77, Tryz.ntmps77
  go_wp2_with fail
  refine (unhide HT).mono ?_
  rintro e w1 ⟨rfl, rfl⟩
  go_wp2_with fail
  go_ret
  exact ⟨rfl, rfl⟩
 | false =>
  rw [ht] at HT
  replace HT := hide HT
  rw [Bool.false_or]
  by_cases h5 : t = 255
  ·rw [decide_eq_true h5]
   have h5' : (t == 255) = true := by rw [beq_iff_eq]; exact h5
   clear ht h5
   go_enter Tryz.func77, Tryz.ntmps77
   go_wp2_with fail
   refine (unhide HT).mono ?_
   rintro e w1 ⟨rfl, rfl⟩
   go_wp2_with fail
   go_ret
   exact ⟨rfl, rfl⟩
  ·rw [decide_eq_false h5]
   have h5' : (t == 255) = false := by rw [beq_eq_false_iff_ne]; exact h5
   clear ht h5
   go_enter Tryz.func77, Tryz.ntmps77
   go_wp2_with fail
   refine (unhide HT).mono ?_
   rintro e w1 ⟨rfl, rfl⟩
   go_wp2_with fail
   go_ret
   exact ⟨rfl, rfl⟩

end Go.Proofs.YtmlcmkoefelolaaGreat

namespace Go.Proofs.YtmlcmkoefelolaaGreat
open Go.RowKit
set_option linter.unusedVariables false

theorem zone_origin {o : List (List Int)} {rs : List Rec} (hz : zoneOk o rs = true) : nameOk o = true := (of_decide_eq_true hz).1
/-- The name that is handed to others; the root where there is none. -/
def cutName (n : List (List Int)) (c : Option Nat) : List (List Int) := match c with | none => [] | some j => n.drop j

set_option maxHeartbeats 2000000 in
set_option maxRecDepth 100000 in
theorem l5cut_has {vo vr v : Value} {o n : List (List Int)} {rs : List Rec} {w : World} (h : HasZ w vo vr o rs) (hn : HasL w v n) (hle : o.length ≤ n.length) (hn6 : n.length ≤ 6) (h60 : rs.length ≤ 60) (hs : ∀ k, k < rs.length → (rs.getD k recZ).name.length ≤ 1048576) :
  Calls Tryz.prog 112 #[.agg #[vo, vr], .agg #[v]] w fun e w' => ∃ u, e = .returned (.tuple #[.agg #[u], .bool (cutOf n rs (n.length - o.length)).isSome]) ∧ HasL w' u (cutName n (cutOf n rs (n.length - o.length))) ∧ Below w.heap.size w w' := by
 obtain ⟨oa, oc, rfl, _⟩ := h.name.form
 obtain ⟨ra, rc, rfl, _⟩ := h.recs.form
 obtain ⟨a, cap, rfl, hcl, hcm⟩ := hn.form
 obtain ⟨hsz, k0, x0⟩ := box2 w (.cells #[.slice oa o.length oc, .slice ra rs.length rc] 34) #[.slice a n.length cap] 32
 have b0 := below2 w (.cells #[.slice oa o.length oc, .slice ra rs.length rc] 34) (.cells #[.slice a n.length cap] 32)
 have b1 := below_alloc (w := (w.alloc (.cells #[.slice oa o.length oc, .slice ra rs.length rc] 34)).alloc (.cells #[.slice a n.length cap] 32)) (.cells #[.slice none 0 0] 32)
 have r0 := heap_alloc_new ((w.alloc (.cells #[.slice oa o.length oc, .slice ra rs.length rc] 34)).alloc (.cells #[.slice a n.length cap] 32)) (.cells #[.slice none 0 0] 32)
 rw [hsz] at r0
 have bb := below_next b0 b1
 have KZ := hide (block_kept b1 k0)
 have KN := hide (block_kept b1 x0)
 have KR := hide r0
 have HH := hide (h.below bb)
 have HN := hide hn
 have HS := hide hs
 obtain ⟨c0, c0'⟩ := cells2 (unhide KZ)
 have c1 := block_one (unhide KN)
 clear h hn k0 x0 r0 hsz hs b0 b1
 generalize hK : n.length - o.length = K at *
 generalize hR : cutOf n rs K = R
 have HR := hide hR
 have s1 : (n.length : Int) - o.length = K := by omega
 have wK : IntKind.i64.wrap (K : Int) = K := wrap_small K (by omega)
 have wK1 : IntKind.i64.wrap ((K : Int) - 1) = (K : Int) - 1 := by
  rcases Nat.eq_zero_or_pos K with h0 | h0
  ·subst h0; rfl
  ·have e : ((K : Int) - 1) = ((K - 1 : Nat) : Int) := by omega
   rw [e]; exact wrap_small _ (by omega)
 have hKn : K ≤ n.length := by omega
 clear hK hR
 go_enter Tryz.func112, Tryz.ntmps112
 go_wp2_with fail
 clear s1 wK wK1 c0 c0' c1
 generalize ((w.alloc (.cells #[.slice oa o.length oc, .slice ra rs.length rc] 34)).alloc (.cells #[.slice a n.length cap] 32)).alloc (.cells #[.slice none 0 0] 32) = W at *
 go_loopw [6] (fun i wr => ∃ k : Nat, k ≤ K ∧ i = .int .i64 ((k : Int) - 1) ∧ cutOf n rs k = R ∧ Below W.heap.size W wr) (fun i _ => (intOf i + 1).toNat)
 case atStart => exact ⟨K, Nat.le_refl _, rfl, unhide HR, Below.refl _ _⟩
 case round =>
  obtain ⟨k, hk, rfl, hh, hbw⟩ := hrel
  have zW := bb.size
  have zr := hbw.size
  have kr := block_kept hbw (unhide KR)
  cases k with
  | zero =>
   obtain rfl : R = none := hh.symm
   have c1 := block_one kr
   have f1 := block_frozen kr 0
   have M1 := hide (block_set kr (.slice none 0 0))
   have hb' := below_next bb hbw
   have HB' := hide hb'
   clear kr hb'
   go_wp2_with fail
   refine bodyPost_ret (results_cell_tmp_row rfl _ _ (w.heap.size + 2) 32 #[.slice none 0 0] (0, 0) _ rfl (unhide M1) Tryz.underlying32 rfl (by kernel_rfl)) rfl ?_
   exact ⟨_, rfl, .inl ⟨rfl, rfl⟩, (unhide HB').setCell (by show w.heap.size ≤ w.heap.size + 2; omega) _⟩
  | succ j =>
   have e1 : (((j + 1 : Nat) : Int) - 1) = (j : Int) := by omega
   rw [e1]
   clear e1
   have hj0 : ¬ (j : Int) < 0 := by omega
   have hjn : j < n.length := by omega
   have hd := HasL.drop (k := j) (unhide HN) rfl (by omega)
   rcases hd with ⟨_, hm0, _⟩ | ⟨g, off, rfl, hd⟩
   ·omega
   ·rw [if_neg (by omega)] at hd
    have hlen : n.length - j = (n.drop j).length := by simp
    have HD := hide hd
    have b2 := below_alloc (w := wr) (.cells #[.slice (some ⟨g, off + j, none⟩) (n.length - j) (cap - j)] 32)
    have x2 := heap_alloc_new wr (.cells #[.slice (some ⟨g, off + j, none⟩) (n.length - j) (cap - j)] 32)
    have hd2 := hd.below (below_next (below_next bb hbw) b2)
    have SB := l5all_has 2 ((unhide HH).below (below_next hbw b2)) (Below.refl _ _) hd2 h60 (by rw [← hlen]; omega) (unhide HS)
    unfold cutOf at hh
    have HSD := hide (show cutName n (some j) = n.drop j from rfl)
    generalize selK (n.drop j) 2 rs rs.length = sel at *
    generalize n.drop j = nd at *
    have HH2 := hide hh
    replace SB := hide SB
    have cN := block_one (block_kept hbw (unhide KN))
    obtain ⟨c0, c0'⟩ := cells2 (block_kept b2 (block_kept hbw (unhide KZ)))
    have KX := hide x2
    have c2 := block_one x2
    have jc : j ≤ cap := by omega
    have jcc : ¬ cap = j := by omega
    have jl : j ≤ n.length := by omega
    have wj1 : IntKind.i64.wrap ((j : Int) - 1) = (j : Int) - 1 := by
     rcases Nat.eq_zero_or_pos j with h0 | h0
     ·subst h0; rfl
     ·have e : ((j : Int) - 1) = ((j - 1 : Nat) : Int) := by omega
      rw [e]; exact wrap_small _ (by omega)
    have HJ := hide wj1
    have B2 := hide b2
    have KRR := hide (block_kept b2 kr)
    have zb2 := b2.size
    clear hd hd2 hlen hh wj1 b2 x2 kr
    go_wp2_with fail
    clear cN c0 c0' c2
    generalize wr.alloc (.cells #[.slice (some ⟨g, off + j, none⟩) (n.length - j) (cap - j)] 32) = wq at *
    refine (unhide SB).mono ?_
    rintro e w2 ⟨u2, B3, rfl, r3, b3⟩
    obtain ⟨ua, uc, rfl, _⟩ := (r3.has b3).form
    generalize hml : sel.length = ml at *
    have HML := hide hml
    have hb3 := below_next (below_next (below_next bb hbw) (unhide B2)) b3
    have hbw3 := below_next (below_next hbw (unhide B2)) b3
    have kr3 := block_kept b3 (unhide KRR)
    have kx3 := block_kept b3 (unhide KX)
    clear hml r3
    by_cases hp : 0 < ml
    ·have hpi : (0 : Int) < ml := by omega
     have hr : some j = R := by have := unhide HH2; rwa [if_pos hp] at this
     subst hr
     have cx := block_one kx3
     have c1 := block_one kr3
     have f1 := block_frozen kr3 0
     have M1 := hide (block_set kr3 (.slice (some ⟨g, off + j, none⟩) (n.length - j) (cap - j)))
     have HB3 := hide hb3
     clear hb3 hbw3 kr3 kx3 b3
     go_wp2_with fail
     refine bodyPost_ret (results_cell_tmp_row rfl _ _ (w.heap.size + 2) 32 #[.slice (some ⟨g, off + j, none⟩) (n.length - j) (cap - j)] (0, 0) _ rfl (unhide M1) Tryz.underlying32 rfl (by kernel_rfl)) rfl ?_
     have bf : Below w.heap.size w (w2.setCell ⟨w.heap.size + 2, 0, none⟩ (.slice (some ⟨g, off + j, none⟩) (n.length - j) (cap - j))) := (unhide HB3).setCell (by show w.heap.size ≤ w.heap.size + 2; omega) _
     exact ⟨_, rfl, by rw [unhide HSD]; exact (unhide HD).below bf, bf⟩
    ·have hpi : ¬ (0 : Int) < ml := by omega
     have hr : cutOf n rs j = R := by have := unhide HH2; rwa [if_neg hp] at this
     have wj1 := unhide HJ
     clear kr3 kx3 hb3
     go_wp2_with fail
     go_roundw
     case rel => exact ⟨j, by omega, rfl, hr, hbw3⟩
     case measure => simp [intOf]

/-- What l5all gives, as a row that is only looked at. -/
theorem l5all_row {vo vr vq : Value} {o n : List (List Int)} {rs : List Rec} {w : World} (t : Int) (h : HasZ w vo vr o rs) (hq : HasL w vq n) (h60 : rs.length ≤ 60) (hn : n.length ≤ 1048576) (hs : ∀ k, k < rs.length → (rs.getD k recZ).name.length ≤ 1048576) :
  Calls Tryz.prog 46 #[.agg #[vo, vr], .agg #[vq], .int .i64 t] w fun e w' => ∃ v', e = .returned v' ∧ HasRs w' v' (selK n t rs rs.length) ∧ Below w.heap.size w w' := by
 refine (l5all_has t h (Below.refl _ _) hq h60 hn hs).mono ?_
 rintro e w' ⟨v', B, rfl, r, b⟩
 exact ⟨v', rfl, r.has b, b⟩

set_option maxHeartbeats 2000000 in
set_option maxRecDepth 100000 in
theorem l5lookup_has {vo vr v : Value} {o n : List (List Int)} {rs : List Rec} (t : Int) {w : World} (h : HasZ w vo vr o rs) (hn : HasL w v n) (hz : zoneOk o rs = true) (hnm : nameOk n = true) (hs : ∀ k, k < rs.length → (rs.getD k recZ).name.length ≤ 1048576) :
  Calls Tryz.prog 79 #[.agg #[vo, vr], .agg #[v], .int .i64 t] w fun e w' => ∃ u, e = .returned (.tuple #[u, .int .i64 (lookB o rs n t).2]) ∧ HasRs w' u (lookB o rs n t).1 ∧ Below w.heap.size w w' := by
 obtain ⟨oa, oc, rfl, _⟩ := h.name.form
 obtain ⟨ra, rc, rfl, _⟩ := h.recs.form
 obtain ⟨a, cap, rfl, hcl, hcm⟩ := hn.form
 obtain ⟨hsz, k0, x0⟩ := box2 w (.cells #[.slice oa o.length oc, .slice ra rs.length rc] 34) #[.slice a n.length cap] 32
 have bb := below2 w (.cells #[.slice oa o.length oc, .slice ra rs.length rc] 34) (.cells #[.slice a n.length cap] 32)
 have h60 := (zone_short hz).2.2
 have hn6 := (nameOk_parts hnm).1
 have HH := hide (h.below bb)
 have HN := hide (hn.below bb)
 have KZ := hide k0
 have KN := hide x0
 have hoo := zone_origin hz
 have UN := l2under_has (hn.below bb) (h.below bb).name hn6 (nameOk_parts hoo).1
 rw [show endsWith n o = under n o by unfold under; rw [hnm, hoo]; rfl] at UN
 have S0 := hide (fun (t : Int) (w : World) (vo vr v : Value) (h : HasZ w vo vr o rs) (n' : List (List Int)) (h6 : n'.length ≤ 6) (hn : HasL w v n') => l5all_row t h hn h60 (by omega) hs)
 have CU := hide (fun (hu : under n o = true) (w : World) (vo vr v : Value) (h : HasZ w vo vr o rs) (hn : HasL w v n) => l5cut_has h hn (under_le hu) hn6 h60 hs)
 have HA := hide (fun (w : World) (vo vr v : Value) (h : HasZ w vo vr o rs) (hn : HasL w v n) => l5has_has h hn (fun i hi => (names_ok (zone_oks hz)) _ (by rw [List.getD_eq_getElem?_getD, List.getElem?_eq_getElem hi]; exact List.getElem_mem hi)) hnm h60)
 obtain ⟨c0, c0'⟩ := cells2 k0
 have c1 := block_one x0
 have hcut := handed_cut n rs (n.length - o.length)
 clear h hn k0 x0 hsz hz hnm hs hoo
 unfold lookB
 cases hu : under n o with
 | false =>
  rw [if_pos rfl]
  rw [hu] at UN
  replace UN := hide UN
  clear hu S0 CU HA hcut
  go_enter Tryz.func79, Tryz.ntmps79
  go_wp2_with fail
  refine (unhide UN).mono ?_
  rintro e w1 ⟨rfl, b1⟩
  go_wp2_with fail
  go_ret2
  exact ⟨_, rfl, .inl ⟨rfl, rfl⟩, below_next bb b1⟩
 | true =>
  rw [if_neg (fun h => Bool.noConfusion h)]
  rw [hu] at UN
  replace UN := hide UN
  replace CU := hide (unhide CU hu)
  clear hu
  generalize handedOf n rs (n.length - o.length) = H at *
  generalize hcc : cutOf n rs (n.length - o.length) = C at *
  generalize hS1 : selK n t rs rs.length = S1 at *
  generalize hS2 : selK n 5 rs rs.length = S2 at *
  generalize hAny : hasAny rs n = AN at *
  have HCUT := hide hcut
  have HS1 := hide hS1
  have HS2 := hide hS2
  clear hS1 hS2 hAny hcc hcut
  generalize hres : (if 0 < H.length then (H, (2 : Int)) else if 0 < S1.length then (S1, 0) else if 0 < S2.length then (S2, 1) else if AN = true then ([], 3) else ([], 4)) = res
  have HRES := hide hres
  clear hres
  go_enter Tryz.func79, Tryz.ntmps79
  go_wp2_with fail
  refine (unhide UN).mono ?_
  rintro e w1 ⟨rfl, b1⟩
  replace bb := below_next bb b1
  replace HH := hide ((unhide HH).below b1)
  replace HN := hide ((unhide HN).below b1)
  replace KN := hide (block_kept b1 (unhide KN))
  replace KZ := hide (block_kept b1 (unhide KZ))
  clear c0 c0' c1 b1 UN
  obtain ⟨c0, c0'⟩ := cells2 (unhide KZ)
  have c1 := block_one (unhide KN)
  have CD := hide (unhide CU _ _ _ _ (unhide HH) (unhide HN))
  go_wp2_with fail
  refine (unhide CD).mono ?_
  rintro e w2 ⟨u2, rfl, o2, b2⟩
  obtain ⟨ua2, uc2, rfl, _⟩ := o2.form
  replace bb := below_next bb b2
  replace HH := hide ((unhide HH).below b2)
  replace HN := hide ((unhide HN).below b2)
  replace KN := hide (block_kept b2 (unhide KN))
  replace KZ := hide (block_kept b2 (unhide KZ))
  clear c0 c0' c1 b2 CD CU
  have b3 := below_alloc (w := w2) (.cells #[.slice ua2 (cutName n C).length uc2] 32)
  have x3 := heap_alloc_new w2 (.cells #[.slice ua2 (cutName n C).length uc2] 32)
  replace bb := below_next bb b3
  replace HH := hide ((unhide HH).below b3)
  replace HN := hide ((unhide HN).below b3)
  replace KN := hide (block_kept b3 (unhide KN))
  replace KZ := hide (block_kept b3 (unhide KZ))
  have O2 := hide (o2.below b3)
  have KX := hide x3
  obtain ⟨c0, c0'⟩ := cells2 (unhide KZ)
  have c1 := block_one (unhide KN)
  have c3 := block_one x3
  clear b3 x3 o2
  cases C with
  | some j =>
   have hc := unhide HCUT
   obtain ⟨hj, hH, hp⟩ := hc
   have hr := unhide HRES
   rw [if_pos hp] at hr
   subst hr
   have C1 := unhide S0 2 _ _ _ _ (unhide HH) _ (by show (n.drop j).length ≤ 6; rw [List.length_drop]; omega) (unhide O2)
   rw [show selK (cutName n (some j)) 2 rs rs.length = H from hH.symm] at C1
   replace C1 := hide C1
   have HHH := hide hH
   clear hH hp
   generalize cutName n (some j) = cn at *
   go_wp2_with fail
   refine (unhide C1).mono ?_
   rintro e w4 ⟨u4, rfl, o4, b4⟩
   obtain ⟨ua4, uc4, rfl, _⟩ := o4.form
   have O4 := hide o4
   clear o4
   go_wp2_with fail
   go_ret2
   exact ⟨_, rfl, unhide O4, below_next bb b4⟩
  | none =>
   have hc : H = [] := unhide HCUT
   subst hc
   have hr := unhide HRES
   rw [if_neg (by simp)] at hr
   replace HRES := hide hr
   have C1 := unhide S0 t _ _ _ _ (unhide HH) _ hn6 (unhide HN)
   rw [unhide HS1] at C1
   replace C1 := hide C1
   clear hr O2
   generalize cutName n none = cn at *
   go_wp2_with fail
   clear c0 c0' c1 c3
   generalize w2.alloc (.cells #[.slice ua2 cn.length uc2] 32) = w3 at *
   refine (unhide C1).mono ?_
   rintro e w4 ⟨u4, rfl, o4, b4⟩
   obtain ⟨ua4, uc4, rfl, _⟩ := o4.form
   replace bb := below_next bb b4
   replace HH := hide ((unhide HH).below b4)
   replace HN := hide ((unhide HN).below b4)
   replace KN := hide (block_kept b4 (unhide KN))
   replace KZ := hide (block_kept b4 (unhide KZ))
   clear b4 C1
   generalize hm1 : S1.length = m1 at *
   have HM1 := hide hm1
   clear hm1
   by_cases h2 : 0 < m1
   ·have h2i : (0 : Int) < m1 := by omega
    have hr := unhide HRES
    rw [if_pos h2] at hr
    subst hr
    have O4 := hide o4
    clear o4
    go_wp2_with fail
    go_ret2
    exact ⟨_, rfl, unhide O4, bb⟩
   have h2i : ¬ (0 : Int) < m1 := by omega
   clear o4
   obtain ⟨c0, c0'⟩ := cells2 (unhide KZ)
   have c1 := block_one (unhide KN)
   have C2 := unhide S0 5 _ _ _ _ (unhide HH) _ hn6 (unhide HN)
   rw [unhide HS2] at C2
   replace C2 := hide C2
   go_wp2_with fail
   refine (unhide C2).mono ?_
   rintro e w5 ⟨u5, rfl, o5, b5⟩
   obtain ⟨ua5, uc5, rfl, _⟩ := o5.form
   replace bb := below_next bb b5
   replace HH := hide ((unhide HH).below b5)
   replace HN := hide ((unhide HN).below b5)
   replace KN := hide (block_kept b5 (unhide KN))
   replace KZ := hide (block_kept b5 (unhide KZ))
   clear c0 c0' c1 b5 C2
   generalize hm2 : S2.length = m2 at *
   have HM2 := hide hm2
   clear hm2
   by_cases h3 : 0 < m2
   ·have h3i : (0 : Int) < m2 := by omega
    have hr := unhide HRES
    rw [if_neg h2, if_pos h3] at hr
    subst hr
    have O5 := hide o5
    clear o5
    go_wp2_with fail
    go_ret2
    exact ⟨_, rfl, unhide O5, bb⟩
   have h3i : ¬ (0 : Int) < m2 := by omega
   clear o5
   obtain ⟨c0, c0'⟩ := cells2 (unhide KZ)
   have c1 := block_one (unhide KN)
   have C3 := unhide HA _ _ _ _ (unhide HH) (unhide HN)
   have hr := unhide HRES
   rw [if_neg h2, if_neg h3] at hr
   cases AN with
   | true =>
    rw [if_pos rfl] at hr
    subst hr
    replace C3 := hide C3
    go_wp2_with fail
    refine (unhide C3).mono ?_
    rintro e w6 ⟨rfl, b6⟩
    go_wp2_with fail
    go_ret2
    exact ⟨_, rfl, .inl ⟨rfl, rfl⟩, below_next bb b6⟩
   | false =>
    rw [if_neg (fun h => Bool.noConfusion h)] at hr
    subst hr
    replace C3 := hide C3
    go_wp2_with fail
    refine (unhide C3).mono ?_
    rintro e w6 ⟨rfl, b6⟩
    go_wp2_with fail
    go_ret2
    exact ⟨_, rfl, .inl ⟨rfl, rfl⟩, below_next bb b6⟩

set_option maxHeartbeats 2000000 in
set_option maxRecDepth 100000 in
theorem specLookup_has {vo vr v : Value} {o n : List (List Int)} {rs : List Rec} (t : Int) {w : World} (h : HasZ w vo vr o rs) (hn : HasL w v n) (hs : ∀ k, k < rs.length → (rs.getD k recZ).name.length ≤ 1048576) :
  Calls Tryz.prog 33 #[.agg #[vo, vr], .agg #[v], .int .i64 t] w fun e w' => ∃ u, e = .returned (.tuple #[u, .int .i64 (lookupOf o rs n t).2]) ∧ HasRs w' u (lookupOf o rs n t).1 ∧ Below w.heap.size w w' := by
 obtain ⟨oa, oc, rfl, _⟩ := h.name.form
 obtain ⟨ra, rc, rfl, _⟩ := h.recs.form
 obtain ⟨a, cap, rfl, _⟩ := hn.form
 obtain ⟨hsz, k0, x0⟩ := box2 w (.cells #[.slice oa o.length oc, .slice ra rs.length rc] 34) #[.slice a n.length cap] 32
 have bb := below2 w (.cells #[.slice oa o.length oc, .slice ra rs.length rc] 34) (.cells #[.slice a n.length cap] 32)
 have HH := hide (h.below bb)
 have HN := hide (hn.below bb)
 have HO := specZoneOk_has (h.below bb) hs
 have KZ := hide k0
 have KN := hide x0
 have HS := hide hs
 obtain ⟨c0, c1⟩ := cells2 k0
 clear h hn hsz k0 x0 hs
 generalize hres : lookupOf o rs n t = res
 unfold lookupOf at hres
 cases hz : zoneOk o rs with
 | false =>
  rw [if_neg (fun q => by rw [hz] at q; cases q.1)] at hres
  subst hres
  rw [hz] at HO
  replace HO := hide HO
  go_enter Tryz.func33, Tryz.ntmps33
  go_wp2_with fail
  refine (unhide HO).mono ?_
  rintro e w1 ⟨rfl, b1⟩
  go_wp2_with fail
  go_ret2
  exact ⟨_, rfl, .inl ⟨rfl, rfl⟩, below_next bb b1⟩
 | true =>
  rw [hz] at HO
  replace HO := hide HO
  cases hnm : nameOk n with
  | false =>
   rw [if_neg (fun q => by rw [hnm] at q; cases q.2.1)] at hres
   subst hres
   go_enter Tryz.func33, Tryz.ntmps33
   go_wp2_with fail
   refine (unhide HO).mono ?_
   rintro e w1 ⟨rfl, b1⟩
   have HM := specNameOk_has ((unhide HN).below b1)
   rw [hnm] at HM
   replace HM := hide HM
   have d2 := block_one (block_kept b1 (unhide KN))
   replace bb := below_next bb b1
   clear c0 c1
   go_wp2_with fail
   refine (unhide HM).mono ?_
   rintro e w2 ⟨rfl, b2⟩
   go_wp2_with fail
   go_ret2
   exact ⟨_, rfl, .inl ⟨rfl, rfl⟩, below_next bb b2⟩
  | true =>
   cases hq : asked t with
   | false =>
    rw [if_neg (fun q => by rw [hq] at q; cases q.2.2)] at hres
    subst hres
    have AK := hide (fun w => l4asked_any t w)
    rw [hq] at AK
    clear hq
    go_enter Tryz.func33, Tryz.ntmps33
    go_wp2_with fail
    refine (unhide HO).mono ?_
    rintro e w1 ⟨rfl, b1⟩
    have HM := specNameOk_has ((unhide HN).below b1)
    rw [hnm] at HM
    replace HM := hide HM
    have d2 := block_one (block_kept b1 (unhide KN))
    replace bb := below_next bb b1
    clear c0 c1
    go_wp2_with fail
    refine (unhide HM).mono ?_
    rintro e w2 ⟨rfl, b2⟩
    go_wp2_with fail
    refine (unhide AK _).mono ?_
    rintro e w3 ⟨rfl, rfl⟩
    go_wp2_with fail
    go_ret2
    exact ⟨_, rfl, .inl ⟨rfl, rfl⟩, below_next bb b2⟩
   | true =>
    rw [if_pos ⟨hz, hnm, hq⟩] at hres
    have AK := hide (fun w => l4asked_any t w)
    rw [hq] at AK
    have LK := hide (fun (w : World) (vo vr v : Value) (h : HasZ w vo vr o rs) (hn : HasL w v n) => l5lookup_has t h hn hz hnm (unhide HS))
    rw [hres] at LK
    have hsel := lookB_short (n := n) hz t
    rw [hres] at hsel
    have HSEL := hide hsel
    clear hq hres hsel
    go_enter Tryz.func33, Tryz.ntmps33
    go_wp2_with fail
    refine (unhide HO).mono ?_
    rintro e w1 ⟨rfl, b1⟩
    have HM := specNameOk_has ((unhide HN).below b1)
    rw [hnm] at HM
    replace HM := hide HM
    have d2 := block_one (block_kept b1 (unhide KN))
    replace bb := below_next bb b1
    replace HH := hide ((unhide HH).below b1)
    replace HN := hide ((unhide HN).below b1)
    replace KZ := hide (block_kept b1 (unhide KZ))
    replace KN := hide (block_kept b1 (unhide KN))
    clear c0 c1 b1 HO
    go_wp2_with fail
    refine (unhide HM).mono ?_
    rintro e w2 ⟨rfl, b2⟩
    replace bb := below_next bb b2
    have CL := hide (unhide LK _ _ _ _ ((unhide HH).below b2) ((unhide HN).below b2))
    obtain ⟨e0, e1⟩ := cells2 (block_kept b2 (unhide KZ))
    have e2 := block_one (block_kept b2 (unhide KN))
    clear d2 b2 HM LK
    go_wp2_with fail
    refine (unhide AK _).mono ?_
    rintro e w3 ⟨rfl, rfl⟩
    go_wp2_with fail
    refine (unhide CL).mono ?_
    rintro e w4 ⟨u4, rfl, o4, b4⟩
    have HL := hide (l3ownAll_has o4 (fun i hi => short_rec ((unhide HSEL).2 i hi)) (by have := (unhide HSEL).1; omega))
    obtain ⟨pa, pc, rfl, _⟩ := o4.form
    have bb4 := below_next bb b4
    clear e0 e1 e2 o4 b4
    go_wp2_with fail
    refine (unhide HL).mono ?_
    rintro e w5 ⟨u5, rfl, r5, b5⟩
    obtain ⟨qa, qc, rfl, _⟩ := r5.has.form
    go_wp2_with fail
    go_ret2
    exact ⟨_, rfl, r5.has, below_next bb4 b5⟩
end Go.Proofs.YtmlcmkoefelolaaGreat

namespace Go.Proofs.YtmlcmkoefelolaaGreat
open Go.RowKit
set_option linter.unusedVariables false

set_option maxHeartbeats 4000000 in
set_option maxRecDepth 100000 in
theorem lawLookup (ao0 : Option Addr) (co0 : Nat) (ar0 : Option Addr) (cr0 : Nat) (n0 : List (List Int)) (q0 : List Rec) (a1 : Option Addr) (cap1 : Nat) (n1 : List (List Int)) (p2 : Int) (w : World) (h0 : InZ w ao0 ar0 n0 q0) (hm0 : SizeZ maxLen n0 q0) (h1 : LiesL w a1 n1) (hm1 : n1.length ≤ maxLen) (hmm1 : ∀ i, i < n1.length → (n1.getD i []).length ≤ maxLen) (hp2 : (Lit.int .i64 p2).wf = true) :
  Calls Tryz.prog 7 #[.agg #[.slice ao0 n0.length co0, .slice ar0 q0.length cr0], .agg #[.slice a1 n1.length cap1], .int .i64 p2] w fun e w' => e = .returned (.bool true) ∧ Below w.heap.size w w' := by
 have bb := below_alloc (w := w) (.cells #[.slice ao0 n0.length co0, .slice ar0 q0.length cr0] 27)
 have K0 := heap_alloc_new w (.cells #[.slice ao0 n0.length co0, .slice ar0 q0.length cr0] 27)
 have e1 : (w.alloc (.cells #[.slice ao0 n0.length co0, .slice ar0 q0.length cr0] 27)).heap.size = w.heap.size + 1 := by show (w.heap.push _).size = _; simp
 have b2 := below_alloc (w := w.alloc (.cells #[.slice ao0 n0.length co0, .slice ar0 q0.length cr0] 27)) (.cells #[.slice a1 n1.length cap1] 24)
 have K1 := heap_alloc_new (w.alloc (.cells #[.slice ao0 n0.length co0, .slice ar0 q0.length cr0] 27)) (.cells #[.slice a1 n1.length cap1] 24)
 replace K0 := block_kept b2 K0
 rw [e1] at K1
 replace bb := below_next bb b2
 clear b2 e1
 replace K0 := hide K0
 replace K1 := hide K1
 have L0 := hide h0
 have HM0 := hide hm0
 clear h0 hm0
 have L1 := hide h1
 have HM1 := hide hmm1
 clear h1 hmm1
 have hq2 : p2 ≤ 9223372036854775807 := by
  have := (i64_bounds hp2).2
  omega
 go_enter Tryz.func7, Tryz.ntmps7
 go_wp2_with fail
 generalize (w.alloc (.cells #[.slice ao0 n0.length co0, .slice ar0 q0.length cr0] 27)).alloc (.cells #[.slice a1 n1.length cap1] 24) = W at *
 have zk0 := block_lt (unhide K0)
 have zk1 := block_lt (unhide K1)
 refine (szZone_any ao0 co0 ar0 cr0 n0 q0 1048576 _ ((unhide L0).below bb) (unhide HM0) (by omega) (by omega)).mono ?_
 rintro e w1 ⟨⟨y0, rfl, hr00, hr10, hr20⟩, b1⟩
 replace bb := below_next bb b1
 replace K0 := hide (block_kept b1 (unhide K0))
 replace K1 := hide (block_kept b1 (unhide K1))
 have z1 := b1.size
 clear b1
 by_cases hneg0 : y0 < 0
 ·clear hr20
  go_wp2_with fail
  go_ret
  exact ⟨rfl, bb⟩
 have HS0 := hide ((hr20 (by omega)).mono (m' := 1048576) (by omega))
 have HSS0 := hide ((unhide HS0).mono (m' := 2097152) (by omega))
 clear hr20 HM0
 obtain ⟨c_K00, c_K01⟩ := cells2 (unhide K0)
 have c_K1 := block_one (unhide K1)
 go_wp2_with fail
 clear c_K00 c_K01
 clear c_K1
 refine (szName_any a1 cap1 n1 y0 _ ((unhide L1).below bb) hm1 (unhide HM1) (by omega) (by omega)).mono ?_
 rintro e w2 ⟨⟨y1, rfl, hr01, hr11, hr21⟩, b2⟩
 replace bb := below_next bb b2
 replace K0 := hide (block_kept b2 (unhide K0))
 replace K1 := hide (block_kept b2 (unhide K1))
 have z2 := b2.size
 clear b2
 by_cases hneg1 : y1 < 0
 ·clear hr21
  go_wp2_with fail
  go_ret
  exact ⟨rfl, bb⟩
 obtain ⟨hn1, hn2⟩ := hr21 (by omega)
 have hl1 : n1.length ≤ 1048576 := by omega
 have HL1 := hide (show ∀ i, i < n1.length → (n1.getD i []).length ≤ 1048576 from fun i hi => by have := hn2 i hi; omega)
 have HLL1 := hide (show ∀ i, i < n1.length → (n1.getD i []).length ≤ 2097152 from fun i hi => by have := hn2 i hi; omega)
 clear hr21 hn1 hn2 hm1 HM1
 have hP0 := posZ_bound (unhide HS0) 1
 have MK0 := fun (B E : Nat) (v u : Value) (w : World) (hE : E ≤ w.heap.size) (h : OwnZ B E w v u n0 q0) => markZone_z (unhide HS0) 1 (by omega) (by omega) hE h
 generalize posRs q0 (pos n0 1 n0.length) q0.length = P0 at *
 replace MK0 := hide MK0
 have hPn0 : ¬ P0 < 0 := by omega
 have hP1 := pos_bound' n1 P0 hl1 (unhide HL1)
 have MK1 := fun (B E : Nat) (v : Value) (w : World) (h : OwnN B E 44 5 w v n1) => markName_any P0 h hl1 (unhide HL1) (by omega) (by omega)
 generalize pos n1 P0 n1.length = P1 at *
 replace MK1 := hide MK1
 have hPn1 : ¬ P1 < 0 := by omega
 have hS0g := lookup_size n0 q0 n1 p2
 have SP := fun (w : World) (xo0 xr0 : Value) (h0 : HasZ w xo0 xr0 n0 q0) (x1 : Value) (h1 : HasL w x1 n1) => specLookup_has p2 h0 h1 (fun k hk => ((unhide HS0).recs k hk).name)
 have IM := fun (w : World) (xo0 xr0 : Value) (h0 : HasZ w xo0 xr0 n0 q0) (x1 : Value) (h1 : HasL w x1 n1) => implLookup_own p2 h0 h1
 generalize (lookupOf n0 q0 n1 p2).1 = G0 at *
 generalize (lookupOf n0 q0 n1 p2).2 = G1 at *
 have HC0g := hS0g.1
 have HS0g := hide (fun i (hi : i < G0.length) => (hS0g.2 i hi).mono (m' := 1048576) (by omega))
 have HSS0g := hide (fun i (hi : i < G0.length) => (hS0g.2 i hi).mono (m' := 2097152) (by omega))
 clear hS0g
 have hPG0 := posRs_bound' (unhide HS0g) (by omega) 1
 have MKG0 := fun (B E : Nat) (v : Value) (w : World) (h3 : E ≤ w.heap.size) (h : RowO B E 52 44 5 3 w v G0) => markRrS_own (unhide HS0g) (by omega) 1 (by omega) (by omega) h3 h
 have HDG0 := fun (v : Value) (w : World) (h : HasRs w v (markRs G0 1 G0.length)) => heldRrS_has (unhide HS0g) (by omega) 1 (by omega) (by omega) h
 generalize posRs G0 1 G0.length = PG0 at *
 generalize markRs G0 1 G0.length = MR0 at *
 replace MKG0 := hide MKG0
 replace HDG0 := hide HDG0
 have hPGn0 : ¬ PG0 < 0 := by omega
 replace SP := hide SP
 replace IM := hide IM
 have hgg1 : (G1 != G1) = false := by simp
 have bd := below_drew (w := w2)
 have zdw2 : w2.drew.heap.size = w2.heap.size := rfl
 replace bb := below_next bb bd
 replace K0 := hide (block_kept bd (unhide K0))
 replace K1 := hide (block_kept bd (unhide K1))
 clear bd
 obtain ⟨c_K00, c_K01⟩ := cells2 (unhide K0)
 have c_K1 := block_one (unhide K1)
 go_wp2_with fail
 clear c_K00 c_K01
 clear c_K1
 go_region_held3 (fun w' => (w'.cell? ⟨w.heap.size, 0, none⟩ = some (.slice ao0 n0.length co0) ∧ w'.cell? ⟨w.heap.size, 1, none⟩ = some (.slice ar0 q0.length cr0)) ∧ (w'.cell? ⟨w.heap.size + 1, 0, none⟩ = some (.slice a1 n1.length cap1)))
  (first | exact ⟨cells2 (unhide K0), block_one (unhide K1)⟩ | exact ⟨cells2 (block_kept q3 (unhide K0)), block_one (block_kept q3 (unhide K1))⟩ | exact ⟨cells2 (block_kept q4 (unhide K0)), block_one (block_kept q4 (unhide K1))⟩ | exact ⟨cells2 (block_kept q5 (unhide K0)), block_one (block_kept q5 (unhide K1))⟩)
  (first
  | (go_at_call_of 12 (Value.slice ao0 n0.length co0); refine (toZone_own ao0 co0 ar0 cr0 n0 q0 _ ((unhide L0).below bb) (unhide HS0)).mono ?_; rintro e w3 ⟨x3, y3, rfl, o3, b3⟩; obtain ⟨xo3, xoc3, rfl, _⟩ := o3.hasZ.name.form; obtain ⟨xr3, xrc3, rfl, _⟩ := o3.hasZ.recs.form; have q3 := b3)
  | (go_at_call_of 13 (Value.slice a1 n1.length cap1); refine (toName_any a1 cap1 n1 _ ((unhide L1).below (below_next bb q3)) hl1 (unhide HL1)).mono ?_; rintro e w4 ⟨x4, rfl, o4, b4⟩; obtain ⟨xa4, xc4, rfl, _⟩ := o4.hasL.form; have q4 := below_next q3 b4)
  | (go_at_call 33; refine (unhide SP _ _ _ (o3.below b4).hasZ _ o4.hasL).mono ?_; rintro e w5 ⟨y5_0, rfl, o5_0, b5⟩; have q5 := below_next q4 b5))
 clear b3 o3 q3 b4 o4 q4 b5
 replace bb := below_next bb q5
 replace K0 := hide (block_kept q5 (unhide K0))
 replace K1 := hide (block_kept q5 (unhide K1))
 have z5 := q5.size
 clear q5
 have BW := hide (Below.refl w5.heap.size w5)
 obtain ⟨ya5_0, yc5_0, rfl, _⟩ := o5_0.form
 have Wr0 := hide o5_0
 clear o5_0
 obtain ⟨c_K00, c_K01⟩ := cells2 (unhide K0)
 have c_K1 := block_one (unhide K1)
 go_wp2_with fail
 clear c_K00 c_K01
 clear c_K1
 refine (toZone_own ao0 co0 ar0 cr0 n0 q0 _ ((unhide L0).below bb) (unhide HS0)).mono ?_
 rintro e w6 ⟨x6, y6, rfl, o6, b6⟩
 obtain ⟨xo6, xoc6, rfl, _⟩ := o6.hasZ.name.form
 obtain ⟨xr6, xrc6, rfl, _⟩ := o6.hasZ.recs.form
 have X0 := hide o6
 clear o6
 replace bb := below_next bb b6
 replace K0 := hide (block_kept b6 (unhide K0))
 replace K1 := hide (block_kept b6 (unhide K1))
 replace BW := hide ((unhide BW).trans (b6.mono (unhide BW).size))
 have z6 := b6.size
 clear b6
 have b7 := below_alloc (w := w6) (.cells #[.slice xo6 n0.length xoc6, .slice xr6 q0.length xrc6] 34)
 have VX0 := hide (heap_alloc_new w6 (.cells #[.slice xo6 n0.length xoc6, .slice xr6 q0.length xrc6] 34))
 obtain ⟨c_K00, c_K01⟩ := cells2 (block_kept b7 (unhide K0))
 have c_K1 := block_one (block_kept b7 (unhide K1))
 go_wp2_with fail
 clear c_K00 c_K01
 clear c_K1
 generalize w6.alloc (.cells #[.slice xo6 n0.length xoc6, .slice xr6 q0.length xrc6] 34) = w7 at *
 replace bb := below_next bb b7
 replace K0 := hide (block_kept b7 (unhide K0))
 replace K1 := hide (block_kept b7 (unhide K1))
 replace BW := hide ((unhide BW).trans (b7.mono (unhide BW).size))
 replace X0 := hide ((unhide X0).below b7)
 have z7 := b7.size
 clear b7
 have zz7 := block_lt (unhide VX0)
 obtain ⟨c_K00, c_K01⟩ := cells2 (unhide K0)
 have c_K1 := block_one (unhide K1)
 obtain ⟨c_VX00, c_VX01⟩ := cells2 (unhide VX0)
 go_wp2_with fail
 clear c_K00 c_K01
 clear c_K1
 clear c_VX00 c_VX01
 refine (toName_any a1 cap1 n1 _ ((unhide L1).below bb) hl1 (unhide HL1)).mono ?_
 rintro e w8 ⟨x8, rfl, o8, b8⟩
 obtain ⟨xa8, xc8, rfl, _⟩ := o8.hasL.form
 have X1 := hide o8.here
 clear o8
 replace bb := below_next bb b8
 replace K0 := hide (block_kept b8 (unhide K0))
 replace K1 := hide (block_kept b8 (unhide K1))
 replace BW := hide ((unhide BW).trans (b8.mono (unhide BW).size))
 replace X0 := hide ((unhide X0).below b8)
 replace VX0 := hide (block_kept b8 (unhide VX0))
 have z8 := b8.size
 clear b8
 have b9 := below_alloc (w := w8) (.cells #[.slice xa8 n1.length xc8] 32)
 have VX1 := hide (heap_alloc_new w8 (.cells #[.slice xa8 n1.length xc8] 32))
 obtain ⟨c_K00, c_K01⟩ := cells2 (block_kept b9 (unhide K0))
 have c_K1 := block_one (block_kept b9 (unhide K1))
 obtain ⟨c_VX00, c_VX01⟩ := cells2 (block_kept b9 (unhide VX0))
 go_wp2_with fail
 clear c_K00 c_K01
 clear c_K1
 clear c_VX00 c_VX01
 generalize w8.alloc (.cells #[.slice xa8 n1.length xc8] 32) = w9 at *
 replace bb := below_next bb b9
 replace K0 := hide (block_kept b9 (unhide K0))
 replace K1 := hide (block_kept b9 (unhide K1))
 replace BW := hide ((unhide BW).trans (b9.mono (unhide BW).size))
 replace X0 := hide ((unhide X0).below b9)
 replace VX0 := hide (block_kept b9 (unhide VX0))
 replace X1 := hide ((unhide X1).below b9)
 have z9 := b9.size
 clear b9
 have zz9 := block_lt (unhide VX1)
 obtain ⟨c_K00, c_K01⟩ := cells2 (unhide K0)
 have c_K1 := block_one (unhide K1)
 obtain ⟨c_VX00, c_VX01⟩ := cells2 (unhide VX0)
 have c_VX1 := block_one (unhide VX1)
 go_wp2_with fail
 clear c_K00 c_K01
 clear c_K1
 clear c_VX00 c_VX01
 clear c_VX1
 refine (unhide IM _ _ _ (unhide X0).hasZ _ (unhide X1).hasL).mono ?_
 rintro e w10 ⟨y10_0, rfl, o10_0, b10⟩
 replace bb := below_next bb b10
 replace K0 := hide (block_kept b10 (unhide K0))
 replace K1 := hide (block_kept b10 (unhide K1))
 replace BW := hide ((unhide BW).trans (b10.mono (unhide BW).size))
 replace X0 := hide ((unhide X0).below b10)
 replace VX0 := hide (block_kept b10 (unhide VX0))
 replace X1 := hide ((unhide X1).below b10)
 replace VX1 := hide (block_kept b10 (unhide VX1))
 have z10 := b10.size
 clear b10
 obtain ⟨ya10_0, yc10_0, rfl, _⟩ := o10_0.form
 have Gr0 := hide o10_0
 clear o10_0
 obtain ⟨c_K00, c_K01⟩ := cells2 (unhide K0)
 have c_K1 := block_one (unhide K1)
 obtain ⟨c_VX00, c_VX01⟩ := cells2 (unhide VX0)
 have c_VX1 := block_one (unhide VX1)
 go_wp2_with fail
 clear c_K00 c_K01
 clear c_K1
 clear c_VX00 c_VX01
 clear c_VX1
 refine (eqRrS_has (unhide Gr0).has ((unhide Wr0).below (unhide BW)) (unhide HSS0g)).mono ?_
 rintro e w11 ⟨rfl, b11⟩
 replace bb := below_next bb b11
 replace K0 := hide (block_kept b11 (unhide K0))
 replace K1 := hide (block_kept b11 (unhide K1))
 replace BW := hide ((unhide BW).trans (b11.mono (unhide BW).size))
 replace X0 := hide ((unhide X0).below b11)
 replace VX0 := hide (block_kept b11 (unhide VX0))
 replace X1 := hide ((unhide X1).below b11)
 replace VX1 := hide (block_kept b11 (unhide VX1))
 replace Gr0 := hide ((unhide Gr0).below b11)
 have z11 := b11.size
 clear b11
 have bd := below_drew (w := w11)
 have zdw11 : w11.drew.heap.size = w11.heap.size := rfl
 replace bb := below_next bb bd
 replace K0 := hide (block_kept bd (unhide K0))
 replace K1 := hide (block_kept bd (unhide K1))
 replace BW := hide ((unhide BW).trans (bd.mono (unhide BW).size))
 replace X0 := hide ((unhide X0).below bd)
 replace VX0 := hide (block_kept bd (unhide VX0))
 replace X1 := hide ((unhide X1).below bd)
 replace VX1 := hide (block_kept bd (unhide VX1))
 replace Gr0 := hide ((unhide Gr0).below bd)
 clear bd
 obtain ⟨c_K00, c_K01⟩ := cells2 (unhide K0)
 have c_K1 := block_one (unhide K1)
 obtain ⟨c_VX00, c_VX01⟩ := cells2 (unhide VX0)
 have c_VX1 := block_one (unhide VX1)
 go_wp2_with fail
 clear c_K00 c_K01
 clear c_K1
 clear c_VX00 c_VX01
 clear c_VX1
 go_region_held3 (fun w' => (w'.cell? ⟨w.heap.size, 0, none⟩ = some (.slice ao0 n0.length co0) ∧ w'.cell? ⟨w.heap.size, 1, none⟩ = some (.slice ar0 q0.length cr0)) ∧ (w'.cell? ⟨w6.heap.size, 0, none⟩ = some (.slice xo6 n0.length xoc6) ∧ w'.cell? ⟨w6.heap.size, 1, none⟩ = some (.slice xr6 q0.length xrc6)))
  (first | exact ⟨cells2 (unhide K0), cells2 (unhide VX0)⟩ | exact ⟨cells2 (block_kept b12 (unhide K0)), cells2 (block_kept b12 (unhide VX0))⟩ | exact ⟨cells2 (block_kept q13 (unhide K0)), cells2 (block_kept q13 (unhide VX0))⟩)
  (first
  | (go_at_call 12; refine (toZone_own ao0 co0 ar0 cr0 n0 q0 _ ((unhide L0).below bb) (unhide HS0)).mono ?_; rintro e w12 ⟨x12, y12, rfl, o12, b12⟩; obtain ⟨xo12, xoc12, rfl, _⟩ := o12.hasZ.name.form; obtain ⟨xr12, xrc12, rfl, _⟩ := o12.hasZ.recs.form)
  | (go_at_call 16; refine (eqZone_has ((unhide X0).below b12).hasZ o12.hasZ (unhide HSS0)).mono ?_; rintro e w13 ⟨rfl, b13⟩; have q13 := below_next b12 b13))
 clear b12 b13 o12
 replace bb := below_next bb q13
 replace K0 := hide (block_kept q13 (unhide K0))
 replace K1 := hide (block_kept q13 (unhide K1))
 replace BW := hide ((unhide BW).trans (q13.mono (unhide BW).size))
 replace X0 := hide ((unhide X0).below q13)
 replace VX0 := hide (block_kept q13 (unhide VX0))
 replace X1 := hide ((unhide X1).below q13)
 replace VX1 := hide (block_kept q13 (unhide VX1))
 replace Gr0 := hide ((unhide Gr0).below q13)
 have z13 := q13.size
 clear q13
 have bd := below_drew (w := w13)
 have zdw13 : w13.drew.heap.size = w13.heap.size := rfl
 replace bb := below_next bb bd
 replace K0 := hide (block_kept bd (unhide K0))
 replace K1 := hide (block_kept bd (unhide K1))
 replace BW := hide ((unhide BW).trans (bd.mono (unhide BW).size))
 replace X0 := hide ((unhide X0).below bd)
 replace VX0 := hide (block_kept bd (unhide VX0))
 replace X1 := hide ((unhide X1).below bd)
 replace VX1 := hide (block_kept bd (unhide VX1))
 replace Gr0 := hide ((unhide Gr0).below bd)
 clear bd
 obtain ⟨c_K00, c_K01⟩ := cells2 (unhide K0)
 have c_K1 := block_one (unhide K1)
 obtain ⟨c_VX00, c_VX01⟩ := cells2 (unhide VX0)
 have c_VX1 := block_one (unhide VX1)
 go_wp2_with fail
 clear c_K00 c_K01
 clear c_K1
 clear c_VX00 c_VX01
 clear c_VX1
 go_region_held3 (fun w' => (w'.cell? ⟨w.heap.size + 1, 0, none⟩ = some (.slice a1 n1.length cap1)) ∧ (w'.cell? ⟨w8.heap.size, 0, none⟩ = some (.slice xa8 n1.length xc8)))
  (first | exact ⟨block_one (unhide K1), block_one (unhide VX1)⟩ | exact ⟨block_one (block_kept b14 (unhide K1)), block_one (block_kept b14 (unhide VX1))⟩ | exact ⟨block_one (block_kept q15 (unhide K1)), block_one (block_kept q15 (unhide VX1))⟩)
  (first
  | (go_at_call 13; refine (toName_any a1 cap1 n1 _ ((unhide L1).below bb) hl1 (unhide HL1)).mono ?_; rintro e w14 ⟨x14, rfl, o14, b14⟩; obtain ⟨xa14, xc14, rfl, _⟩ := o14.hasL.form)
  | (go_at_call 17; refine (eqName_has ((unhide X1).below b14).hasL o14.hasL (unhide HLL1)).mono ?_; rintro e w15 ⟨rfl, b15⟩; have q15 := below_next b14 b15))
 clear b14 b15 o14
 replace bb := below_next bb q15
 replace K0 := hide (block_kept q15 (unhide K0))
 replace K1 := hide (block_kept q15 (unhide K1))
 replace BW := hide ((unhide BW).trans (q15.mono (unhide BW).size))
 replace X0 := hide ((unhide X0).below q15)
 replace VX0 := hide (block_kept q15 (unhide VX0))
 replace X1 := hide ((unhide X1).below q15)
 replace VX1 := hide (block_kept q15 (unhide VX1))
 replace Gr0 := hide ((unhide Gr0).below q15)
 have z15 := q15.size
 clear q15
 obtain ⟨c_K00, c_K01⟩ := cells2 (unhide K0)
 have c_K1 := block_one (unhide K1)
 obtain ⟨c_VX00, c_VX01⟩ := cells2 (unhide VX0)
 have c_VX1 := block_one (unhide VX1)
 go_wp2_with fail
 clear c_K00 c_K01
 clear c_K1
 clear c_VX00 c_VX01
 clear c_VX1
 refine (unhide MK0 _ _ _ _ _ (by omega) (unhide X0)).mono ?_
 rintro e w16 ⟨rfl, u16⟩
 clear X0
 replace bb := u16.below bb (by omega)
 replace K0 := hide (u16.kept (unhide K0) (by omega))
 replace K1 := hide (u16.kept (unhide K1) (by omega))
 replace BW := hide (u16.belowAt (unhide BW) (Nat.le_refl _) (by omega))
 replace VX0 := hide (u16.kept (unhide VX0) (by omega))
 replace X1 := hide ((unhide X1).outside u16 (by omega))
 replace VX1 := hide (u16.kept (unhide VX1) (by omega))
 replace Gr0 := hide ((unhide Gr0).outside u16 (by omega))
 have z16 := u16.size
 clear u16
 obtain ⟨c_K00, c_K01⟩ := cells2 (unhide K0)
 have c_K1 := block_one (unhide K1)
 obtain ⟨c_VX00, c_VX01⟩ := cells2 (unhide VX0)
 have c_VX1 := block_one (unhide VX1)
 go_wp2_with fail
 clear c_K00 c_K01
 clear c_K1
 clear c_VX00 c_VX01
 clear c_VX1
 refine (unhide MK1 _ _ _ _ (unhide X1)).mono ?_
 rintro e w17 ⟨rfl, o17, u17⟩
 clear o17 X1
 replace bb := u17.below bb (by omega)
 replace K0 := hide (u17.kept (unhide K0) (by omega))
 replace K1 := hide (u17.kept (unhide K1) (by omega))
 replace BW := hide (u17.belowAt (unhide BW) (Nat.le_refl _) (by omega))
 replace VX0 := hide (u17.kept (unhide VX0) (by omega))
 replace VX1 := hide (u17.kept (unhide VX1) (by omega))
 replace Gr0 := hide ((unhide Gr0).outside u17 (by omega))
 have z17 := u17.size
 clear u17
 obtain ⟨c_K00, c_K01⟩ := cells2 (unhide K0)
 have c_K1 := block_one (unhide K1)
 obtain ⟨c_VX00, c_VX01⟩ := cells2 (unhide VX0)
 have c_VX1 := block_one (unhide VX1)
 go_wp2_with fail
 clear c_K00 c_K01
 clear c_K1
 clear c_VX00 c_VX01
 clear c_VX1
 refine (eqRrS_has (unhide Gr0).has ((unhide Wr0).below (unhide BW)) (unhide HSS0g)).mono ?_
 rintro e w18 ⟨rfl, b18⟩
 replace bb := below_next bb b18
 replace K0 := hide (block_kept b18 (unhide K0))
 replace K1 := hide (block_kept b18 (unhide K1))
 replace BW := hide ((unhide BW).trans (b18.mono (unhide BW).size))
 replace VX0 := hide (block_kept b18 (unhide VX0))
 replace VX1 := hide (block_kept b18 (unhide VX1))
 replace Gr0 := hide ((unhide Gr0).below b18)
 have z18 := b18.size
 clear b18
 obtain ⟨c_K00, c_K01⟩ := cells2 (unhide K0)
 have c_K1 := block_one (unhide K1)
 obtain ⟨c_VX00, c_VX01⟩ := cells2 (unhide VX0)
 have c_VX1 := block_one (unhide VX1)
 go_wp2_with fail
 clear c_K00 c_K01
 clear c_K1
 clear c_VX00 c_VX01
 clear c_VX1
 refine (unhide MKG0 _ _ _ _ (by omega) (unhide Gr0)).mono ?_
 rintro e w19 ⟨rfl, MR_0, u19⟩
 clear Gr0
 replace bb := u19.below bb (by omega)
 replace K0 := hide (u19.kept (unhide K0) (by omega))
 replace K1 := hide (u19.kept (unhide K1) (by omega))
 replace BW := hide (u19.belowAt (unhide BW) (Nat.le_refl _) (by omega))
 replace VX0 := hide (u19.kept (unhide VX0) (by omega))
 replace VX1 := hide (u19.kept (unhide VX1) (by omega))
 have z19 := u19.size
 clear u19
 replace MR_0 := hide MR_0
 obtain ⟨c_K00, c_K01⟩ := cells2 (unhide K0)
 have c_K1 := block_one (unhide K1)
 obtain ⟨c_VX00, c_VX01⟩ := cells2 (unhide VX0)
 have c_VX1 := block_one (unhide VX1)
 go_wp2_with fail
 clear c_K00 c_K01
 clear c_K1
 clear c_VX00 c_VX01
 clear c_VX1
 refine (unhide HDG0 _ _ (unhide MR_0).has).mono ?_
 rintro e wh ⟨rfl, rfl⟩
 have bd := below_drew (w := w19)
 have zdw19 : w19.drew.heap.size = w19.heap.size := rfl
 replace bb := below_next bb bd
 replace K0 := hide (block_kept bd (unhide K0))
 replace K1 := hide (block_kept bd (unhide K1))
 replace BW := hide ((unhide BW).trans (bd.mono (unhide BW).size))
 replace VX0 := hide (block_kept bd (unhide VX0))
 replace VX1 := hide (block_kept bd (unhide VX1))
 replace MR_0 := hide ((unhide MR_0).below bd)
 clear bd
 obtain ⟨c_K00, c_K01⟩ := cells2 (unhide K0)
 have c_K1 := block_one (unhide K1)
 obtain ⟨c_VX00, c_VX01⟩ := cells2 (unhide VX0)
 have c_VX1 := block_one (unhide VX1)
 go_wp2_with fail
 clear c_K00 c_K01
 clear c_K1
 clear c_VX00 c_VX01
 clear c_VX1
 go_region_held3 (fun w' => (w'.cell? ⟨w.heap.size, 0, none⟩ = some (.slice ao0 n0.length co0) ∧ w'.cell? ⟨w.heap.size, 1, none⟩ = some (.slice ar0 q0.length cr0)) ∧ (w'.cell? ⟨w.heap.size + 1, 0, none⟩ = some (.slice a1 n1.length cap1)))
  (first | exact ⟨cells2 (unhide K0), block_one (unhide K1)⟩ | exact ⟨cells2 (block_kept q21 (unhide K0)), block_one (block_kept q21 (unhide K1))⟩ | exact ⟨cells2 (block_kept q22 (unhide K0)), block_one (block_kept q22 (unhide K1))⟩ | exact ⟨cells2 (block_kept q23 (unhide K0)), block_one (block_kept q23 (unhide K1))⟩)
  (first
  | (go_at_call_of 12 (Value.slice ao0 n0.length co0); refine (toZone_own ao0 co0 ar0 cr0 n0 q0 _ ((unhide L0).below bb) (unhide HS0)).mono ?_; rintro e w21 ⟨x21, y21, rfl, o21, b21⟩; obtain ⟨xo21, xoc21, rfl, _⟩ := o21.hasZ.name.form; obtain ⟨xr21, xrc21, rfl, _⟩ := o21.hasZ.recs.form; have q21 := b21)
  | (go_at_call_of 13 (Value.slice a1 n1.length cap1); refine (toName_any a1 cap1 n1 _ ((unhide L1).below (below_next bb q21)) hl1 (unhide HL1)).mono ?_; rintro e w22 ⟨x22, rfl, o22, b22⟩; obtain ⟨xa22, xc22, rfl, _⟩ := o22.hasL.form; have q22 := below_next q21 b22)
  | (go_at_call 34; refine (unhide IM _ _ _ (o21.below b22).hasZ _ o22.hasL).mono ?_; rintro e w23 ⟨y23_0, rfl, o23_0, b23⟩; have q23 := below_next q22 b23))
 clear b21 o21 q21 b22 o22 q22 b23
 replace bb := below_next bb q23
 replace K0 := hide (block_kept q23 (unhide K0))
 replace K1 := hide (block_kept q23 (unhide K1))
 replace BW := hide ((unhide BW).trans (q23.mono (unhide BW).size))
 replace VX0 := hide (block_kept q23 (unhide VX0))
 replace VX1 := hide (block_kept q23 (unhide VX1))
 replace MR_0 := hide ((unhide MR_0).below q23)
 have z23 := q23.size
 clear q23
 obtain ⟨ya23_0, yc23_0, rfl, _⟩ := o23_0.form
 have Hr0 := hide o23_0
 clear o23_0
 obtain ⟨c_K00, c_K01⟩ := cells2 (unhide K0)
 have c_K1 := block_one (unhide K1)
 obtain ⟨c_VX00, c_VX01⟩ := cells2 (unhide VX0)
 have c_VX1 := block_one (unhide VX1)
 go_wp2_with fail
 clear c_K00 c_K01
 clear c_K1
 clear c_VX00 c_VX01
 clear c_VX1
 refine (eqRrS_has (unhide Hr0).has ((unhide Wr0).below (unhide BW)) (unhide HSS0g)).mono ?_
 rintro e w24 ⟨rfl, b24⟩
 replace bb := below_next bb b24
 replace K0 := hide (block_kept b24 (unhide K0))
 replace K1 := hide (block_kept b24 (unhide K1))
 replace BW := hide ((unhide BW).trans (b24.mono (unhide BW).size))
 replace VX0 := hide (block_kept b24 (unhide VX0))
 replace VX1 := hide (block_kept b24 (unhide VX1))
 replace MR_0 := hide ((unhide MR_0).below b24)
 replace Hr0 := hide ((unhide Hr0).below b24)
 have z24 := b24.size
 clear b24
 obtain ⟨c_K00, c_K01⟩ := cells2 (unhide K0)
 have c_K1 := block_one (unhide K1)
 obtain ⟨c_VX00, c_VX01⟩ := cells2 (unhide VX0)
 have c_VX1 := block_one (unhide VX1)
 go_wp2_with fail
 clear c_K00 c_K01
 clear c_K1
 clear c_VX00 c_VX01
 clear c_VX1
 refine (unhide HDG0 _ _ (unhide MR_0).has).mono ?_
 rintro e wh ⟨rfl, rfl⟩
 go_wp2_with fail
 go_ret
 exact ⟨rfl, bb⟩
end Go.Proofs.YtmlcmkoefelolaaGreat
