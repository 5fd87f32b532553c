/-
  Contract of the program's drop. Contracts of the program's Under. Contracts of the program's mayBeIn and mayFollow. Contract of the program's ZoneOk.
-/
import Derived.Test.YtmlcmkoefelolaaGreatAddG31
import Derived.Deep.RegionHeld3
import Derived.Test.YtmlcmkoefelolaaGreatAddG22
import Derived.Test.YtmlcmkoefelolaaGreatAddG10
import Derived.Test.YtmlcmkoefelolaaGreatAddG12
import Derived.Test.YtmlcmkoefelolaaGreatAddG05
import Derived.Test.YtmlcmkoefelolaaGreatAddG18
import Derived.Test.YtmlcmkoefelolaaGreatAddG23
namespace Go.Proofs.YtmlcmkoefelolaaGreat
open Go.RowKit Go.Shelf
open Go.ChangeMaps (setBlock heap_setBlock_same heap_setBlock_other)
open Go.MapKept (stamped_iff stamped_erase Stamped)
open Go.Maps (Keyed string_keyed)
open Go.WideMaps (keyOf_string_mk)
set_option linter.unusedVariables false

end Go.Proofs.YtmlcmkoefelolaaGreat

namespace Go.Proofs.YtmlcmkoefelolaaGreat
open Go.RowKit
set_option linter.unusedVariables false

set_option maxHeartbeats 2000000 in
set_option maxRecDepth 100000 in
theorem implUnder_has {v v' : Value} {n n' : List (List Int)} {w : World} (h : HasL w v n) (h' : HasL w v' n') :
  Calls Tryz.prog 114 #[.agg #[v], .agg #[v']] w fun e w' => e = .returned (.bool (under n n')) ∧ Below w.heap.size w w' := by
 obtain ⟨a, cap, rfl, hcl, hcm⟩ := h.form
 obtain ⟨a', cap', rfl, _⟩ := h'.form
 unfold maxLen at hcm
 have b1 := below_alloc (w := w) (.cells #[.slice a n.length cap] 32)
 have k1 := heap_alloc_new w (.cells #[.slice a n.length cap] 32)
 have e1 : (w.alloc (.cells #[.slice a n.length cap] 32)).heap.size = w.heap.size + 1 := by show (w.heap.push _).size = _; simp
 have b2 := below_alloc (w := w.alloc (.cells #[.slice a n.length cap] 32)) (.cells #[.slice a' n'.length cap'] 32)
 have x2 := heap_alloc_new (w.alloc (.cells #[.slice a n.length cap] 32)) (.cells #[.slice a' n'.length cap'] 32)
 have k2 := block_kept b2 k1
 rw [e1] at x2
 have bb2 := below_next b1 b2
 have h2 := hide (h.below bb2)
 have h2' := hide (h'.below bb2)
 clear h h' b1 b2 k1 e1
 unfold under
 cases hok : nameOk n with
 | false =>
  rw [Bool.false_and]
  have HOK := hide hok
  clear hok
  go_enter Tryz.func114, Tryz.ntmps114
  go_wp2_with fail
  generalize (w.alloc (.cells #[.slice a n.length cap] 32)).alloc (.cells #[.slice a' n'.length cap'] 32) = W at *
  refine (implNameOk_has (unhide h2)).mono ?_
  rw [unhide HOK]
  rintro e w3 ⟨rfl, b3⟩
  go_wp2_with fail
  go_ret
  exact ⟨rfl, below_next bb2 b3⟩
 | true =>
  cases hok' : nameOk n' with
  | false =>
   rw [Bool.true_and, Bool.false_and]
   have HOK := hide hok
   have HOK' := hide hok'
   clear hok hok'
   go_enter Tryz.func114, Tryz.ntmps114
   go_wp2_with fail
   generalize (w.alloc (.cells #[.slice a n.length cap] 32)).alloc (.cells #[.slice a' n'.length cap'] 32) = W at *
   refine (implNameOk_has (unhide h2)).mono ?_
   rw [unhide HOK]
   rintro e w3 ⟨rfl, b3⟩
   have x3 := block_one (block_kept b3 x2)
   go_wp2_with fail
   refine (implNameOk_has ((unhide h2').below b3)).mono ?_
   rw [unhide HOK']
   rintro e w4 ⟨rfl, b4⟩
   go_wp2_with fail
   go_ret
   exact ⟨rfl, below_next bb2 (below_next b3 b4)⟩
  | true =>
   rw [Bool.true_and, Bool.true_and]
   have hs := (nameOk_parts hok).1
   have hs' := (nameOk_parts hok').1
   have hno := hide (fun (hlt : n.length < n'.length) => endsWith_no hlt)
   have hyes := hide (fun (hle : n'.length ≤ n.length) => (show endsWith n n' = (nameCmp (n.drop (n.length - n'.length)) n' == 0) by
    rw [endsWith_yes hle]; unfold nameCmp; rw [if_pos ⟨nameOk_drop hok _, hok'⟩]))
   have HOK := hide hok
   have HOK' := hide hok'
   clear hok hok'
   generalize endsWith n n' = R at *
   have hdrop := hide (fun (W : World) (hW : HasL W (.slice a n.length cap) n) (k : Nat) (hk : k ≤ n.length) => HasL.drop hW rfl hk)
   go_enter Tryz.func114, Tryz.ntmps114
   go_wp2_with fail
   generalize (w.alloc (.cells #[.slice a n.length cap] 32)).alloc (.cells #[.slice a' n'.length cap'] 32) = W0 at *
   refine (implNameOk_has (unhide h2)).mono ?_
   rw [unhide HOK]
   rintro e w3 ⟨rfl, b3⟩
   have x3 := block_one (block_kept b3 x2)
   go_wp2_with fail
   refine (implNameOk_has ((unhide h2').below b3)).mono ?_
   rw [unhide HOK']
   rintro e W ⟨rfl, b4⟩
   have b4 := below_next b3 b4
   have cx := block_one (block_kept b4 x2)
   have ck := block_one (block_kept b4 k2)
   have h4 := hide ((unhide h2).below b4)
   have h4' := hide ((unhide h2').below b4)
   have bb4 := below_next bb2 b4
   clear x3 x2 k2 h2 h2' b3 b4 bb2 HOK HOK'
   by_cases hle : n'.length ≤ n.length
   ·have hr := unhide hyes hle
    have hd := unhide hdrop W (unhide h4) (n.length - n'.length) (by omega)
    clear hyes hno hdrop
    generalize hj : n.length - n'.length = j at *
    have hlen : (n.drop j).length = n.length - j := by simp
    generalize n.drop j = nd at *
    have i0 : ¬ (n.length : Int) < n'.length := by omega
    have s1 : (n.length : Int) - n'.length = j := by omega
    have wj : IntKind.i64.wrap (j : Int) = j := wrap_small j (by omega)
    have jl : j ≤ n.length := by omega
    have jc : j ≤ cap := by omega
    rcases hd with ⟨ha, hm0, hc0⟩ | ⟨g, off, ha, hd⟩
    ·have hz' : n'.length = 0 := by omega
     have hz : j = 0 := by omega
     obtain rfl : nd = [] := List.eq_nil_of_length_eq_zero (by omega)
     obtain rfl : n' = [] := List.eq_nil_of_length_eq_zero hz'
     obtain rfl : n = [] := List.eq_nil_of_length_eq_zero hm0
     subst ha hc0 hz
     clear hj hlen i0 s1 wj jl jc hz' hm0 hle hs hs' hcl
     simp only [List.length_nil] at *
     have HD := hide (show HasL W (.slice none 0 0) [] from .inl ⟨rfl, rfl⟩)
     go_wp2_with fail
     refine (implNameCmp_has (unhide HD) (unhide h4')).mono ?_
     generalize nameCmp [] [] = c at *
     subst hr
     rintro e w5 ⟨rfl, b5⟩
     go_wp2_with fail
     go_ret
     exact ⟨rfl, below_next bb4 b5⟩
    ·subst ha
     by_cases hcj : cap = j
     ·have e2 : j = n.length := by omega
      have e1 : cap = n.length := by omega
      obtain rfl : n' = [] := List.eq_nil_of_length_eq_zero (by omega)
      obtain rfl : nd = [] := List.eq_nil_of_length_eq_zero (by omega)
      rw [if_pos hcj, e1, e2, Nat.sub_self] at hd
      have HD := hide hd
      subst e1 e2
      clear hd hj hlen hcj hle hs' jl jc s1 i0 hcl
      simp only [List.length_nil] at *
      generalize hn : n.length = m at *
      go_wp2_with fail
      refine (implNameCmp_has (unhide HD) (unhide h4')).mono ?_
      generalize nameCmp [] [] = c at *
      subst hr
      rintro e w5 ⟨rfl, b5⟩
      go_wp2_with fail
      go_ret
      exact ⟨rfl, below_next bb4 b5⟩
     ·rw [if_neg hcj] at hd
      have HD := hide hd
      clear hd
      generalize hn : n.length = m at *
      generalize hn' : n'.length = m' at *
      go_wp2_with fail
      refine (implNameCmp_has (unhide HD) (unhide h4')).mono ?_
      generalize nameCmp nd n' = c at *
      subst hr
      rintro e w5 ⟨rfl, b5⟩
      go_wp2_with fail
      go_ret
      exact ⟨rfl, below_next bb4 b5⟩
   ·have hr := unhide hno (by omega)
    subst hr
    have i0 : (n.length : Int) < n'.length := by omega
    go_wp2_with fail
    go_ret
    exact ⟨rfl, bb4⟩
end Go.Proofs.YtmlcmkoefelolaaGreat

namespace Go.Proofs.YtmlcmkoefelolaaGreat
open Go.RowKit
set_option linter.unusedVariables false

set_option maxHeartbeats 1000000 in
set_option maxRecDepth 100000 in
theorem mayBeIn_has {vo vn vt vx vi : Value} {o : List (List Int)} {r : Rec} {w : World} (ho : HasL w vo o) (h : HasR w vn vt vx vi r) :
  Calls Tryz.prog 91 #[.agg #[vo], .agg #[vn, .int .i64 r.type, .int .i64 r.ttl, .int .i64 r.addr, vt, vx, vi]] w fun e w' => e = .returned (.bool (inZone o r)) ∧ Below w.heap.size w w' := by
 obtain ⟨oa, oc, rfl, _⟩ := ho.form
 obtain ⟨na, nc, rfl, _⟩ := h.name.form
 obtain ⟨ta, tc, rfl, _⟩ := h.to.form
 obtain ⟨xa, xc, rfl, _⟩ := h.text.form
 obtain ⟨ia, ic, rfl, _⟩ := h.nums.form
 have b0 := below2 w (.cells #[.slice oa o.length oc] 32) (.cells #[.slice na r.name.length nc, .int .i64 r.type, .int .i64 r.ttl, .int .i64 r.addr, .slice ta r.to.length tc, .slice xa r.text.length xc, .slice ia r.nums.length ic] 52)
 obtain ⟨hsz, k0, x0⟩ := box2 w (.cells #[.slice oa o.length oc] 32) #[.slice na r.name.length nc, .int .i64 r.type, .int .i64 r.ttl, .int .i64 r.addr, .slice ta r.to.length tc, .slice xa r.text.length xc, .slice ia r.nums.length ic] 52
 have H0 := hide (h.below b0)
 have O0 := hide (ho.below b0)
 have K0 := hide k0
 have X0 := hide x0
 have HR := implRrOk_has (h.below b0)
 have UN := fun (w : World) (h1 : HasL w (.slice na r.name.length nc) r.name) (h2 : HasL w (.slice oa o.length oc) o) => implUnder_has h1 h2
 have NC := fun (w : World) (h1 : HasL w (.slice na r.name.length nc) r.name) (h2 : HasL w (.slice oa o.length oc) o) => implNameCmp_has h1 h2
 unfold inZone
 generalize rrOk r = ok at *
 generalize under r.name o = und at *
 generalize nameCmp r.name o = c at *
 replace HR := hide HR
 replace UN := hide UN
 replace NC := hide NC
 clear h ho k0 x0 hsz
 cases ok with
 | false =>
  rw [Bool.false_and]
  go_enter Tryz.func91, Tryz.ntmps91
  go_wp2_with fail
  refine (unhide HR).mono ?_
  rintro e w1 ⟨rfl, b1⟩
  go_wp2_with fail
  go_ret
  exact ⟨rfl, below_next b0 b1⟩
 | true =>
  rw [Bool.true_and]
  generalize hRes : (und && (decide (r.type ≠ 6) || decide (c = 0))) = Res
  have HRES := hide hRes
  clear hRes
  go_enter Tryz.func91, Tryz.ntmps91
  go_wp2_with fail
  generalize (w.alloc (.cells #[.slice oa o.length oc] 32)).alloc (.cells #[.slice na r.name.length nc, .int .i64 r.type, .int .i64 r.ttl, .int .i64 r.addr, .slice ta r.to.length tc, .slice xa r.text.length xc, .slice ia r.nums.length ic] 52) = W at *
  refine (unhide HR).mono ?_
  rintro e w1 ⟨rfl, b1⟩
  have O1 := hide ((unhide O0).below b1)
  have H1 := hide ((unhide H0).below b1)
  have K1 := hide (block_kept b1 (unhide K0))
  have X1 := hide (block_kept b1 (unhide X0))
  have bb1 := below_next b0 b1
  obtain ⟨d0, d1, d2, d3, d4, d5, d6⟩ := cells7 (unhide X1)
  have c0 := block_one (unhide K1)
  clear HR O0 H0 K0 X0 b0 b1
  go_wp2_with fail
  clear d0 d1 d2 d3 d4 d5 d6 c0
  refine (unhide UN _ (unhide H1).name (unhide O1)).mono ?_
  rintro e w2 ⟨rfl, b2⟩
  have bb2 := below_next bb1 b2
  cases und with
  | false =>
   have hRes := unhide HRES
   rw [Bool.false_and] at hRes
   subst hRes
   clear HRES
   go_wp2_with fail
   go_ret
   exact ⟨rfl, bb2⟩
  | true =>
   have hRes := unhide HRES
   rw [Bool.true_and] at hRes
   have K2 := hide (block_kept b2 (unhide K1))
   have X2 := hide (block_kept b2 (unhide X1))
   have O2 := hide ((unhide O1).below b2)
   have H2 := hide ((unhide H1).below b2)
   obtain ⟨d0, d1, d2, d3, d4, d5, d6⟩ := cells7 (unhide X2)
   have c0 := block_one (unhide K2)
   clear HRES O1 H1 K1 X1 bb1 b2
   by_cases h6 : r.type = 6
   ·rw [decide_eq_false (by omega), Bool.false_or] at hRes
    have e6 : (r.type != 6) = false := by rw [h6]; rfl
    have HRES := hide hRes
    clear hRes h6
    go_wp2_with fail
    clear d0 d1 d2 d3 d4 d5 d6 c0
    refine (unhide NC _ (unhide H2).name (unhide O2)).mono ?_
    rintro e w3 ⟨rfl, b3⟩
    have hRes := unhide HRES
    have ec : (c == 0) = Res := by rw [← hRes, Bool.eq_iff_iff, beq_iff_eq, decide_eq_true_iff]
    clear hRes HRES
    go_wp2_with fail
    go_ret
    exact ⟨rfl, below_next bb2 b3⟩
   ·rw [decide_eq_true (show r.type ≠ 6 from h6), Bool.true_or] at hRes
    subst hRes
    have e6 : (r.type != 6) = true := by rw [bne_iff_ne]; exact h6
    clear h6
    go_wp2_with fail
    go_ret
    exact ⟨rfl, bb2⟩

set_option maxHeartbeats 1000000 in
set_option maxRecDepth 100000 in
theorem mayFollow_has {vn vt vx vi un ut ux ui : Value} {a b : Rec} {w : World} (h : HasR w vn vt vx vi a) (h' : HasR w un ut ux ui b) :
  Calls Tryz.prog 92 #[.agg #[vn, .int .i64 a.type, .int .i64 a.ttl, .int .i64 a.addr, vt, vx, vi], .agg #[un, .int .i64 b.type, .int .i64 b.ttl, .int .i64 b.addr, ut, ux, ui]] w fun e w' => e = .returned (.bool (follows a b)) ∧ Below w.heap.size w w' := by
 obtain ⟨na, nc, rfl, _⟩ := h.name.form
 obtain ⟨ta, tc, rfl, _⟩ := h.to.form
 obtain ⟨xa, xc, rfl, _⟩ := h.text.form
 obtain ⟨ia, ic, rfl, _⟩ := h.nums.form
 obtain ⟨na', nc', rfl, _⟩ := h'.name.form
 obtain ⟨ta', tc', rfl, _⟩ := h'.to.form
 obtain ⟨xa', xc', rfl, _⟩ := h'.text.form
 obtain ⟨ia', ic', rfl, _⟩ := h'.nums.form
 have b0 := below2 w (.cells #[.slice na a.name.length nc, .int .i64 a.type, .int .i64 a.ttl, .int .i64 a.addr, .slice ta a.to.length tc, .slice xa a.text.length xc, .slice ia a.nums.length ic] 52) (.cells #[.slice na' b.name.length nc', .int .i64 b.type, .int .i64 b.ttl, .int .i64 b.addr, .slice ta' b.to.length tc', .slice xa' b.text.length xc', .slice ia' b.nums.length ic'] 52)
 obtain ⟨hsz, k0, x0⟩ := box2 w (.cells #[.slice na a.name.length nc, .int .i64 a.type, .int .i64 a.ttl, .int .i64 a.addr, .slice ta a.to.length tc, .slice xa a.text.length xc, .slice ia a.nums.length ic] 52) #[.slice na' b.name.length nc', .int .i64 b.type, .int .i64 b.ttl, .int .i64 b.addr, .slice ta' b.to.length tc', .slice xa' b.text.length xc', .slice ia' b.nums.length ic'] 52
 have H0 := hide (h.below b0)
 have J0 := hide (h'.below b0)
 have K0 := hide k0
 have X0 := hide x0
 have CM := implRrCmp_has (h.below b0) (h'.below b0)
 have NC := fun (w : World) (h1 : HasL w (.slice na a.name.length nc) a.name) (h2 : HasL w (.slice na' b.name.length nc') b.name) => implNameCmp_has h1 h2
 unfold follows
 generalize rrCmp a b = c at *
 generalize nameCmp a.name b.name = d at *
 replace CM := hide CM
 replace NC := hide NC
 clear h h' k0 x0 hsz
 generalize hRes : (decide (c < 0) && ((decide (a.type ≠ 5) && decide (b.type ≠ 5)) || decide (d ≠ 0))) = Res
 have HRES := hide hRes
 clear hRes
 go_enter Tryz.func92, Tryz.ntmps92
 go_wp2_with fail
 generalize (w.alloc (.cells #[.slice na a.name.length nc, .int .i64 a.type, .int .i64 a.ttl, .int .i64 a.addr, .slice ta a.to.length tc, .slice xa a.text.length xc, .slice ia a.nums.length ic] 52)).alloc (.cells #[.slice na' b.name.length nc', .int .i64 b.type, .int .i64 b.ttl, .int .i64 b.addr, .slice ta' b.to.length tc', .slice xa' b.text.length xc', .slice ia' b.nums.length ic'] 52) = W at *
 refine (unhide CM).mono ?_
 rintro e w1 ⟨rfl, b1⟩
 have H1 := hide ((unhide H0).below b1)
 have J1 := hide ((unhide J0).below b1)
 have K1 := hide (block_kept b1 (unhide K0))
 have X1 := hide (block_kept b1 (unhide X0))
 have bb1 := below_next b0 b1
 clear CM H0 J0 K0 X0 b0 b1
 by_cases hc : c < 0
 ·have hRes := unhide HRES
  rw [decide_eq_true hc, Bool.true_and] at hRes
  have hc' : ¬ (0 ≤ c) := by omega
  obtain ⟨d0, d1, d2, d3, d4, d5, d6⟩ := cells7 (unhide K1)
  obtain ⟨f0, f1, f2, f3, f4, f5, f6⟩ := cells7 (unhide X1)
  clear HRES hc
  by_cases h5 : a.type ≠ 5 ∧ b.type ≠ 5
  ·rw [decide_eq_true h5.1, decide_eq_true h5.2, Bool.true_and, Bool.true_or] at hRes
   subst hRes
   have e5 : (a.type != 5) = true := by rw [bne_iff_ne]; exact h5.1
   have e5' : (b.type != 5) = true := by rw [bne_iff_ne]; exact h5.2
   clear h5
   go_wp2_with fail
   go_ret
   exact ⟨rfl, bb1⟩
  ·have hf : (decide (a.type ≠ 5) && decide (b.type ≠ 5)) = false := by
    rw [Bool.and_eq_false_iff, decide_eq_false_iff_not, decide_eq_false_iff_not]
    omega
   rw [hf, Bool.false_or] at hRes
   have ed : (d != 0) = Res := by rw [← hRes, Bool.eq_iff_iff, bne_iff_ne, decide_eq_true_iff]
   have HED := hide ed
   clear hRes hf ed
   by_cases h6 : a.type = 5
   ·have e5 : (a.type != 5) = false := by rw [h6]; rfl
    clear h5 h6
    go_wp2_with fail
    clear d0 d1 d2 d3 d4 d5 d6 f0 f1 f2 f3 f4 f5 f6
    refine (unhide NC _ (unhide H1).name (unhide J1).name).mono ?_
    rintro e w2 ⟨rfl, b2⟩
    have ed := unhide HED
    clear HED
    go_wp2_with fail
    go_ret
    exact ⟨rfl, below_next bb1 b2⟩
   ·have e5 : (a.type != 5) = true := by rw [bne_iff_ne]; exact h6
    have h7 : b.type = 5 := by omega
    have e5' : (b.type != 5) = false := by rw [h7]; rfl
    clear h5 h6 h7
    go_wp2_with fail
    clear d0 d1 d2 d3 d4 d5 d6 f0 f1 f2 f3 f4 f5 f6
    refine (unhide NC _ (unhide H1).name (unhide J1).name).mono ?_
    rintro e w2 ⟨rfl, b2⟩
    have ed := unhide HED
    clear HED
    go_wp2_with fail
    go_ret
    exact ⟨rfl, below_next bb1 b2⟩
 ·have hRes := unhide HRES
  rw [decide_eq_false hc, Bool.false_and] at hRes
  subst hRes
  have hc' : 0 ≤ c := by omega
  clear HRES hc
  go_wp2_with fail
  go_ret
  exact ⟨rfl, bb1⟩
end Go.Proofs.YtmlcmkoefelolaaGreat

namespace Go.Proofs.YtmlcmkoefelolaaGreat
open Go.RowKit
set_option linter.unusedVariables false

theorem one_count (n : Nat) : (((n : Nat) : Int) == 1) = decide (n = 1) := by
 rw [Bool.eq_iff_iff, beq_iff_eq, decide_eq_true_iff]
 omega

set_option maxHeartbeats 1600000 in
set_option maxRecDepth 100000 in
theorem implZoneOk_has {vo vr : Value} {o : List (List Int)} {rs : List Rec} {w : World} (h : HasZ w vo vr o rs) :
  Calls Tryz.prog 49 #[.agg #[vo, vr]] w fun e w' => e = .returned (.bool (zoneOk o rs)) ∧ Below w.heap.size w w' := by
 obtain ⟨oa, oc, rfl, _⟩ := h.name.form
 obtain ⟨ra, rc, rfl, hrl, hrm⟩ := h.recs.form
 have b0 := below_alloc (w := w) (.cells #[.slice oa o.length oc, .slice ra rs.length rc] 34)
 have k0 := heap_alloc_new w (.cells #[.slice oa o.length oc, .slice ra rs.length rc] 34)
 have H0 := hide (h.below b0)
 have K0 := hide k0
 have NO := implNameOk_has (h.below b0).name
 clear h k0 hrl hrm
 cases hok : nameOk o with
 | false =>
  rw [zoneOk_name hok]
  rw [hok] at NO
  replace NO := hide NO
  clear hok
  go_enter Tryz.func49, Tryz.ntmps49
  go_wp2_with fail
  refine (unhide NO).mono ?_
  rintro e w1 ⟨rfl, b1⟩
  go_wp2_with fail
  go_ret
  exact ⟨rfl, below_next b0 b1⟩
 | true =>
  rw [hok] at NO
  replace NO := hide NO
  by_cases h60 : rs.length ≤ 60
  ·generalize hzz : zoneOk o rs = ZZ
   have HZZ := hide hzz
   have HOK := hide hok
   clear hzz hok
   go_enter Tryz.func49, Tryz.ntmps49
   go_wp2_with fail
   generalize w.alloc (.cells #[.slice oa o.length oc, .slice ra rs.length rc] 34) = W at *
   refine (unhide NO).mono ?_
   rintro e w1 ⟨rfl, b1⟩
   have K1 := hide (block_kept b1 (unhide K0))
   have H1 := hide ((unhide H0).below b1)
   have bb1 := below_next b0 b1
   obtain ⟨d0, d1⟩ := cells2 (unhide K1)
   clear NO K0 H0 b0 b1
   generalize hn : rs.length = m at *
   have HN := hide hn
   clear hn
   have h60' : ¬ ((60 : Int) < m) := by omega
   go_wp2_with fail
   clear d0 d1
   go_loopw [3, 19] (fun s i wr => ∃ (k : Nat), k ≤ m ∧ i = .int .i64 k ∧ s = .int .i64 (soas rs k : Nat) ∧ Hid (∀ j, j < k → goodI o rs j = true) ∧ Below w1.heap.size w1 wr) (fun _ i _ => m - (intOf i).toNat)
   case atStart => exact ⟨0, Nat.zero_le _, rfl, rfl, hide (fun j hj => absurd hj (Nat.not_lt_zero _)), Below.refl _ _⟩
   case round =>
    obtain ⟨k, hk, rfl, rfl, hall, hb⟩ := hrel
    have hsk := soas_le rs k
    by_cases hlt : k < m
    ·obtain ⟨b, off, na, nc, ta, tc, xa, xc, ia, ic, rfl, hbl, hc, hu⟩ := ((unhide H1).below hb).recs.here (k := k) (by rw [unhide HN]; exact hlt)
     have K2 := hide (block_kept hb (unhide K1))
     have H2 := hide ((unhide H1).below hb)
     have bb2 := below_next bb1 hb
     have hgood : goodI o rs k = (inZone o (rs.getD k recZ) && (decide (k = 0) || follows (rs.getD (k - 1) recZ) (rs.getD k recZ))) := rfl
     have HGOOD := hide hgood
     have hsoa : soas rs (k + 1) = soas rs k + if (rs.getD k recZ).type = 6 then 1 else 0 := rfl
     have HSOA := hide hsoa
     clear hgood hsoa
     generalize hrk : rs.getD k recZ = rk at *
     have HRK := hide hrk
     clear hrk
     have b3 := below_alloc (w := wr) (.cells #[.slice na rk.name.length nc, .int .i64 rk.type, .int .i64 rk.ttl, .int .i64 rk.addr, .slice ta rk.to.length tc, .slice xa rk.text.length xc, .slice ia rk.nums.length ic] 52)
     have X3 := heap_alloc_new wr (.cells #[.slice na rk.name.length nc, .int .i64 rk.type, .int .i64 rk.ttl, .int .i64 rk.addr, .slice ta rk.to.length tc, .slice xa rk.text.length xc, .slice ia rk.nums.length ic] 52)
     have bd := below_drew (w := wr.alloc (.cells #[.slice na rk.name.length nc, .int .i64 rk.type, .int .i64 rk.ttl, .int .i64 rk.addr, .slice ta rk.to.length tc, .slice xa rk.text.length xc, .slice ia rk.nums.length ic] 52))
     have b4 := below_next b3 bd
     have X4 := hide (block_kept bd X3)
     have K4 := hide (block_kept b4 (unhide K2))
     have H4 := hide ((unhide H2).below b4)
     have U4 := hide (hu.below b4)
     have bb4 := below_next bb2 b4
     have bw4 := below_next hb b4
     have z4 := b4.size
     obtain ⟨c0, c1, c2, c3, c4, c5, c6⟩ := range7 hc
     clear b3 X3 bd b4 hu hc K2 H2 hb
     cases hin : inZone o rk with
     | false =>
      have hbad : goodI o rs k = false := by rw [unhide HGOOD, hin, Bool.false_and]
      have hz := zoneOk_bad (by rw [unhide HN]; exact hlt) hbad
      rw [unhide HZZ] at hz
      subst hz
      have MB := mayBeIn_has (unhide H4).name (unhide U4)
      rw [hin] at MB
      replace MB := hide MB
      clear hbad hin HGOOD HZZ HSOA
      go_wp2_with fail
      clear c0 c1 c2 c3 c4 c5 c6
      refine wp_region_held_drew (S := (fun w' => (w'.cell? ⟨w.heap.size, 0, none⟩ = some (.slice oa o.length oc) ∧ w'.cell? ⟨w.heap.size, 1, none⟩ = some (.slice (some ⟨b, off, none⟩) m rc)) ∧ (w'.cell? ⟨wr.heap.size, 0, none⟩ = some (.slice na rk.name.length nc) ∧ w'.cell? ⟨wr.heap.size, 1, none⟩ = some (.int .i64 rk.type) ∧ w'.cell? ⟨wr.heap.size, 2, none⟩ = some (.int .i64 rk.ttl) ∧ w'.cell? ⟨wr.heap.size, 3, none⟩ = some (.int .i64 rk.addr) ∧ w'.cell? ⟨wr.heap.size, 4, none⟩ = some (.slice ta rk.to.length tc) ∧ w'.cell? ⟨wr.heap.size, 5, none⟩ = some (.slice xa rk.text.length xc) ∧ w'.cell? ⟨wr.heap.size, 6, none⟩ = some (.slice ia rk.nums.length ic)))) (by kernel_rfl) ⟨cells2 (unhide K4), cells7 (unhide X4)⟩ (fun hHeld => ?_)
      show wpAnyH _ _ _ _ _ 20 #[false, false, false, false, false, false, false, false, false, false, false, false, false, false, false, false, false, false, false, false] _ _
      iterate 3 (refine tkF ?_ rfl (by kernel_rfl) (by kernel_rfl) (fun _ _ _ h => h) ?_ hHeld ?_; rotate_left; (· (intro w hSw; (try dsimp only at hSw); go_simp <;> with_reducible rfl)); simp only [Act.put, setF, List.setIfInBounds_toArray, List.set_cons_zero, List.set_cons_succ])
      refine runI 3 rfl (by kernel_rfl) (by kernel_rfl) (fun K hK => ?_)
      have HK := hide hK
      clear hK hHeld
      go_simp
      refine (unhide MB).mono ?_
      rintro e w5 ⟨rfl, b5⟩
      go_simp
      refine (unhide HK).out _ _ ⟨cells2 (block_kept b5 (unhide K4)), cells7 (block_kept b5 (unhide X4))⟩ (fun hHeld => ?_)
      clear HK K
      try simp only [List.setIfInBounds_toArray, List.set_cons_zero, List.set_cons_succ]
      iterate 2 (refine tkF ?_ rfl (by kernel_rfl) (by kernel_rfl) (fun _ _ _ h => h) ?_ hHeld ?_; rotate_left; (· (intro w hSw; (try dsimp only at hSw); go_simp <;> with_reducible rfl)); simp only [Act.put, setF, List.setIfInBounds_toArray, List.set_cons_zero, List.set_cons_succ])
      iterate 13 (refine skF rfl (by kernel_rfl) (by kernel_rfl) (fun _ _ _ h => h) hHeld ?_; simp only [Act.put, setF, List.setIfInBounds_toArray, List.set_cons_zero, List.set_cons_succ])
      refine tkF ?_ rfl (by kernel_rfl) (by kernel_rfl) (fun _ _ _ h => h) ?_ hHeld ?_; rotate_left; (· (intro w hSw; (try dsimp only at hSw); go_simp <;> with_reducible rfl)); simp only [Act.put, setF, List.setIfInBounds_toArray, List.set_cons_zero, List.set_cons_succ]
      refine wpAnyH_done (by kernel_rfl) ?_ _
      clear hHeld
      go_wp2_with fail
      go_ret
      exact ⟨rfl, below_next bb4 b5⟩
     | true =>
      have MB := mayBeIn_has (unhide H4).name (unhide U4)
      rw [hin] at MB
      replace MB := hide MB
      have hstep : ∀ (hg : goodI o rs k = true), ∀ j, j < k + 1 → goodI o rs j = true := fun hg j hj => by
       by_cases e : j = k
       ·subst e; exact hg
       ·exact unhide hall j (by omega)
      have HSTEP := hide hstep
      clear hstep
      by_cases hk0 : k = 0
      ·have hgd : goodI o rs k = true := by rw [unhide HGOOD, hin, Bool.true_and, decide_eq_true hk0, Bool.true_or]
       have HGD := hide hgd
       clear hgd hin HGOOD
       subst hk0
       simp only [Nat.zero_mul, Nat.add_zero] at c0 c1 c2 c3 c4 c5 c6
       go_wp2_with fail
       clear c0 c1 c2 c3 c4 c5 c6
       refine wp_region_held_drew (S := (fun w' => (w'.cell? ⟨w.heap.size, 0, none⟩ = some (.slice oa o.length oc) ∧ w'.cell? ⟨w.heap.size, 1, none⟩ = some (.slice (some ⟨b, off, none⟩) m rc)) ∧ (w'.cell? ⟨wr.heap.size, 0, none⟩ = some (.slice na rk.name.length nc) ∧ w'.cell? ⟨wr.heap.size, 1, none⟩ = some (.int .i64 rk.type) ∧ w'.cell? ⟨wr.heap.size, 2, none⟩ = some (.int .i64 rk.ttl) ∧ w'.cell? ⟨wr.heap.size, 3, none⟩ = some (.int .i64 rk.addr) ∧ w'.cell? ⟨wr.heap.size, 4, none⟩ = some (.slice ta rk.to.length tc) ∧ w'.cell? ⟨wr.heap.size, 5, none⟩ = some (.slice xa rk.text.length xc) ∧ w'.cell? ⟨wr.heap.size, 6, none⟩ = some (.slice ia rk.nums.length ic)))) (by kernel_rfl) ⟨cells2 (unhide K4), cells7 (unhide X4)⟩ (fun hHeld => ?_)
       show wpAnyH _ _ _ _ _ 20 #[false, false, false, false, false, false, false, false, false, false, false, false, false, false, false, false, false, false, false, false] _ _
       iterate 3 (refine tkF ?_ rfl (by kernel_rfl) (by kernel_rfl) (fun _ _ _ h => h) ?_ hHeld ?_; rotate_left; (· (intro w hSw; (try dsimp only at hSw); go_simp <;> with_reducible rfl)); simp only [Act.put, setF, List.setIfInBounds_toArray, List.set_cons_zero, List.set_cons_succ])
       refine runI 3 rfl (by kernel_rfl) (by kernel_rfl) (fun K hK => ?_)
       have HK := hide hK
       clear hK hHeld
       go_simp
       refine (unhide MB).mono ?_
       rintro e w5 ⟨rfl, b5⟩
       go_simp
       refine (unhide HK).out _ _ ⟨cells2 (block_kept b5 (unhide K4)), cells7 (block_kept b5 (unhide X4))⟩ (fun hHeld => ?_)
       clear HK K
       try simp only [List.setIfInBounds_toArray, List.set_cons_zero, List.set_cons_succ]
       iterate 2 (refine tkF ?_ rfl (by kernel_rfl) (by kernel_rfl) (fun _ _ _ h => h) ?_ hHeld ?_; rotate_left; (· (intro w hSw; (try dsimp only at hSw); go_simp <;> with_reducible rfl)); simp only [Act.put, setF, List.setIfInBounds_toArray, List.set_cons_zero, List.set_cons_succ])
       refine tkF (.int .i64 0) rfl (by kernel_rfl) (by kernel_rfl) (fun _ _ _ h => h) ?_ hHeld ?_; (· (intro w hSw; (try dsimp only at hSw); go_simp)); simp only [Act.put, setF, List.setIfInBounds_toArray, List.set_cons_zero, List.set_cons_succ]
       refine tkF (.bool false) rfl (by kernel_rfl) (by kernel_rfl) (fun _ _ _ h => h) ?_ hHeld ?_; (· (intro w hSw; (try dsimp only at hSw); go_simp)); simp only [Act.put, setF, List.setIfInBounds_toArray, List.set_cons_zero, List.set_cons_succ]
       refine tkF (.bool false) rfl (by kernel_rfl) (by kernel_rfl) (fun _ _ _ h => h) ?_ hHeld ?_; (· (intro w hSw; (try dsimp only at hSw); go_simp)); simp only [Act.put, setF, List.setIfInBounds_toArray, List.set_cons_zero, List.set_cons_succ]
       iterate 9 (refine skF rfl (by kernel_rfl) (by kernel_rfl) (fun _ _ _ h => h) hHeld ?_; simp only [Act.put, setF, List.setIfInBounds_toArray, List.set_cons_zero, List.set_cons_succ])
       iterate 2 (refine tkF ?_ rfl (by kernel_rfl) (by kernel_rfl) (fun _ _ _ h => h) ?_ hHeld ?_; rotate_left; (· (intro w hSw; (try dsimp only at hSw); go_simp <;> with_reducible rfl)); simp only [Act.put, setF, List.setIfInBounds_toArray, List.set_cons_zero, List.set_cons_succ])
       refine wpAnyH_done (by kernel_rfl) ?_ _
       clear hHeld
       have hgd := unhide HGD
       clear HGD
       have bw5 := below_next bw4 b5
       have X5 := hide (block_kept b5 (unhide X4))
       clear b5 bw4 X4 K4 MB H4 U4
       have hsoa := unhide HSOA
       clear HSOA
       obtain ⟨p0, p1, p2, p3, p4, p5, p6⟩ := cells7 (unhide X5)
       by_cases h6 : rk.type = 6
       ·rw [if_pos h6] at hsoa
        have e6 : (rk.type == 6) = true := by rw [h6]; rfl
        have HS1 := hide hsoa
        clear h6 hsoa
        go_wp2_with fail
        exact ⟨⟨0 + 1, by omega, by go_num, by rw [unhide HS1]; go_num, hide (unhide HSTEP hgd), bw5⟩, by simp [intOf]; omega⟩
       ·rw [if_neg h6, Nat.add_zero] at hsoa
        have e6 : (rk.type == 6) = false := by rw [beq_eq_false_iff_ne]; exact h6
        have HS1 := hide hsoa
        clear h6 hsoa
        go_wp2_with fail
        exact ⟨⟨0 + 1, by omega, by go_num, by first | (rw [unhide HS1]; done) | (rw [unhide HS1]; rfl), hide (unhide HSTEP hgd), bw5⟩, by simp [intOf]; omega⟩
      ·obtain ⟨k0, rfl⟩ : ∃ k0, k = k0 + 1 := ⟨k - 1, by omega⟩
       have hk0' : (0 : Int) < (k0 + 1 : Nat) := by omega
       have hwr : IntKind.i64.wrap (k0 : Int) = (k0 : Nat) := by have := hlt; exact wrap_small (by omega) (by omega)
       have hkm : (k0 : Int) < m := by omega
       rw [show k0 + 1 - 1 = k0 by omega] at HGOOD
       obtain ⟨b', off', na', nc', ta', tc', xa', xc', ia', ic', hbe, hbl', hc', hu'⟩ := (unhide H4).recs.here (k := k0) (by rw [unhide HN]; omega)
       simp only [Option.some.injEq, Addr.mk.injEq, and_true] at hbe
       obtain ⟨rfl, rfl⟩ := hbe
       generalize rs.getD k0 recZ = rp at *
       have HC4 := hide hc'
       have U4' := hide hu'
       clear hc' hu'
       have MF0 := fun (w : World) (h1 : HasR w (.slice na' rp.name.length nc') (.slice ta' rp.to.length tc') (.slice xa' rp.text.length xc') (.slice ia' rp.nums.length ic') rp) (h2 : HasR w (.slice na rk.name.length nc) (.slice ta rk.to.length tc) (.slice xa rk.text.length xc) (.slice ia rk.nums.length ic) rk) => mayFollow_has h1 h2
       cases hfo : follows rp rk with
       | false =>
        have hbad : goodI o rs (k0 + 1) = false := by rw [unhide HGOOD, hin, hfo]; simp
        have hz := zoneOk_bad (by rw [unhide HN]; exact hlt) hbad
        rw [unhide HZZ] at hz
        subst hz
        rw [hfo] at MF0
        replace MF0 := hide MF0
        clear hbad hin hfo HGOOD HZZ HSOA HSTEP
        go_wp2_with fail
        clear c0 c1 c2 c3 c4 c5 c6
        refine wp_region_held_drew (S := (fun w' => ((w'.cell? ⟨w.heap.size, 0, none⟩ = some (.slice oa o.length oc) ∧ w'.cell? ⟨w.heap.size, 1, none⟩ = some (.slice (some ⟨b, off, none⟩) m rc)) ∧ (w'.cell? ⟨wr.heap.size, 0, none⟩ = some (.slice na rk.name.length nc) ∧ w'.cell? ⟨wr.heap.size, 1, none⟩ = some (.int .i64 rk.type) ∧ w'.cell? ⟨wr.heap.size, 2, none⟩ = some (.int .i64 rk.ttl) ∧ w'.cell? ⟨wr.heap.size, 3, none⟩ = some (.int .i64 rk.addr) ∧ w'.cell? ⟨wr.heap.size, 4, none⟩ = some (.slice ta rk.to.length tc) ∧ w'.cell? ⟨wr.heap.size, 5, none⟩ = some (.slice xa rk.text.length xc) ∧ w'.cell? ⟨wr.heap.size, 6, none⟩ = some (.slice ia rk.nums.length ic))) ∧ (w'.cell? ⟨b, off + k0 * 7, none⟩ = some (.slice na' rp.name.length nc') ∧ w'.cell? ⟨b, off + k0 * 7 + 1, none⟩ = some (.int .i64 rp.type) ∧ w'.cell? ⟨b, off + k0 * 7 + 2, none⟩ = some (.int .i64 rp.ttl) ∧ w'.cell? ⟨b, off + k0 * 7 + 3, none⟩ = some (.int .i64 rp.addr) ∧ w'.cell? ⟨b, off + k0 * 7 + 4, none⟩ = some (.slice ta' rp.to.length tc') ∧ w'.cell? ⟨b, off + k0 * 7 + 5, none⟩ = some (.slice xa' rp.text.length xc') ∧ w'.cell? ⟨b, off + k0 * 7 + 6, none⟩ = some (.slice ia' rp.nums.length ic')))) (by kernel_rfl) ⟨⟨cells2 (unhide K4), cells7 (unhide X4)⟩, range7 (unhide HC4)⟩ (fun hHeld => ?_)
        show wpAnyH _ _ _ _ _ 20 #[false, false, false, false, false, false, false, false, false, false, false, false, false, false, false, false, false, false, false, false] _ _
        iterate 3 (refine tkF ?_ rfl (by kernel_rfl) (by kernel_rfl) (fun _ _ _ h => h) ?_ hHeld ?_; rotate_left; (· (intro w hSw; (try dsimp only at hSw); go_simp <;> with_reducible rfl)); simp only [Act.put, setF, List.setIfInBounds_toArray, List.set_cons_zero, List.set_cons_succ])
        refine runI 3 rfl (by kernel_rfl) (by kernel_rfl) (fun K hK => ?_)
        have HK := hide hK
        clear hK hHeld
        go_simp
        refine (unhide MB).mono ?_
        rintro e w5 ⟨rfl, b5⟩
        have MF := unhide MF0 _ ((unhide U4').below b5) ((unhide U4).below b5)
        replace MF := hide MF
        go_simp
        refine (unhide HK).out _ _ ⟨⟨cells2 (block_kept b5 (unhide K4)), cells7 (block_kept b5 (unhide X4))⟩, range7 (range_below (unhide HC4) hbl' b5)⟩ (fun hHeld => ?_)
        clear HK K
        try simp only [List.setIfInBounds_toArray, List.set_cons_zero, List.set_cons_succ]
        iterate 3 (refine tkF ?_ rfl (by kernel_rfl) (by kernel_rfl) (fun _ _ _ h => h) ?_ hHeld ?_; rotate_left; (· (intro w hSw; (try dsimp only at hSw); go_simp <;> with_reducible rfl)); simp only [Act.put, setF, List.setIfInBounds_toArray, List.set_cons_zero, List.set_cons_succ])
        refine tkF (.bool true) rfl (by kernel_rfl) (by kernel_rfl) (fun _ _ _ h => h) ?_ hHeld ?_; (· (intro w hSw; (try dsimp only at hSw); go_simp)); simp only [Act.put, setF, List.setIfInBounds_toArray, List.set_cons_zero, List.set_cons_succ]
        refine tkF (.bool true) rfl (by kernel_rfl) (by kernel_rfl) (fun _ _ _ h => h) ?_ hHeld ?_; (· (intro w hSw; (try dsimp only at hSw); go_simp)); simp only [Act.put, setF, List.setIfInBounds_toArray, List.set_cons_zero, List.set_cons_succ]
        iterate 2 (refine tkF ?_ rfl (by kernel_rfl) (by kernel_rfl) (fun _ _ _ h => h) ?_ hHeld ?_; rotate_left; (· (intro w hSw; (try dsimp only at hSw); go_simp <;> with_reducible rfl)); simp only [Act.put, setF, List.setIfInBounds_toArray, List.set_cons_zero, List.set_cons_succ])
        refine tkF (.int .i64 (k0 + 1 : Nat)) rfl (by kernel_rfl) (by kernel_rfl) (fun _ _ _ h => h) ?_ hHeld ?_; (· (intro w hSw; (try dsimp only at hSw); go_simp)); simp only [Act.put, setF, List.setIfInBounds_toArray, List.set_cons_zero, List.set_cons_succ]
        refine tkF (.int .i64 (k0 : Nat)) rfl (by kernel_rfl) (by kernel_rfl) (fun _ _ _ h => h) ?_ hHeld ?_; (· (intro w hSw; (try dsimp only at hSw); go_simp)); simp only [Act.put, setF, List.setIfInBounds_toArray, List.set_cons_zero, List.set_cons_succ]
        refine tkF (.pointer (some ⟨b, off + k0 * 7, none⟩)) rfl (by kernel_rfl) (by kernel_rfl) (fun _ _ _ h => h) ?_ hHeld ?_; (· (intro w hSw; (try dsimp only at hSw); go_simp)); simp only [Act.put, setF, List.setIfInBounds_toArray, List.set_cons_zero, List.set_cons_succ]
        iterate 2 (refine tkF ?_ rfl (by kernel_rfl) (by kernel_rfl) (fun _ _ _ h => h) ?_ hHeld ?_; rotate_left; (· (intro w hSw; (try dsimp only at hSw); go_simp <;> with_reducible rfl)); simp only [Act.put, setF, List.setIfInBounds_toArray, List.set_cons_zero, List.set_cons_succ])
        refine runI 16 rfl (by kernel_rfl) (by kernel_rfl) (fun K hK => ?_)
        have HK := hide hK
        clear hK hHeld
        go_simp
        refine (unhide MF).mono ?_
        rintro e w6 ⟨rfl, b6⟩
        have q6 := below_next b5 b6
        go_simp
        refine (unhide HK).out _ _ ⟨⟨cells2 (block_kept q6 (unhide K4)), cells7 (block_kept q6 (unhide X4))⟩, range7 (range_below (unhide HC4) hbl' q6)⟩ (fun hHeld => ?_)
        clear HK K
        try simp only [List.setIfInBounds_toArray, List.set_cons_zero, List.set_cons_succ]
        iterate 3 (refine tkF ?_ rfl (by kernel_rfl) (by kernel_rfl) (fun _ _ _ h => h) ?_ hHeld ?_; rotate_left; (· (intro w hSw; (try dsimp only at hSw); go_simp <;> with_reducible rfl)); simp only [Act.put, setF, List.setIfInBounds_toArray, List.set_cons_zero, List.set_cons_succ])
        refine wpAnyH_done (by kernel_rfl) ?_ _
        clear hHeld
        go_wp2_with fail
        go_ret
        exact ⟨rfl, below_next bb4 q6⟩
       | true =>
        have hgd : goodI o rs (k0 + 1) = true := by rw [unhide HGOOD, hin, hfo]; simp
        have HGD := hide hgd
        rw [hfo] at MF0
        replace MF0 := hide MF0
        clear hgd hin hfo HGOOD
        go_wp2_with fail
        clear c0 c1 c2 c3 c4 c5 c6
        refine wp_region_held_drew (S := (fun w' => ((w'.cell? ⟨w.heap.size, 0, none⟩ = some (.slice oa o.length oc) ∧ w'.cell? ⟨w.heap.size, 1, none⟩ = some (.slice (some ⟨b, off, none⟩) m rc)) ∧ (w'.cell? ⟨wr.heap.size, 0, none⟩ = some (.slice na rk.name.length nc) ∧ w'.cell? ⟨wr.heap.size, 1, none⟩ = some (.int .i64 rk.type) ∧ w'.cell? ⟨wr.heap.size, 2, none⟩ = some (.int .i64 rk.ttl) ∧ w'.cell? ⟨wr.heap.size, 3, none⟩ = some (.int .i64 rk.addr) ∧ w'.cell? ⟨wr.heap.size, 4, none⟩ = some (.slice ta rk.to.length tc) ∧ w'.cell? ⟨wr.heap.size, 5, none⟩ = some (.slice xa rk.text.length xc) ∧ w'.cell? ⟨wr.heap.size, 6, none⟩ = some (.slice ia rk.nums.length ic))) ∧ (w'.cell? ⟨b, off + k0 * 7, none⟩ = some (.slice na' rp.name.length nc') ∧ w'.cell? ⟨b, off + k0 * 7 + 1, none⟩ = some (.int .i64 rp.type) ∧ w'.cell? ⟨b, off + k0 * 7 + 2, none⟩ = some (.int .i64 rp.ttl) ∧ w'.cell? ⟨b, off + k0 * 7 + 3, none⟩ = some (.int .i64 rp.addr) ∧ w'.cell? ⟨b, off + k0 * 7 + 4, none⟩ = some (.slice ta' rp.to.length tc') ∧ w'.cell? ⟨b, off + k0 * 7 + 5, none⟩ = some (.slice xa' rp.text.length xc') ∧ w'.cell? ⟨b, off + k0 * 7 + 6, none⟩ = some (.slice ia' rp.nums.length ic')))) (by kernel_rfl) ⟨⟨cells2 (unhide K4), cells7 (unhide X4)⟩, range7 (unhide HC4)⟩ (fun hHeld => ?_)
        show wpAnyH _ _ _ _ _ 20 #[false, false, false, false, false, false, false, false, false, false, false, false, false, false, false, false, false, false, false, false] _ _
        iterate 3 (refine tkF ?_ rfl (by kernel_rfl) (by kernel_rfl) (fun _ _ _ h => h) ?_ hHeld ?_; rotate_left; (· (intro w hSw; (try dsimp only at hSw); go_simp <;> with_reducible rfl)); simp only [Act.put, setF, List.setIfInBounds_toArray, List.set_cons_zero, List.set_cons_succ])
        refine runI 3 rfl (by kernel_rfl) (by kernel_rfl) (fun K hK => ?_)
        have HK := hide hK
        clear hK hHeld
        go_simp
        refine (unhide MB).mono ?_
        rintro e w5 ⟨rfl, b5⟩
        have MF := unhide MF0 _ ((unhide U4').below b5) ((unhide U4).below b5)
        replace MF := hide MF
        go_simp
        refine (unhide HK).out _ _ ⟨⟨cells2 (block_kept b5 (unhide K4)), cells7 (block_kept b5 (unhide X4))⟩, range7 (range_below (unhide HC4) hbl' b5)⟩ (fun hHeld => ?_)
        clear HK K
        try simp only [List.setIfInBounds_toArray, List.set_cons_zero, List.set_cons_succ]
        iterate 3 (refine tkF ?_ rfl (by kernel_rfl) (by kernel_rfl) (fun _ _ _ h => h) ?_ hHeld ?_; rotate_left; (· (intro w hSw; (try dsimp only at hSw); go_simp <;> with_reducible rfl)); simp only [Act.put, setF, List.setIfInBounds_toArray, List.set_cons_zero, List.set_cons_succ])
        refine tkF (.bool true) rfl (by kernel_rfl) (by kernel_rfl) (fun _ _ _ h => h) ?_ hHeld ?_; (· (intro w hSw; (try dsimp only at hSw); go_simp)); simp only [Act.put, setF, List.setIfInBounds_toArray, List.set_cons_zero, List.set_cons_succ]
        refine tkF (.bool true) rfl (by kernel_rfl) (by kernel_rfl) (fun _ _ _ h => h) ?_ hHeld ?_; (· (intro w hSw; (try dsimp only at hSw); go_simp)); simp only [Act.put, setF, List.setIfInBounds_toArray, List.set_cons_zero, List.set_cons_succ]
        iterate 2 (refine tkF ?_ rfl (by kernel_rfl) (by kernel_rfl) (fun _ _ _ h => h) ?_ hHeld ?_; rotate_left; (· (intro w hSw; (try dsimp only at hSw); go_simp <;> with_reducible rfl)); simp only [Act.put, setF, List.setIfInBounds_toArray, List.set_cons_zero, List.set_cons_succ])
        refine tkF (.int .i64 (k0 + 1 : Nat)) rfl (by kernel_rfl) (by kernel_rfl) (fun _ _ _ h => h) ?_ hHeld ?_; (· (intro w hSw; (try dsimp only at hSw); go_simp)); simp only [Act.put, setF, List.setIfInBounds_toArray, List.set_cons_zero, List.set_cons_succ]
        refine tkF (.int .i64 (k0 : Nat)) rfl (by kernel_rfl) (by kernel_rfl) (fun _ _ _ h => h) ?_ hHeld ?_; (· (intro w hSw; (try dsimp only at hSw); go_simp)); simp only [Act.put, setF, List.setIfInBounds_toArray, List.set_cons_zero, List.set_cons_succ]
        refine tkF (.pointer (some ⟨b, off + k0 * 7, none⟩)) rfl (by kernel_rfl) (by kernel_rfl) (fun _ _ _ h => h) ?_ hHeld ?_; (· (intro w hSw; (try dsimp only at hSw); go_simp)); simp only [Act.put, setF, List.setIfInBounds_toArray, List.set_cons_zero, List.set_cons_succ]
        iterate 2 (refine tkF ?_ rfl (by kernel_rfl) (by kernel_rfl) (fun _ _ _ h => h) ?_ hHeld ?_; rotate_left; (· (intro w hSw; (try dsimp only at hSw); go_simp <;> with_reducible rfl)); simp only [Act.put, setF, List.setIfInBounds_toArray, List.set_cons_zero, List.set_cons_succ])
        refine runI 16 rfl (by kernel_rfl) (by kernel_rfl) (fun K hK => ?_)
        have HK := hide hK
        clear hK hHeld
        go_simp
        refine (unhide MF).mono ?_
        rintro e w6 ⟨rfl, b6⟩
        have q6 := below_next b5 b6
        go_simp
        refine (unhide HK).out _ _ ⟨⟨cells2 (block_kept q6 (unhide K4)), cells7 (block_kept q6 (unhide X4))⟩, range7 (range_below (unhide HC4) hbl' q6)⟩ (fun hHeld => ?_)
        clear HK K
        try simp only [List.setIfInBounds_toArray, List.set_cons_zero, List.set_cons_succ]
        iterate 3 (refine tkF ?_ rfl (by kernel_rfl) (by kernel_rfl) (fun _ _ _ h => h) ?_ hHeld ?_; rotate_left; (· (intro w hSw; (try dsimp only at hSw); go_simp <;> with_reducible rfl)); simp only [Act.put, setF, List.setIfInBounds_toArray, List.set_cons_zero, List.set_cons_succ])
        refine wpAnyH_done (by kernel_rfl) ?_ _
        clear hHeld
        have hgd := unhide HGD
        clear HGD
        have bw6 := below_next bw4 q6
        have X6 := hide (block_kept q6 (unhide X4))
        clear b5 b6 q6 bw4 X4 K4 MB H4 U4 MF0 HC4 U4'
        have hsoa := unhide HSOA
        clear HSOA
        obtain ⟨p0, p1, p2, p3, p4, p5, p6⟩ := cells7 (unhide X6)
        by_cases h6 : rk.type = 6
        ·rw [if_pos h6] at hsoa
         have e6 : (rk.type == 6) = true := by rw [h6]; rfl
         have HS1 := hide hsoa
         clear h6 hsoa
         go_wp2_with fail
         exact ⟨⟨k0 + 1 + 1, by omega, by go_num, by rw [unhide HS1]; go_num, hide (unhide HSTEP hgd), bw6⟩, by simp [intOf]; omega⟩
        ·rw [if_neg h6, Nat.add_zero] at hsoa
         have e6 : (rk.type == 6) = false := by rw [beq_eq_false_iff_ne]; exact h6
         have HS1 := hide hsoa
         clear h6 hsoa
         go_wp2_with fail
         exact ⟨⟨k0 + 1 + 1, by omega, by go_num, by first | (rw [unhide HS1]; done) | (rw [unhide HS1]; rfl), hide (unhide HSTEP hgd), bw6⟩, by simp [intOf]; omega⟩
    ·obtain rfl : k = m := by omega
     have hz := zoneOk_end (unhide HOK) (by rw [unhide HN]; omega) (by rw [unhide HN]; exact unhide hall)
     rw [unhide HZZ, unhide HN] at hz
     have h1 := one_count (soas rs k)
     rw [← hz] at h1
     clear hz HZZ
     go_wp2
     go_ret
     exact ⟨rfl, below_next bb1 hb⟩
  ·rw [zoneOk_long (by omega)]
   have h60' : (60 : Int) < rs.length := by omega
   go_enter Tryz.func49, Tryz.ntmps49
   go_wp2_with fail
   generalize w.alloc (.cells #[.slice oa o.length oc, .slice ra rs.length rc] 34) = W at *
   refine (unhide NO).mono ?_
   rintro e w1 ⟨rfl, b1⟩
   obtain ⟨d0, d1⟩ := cells2 (block_kept b1 (unhide K0))
   go_wp2_with fail
   go_ret
   exact ⟨rfl, below_next b0 b1⟩
end Go.Proofs.YtmlcmkoefelolaaGreat
