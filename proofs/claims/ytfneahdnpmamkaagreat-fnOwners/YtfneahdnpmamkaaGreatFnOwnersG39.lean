/-
  Contracts of the program's Under. Contracts of the program's mayBeIn and mayFollow.
-/
import Derived.Test.YtfneahdnpmamkaaGreatFnOwnersG38
namespace Go.Proofs.YtfneahdnpmamkaaGreat
open Go.RowKit
set_option linter.unusedVariables false

set_option maxHeartbeats 2000000 in
set_option maxRecDepth 100000 in
theorem Ok {v v' : Value} {n n' : List (List Int)} {w : World} (h : HasL w v n) (h' : HasL w v' n') :
  Calls Tryz.prog 68 #[.agg #[v], .agg #[v']] w fun e w' => e = .returned (.bool (under n n')) ∧ Below w.heap.size w w' := by
 obtain ⟨a, cap, rfl, hcl, hcm⟩ := h.form
 obtain ⟨a', cap', rfl, _⟩ := h'.form
 unfold maxLen at hcm
 have b1 := UI (w := w) (.cells #[.slice a n.length cap] 25)
 have k1 := heap_alloc_new w (.cells #[.slice a n.length cap] 25)
 have e1 : (w.alloc (.cells #[.slice a n.length cap] 25)).heap.size = w.heap.size + 1 := by show (w.heap.push _).size = _; simp
 have b2 := UI (w := w.alloc (.cells #[.slice a n.length cap] 25)) (.cells #[.slice a' n'.length cap'] 25)
 have x2 := heap_alloc_new (w.alloc (.cells #[.slice a n.length cap] 25)) (.cells #[.slice a' n'.length cap'] 25)
 have k2 := UE b2 k1
 rw [e1] at x2
 have bb2 := UG b1 b2
 have h2 := UC (h.below bb2)
 have h2' := UC (h'.below bb2)
 clear h h' b1 b2 k1 e1
 unfold under
 cases hok : Ag n with
 | false =>
  rw [Bool.false_and]
  have HOK := UC hok
  clear hok
  go_enter Tryz.func68, Tryz.ntmps68
  go_wp2_with fail
  generalize (w.alloc (.cells #[.slice a n.length cap] 25)).alloc (.cells #[.slice a' n'.length cap'] 25) = W at *
  refine (VP (UB h2)).mono ?_
  rw [UB HOK]
  rintro e w3 ⟨rfl, b3⟩
  go_wp2_with fail
  go_ret
  exact ⟨rfl, UG bb2 b3⟩
 | true =>
  cases hok' : Ag n' with
  | false =>
   rw [Bool.true_and, Bool.false_and]
   have HOK := UC hok
   have HOK' := UC hok'
   clear hok hok'
   go_enter Tryz.func68, Tryz.ntmps68
   go_wp2_with fail
   generalize (w.alloc (.cells #[.slice a n.length cap] 25)).alloc (.cells #[.slice a' n'.length cap'] 25) = W at *
   refine (VP (UB h2)).mono ?_
   rw [UB HOK]
   rintro e w3 ⟨rfl, b3⟩
   have x3 := US (UE b3 x2)
   go_wp2_with fail
   refine (VP ((UB h2').below b3)).mono ?_
   rw [UB HOK']
   rintro e w4 ⟨rfl, b4⟩
   go_wp2_with fail
   go_ret
   exact ⟨rfl, UG bb2 (UG b3 b4)⟩
  | true =>
   rw [Bool.true_and, Bool.true_and]
   have hs := (Ai hok).1
   have hs' := (Ai hok').1
   have hno := UC (fun (hlt : n.length < n'.length) => Lc hlt)
   have hyes := UC (fun (hle : n'.length ≤ n.length) => (show Cy n n' = (Bo (n.drop (n.length - n'.length)) n' == 0) by
    rw [Jl hle]; unfold Bo; rw [if_pos ⟨St hok _, hok'⟩]))
   have HOK := UC hok
   have HOK' := UC hok'
   clear hok hok'
   generalize Cy n n' = R at *
   have hdrop := UC (fun (W : World) (hW : HasL W (.slice a n.length cap) n) (k : Nat) (hk : k ≤ n.length) => HasL.drop hW rfl hk)
   go_enter Tryz.func68, Tryz.ntmps68
   go_wp2_with fail
   generalize (w.alloc (.cells #[.slice a n.length cap] 25)).alloc (.cells #[.slice a' n'.length cap'] 25) = W0 at *
   refine (VP (UB h2)).mono ?_
   rw [UB HOK]
   rintro e w3 ⟨rfl, b3⟩
   have x3 := US (UE b3 x2)
   go_wp2_with fail
   refine (VP ((UB h2').below b3)).mono ?_
   rw [UB HOK']
   rintro e W ⟨rfl, b4⟩
   have b4 := UG b3 b4
   have cx := US (UE b4 x2)
   have ck := US (UE b4 k2)
   have h4 := UC ((UB h2).below b4)
   have h4' := UC ((UB h2').below b4)
   have bb4 := UG bb2 b4
   clear x3 x2 k2 h2 h2' b3 b4 bb2 HOK HOK'
   by_cases hle : n'.length ≤ n.length
   ·have hr := UB hyes hle
    have hd := UB hdrop W (UB h4) (n.length - n'.length) (by omega)
    clear hyes hno hdrop
    generalize hj : n.length - n'.length = j at *
    have hlen : (n.drop j).length = n.length - j := by simp
    generalize n.drop j = nd at *
    have i0 : ¬ (n.length : Int) < n'.length := by omega
    have s1 : (n.length : Int) - n'.length = j := by omega
    have wj : IntKind.i64.wrap (j : Int) = j := Az j (by omega)
    have jl : j ≤ n.length := by omega
    have jc : j ≤ cap := by omega
    rcases hd with ⟨ha, hm0, hc0⟩ | ⟨g, off, ha, hd⟩
    ·have hz' : n'.length = 0 := by omega
     have hz : j = 0 := by omega
     obtain rfl : nd = [] := List.eq_nil_of_length_eq_zero (by omega)
     obtain rfl : n' = [] := List.eq_nil_of_length_eq_zero hz'
     obtain rfl : n = [] := List.eq_nil_of_length_eq_zero hm0
     subst ha hc0 hz
     clear hj hlen i0 s1 wj jl jc hz' hm0 hle hs hs' hcl
     simp only [List.length_nil] at *
     have HD := UC (show HasL W (.slice none 0 0) [] from .inl ⟨rfl, rfl⟩)
     go_wp2_with fail
     refine (Ba (UB HD) (UB h4')).mono ?_
     generalize Bo [] [] = c at *
     subst hr
     rintro e w5 ⟨rfl, b5⟩
     go_wp2_with fail
     go_ret
     exact ⟨rfl, UG bb4 b5⟩
    ·subst ha
     by_cases hcj : cap = j
     ·have e2 : j = n.length := by omega
      have e1 : cap = n.length := by omega
      obtain rfl : n' = [] := List.eq_nil_of_length_eq_zero (by omega)
      obtain rfl : nd = [] := List.eq_nil_of_length_eq_zero (by omega)
      rw [if_pos hcj, e1, e2, Nat.sub_self] at hd
      have HD := UC hd
      subst e1 e2
      clear hd hj hlen hcj hle hs' jl jc s1 i0 hcl
      simp only [List.length_nil] at *
      generalize hn : n.length = m at *
      go_wp2_with fail
      refine (Ba (UB HD) (UB h4')).mono ?_
      generalize Bo [] [] = c at *
      subst hr
      rintro e w5 ⟨rfl, b5⟩
      go_wp2_with fail
      go_ret
      exact ⟨rfl, UG bb4 b5⟩
     ·rw [if_neg hcj] at hd
      have HD := UC hd
      clear hd
      generalize hn : n.length = m at *
      generalize hn' : n'.length = m' at *
      go_wp2_with fail
      refine (Ba (UB HD) (UB h4')).mono ?_
      generalize Bo nd n' = c at *
      subst hr
      rintro e w5 ⟨rfl, b5⟩
      go_wp2_with fail
      go_ret
      exact ⟨rfl, UG bb4 b5⟩
   ·have hr := UB hno (by omega)
    subst hr
    have i0 : (n.length : Int) < n'.length := by omega
    go_wp2_with fail
    go_ret
    exact ⟨rfl, bb4⟩
set_option maxHeartbeats 1000000
set_option maxRecDepth 100000

theorem L0 {vo vn vt vx vi : Value} {o : List (List Int)} {r : Rec} {w : World} (ho : HasL w vo o) (h : HasR w vn vt vx vi r) :
  Calls Tryz.prog 40 #[.agg #[vo], .agg #[vn, .int .i64 r.type, .int .i64 r.ttl, .int .i64 r.addr, vt, vx, vi]] w fun e w' => e = .returned (.bool (Ji o r)) ∧ Below w.heap.size w w' := by
 obtain ⟨oa, oc, rfl, _⟩ := ho.form
 obtain ⟨na, nc, rfl, _⟩ := h.name.form
 obtain ⟨ta, tc, rfl, _⟩ := h.to.form
 obtain ⟨xa, xc, rfl, _⟩ := h.text.form
 obtain ⟨ia, ic, rfl, _⟩ := h.nums.form
 have b0 := Bl w (.cells #[.slice oa o.length oc] 25) (.cells #[.slice na r.name.length nc, .int .i64 r.type, .int .i64 r.ttl, .int .i64 r.addr, .slice ta r.to.length tc, .slice xa r.text.length xc, .slice ia r.nums.length ic] 39)
 obtain ⟨hsz, k0, x0⟩ := box2 w (.cells #[.slice oa o.length oc] 25) #[.slice na r.name.length nc, .int .i64 r.type, .int .i64 r.ttl, .int .i64 r.addr, .slice ta r.to.length tc, .slice xa r.text.length xc, .slice ia r.nums.length ic] 39
 have H0 := UC (h.below b0)
 have O0 := UC (ho.below b0)
 have K0 := UC k0
 have X0 := UC x0
 have HR := Bb (h.below b0)
 have UN := fun (w : World) (h1 : HasL w (.slice na r.name.length nc) r.name) (h2 : HasL w (.slice oa o.length oc) o) => Ok h1 h2
 have NC := fun (w : World) (h1 : HasL w (.slice na r.name.length nc) r.name) (h2 : HasL w (.slice oa o.length oc) o) => Ba h1 h2
 unfold Ji
 generalize rrOk r = ok at *
 generalize under r.name o = und at *
 generalize Bo r.name o = c at *
 replace HR := UC HR
 replace UN := UC UN
 replace NC := UC NC
 clear h ho k0 x0 hsz
 cases ok with
 | false =>
  rw [Bool.false_and]
  go_enter Tryz.func40, Tryz.ntmps40
  go_wp2_with fail
  refine (UB HR).mono ?_
  rintro e w1 ⟨rfl, b1⟩
  go_wp2_with fail
  go_ret
  exact ⟨rfl, UG b0 b1⟩
 | true =>
  rw [Bool.true_and]
  generalize hRes : (und && (decide (r.type ≠ 6) || decide (c = 0))) = Res
  have HRES := UC hRes
  clear hRes
  go_enter Tryz.func40, Tryz.ntmps40
  go_wp2_with fail
  generalize (w.alloc (.cells #[.slice oa o.length oc] 25)).alloc (.cells #[.slice na r.name.length nc, .int .i64 r.type, .int .i64 r.ttl, .int .i64 r.addr, .slice ta r.to.length tc, .slice xa r.text.length xc, .slice ia r.nums.length ic] 39) = W at *
  refine (UB HR).mono ?_
  rintro e w1 ⟨rfl, b1⟩
  have O1 := UC ((UB O0).below b1)
  have H1 := UC ((UB H0).below b1)
  have K1 := UC (UE b1 (UB K0))
  have X1 := UC (UE b1 (UB X0))
  have bb1 := UG b0 b1
  obtain ⟨d0, d1, d2, d3, d4, d5, d6⟩ := UJ (UB X1)
  have c0 := US (UB K1)
  clear HR O0 H0 K0 X0 b0 b1
  go_wp2_with fail
  clear d0 d1 d2 d3 d4 d5 d6 c0
  refine (UB UN _ (UB H1).name (UB O1)).mono ?_
  rintro e w2 ⟨rfl, b2⟩
  have bb2 := UG bb1 b2
  cases und with
  | false =>
   have hRes := UB HRES
   rw [Bool.false_and] at hRes
   subst hRes
   clear HRES
   go_wp2_with fail
   go_ret
   exact ⟨rfl, bb2⟩
  | true =>
   have hRes := UB HRES
   rw [Bool.true_and] at hRes
   have K2 := UC (UE b2 (UB K1))
   have X2 := UC (UE b2 (UB X1))
   have O2 := UC ((UB O1).below b2)
   have H2 := UC ((UB H1).below b2)
   obtain ⟨d0, d1, d2, d3, d4, d5, d6⟩ := UJ (UB X2)
   have c0 := US (UB K2)
   clear HRES O1 H1 K1 X1 bb1 b2
   by_cases h6 : r.type = 6
   ·rw [decide_eq_false (by omega), Bool.false_or] at hRes
    have e6 : (r.type != 6) = false := by rw [h6]; rfl
    have HRES := UC hRes
    clear hRes h6
    go_wp2_with fail
    clear d0 d1 d2 d3 d4 d5 d6 c0
    refine (UB NC _ (UB H2).name (UB O2)).mono ?_
    rintro e w3 ⟨rfl, b3⟩
    have hRes := UB HRES
    have ec : (c == 0) = Res := by rw [← hRes, Bool.eq_iff_iff, beq_iff_eq, decide_eq_true_iff]
    clear hRes HRES
    go_wp2_with fail
    go_ret
    exact ⟨rfl, UG bb2 b3⟩
   ·rw [decide_eq_true (show r.type ≠ 6 from h6), Bool.true_or] at hRes
    subst hRes
    have e6 : (r.type != 6) = true := by rw [bne_iff_ne]; exact h6
    clear h6
    go_wp2_with fail
    go_ret
    exact ⟨rfl, bb2⟩

theorem Oq {vn vt vx vi un ut ux ui : Value} {a b : Rec} {w : World} (h : HasR w vn vt vx vi a) (h' : HasR w un ut ux ui b) :
  Calls Tryz.prog 41 #[.agg #[vn, .int .i64 a.type, .int .i64 a.ttl, .int .i64 a.addr, vt, vx, vi], .agg #[un, .int .i64 b.type, .int .i64 b.ttl, .int .i64 b.addr, ut, ux, ui]] w fun e w' => e = .returned (.bool (follows a b)) ∧ Below w.heap.size w w' := by
 obtain ⟨na, nc, rfl, _⟩ := h.name.form
 obtain ⟨ta, tc, rfl, _⟩ := h.to.form
 obtain ⟨xa, xc, rfl, _⟩ := h.text.form
 obtain ⟨ia, ic, rfl, _⟩ := h.nums.form
 obtain ⟨na', nc', rfl, _⟩ := h'.name.form
 obtain ⟨ta', tc', rfl, _⟩ := h'.to.form
 obtain ⟨xa', xc', rfl, _⟩ := h'.text.form
 obtain ⟨ia', ic', rfl, _⟩ := h'.nums.form
 have b0 := Bl w (.cells #[.slice na a.name.length nc, .int .i64 a.type, .int .i64 a.ttl, .int .i64 a.addr, .slice ta a.to.length tc, .slice xa a.text.length xc, .slice ia a.nums.length ic] 39) (.cells #[.slice na' b.name.length nc', .int .i64 b.type, .int .i64 b.ttl, .int .i64 b.addr, .slice ta' b.to.length tc', .slice xa' b.text.length xc', .slice ia' b.nums.length ic'] 39)
 obtain ⟨hsz, k0, x0⟩ := box2 w (.cells #[.slice na a.name.length nc, .int .i64 a.type, .int .i64 a.ttl, .int .i64 a.addr, .slice ta a.to.length tc, .slice xa a.text.length xc, .slice ia a.nums.length ic] 39) #[.slice na' b.name.length nc', .int .i64 b.type, .int .i64 b.ttl, .int .i64 b.addr, .slice ta' b.to.length tc', .slice xa' b.text.length xc', .slice ia' b.nums.length ic'] 39
 have H0 := UC (h.below b0)
 have J0 := UC (h'.below b0)
 have K0 := UC k0
 have X0 := UC x0
 have CM := Ox (h.below b0) (h'.below b0)
 have NC := fun (w : World) (h1 : HasL w (.slice na a.name.length nc) a.name) (h2 : HasL w (.slice na' b.name.length nc') b.name) => Ba h1 h2
 unfold follows
 generalize Pd a b = c at *
 generalize Bo a.name b.name = d at *
 replace CM := UC CM
 replace NC := UC NC
 clear h h' k0 x0 hsz
 generalize hRes : (decide (c < 0) && ((decide (a.type ≠ 5) && decide (b.type ≠ 5)) || decide (d ≠ 0))) = Res
 have HRES := UC hRes
 clear hRes
 go_enter Tryz.func41, Tryz.ntmps41
 go_wp2_with fail
 generalize (w.alloc (.cells #[.slice na a.name.length nc, .int .i64 a.type, .int .i64 a.ttl, .int .i64 a.addr, .slice ta a.to.length tc, .slice xa a.text.length xc, .slice ia a.nums.length ic] 39)).alloc (.cells #[.slice na' b.name.length nc', .int .i64 b.type, .int .i64 b.ttl, .int .i64 b.addr, .slice ta' b.to.length tc', .slice xa' b.text.length xc', .slice ia' b.nums.length ic'] 39) = W at *
 refine (UB CM).mono ?_
 rintro e w1 ⟨rfl, b1⟩
 have H1 := UC ((UB H0).below b1)
 have J1 := UC ((UB J0).below b1)
 have K1 := UC (UE b1 (UB K0))
 have X1 := UC (UE b1 (UB X0))
 have bb1 := UG b0 b1
 clear CM H0 J0 K0 X0 b0 b1
 by_cases hc : c < 0
 ·have hRes := UB HRES
  rw [decide_eq_true hc, Bool.true_and] at hRes
  have hc' : ¬ (0 ≤ c) := by omega
  obtain ⟨d0, d1, d2, d3, d4, d5, d6⟩ := UJ (UB K1)
  obtain ⟨f0, f1, f2, f3, f4, f5, f6⟩ := UJ (UB X1)
  clear HRES hc
  by_cases h5 : a.type ≠ 5 ∧ b.type ≠ 5
  ·rw [decide_eq_true h5.1, decide_eq_true h5.2, Bool.true_and, Bool.true_or] at hRes
   subst hRes
   have e5 : (a.type != 5) = true := by rw [bne_iff_ne]; exact h5.1
   have e5' : (b.type != 5) = true := by rw [bne_iff_ne]; exact h5.2
   clear h5
   go_wp2_with fail
   go_ret
   exact ⟨rfl, bb1⟩
  ·have hf : (decide (a.type ≠ 5) && decide (b.type ≠ 5)) = false := by
    rw [Bool.and_eq_false_iff, decide_eq_false_iff_not, decide_eq_false_iff_not]
    omega
   rw [hf, Bool.false_or] at hRes
   have ed : (d != 0) = Res := by rw [← hRes, Bool.eq_iff_iff, bne_iff_ne, decide_eq_true_iff]
   have HED := UC ed
   clear hRes hf ed
   by_cases h6 : a.type = 5
   ·have e5 : (a.type != 5) = false := by rw [h6]; rfl
    clear h5 h6
    go_wp2_with fail
    clear d0 d1 d2 d3 d4 d5 d6 f0 f1 f2 f3 f4 f5 f6
    refine (UB NC _ (UB H1).name (UB J1).name).mono ?_
    rintro e w2 ⟨rfl, b2⟩
    have ed := UB HED
    clear HED
    go_wp2_with fail
    go_ret
    exact ⟨rfl, UG bb1 b2⟩
   ·have e5 : (a.type != 5) = true := by rw [bne_iff_ne]; exact h6
    have h7 : b.type = 5 := by omega
    have e5' : (b.type != 5) = false := by rw [h7]; rfl
    clear h5 h6 h7
    go_wp2_with fail
    clear d0 d1 d2 d3 d4 d5 d6 f0 f1 f2 f3 f4 f5 f6
    refine (UB NC _ (UB H1).name (UB J1).name).mono ?_
    rintro e w2 ⟨rfl, b2⟩
    have ed := UB HED
    clear HED
    go_wp2_with fail
    go_ret
    exact ⟨rfl, UG bb1 b2⟩
 ·have hRes := UB HRES
  rw [decide_eq_false hc, Bool.false_and] at hRes
  subst hRes
  have hc' : 0 ≤ c := by omega
  clear HRES hc
  go_wp2_with fail
  go_ret
  exact ⟨rfl, bb1⟩
end Go.Proofs.YtfneahdnpmamkaaGreat
