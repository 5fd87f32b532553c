/-
  Contracts of the program's Under. Contracts of the program's mayBeIn and mayFollow.
-/
import Derived.Test.YtaconefooicplaaSerialG21
import Derived.Test.YtaconefooicplaaSerialG13
import Derived.Test.YtaconefooicplaaSerialG14
import Derived.Test.YtaconefooicplaaSerialG10
import Derived.Test.YtaconefooicplaaSerialG20
import Derived.Test.YtaconefooicplaaSerialG24
namespace Go.Proofs.Ytaconefooicplaa
open Go.RowKit
set_option linter.unusedVariables false

set_option maxHeartbeats 2000000 in
set_option maxRecDepth 100000 in
theorem implUnder_has {v v' : Value} {n n' : List (List Int)} {w : World} (h : HasL w v n) (h' : HasL w v' n') :
    Calls Try.prog 19 #[.agg #[v], .agg #[v']] w fun e w' => e = .returned (.bool (under n n')) ∧ Below w.heap.size w w' := by
  obtain ⟨a, cap, rfl, hcl, hcm⟩ := h.form
  obtain ⟨a', cap', rfl, _⟩ := h'.form
  unfold maxLen at hcm
  have b1 := below_alloc (w := w) (.cells #[.slice a n.length cap] 25)
  have k1 := heap_alloc_new w (.cells #[.slice a n.length cap] 25)
  have e1 : (w.alloc (.cells #[.slice a n.length cap] 25)).heap.size = w.heap.size + 1 := by show (w.heap.push _).size = _; simp
  have b2 := below_alloc (w := w.alloc (.cells #[.slice a n.length cap] 25)) (.cells #[.slice a' n'.length cap'] 25)
  have x2 := heap_alloc_new (w.alloc (.cells #[.slice a n.length cap] 25)) (.cells #[.slice a' n'.length cap'] 25)
  have k2 := block_kept b2 k1
  rw [e1] at x2
  have bb2 := below_next b1 b2
  have h2 := hide (h.below bb2)
  have h2' := hide (h'.below bb2)
  clear h h' b1 b2 k1 e1
  unfold under
  cases hok : nameOk n with
  | false =>
    rw [Bool.false_and]
    have HOK := hide hok
    clear hok
    go_enter Try.func19, Try.ntmps19
    go_wp2_with fail
    generalize (w.alloc (.cells #[.slice a n.length cap] 25)).alloc (.cells #[.slice a' n'.length cap'] 25) = W at *
    refine (implNameOk_has (unhide h2)).mono ?_
    rw [unhide HOK]
    rintro e w3 ⟨rfl, b3⟩
    go_wp2_with fail
    go_ret
    exact ⟨rfl, below_next bb2 b3⟩
  | true =>
    cases hok' : nameOk n' with
    | false =>
      rw [Bool.true_and, Bool.false_and]
      have HOK := hide hok
      have HOK' := hide hok'
      clear hok hok'
      go_enter Try.func19, Try.ntmps19
      go_wp2_with fail
      generalize (w.alloc (.cells #[.slice a n.length cap] 25)).alloc (.cells #[.slice a' n'.length cap'] 25) = W at *
      refine (implNameOk_has (unhide h2)).mono ?_
      rw [unhide HOK]
      rintro e w3 ⟨rfl, b3⟩
      have x3 := block_one (block_kept b3 x2)
      go_wp2_with fail
      refine (implNameOk_has ((unhide h2').below b3)).mono ?_
      rw [unhide HOK']
      rintro e w4 ⟨rfl, b4⟩
      go_wp2_with fail
      go_ret
      exact ⟨rfl, below_next bb2 (below_next b3 b4)⟩
    | true =>
      rw [Bool.true_and, Bool.true_and]
      have hs := (nameOk_parts hok).1
      have hs' := (nameOk_parts hok').1
      have hno := hide (fun (hlt : n.length < n'.length) => endsWith_no hlt)
      have hyes := hide (fun (hle : n'.length ≤ n.length) => (show endsWith n n' = (nameCmp (n.drop (n.length - n'.length)) n' == 0) by
        rw [endsWith_yes hle]; unfold nameCmp; rw [if_pos ⟨nameOk_drop hok _, hok'⟩]))
      have HOK := hide hok
      have HOK' := hide hok'
      clear hok hok'
      generalize endsWith n n' = R at *
      have hdrop := hide (fun (W : World) (hW : HasL W (.slice a n.length cap) n) (k : Nat) (hk : k ≤ n.length) => HasL.drop hW rfl hk)
      go_enter Try.func19, Try.ntmps19
      go_wp2_with fail
      generalize (w.alloc (.cells #[.slice a n.length cap] 25)).alloc (.cells #[.slice a' n'.length cap'] 25) = W0 at *
      refine (implNameOk_has (unhide h2)).mono ?_
      rw [unhide HOK]
      rintro e w3 ⟨rfl, b3⟩
      have x3 := block_one (block_kept b3 x2)
      go_wp2_with fail
      refine (implNameOk_has ((unhide h2').below b3)).mono ?_
      rw [unhide HOK']
      rintro e W ⟨rfl, b4⟩
      have b4 := below_next b3 b4
      have cx := block_one (block_kept b4 x2)
      have ck := block_one (block_kept b4 k2)
      have h4 := hide ((unhide h2).below b4)
      have h4' := hide ((unhide h2').below b4)
      have bb4 := below_next bb2 b4
      clear x3 x2 k2 h2 h2' b3 b4 bb2 HOK HOK'
      by_cases hle : n'.length ≤ n.length
      · have hr := unhide hyes hle
        have hd := unhide hdrop W (unhide h4) (n.length - n'.length) (by omega)
        clear hyes hno hdrop
        generalize hj : n.length - n'.length = j at *
        have hlen : (n.drop j).length = n.length - j := by simp
        generalize n.drop j = nd at *
        have i0 : ¬ (n.length : Int) < n'.length := by omega
        have s1 : (n.length : Int) - n'.length = j := by omega
        have wj : IntKind.i64.wrap (j : Int) = j := wrap_small j (by omega)
        have jl : j ≤ n.length := by omega
        have jc : j ≤ cap := by omega
        rcases hd with ⟨ha, hm0, hc0⟩ | ⟨g, off, ha, hd⟩
        · have hz' : n'.length = 0 := by omega
          have hz : j = 0 := by omega
          obtain rfl : nd = [] := List.eq_nil_of_length_eq_zero (by omega)
          obtain rfl : n' = [] := List.eq_nil_of_length_eq_zero hz'
          obtain rfl : n = [] := List.eq_nil_of_length_eq_zero hm0
          subst ha hc0 hz
          clear hj hlen i0 s1 wj jl jc hz' hm0 hle hs hs' hcl
          simp only [List.length_nil] at *
          have HD := hide (show HasL W (.slice none 0 0) [] from .inl ⟨rfl, rfl⟩)
          go_wp2_with fail
          refine (implNameCmp_has (unhide HD) (unhide h4')).mono ?_
          generalize nameCmp [] [] = c at *
          subst hr
          rintro e w5 ⟨rfl, b5⟩
          go_wp2_with fail
          go_ret
          exact ⟨rfl, below_next bb4 b5⟩
        · subst ha
          by_cases hcj : cap = j
          · have e2 : j = n.length := by omega
            have e1 : cap = n.length := by omega
            obtain rfl : n' = [] := List.eq_nil_of_length_eq_zero (by omega)
            obtain rfl : nd = [] := List.eq_nil_of_length_eq_zero (by omega)
            rw [if_pos hcj, e1, e2, Nat.sub_self] at hd
            have HD := hide hd
            subst e1 e2
            clear hd hj hlen hcj hle hs' jl jc s1 i0 hcl
            simp only [List.length_nil] at *
            generalize hn : n.length = m at *
            go_wp2_with fail
            refine (implNameCmp_has (unhide HD) (unhide h4')).mono ?_
            generalize nameCmp [] [] = c at *
            subst hr
            rintro e w5 ⟨rfl, b5⟩
            go_wp2_with fail
            go_ret
            exact ⟨rfl, below_next bb4 b5⟩
          · rw [if_neg hcj] at hd
            have HD := hide hd
            clear hd
            generalize hn : n.length = m at *
            generalize hn' : n'.length = m' at *
            go_wp2_with fail
            refine (implNameCmp_has (unhide HD) (unhide h4')).mono ?_
            generalize nameCmp nd n' = c at *
            subst hr
            rintro e w5 ⟨rfl, b5⟩
            go_wp2_with fail
            go_ret
            exact ⟨rfl, below_next bb4 b5⟩
      · have hr := unhide hno (by omega)
        subst hr
        have i0 : (n.length : Int) < n'.length := by omega
        go_wp2_with fail
        go_ret
        exact ⟨rfl, bb4⟩
end Go.Proofs.Ytaconefooicplaa

namespace Go.Proofs.Ytaconefooicplaa
open Go.RowKit
set_option linter.unusedVariables false

set_option maxHeartbeats 1000000 in
set_option maxRecDepth 100000 in
theorem mayBeIn_has {vo vn vt vx vi : Value} {o : List (List Int)} {r : Rec} {w : World} (ho : HasL w vo o) (h : HasR w vn vt vx vi r) :
    Calls Try.prog 75 #[.agg #[vo], .agg #[vn, .int .i64 r.type, .int .i64 r.ttl, .int .i64 r.addr, vt, vx, vi]] w fun e w' => e = .returned (.bool (inZone o r)) ∧ Below w.heap.size w w' := by
  obtain ⟨oa, oc, rfl, _⟩ := ho.form
  obtain ⟨na, nc, rfl, _⟩ := h.name.form
  obtain ⟨ta, tc, rfl, _⟩ := h.to.form
  obtain ⟨xa, xc, rfl, _⟩ := h.text.form
  obtain ⟨ia, ic, rfl, _⟩ := h.nums.form
  have b0 := below2 w (.cells #[.slice oa o.length oc] 25) (.cells #[.slice na r.name.length nc, .int .i64 r.type, .int .i64 r.ttl, .int .i64 r.addr, .slice ta r.to.length tc, .slice xa r.text.length xc, .slice ia r.nums.length ic] 50)
  obtain ⟨hsz, k0, x0⟩ := box2 w (.cells #[.slice oa o.length oc] 25) #[.slice na r.name.length nc, .int .i64 r.type, .int .i64 r.ttl, .int .i64 r.addr, .slice ta r.to.length tc, .slice xa r.text.length xc, .slice ia r.nums.length ic] 50
  have H0 := hide (h.below b0)
  have O0 := hide (ho.below b0)
  have K0 := hide k0
  have X0 := hide x0
  have HR := implRrOk_has (h.below b0)
  have UN := fun (w : World) (h1 : HasL w (.slice na r.name.length nc) r.name) (h2 : HasL w (.slice oa o.length oc) o) => implUnder_has h1 h2
  have NC := fun (w : World) (h1 : HasL w (.slice na r.name.length nc) r.name) (h2 : HasL w (.slice oa o.length oc) o) => implNameCmp_has h1 h2
  unfold inZone
  generalize rrOk r = ok at *
  generalize under r.name o = und at *
  generalize nameCmp r.name o = c at *
  replace HR := hide HR
  replace UN := hide UN
  replace NC := hide NC
  clear h ho k0 x0 hsz
  cases ok with
  | false =>
    rw [Bool.false_and]
    go_enter Try.func75, Try.ntmps75
    go_wp2_with fail
    refine (unhide HR).mono ?_
    rintro e w1 ⟨rfl, b1⟩
    go_wp2_with fail
    go_ret
    exact ⟨rfl, below_next b0 b1⟩
  | true =>
    rw [Bool.true_and]
    generalize hRes : (und && (decide (r.type ≠ 6) || decide (c = 0))) = Res
    have HRES := hide hRes
    clear hRes
    go_enter Try.func75, Try.ntmps75
    go_wp2_with fail
    generalize (w.alloc (.cells #[.slice oa o.length oc] 25)).alloc (.cells #[.slice na r.name.length nc, .int .i64 r.type, .int .i64 r.ttl, .int .i64 r.addr, .slice ta r.to.length tc, .slice xa r.text.length xc, .slice ia r.nums.length ic] 50) = W at *
    refine (unhide HR).mono ?_
    rintro e w1 ⟨rfl, b1⟩
    have O1 := hide ((unhide O0).below b1)
    have H1 := hide ((unhide H0).below b1)
    have K1 := hide (block_kept b1 (unhide K0))
    have X1 := hide (block_kept b1 (unhide X0))
    have bb1 := below_next b0 b1
    obtain ⟨d0, d1, d2, d3, d4, d5, d6⟩ := cells7 (unhide X1)
    have c0 := block_one (unhide K1)
    clear HR O0 H0 K0 X0 b0 b1
    go_wp2_with fail
    clear d0 d1 d2 d3 d4 d5 d6 c0
    refine (unhide UN _ (unhide H1).name (unhide O1)).mono ?_
    rintro e w2 ⟨rfl, b2⟩
    have bb2 := below_next bb1 b2
    cases und with
    | false =>
      have hRes := unhide HRES
      rw [Bool.false_and] at hRes
      subst hRes
      clear HRES
      go_wp2_with fail
      go_ret
      exact ⟨rfl, bb2⟩
    | true =>
      have hRes := unhide HRES
      rw [Bool.true_and] at hRes
      have K2 := hide (block_kept b2 (unhide K1))
      have X2 := hide (block_kept b2 (unhide X1))
      have O2 := hide ((unhide O1).below b2)
      have H2 := hide ((unhide H1).below b2)
      obtain ⟨d0, d1, d2, d3, d4, d5, d6⟩ := cells7 (unhide X2)
      have c0 := block_one (unhide K2)
      clear HRES O1 H1 K1 X1 bb1 b2
      by_cases h6 : r.type = 6
      · rw [decide_eq_false (by omega), Bool.false_or] at hRes
        have e6 : (r.type != 6) = false := by rw [h6]; rfl
        have HRES := hide hRes
        clear hRes h6
        go_wp2_with fail
        clear d0 d1 d2 d3 d4 d5 d6 c0
        refine (unhide NC _ (unhide H2).name (unhide O2)).mono ?_
        rintro e w3 ⟨rfl, b3⟩
        have hRes := unhide HRES
        have ec : (c == 0) = Res := by rw [← hRes, Bool.eq_iff_iff, beq_iff_eq, decide_eq_true_iff]
        clear hRes HRES
        go_wp2_with fail
        go_ret
        exact ⟨rfl, below_next bb2 b3⟩
      · rw [decide_eq_true (show r.type ≠ 6 from h6), Bool.true_or] at hRes
        subst hRes
        have e6 : (r.type != 6) = true := by rw [bne_iff_ne]; exact h6
        clear h6
        go_wp2_with fail
        go_ret
        exact ⟨rfl, bb2⟩

set_option maxHeartbeats 1000000 in
set_option maxRecDepth 100000 in
theorem mayFollow_has {vn vt vx vi un ut ux ui : Value} {a b : Rec} {w : World} (h : HasR w vn vt vx vi a) (h' : HasR w un ut ux ui b) :
    Calls Try.prog 76 #[.agg #[vn, .int .i64 a.type, .int .i64 a.ttl, .int .i64 a.addr, vt, vx, vi], .agg #[un, .int .i64 b.type, .int .i64 b.ttl, .int .i64 b.addr, ut, ux, ui]] w fun e w' => e = .returned (.bool (follows a b)) ∧ Below w.heap.size w w' := by
  obtain ⟨na, nc, rfl, _⟩ := h.name.form
  obtain ⟨ta, tc, rfl, _⟩ := h.to.form
  obtain ⟨xa, xc, rfl, _⟩ := h.text.form
  obtain ⟨ia, ic, rfl, _⟩ := h.nums.form
  obtain ⟨na', nc', rfl, _⟩ := h'.name.form
  obtain ⟨ta', tc', rfl, _⟩ := h'.to.form
  obtain ⟨xa', xc', rfl, _⟩ := h'.text.form
  obtain ⟨ia', ic', rfl, _⟩ := h'.nums.form
  have b0 := below2 w (.cells #[.slice na a.name.length nc, .int .i64 a.type, .int .i64 a.ttl, .int .i64 a.addr, .slice ta a.to.length tc, .slice xa a.text.length xc, .slice ia a.nums.length ic] 50) (.cells #[.slice na' b.name.length nc', .int .i64 b.type, .int .i64 b.ttl, .int .i64 b.addr, .slice ta' b.to.length tc', .slice xa' b.text.length xc', .slice ia' b.nums.length ic'] 50)
  obtain ⟨hsz, k0, x0⟩ := box2 w (.cells #[.slice na a.name.length nc, .int .i64 a.type, .int .i64 a.ttl, .int .i64 a.addr, .slice ta a.to.length tc, .slice xa a.text.length xc, .slice ia a.nums.length ic] 50) #[.slice na' b.name.length nc', .int .i64 b.type, .int .i64 b.ttl, .int .i64 b.addr, .slice ta' b.to.length tc', .slice xa' b.text.length xc', .slice ia' b.nums.length ic'] 50
  have H0 := hide (h.below b0)
  have J0 := hide (h'.below b0)
  have K0 := hide k0
  have X0 := hide x0
  have CM := implRrCmp_has (h.below b0) (h'.below b0)
  have NC := fun (w : World) (h1 : HasL w (.slice na a.name.length nc) a.name) (h2 : HasL w (.slice na' b.name.length nc') b.name) => implNameCmp_has h1 h2
  unfold follows
  generalize rrCmp a b = c at *
  generalize nameCmp a.name b.name = d at *
  replace CM := hide CM
  replace NC := hide NC
  clear h h' k0 x0 hsz
  generalize hRes : (decide (c < 0) && ((decide (a.type ≠ 5) && decide (b.type ≠ 5)) || decide (d ≠ 0))) = Res
  have HRES := hide hRes
  clear hRes
  go_enter Try.func76, Try.ntmps76
  go_wp2_with fail
  generalize (w.alloc (.cells #[.slice na a.name.length nc, .int .i64 a.type, .int .i64 a.ttl, .int .i64 a.addr, .slice ta a.to.length tc, .slice xa a.text.length xc, .slice ia a.nums.length ic] 50)).alloc (.cells #[.slice na' b.name.length nc', .int .i64 b.type, .int .i64 b.ttl, .int .i64 b.addr, .slice ta' b.to.length tc', .slice xa' b.text.length xc', .slice ia' b.nums.length ic'] 50) = W at *
  refine (unhide CM).mono ?_
  rintro e w1 ⟨rfl, b1⟩
  have H1 := hide ((unhide H0).below b1)
  have J1 := hide ((unhide J0).below b1)
  have K1 := hide (block_kept b1 (unhide K0))
  have X1 := hide (block_kept b1 (unhide X0))
  have bb1 := below_next b0 b1
  clear CM H0 J0 K0 X0 b0 b1
  by_cases hc : c < 0
  · have hRes := unhide HRES
    rw [decide_eq_true hc, Bool.true_and] at hRes
    have hc' : ¬ (0 ≤ c) := by omega
    obtain ⟨d0, d1, d2, d3, d4, d5, d6⟩ := cells7 (unhide K1)
    obtain ⟨f0, f1, f2, f3, f4, f5, f6⟩ := cells7 (unhide X1)
    clear HRES hc
    by_cases h5 : a.type ≠ 5 ∧ b.type ≠ 5
    · rw [decide_eq_true h5.1, decide_eq_true h5.2, Bool.true_and, Bool.true_or] at hRes
      subst hRes
      have e5 : (a.type != 5) = true := by rw [bne_iff_ne]; exact h5.1
      have e5' : (b.type != 5) = true := by rw [bne_iff_ne]; exact h5.2
      clear h5
      go_wp2_with fail
      go_ret
      exact ⟨rfl, bb1⟩
    · have hf : (decide (a.type ≠ 5) && decide (b.type ≠ 5)) = false := by
        rw [Bool.and_eq_false_iff, decide_eq_false_iff_not, decide_eq_false_iff_not]
        omega
      rw [hf, Bool.false_or] at hRes
      have ed : (d != 0) = Res := by rw [← hRes, Bool.eq_iff_iff, bne_iff_ne, decide_eq_true_iff]
      have HED := hide ed
      clear hRes hf ed
      by_cases h6 : a.type = 5
      · have e5 : (a.type != 5) = false := by rw [h6]; rfl
        clear h5 h6
        go_wp2_with fail
        clear d0 d1 d2 d3 d4 d5 d6 f0 f1 f2 f3 f4 f5 f6
        refine (unhide NC _ (unhide H1).name (unhide J1).name).mono ?_
        rintro e w2 ⟨rfl, b2⟩
        have ed := unhide HED
        clear HED
        go_wp2_with fail
        go_ret
        exact ⟨rfl, below_next bb1 b2⟩
      · have e5 : (a.type != 5) = true := by rw [bne_iff_ne]; exact h6
        have h7 : b.type = 5 := by omega
        have e5' : (b.type != 5) = false := by rw [h7]; rfl
        clear h5 h6 h7
        go_wp2_with fail
        clear d0 d1 d2 d3 d4 d5 d6 f0 f1 f2 f3 f4 f5 f6
        refine (unhide NC _ (unhide H1).name (unhide J1).name).mono ?_
        rintro e w2 ⟨rfl, b2⟩
        have ed := unhide HED
        clear HED
        go_wp2_with fail
        go_ret
        exact ⟨rfl, below_next bb1 b2⟩
  · have hRes := unhide HRES
    rw [decide_eq_false hc, Bool.false_and] at hRes
    subst hRes
    have hc' : 0 ≤ c := by omega
    clear HRES hc
    go_wp2_with fail
    go_ret
    exact ⟨rfl, bb1⟩
end Go.Proofs.Ytaconefooicplaa
