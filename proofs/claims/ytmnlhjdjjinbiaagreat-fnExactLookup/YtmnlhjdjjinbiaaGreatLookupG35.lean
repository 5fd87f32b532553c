/-
  Plain facts: a zone's book has a name just if a record of the zone is under it. Contract of the program's askable. Contracts of the program's mayBeIn and mayFollow.
-/
import Derived.Test.YtmnlhjdjjinbiaaGreatLookupG34
import Derived.Test.YtmnlhjdjjinbiaaGreatLookupG31
import Derived.Test.YtmnlhjdjjinbiaaGreatLookupG17
import Derived.Test.YtmnlhjdjjinbiaaGreatLookupG33
import Derived.Test.YtmnlhjdjjinbiaaGreatLookupG29
import Derived.Test.YtmnlhjdjjinbiaaGreatLookupG16
import Derived.Test.YtmnlhjdjjinbiaaGreatLookupG07
import Derived.Test.YtmnlhjdjjinbiaaGreatLookupG30
namespace Go.Proofs.YtmnlhjdjjinbiaaGreat
open Go.RowKit
set_option linter.unusedVariables false

theorem book_any {rs : List Rec} {n : List (List Int)} (h : ∀ i, i < rs.length → rrOk (rs.getD i recZ) = true) : hasB n (bookIn rs) = hasAny rs n := by
  have := fold_has (n := n) (B := []) (fun q hq => by simp at hq) (names_ok h) (fun r => strOfNums (keyD r))
  unfold bookIn
  rw [this]
  simp [hasB]
end Go.Proofs.YtmnlhjdjjinbiaaGreat

namespace Go.Proofs.YtmnlhjdjjinbiaaGreat
open Go.RowKit
set_option linter.unusedVariables false

set_option maxHeartbeats 1000000 in
set_option maxRecDepth 100000 in
theorem askable_any (t : Int) (w : World) : Calls Tryz.prog 63 #[.int .i64 t] w fun e w' => e = .returned (.bool (asked t)) ∧ w = w' := by
  have HT := implTypeOk_any t w
  unfold asked
  cases ht : typeOk t with
  | true =>
    rw [ht] at HT
    replace HT := hide HT
    rw [Bool.true_or]
    go_enter Tryz.func63, Tryz.ntmps63
    go_wp2_with fail
    refine (unhide HT).mono ?_
    rintro e w1 ⟨rfl, rfl⟩
    go_wp2_with fail
    go_ret
    exact ⟨rfl, rfl⟩
  | false =>
    rw [ht] at HT
    replace HT := hide HT
    rw [Bool.false_or]
    by_cases h5 : t = 255
    · rw [decide_eq_true h5]
      have h5' : (t == 255) = true := by rw [beq_iff_eq]; exact h5
      clear ht h5
      go_enter Tryz.func63, Tryz.ntmps63
      go_wp2_with fail
      refine (unhide HT).mono ?_
      rintro e w1 ⟨rfl, rfl⟩
      go_wp2_with fail
      go_ret
      exact ⟨rfl, rfl⟩
    · rw [decide_eq_false h5]
      have h5' : (t == 255) = false := by rw [beq_eq_false_iff_ne]; exact h5
      clear ht h5
      go_enter Tryz.func63, Tryz.ntmps63
      go_wp2_with fail
      refine (unhide HT).mono ?_
      rintro e w1 ⟨rfl, rfl⟩
      go_wp2_with fail
      go_ret
      exact ⟨rfl, rfl⟩

end Go.Proofs.YtmnlhjdjjinbiaaGreat

namespace Go.Proofs.YtmnlhjdjjinbiaaGreat
open Go.RowKit
set_option linter.unusedVariables false

set_option maxHeartbeats 1000000 in
set_option maxRecDepth 100000 in
theorem mayBeIn_has {vo vn vt vx vi : Value} {o : List (List Int)} {r : Rec} {w : World} (ho : HasL w vo o) (h : HasR w vn vt vx vi r) :
    Calls Tryz.prog 82 #[.agg #[vo], .agg #[vn, .int .i64 r.type, .int .i64 r.ttl, .int .i64 r.addr, vt, vx, vi]] w fun e w' => e = .returned (.bool (inZone o r)) ∧ Below w.heap.size w w' := by
  obtain ⟨oa, oc, rfl, _⟩ := ho.form
  obtain ⟨na, nc, rfl, _⟩ := h.name.form
  obtain ⟨ta, tc, rfl, _⟩ := h.to.form
  obtain ⟨xa, xc, rfl, _⟩ := h.text.form
  obtain ⟨ia, ic, rfl, _⟩ := h.nums.form
  have b0 := below2 w (.cells #[.slice oa o.length oc] 34) (.cells #[.slice na r.name.length nc, .int .i64 r.type, .int .i64 r.ttl, .int .i64 r.addr, .slice ta r.to.length tc, .slice xa r.text.length xc, .slice ia r.nums.length ic] 42)
  obtain ⟨hsz, k0, x0⟩ := box2 w (.cells #[.slice oa o.length oc] 34) #[.slice na r.name.length nc, .int .i64 r.type, .int .i64 r.ttl, .int .i64 r.addr, .slice ta r.to.length tc, .slice xa r.text.length xc, .slice ia r.nums.length ic] 42
  have H0 := hide (h.below b0)
  have O0 := hide (ho.below b0)
  have K0 := hide k0
  have X0 := hide x0
  have HR := implRrOk_has (h.below b0)
  have UN := fun (w : World) (h1 : HasL w (.slice na r.name.length nc) r.name) (h2 : HasL w (.slice oa o.length oc) o) => implUnder_has h1 h2
  have NC := fun (w : World) (h1 : HasL w (.slice na r.name.length nc) r.name) (h2 : HasL w (.slice oa o.length oc) o) => implNameCmp_has h1 h2
  unfold inZone
  generalize rrOk r = ok at *
  generalize under r.name o = und at *
  generalize nameCmp r.name o = c at *
  replace HR := hide HR
  replace UN := hide UN
  replace NC := hide NC
  clear h ho k0 x0 hsz
  cases ok with
  | false =>
    rw [Bool.false_and]
    go_enter Tryz.func82, Tryz.ntmps82
    go_wp2_with fail
    refine (unhide HR).mono ?_
    rintro e w1 ⟨rfl, b1⟩
    go_wp2_with fail
    go_ret
    exact ⟨rfl, below_next b0 b1⟩
  | true =>
    rw [Bool.true_and]
    generalize hRes : (und && (decide (r.type ≠ 6) || decide (c = 0))) = Res
    have HRES := hide hRes
    clear hRes
    go_enter Tryz.func82, Tryz.ntmps82
    go_wp2_with fail
    generalize (w.alloc (.cells #[.slice oa o.length oc] 34)).alloc (.cells #[.slice na r.name.length nc, .int .i64 r.type, .int .i64 r.ttl, .int .i64 r.addr, .slice ta r.to.length tc, .slice xa r.text.length xc, .slice ia r.nums.length ic] 42) = W at *
    refine (unhide HR).mono ?_
    rintro e w1 ⟨rfl, b1⟩
    have O1 := hide ((unhide O0).below b1)
    have H1 := hide ((unhide H0).below b1)
    have K1 := hide (block_kept b1 (unhide K0))
    have X1 := hide (block_kept b1 (unhide X0))
    have bb1 := below_next b0 b1
    obtain ⟨d0, d1, d2, d3, d4, d5, d6⟩ := cells7 (unhide X1)
    have c0 := block_one (unhide K1)
    clear HR O0 H0 K0 X0 b0 b1
    go_wp2_with fail
    clear d0 d1 d2 d3 d4 d5 d6 c0
    refine (unhide UN _ (unhide H1).name (unhide O1)).mono ?_
    rintro e w2 ⟨rfl, b2⟩
    have bb2 := below_next bb1 b2
    cases und with
    | false =>
      have hRes := unhide HRES
      rw [Bool.false_and] at hRes
      subst hRes
      clear HRES
      go_wp2_with fail
      go_ret
      exact ⟨rfl, bb2⟩
    | true =>
      have hRes := unhide HRES
      rw [Bool.true_and] at hRes
      have K2 := hide (block_kept b2 (unhide K1))
      have X2 := hide (block_kept b2 (unhide X1))
      have O2 := hide ((unhide O1).below b2)
      have H2 := hide ((unhide H1).below b2)
      obtain ⟨d0, d1, d2, d3, d4, d5, d6⟩ := cells7 (unhide X2)
      have c0 := block_one (unhide K2)
      clear HRES O1 H1 K1 X1 bb1 b2
      by_cases h6 : r.type = 6
      · rw [decide_eq_false (by omega), Bool.false_or] at hRes
        have e6 : (r.type != 6) = false := by rw [h6]; rfl
        have HRES := hide hRes
        clear hRes h6
        go_wp2_with fail
        clear d0 d1 d2 d3 d4 d5 d6 c0
        refine (unhide NC _ (unhide H2).name (unhide O2)).mono ?_
        rintro e w3 ⟨rfl, b3⟩
        have hRes := unhide HRES
        have ec : (c == 0) = Res := by rw [← hRes, Bool.eq_iff_iff, beq_iff_eq, decide_eq_true_iff]
        clear hRes HRES
        go_wp2_with fail
        go_ret
        exact ⟨rfl, below_next bb2 b3⟩
      · rw [decide_eq_true (show r.type ≠ 6 from h6), Bool.true_or] at hRes
        subst hRes
        have e6 : (r.type != 6) = true := by rw [bne_iff_ne]; exact h6
        clear h6
        go_wp2_with fail
        go_ret
        exact ⟨rfl, bb2⟩

set_option maxHeartbeats 1000000 in
set_option maxRecDepth 100000 in
theorem mayFollow_has {vn vt vx vi un ut ux ui : Value} {a b : Rec} {w : World} (h : HasR w vn vt vx vi a) (h' : HasR w un ut ux ui b) :
    Calls Tryz.prog 83 #[.agg #[vn, .int .i64 a.type, .int .i64 a.ttl, .int .i64 a.addr, vt, vx, vi], .agg #[un, .int .i64 b.type, .int .i64 b.ttl, .int .i64 b.addr, ut, ux, ui]] w fun e w' => e = .returned (.bool (follows a b)) ∧ Below w.heap.size w w' := by
  obtain ⟨na, nc, rfl, _⟩ := h.name.form
  obtain ⟨ta, tc, rfl, _⟩ := h.to.form
  obtain ⟨xa, xc, rfl, _⟩ := h.text.form
  obtain ⟨ia, ic, rfl, _⟩ := h.nums.form
  obtain ⟨na', nc', rfl, _⟩ := h'.name.form
  obtain ⟨ta', tc', rfl, _⟩ := h'.to.form
  obtain ⟨xa', xc', rfl, _⟩ := h'.text.form
  obtain ⟨ia', ic', rfl, _⟩ := h'.nums.form
  have b0 := below2 w (.cells #[.slice na a.name.length nc, .int .i64 a.type, .int .i64 a.ttl, .int .i64 a.addr, .slice ta a.to.length tc, .slice xa a.text.length xc, .slice ia a.nums.length ic] 42) (.cells #[.slice na' b.name.length nc', .int .i64 b.type, .int .i64 b.ttl, .int .i64 b.addr, .slice ta' b.to.length tc', .slice xa' b.text.length xc', .slice ia' b.nums.length ic'] 42)
  obtain ⟨hsz, k0, x0⟩ := box2 w (.cells #[.slice na a.name.length nc, .int .i64 a.type, .int .i64 a.ttl, .int .i64 a.addr, .slice ta a.to.length tc, .slice xa a.text.length xc, .slice ia a.nums.length ic] 42) #[.slice na' b.name.length nc', .int .i64 b.type, .int .i64 b.ttl, .int .i64 b.addr, .slice ta' b.to.length tc', .slice xa' b.text.length xc', .slice ia' b.nums.length ic'] 42
  have H0 := hide (h.below b0)
  have J0 := hide (h'.below b0)
  have K0 := hide k0
  have X0 := hide x0
  have CM := implRrCmp_has (h.below b0) (h'.below b0)
  have NC := fun (w : World) (h1 : HasL w (.slice na a.name.length nc) a.name) (h2 : HasL w (.slice na' b.name.length nc') b.name) => implNameCmp_has h1 h2
  unfold follows
  generalize rrCmp a b = c at *
  generalize nameCmp a.name b.name = d at *
  replace CM := hide CM
  replace NC := hide NC
  clear h h' k0 x0 hsz
  generalize hRes : (decide (c < 0) && ((decide (a.type ≠ 5) && decide (b.type ≠ 5)) || decide (d ≠ 0))) = Res
  have HRES := hide hRes
  clear hRes
  go_enter Tryz.func83, Tryz.ntmps83
  go_wp2_with fail
  generalize (w.alloc (.cells #[.slice na a.name.length nc, .int .i64 a.type, .int .i64 a.ttl, .int .i64 a.addr, .slice ta a.to.length tc, .slice xa a.text.length xc, .slice ia a.nums.length ic] 42)).alloc (.cells #[.slice na' b.name.length nc', .int .i64 b.type, .int .i64 b.ttl, .int .i64 b.addr, .slice ta' b.to.length tc', .slice xa' b.text.length xc', .slice ia' b.nums.length ic'] 42) = W at *
  refine (unhide CM).mono ?_
  rintro e w1 ⟨rfl, b1⟩
  have H1 := hide ((unhide H0).below b1)
  have J1 := hide ((unhide J0).below b1)
  have K1 := hide (block_kept b1 (unhide K0))
  have X1 := hide (block_kept b1 (unhide X0))
  have bb1 := below_next b0 b1
  clear CM H0 J0 K0 X0 b0 b1
  by_cases hc : c < 0
  · have hRes := unhide HRES
    rw [decide_eq_true hc, Bool.true_and] at hRes
    have hc' : ¬ (0 ≤ c) := by omega
    obtain ⟨d0, d1, d2, d3, d4, d5, d6⟩ := cells7 (unhide K1)
    obtain ⟨f0, f1, f2, f3, f4, f5, f6⟩ := cells7 (unhide X1)
    clear HRES hc
    by_cases h5 : a.type ≠ 5 ∧ b.type ≠ 5
    · rw [decide_eq_true h5.1, decide_eq_true h5.2, Bool.true_and, Bool.true_or] at hRes
      subst hRes
      have e5 : (a.type != 5) = true := by rw [bne_iff_ne]; exact h5.1
      have e5' : (b.type != 5) = true := by rw [bne_iff_ne]; exact h5.2
      clear h5
      go_wp2_with fail
      go_ret
      exact ⟨rfl, bb1⟩
    · have hf : (decide (a.type ≠ 5) && decide (b.type ≠ 5)) = false := by
        rw [Bool.and_eq_false_iff, decide_eq_false_iff_not, decide_eq_false_iff_not]
        omega
      rw [hf, Bool.false_or] at hRes
      have ed : (d != 0) = Res := by rw [← hRes, Bool.eq_iff_iff, bne_iff_ne, decide_eq_true_iff]
      have HED := hide ed
      clear hRes hf ed
      by_cases h6 : a.type = 5
      · have e5 : (a.type != 5) = false := by rw [h6]; rfl
        clear h5 h6
        go_wp2_with fail
        clear d0 d1 d2 d3 d4 d5 d6 f0 f1 f2 f3 f4 f5 f6
        refine (unhide NC _ (unhide H1).name (unhide J1).name).mono ?_
        rintro e w2 ⟨rfl, b2⟩
        have ed := unhide HED
        clear HED
        go_wp2_with fail
        go_ret
        exact ⟨rfl, below_next bb1 b2⟩
      · have e5 : (a.type != 5) = true := by rw [bne_iff_ne]; exact h6
        have h7 : b.type = 5 := by omega
        have e5' : (b.type != 5) = false := by rw [h7]; rfl
        clear h5 h6 h7
        go_wp2_with fail
        clear d0 d1 d2 d3 d4 d5 d6 f0 f1 f2 f3 f4 f5 f6
        refine (unhide NC _ (unhide H1).name (unhide J1).name).mono ?_
        rintro e w2 ⟨rfl, b2⟩
        have ed := unhide HED
        clear HED
        go_wp2_with fail
        go_ret
        exact ⟨rfl, below_next bb1 b2⟩
  · have hRes := unhide HRES
    rw [decide_eq_false hc, Bool.false_and] at hRes
    subst hRes
    have hc' : 0 ≤ c := by omega
    clear HRES hc
    go_wp2_with fail
    go_ret
    exact ⟨rfl, bb1⟩
end Go.Proofs.YtmnlhjdjjinbiaaGreat
