/-
  Contract of the program's hasName of a book. Plain facts: a zone's book has a name just if a record of the zone is under it. Contract of the program's askable.
-/
import Derived.Test.YtmlcmkoefelolaaGreatLookupG31
import Derived.Test.YtmlcmkoefelolaaGreatLookupG34
import Derived.Test.YtmlcmkoefelolaaGreatLookupG13
import Derived.Test.YtmlcmkoefelolaaGreatLookupG17
import Derived.Test.YtmlcmkoefelolaaGreatLookupG33
import Derived.Test.YtmlcmkoefelolaaGreatLookupG29
namespace Go.Proofs.YtmlcmkoefelolaaGreat
open Go.RowKit
set_option linter.unusedVariables false

set_option maxHeartbeats 2000000 in
set_option maxRecDepth 100000 in
theorem hasNameB_has {n0 b : Nat} {B : Bk} {v : Value} {n : List (List Int)} {w : World} (hB : BookM n0 w b B) (hn : HasL w v n) :
  Calls Tryz.prog 116 #[.map (some b), .agg #[v]] w fun e w' => e = .returned (.bool (hasB n B)) ∧ Below w.heap.size w w' := by
 obtain ⟨a, cap, rfl, _⟩ := hn.form
 obtain ⟨_, ps, hM, hT, _⟩ := hB
 have b0 := below_alloc (w := w) (.cells #[.slice a n.length cap] 32)
 have k0 := heap_alloc_new w (.cells #[.slice a n.length cap] 32)
 have z0 : (w.alloc (.cells #[.slice a n.length cap] 32)).heap.size = w.heap.size + 1 := World.size_alloc w _
 have zb := hM.lt
 obtain ⟨o, hrun, hR, _⟩ := mapV_range (P := Tryz.prog) (t := 79) Tryz.underlying79 (hM.below b0)
 have bo := below_alloc (w := w.alloc (.cells #[.slice a n.length cap] 32)) o
 have k1 := block_kept bo k0
 have bb := below_next b0 bo
 rw [z0] at hR
 have HR := hide hR
 have HN := hide hn
 have HT := hide hT
 have HM := hide hM
 have KN := hide k1
 clear b0 k0 hR hn hT hM k1 bo
 generalize hres : hasB n B = res
 go_enter Tryz.func116, Tryz.ntmps116
 go_wp2_with fail
 clear hrun z0
 generalize (w.alloc (.cells #[.slice a n.length cap] 32)).alloc o = W at *
 go_loopw [] (fun wr => ∃ L, RangeV wr b (w.heap.size + 1) ps L ∧ (∀ q ∈ ps, q ∈ L ∨ ∀ u, lookA q.1 B = some u → hasP n u = false) ∧ (∀ q ∈ L, q ∈ ps) ∧ Below w.heap.size w wr ∧ wr.heap[w.heap.size]? = some (.cells #[.slice a n.length cap] 32)) (fun wr => wr.rangeLeft b (w.heap.size + 1))
 case atStart => exact ⟨ps, unhide HR, fun q hq => .inl hq, fun q hq => hq, bb, unhide KN⟩
 case round =>
  obtain ⟨L, hrg, hcov, hsub, hbl, hkn⟩ := hrel
  have hle := hide hrg.left_eq
  rcases rangeV_next (P := Tryz.prog) 0 hrg with ⟨rfl, hnx⟩ | ⟨⟨qk, qv⟩, L', w2, hq, hlen, hcv, hsb, hnx, hrg2, g2, hs2, hen⟩
  ·have hno : hasB n B = false := hasB_none (unhide HT) (unhide HM).apart (fun q hq => (hcov q hq).resolve_left (by simp))
   rw [hno] at hres
   subst hres
   go_wp2
   go_ret
   exact ⟨rfl, hbl⟩
  ·obtain ⟨P, hlk, p, rfl, _, hpb, ps2, hM2, hT2⟩ := two_mem (unhide HT) (unhide HM).apart (hsub _ hq)
   have bb2 : Below w.heap.size w w2 := hbl.grown g2 hbl.size (fun k e => by simp at e; omega)
   have hkn2 := block_grown g2 hkn (by simp)
   have zp := hM2.lt
   obtain ⟨o2, hrn2, hR2, _⟩ := mapV_range (P := Tryz.prog) (t := 116) Tryz.underlying116 (hM2.kept (bb2.block _ zp))
   have bo2 := below_alloc (w := w2) o2
   have bb3 := below_next bb2 bo2
   have hkn3 := block_kept bo2 hkn2
   have hrg3 := hrg2.below bo2
   have zr := hrg2.lt.2.1
   have zz := bb2.size
   have HC := hide hcov
   have HCV := hide hcv
   have HSB := hide hsb
   have HSU := hide hsub
   have HR2 := hide hR2
   have HR3 := hide hrg3
   have HLK := hide hlk
   have HT2 := hide hT2
   have HM2 := hide hM2
   have KN3 := hide hkn3
   clear hs2 hcov hcv hsb hsub hR2 hrg3 hrg2 hlk hT2 hM2 hkn3 hkn2 hkn bo2 hrg g2 HR KN bb hbl bb2
   go_wp2_with fail
   clear hnx hen hrn2
   generalize hr2 : w2.heap.size = r2 at *
   generalize w2.alloc o2 = w3 at *
   go_loopw [] (fun wr => ∃ L2, RangeV wr p r2 ps2 L2 ∧ (∀ q ∈ ps2, q ∈ L2 ∨ ∀ u, lookA q.1 P = some u → under u.name n = false) ∧ (∀ q ∈ L2, q ∈ ps2) ∧ RangeV wr b (w.heap.size + 1) ps L' ∧ Below w.heap.size w wr ∧ wr.heap[w.heap.size]? = some (.cells #[.slice a n.length cap] 32)) (fun wr => wr.rangeLeft p r2)
   case atStart => exact ⟨ps2, unhide HR2, fun q hq => .inl hq, fun q hq => hq, unhide HR3, bb3, unhide KN3⟩
   case round =>
    obtain ⟨L2, hrg, hcov, hsub, hro, hbl, hkn⟩ := hrel
    have hle2 := hide hrg.left_eq
    rcases rangeV_next (P := Tryz.prog) 0 hrg with ⟨rfl, hnx⟩ | ⟨⟨xk, xv⟩, L2', w4, hq2, hlen2, hcv, hsb, hnx, hrg4, g4, hs4, hen⟩
    ·have hno : hasP n P = false := hasP_none (unhide HT2) (unhide HM2).apart (fun q hq => (hcov q hq).resolve_left (by simp))
     go_wp2
     go_roundw
     case rel =>
      refine ⟨L', hro, fun q hq => ?_, fun q hq => unhide HSU q (unhide HSB q hq), hbl, hkn⟩
      rcases unhide HC q hq with h | h
      ·rcases unhide HCV q h with rfl | h
       ·right
        intro u hu
        have := unhide HLK
        simp only at hu
        rw [hu] at this
        cases this
        exact hno
       ·exact .inl h
      ·exact .inr h
     case measure => rw [hro.left_eq, unhide hle]; exact hlen
    ·obtain ⟨r, hlr, vn, vt, vx, vi, rfl, hR⟩ := two_mem (unhide HT2) (unhide HM2).apart (hsub _ hq2)
     obtain ⟨na, nc, rfl, _⟩ := hR.name.form
     obtain ⟨ta, tc, rfl, _⟩ := hR.to.form
     obtain ⟨xa, xc, rfl, _⟩ := hR.text.form
     obtain ⟨ia, ic, rfl, _⟩ := hR.nums.form
     have bb4 : Below w.heap.size w w4 := hbl.grown g4 hbl.size (fun k e => by simp at e; omega)
     have hkn4 := block_grown g4 hkn (by simp; omega)
     have hro4 := hro.kept (g4.block b hro.lt.1 (by simp; omega)) (g4.block (w.heap.size + 1) hro.lt.2.1 (by simp; omega))
     have ba := below_alloc (w := w4) (.cells #[.slice na r.name.length nc, .int .i64 r.type, .int .i64 r.ttl, .int .i64 r.addr, .slice ta r.to.length tc, .slice xa r.text.length xc, .slice ia r.nums.length ic] 52)
     obtain ⟨d0, d1, d2, d3, d4, d5, d6⟩ := cells7 (heap_alloc_new w4 (.cells #[.slice na r.name.length nc, .int .i64 r.type, .int .i64 r.ttl, .int .i64 r.addr, .slice ta r.to.length tc, .slice xa r.text.length xc, .slice ia r.nums.length ic] 52))
     have cn := block_one (block_kept ba hkn4)
     have HU := hide (implUnder_has ((hR.name.below bb4).below ba) (((unhide HN).below bb4).below ba))
     have KK := hide (block_kept ba hkn4)
     have RO := hide (hro4.below ba)
     have RG := hide (hrg4.below ba)
     have BA := hide (below_next bb4 ba)
     have HC2 := hide hcov
     have HCV2 := hide hcv
     have HSB2 := hide hsb
     have HSU2 := hide hsub
     have HLR := hide hlr
     have zz4 := bb4.size
     clear hs4 hR hkn4 hkn hro4 hro hrg4 hrg ba bb4 hbl hcov hcv hsb hsub hlr g4
     go_wp2_with fail
     refine (unhide HU).mono ?_
     rintro e w5 ⟨rfl, b5⟩
     clear d0 d1 d2 d3 d4 d5 d6 cn hnx hen HU
     cases hun : under r.name n with
     | true =>
      have hyes : hasB n B = true := hasB_some (unhide HLK) (hasP_some (unhide HLR) hun)
      rw [hyes] at hres
      subst hres
      go_wp2
      go_ret
      exact ⟨rfl, below_next (unhide BA) b5⟩
     | false =>
      go_wp2
      go_roundw
      case rel =>
       refine ⟨L2', (unhide RG).below b5, fun q hq => ?_, fun q hq => unhide HSU2 q (unhide HSB2 q hq), (unhide RO).below b5, below_next (unhide BA) b5, block_kept b5 (unhide KK)⟩
       rcases unhide HC2 q hq with h | h
       ·rcases unhide HCV2 q h with rfl | h
        ·right
         intro u hu
         have := unhide HLR
         simp only at hu
         rw [hu] at this
         cases this
         exact hun
        ·exact .inl h
       ·exact .inr h
      case measure => rw [((unhide RG).below b5).left_eq, unhide hle2]; exact hlen2
end Go.Proofs.YtmlcmkoefelolaaGreat

namespace Go.Proofs.YtmlcmkoefelolaaGreat
open Go.RowKit
set_option linter.unusedVariables false

theorem book_any {rs : List Rec} {n : List (List Int)} (h : ∀ i, i < rs.length → rrOk (rs.getD i recZ) = true) : hasB n (bookIn rs) = hasAny rs n := by
 have := fold_has (n := n) (B := []) (fun q hq => by simp at hq) (names_ok h) (fun r => strOfNums (keyD r))
 unfold bookIn
 rw [this]
 simp [hasB]
end Go.Proofs.YtmlcmkoefelolaaGreat

namespace Go.Proofs.YtmlcmkoefelolaaGreat
open Go.RowKit
set_option linter.unusedVariables false

set_option maxHeartbeats 1000000 in
set_option maxRecDepth 100000 in
theorem askable_any (t : Int) (w : World) : Calls Tryz.prog 78 #[.int .i64 t] w fun e w' => e = .returned (.bool (asked t)) ∧ w = w' := by
 have HT := implTypeOk_any t w
 unfold asked
 cases ht : typeOk t with
 | true =>
  rw [ht] at HT
  replace HT := hide HT
  rw [Bool.true_or]
  go_enter Tryz.func78, Tryz.ntmps78
  go_wp2_with fail
  refine (unhide HT).mono ?_
  rintro e w1 ⟨rfl, rfl⟩
  go_wp2_with fail
  go_ret
  exact ⟨rfl, rfl⟩
 | false =>
  rw [ht] at HT
  replace HT := hide HT
  rw [Bool.false_or]
  by_cases h5 : t = 255
  ·rw [decide_eq_true h5]
   have h5' : (t == 255) = true := by rw [beq_iff_eq]; exact h5
   clear ht h5
   go_enter Tryz.func78, Tryz.ntmps78
   go_wp2_with fail
   refine (unhide HT).mono ?_
   rintro e w1 ⟨rfl, rfl⟩
   go_wp2_with fail
   go_ret
   exact ⟨rfl, rfl⟩
  ·rw [decide_eq_false h5]
   have h5' : (t == 255) = false := by rw [beq_eq_false_iff_ne]; exact h5
   clear ht h5
   go_enter Tryz.func78, Tryz.ntmps78
   go_wp2_with fail
   refine (unhide HT).mono ?_
   rintro e w1 ⟨rfl, rfl⟩
   go_wp2_with fail
   go_ret
   exact ⟨rfl, rfl⟩

end Go.Proofs.YtmlcmkoefelolaaGreat
