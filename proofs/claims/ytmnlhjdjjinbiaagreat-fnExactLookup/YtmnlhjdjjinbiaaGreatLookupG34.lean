/-
  Contract of the program's handedTo. Contracts of the program's Under. Contract of the program's hasName of a book.
-/
import Derived.Test.YtmnlhjdjjinbiaaGreatLookupG33
import Derived.Test.YtmnlhjdjjinbiaaGreatLookupG04
import Derived.Test.YtmnlhjdjjinbiaaGreatLookupG06
import Derived.Test.YtmnlhjdjjinbiaaGreatLookupG29
import Derived.Test.YtmnlhjdjjinbiaaGreatLookupG13
import Derived.Test.YtmnlhjdjjinbiaaGreatLookupG31
namespace Go.Proofs.YtmnlhjdjjinbiaaGreat
open Go.RowKit Go.Shelf
set_option linter.unusedVariables false

set_option maxHeartbeats 2000000 in
set_option maxRecDepth 100000 in
theorem handedTo_own {n0 b : Nat} {vo v : Value} {q o n : List (List Int)} {rs : List Rec} {w : World} (hB : BookM n0 w b (bookIn rs)) (hz : zoneOk q rs = true) (hnm : nameOk n = true) (ho : HasL w vo o) (hn : HasL w v n) (hle : o.length ≤ n.length) :
    Calls Tryz.prog 105 #[.map (some b), .agg #[vo], .agg #[v]] w fun e w' => ∃ u, e = .returned u ∧ RowO w.heap.size w'.heap.size 42 28 5 3 w' u (handedOf n rs (n.length - o.length)) ∧ Below w.heap.size w w' := by
  obtain ⟨oa, oc, rfl, _⟩ := ho.form
  obtain ⟨a, cap, rfl, hcl, hcm⟩ := hn.form
  obtain ⟨hsz, k0, x0⟩ := box2 w (.cells #[.slice oa o.length oc] 34) #[.slice a n.length cap] 34
  have bb := below2 w (.cells #[.slice oa o.length oc] 34) (.cells #[.slice a n.length cap] 34)
  have hn6 := (nameOk_parts hnm).1
  have HB := hide (hB.below bb)
  have HN := hide (hn.below bb)
  have HDR := hide (fun k => nameOk_drop hnm k)
  have HZ := hide hz
  have KN := hide x0
  have c0 := block_one k0
  have c1 := block_one x0
  clear hB ho hn k0 x0 hsz hz hnm
  generalize hK : n.length - o.length = K at *
  generalize hR : handedOf n rs K = R
  have HR := hide hR
  have s1 : (n.length : Int) - o.length = K := by omega
  have wK : IntKind.i64.wrap (K : Int) = K := wrap_small K (by omega)
  have wK1 : IntKind.i64.wrap ((K : Int) - 1) = (K : Int) - 1 := by
    rcases Nat.eq_zero_or_pos K with h0 | h0
    · subst h0; rfl
    · have e : ((K : Int) - 1) = ((K - 1 : Nat) : Int) := by omega
      rw [e]; exact wrap_small _ (by omega)
  have hKn : K ≤ n.length := by omega
  clear hK hR
  go_enter Tryz.func105, Tryz.ntmps105
  go_wp2_with fail
  clear s1 wK wK1 c0 c1
  generalize (w.alloc (.cells #[.slice oa o.length oc] 34)).alloc (.cells #[.slice a n.length cap] 34) = W at *
  go_loopw [7] (fun i wr => ∃ k : Nat, k ≤ K ∧ i = .int .i64 ((k : Int) - 1) ∧ handedOf n rs k = R ∧ Below W.heap.size W wr) (fun i _ => (intOf i + 1).toNat)
  case atStart => exact ⟨K, Nat.le_refl _, rfl, unhide HR, Below.refl _ _⟩
  case round =>
    obtain ⟨k, hk, rfl, hh, hbw⟩ := hrel
    have zW := bb.size
    have zr := hbw.size
    cases k with
    | zero =>
      obtain rfl : R = [] := hh.symm
      go_wp2_with fail
      go_ret
      exact ⟨_, rfl, RowO.nil _ _ _ _ _ _ _, below_next bb hbw⟩
    | succ j =>
      have e1 : (((j + 1 : Nat) : Int) - 1) = (j : Int) := by omega
      rw [e1]
      clear e1
      have hj0 : ¬ (j : Int) < 0 := by omega
      have hjn : j < n.length := by omega
      have hd := HasL.drop (k := j) ((unhide HN).below hbw) rfl (by omega)
      rcases hd with ⟨_, hm0, _⟩ | ⟨g, off, rfl, hd⟩
      · omega
      · rw [if_neg (by omega)] at hd
        have hlen : n.length - j = (n.drop j).length := by simp
        rw [hlen] at hd
        have SB := setB_own 2 ((unhide HB).below hbw) (unhide HZ) (unhide HDR j) hd
        unfold handedOf at hh
        generalize selK (n.drop j) 2 rs rs.length = sel at *
        have HH := hide hh
        replace SB := hide SB
        have cN := block_one (block_kept hbw (unhide KN))
        have jc : j ≤ cap := by omega
        have jcc : ¬ cap = j := by omega
        have jl : j ≤ n.length := by omega
        have wj1 : IntKind.i64.wrap ((j : Int) - 1) = (j : Int) - 1 := by
          rcases Nat.eq_zero_or_pos j with h0 | h0
          · subst h0; rfl
          · have e : ((j : Int) - 1) = ((j - 1 : Nat) : Int) := by omega
            rw [e]; exact wrap_small _ (by omega)
        have HJ := hide wj1
        rw [← hlen] at SB
        clear hd hlen hh wj1
        go_wp2_with fail
        refine (unhide SB).mono ?_
        rintro e w2 ⟨u2, rfl, o2, b2⟩
        obtain ⟨ua, uc, rfl, _⟩ := o2.form
        have z2 := b2.size
        clear cN
        generalize hml : sel.length = ml at *
        have HML := hide hml
        clear hml
        by_cases hp : 0 < ml
        · have hpi : (0 : Int) < ml := by omega
          have hr : sel = R := by have := unhide HH; rwa [if_pos hp] at this
          go_wp2_with fail
          go_ret
          subst hr
          exact ⟨_, rfl, o2.wide (by omega) (Nat.le_refl _), below_next bb (below_next hbw b2)⟩
        · have hpi : ¬ (0 : Int) < ml := by omega
          have hr : handedOf n rs j = R := by have := unhide HH; rwa [if_neg hp] at this
          have wj1 := unhide HJ
          clear o2
          go_wp2_with fail
          go_roundw
          case rel => exact ⟨j, by omega, rfl, hr, below_next hbw b2⟩
          case measure => simp [intOf]
end Go.Proofs.YtmnlhjdjjinbiaaGreat

namespace Go.Proofs.YtmnlhjdjjinbiaaGreat
open Go.RowKit
set_option linter.unusedVariables false

set_option maxHeartbeats 2000000 in
set_option maxRecDepth 100000 in
theorem implUnder_has {v v' : Value} {n n' : List (List Int)} {w : World} (h : HasL w v n) (h' : HasL w v' n') :
    Calls Tryz.prog 104 #[.agg #[v], .agg #[v']] w fun e w' => e = .returned (.bool (under n n')) ∧ Below w.heap.size w w' := by
  obtain ⟨a, cap, rfl, hcl, hcm⟩ := h.form
  obtain ⟨a', cap', rfl, _⟩ := h'.form
  unfold maxLen at hcm
  have b1 := below_alloc (w := w) (.cells #[.slice a n.length cap] 34)
  have k1 := heap_alloc_new w (.cells #[.slice a n.length cap] 34)
  have e1 : (w.alloc (.cells #[.slice a n.length cap] 34)).heap.size = w.heap.size + 1 := by show (w.heap.push _).size = _; simp
  have b2 := below_alloc (w := w.alloc (.cells #[.slice a n.length cap] 34)) (.cells #[.slice a' n'.length cap'] 34)
  have x2 := heap_alloc_new (w.alloc (.cells #[.slice a n.length cap] 34)) (.cells #[.slice a' n'.length cap'] 34)
  have k2 := block_kept b2 k1
  rw [e1] at x2
  have bb2 := below_next b1 b2
  have h2 := hide (h.below bb2)
  have h2' := hide (h'.below bb2)
  clear h h' b1 b2 k1 e1
  unfold under
  cases hok : nameOk n with
  | false =>
    rw [Bool.false_and]
    have HOK := hide hok
    clear hok
    go_enter Tryz.func104, Tryz.ntmps104
    go_wp2_with fail
    generalize (w.alloc (.cells #[.slice a n.length cap] 34)).alloc (.cells #[.slice a' n'.length cap'] 34) = W at *
    refine (implNameOk_has (unhide h2)).mono ?_
    rw [unhide HOK]
    rintro e w3 ⟨rfl, b3⟩
    go_wp2_with fail
    go_ret
    exact ⟨rfl, below_next bb2 b3⟩
  | true =>
    cases hok' : nameOk n' with
    | false =>
      rw [Bool.true_and, Bool.false_and]
      have HOK := hide hok
      have HOK' := hide hok'
      clear hok hok'
      go_enter Tryz.func104, Tryz.ntmps104
      go_wp2_with fail
      generalize (w.alloc (.cells #[.slice a n.length cap] 34)).alloc (.cells #[.slice a' n'.length cap'] 34) = W at *
      refine (implNameOk_has (unhide h2)).mono ?_
      rw [unhide HOK]
      rintro e w3 ⟨rfl, b3⟩
      have x3 := block_one (block_kept b3 x2)
      go_wp2_with fail
      refine (implNameOk_has ((unhide h2').below b3)).mono ?_
      rw [unhide HOK']
      rintro e w4 ⟨rfl, b4⟩
      go_wp2_with fail
      go_ret
      exact ⟨rfl, below_next bb2 (below_next b3 b4)⟩
    | true =>
      rw [Bool.true_and, Bool.true_and]
      have hs := (nameOk_parts hok).1
      have hs' := (nameOk_parts hok').1
      have hno := hide (fun (hlt : n.length < n'.length) => endsWith_no hlt)
      have hyes := hide (fun (hle : n'.length ≤ n.length) => (show endsWith n n' = (nameCmp (n.drop (n.length - n'.length)) n' == 0) by
        rw [endsWith_yes hle]; unfold nameCmp; rw [if_pos ⟨nameOk_drop hok _, hok'⟩]))
      have HOK := hide hok
      have HOK' := hide hok'
      clear hok hok'
      generalize endsWith n n' = R at *
      have hdrop := hide (fun (W : World) (hW : HasL W (.slice a n.length cap) n) (k : Nat) (hk : k ≤ n.length) => HasL.drop hW rfl hk)
      go_enter Tryz.func104, Tryz.ntmps104
      go_wp2_with fail
      generalize (w.alloc (.cells #[.slice a n.length cap] 34)).alloc (.cells #[.slice a' n'.length cap'] 34) = W0 at *
      refine (implNameOk_has (unhide h2)).mono ?_
      rw [unhide HOK]
      rintro e w3 ⟨rfl, b3⟩
      have x3 := block_one (block_kept b3 x2)
      go_wp2_with fail
      refine (implNameOk_has ((unhide h2').below b3)).mono ?_
      rw [unhide HOK']
      rintro e W ⟨rfl, b4⟩
      have b4 := below_next b3 b4
      have cx := block_one (block_kept b4 x2)
      have ck := block_one (block_kept b4 k2)
      have h4 := hide ((unhide h2).below b4)
      have h4' := hide ((unhide h2').below b4)
      have bb4 := below_next bb2 b4
      clear x3 x2 k2 h2 h2' b3 b4 bb2 HOK HOK'
      by_cases hle : n'.length ≤ n.length
      · have hr := unhide hyes hle
        have hd := unhide hdrop W (unhide h4) (n.length - n'.length) (by omega)
        clear hyes hno hdrop
        generalize hj : n.length - n'.length = j at *
        have hlen : (n.drop j).length = n.length - j := by simp
        generalize n.drop j = nd at *
        have i0 : ¬ (n.length : Int) < n'.length := by omega
        have s1 : (n.length : Int) - n'.length = j := by omega
        have wj : IntKind.i64.wrap (j : Int) = j := wrap_small j (by omega)
        have jl : j ≤ n.length := by omega
        have jc : j ≤ cap := by omega
        rcases hd with ⟨ha, hm0, hc0⟩ | ⟨g, off, ha, hd⟩
        · have hz' : n'.length = 0 := by omega
          have hz : j = 0 := by omega
          obtain rfl : nd = [] := List.eq_nil_of_length_eq_zero (by omega)
          obtain rfl : n' = [] := List.eq_nil_of_length_eq_zero hz'
          obtain rfl : n = [] := List.eq_nil_of_length_eq_zero hm0
          subst ha hc0 hz
          clear hj hlen i0 s1 wj jl jc hz' hm0 hle hs hs' hcl
          simp only [List.length_nil] at *
          have HD := hide (show HasL W (.slice none 0 0) [] from .inl ⟨rfl, rfl⟩)
          go_wp2_with fail
          refine (implNameCmp_has (unhide HD) (unhide h4')).mono ?_
          generalize nameCmp [] [] = c at *
          subst hr
          rintro e w5 ⟨rfl, b5⟩
          go_wp2_with fail
          go_ret
          exact ⟨rfl, below_next bb4 b5⟩
        · subst ha
          by_cases hcj : cap = j
          · have e2 : j = n.length := by omega
            have e1 : cap = n.length := by omega
            obtain rfl : n' = [] := List.eq_nil_of_length_eq_zero (by omega)
            obtain rfl : nd = [] := List.eq_nil_of_length_eq_zero (by omega)
            rw [if_pos hcj, e1, e2, Nat.sub_self] at hd
            have HD := hide hd
            subst e1 e2
            clear hd hj hlen hcj hle hs' jl jc s1 i0 hcl
            simp only [List.length_nil] at *
            generalize hn : n.length = m at *
            go_wp2_with fail
            refine (implNameCmp_has (unhide HD) (unhide h4')).mono ?_
            generalize nameCmp [] [] = c at *
            subst hr
            rintro e w5 ⟨rfl, b5⟩
            go_wp2_with fail
            go_ret
            exact ⟨rfl, below_next bb4 b5⟩
          · rw [if_neg hcj] at hd
            have HD := hide hd
            clear hd
            generalize hn : n.length = m at *
            generalize hn' : n'.length = m' at *
            go_wp2_with fail
            refine (implNameCmp_has (unhide HD) (unhide h4')).mono ?_
            generalize nameCmp nd n' = c at *
            subst hr
            rintro e w5 ⟨rfl, b5⟩
            go_wp2_with fail
            go_ret
            exact ⟨rfl, below_next bb4 b5⟩
      · have hr := unhide hno (by omega)
        subst hr
        have i0 : (n.length : Int) < n'.length := by omega
        go_wp2_with fail
        go_ret
        exact ⟨rfl, bb4⟩
end Go.Proofs.YtmnlhjdjjinbiaaGreat

namespace Go.Proofs.YtmnlhjdjjinbiaaGreat
open Go.RowKit
set_option linter.unusedVariables false

set_option maxHeartbeats 2000000 in
set_option maxRecDepth 100000 in
theorem hasNameB_has {n0 b : Nat} {B : Bk} {v : Value} {n : List (List Int)} {w : World} (hB : BookM n0 w b B) (hn : HasL w v n) :
    Calls Tryz.prog 106 #[.map (some b), .agg #[v]] w fun e w' => e = .returned (.bool (hasB n B)) ∧ Below w.heap.size w w' := by
  obtain ⟨a, cap, rfl, _⟩ := hn.form
  obtain ⟨_, ps, hM, hT, _⟩ := hB
  have b0 := below_alloc (w := w) (.cells #[.slice a n.length cap] 34)
  have k0 := heap_alloc_new w (.cells #[.slice a n.length cap] 34)
  have z0 : (w.alloc (.cells #[.slice a n.length cap] 34)).heap.size = w.heap.size + 1 := World.size_alloc w _
  have zb := hM.lt
  obtain ⟨o, hrun, hR, _⟩ := mapV_range (P := Tryz.prog) (t := 75) Tryz.underlying75 (hM.below b0)
  have bo := below_alloc (w := w.alloc (.cells #[.slice a n.length cap] 34)) o
  have k1 := block_kept bo k0
  have bb := below_next b0 bo
  rw [z0] at hR
  have HR := hide hR
  have HN := hide hn
  have HT := hide hT
  have HM := hide hM
  have KN := hide k1
  clear b0 k0 hR hn hT hM k1 bo
  generalize hres : hasB n B = res
  go_enter Tryz.func106, Tryz.ntmps106
  go_wp2_with fail
  clear hrun z0
  generalize (w.alloc (.cells #[.slice a n.length cap] 34)).alloc o = W at *
  go_loopw [] (fun wr => ∃ L, RangeV wr b (w.heap.size + 1) ps L ∧ (∀ q ∈ ps, q ∈ L ∨ ∀ u, lookA q.1 B = some u → hasP n u = false) ∧ (∀ q ∈ L, q ∈ ps) ∧ Below w.heap.size w wr ∧ wr.heap[w.heap.size]? = some (.cells #[.slice a n.length cap] 34)) (fun wr => wr.rangeLeft b (w.heap.size + 1))
  case atStart => exact ⟨ps, unhide HR, fun q hq => .inl hq, fun q hq => hq, bb, unhide KN⟩
  case round =>
    obtain ⟨L, hrg, hcov, hsub, hbl, hkn⟩ := hrel
    have hle := hide hrg.left_eq
    rcases rangeV_next (P := Tryz.prog) 0 hrg with ⟨rfl, hnx⟩ | ⟨⟨qk, qv⟩, L', w2, hq, hlen, hcv, hsb, hnx, hrg2, g2, hs2, hen⟩
    · have hno : hasB n B = false := hasB_none (unhide HT) (unhide HM).apart (fun q hq => (hcov q hq).resolve_left (by simp))
      rw [hno] at hres
      subst hres
      go_wp2
      go_ret
      exact ⟨rfl, hbl⟩
    · obtain ⟨P, hlk, p, rfl, _, hpb, ps2, hM2, hT2⟩ := two_mem (unhide HT) (unhide HM).apart (hsub _ hq)
      have bb2 : Below w.heap.size w w2 := hbl.grown g2 hbl.size (fun k e => by simp at e; omega)
      have hkn2 := block_grown g2 hkn (by simp)
      have zp := hM2.lt
      obtain ⟨o2, hrn2, hR2, _⟩ := mapV_range (P := Tryz.prog) (t := 109) Tryz.underlying109 (hM2.kept (bb2.block _ zp))
      have bo2 := below_alloc (w := w2) o2
      have bb3 := below_next bb2 bo2
      have hkn3 := block_kept bo2 hkn2
      have hrg3 := hrg2.below bo2
      have zr := hrg2.lt.2.1
      have zz := bb2.size
      have HC := hide hcov
      have HCV := hide hcv
      have HSB := hide hsb
      have HSU := hide hsub
      have HR2 := hide hR2
      have HR3 := hide hrg3
      have HLK := hide hlk
      have HT2 := hide hT2
      have HM2 := hide hM2
      have KN3 := hide hkn3
      clear hs2 hcov hcv hsb hsub hR2 hrg3 hrg2 hlk hT2 hM2 hkn3 hkn2 hkn bo2 hrg g2 HR KN bb hbl bb2
      go_wp2_with fail
      clear hnx hen hrn2
      generalize hr2 : w2.heap.size = r2 at *
      generalize w2.alloc o2 = w3 at *
      go_loopw [] (fun wr => ∃ L2, RangeV wr p r2 ps2 L2 ∧ (∀ q ∈ ps2, q ∈ L2 ∨ ∀ u, lookA q.1 P = some u → under u.name n = false) ∧ (∀ q ∈ L2, q ∈ ps2) ∧ RangeV wr b (w.heap.size + 1) ps L' ∧ Below w.heap.size w wr ∧ wr.heap[w.heap.size]? = some (.cells #[.slice a n.length cap] 34)) (fun wr => wr.rangeLeft p r2)
      case atStart => exact ⟨ps2, unhide HR2, fun q hq => .inl hq, fun q hq => hq, unhide HR3, bb3, unhide KN3⟩
      case round =>
        obtain ⟨L2, hrg, hcov, hsub, hro, hbl, hkn⟩ := hrel
        have hle2 := hide hrg.left_eq
        rcases rangeV_next (P := Tryz.prog) 0 hrg with ⟨rfl, hnx⟩ | ⟨⟨xk, xv⟩, L2', w4, hq2, hlen2, hcv, hsb, hnx, hrg4, g4, hs4, hen⟩
        · have hno : hasP n P = false := hasP_none (unhide HT2) (unhide HM2).apart (fun q hq => (hcov q hq).resolve_left (by simp))
          go_wp2
          go_roundw
          case rel =>
            refine ⟨L', hro, fun q hq => ?_, fun q hq => unhide HSU q (unhide HSB q hq), hbl, hkn⟩
            rcases unhide HC q hq with h | h
            · rcases unhide HCV q h with rfl | h
              · right
                intro u hu
                have := unhide HLK
                simp only at hu
                rw [hu] at this
                cases this
                exact hno
              · exact .inl h
            · exact .inr h
          case measure => rw [hro.left_eq, unhide hle]; exact hlen
        · obtain ⟨r, hlr, vn, vt, vx, vi, rfl, hR⟩ := two_mem (unhide HT2) (unhide HM2).apart (hsub _ hq2)
          obtain ⟨na, nc, rfl, _⟩ := hR.name.form
          obtain ⟨ta, tc, rfl, _⟩ := hR.to.form
          obtain ⟨xa, xc, rfl, _⟩ := hR.text.form
          obtain ⟨ia, ic, rfl, _⟩ := hR.nums.form
          have bb4 : Below w.heap.size w w4 := hbl.grown g4 hbl.size (fun k e => by simp at e; omega)
          have hkn4 := block_grown g4 hkn (by simp; omega)
          have hro4 := hro.kept (g4.block b hro.lt.1 (by simp; omega)) (g4.block (w.heap.size + 1) hro.lt.2.1 (by simp; omega))
          have ba := below_alloc (w := w4) (.cells #[.slice na r.name.length nc, .int .i64 r.type, .int .i64 r.ttl, .int .i64 r.addr, .slice ta r.to.length tc, .slice xa r.text.length xc, .slice ia r.nums.length ic] 42)
          obtain ⟨d0, d1, d2, d3, d4, d5, d6⟩ := cells7 (heap_alloc_new w4 (.cells #[.slice na r.name.length nc, .int .i64 r.type, .int .i64 r.ttl, .int .i64 r.addr, .slice ta r.to.length tc, .slice xa r.text.length xc, .slice ia r.nums.length ic] 42))
          have cn := block_one (block_kept ba hkn4)
          have HU := hide (implUnder_has ((hR.name.below bb4).below ba) (((unhide HN).below bb4).below ba))
          have KK := hide (block_kept ba hkn4)
          have RO := hide (hro4.below ba)
          have RG := hide (hrg4.below ba)
          have BA := hide (below_next bb4 ba)
          have HC2 := hide hcov
          have HCV2 := hide hcv
          have HSB2 := hide hsb
          have HSU2 := hide hsub
          have HLR := hide hlr
          have zz4 := bb4.size
          clear hs4 hR hkn4 hkn hro4 hro hrg4 hrg ba bb4 hbl hcov hcv hsb hsub hlr g4
          go_wp2_with fail
          refine (unhide HU).mono ?_
          rintro e w5 ⟨rfl, b5⟩
          clear d0 d1 d2 d3 d4 d5 d6 cn hnx hen HU
          cases hun : under r.name n with
          | true =>
            have hyes : hasB n B = true := hasB_some (unhide HLK) (hasP_some (unhide HLR) hun)
            rw [hyes] at hres
            subst hres
            go_wp2
            go_ret
            exact ⟨rfl, below_next (unhide BA) b5⟩
          | false =>
            go_wp2
            go_roundw
            case rel =>
              refine ⟨L2', (unhide RG).below b5, fun q hq => ?_, fun q hq => unhide HSU2 q (unhide HSB2 q hq), (unhide RO).below b5, below_next (unhide BA) b5, block_kept b5 (unhide KK)⟩
              rcases unhide HC2 q hq with h | h
              · rcases unhide HCV2 q h with rfl | h
                · right
                  intro u hu
                  have := unhide HLR
                  simp only at hu
                  rw [hu] at this
                  cases this
                  exact hun
                · exact .inl h
              · exact .inr h
            case measure => rw [((unhide RG).below b5).left_eq, unhide hle2]; exact hlen2
end Go.Proofs.YtmnlhjdjjinbiaaGreat
