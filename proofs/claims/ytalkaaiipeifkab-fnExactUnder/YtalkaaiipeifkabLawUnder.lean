/-
  The walk of laws.FnExactUnder.
-/
import Derived.Test.YtalkaaiipeifkabNames
import Derived.Test.YtalkaaiipeifkabIUnder
import Derived.Test.YtalkaaiipeifkabSUnder
import Derived.Deep.RegionHeld3
namespace Go.Proofs.Ytalkaaiipeifkab
open Go.RowKit
set_option linter.unusedVariables false

set_option maxHeartbeats 4000000 in
set_option maxRecDepth 100000 in
theorem lawUnder (a : Option Addr) (cap : Nat) (n : List (List Int)) (a' : Option Addr) (cap' : Nat) (n' : List (List Int)) (w : World) (h : LiesL w a n) (hm : n.length ≤ maxLen) (hm2 : ∀ i, i < n.length → (n.getD i []).length ≤ maxLen)
    (h' : LiesL w a' n') (hm' : n'.length ≤ maxLen) (hm2' : ∀ i, i < n'.length → (n'.getD i []).length ≤ maxLen) :
    Calls Try.prog 7 #[.agg #[.slice a n.length cap], .agg #[.slice a' n'.length cap']] w fun e w' => e = .returned (.bool true) ∧ Below w.heap.size w w' := by
  generalize hg : under n n' = G
  have HG := hide hg
  clear hg
  have b1 := below_alloc (w := w) (.cells #[.slice a n.length cap] 24)
  have k1 := heap_alloc_new w (.cells #[.slice a n.length cap] 24)
  have e1 : (w.alloc (.cells #[.slice a n.length cap] 24)).heap.size = w.heap.size + 1 := by show (w.heap.push _).size = _; simp
  have b2 := below_alloc (w := w.alloc (.cells #[.slice a n.length cap] 24)) (.cells #[.slice a' n'.length cap'] 24)
  have x2 := heap_alloc_new (w.alloc (.cells #[.slice a n.length cap] 24)) (.cells #[.slice a' n'.length cap'] 24)
  have k2 := block_kept b2 k1
  rw [e1] at x2
  have bb2 := below_next b1 b2
  have HLies := hide h
  have HLies' := hide h'
  clear h h' b1 b2 k1 e1
  have HM := hide hm2
  have HM' := hide hm2'
  clear hm2 hm2'
  go_enter Try.func7, Try.ntmps7
  go_wp2_with fail
  generalize (w.alloc (.cells #[.slice a n.length cap] 24)).alloc (.cells #[.slice a' n'.length cap'] 24) = W at *
  refine (szName_any a cap n 1048576 _ ((unhide HLies).below bb2) hm (unhide HM) (by omega) (by omega)).mono ?_
  rintro e w3 ⟨⟨r, rfl, hr0, hr1, hr2⟩, b3⟩
  have x3 := block_kept b3 x2
  have k3 := block_kept b3 k2
  have bb3 := below_next bb2 b3
  clear x2 k2 bb2 b3
  by_cases hneg : r < 0
  · clear hr2
    go_wp2_with fail
    go_ret
    exact ⟨rfl, bb3⟩
  · obtain ⟨hn1, hn2⟩ := hr2 (by omega)
    have hl : n.length ≤ 1048576 := by omega
    have HL2 := hide (show ∀ i, i < n.length → (n.getD i []).length ≤ 1048576 from fun i hi => by have := hn2 i hi; omega)
    have HL3 := hide (show ∀ i, i < n.length → (n.getD i []).length ≤ 1048580 from fun i hi => by have := hn2 i hi; omega)
    clear hr2 hn1 hn2
    have cx3 := block_one x3
    have ck3 := block_one k3
    go_wp2_with fail
    refine (szName_any a' cap' n' r _ ((unhide HLies').below bb3) hm' (unhide HM') (by omega) (by omega)).mono ?_
    rintro e w4 ⟨⟨r', rfl, hr0', hr1', hr2'⟩, b4⟩
    have x4 := block_kept b4 x3
    have k4 := block_kept b4 k3
    have bb4 := below_next bb3 b4
    clear x3 k3 bb3 b4 cx3 ck3
    by_cases hneg' : r' < 0
    · clear hr2'
      go_wp2_with fail
      go_ret
      exact ⟨rfl, bb4⟩
    · obtain ⟨hn1, hn2⟩ := hr2' (by omega)
      have hl' : n'.length ≤ 1048576 := by omega
      have HL2' := hide (show ∀ i, i < n'.length → (n'.getD i []).length ≤ 1048576 from fun i hi => by have := hn2 i hi; omega)
      have HL3' := hide (show ∀ i, i < n'.length → (n'.getD i []).length ≤ 1048580 from fun i hi => by have := hn2 i hi; omega)
      clear hr2' hn1 hn2
      have bd := below_next bb4 (below_drew (w := w4))
      have kd := block_kept (below_drew (w := w4)) k4
      have xd := block_kept (below_drew (w := w4)) x4
      have ck := block_one kd
      have cx := block_one xd
      have KD := hide kd
      have XD := hide xd
      clear kd xd k4 x4 bb4
      go_wp2_with fail
      go_region_held3 (fun w' => w'.cell? ⟨w.heap.size, 0, none⟩ = some (.slice a n.length cap) ∧ w'.cell? ⟨w.heap.size + 1, 0, none⟩ = some (.slice a' n'.length cap'))
        (first | (exact ⟨ck, cx⟩) | (exact ⟨c7k, c7x⟩) | (exact ⟨c5k, c5x⟩) | (exact ⟨c6k, c6x⟩))
        (first
        | (go_at_call 11; refine (toName_any a cap n _ ((unhide HLies).below ?hb) hl (unhide HL2)).mono ?_; (case hb => first | exact bd | exact below_next bd b6); rintro e w5 ⟨v5, rfl, o5, b5⟩; obtain ⟨va5, vc5, rfl, _⟩ := o5.hasL.form; have q5 : Below w4.drew.heap.size w4.drew w5 := (by first | exact b5 | exact below_next b6 b5); have c5k := block_one (block_kept q5 (unhide KD)); have c5x := block_one (block_kept q5 (unhide XD)))
        | (go_at_call 11; refine (toName_any a' cap' n' _ ((unhide HLies').below ?hb) hl' (unhide HL2')).mono ?_; (case hb => first | exact bd | exact below_next bd b5); rintro e w6 ⟨v6, rfl, o6, b6⟩; obtain ⟨va6, vc6, rfl, _⟩ := o6.hasL.form; have q6 : Below w4.drew.heap.size w4.drew w6 := (by first | exact b6 | exact below_next b5 b6); have c6k := block_one (block_kept q6 (unhide KD)); have c6x := block_one (block_kept q6 (unhide XD)))
        | (go_at_call 26; (first | (refine (specUnder_has (o5.below b6).hasL o6.hasL).mono ?_) | (refine (specUnder_has o5.hasL (o6.below b5).hasL).mono ?_)); rw [unhide HG]; rintro e w7 ⟨rfl, b7⟩; have q7 : Below w4.drew.heap.size w4.drew w7 := (by first | exact below_next q6 b7 | exact below_next q5 b7); have c7k := block_one (block_kept q7 (unhide KD)); have c7x := block_one (block_kept q7 (unhide XD))))
      all_goals
        have bb7 := below_next bd q7
        have k7 := block_kept q7 (unhide KD)
        have x7 := block_kept q7 (unhide XD)
        clear KD XD ck cx c5k c5x c6k c6x c7k c7x q5 q6 q7 b5 b6 b7 o5 o6 bd
        have ck := block_one k7
        have cx := block_one x7
        go_wp2_with fail
        refine (toName_any a cap n _ ((unhide HLies).below bb7) hl (unhide HL2)).mono ?_
        rintro e w8 ⟨v8, rfl, o8, b8⟩
        obtain ⟨va, vc, rfl, _⟩ := o8.hasL.form
        have c9 := below_alloc (w := w8) (.cells #[.slice va n.length vc] 27)
        have y9 := heap_alloc_new w8 (.cells #[.slice va n.length vc] 27)
        have b9 := below_next b8 c9
        have o9 := o8.hasL.below c9
        have k9 := block_kept b9 k7
        have x9 := block_kept b9 x7
        have bb9 := below_next bb7 b9
        clear k7 x7 bb7 b8 b9 c9 o8 ck cx
        have ck := block_one k9
        have cx := block_one x9
        have O9 := hide o9
        clear o9
        have Y9 := hide y9
        have K9 := hide k9
        have X9 := hide x9
        clear y9 k9 x9
        go_wp2_with fail
        generalize w8.alloc (.cells #[.slice va n.length vc] 27) = w9 at *
        refine (toName_any a' cap' n' _ ((unhide HLies').below bb9) hl' (unhide HL2')).mono ?_
        rintro e w10 ⟨v10, rfl, o10, b10⟩
        obtain ⟨va', vc', rfl, _⟩ := o10.hasL.form
        have c11 := below_alloc (w := w10) (.cells #[.slice va' n'.length vc'] 27)
        have z11 := hide (heap_alloc_new w10 (.cells #[.slice va' n'.length vc'] 27))
        have b11 := below_next b10 c11
        have O11 := hide ((unhide O9).below b11)
        have Z11 := hide (o10.hasL.below c11)
        have K11 := hide (block_kept b11 (unhide K9))
        have X11 := hide (block_kept b11 (unhide X9))
        have Y11 := hide (block_kept b11 (unhide Y9))
        have bb11 := below_next bb9 b11
        clear Y9 K9 X9 O9 b10 c11 b11 bb9 ck cx o10
        have cy := block_one (unhide Y11)
        have cz := block_one (unhide z11)
        go_wp2_with fail
        generalize w10.alloc (.cells #[.slice va' n'.length vc'] 27) = w11 at *
        refine (implUnder_has (unhide O11) (unhide Z11)).mono ?_
        rw [unhide HG]
        rintro e w12 ⟨rfl, b12⟩
        have b12 := below_next b12 (below_drew (w := w12))
        have O12 := hide ((unhide O11).below b12)
        have Z12 := hide ((unhide Z11).below b12)
        have K12 := hide (block_kept b12 (unhide K11))
        have X12 := hide (block_kept b12 (unhide X11))
        have Y12 := hide (block_kept b12 (unhide Y11))
        have z12 := hide (block_kept b12 (unhide z11))
        have bb12 := below_next bb11 b12
        clear O11 Z11 K11 X11 Y11 z11 bb11 b12 cy cz
        have ck := block_one (unhide K12)
        have cy := block_one (unhide Y12)
        go_wp2_with fail
        go_region_held3 (fun w' => w'.cell? ⟨w.heap.size, 0, none⟩ = some (.slice a n.length cap) ∧ w'.cell? ⟨w8.heap.size, 0, none⟩ = some (.slice va n.length vc))
          (first | (exact ⟨ck, cy⟩) | (exact ⟨c14k, c14y⟩) | (exact ⟨c13k, c13y⟩))
          (first
          | (go_at_call 11; refine (toName_any a cap n _ ((unhide HLies).below bb12) hl (unhide HL2)).mono ?_; rintro e w13 ⟨v13, rfl, o13, b13⟩; obtain ⟨va13, vc13, rfl, _⟩ := o13.hasL.form; have c13k := block_one (block_kept b13 (unhide K12)); have c13y := block_one (block_kept b13 (unhide Y12)))
          | (go_at_call 13; refine (eqName_has ((unhide O12).below b13) o13.hasL (unhide HL3)).mono ?_; rintro e w14 ⟨rfl, b14⟩; have b14 := below_next b13 b14; have c14k := block_one (block_kept b14 (unhide K12)); have c14y := block_one (block_kept b14 (unhide Y12))))
        all_goals
          have b14 := below_next b14 (below_drew (w := w14))
          have Z14 := hide ((unhide Z12).below b14)
          have X14 := hide (block_kept b14 (unhide X12))
          have z14 := hide (block_kept b14 (unhide z12))
          have bb14 := below_next bb12 b14
          clear O12 Z12 K12 X12 Y12 z12 bb12 b14 ck cy c13k c13y c14k c14y b13 o13
          have cx := block_one (unhide X14)
          have cz := block_one (unhide z14)
          go_wp2_with fail
          go_region_held3 (fun w' => w'.cell? ⟨w.heap.size + 1, 0, none⟩ = some (.slice a' n'.length cap') ∧ w'.cell? ⟨w10.heap.size, 0, none⟩ = some (.slice va' n'.length vc'))
            (first | (exact ⟨cx, cz⟩) | (exact ⟨c16x, c16z⟩) | (exact ⟨c15x, c15z⟩))
            (first
            | (go_at_call 11; refine (toName_any a' cap' n' _ ((unhide HLies').below bb14) hl' (unhide HL2')).mono ?_; rintro e w15 ⟨v15, rfl, o15, b15⟩; obtain ⟨va15, vc15, rfl, _⟩ := o15.hasL.form; have c15x := block_one (block_kept b15 (unhide X14)); have c15z := block_one (block_kept b15 (unhide z14)))
            | (go_at_call 13; refine (eqName_has ((unhide Z14).below b15) o15.hasL (unhide HL3')).mono ?_; rintro e w16 ⟨rfl, b16⟩; have b16 := below_next b15 b16; have c16x := block_one (block_kept b16 (unhide X14)); have c16z := block_one (block_kept b16 (unhide z14))))
          all_goals
            go_wp2_with fail
            go_ret
            exact ⟨rfl, below_next bb14 b16⟩
end Go.Proofs.Ytalkaaiipeifkab
