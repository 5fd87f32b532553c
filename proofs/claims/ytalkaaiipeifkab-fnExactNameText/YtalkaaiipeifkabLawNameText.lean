/-
  The walk of laws.FnExactNameText.
-/
import Derived.Test.YtalkaaiipeifkabNames
import Derived.Test.YtalkaaiipeifkabMarks
import Derived.Test.YtalkaaiipeifkabINameText
import Derived.Test.YtalkaaiipeifkabSNameText
import Derived.Deep.RegionWith
namespace Go.Proofs.Ytalkaaiipeifkab
open Go.RowKit
set_option linter.unusedVariables false

set_option maxHeartbeats 2000000 in
set_option maxRecDepth 100000 in
theorem lawNameText (a : Option Addr) (cap : Nat) (n : List (List Int)) (w : World) (h : LiesL w a n) (hm : n.length ≤ maxLen) (hm2 : ∀ i, i < n.length → (n.getD i []).length ≤ maxLen) :
    Calls Try.prog 4 #[.agg #[.slice a n.length cap]] w fun e w' => e = .returned (.bool true) ∧ Below w.heap.size w w' := by
  have hTl := nameText_length n
  generalize hT : nameText n = T at *
  have HT := hide hT
  clear hT
  have hb0 := below_alloc (w := w) (.cells #[.slice a n.length cap] 24)
  have hk0 := heap_alloc_new w (.cells #[.slice a n.length cap] 24)
  have hsz := hide (szName_any a cap n 1048576 _ (h.below hb0) hm hm2 (by omega) (by omega))
  have HLies := hide h
  clear hm hm2 h
  go_enter Try.func4, Try.ntmps4
  go_wp2_with fail
  generalize w.alloc (.cells #[.slice a n.length cap] 24) = W at *
  refine (unhide hsz).mono ?_
  rintro e w1 ⟨⟨r, rfl, hr0, hr1, hr2⟩, b1⟩
  have k1 := block_kept b1 hk0
  have bb1 := below_next hb0 b1
  clear hsz hb0 hk0 b1
  by_cases hneg : r < 0
  · clear hr2
    go_wp2_with fail
    go_ret
    exact ⟨rfl, bb1⟩
  · obtain ⟨hn1, hn2⟩ := hr2 (by omega)
    have hl : n.length ≤ 1048576 := by omega
    have HL2 := hide (show ∀ i, i < n.length → (n.getD i []).length ≤ 1048576 from fun i hi => by have := hn2 i hi; omega)
    have HL3 := hide (show ∀ i, i < n.length → (n.getD i []).length ≤ 1048580 from fun i hi => by have := hn2 i hi; omega)
    have hP1 : 1 ≤ pos n 1 n.length := (pos_le n 1 1048576 (unhide HL2) n.length (Nat.le_refl _)).1
    have HMK := hide (fun (B E : Nat) (v : Value) (w : World) (h : OwnN B E 31 5 w v n) => markName_any 1 h hl (unhide HL2) (by omega) (by omega))
    generalize pos n 1 n.length = P at *
    clear hr2 hn1 hn2
    have c1 := block_one k1
    go_wp2_with fail
    refine (toName_any a cap n _ ((unhide HLies).below bb1) hl (unhide HL2)).mono ?_
    rintro e w2 ⟨v2, rfl, o2, b2⟩
    go_wp2_with fail
    refine (specNameText_has o2.hasL).mono ?_
    rw [unhide HT]
    rintro e w3 ⟨s3, rfl, t3, b3⟩
    have b13 := below_next b2 b3
    have k3 := block_kept b13 k1
    have bb3 := below_next bb1 b13
    have S3 := t3.at
    obtain ⟨sa, sc, rfl, _⟩ := t3.form
    clear c1 b2 b3 b13 k1 bb1 o2 t3
    have c3 := block_one k3
    have H3 := hide S3
    clear S3
    go_wp2_with fail
    refine (toName_any a cap n _ ((unhide HLies).below bb3) hl (unhide HL2)).mono ?_
    rintro e w4 ⟨v4, rfl, o4, b4⟩
    obtain ⟨va, vc, rfl, _⟩ := o4.hasL.form
    have O4 := hide o4.here
    have z4 := b4.size
    have zb3 := block_lt k3
    have b5 := below_alloc (w := w4) (.cells #[.slice va n.length vc] 27)
    have x5 := heap_alloc_new w4 (.cells #[.slice va n.length vc] 27)
    have k4 := block_kept b4 k3
    have H4 := hide ((unhide H3).below b4)
    have bb4 := below_next bb3 b4
    clear c3 k3 H3 b4 o4
    go_wp2_with fail
    generalize w4.alloc (.cells #[.slice va n.length vc] 27) = w5 at *
    have k5 := block_kept b5 k4
    have O5 := hide ((unhide O4).below b5)
    have H5 := hide ((unhide H4).below b5)
    have bb5 := below_next bb4 b5
    have z5 := block_lt x5
    clear k4 O4 H4 bb4 b5
    refine (implNameText_has (unhide O5).ownL.hasL).mono ?_
    rw [unhide HT]
    rintro e w6 ⟨v6, rfl, o6, b6⟩
    have x6 := block_kept b6 x5
    have k6 := block_kept b6 k5
    have O6 := hide ((unhide O5).below b6)
    have H6 := hide ((unhide H5).below b6)
    have bb6 := below_next bb5 b6
    have hv6 : ∃ ga gc, v6 = .slice ga T.length gc := by obtain ⟨ga, gc, e, _⟩ := o6.lies; exact ⟨ga, gc, e⟩
    obtain ⟨ga, gc, rfl⟩ := hv6
    have G6 := hide o6
    clear x5 k5 O5 H5 bb5 b6 o6
    go_wp2_with fail
    refine (eqByteS_has (unhide G6).has (unhide H6).has (by omega)).mono ?_
    rintro e w7 ⟨rfl, q7, hq7⟩
    have b7 : Below w6.heap.size w6 w7 := by rw [hq7]; exact below_draws q7
    clear hq7
    have b7 := below_next b7 (below_drew (w := w7))
    have x7 := block_kept b7 x6
    have k7 := block_kept b7 k6
    have O7 := hide ((unhide O6).below b7)
    have H7 := hide ((unhide H6).below b7)
    have G7 := hide ((unhide G6).below b7)
    have bb7 := below_next bb6 b7
    clear x6 k6 O6 H6 G6 bb6 b7
    have cx7 := block_one x7
    have ck7 := block_one k7
    go_wp2_with fail
    go_region_with (first
      | (go_at_call 11; refine (toName_any a cap n _ ((unhide HLies).below bb7) hl (unhide HL2)).mono ?_; rintro e w8 ⟨v8, rfl, o8, b8⟩; have c8 := block_one (block_kept b8 x7); obtain ⟨va8, vc8, rfl, _⟩ := o8.hasL.form)
      | (go_at_call 13; refine (eqName_has ((unhide O7).below b8).ownL.hasL o8.hasL (unhide HL3)).mono ?_; rintro e w9 ⟨rfl, b9⟩))
    all_goals
      have b9 := below_next b8 b9
      have x9 := block_kept b9 x7
      have k9 := block_kept b9 k7
      have O9 := hide ((unhide O7).below b9)
      have H9 := hide ((unhide H7).below b9)
      have G9 := hide ((unhide G7).below b9)
      have bb9 := below_next bb7 b9
      clear x7 k7 O7 H7 G7 bb7 b9 b8 cx7 ck7 c8 o8
      have cx9 := block_one x9
      go_wp2_with fail
      refine (unhide HMK _ _ _ _ (unhide O9)).mono ?_
      rintro e w10 ⟨rfl, o10, u10⟩
      have k10 := u10.kept k9 (.inl zb3)
      have bb10 := u10.below bb9 (Nat.le_of_lt zb3)
      have H10 := hide ((unhide H9).outside u10 (Nat.le_refl _))
      have G10 := hide ((unhide G9).outside u10 (Nat.le_of_lt z5))
      clear x9 k9 O9 H9 G9 bb9 cx9 o10 u10
      go_wp2_with fail
      refine (eqByteS_has (unhide G10).has (unhide H10).has (by omega)).mono ?_
      rintro e w11 ⟨rfl, q11, hq11⟩
      have b11 : Below w10.heap.size w10 w11 := by rw [hq11]; exact below_draws q11
      clear hq11
      have k11 := block_kept b11 k10
      have H11 := hide ((unhide H10).below b11)
      have G11 := hide ((unhide G10).below b11)
      have bb11 := below_next bb10 b11
      clear k10 H10 G10 bb10 b11
      go_wp2_with fail
      refine (markByteS_any 1 (unhide G11) (by omega) (by omega) (by omega)).mono ?_
      rintro e w12 ⟨rfl, o12, g12⟩
      have u12 : Outside w5.heap.size w12.heap.size w11 w12 := outside_grown g12 (fun q hq => ⟨((unhide G11).lt q hq).1, Nat.lt_of_lt_of_le ((unhide G11).lt q hq).2 g12.size⟩)
      have k12 := u12.kept k11 (.inl (by omega))
      have bb12 := u12.below bb11 (by omega)
      have H12 := hide ((unhide H11).outside u12 (by omega))
      clear k11 H11 G11 bb11 g12 u12
      go_wp2_with fail
      refine (heldByteS_any 1 o12 (by omega) (by omega) (by omega)).mono ?_
      rintro e w13 ⟨rfl, rfl⟩
      have c12 := block_one k12
      have O12 := hide o12
      clear o12
      go_wp2_with fail
      refine (toName_any a cap n _ ((unhide HLies).below bb12) hl (unhide HL2)).mono ?_
      rintro e w13 ⟨v13, rfl, o13, b13⟩
      go_wp2_with fail
      refine (implNameText_has o13.hasL).mono ?_
      rw [unhide HT]
      rintro e w14 ⟨v14, rfl, o14, b14⟩
      have b14 := below_next b13 b14
      clear b13
      go_wp2_with fail
      refine (eqByteS_has o14.has ((unhide H12).below b14).has (by omega)).mono ?_
      rintro e w15 ⟨rfl, q15, hq15⟩
      have b15 : Below w14.heap.size w14 w15 := by rw [hq15]; exact below_draws q15
      clear hq15
      go_wp2_with fail
      refine (heldByteS_any 1 (((unhide O12).below b14).below b15) (by omega) (by omega) (by omega)).mono ?_
      rintro e w16 ⟨rfl, rfl⟩
      go_wp2_with fail
      go_ret
      exact ⟨rfl, below_next (below_next bb12 b14) b15⟩
end Go.Proofs.Ytalkaaiipeifkab
