/-
  The walk of laws.FnExactChild.
-/
import Derived.Test.YtdbojhbdfcknfaaNames
import Derived.Test.YtdbojhbdfcknfaaHeld
import Derived.Test.YtdbojhbdfcknfaaCarry
import Derived.Test.YtdbojhbdfcknfaaIChild
import Derived.Test.YtdbojhbdfcknfaaSChild
import Derived.Deep.RegionHeld3
namespace Go.Proofs.Ytdbojhbdfcknfaa
open Go.RowKit
set_option linter.unusedVariables false

set_option maxHeartbeats 4000000 in
set_option maxRecDepth 100000 in
theorem lawChild (a0 : Option Addr) (cap0 : Nat) (n0 : List (List Int)) (a1 : Option Addr) (cap1 : Nat) (l1 : List Int) (w : World) (h0 : LiesL w a0 n0) (hm0 : n0.length ≤ maxLen) (hmm0 : ∀ i, i < n0.length → (n0.getD i []).length ≤ maxLen) (h1 : Lies w a1 l1) (hm1 : l1.length ≤ maxLen) :
    Calls Try.prog 11 #[.agg #[.slice a0 n0.length cap0], .slice a1 l1.length cap1] w fun e w' => e = .returned (.bool true) ∧ Below w.heap.size w w' := by
  have bb := below_alloc (w := w) (.cells #[.slice a0 n0.length cap0] 61)
  have K0 := heap_alloc_new w (.cells #[.slice a0 n0.length cap0] 61)
  replace K0 := hide K0
  by_cases hbig1 : 1048576 < l1.length
  · unfold maxLen at hm1
    clear h0 h1 K0
    go_enter Try.func11, Try.ntmps11
    go_wp2_with fail
    go_ret
    exact ⟨rfl, bb⟩
  have hl1 : l1.length ≤ 1048576 := by omega
  have L0 := hide h0
  have HM0 := hide hmm0
  clear h0 hmm0
  have L1 := hide h1
  clear h1 hbig1 hm1
  go_enter Try.func11, Try.ntmps11
  go_wp2_with fail
  generalize w.alloc (.cells #[.slice a0 n0.length cap0] 61) = W at *
  have zk0 := block_lt (unhide K0)
  refine (szName_any a0 cap0 n0 1048576 _ ((unhide L0).below bb) hm0 (unhide HM0) (by omega) (by omega)).mono ?_
  rintro e w1 ⟨⟨r0, rfl, hr00, hr10, hr20⟩, b1⟩
  replace bb := below_next bb b1
  replace K0 := hide (block_kept b1 (unhide K0))
  have z1 := b1.size
  clear b1
  by_cases hneg0 : r0 < 0
  · clear hr20
    go_wp2_with fail
    go_ret
    exact ⟨rfl, bb⟩
  obtain ⟨hn1, hn2⟩ := hr20 (by omega)
  have hl0 : n0.length ≤ 1048576 := by omega
  have HL0 := hide (show ∀ i, i < n0.length → (n0.getD i []).length ≤ 1048576 from fun i hi => by have := hn2 i hi; omega)
  have HLL0 := hide (show ∀ i, i < n0.length → (n0.getD i []).length ≤ 2097152 from fun i hi => by have := hn2 i hi; omega)
  clear hr20 hn1 hn2 hm0 HM0
  have hP0 : 1 ≤ pos n0 1 n0.length ∧ pos n0 1 n0.length ≤ 1 + 1099511627776 := by
    have h1 := pos_le n0 1 1048576 (unhide HL0) n0.length (Nat.le_refl _)
    have h2 : n0.length * 1048576 ≤ 1048576 * 1048576 := Nat.mul_le_mul_right _ hl0
    omega
  have MK0 := fun (B E : Nat) (v : Value) (w : World) (h : OwnN B E 22 5 w v n0) => markName_any 1 h hl0 (unhide HL0) (by omega) (by omega)
  generalize pos n0 1 n0.length = P0 at *
  replace MK0 := hide MK0
  have hPn0 : ¬ P0 < 0 := by omega
  have hG0 := (childOf_bound n0 l1).1
  have hGe0 := (childOf_bound n0 l1).2
  have SP := fun (w : World) (x0 : Value) (h0 : HasL w x0 n0) (x1 : Value) (h1 : Has w x1 l1) => specChild_has h0 hl0 (unhide HL0) h1 hl1
  have IM := fun (w : World) (x0 : Value) (h0 : HasL w x0 n0) (x1 : Value) (h1 : Has w x1 l1) => implChild_has h0 h1 hl1
  generalize (childOf n0 l1).1 = G0 at *
  generalize (childOf n0 l1).2 = G1 at *
  have HG0 := hide (show ∀ i, i < G0.length → (G0.getD i []).length ≤ 1048576 from fun i hi => by have := hGe0 i hi; omega)
  have HGG0 := hide (show ∀ i, i < G0.length → (G0.getD i []).length ≤ 2097152 from fun i hi => by have := hGe0 i hi; omega)
  clear hGe0
  have hl1G0 : G0.length ≤ 1048576 := by omega
  have hPG0 : 1 ≤ pos G0 1 G0.length := (pos_le G0 1 1048576 (unhide HG0) G0.length (Nat.le_refl _)).1
  have MKG0 := fun (B E : Nat) (v : Value) (w : World) (h : OwnN B E 22 5 w v G0) => markName_any 1 h hl1G0 (unhide HG0) (by omega) (by omega)
  have HDG0 := fun (v : Value) (w : World) (h : HasL w v (markL G0 1)) => heldName_has 1 h hl1G0 (unhide HG0) (by omega) (by omega)
  generalize pos G0 1 G0.length = PG0 at *
  generalize markL G0 1 = MG0 at *
  replace MKG0 := hide MKG0
  replace HDG0 := hide HDG0
  have hPGn0 : ¬ PG0 < 0 := by omega
  replace SP := hide SP
  replace IM := hide IM
  have ck0 := block_one (unhide K0)
  go_wp2_with fail
  clear ck0
  refine (toName_any a0 cap0 n0 _ ((unhide L0).below bb) hl0 (unhide HL0)).mono ?_
  rintro e w2 ⟨x2, rfl, o2, b2⟩
  obtain ⟨xa2, xc2, rfl, _⟩ := o2.hasL.form
  have A2 := hide (o2.hasL)
  clear o2
  replace bb := below_next bb b2
  replace K0 := hide (block_kept b2 (unhide K0))
  have z2 := b2.size
  clear b2
  have ck0 := block_one (unhide K0)
  go_wp2_with fail
  clear ck0
  refine (toByteS_any a1 cap1 l1 _ ((unhide L1).below bb) hl1).mono ?_
  rintro e w3 ⟨x3, rfl, o3, b3⟩
  have A3 := hide (o3.has)
  clear o3
  replace bb := below_next bb b3
  replace K0 := hide (block_kept b3 (unhide K0))
  replace A2 := hide ((unhide A2).below b3)
  have z3 := b3.size
  clear b3
  have ck0 := block_one (unhide K0)
  go_wp2_with fail
  clear ck0
  refine (unhide SP _ _ (unhide A2) _ (unhide A3)).mono ?_
  rintro e w4 ⟨y4, rfl, o4, b4⟩
  clear A2
  clear A3
  replace bb := below_next bb b4
  replace K0 := hide (block_kept b4 (unhide K0))
  have z4 := b4.size
  clear b4
  obtain ⟨ya4, yc4, rfl, _⟩ := o4.hasL.form
  have W0 := hide o4.hasL.at
  clear o4
  have b5 := below_alloc (w := w4) (.cells #[.slice ya4 G0.length yc4] 25)
  have VW0 := hide (heap_alloc_new w4 (.cells #[.slice ya4 G0.length yc4] 25))
  have ckK0 := block_one (block_kept b5 (unhide K0))
  go_wp2_with fail
  clear ckK0
  generalize w4.alloc (.cells #[.slice ya4 G0.length yc4] 25) = w5 at *
  replace bb := below_next bb b5
  replace K0 := hide (block_kept b5 (unhide K0))
  replace W0 := hide ((unhide W0).below b5)
  have z5 := b5.size
  clear b5
  have zz5 := block_lt (unhide VW0)
  have ck0 := block_one (unhide K0)
  go_wp2_with fail
  clear ck0
  refine (toName_any a0 cap0 n0 _ ((unhide L0).below bb) hl0 (unhide HL0)).mono ?_
  rintro e w6 ⟨x6, rfl, o6, b6⟩
  obtain ⟨xa6, xc6, rfl, _⟩ := o6.hasL.form
  have X0 := hide o6.here
  clear o6
  replace bb := below_next bb b6
  replace K0 := hide (block_kept b6 (unhide K0))
  replace W0 := hide ((unhide W0).below b6)
  replace VW0 := hide (block_kept b6 (unhide VW0))
  have z6 := b6.size
  clear b6
  have b7 := below_alloc (w := w6) (.cells #[.slice xa6 n0.length xc6] 25)
  have VX0 := hide (heap_alloc_new w6 (.cells #[.slice xa6 n0.length xc6] 25))
  have ck0 := block_one (block_kept b7 (unhide K0))
  go_wp2_with fail
  clear ck0
  generalize w6.alloc (.cells #[.slice xa6 n0.length xc6] 25) = w7 at *
  replace bb := below_next bb b7
  replace K0 := hide (block_kept b7 (unhide K0))
  replace W0 := hide ((unhide W0).below b7)
  replace VW0 := hide (block_kept b7 (unhide VW0))
  replace X0 := hide ((unhide X0).below b7)
  have z7 := b7.size
  clear b7
  have zz7 := block_lt (unhide VX0)
  have ck0 := block_one (unhide K0)
  go_wp2_with fail
  clear ck0
  refine (toByteS_any a1 cap1 l1 _ ((unhide L1).below bb) hl1).mono ?_
  rintro e w8 ⟨x8, rfl, o8, b8⟩
  have X1 := hide o8.here
  clear o8
  replace bb := below_next bb b8
  replace K0 := hide (block_kept b8 (unhide K0))
  replace W0 := hide ((unhide W0).below b8)
  replace VW0 := hide (block_kept b8 (unhide VW0))
  replace X0 := hide ((unhide X0).below b8)
  replace VX0 := hide (block_kept b8 (unhide VX0))
  have z8 := b8.size
  clear b8
  have cx0 := block_one (unhide VX0)
  go_wp2_with fail
  clear cx0
  refine (unhide IM _ _ (unhide X0).hasL _ (unhide X1).has).mono ?_
  rintro e w9 ⟨y9, rfl, o9, b9⟩
  replace bb := below_next bb b9
  replace K0 := hide (block_kept b9 (unhide K0))
  replace W0 := hide ((unhide W0).below b9)
  replace VW0 := hide (block_kept b9 (unhide VW0))
  replace X0 := hide ((unhide X0).below b9)
  replace VX0 := hide (block_kept b9 (unhide VX0))
  replace X1 := hide ((unhide X1).below b9)
  have z9 := b9.size
  clear b9
  obtain ⟨ya9, yc9, rfl, _⟩ := o9.hasL.form
  have GG := hide o9.here
  clear o9
  have b10 := below_alloc (w := w9) (.cells #[.slice ya9 G0.length yc9] 25)
  have VGG := hide (heap_alloc_new w9 (.cells #[.slice ya9 G0.length yc9] 25))
  have ckK0 := block_one (block_kept b10 (unhide K0))
  have ckVW0 := block_one (block_kept b10 (unhide VW0))
  have ckVX0 := block_one (block_kept b10 (unhide VX0))
  go_wp2_with fail
  clear ckK0
  clear ckVW0
  clear ckVX0
  generalize w9.alloc (.cells #[.slice ya9 G0.length yc9] 25) = w10 at *
  replace bb := below_next bb b10
  replace K0 := hide (block_kept b10 (unhide K0))
  replace W0 := hide ((unhide W0).below b10)
  replace VW0 := hide (block_kept b10 (unhide VW0))
  replace X0 := hide ((unhide X0).below b10)
  replace VX0 := hide (block_kept b10 (unhide VX0))
  replace X1 := hide ((unhide X1).below b10)
  replace GG := hide ((unhide GG).below b10)
  have z10 := b10.size
  clear b10
  have zz10 := block_lt (unhide VGG)
  have cg := block_one (unhide VGG)
  have cw := block_one (unhide VW0)
  go_wp2_with fail
  clear cg cw
  refine (eqName_has (unhide GG).hasL (unhide W0).hasL (unhide HGG0)).mono ?_
  rintro e w11 ⟨rfl, b11⟩
  replace bb := below_next bb b11
  replace K0 := hide (block_kept b11 (unhide K0))
  replace W0 := hide ((unhide W0).below b11)
  replace VW0 := hide (block_kept b11 (unhide VW0))
  replace X0 := hide ((unhide X0).below b11)
  replace VX0 := hide (block_kept b11 (unhide VX0))
  replace X1 := hide ((unhide X1).below b11)
  replace GG := hide ((unhide GG).below b11)
  replace VGG := hide (block_kept b11 (unhide VGG))
  have z11 := b11.size
  clear b11
  have bd := below_drew (w := w11)
  have zdw11 : w11.drew.heap.size = w11.heap.size := rfl
  replace bb := below_next bb bd
  replace K0 := hide (block_kept bd (unhide K0))
  replace W0 := hide ((unhide W0).below bd)
  replace VW0 := hide (block_kept bd (unhide VW0))
  replace X0 := hide ((unhide X0).below bd)
  replace VX0 := hide (block_kept bd (unhide VX0))
  replace X1 := hide ((unhide X1).below bd)
  replace GG := hide ((unhide GG).below bd)
  replace VGG := hide (block_kept bd (unhide VGG))
  clear bd
  have ck := block_one (unhide K0)
  have cx := block_one (unhide VX0)
  go_wp2_with fail
  clear ck cx
  go_region_held3 (fun w' => w'.cell? ⟨w.heap.size, 0, none⟩ = some (.slice a0 n0.length cap0) ∧ w'.cell? ⟨w6.heap.size, 0, none⟩ = some (.slice xa6 n0.length xc6))
    (first | exact ⟨block_one (unhide K0), block_one (unhide VX0)⟩ | exact ⟨block_one (block_kept b12 (unhide K0)), block_one (block_kept b12 (unhide VX0))⟩ | exact ⟨block_one (block_kept q13 (unhide K0)), block_one (block_kept q13 (unhide VX0))⟩)
    (first
    | (go_at_call 58; refine (toName_any a0 cap0 n0 _ ((unhide L0).below bb) hl0 (unhide HL0)).mono ?_; rintro e w12 ⟨x12, rfl, o12, b12⟩; obtain ⟨xa12, xc12, rfl, _⟩ := o12.hasL.form)
    | (go_at_call 53; refine (eqName_has ((unhide X0).below b12).hasL o12.hasL (unhide HLL0)).mono ?_; rintro e w13 ⟨rfl, b13⟩; have q13 := below_next b12 b13))
  clear b12 b13 o12
  replace bb := below_next bb q13
  replace K0 := hide (block_kept q13 (unhide K0))
  replace W0 := hide ((unhide W0).below q13)
  replace VW0 := hide (block_kept q13 (unhide VW0))
  replace X0 := hide ((unhide X0).below q13)
  replace VX0 := hide (block_kept q13 (unhide VX0))
  replace X1 := hide ((unhide X1).below q13)
  replace GG := hide ((unhide GG).below q13)
  replace VGG := hide (block_kept q13 (unhide VGG))
  have z13 := q13.size
  clear q13
  have ck0 := block_one (unhide K0)
  go_wp2_with fail
  clear ck0
  refine (toByteS_any a1 cap1 l1 _ ((unhide L1).below bb) hl1).mono ?_
  rintro e w14 ⟨x14, rfl, o14, b14⟩
  have A14 := hide o14.has
  clear o14
  replace bb := below_next bb b14
  replace K0 := hide (block_kept b14 (unhide K0))
  replace W0 := hide ((unhide W0).below b14)
  replace VW0 := hide (block_kept b14 (unhide VW0))
  replace X0 := hide ((unhide X0).below b14)
  replace VX0 := hide (block_kept b14 (unhide VX0))
  replace X1 := hide ((unhide X1).below b14)
  replace GG := hide ((unhide GG).below b14)
  replace VGG := hide (block_kept b14 (unhide VGG))
  have z14 := b14.size
  clear b14
  go_wp2_with fail
  refine (eqByteS_has (unhide X1).has (unhide A14) (by omega)).mono ?_
  rintro e w15 ⟨rfl, m15, hm15⟩
  have b15 : Below w14.heap.size w14 w15 := by rw [hm15]; exact below_draws m15
  clear hm15 A14
  replace bb := below_next bb b15
  replace K0 := hide (block_kept b15 (unhide K0))
  replace W0 := hide ((unhide W0).below b15)
  replace VW0 := hide (block_kept b15 (unhide VW0))
  replace X0 := hide ((unhide X0).below b15)
  replace VX0 := hide (block_kept b15 (unhide VX0))
  replace X1 := hide ((unhide X1).below b15)
  replace GG := hide ((unhide GG).below b15)
  replace VGG := hide (block_kept b15 (unhide VGG))
  have z15 := b15.size
  clear b15
  have cx := block_one (unhide VX0)
  go_wp2_with fail
  clear cx
  refine (unhide MK0 _ _ _ _ (unhide X0)).mono ?_
  rintro e w16 ⟨rfl, o16, u16⟩
  clear o16 X0
  replace bb := u16.below bb (by omega)
  replace K0 := hide (u16.kept (unhide K0) (by omega))
  replace W0 := hide ((unhide W0).outside u16 (by omega))
  replace VW0 := hide (u16.kept (unhide VW0) (by omega))
  replace VX0 := hide (u16.kept (unhide VX0) (by omega))
  replace X1 := hide ((unhide X1).outside u16 (by omega))
  replace GG := hide ((unhide GG).outside u16 (by omega))
  replace VGG := hide (u16.kept (unhide VGG) (by omega))
  have z16 := u16.size
  clear u16
  go_wp2_with fail
  refine (markByteS_any P0 (unhide X1).1 (by omega) (by omega) (by omega)).mono ?_
  rintro e w17 ⟨rfl, o17, g17⟩
  obtain ⟨_, u17⟩ := (unhide X1).marks o17 g17
  clear o17 g17 X1
  replace bb := u17.below bb (by omega)
  replace K0 := hide (u17.kept (unhide K0) (by omega))
  replace W0 := hide ((unhide W0).outside u17 (by omega))
  replace VW0 := hide (u17.kept (unhide VW0) (by omega))
  replace VX0 := hide (u17.kept (unhide VX0) (by omega))
  replace GG := hide ((unhide GG).outside u17 (by omega))
  replace VGG := hide (u17.kept (unhide VGG) (by omega))
  have z17 := u17.size
  clear u17
  have cg := block_one (unhide VGG)
  have cw := block_one (unhide VW0)
  go_wp2_with fail
  clear cg cw
  refine (eqName_has (unhide GG).hasL (unhide W0).hasL (unhide HGG0)).mono ?_
  rintro e w18 ⟨rfl, b18⟩
  replace bb := below_next bb b18
  replace K0 := hide (block_kept b18 (unhide K0))
  replace W0 := hide ((unhide W0).below b18)
  replace VW0 := hide (block_kept b18 (unhide VW0))
  replace VX0 := hide (block_kept b18 (unhide VX0))
  replace GG := hide ((unhide GG).below b18)
  replace VGG := hide (block_kept b18 (unhide VGG))
  have z18 := b18.size
  clear b18
  have cg := block_one (unhide VGG)
  go_wp2_with fail
  clear cg
  refine (unhide MKG0 _ _ _ _ (unhide GG)).mono ?_
  rintro e w19 ⟨rfl, GM, u19⟩
  clear GG
  replace bb := u19.below bb (by omega)
  replace K0 := hide (u19.kept (unhide K0) (by omega))
  replace W0 := hide ((unhide W0).outside u19 (by omega))
  replace VW0 := hide (u19.kept (unhide VW0) (by omega))
  replace VX0 := hide (u19.kept (unhide VX0) (by omega))
  replace VGG := hide (u19.kept (unhide VGG) (by omega))
  have z19 := u19.size
  clear u19
  replace GM := hide GM
  have cg := block_one (unhide VGG)
  go_wp2_with fail
  clear cg
  refine (unhide HDG0 _ _ (unhide GM).hasL).mono ?_
  rintro e w20 ⟨rfl, b20⟩
  replace bb := below_next bb b20
  replace K0 := hide (block_kept b20 (unhide K0))
  replace W0 := hide ((unhide W0).below b20)
  replace VW0 := hide (block_kept b20 (unhide VW0))
  replace VX0 := hide (block_kept b20 (unhide VX0))
  replace VGG := hide (block_kept b20 (unhide VGG))
  replace GM := hide ((unhide GM).below b20)
  have z20 := b20.size
  clear b20
  have ck0 := block_one (unhide K0)
  go_wp2_with fail
  clear ck0
  refine (toName_any a0 cap0 n0 _ ((unhide L0).below bb) hl0 (unhide HL0)).mono ?_
  rintro e w21 ⟨x21, rfl, o21, b21⟩
  obtain ⟨xa21, xc21, rfl, _⟩ := o21.hasL.form
  have A21 := hide (o21.hasL)
  clear o21
  replace bb := below_next bb b21
  replace K0 := hide (block_kept b21 (unhide K0))
  replace W0 := hide ((unhide W0).below b21)
  replace VW0 := hide (block_kept b21 (unhide VW0))
  replace VX0 := hide (block_kept b21 (unhide VX0))
  replace VGG := hide (block_kept b21 (unhide VGG))
  replace GM := hide ((unhide GM).below b21)
  have z21 := b21.size
  clear b21
  have ck0 := block_one (unhide K0)
  go_wp2_with fail
  clear ck0
  refine (toByteS_any a1 cap1 l1 _ ((unhide L1).below bb) hl1).mono ?_
  rintro e w22 ⟨x22, rfl, o22, b22⟩
  have A22 := hide (o22.has)
  clear o22
  replace bb := below_next bb b22
  replace K0 := hide (block_kept b22 (unhide K0))
  replace W0 := hide ((unhide W0).below b22)
  replace VW0 := hide (block_kept b22 (unhide VW0))
  replace VX0 := hide (block_kept b22 (unhide VX0))
  replace VGG := hide (block_kept b22 (unhide VGG))
  replace GM := hide ((unhide GM).below b22)
  replace A21 := hide ((unhide A21).below b22)
  have z22 := b22.size
  clear b22
  have ck0 := block_one (unhide K0)
  go_wp2_with fail
  clear ck0
  refine (unhide IM _ _ (unhide A21) _ (unhide A22)).mono ?_
  rintro e w23 ⟨y23, rfl, o23, b23⟩
  clear A21
  clear A22
  replace bb := below_next bb b23
  replace K0 := hide (block_kept b23 (unhide K0))
  replace W0 := hide ((unhide W0).below b23)
  replace VW0 := hide (block_kept b23 (unhide VW0))
  replace VX0 := hide (block_kept b23 (unhide VX0))
  replace VGG := hide (block_kept b23 (unhide VGG))
  replace GM := hide ((unhide GM).below b23)
  have z23 := b23.size
  clear b23
  obtain ⟨ya23, yc23, rfl, _⟩ := o23.hasL.form
  have H0 := hide o23.here
  clear o23
  have b24 := below_alloc (w := w23) (.cells #[.slice ya23 G0.length yc23] 25)
  have VH0 := hide (heap_alloc_new w23 (.cells #[.slice ya23 G0.length yc23] 25))
  have ckK0 := block_one (block_kept b24 (unhide K0))
  have ckVW0 := block_one (block_kept b24 (unhide VW0))
  have ckVX0 := block_one (block_kept b24 (unhide VX0))
  have ckVGG := block_one (block_kept b24 (unhide VGG))
  go_wp2_with fail
  clear ckK0
  clear ckVW0
  clear ckVX0
  clear ckVGG
  generalize w23.alloc (.cells #[.slice ya23 G0.length yc23] 25) = w24 at *
  replace bb := below_next bb b24
  replace K0 := hide (block_kept b24 (unhide K0))
  replace W0 := hide ((unhide W0).below b24)
  replace VW0 := hide (block_kept b24 (unhide VW0))
  replace VX0 := hide (block_kept b24 (unhide VX0))
  replace VGG := hide (block_kept b24 (unhide VGG))
  replace GM := hide ((unhide GM).below b24)
  replace H0 := hide ((unhide H0).below b24)
  have z24 := b24.size
  clear b24
  have zz24 := block_lt (unhide VH0)
  have cg := block_one (unhide VH0)
  have cw := block_one (unhide VW0)
  go_wp2_with fail
  clear cg cw
  refine (eqName_has (unhide H0).hasL (unhide W0).hasL (unhide HGG0)).mono ?_
  rintro e w25 ⟨rfl, b25⟩
  replace bb := below_next bb b25
  replace K0 := hide (block_kept b25 (unhide K0))
  replace W0 := hide ((unhide W0).below b25)
  replace VW0 := hide (block_kept b25 (unhide VW0))
  replace VX0 := hide (block_kept b25 (unhide VX0))
  replace VGG := hide (block_kept b25 (unhide VGG))
  replace GM := hide ((unhide GM).below b25)
  replace H0 := hide ((unhide H0).below b25)
  replace VH0 := hide (block_kept b25 (unhide VH0))
  have z25 := b25.size
  clear b25
  have cg := block_one (unhide VGG)
  go_wp2_with fail
  clear cg
  refine (unhide HDG0 _ _ (unhide GM).hasL).mono ?_
  rintro e w26 ⟨rfl, b26⟩
  replace bb := below_next bb b26
  replace K0 := hide (block_kept b26 (unhide K0))
  replace W0 := hide ((unhide W0).below b26)
  replace VW0 := hide (block_kept b26 (unhide VW0))
  replace VX0 := hide (block_kept b26 (unhide VX0))
  replace VGG := hide (block_kept b26 (unhide VGG))
  replace GM := hide ((unhide GM).below b26)
  replace H0 := hide ((unhide H0).below b26)
  replace VH0 := hide (block_kept b26 (unhide VH0))
  have z26 := b26.size
  clear b26
  go_wp2_with fail
  go_ret
  exact ⟨rfl, bb⟩
end Go.Proofs.Ytdbojhbdfcknfaa
