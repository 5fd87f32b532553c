/-
  The walk of laws.FnExactParent.
-/
import Derived.Test.YtdbojhbdfcknfaaNames
import Derived.Test.YtdbojhbdfcknfaaHeld
import Derived.Test.YtdbojhbdfcknfaaCarry
import Derived.Test.YtdbojhbdfcknfaaIParent
import Derived.Test.YtdbojhbdfcknfaaSParent
import Derived.Deep.RegionHeld3
namespace Go.Proofs.Ytdbojhbdfcknfaa
open Go.RowKit
set_option linter.unusedVariables false

set_option maxHeartbeats 4000000 in
set_option maxRecDepth 100000 in
theorem lawParent (a0 : Option Addr) (cap0 : Nat) (n0 : List (List Int)) (w : World) (h0 : LiesL w a0 n0) (hm0 : n0.length ≤ maxLen) (hmm0 : ∀ i, i < n0.length → (n0.getD i []).length ≤ maxLen) :
    Calls Try.prog 10 #[.agg #[.slice a0 n0.length cap0]] w fun e w' => e = .returned (.bool true) ∧ Below w.heap.size w w' := by
  have bb := below_alloc (w := w) (.cells #[.slice a0 n0.length cap0] 61)
  have K0 := heap_alloc_new w (.cells #[.slice a0 n0.length cap0] 61)
  replace K0 := hide K0
  have L0 := hide h0
  have HM0 := hide hmm0
  clear h0 hmm0
  go_enter Try.func10, Try.ntmps10
  go_wp2_with fail
  generalize w.alloc (.cells #[.slice a0 n0.length cap0] 61) = W at *
  have zk0 := block_lt (unhide K0)
  refine (szName_any a0 cap0 n0 1048576 _ ((unhide L0).below bb) hm0 (unhide HM0) (by omega) (by omega)).mono ?_
  rintro e w1 ⟨⟨r0, rfl, hr00, hr10, hr20⟩, b1⟩
  replace bb := below_next bb b1
  replace K0 := hide (block_kept b1 (unhide K0))
  have z1 := b1.size
  clear b1
  by_cases hneg0 : r0 < 0
  · clear hr20
    go_wp2_with fail
    go_ret
    exact ⟨rfl, bb⟩
  obtain ⟨hn1, hn2⟩ := hr20 (by omega)
  have hl0 : n0.length ≤ 1048576 := by omega
  have HL0 := hide (show ∀ i, i < n0.length → (n0.getD i []).length ≤ 1048576 from fun i hi => by have := hn2 i hi; omega)
  have HLL0 := hide (show ∀ i, i < n0.length → (n0.getD i []).length ≤ 2097152 from fun i hi => by have := hn2 i hi; omega)
  clear hr20 hn1 hn2 hm0 HM0
  have hP0 : 1 ≤ pos n0 1 n0.length ∧ pos n0 1 n0.length ≤ 1 + 1099511627776 := by
    have h1 := pos_le n0 1 1048576 (unhide HL0) n0.length (Nat.le_refl _)
    have h2 : n0.length * 1048576 ≤ 1048576 * 1048576 := Nat.mul_le_mul_right _ hl0
    omega
  have MK0 := fun (B E : Nat) (v : Value) (w : World) (h : OwnN B E 22 5 w v n0) => markName_any 1 h hl0 (unhide HL0) (by omega) (by omega)
  generalize pos n0 1 n0.length = P0 at *
  replace MK0 := hide MK0
  have hPn0 : ¬ P0 < 0 := by omega
  have hG0 := (parentOf_bound n0).1
  have hGe0 := (parentOf_bound n0).2
  have SP := fun (w : World) (x0 : Value) (h0 : HasL w x0 n0) => specParent_has h0
  have IM := fun (w : World) (x0 : Value) (h0 : HasL w x0 n0) => implParent_has h0
  generalize (parentOf n0).1 = G0 at *
  generalize (parentOf n0).2 = G1 at *
  have HG0 := hide (show ∀ i, i < G0.length → (G0.getD i []).length ≤ 1048576 from fun i hi => by have := hGe0 i hi; omega)
  have HGG0 := hide (show ∀ i, i < G0.length → (G0.getD i []).length ≤ 2097152 from fun i hi => by have := hGe0 i hi; omega)
  clear hGe0
  have hl1G0 : G0.length ≤ 1048576 := by omega
  have hPG0 : 1 ≤ pos G0 1 G0.length := (pos_le G0 1 1048576 (unhide HG0) G0.length (Nat.le_refl _)).1
  have MKG0 := fun (B E : Nat) (v : Value) (w : World) (h : OwnN B E 22 5 w v G0) => markName_any 1 h hl1G0 (unhide HG0) (by omega) (by omega)
  have HDG0 := fun (v : Value) (w : World) (h : HasL w v (markL G0 1)) => heldName_has 1 h hl1G0 (unhide HG0) (by omega) (by omega)
  generalize pos G0 1 G0.length = PG0 at *
  generalize markL G0 1 = MG0 at *
  replace MKG0 := hide MKG0
  replace HDG0 := hide HDG0
  have hPGn0 : ¬ PG0 < 0 := by omega
  replace SP := hide SP
  replace IM := hide IM
  have ck0 := block_one (unhide K0)
  go_wp2_with fail
  clear ck0
  refine (toName_any a0 cap0 n0 _ ((unhide L0).below bb) hl0 (unhide HL0)).mono ?_
  rintro e w2 ⟨x2, rfl, o2, b2⟩
  obtain ⟨xa2, xc2, rfl, _⟩ := o2.hasL.form
  have A2 := hide (o2.hasL)
  clear o2
  replace bb := below_next bb b2
  replace K0 := hide (block_kept b2 (unhide K0))
  have z2 := b2.size
  clear b2
  have ck0 := block_one (unhide K0)
  go_wp2_with fail
  clear ck0
  refine (unhide SP _ _ (unhide A2)).mono ?_
  rintro e w3 ⟨y3, rfl, o3, b3⟩
  clear A2
  replace bb := below_next bb b3
  replace K0 := hide (block_kept b3 (unhide K0))
  have z3 := b3.size
  clear b3
  obtain ⟨ya3, yc3, rfl, _⟩ := o3.hasL.form
  have W0 := hide o3.hasL.at
  clear o3
  have b4 := below_alloc (w := w3) (.cells #[.slice ya3 G0.length yc3] 25)
  have VW0 := hide (heap_alloc_new w3 (.cells #[.slice ya3 G0.length yc3] 25))
  have ckK0 := block_one (block_kept b4 (unhide K0))
  go_wp2_with fail
  clear ckK0
  generalize w3.alloc (.cells #[.slice ya3 G0.length yc3] 25) = w4 at *
  replace bb := below_next bb b4
  replace K0 := hide (block_kept b4 (unhide K0))
  replace W0 := hide ((unhide W0).below b4)
  have z4 := b4.size
  clear b4
  have zz4 := block_lt (unhide VW0)
  have ck0 := block_one (unhide K0)
  go_wp2_with fail
  clear ck0
  refine (toName_any a0 cap0 n0 _ ((unhide L0).below bb) hl0 (unhide HL0)).mono ?_
  rintro e w5 ⟨x5, rfl, o5, b5⟩
  obtain ⟨xa5, xc5, rfl, _⟩ := o5.hasL.form
  have X0 := hide o5.here
  clear o5
  replace bb := below_next bb b5
  replace K0 := hide (block_kept b5 (unhide K0))
  replace W0 := hide ((unhide W0).below b5)
  replace VW0 := hide (block_kept b5 (unhide VW0))
  have z5 := b5.size
  clear b5
  have b6 := below_alloc (w := w5) (.cells #[.slice xa5 n0.length xc5] 25)
  have VX0 := hide (heap_alloc_new w5 (.cells #[.slice xa5 n0.length xc5] 25))
  have ck0 := block_one (block_kept b6 (unhide K0))
  go_wp2_with fail
  clear ck0
  generalize w5.alloc (.cells #[.slice xa5 n0.length xc5] 25) = w6 at *
  replace bb := below_next bb b6
  replace K0 := hide (block_kept b6 (unhide K0))
  replace W0 := hide ((unhide W0).below b6)
  replace VW0 := hide (block_kept b6 (unhide VW0))
  replace X0 := hide ((unhide X0).below b6)
  have z6 := b6.size
  clear b6
  have zz6 := block_lt (unhide VX0)
  refine (unhide IM _ _ (unhide X0).hasL).mono ?_
  rintro e w7 ⟨y7, rfl, o7, b7⟩
  replace bb := below_next bb b7
  replace K0 := hide (block_kept b7 (unhide K0))
  replace W0 := hide ((unhide W0).below b7)
  replace VW0 := hide (block_kept b7 (unhide VW0))
  replace X0 := hide ((unhide X0).below b7)
  replace VX0 := hide (block_kept b7 (unhide VX0))
  have z7 := b7.size
  clear b7
  obtain ⟨ya7, yc7, rfl, _⟩ := o7.hasL.form
  have GG := hide o7.here
  clear o7
  have b8 := below_alloc (w := w7) (.cells #[.slice ya7 G0.length yc7] 25)
  have VGG := hide (heap_alloc_new w7 (.cells #[.slice ya7 G0.length yc7] 25))
  have ckK0 := block_one (block_kept b8 (unhide K0))
  have ckVW0 := block_one (block_kept b8 (unhide VW0))
  have ckVX0 := block_one (block_kept b8 (unhide VX0))
  go_wp2_with fail
  clear ckK0
  clear ckVW0
  clear ckVX0
  generalize w7.alloc (.cells #[.slice ya7 G0.length yc7] 25) = w8 at *
  replace bb := below_next bb b8
  replace K0 := hide (block_kept b8 (unhide K0))
  replace W0 := hide ((unhide W0).below b8)
  replace VW0 := hide (block_kept b8 (unhide VW0))
  replace X0 := hide ((unhide X0).below b8)
  replace VX0 := hide (block_kept b8 (unhide VX0))
  replace GG := hide ((unhide GG).below b8)
  have z8 := b8.size
  clear b8
  have zz8 := block_lt (unhide VGG)
  have cg := block_one (unhide VGG)
  have cw := block_one (unhide VW0)
  go_wp2_with fail
  clear cg cw
  refine (eqName_has (unhide GG).hasL (unhide W0).hasL (unhide HGG0)).mono ?_
  rintro e w9 ⟨rfl, b9⟩
  replace bb := below_next bb b9
  replace K0 := hide (block_kept b9 (unhide K0))
  replace W0 := hide ((unhide W0).below b9)
  replace VW0 := hide (block_kept b9 (unhide VW0))
  replace X0 := hide ((unhide X0).below b9)
  replace VX0 := hide (block_kept b9 (unhide VX0))
  replace GG := hide ((unhide GG).below b9)
  replace VGG := hide (block_kept b9 (unhide VGG))
  have z9 := b9.size
  clear b9
  have bd := below_drew (w := w9)
  have zdw9 : w9.drew.heap.size = w9.heap.size := rfl
  replace bb := below_next bb bd
  replace K0 := hide (block_kept bd (unhide K0))
  replace W0 := hide ((unhide W0).below bd)
  replace VW0 := hide (block_kept bd (unhide VW0))
  replace X0 := hide ((unhide X0).below bd)
  replace VX0 := hide (block_kept bd (unhide VX0))
  replace GG := hide ((unhide GG).below bd)
  replace VGG := hide (block_kept bd (unhide VGG))
  clear bd
  have ck := block_one (unhide K0)
  have cx := block_one (unhide VX0)
  go_wp2_with fail
  clear ck cx
  go_region_held3 (fun w' => w'.cell? ⟨w.heap.size, 0, none⟩ = some (.slice a0 n0.length cap0) ∧ w'.cell? ⟨w5.heap.size, 0, none⟩ = some (.slice xa5 n0.length xc5))
    (first | exact ⟨block_one (unhide K0), block_one (unhide VX0)⟩ | exact ⟨block_one (block_kept b10 (unhide K0)), block_one (block_kept b10 (unhide VX0))⟩ | exact ⟨block_one (block_kept q11 (unhide K0)), block_one (block_kept q11 (unhide VX0))⟩)
    (first
    | (go_at_call 58; refine (toName_any a0 cap0 n0 _ ((unhide L0).below bb) hl0 (unhide HL0)).mono ?_; rintro e w10 ⟨x10, rfl, o10, b10⟩; obtain ⟨xa10, xc10, rfl, _⟩ := o10.hasL.form)
    | (go_at_call 53; refine (eqName_has ((unhide X0).below b10).hasL o10.hasL (unhide HLL0)).mono ?_; rintro e w11 ⟨rfl, b11⟩; have q11 := below_next b10 b11))
  clear b10 b11 o10
  replace bb := below_next bb q11
  replace K0 := hide (block_kept q11 (unhide K0))
  replace W0 := hide ((unhide W0).below q11)
  replace VW0 := hide (block_kept q11 (unhide VW0))
  replace X0 := hide ((unhide X0).below q11)
  replace VX0 := hide (block_kept q11 (unhide VX0))
  replace GG := hide ((unhide GG).below q11)
  replace VGG := hide (block_kept q11 (unhide VGG))
  have z11 := q11.size
  clear q11
  have cx := block_one (unhide VX0)
  go_wp2_with fail
  clear cx
  refine (unhide MK0 _ _ _ _ (unhide X0)).mono ?_
  rintro e w12 ⟨rfl, o12, u12⟩
  clear o12 X0
  replace bb := u12.below bb (by omega)
  replace K0 := hide (u12.kept (unhide K0) (by omega))
  replace W0 := hide ((unhide W0).outside u12 (by omega))
  replace VW0 := hide (u12.kept (unhide VW0) (by omega))
  replace VX0 := hide (u12.kept (unhide VX0) (by omega))
  replace GG := hide ((unhide GG).outside u12 (by omega))
  replace VGG := hide (u12.kept (unhide VGG) (by omega))
  have z12 := u12.size
  clear u12
  have cg := block_one (unhide VGG)
  have cw := block_one (unhide VW0)
  go_wp2_with fail
  clear cg cw
  refine (eqName_has (unhide GG).hasL (unhide W0).hasL (unhide HGG0)).mono ?_
  rintro e w13 ⟨rfl, b13⟩
  replace bb := below_next bb b13
  replace K0 := hide (block_kept b13 (unhide K0))
  replace W0 := hide ((unhide W0).below b13)
  replace VW0 := hide (block_kept b13 (unhide VW0))
  replace VX0 := hide (block_kept b13 (unhide VX0))
  replace GG := hide ((unhide GG).below b13)
  replace VGG := hide (block_kept b13 (unhide VGG))
  have z13 := b13.size
  clear b13
  have cg := block_one (unhide VGG)
  go_wp2_with fail
  clear cg
  refine (unhide MKG0 _ _ _ _ (unhide GG)).mono ?_
  rintro e w14 ⟨rfl, GM, u14⟩
  clear GG
  replace bb := u14.below bb (by omega)
  replace K0 := hide (u14.kept (unhide K0) (by omega))
  replace W0 := hide ((unhide W0).outside u14 (by omega))
  replace VW0 := hide (u14.kept (unhide VW0) (by omega))
  replace VX0 := hide (u14.kept (unhide VX0) (by omega))
  replace VGG := hide (u14.kept (unhide VGG) (by omega))
  have z14 := u14.size
  clear u14
  replace GM := hide GM
  have cg := block_one (unhide VGG)
  go_wp2_with fail
  clear cg
  refine (unhide HDG0 _ _ (unhide GM).hasL).mono ?_
  rintro e w15 ⟨rfl, b15⟩
  replace bb := below_next bb b15
  replace K0 := hide (block_kept b15 (unhide K0))
  replace W0 := hide ((unhide W0).below b15)
  replace VW0 := hide (block_kept b15 (unhide VW0))
  replace VX0 := hide (block_kept b15 (unhide VX0))
  replace VGG := hide (block_kept b15 (unhide VGG))
  replace GM := hide ((unhide GM).below b15)
  have z15 := b15.size
  clear b15
  have ck0 := block_one (unhide K0)
  go_wp2_with fail
  clear ck0
  refine (toName_any a0 cap0 n0 _ ((unhide L0).below bb) hl0 (unhide HL0)).mono ?_
  rintro e w16 ⟨x16, rfl, o16, b16⟩
  obtain ⟨xa16, xc16, rfl, _⟩ := o16.hasL.form
  have A16 := hide (o16.hasL)
  clear o16
  replace bb := below_next bb b16
  replace K0 := hide (block_kept b16 (unhide K0))
  replace W0 := hide ((unhide W0).below b16)
  replace VW0 := hide (block_kept b16 (unhide VW0))
  replace VX0 := hide (block_kept b16 (unhide VX0))
  replace VGG := hide (block_kept b16 (unhide VGG))
  replace GM := hide ((unhide GM).below b16)
  have z16 := b16.size
  clear b16
  have ck0 := block_one (unhide K0)
  go_wp2_with fail
  clear ck0
  refine (unhide IM _ _ (unhide A16)).mono ?_
  rintro e w17 ⟨y17, rfl, o17, b17⟩
  clear A16
  replace bb := below_next bb b17
  replace K0 := hide (block_kept b17 (unhide K0))
  replace W0 := hide ((unhide W0).below b17)
  replace VW0 := hide (block_kept b17 (unhide VW0))
  replace VX0 := hide (block_kept b17 (unhide VX0))
  replace VGG := hide (block_kept b17 (unhide VGG))
  replace GM := hide ((unhide GM).below b17)
  have z17 := b17.size
  clear b17
  obtain ⟨ya17, yc17, rfl, _⟩ := o17.hasL.form
  have H0 := hide o17.here
  clear o17
  have b18 := below_alloc (w := w17) (.cells #[.slice ya17 G0.length yc17] 25)
  have VH0 := hide (heap_alloc_new w17 (.cells #[.slice ya17 G0.length yc17] 25))
  have ckK0 := block_one (block_kept b18 (unhide K0))
  have ckVW0 := block_one (block_kept b18 (unhide VW0))
  have ckVX0 := block_one (block_kept b18 (unhide VX0))
  have ckVGG := block_one (block_kept b18 (unhide VGG))
  go_wp2_with fail
  clear ckK0
  clear ckVW0
  clear ckVX0
  clear ckVGG
  generalize w17.alloc (.cells #[.slice ya17 G0.length yc17] 25) = w18 at *
  replace bb := below_next bb b18
  replace K0 := hide (block_kept b18 (unhide K0))
  replace W0 := hide ((unhide W0).below b18)
  replace VW0 := hide (block_kept b18 (unhide VW0))
  replace VX0 := hide (block_kept b18 (unhide VX0))
  replace VGG := hide (block_kept b18 (unhide VGG))
  replace GM := hide ((unhide GM).below b18)
  replace H0 := hide ((unhide H0).below b18)
  have z18 := b18.size
  clear b18
  have zz18 := block_lt (unhide VH0)
  have cg := block_one (unhide VH0)
  have cw := block_one (unhide VW0)
  go_wp2_with fail
  clear cg cw
  refine (eqName_has (unhide H0).hasL (unhide W0).hasL (unhide HGG0)).mono ?_
  rintro e w19 ⟨rfl, b19⟩
  replace bb := below_next bb b19
  replace K0 := hide (block_kept b19 (unhide K0))
  replace W0 := hide ((unhide W0).below b19)
  replace VW0 := hide (block_kept b19 (unhide VW0))
  replace VX0 := hide (block_kept b19 (unhide VX0))
  replace VGG := hide (block_kept b19 (unhide VGG))
  replace GM := hide ((unhide GM).below b19)
  replace H0 := hide ((unhide H0).below b19)
  replace VH0 := hide (block_kept b19 (unhide VH0))
  have z19 := b19.size
  clear b19
  have cg := block_one (unhide VGG)
  go_wp2_with fail
  clear cg
  refine (unhide HDG0 _ _ (unhide GM).hasL).mono ?_
  rintro e w20 ⟨rfl, b20⟩
  replace bb := below_next bb b20
  replace K0 := hide (block_kept b20 (unhide K0))
  replace W0 := hide ((unhide W0).below b20)
  replace VW0 := hide (block_kept b20 (unhide VW0))
  replace VX0 := hide (block_kept b20 (unhide VX0))
  replace VGG := hide (block_kept b20 (unhide VGG))
  replace GM := hide ((unhide GM).below b20)
  replace H0 := hide ((unhide H0).below b20)
  replace VH0 := hide (block_kept b20 (unhide VH0))
  have z20 := b20.size
  clear b20
  go_wp2_with fail
  go_ret
  exact ⟨rfl, bb⟩
end Go.Proofs.Ytdbojhbdfcknfaa
