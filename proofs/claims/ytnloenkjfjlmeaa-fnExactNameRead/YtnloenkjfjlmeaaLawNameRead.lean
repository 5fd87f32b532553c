/-
  The walk of laws.FnExactNameRead.
-/
import Derived.Test.YtnloenkjfjlmeaaBytes
import Derived.Test.YtnloenkjfjlmeaaNames
import Derived.Test.YtnloenkjfjlmeaaHeld
import Derived.Test.YtnloenkjfjlmeaaCarry
import Derived.Test.YtnloenkjfjlmeaaRow8
import Derived.Test.YtnloenkjfjlmeaaINameRead
import Derived.Test.YtnloenkjfjlmeaaSNameRead
import Derived.Deep.RegionHeld3
import Derived.Deep.RegionWith
namespace Go.Proofs.Ytnloenkjfjlmeaa
open Go.RowKit
set_option linter.unusedVariables false

set_option maxHeartbeats 4000000 in
set_option maxRecDepth 100000 in
theorem lawNameRead (a0 : Option Addr) (cap0 : Nat) (l0 : List Int) (w : World) (h0 : Lies w a0 l0) (hm0 : l0.length ≤ maxLen) (hb0 : Bytes8 l0) :
    Calls Try.prog 7 #[.slice a0 l0.length cap0] w fun e w' => e = .returned (.bool true) ∧ Below w.heap.size w w' := by
  have bb := Below.refl w.heap.size w
  by_cases hbig0 : 1048576 < l0.length
  · unfold maxLen at hm0
    clear h0 
    go_enter Try.func7, Try.ntmps7
    go_wp2_with fail
    go_ret
    exact ⟨rfl, bb⟩
  have hl0 : l0.length ≤ 1048576 := by omega
  have L0 := hide h0
  clear h0 hbig0 hm0
  have HB0 := hide hb0
  clear hb0
  go_enter Try.func7, Try.ntmps7
  go_wp2_with fail
  have hG0 := (nameRead_bound l0).1
  have hGe0 := (nameRead_bound l0).2
  have SP := fun (w : World) (x0 : Value) (h0 : Row8 w x0 l0) => specNameRead_own (Classical.choose_spec h0) hl0 (unhide HB0)
  have IM := fun (w : World) (x0 : Value) (h0 : Row8 w x0 l0) => implNameRead_own (Classical.choose_spec h0) hl0 (unhide HB0)
  generalize (nameRead l0).1 = G0 at *
  generalize (nameRead l0).2 = G1 at *
  have HG0 := hide (show ∀ i, i < G0.length → (G0.getD i []).length ≤ 1048576 from fun i hi => by have := hGe0 i hi; omega)
  have HGG0 := hide (show ∀ i, i < G0.length → (G0.getD i []).length ≤ 2097152 from fun i hi => by have := hGe0 i hi; omega)
  clear hGe0
  have hl1G0 : G0.length ≤ 1048576 := by omega
  have hPG0 : 1 ≤ pos G0 1 G0.length := (pos_le G0 1 1048576 (unhide HG0) G0.length (Nat.le_refl _)).1
  have MKG0 := fun (B E : Nat) (v : Value) (w : World) (h : OwnN B E 22 5 w v G0) => markName_any 1 h hl1G0 (unhide HG0) (by omega) (by omega)
  have HDG0 := fun (v : Value) (w : World) (h : HasL w v (markL G0 1)) => heldName_has 1 h hl1G0 (unhide HG0) (by omega) (by omega)
  generalize pos G0 1 G0.length = PG0 at *
  generalize markL G0 1 = MG0 at *
  replace MKG0 := hide MKG0
  replace HDG0 := hide HDG0
  have hPGn0 : ¬ PG0 < 0 := by omega
  replace SP := hide SP
  replace IM := hide IM
  go_wp2_with fail
  refine (toByteS_any a0 cap0 l0 _ ((unhide L0).below bb) hl0).mono ?_
  rintro e w1 ⟨x1, rfl, o1, b1⟩
  have A1 := hide (o1.row8)
  clear o1
  replace bb := below_next bb b1
  have z1 := b1.size
  clear b1
  go_wp2_with fail
  refine (unhide SP _ _ (unhide A1)).mono ?_
  rintro e w2 ⟨y2, rfl, o2, b2⟩
  clear A1
  replace bb := below_next bb b2
  have z2 := b2.size
  clear b2
  obtain ⟨ya2, yc2, rfl, _⟩ := o2.hasL.form
  have W0 := hide o2.hasL.at
  clear o2
  have b3 := below_alloc (w := w2) (.cells #[.slice ya2 G0.length yc2] 25)
  have VW0 := hide (heap_alloc_new w2 (.cells #[.slice ya2 G0.length yc2] 25))
  go_wp2_with fail
  generalize w2.alloc (.cells #[.slice ya2 G0.length yc2] 25) = w3 at *
  replace bb := below_next bb b3
  replace W0 := hide ((unhide W0).below b3)
  have z3 := b3.size
  clear b3
  have zz3 := block_lt (unhide VW0)
  have c_VW0 := block_one (unhide VW0)
  go_wp2_with fail
  clear c_VW0
  refine (toByteS_any a0 cap0 l0 _ ((unhide L0).below bb) hl0).mono ?_
  rintro e w4 ⟨x4, rfl, o4, b4⟩
  have X0 := hide o4.here
  clear o4
  replace bb := below_next bb b4
  replace W0 := hide ((unhide W0).below b4)
  replace VW0 := hide (block_kept b4 (unhide VW0))
  have z4 := b4.size
  clear b4
  have c_VW0 := block_one (unhide VW0)
  go_wp2_with fail
  clear c_VW0
  refine (unhide IM _ _ (unhide X0).row8).mono ?_
  rintro e w5 ⟨y5, rfl, o5, b5⟩
  replace bb := below_next bb b5
  replace W0 := hide ((unhide W0).below b5)
  replace VW0 := hide (block_kept b5 (unhide VW0))
  replace X0 := hide ((unhide X0).below b5)
  have z5 := b5.size
  clear b5
  obtain ⟨ya5, yc5, rfl, _⟩ := o5.hasL.form
  have GG := hide o5.here
  clear o5
  have b6 := below_alloc (w := w5) (.cells #[.slice ya5 G0.length yc5] 25)
  have VGG := hide (heap_alloc_new w5 (.cells #[.slice ya5 G0.length yc5] 25))
  have c_VW0 := block_one (block_kept b6 (unhide VW0))
  go_wp2_with fail
  clear c_VW0
  generalize w5.alloc (.cells #[.slice ya5 G0.length yc5] 25) = w6 at *
  replace bb := below_next bb b6
  replace W0 := hide ((unhide W0).below b6)
  replace VW0 := hide (block_kept b6 (unhide VW0))
  replace X0 := hide ((unhide X0).below b6)
  replace GG := hide ((unhide GG).below b6)
  have z6 := b6.size
  clear b6
  have zz6 := block_lt (unhide VGG)
  have c_VW0 := block_one (unhide VW0)
  have c_VGG := block_one (unhide VGG)
  go_wp2_with fail
  clear c_VW0
  clear c_VGG
  refine (eqName_has (unhide GG).hasL (unhide W0).hasL (unhide HGG0)).mono ?_
  rintro e w7 ⟨rfl, b7⟩
  replace bb := below_next bb b7
  replace W0 := hide ((unhide W0).below b7)
  replace VW0 := hide (block_kept b7 (unhide VW0))
  replace X0 := hide ((unhide X0).below b7)
  replace GG := hide ((unhide GG).below b7)
  replace VGG := hide (block_kept b7 (unhide VGG))
  have z7 := b7.size
  clear b7
  have c_VW0 := block_one (unhide VW0)
  have c_VGG := block_one (unhide VGG)
  go_wp2_with fail
  clear c_VW0
  clear c_VGG
  refine (toByteS_any a0 cap0 l0 _ ((unhide L0).below bb) hl0).mono ?_
  rintro e w8 ⟨x8, rfl, o8, b8⟩
  have A8 := hide o8.has
  clear o8
  replace bb := below_next bb b8
  replace W0 := hide ((unhide W0).below b8)
  replace VW0 := hide (block_kept b8 (unhide VW0))
  replace X0 := hide ((unhide X0).below b8)
  replace GG := hide ((unhide GG).below b8)
  replace VGG := hide (block_kept b8 (unhide VGG))
  have z8 := b8.size
  clear b8
  have c_VW0 := block_one (unhide VW0)
  have c_VGG := block_one (unhide VGG)
  go_wp2_with fail
  clear c_VW0
  clear c_VGG
  refine (eqByteS_has (unhide X0).has (unhide A8) (by omega)).mono ?_
  rintro e w9 ⟨rfl, m9, hm9⟩
  have b9 : Below w8.heap.size w8 w9 := by rw [hm9]; exact below_draws m9
  clear hm9 A8
  replace bb := below_next bb b9
  replace W0 := hide ((unhide W0).below b9)
  replace VW0 := hide (block_kept b9 (unhide VW0))
  replace X0 := hide ((unhide X0).below b9)
  replace GG := hide ((unhide GG).below b9)
  replace VGG := hide (block_kept b9 (unhide VGG))
  have z9 := b9.size
  clear b9
  have c_VW0 := block_one (unhide VW0)
  have c_VGG := block_one (unhide VGG)
  go_wp2_with fail
  clear c_VW0
  clear c_VGG
  refine (markByteS_any 1 (unhide X0).1 (by omega) (by omega) (by omega)).mono ?_
  rintro e w10 ⟨rfl, o10, g10⟩
  obtain ⟨_, u10⟩ := (unhide X0).marks o10 g10
  clear o10 g10 X0
  replace bb := u10.below bb (by omega)
  replace W0 := hide ((unhide W0).outside u10 (by omega))
  replace VW0 := hide (u10.kept (unhide VW0) (by omega))
  replace GG := hide ((unhide GG).outside u10 (by omega))
  replace VGG := hide (u10.kept (unhide VGG) (by omega))
  have z10 := u10.size
  clear u10
  have c_VW0 := block_one (unhide VW0)
  have c_VGG := block_one (unhide VGG)
  go_wp2_with fail
  clear c_VW0
  clear c_VGG
  refine (eqName_has (unhide GG).hasL (unhide W0).hasL (unhide HGG0)).mono ?_
  rintro e w11 ⟨rfl, b11⟩
  replace bb := below_next bb b11
  replace W0 := hide ((unhide W0).below b11)
  replace VW0 := hide (block_kept b11 (unhide VW0))
  replace GG := hide ((unhide GG).below b11)
  replace VGG := hide (block_kept b11 (unhide VGG))
  have z11 := b11.size
  clear b11
  have c_VW0 := block_one (unhide VW0)
  have c_VGG := block_one (unhide VGG)
  go_wp2_with fail
  clear c_VW0
  clear c_VGG
  refine (unhide MKG0 _ _ _ _ (unhide GG)).mono ?_
  rintro e w12 ⟨rfl, GM, u12⟩
  clear GG
  replace bb := u12.below bb (by omega)
  replace W0 := hide ((unhide W0).outside u12 (by omega))
  replace VW0 := hide (u12.kept (unhide VW0) (by omega))
  replace VGG := hide (u12.kept (unhide VGG) (by omega))
  have z12 := u12.size
  clear u12
  replace GM := hide GM
  have c_VW0 := block_one (unhide VW0)
  have c_VGG := block_one (unhide VGG)
  go_wp2_with fail
  clear c_VW0
  clear c_VGG
  refine (unhide HDG0 _ _ (unhide GM).hasL).mono ?_
  rintro e w13 ⟨rfl, b13⟩
  replace bb := below_next bb b13
  replace W0 := hide ((unhide W0).below b13)
  replace VW0 := hide (block_kept b13 (unhide VW0))
  replace VGG := hide (block_kept b13 (unhide VGG))
  replace GM := hide ((unhide GM).below b13)
  have z13 := b13.size
  clear b13
  have c_VW0 := block_one (unhide VW0)
  have c_VGG := block_one (unhide VGG)
  go_wp2_with fail
  clear c_VW0
  clear c_VGG
  refine (toByteS_any a0 cap0 l0 _ ((unhide L0).below bb) hl0).mono ?_
  rintro e w14 ⟨x14, rfl, o14, b14⟩
  have A14 := hide (o14.row8)
  clear o14
  replace bb := below_next bb b14
  replace W0 := hide ((unhide W0).below b14)
  replace VW0 := hide (block_kept b14 (unhide VW0))
  replace VGG := hide (block_kept b14 (unhide VGG))
  replace GM := hide ((unhide GM).below b14)
  have z14 := b14.size
  clear b14
  have c_VW0 := block_one (unhide VW0)
  have c_VGG := block_one (unhide VGG)
  go_wp2_with fail
  clear c_VW0
  clear c_VGG
  refine (unhide IM _ _ (unhide A14)).mono ?_
  rintro e w15 ⟨y15, rfl, o15, b15⟩
  clear A14
  replace bb := below_next bb b15
  replace W0 := hide ((unhide W0).below b15)
  replace VW0 := hide (block_kept b15 (unhide VW0))
  replace VGG := hide (block_kept b15 (unhide VGG))
  replace GM := hide ((unhide GM).below b15)
  have z15 := b15.size
  clear b15
  obtain ⟨ya15, yc15, rfl, _⟩ := o15.hasL.form
  have H0 := hide o15.here
  clear o15
  have b16 := below_alloc (w := w15) (.cells #[.slice ya15 G0.length yc15] 25)
  have VH0 := hide (heap_alloc_new w15 (.cells #[.slice ya15 G0.length yc15] 25))
  have c_VW0 := block_one (block_kept b16 (unhide VW0))
  have c_VGG := block_one (block_kept b16 (unhide VGG))
  go_wp2_with fail
  clear c_VW0
  clear c_VGG
  generalize w15.alloc (.cells #[.slice ya15 G0.length yc15] 25) = w16 at *
  replace bb := below_next bb b16
  replace W0 := hide ((unhide W0).below b16)
  replace VW0 := hide (block_kept b16 (unhide VW0))
  replace VGG := hide (block_kept b16 (unhide VGG))
  replace GM := hide ((unhide GM).below b16)
  replace H0 := hide ((unhide H0).below b16)
  have z16 := b16.size
  clear b16
  have zz16 := block_lt (unhide VH0)
  have c_VW0 := block_one (unhide VW0)
  have c_VGG := block_one (unhide VGG)
  have c_VH0 := block_one (unhide VH0)
  go_wp2_with fail
  clear c_VW0
  clear c_VGG
  clear c_VH0
  refine (eqName_has (unhide H0).hasL (unhide W0).hasL (unhide HGG0)).mono ?_
  rintro e w17 ⟨rfl, b17⟩
  replace bb := below_next bb b17
  replace W0 := hide ((unhide W0).below b17)
  replace VW0 := hide (block_kept b17 (unhide VW0))
  replace VGG := hide (block_kept b17 (unhide VGG))
  replace GM := hide ((unhide GM).below b17)
  replace H0 := hide ((unhide H0).below b17)
  replace VH0 := hide (block_kept b17 (unhide VH0))
  have z17 := b17.size
  clear b17
  have c_VW0 := block_one (unhide VW0)
  have c_VGG := block_one (unhide VGG)
  have c_VH0 := block_one (unhide VH0)
  go_wp2_with fail
  clear c_VW0
  clear c_VGG
  clear c_VH0
  refine (unhide HDG0 _ _ (unhide GM).hasL).mono ?_
  rintro e w18 ⟨rfl, b18⟩
  replace bb := below_next bb b18
  replace W0 := hide ((unhide W0).below b18)
  replace VW0 := hide (block_kept b18 (unhide VW0))
  replace VGG := hide (block_kept b18 (unhide VGG))
  replace GM := hide ((unhide GM).below b18)
  replace H0 := hide ((unhide H0).below b18)
  replace VH0 := hide (block_kept b18 (unhide VH0))
  have z18 := b18.size
  clear b18
  go_wp2_with fail
  go_ret
  exact ⟨rfl, bb⟩
end Go.Proofs.Ytnloenkjfjlmeaa
