/-
  The walk of laws.FnExactInside.
-/
import Derived.Test.YtjgfljndeolmoaaInsideG03
import Derived.Test.YtjgfljndeolmoaaInsideG05
import Derived.Test.YtjgfljndeolmoaaInsideG06
import Derived.Test.YtjgfljndeolmoaaInsideG07
import Derived.Test.YtjgfljndeolmoaaInsideG09
import Derived.Test.YtjgfljndeolmoaaInsideG11
import Derived.Test.YtjgfljndeolmoaaInsideG13
import Derived.Test.YtjgfljndeolmoaaInsideG14
import Derived.Test.YtjgfljndeolmoaaInsideG23
import Derived.Test.YtjgfljndeolmoaaInsideG31
import Derived.Deep.RegionHeld3
import Derived.Deep.RegionWith
namespace Go.Proofs.Ytjgfljndeolmoaa
open Go.RowKit
set_option linter.unusedVariables false

set_option maxHeartbeats 4000000 in
set_option maxRecDepth 100000 in
theorem lawInside (a0 : Option Addr) (cap0 : Nat) (q0 : List Rec) (a1 : Option Addr) (cap1 : Nat) (n1 : List (List Int)) (w : World) (h0 : LiesRs w a0 q0) (hm0 : q0.length ≤ maxLen) (hmm0 : ∀ i, i < q0.length → SizeR maxLen (q0.getD i recZ)) (h1 : LiesL w a1 n1) (hm1 : n1.length ≤ maxLen) (hmm1 : ∀ i, i < n1.length → (n1.getD i []).length ≤ maxLen) :
  Calls Try.prog 5 #[.slice a0 q0.length cap0, .agg #[.slice a1 n1.length cap1]] w fun e w' => e = .returned (.bool true) ∧ Below w.heap.size w w' := by
 have bb := below_alloc (w := w) (.cells #[.slice a1 n1.length cap1] 37)
 have K1 := heap_alloc_new w (.cells #[.slice a1 n1.length cap1] 37)
 replace K1 := hide K1
 have L0 := hide h0
 have HM0 := hide hmm0
 clear h0 hmm0
 have L1 := hide h1
 have HM1 := hide hmm1
 clear h1 hmm1
 go_enter Try.func5, Try.ntmps5
 go_wp2_with fail
 generalize w.alloc (.cells #[.slice a1 n1.length cap1] 37) = W at *
 have zk1 := block_lt (unhide K1)
 refine (szRrS_any a0 cap0 q0 1048576 _ ((unhide L0).below bb) hm0 (unhide HM0) (by omega) (by omega)).mono ?_
 rintro e w1 ⟨⟨y0, rfl, hr00, hr10, hr20⟩, b1⟩
 replace bb := below_next bb b1
 replace K1 := hide (block_kept b1 (unhide K1))
 have z1 := b1.size
 clear b1
 by_cases hneg0 : y0 < 0
 ·clear hr20
  go_wp2_with fail
  go_ret
  exact ⟨rfl, bb⟩
 obtain ⟨hn1, hn2⟩ := hr20 (by omega)
 have hl0 : q0.length ≤ 1048576 := by omega
 have HS0 := hide (fun i (hi : i < q0.length) => (hn2 i hi).mono (m' := 1048576) (by omega))
 have HSS0 := hide (fun i (hi : i < q0.length) => ((unhide HS0) i hi).mono (m' := 2097152) (by omega))
 clear hr20 hn1 hn2 hm0 HM0
 have c_K1 := block_one (unhide K1)
 go_wp2_with fail
 clear c_K1
 refine (szName_any a1 cap1 n1 y0 _ ((unhide L1).below bb) hm1 (unhide HM1) (by omega) (by omega)).mono ?_
 rintro e w2 ⟨⟨y1, rfl, hr01, hr11, hr21⟩, b2⟩
 replace bb := below_next bb b2
 replace K1 := hide (block_kept b2 (unhide K1))
 have z2 := b2.size
 clear b2
 by_cases hneg1 : y1 < 0
 ·clear hr21
  go_wp2_with fail
  go_ret
  exact ⟨rfl, bb⟩
 obtain ⟨hn1, hn2⟩ := hr21 (by omega)
 have hl1 : n1.length ≤ 1048576 := by omega
 have HL1 := hide (show ∀ i, i < n1.length → (n1.getD i []).length ≤ 1048576 from fun i hi => by have := hn2 i hi; omega)
 have HLL1 := hide (show ∀ i, i < n1.length → (n1.getD i []).length ≤ 2097152 from fun i hi => by have := hn2 i hi; omega)
 clear hr21 hn1 hn2 hm1 HM1
 have hP0 := posRs_bound' (unhide HS0) (by omega) 1
 have MK0 := fun (B E : Nat) (v : Value) (w : World) (h3 : E ≤ w.heap.size) (h : RowO B E 34 22 5 3 w v q0) => markRrS_own (unhide HS0) (by omega) 1 (by omega) (by omega) h3 h
 generalize posRs q0 1 q0.length = P0 at *
 replace MK0 := hide MK0
 have hPn0 : ¬ P0 < 0 := by omega
 have hP1 := pos_bound' n1 P0 hl1 (unhide HL1)
 have MK1 := fun (B E : Nat) (v : Value) (w : World) (h : OwnN B E 22 5 w v n1) => markName_any P0 h hl1 (unhide HL1) (by omega) (by omega)
 generalize pos n1 P0 n1.length = P1 at *
 replace MK1 := hide MK1
 have hPn1 : ¬ P1 < 0 := by omega
 have hS0g := inside_size q0 n1
 have SP := fun (w : World) (x0 : Value) (h0 : HasRs w x0 q0) (x1 : Value) (h1 : HasL w x1 n1) => specInside_has h0 h1
 have IM := fun (w : World) (x0 : Value) (h0 : HasRs w x0 q0) (x1 : Value) (h1 : HasL w x1 n1) => implInside_own h0 h1
 generalize (insideOf q0 n1) = G0 at *
 have HC0g := hS0g.1
 have HS0g := hide (fun i (hi : i < G0.length) => (hS0g.2 i hi).mono (m' := 1048576) (by omega))
 have HSS0g := hide (fun i (hi : i < G0.length) => (hS0g.2 i hi).mono (m' := 2097152) (by omega))
 clear hS0g
 have hPG0 := posRs_bound' (unhide HS0g) (by omega) 1
 have MKG0 := fun (B E : Nat) (v : Value) (w : World) (h3 : E ≤ w.heap.size) (h : RowO B E 34 22 5 3 w v G0) => markRrS_own (unhide HS0g) (by omega) 1 (by omega) (by omega) h3 h
 have HDG0 := fun (v : Value) (w : World) (h : HasRs w v (markRs G0 1 G0.length)) => heldRrS_has (unhide HS0g) (by omega) 1 (by omega) (by omega) h
 generalize posRs G0 1 G0.length = PG0 at *
 generalize markRs G0 1 G0.length = MR0 at *
 replace MKG0 := hide MKG0
 replace HDG0 := hide HDG0
 have hPGn0 : ¬ PG0 < 0 := by omega
 replace SP := hide SP
 replace IM := hide IM
 have bd := below_drew (w := w2)
 have zdw2 : w2.drew.heap.size = w2.heap.size := rfl
 replace bb := below_next bb bd
 replace K1 := hide (block_kept bd (unhide K1))
 clear bd
 have c_K1 := block_one (unhide K1)
 go_wp2_with fail
 clear c_K1
 go_region_held3 (fun w' => (w'.cell? ⟨w.heap.size, 0, none⟩ = some (.slice a1 n1.length cap1)))
  (first | exact block_one (unhide K1) | exact block_one (block_kept q3 (unhide K1)) | exact block_one (block_kept q4 (unhide K1)) | exact block_one (block_kept q5 (unhide K1)))
  (first
  | (go_at_call_of 20 (Value.slice a0 q0.length cap0); refine (toRrS_own a0 cap0 q0 _ ((unhide L0).below bb) hl0 (unhide HS0)).mono ?_; rintro e w3 ⟨x3, rfl, o3, b3⟩; obtain ⟨xa3, xc3, rfl, _⟩ := o3.form; have q3 := b3)
  | (go_at_call_of 21 (Value.slice a1 n1.length cap1); refine (toName_any a1 cap1 n1 _ ((unhide L1).below (below_next bb q3)) hl1 (unhide HL1)).mono ?_; rintro e w4 ⟨x4, rfl, o4, b4⟩; obtain ⟨xa4, xc4, rfl, _⟩ := o4.hasL.form; have q4 := below_next q3 b4)
  | (go_at_call 19; refine (unhide SP _ _ (o3.below b4).has _ o4.hasL).mono ?_; rintro e w5 ⟨y5_0, rfl, o5_0, b5⟩; have q5 := below_next q4 b5))
 clear b3 o3 q3 b4 o4 q4 b5
 replace bb := below_next bb q5
 replace K1 := hide (block_kept q5 (unhide K1))
 have z5 := q5.size
 clear q5
 have BW := hide (Below.refl w5.heap.size w5)
 obtain ⟨ya5_0, yc5_0, rfl, _⟩ := o5_0.form
 have Wr0 := hide o5_0
 clear o5_0
 have c_K1 := block_one (unhide K1)
 go_wp2_with fail
 clear c_K1
 refine (toRrS_own a0 cap0 q0 _ ((unhide L0).below bb) hl0 (unhide HS0)).mono ?_
 rintro e w6 ⟨x6, rfl, o6, b6⟩
 obtain ⟨xa6, xc6, rfl, _⟩ := o6.form
 have X0 := hide o6
 clear o6
 replace bb := below_next bb b6
 replace K1 := hide (block_kept b6 (unhide K1))
 replace BW := hide ((unhide BW).trans (b6.mono (unhide BW).size))
 have z6 := b6.size
 clear b6
 have c_K1 := block_one (unhide K1)
 go_wp2_with fail
 clear c_K1
 refine (toName_any a1 cap1 n1 _ ((unhide L1).below bb) hl1 (unhide HL1)).mono ?_
 rintro e w7 ⟨x7, rfl, o7, b7⟩
 obtain ⟨xa7, xc7, rfl, _⟩ := o7.hasL.form
 have X1 := hide o7.here
 clear o7
 replace bb := below_next bb b7
 replace K1 := hide (block_kept b7 (unhide K1))
 replace BW := hide ((unhide BW).trans (b7.mono (unhide BW).size))
 replace X0 := hide ((unhide X0).below b7)
 have z7 := b7.size
 clear b7
 have b8 := below_alloc (w := w7) (.cells #[.slice xa7 n1.length xc7] 26)
 have VX1 := hide (heap_alloc_new w7 (.cells #[.slice xa7 n1.length xc7] 26))
 have c_K1 := block_one (block_kept b8 (unhide K1))
 go_wp2_with fail
 clear c_K1
 generalize w7.alloc (.cells #[.slice xa7 n1.length xc7] 26) = w8 at *
 replace bb := below_next bb b8
 replace K1 := hide (block_kept b8 (unhide K1))
 replace BW := hide ((unhide BW).trans (b8.mono (unhide BW).size))
 replace X0 := hide ((unhide X0).below b8)
 replace X1 := hide ((unhide X1).below b8)
 have z8 := b8.size
 clear b8
 have zz8 := block_lt (unhide VX1)
 have c_K1 := block_one (unhide K1)
 have c_VX1 := block_one (unhide VX1)
 go_wp2_with fail
 clear c_K1
 clear c_VX1
 refine (unhide IM _ _ (unhide X0).has _ (unhide X1).hasL).mono ?_
 rintro e w9 ⟨y9_0, rfl, o9_0, b9⟩
 replace bb := below_next bb b9
 replace K1 := hide (block_kept b9 (unhide K1))
 replace BW := hide ((unhide BW).trans (b9.mono (unhide BW).size))
 replace X0 := hide ((unhide X0).below b9)
 replace X1 := hide ((unhide X1).below b9)
 replace VX1 := hide (block_kept b9 (unhide VX1))
 have z9 := b9.size
 clear b9
 obtain ⟨ya9_0, yc9_0, rfl, _⟩ := o9_0.form
 have Gr0 := hide o9_0
 clear o9_0
 have c_K1 := block_one (unhide K1)
 have c_VX1 := block_one (unhide VX1)
 go_wp2_with fail
 clear c_K1
 clear c_VX1
 refine (eqRrS_has (unhide Gr0).has ((unhide Wr0).below (unhide BW)) (unhide HSS0g)).mono ?_
 rintro e w10 ⟨rfl, b10⟩
 replace bb := below_next bb b10
 replace K1 := hide (block_kept b10 (unhide K1))
 replace BW := hide ((unhide BW).trans (b10.mono (unhide BW).size))
 replace X0 := hide ((unhide X0).below b10)
 replace X1 := hide ((unhide X1).below b10)
 replace VX1 := hide (block_kept b10 (unhide VX1))
 replace Gr0 := hide ((unhide Gr0).below b10)
 have z10 := b10.size
 clear b10
 have c_K1 := block_one (unhide K1)
 have c_VX1 := block_one (unhide VX1)
 go_wp2_with fail
 clear c_K1
 clear c_VX1
 refine (toRrS_own a0 cap0 q0 _ ((unhide L0).below bb) hl0 (unhide HS0)).mono ?_
 rintro e w11 ⟨x11, rfl, o11, b11⟩
 obtain ⟨xa11, xc11, rfl, _⟩ := o11.form
 have YY := hide o11
 clear o11
 replace bb := below_next bb b11
 replace K1 := hide (block_kept b11 (unhide K1))
 replace BW := hide ((unhide BW).trans (b11.mono (unhide BW).size))
 replace X0 := hide ((unhide X0).below b11)
 replace X1 := hide ((unhide X1).below b11)
 replace VX1 := hide (block_kept b11 (unhide VX1))
 replace Gr0 := hide ((unhide Gr0).below b11)
 have z11 := b11.size
 clear b11
 have c_K1 := block_one (unhide K1)
 have c_VX1 := block_one (unhide VX1)
 go_wp2_with fail
 clear c_K1
 clear c_VX1
 refine (eqRrS_has (unhide X0).has (unhide YY).has (unhide HSS0)).mono ?_
 rintro e w12 ⟨rfl, b12⟩
 clear YY
 replace bb := below_next bb b12
 replace K1 := hide (block_kept b12 (unhide K1))
 replace BW := hide ((unhide BW).trans (b12.mono (unhide BW).size))
 replace X0 := hide ((unhide X0).below b12)
 replace X1 := hide ((unhide X1).below b12)
 replace VX1 := hide (block_kept b12 (unhide VX1))
 replace Gr0 := hide ((unhide Gr0).below b12)
 have z12 := b12.size
 clear b12
 have bd := below_drew (w := w12)
 have zdw12 : w12.drew.heap.size = w12.heap.size := rfl
 replace bb := below_next bb bd
 replace K1 := hide (block_kept bd (unhide K1))
 replace BW := hide ((unhide BW).trans (bd.mono (unhide BW).size))
 replace X0 := hide ((unhide X0).below bd)
 replace X1 := hide ((unhide X1).below bd)
 replace VX1 := hide (block_kept bd (unhide VX1))
 replace Gr0 := hide ((unhide Gr0).below bd)
 clear bd
 have c_K1 := block_one (unhide K1)
 have c_VX1 := block_one (unhide VX1)
 go_wp2_with fail
 clear c_K1
 clear c_VX1
 go_region_held3 (fun w' => (w'.cell? ⟨w.heap.size, 0, none⟩ = some (.slice a1 n1.length cap1)) ∧ (w'.cell? ⟨w7.heap.size, 0, none⟩ = some (.slice xa7 n1.length xc7)))
  (first | exact ⟨block_one (unhide K1), block_one (unhide VX1)⟩ | exact ⟨block_one (block_kept b13 (unhide K1)), block_one (block_kept b13 (unhide VX1))⟩ | exact ⟨block_one (block_kept q14 (unhide K1)), block_one (block_kept q14 (unhide VX1))⟩)
  (first
  | (go_at_call 21; refine (toName_any a1 cap1 n1 _ ((unhide L1).below bb) hl1 (unhide HL1)).mono ?_; rintro e w13 ⟨x13, rfl, o13, b13⟩; obtain ⟨xa13, xc13, rfl, _⟩ := o13.hasL.form)
  | (go_at_call 23; refine (eqName_has ((unhide X1).below b13).hasL o13.hasL (unhide HLL1)).mono ?_; rintro e w14 ⟨rfl, b14⟩; have q14 := below_next b13 b14))
 clear b13 b14 o13
 replace bb := below_next bb q14
 replace K1 := hide (block_kept q14 (unhide K1))
 replace BW := hide ((unhide BW).trans (q14.mono (unhide BW).size))
 replace X0 := hide ((unhide X0).below q14)
 replace X1 := hide ((unhide X1).below q14)
 replace VX1 := hide (block_kept q14 (unhide VX1))
 replace Gr0 := hide ((unhide Gr0).below q14)
 have z14 := q14.size
 clear q14
 have c_K1 := block_one (unhide K1)
 have c_VX1 := block_one (unhide VX1)
 go_wp2_with fail
 clear c_K1
 clear c_VX1
 refine (unhide MK0 _ _ _ _ (by omega) (unhide X0)).mono ?_
 rintro e w15 ⟨rfl, o15, u15⟩
 clear o15 X0
 replace bb := u15.below bb (by omega)
 replace K1 := hide (u15.kept (unhide K1) (by omega))
 replace BW := hide (u15.belowAt (unhide BW) (Nat.le_refl _) (by omega))
 replace X1 := hide ((unhide X1).outside u15 (by omega))
 replace VX1 := hide (u15.kept (unhide VX1) (by omega))
 replace Gr0 := hide ((unhide Gr0).outside u15 (by omega))
 have z15 := u15.size
 clear u15
 have c_K1 := block_one (unhide K1)
 have c_VX1 := block_one (unhide VX1)
 go_wp2_with fail
 clear c_K1
 clear c_VX1
 refine (unhide MK1 _ _ _ _ (unhide X1)).mono ?_
 rintro e w16 ⟨rfl, o16, u16⟩
 clear o16 X1
 replace bb := u16.below bb (by omega)
 replace K1 := hide (u16.kept (unhide K1) (by omega))
 replace BW := hide (u16.belowAt (unhide BW) (Nat.le_refl _) (by omega))
 replace VX1 := hide (u16.kept (unhide VX1) (by omega))
 replace Gr0 := hide ((unhide Gr0).outside u16 (by omega))
 have z16 := u16.size
 clear u16
 have c_K1 := block_one (unhide K1)
 have c_VX1 := block_one (unhide VX1)
 go_wp2_with fail
 clear c_K1
 clear c_VX1
 refine (eqRrS_has (unhide Gr0).has ((unhide Wr0).below (unhide BW)) (unhide HSS0g)).mono ?_
 rintro e w17 ⟨rfl, b17⟩
 replace bb := below_next bb b17
 replace K1 := hide (block_kept b17 (unhide K1))
 replace BW := hide ((unhide BW).trans (b17.mono (unhide BW).size))
 replace VX1 := hide (block_kept b17 (unhide VX1))
 replace Gr0 := hide ((unhide Gr0).below b17)
 have z17 := b17.size
 clear b17
 have c_K1 := block_one (unhide K1)
 have c_VX1 := block_one (unhide VX1)
 go_wp2_with fail
 clear c_K1
 clear c_VX1
 refine (unhide MKG0 _ _ _ _ (by omega) (unhide Gr0)).mono ?_
 rintro e w18 ⟨rfl, MR_0, u18⟩
 clear Gr0
 replace bb := u18.below bb (by omega)
 replace K1 := hide (u18.kept (unhide K1) (by omega))
 replace BW := hide (u18.belowAt (unhide BW) (Nat.le_refl _) (by omega))
 replace VX1 := hide (u18.kept (unhide VX1) (by omega))
 have z18 := u18.size
 clear u18
 replace MR_0 := hide MR_0
 have c_K1 := block_one (unhide K1)
 have c_VX1 := block_one (unhide VX1)
 go_wp2_with fail
 clear c_K1
 clear c_VX1
 refine (unhide HDG0 _ _ (unhide MR_0).has).mono ?_
 rintro e wh ⟨rfl, rfl⟩
 have bd := below_drew (w := w18)
 have zdw18 : w18.drew.heap.size = w18.heap.size := rfl
 replace bb := below_next bb bd
 replace K1 := hide (block_kept bd (unhide K1))
 replace BW := hide ((unhide BW).trans (bd.mono (unhide BW).size))
 replace VX1 := hide (block_kept bd (unhide VX1))
 replace MR_0 := hide ((unhide MR_0).below bd)
 clear bd
 have c_K1 := block_one (unhide K1)
 have c_VX1 := block_one (unhide VX1)
 go_wp2_with fail
 clear c_K1
 clear c_VX1
 go_region_held3 (fun w' => (w'.cell? ⟨w.heap.size, 0, none⟩ = some (.slice a1 n1.length cap1)))
  (first | exact block_one (unhide K1) | exact block_one (block_kept q20 (unhide K1)) | exact block_one (block_kept q21 (unhide K1)) | exact block_one (block_kept q22 (unhide K1)))
  (first
  | (go_at_call_of 20 (Value.slice a0 q0.length cap0); refine (toRrS_own a0 cap0 q0 _ ((unhide L0).below bb) hl0 (unhide HS0)).mono ?_; rintro e w20 ⟨x20, rfl, o20, b20⟩; obtain ⟨xa20, xc20, rfl, _⟩ := o20.form; have q20 := b20)
  | (go_at_call_of 21 (Value.slice a1 n1.length cap1); refine (toName_any a1 cap1 n1 _ ((unhide L1).below (below_next bb q20)) hl1 (unhide HL1)).mono ?_; rintro e w21 ⟨x21, rfl, o21, b21⟩; obtain ⟨xa21, xc21, rfl, _⟩ := o21.hasL.form; have q21 := below_next q20 b21)
  | (go_at_call 8; refine (unhide IM _ _ (o20.below b21).has _ o21.hasL).mono ?_; rintro e w22 ⟨y22_0, rfl, o22_0, b22⟩; have q22 := below_next q21 b22))
 clear b20 o20 q20 b21 o21 q21 b22
 replace bb := below_next bb q22
 replace K1 := hide (block_kept q22 (unhide K1))
 replace BW := hide ((unhide BW).trans (q22.mono (unhide BW).size))
 replace VX1 := hide (block_kept q22 (unhide VX1))
 replace MR_0 := hide ((unhide MR_0).below q22)
 have z22 := q22.size
 clear q22
 obtain ⟨ya22_0, yc22_0, rfl, _⟩ := o22_0.form
 have Hr0 := hide o22_0
 clear o22_0
 have c_K1 := block_one (unhide K1)
 have c_VX1 := block_one (unhide VX1)
 go_wp2_with fail
 clear c_K1
 clear c_VX1
 refine (eqRrS_has (unhide Hr0).has ((unhide Wr0).below (unhide BW)) (unhide HSS0g)).mono ?_
 rintro e w23 ⟨rfl, b23⟩
 replace bb := below_next bb b23
 replace K1 := hide (block_kept b23 (unhide K1))
 replace BW := hide ((unhide BW).trans (b23.mono (unhide BW).size))
 replace VX1 := hide (block_kept b23 (unhide VX1))
 replace MR_0 := hide ((unhide MR_0).below b23)
 replace Hr0 := hide ((unhide Hr0).below b23)
 have z23 := b23.size
 clear b23
 have c_K1 := block_one (unhide K1)
 have c_VX1 := block_one (unhide VX1)
 go_wp2_with fail
 clear c_K1
 clear c_VX1
 refine (unhide HDG0 _ _ (unhide MR_0).has).mono ?_
 rintro e wh ⟨rfl, rfl⟩
 go_wp2_with fail
 go_ret
 exact ⟨rfl, bb⟩
end Go.Proofs.Ytjgfljndeolmoaa
